/-
  The document's steps come to those of the metric. Nothing here is trusted.
-/
import Derived.Test.YtofblakbfmjgkaaHStpT
namespace Go.Proofs.Ytofblakbfmjgkaa.Vx
open Go
theorem cons_W {a b : Int} {l m : List Int} (h : a = b) (k : l = m) : W a :: l = W b :: m := by rw [h, k]
theorem ents_eq0 (m : G6) : ents (laidL m) 1 2 = (laidL (m.turn stp0)).map W := by
  unfold ents
  simp only [ent_Z]
  unfold laidL
  simp only [List.map_cons, List.map_nil]
  iterate 16 refine cons_W (by simp [entZ, T4, List.range, List.range.loop, nth, G6.dot, G6.turn, M3.c1, M3.c2, M3.c3, stp0, e1v, e2v, e3v, e4v] <;> omega) ?_
  rfl
theorem ents_eq1 (m : G6) : ents (laidL m) 0 2 = (laidL (m.turn stp1)).map W := by
  unfold ents
  simp only [ent_Z]
  unfold laidL
  simp only [List.map_cons, List.map_nil]
  iterate 16 refine cons_W (by simp [entZ, T4, List.range, List.range.loop, nth, G6.dot, G6.turn, M3.c1, M3.c2, M3.c3, stp1, e1v, e2v, e3v, e4v] <;> omega) ?_
  rfl
theorem ents_eq2 (m : G6) : ents (laidL m) 0 1 = (laidL (m.turn stp2)).map W := by
  unfold ents
  simp only [ent_Z]
  unfold laidL
  simp only [List.map_cons, List.map_nil]
  iterate 16 refine cons_W (by simp [entZ, T4, List.range, List.range.loop, nth, G6.dot, G6.turn, M3.c1, M3.c2, M3.c3, stp2, e1v, e2v, e3v, e4v] <;> omega) ?_
  rfl
theorem ents_eq3 (m : G6) : ents (laidL m) 0 3 = (laidL (m.turn stp3)).map W := by
  unfold ents
  simp only [ent_Z]
  unfold laidL
  simp only [List.map_cons, List.map_nil]
  iterate 16 refine cons_W (by simp [entZ, T4, List.range, List.range.loop, nth, G6.dot, G6.turn, M3.c1, M3.c2, M3.c3, stp3, e1v, e2v, e3v, e4v] <;> omega) ?_
  rfl
theorem ents_eq4 (m : G6) : ents (laidL m) 1 3 = (laidL (m.turn stp4)).map W := by
  unfold ents
  simp only [ent_Z]
  unfold laidL
  simp only [List.map_cons, List.map_nil]
  iterate 16 refine cons_W (by simp [entZ, T4, List.range, List.range.loop, nth, G6.dot, G6.turn, M3.c1, M3.c2, M3.c3, stp4, e1v, e2v, e3v, e4v] <;> omega) ?_
  rfl
theorem ents_eq5 (m : G6) : ents (laidL m) 2 3 = (laidL (m.turn stp5)).map W := by
  unfold ents
  simp only [ent_Z]
  unfold laidL
  simp only [List.map_cons, List.map_nil]
  iterate 16 refine cons_W (by simp [entZ, T4, List.range, List.range.loop, nth, G6.dot, G6.turn, M3.c1, M3.c2, M3.c3, stp5, e1v, e2v, e3v, e4v] <;> omega) ?_
  rfl
end Go.Proofs.Ytofblakbfmjgkaa.Vx
