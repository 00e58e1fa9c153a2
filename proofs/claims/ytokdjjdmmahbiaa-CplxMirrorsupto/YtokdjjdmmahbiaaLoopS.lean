/-
  Reading a state: addresses, numbers, maps. Nothing here is trusted.
-/
import Derived.Test.YtokdjjdmmahbiaaVyL
import Derived.Test.YtokdjjdmmahbiaaTyp
namespace Go.Proofs.Ytokdjjdmmahbiaa.Vx
open Go

def ptrIs (v : Option Value) (b : Nat) : Bool := match v with
  | some (.pointer (some ⟨c, 0, none⟩)) => Nat.beq c b
  | _ => false
theorem ptrIs_spec {v : Option Value} {b : Nat} (h : ptrIs v b = true) : v = some (.pointer (some ⟨b, 0, none⟩)) := by
  unfold ptrIs at h
  split at h
  · rw [Nat.eq_of_beq_eq_true h]
  · cases h
def intAt (v : Option Value) : Option Int := match v with
  | some (.int .i64 n) => some n
  | _ => none
theorem intAt_spec {v : Option Value} {n : Int} (h : intAt v = some n) : v = some (.int .i64 n) := by
  unfold intAt at h
  split at h
  · simp only [Option.some.injEq] at h; rw [h]
  · cases h
def aggAt (v : Option Value) : List Value := match v with
  | some (.agg cs) => cs.toList
  | _ => []
theorem aggAt_spec {v : Option Value} {l : List Value} (h : aggAt v = l) (hl : l ≠ []) : v = some (.agg l.toArray) := by
  unfold aggAt at h
  split at h
  · rename_i cs; rw [← h]
  · exact absurd h.symm hl
def O3.cells (o : O3) : List Value := [.int .i64 o.r.a, .int .i64 o.r.b, .int .i64 o.r.c, .int .i64 o.r.d, .int .i64 o.r.e, .int .i64 o.r.f, .int .i64 o.r.g, .int .i64 o.r.h, .int .i64 o.r.i, .int .i64 o.t.x, .int .i64 o.t.y, .int .i64 o.t.z]
def V3.cells (o : V3) : List Value := [.int .i64 o.x, .int .i64 o.y, .int .i64 o.z]
def M3.cells (m : M3) : List Value := [.int .i64 m.a, .int .i64 m.b, .int .i64 m.c, .int .i64 m.d, .int .i64 m.e, .int .i64 m.f, .int .i64 m.g, .int .i64 m.h, .int .i64 m.i]
def i64s : List Value → Option (List Int)
  | [] => some []
  | .int .i64 n :: l => match i64s l with
    | some r => some (n :: r)
    | none => none
  | _ => none
theorem i64s_spec : ∀ {l : List Value} {r : List Int}, i64s l = some r → l = r.map (.int .i64)
  | [], r, h => by simp [i64s] at h; subst h; rfl
  | v :: l, r, h => by
    unfold i64s at h
    split at h
    · rename_i heq; cases heq
    · rename_i n l' heq
      simp only [List.cons.injEq] at heq
      obtain ⟨rfl, rfl⟩ := heq
      split at h
      · rename_i q hq
        simp only [Option.some.injEq] at h
        subst h
        rw [List.map_cons, ← i64s_spec hq]
      · cases h
    · cases h
def opCells (l : List Value) : Option O3 := match i64s l with
  | some [a, b, c, d, e, f, g, h, i, x, y, z] => some ⟨⟨a, b, c, d, e, f, g, h, i⟩, ⟨x, y, z⟩⟩
  | _ => none
theorem opCells_spec {l : List Value} {o : O3} (h : opCells l = some o) : l = o.cells := by
  unfold opCells at h
  split at h
  · rename_i hq
    simp only [Option.some.injEq] at h
    subst h
    rw [i64s_spec hq]; rfl
  · cases h
def vecCells (l : List Value) : Option V3 := match i64s l with
  | some [x, y, z] => some ⟨x, y, z⟩
  | _ => none
theorem vecCells_spec {l : List Value} {o : V3} (h : vecCells l = some o) : l = o.cells := by
  unfold vecCells at h
  split at h
  · rename_i hq
    simp only [Option.some.injEq] at h
    subst h
    rw [i64s_spec hq]; rfl
  · cases h
def matCells (l : List Value) : Option M3 := match i64s l with
  | some [a, b, c, d, e, f, g, h, i] => some ⟨a, b, c, d, e, f, g, h, i⟩
  | _ => none
theorem matCells_spec {l : List Value} {o : M3} (h : matCells l = some o) : l = o.cells := by
  unfold matCells at h
  split at h
  · rename_i hq
    simp only [Option.some.injEq] at h
    subst h
    rw [i64s_spec hq]; rfl
  · cases h
def ownCells : Option Blk → List Value
  | some (.cells true 0 c) => c
  | _ => []
theorem ownCells_spec {k : Option Blk} {c : List Value} (h : ownCells k = c) (hc : c ≠ []) : k = some (.cells true 0 c) := by
  unfold ownCells at h
  split at h
  · rw [h]
  · exact absurd h.symm hc
theorem mem_of {m : Mem} : ∀ {l : List Blk}, m.length = l.length → (∀ i, i < l.length → m[i]? = l[i]?) → m = l := by
  intro l hl h
  apply List.ext_getElem?
  intro i
  by_cases hi : i < l.length
  · exact h i hi
  · rw [List.getElem?_eq_none (by omega), List.getElem?_eq_none (by omega)]
end Go.Proofs.Ytokdjjdmmahbiaa.Vx
