/-
  A list of pairs of bits as an argument. Nothing here is trusted.
-/
import Derived.Test.YtokdjjdmmahbiaaRowF
import Derived.Test.YtokdjjdmmahbiaaOpenG
namespace Go.Proofs.Ytokdjjdmmahbiaa.Vx
open Go Go.RowKit
/-- Rows of two numbers as pairs. -/
def prs (xs : List (List Int)) : List (Nat × Nat) := xs.map fun x => match x with
  | [a, b] => (a.toNat, b.toNat)
  | _ => (0, 0)
theorem prs_len (xs : List (List Int)) : (prs xs).length = xs.length := by simp [prs]
theorem rows_prs {W : World} {a : Addr} {xs : List (List Int)} (h : RowsAt W a 2 xs.length (kRow .u64 xs)) (hw : ∀ x ∈ xs, x.length = 2 ∧ ∀ y ∈ x, (Lit.int .u64 y).wf = true) : RowsAt W a 2 (prs xs).length (u2Row (prs xs)) := by
  rw [prs_len]
  refine h.congr fun i hi => ?_
  obtain ⟨h1, h2⟩ := hw xs[i] (List.getElem_mem hi)
  unfold kRow u2Row atU prs
  rw [List.getElem?_map, List.getElem?_eq_getElem hi]
  simp only [Option.getD_some, Option.map_some]
  generalize xs[i] = x at h1 h2
  match x, h1 with
  | [a, b], _ =>
    have w0 : ∀ y : Int, (Lit.int .u64 y).wf = true → 0 ≤ y := fun y hy => by
      have : IntKind.u64.min ≤ y ∧ y ≤ IntKind.u64.max := by simpa [Lit.wf] using hy
      exact this.1
    have ha := w0 a (h2 a (by simp))
    have hb := w0 b (h2 b (by simp))
    simp only [intsK, List.map_cons, List.map_nil, Int.toNat_of_nonneg ha, Int.toNat_of_nonneg hb]
theorem lst_one {W : World} {x : Lst} (h : RowsAt W x.a x.e x.n x.row) : ∀ y ∈ [x], RowsAt W y.a y.e y.n y.row := fun y hy => by
  simp only [List.mem_singleton] at hy
  subst hy
  exact h
theorem lst_prs {a : Addr} {xs : List (List Int)} {cap : Nat} {row : Nat → List Value} (hs : a.spot = none) (hc : xs.length ≤ cap) : R (lstRen [⟨a, 2, (prs xs).length, row⟩]) (.slice (some ⟨0, 0, some 0⟩) (prs xs).length 2) (.slice (some a) xs.length cap) := by
  have := lst_arg (l := [⟨a, 2, (prs xs).length, row⟩]) (k := 0) (x := ⟨a, 2, (prs xs).length, row⟩) (cap := cap) rfl hs (by rw [prs_len]; exact hc)
  simp only [prs_len] at this ⊢
  exact this
end Go.Proofs.Ytokdjjdmmahbiaa.Vx
