/-
  A list of small whole numbers as an argument. Nothing here is trusted.
-/
import Derived.Test.YtjhijkdicmbbiaaKai
import Derived.Test.YtjhijkdicmbbiaaHTRl2
namespace Go.Proofs.Ytjhijkdicmbbiaa.Vx
open Go Go.RowKit Go.ChangeShapes
theorem srows_col {W : World} {a : Addr} {xs : List (List Int)} (h : RowsAt W a 1 xs.length (kRow .i16 xs)) (hw : ∀ x ∈ xs, x.length = 1) : RowsAt W a 1 xs.length (sRow (iCol xs)) := by
  refine h.congr fun i hi => ?_
  have h1 := hw xs[i] (List.getElem_mem hi)
  unfold kRow sRow iCol
  rw [List.getElem?_eq_getElem hi]
  simp only [Option.getD_some]
  generalize xs[i] = x at h1
  match x, h1 with
  | [a], _ => rfl
/-- A list of such numbers, as one of those that are looked at. -/
def sLst (a : Addr) (xs : List (List Int)) : Lst := ⟨a, 1, xs.length, sRow (iCol xs)⟩
theorem sLst_arg {l : List Lst} {k : Nat} {a : Addr} {xs : List (List Int)} {cap : Nat} (hx : l[k]? = some (sLst a xs)) (hs : a.spot = none) (hc : xs.length ≤ cap) : R (lstRen l) (.slice (some ⟨k, 0, some 0⟩) xs.length 1) (.slice (some a) xs.length cap) := lst_arg (x := sLst a xs) hx hs hc
theorem slice_cap {P : Program} {W : World} {t e : TypeId} {b : Nat} {a : Addr} {n cap : Nat} (ht : P.underlying t = some (.slice e)) (hv : Value.okWide P W .any b t (.slice (some a) n cap)) : (cap : Int) ≤ 9223372036854775807 := by
  unfold Value.okWide at hv
  rw [ht] at hv
  simp only [Cell.okWide, ht, Cell.ok] at hv
  exact hv.2.1
end Go.Proofs.Ytjhijkdicmbbiaa.Vx
