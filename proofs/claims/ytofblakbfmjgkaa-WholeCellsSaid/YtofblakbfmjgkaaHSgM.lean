/-
  The signed permutations that the whole statements draw. No program in sight. Nothing here is trusted.
-/
import Derived.Test.YtofblakbfmjgkaaKag
namespace Go.Proofs.Ytofblakbfmjgkaa.Vx
open Go
def sgT : List M3 := [⟨1, 0, 0, 0, 1, 0, 0, 0, 1⟩, ⟨-1, 0, 0, 0, 1, 0, 0, 0, 1⟩, ⟨1, 0, 0, 0, -1, 0, 0, 0, 1⟩, ⟨-1, 0, 0, 0, -1, 0, 0, 0, 1⟩, ⟨1, 0, 0, 0, 1, 0, 0, 0, -1⟩, ⟨-1, 0, 0, 0, 1, 0, 0, 0, -1⟩, ⟨1, 0, 0, 0, -1, 0, 0, 0, -1⟩, ⟨-1, 0, 0, 0, -1, 0, 0, 0, -1⟩, ⟨1, 0, 0, 0, 0, 1, 0, 1, 0⟩, ⟨-1, 0, 0, 0, 0, 1, 0, 1, 0⟩, ⟨1, 0, 0, 0, 0, -1, 0, 1, 0⟩, ⟨-1, 0, 0, 0, 0, -1, 0, 1, 0⟩, ⟨1, 0, 0, 0, 0, 1, 0, -1, 0⟩, ⟨-1, 0, 0, 0, 0, 1, 0, -1, 0⟩, ⟨1, 0, 0, 0, 0, -1, 0, -1, 0⟩, ⟨-1, 0, 0, 0, 0, -1, 0, -1, 0⟩, ⟨0, 1, 0, 1, 0, 0, 0, 0, 1⟩, ⟨0, -1, 0, 1, 0, 0, 0, 0, 1⟩, ⟨0, 1, 0, -1, 0, 0, 0, 0, 1⟩, ⟨0, -1, 0, -1, 0, 0, 0, 0, 1⟩, ⟨0, 1, 0, 1, 0, 0, 0, 0, -1⟩, ⟨0, -1, 0, 1, 0, 0, 0, 0, -1⟩, ⟨0, 1, 0, -1, 0, 0, 0, 0, -1⟩, ⟨0, -1, 0, -1, 0, 0, 0, 0, -1⟩, ⟨0, 1, 0, 0, 0, 1, 1, 0, 0⟩, ⟨0, -1, 0, 0, 0, 1, 1, 0, 0⟩, ⟨0, 1, 0, 0, 0, -1, 1, 0, 0⟩, ⟨0, -1, 0, 0, 0, -1, 1, 0, 0⟩, ⟨0, 1, 0, 0, 0, 1, -1, 0, 0⟩, ⟨0, -1, 0, 0, 0, 1, -1, 0, 0⟩, ⟨0, 1, 0, 0, 0, -1, -1, 0, 0⟩, ⟨0, -1, 0, 0, 0, -1, -1, 0, 0⟩, ⟨0, 0, 1, 1, 0, 0, 0, 1, 0⟩, ⟨0, 0, -1, 1, 0, 0, 0, 1, 0⟩, ⟨0, 0, 1, -1, 0, 0, 0, 1, 0⟩, ⟨0, 0, -1, -1, 0, 0, 0, 1, 0⟩, ⟨0, 0, 1, 1, 0, 0, 0, -1, 0⟩, ⟨0, 0, -1, 1, 0, 0, 0, -1, 0⟩, ⟨0, 0, 1, -1, 0, 0, 0, -1, 0⟩, ⟨0, 0, -1, -1, 0, 0, 0, -1, 0⟩, ⟨0, 0, 1, 0, 1, 0, 1, 0, 0⟩, ⟨0, 0, -1, 0, 1, 0, 1, 0, 0⟩, ⟨0, 0, 1, 0, -1, 0, 1, 0, 0⟩, ⟨0, 0, -1, 0, -1, 0, 1, 0, 0⟩, ⟨0, 0, 1, 0, 1, 0, -1, 0, 0⟩, ⟨0, 0, -1, 0, 1, 0, -1, 0, 0⟩, ⟨0, 0, 1, 0, -1, 0, -1, 0, 0⟩, ⟨0, 0, -1, 0, -1, 0, -1, 0, 0⟩]
def sgM (k : Int) : M3 := sgT.getD (k.toNat % 48) M3.one
def uOk (g : M3) : Bool := g.ok && (g.det == 1 || g.det == -1)
theorem sgT_u : sgT.all uOk = true := by decide +kernel
theorem getD_all {l : List M3} {p : M3 → Bool} (h : l.all p = true) {d : M3} (hd : p d = true) (j : Nat) : p (l.getD j d) = true := by
  rw [List.getD_eq_getElem?_getD]
  cases hj : l[j]? with
  | none => exact hd
  | some x => exact (List.all_eq_true.1 h) x (List.mem_of_getElem? hj)
def shr3 : M3 := ⟨1, 0, 0, 2, 1, 0, 0, -1, 1⟩
/-- What is asked of the changes: small, and so are what undoes them. -/
def cOk (g : M3) : Bool := (g.mul shr3).ok && (((g.mul shr3).det == 1 || (g.mul shr3).det == -1) && inB 4 (g.mul shr3).l && inB 4 (g.mul shr3).inv.l)
theorem sgT_c : sgT.all cOk = true := by decide +kernel
theorem sgM_c (k : Int) : cOk (sgM k) = true := getD_all sgT_c (by decide +kernel) _
end Go.Proofs.Ytofblakbfmjgkaa.Vx
