/-
  The matrices that the whole statements draw. Nothing here is trusted.
-/
import Derived.Test.YtggdbakgiknogaaMai
namespace Go.Proofs.Ytggdbakgiknogaa.Vx
open Go
def sgT : List M3 := [⟨1, 0, 0, 0, 1, 0, 0, 0, 1⟩, ⟨-1, 0, 0, 0, 1, 0, 0, 0, 1⟩, ⟨1, 0, 0, 0, -1, 0, 0, 0, 1⟩, ⟨-1, 0, 0, 0, -1, 0, 0, 0, 1⟩, ⟨1, 0, 0, 0, 1, 0, 0, 0, -1⟩, ⟨-1, 0, 0, 0, 1, 0, 0, 0, -1⟩, ⟨1, 0, 0, 0, -1, 0, 0, 0, -1⟩, ⟨-1, 0, 0, 0, -1, 0, 0, 0, -1⟩, ⟨1, 0, 0, 0, 0, 1, 0, 1, 0⟩, ⟨-1, 0, 0, 0, 0, 1, 0, 1, 0⟩, ⟨1, 0, 0, 0, 0, -1, 0, 1, 0⟩, ⟨-1, 0, 0, 0, 0, -1, 0, 1, 0⟩, ⟨1, 0, 0, 0, 0, 1, 0, -1, 0⟩, ⟨-1, 0, 0, 0, 0, 1, 0, -1, 0⟩, ⟨1, 0, 0, 0, 0, -1, 0, -1, 0⟩, ⟨-1, 0, 0, 0, 0, -1, 0, -1, 0⟩, ⟨0, 1, 0, 1, 0, 0, 0, 0, 1⟩, ⟨0, -1, 0, 1, 0, 0, 0, 0, 1⟩, ⟨0, 1, 0, -1, 0, 0, 0, 0, 1⟩, ⟨0, -1, 0, -1, 0, 0, 0, 0, 1⟩, ⟨0, 1, 0, 1, 0, 0, 0, 0, -1⟩, ⟨0, -1, 0, 1, 0, 0, 0, 0, -1⟩, ⟨0, 1, 0, -1, 0, 0, 0, 0, -1⟩, ⟨0, -1, 0, -1, 0, 0, 0, 0, -1⟩, ⟨0, 1, 0, 0, 0, 1, 1, 0, 0⟩, ⟨0, -1, 0, 0, 0, 1, 1, 0, 0⟩, ⟨0, 1, 0, 0, 0, -1, 1, 0, 0⟩, ⟨0, -1, 0, 0, 0, -1, 1, 0, 0⟩, ⟨0, 1, 0, 0, 0, 1, -1, 0, 0⟩, ⟨0, -1, 0, 0, 0, 1, -1, 0, 0⟩, ⟨0, 1, 0, 0, 0, -1, -1, 0, 0⟩, ⟨0, -1, 0, 0, 0, -1, -1, 0, 0⟩, ⟨0, 0, 1, 1, 0, 0, 0, 1, 0⟩, ⟨0, 0, -1, 1, 0, 0, 0, 1, 0⟩, ⟨0, 0, 1, -1, 0, 0, 0, 1, 0⟩, ⟨0, 0, -1, -1, 0, 0, 0, 1, 0⟩, ⟨0, 0, 1, 1, 0, 0, 0, -1, 0⟩, ⟨0, 0, -1, 1, 0, 0, 0, -1, 0⟩, ⟨0, 0, 1, -1, 0, 0, 0, -1, 0⟩, ⟨0, 0, -1, -1, 0, 0, 0, -1, 0⟩, ⟨0, 0, 1, 0, 1, 0, 1, 0, 0⟩, ⟨0, 0, -1, 0, 1, 0, 1, 0, 0⟩, ⟨0, 0, 1, 0, -1, 0, 1, 0, 0⟩, ⟨0, 0, -1, 0, -1, 0, 1, 0, 0⟩, ⟨0, 0, 1, 0, 1, 0, -1, 0, 0⟩, ⟨0, 0, -1, 0, 1, 0, -1, 0, 0⟩, ⟨0, 0, 1, 0, -1, 0, -1, 0, 0⟩, ⟨0, 0, -1, 0, -1, 0, -1, 0, 0⟩]
def sxT : List M3 := [⟨1, 0, 0, 0, 1, 0, 0, 0, 1⟩, ⟨1, -1, 0, 1, 0, 0, 0, 0, 1⟩, ⟨0, -1, 0, 1, -1, 0, 0, 0, 1⟩, ⟨-1, 0, 0, 0, -1, 0, 0, 0, 1⟩, ⟨-1, 1, 0, -1, 0, 0, 0, 0, 1⟩, ⟨0, 1, 0, -1, 1, 0, 0, 0, 1⟩, ⟨0, 1, 0, 1, 0, 0, 0, 0, -1⟩, ⟨-1, 1, 0, 0, 1, 0, 0, 0, -1⟩, ⟨-1, 0, 0, -1, 1, 0, 0, 0, -1⟩, ⟨0, -1, 0, -1, 0, 0, 0, 0, -1⟩, ⟨1, -1, 0, 0, -1, 0, 0, 0, -1⟩, ⟨1, 0, 0, 1, -1, 0, 0, 0, -1⟩, ⟨-1, 0, 0, 0, -1, 0, 0, 0, -1⟩, ⟨-1, 1, 0, -1, 0, 0, 0, 0, -1⟩, ⟨0, 1, 0, -1, 1, 0, 0, 0, -1⟩, ⟨1, 0, 0, 0, 1, 0, 0, 0, -1⟩, ⟨1, -1, 0, 1, 0, 0, 0, 0, -1⟩, ⟨0, -1, 0, 1, -1, 0, 0, 0, -1⟩, ⟨0, -1, 0, -1, 0, 0, 0, 0, 1⟩, ⟨1, -1, 0, 0, -1, 0, 0, 0, 1⟩, ⟨1, 0, 0, 1, -1, 0, 0, 0, 1⟩, ⟨0, 1, 0, 1, 0, 0, 0, 0, 1⟩, ⟨-1, 1, 0, 0, 1, 0, 0, 0, 1⟩, ⟨-1, 0, 0, -1, 1, 0, 0, 0, 1⟩]
def sgM (k : Int) : M3 := sgT.getD (k.toNat % 48) M3.one
def sxM (k : Int) : M3 := sxT.getD (k.toNat % 24) M3.one
def gOk (g : M3) : Bool := g.form == 0 && (!(g.ordI == 0) && ((g.pow 1).ok && ((g.pow 2).ok && ((g.pow 3).ok && ((g.pow 4).ok && ((g.pow 5).ok && (g.pow 6).ok))))))
theorem sgT_ok : sgT.all gOk = true := by decide +kernel
theorem sxT_ok : sxT.all gOk = true := by decide +kernel
theorem all_getD {l : List M3} {p : M3 → Bool} (h : l.all p = true) {d : M3} (hd : p d = true) (j : Nat) : p (l.getD j d) = true := by
  rw [List.getD_eq_getElem?_getD]
  cases hj : l[j]? with
  | none => exact hd
  | some x => exact (List.all_eq_true.1 h) x (List.mem_of_getElem? hj)
theorem gOk_one : gOk M3.one = true := by decide +kernel
theorem sgM_ok (k : Int) : gOk (sgM k) = true := all_getD sgT_ok gOk_one _
theorem sxM_ok (k : Int) : gOk (sxM k) = true := all_getD sxT_ok gOk_one _
end Go.Proofs.Ytggdbakgiknogaa.Vx
namespace Go.Proofs.Ytggdbakgiknogaa
open Go Vx
def runsA (P : Program) (fn : Func) (f : FuncId) (q : Nat) : List (Option Value) := (List.range 16).map fun r => exFun ((Ccs P).at f) 60 fn [.int .u8 ((16 * q + r : Nat) : Int)]
def valsA (T : Int → M3) (q : Nat) : List (Option Value) := (List.range 16).map fun r => some (T ((16 * q + r : Nat) : Int)).v
def byteB (k : Int) : Bool := decide (0 ≤ k) && decide (k < 256)
theorem of_runs {P : Program} {fn : Func} {f : FuncId} {T : Int → M3} (h : ∀ q, q < 16 → runsA P fn f q = valsA T q) {k : Int} (h0 : 0 ≤ k) (h1 : k < 256) : exFun ((Ccs P).at f) 60 fn [.int .u8 k] = some (T k).v := by
  have := congrArg (fun l => l[(k.toNat % 16)]?) (h (k.toNat / 16) (by omega))
  have hr : k.toNat % 16 < 16 := Nat.mod_lt _ (by omega)
  have hk : ((16 * (k.toNat / 16) + k.toNat % 16 : Nat) : Int) = k := by omega
  simp only [runsA, valsA, List.getElem?_map, List.getElem?_range hr, Option.map_some, hk, Option.some.injEq] at this
  exact this
end Go.Proofs.Ytggdbakgiknogaa
