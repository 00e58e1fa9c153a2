/-
  facettop.signs told; the runs of functions of a byte. Nothing here is trusted.
-/
import Derived.Test.YtofblakbfmjgkaaKai
import Derived.Test.YtofblakbfmjgkaaHSgM
namespace Go.Proofs.Ytofblakbfmjgkaa
open Go Vx
def runsG (P : Program) (fn : Func) (f : FuncId) (q : Nat) : List (Option Value) := (List.range 16).map fun r => exFun ((CCf P).at f) 60 fn [.int .u8 ((16 * q + r : Nat) : Int)]
def valsG (T : Int → M3) (q : Nat) : List (Option Value) := (List.range 16).map fun r => some (T ((16 * q + r : Nat) : Int)).v
theorem of_runsG {P : Program} {fn : Func} {f : FuncId} {T : Int → M3} (h : ∀ q, q < 16 → runsG P fn f q = valsG T q) {k : Int} (h0 : 0 ≤ k) (h1 : k < 256) : exFun ((CCf P).at f) 60 fn [.int .u8 k] = some (T k).v := by
  have := congrArg (fun l => l[(k.toNat % 16)]?) (h (k.toNat / 16) (by omega))
  have hr : k.toNat % 16 < 16 := Nat.mod_lt _ (by omega)
  have hk : ((16 * (k.toNat / 16) + k.toNat % 16 : Nat) : Int) = k := by omega
  simp only [runsG, valsG, List.getElem?_map, List.getElem?_range hr, Option.map_some, hk, Option.some.injEq] at this
  exact this
end Go.Proofs.Ytofblakbfmjgkaa
