/-
  facettop.times told; the runs of functions of a byte. Nothing here is trusted.
-/
import Derived.Test.YtneaibkfglfpaaaHSeM
namespace Go.Proofs.Ytneaibkfglfpaaa
open Go Vx
theorem prodW_w (m n : M3) : lM (prodW m n) = (m.mul n).w := by
  refine M3.ext' ⟨?_, ?_, ?_, ?_, ?_, ?_, ?_, ?_, ?_⟩ <;> exact dotR_W _ _ _ _ _ _
def tTm (m n : M3) : Option Value := some (lM (prodW m n)).v
theorem tTm_eq (m n : M3) : tTm m n = some (fTimesM m n) := by unfold tTm fTimesM; rw [prodW_w]
theorem eTm (a0 a1 a2 a3 a4 a5 a6 a7 a8 b0 b1 b2 b3 b4 b5 b6 b7 b8 : Int) : exFun ((Ccs Try.prog).at 122) 60 Try.f122 (pack [some 9, some 9] [a0, a1, a2, a3, a4, a5, a6, a7, a8, b0, b1, b2, b3, b4, b5, b6, b7, b8]) = tTm ⟨a0, a1, a2, a3, a4, a5, a6, a7, a8⟩ ⟨b0, b1, b2, b3, b4, b5, b6, b7, b8⟩ := by kernel_rfl
def FTm : List Int → Option Value
  | [a0, a1, a2, a3, a4, a5, a6, a7, a8, b0, b1, b2, b3, b4, b5, b6, b7, b8] => some (fTimesM ⟨a0, a1, a2, a3, a4, a5, a6, a7, a8⟩ ⟨b0, b1, b2, b3, b4, b5, b6, b7, b8⟩)
  | _ => none
def Cst (P : Program) : Cx := (Ccs P).add 122 [some 9, some 9] FTm
theorem okst : CxOk (Cst Try.prog) := Cx.add_ok okcs (n := 60) Try.func122 (by kernel_rfl) fun l v hl h => by
  match l, hl, h with
  | [a0, a1, a2, a3, a4, a5, a6, a7, a8, b0, b1, b2, b3, b4, b5, b6, b7, b8], _, hh => rw [eTm, tTm_eq]; exact hh
def runsX (P : Program) (fn : Func) (f : FuncId) (q : Nat) : List (Option Value) := (List.range 16).map fun r => exFun ((Cst P).at f) 60 fn [.int .u8 ((16 * q + r : Nat) : Int)]
theorem of_runsX {P : Program} {fn : Func} {f : FuncId} {T : Int → M3} (h : ∀ q, q < 16 → runsX P fn f q = valsA T q) {k : Int} (h0 : 0 ≤ k) (h1 : k < 256) : exFun ((Cst P).at f) 60 fn [.int .u8 k] = some (T k).v := by
  have := congrArg (fun l => l[(k.toNat % 16)]?) (h (k.toNat / 16) (by omega))
  have hr : k.toNat % 16 < 16 := Nat.mod_lt _ (by omega)
  have hk : ((16 * (k.toNat / 16) + k.toNat % 16 : Nat) : Int) = k := by omega
  simp only [runsX, valsA, List.getElem?_map, List.getElem?_range hr, Option.map_some, hk, Option.some.injEq] at this
  exact this
end Go.Proofs.Ytneaibkfglfpaaa
