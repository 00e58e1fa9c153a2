/-
  The functions that the statements of this seat call, one by one: called as told, whatever the world. Nothing here is trusted.
-/
import Derived.Test.YtofblakbfmjgkaaHTFr2
namespace Go.Proofs.Ytofblakbfmjgkaa
open Go Vx

def Cfc0 (P : Program) : Cx := CCfb P
theorem okfc0 : CxOk (Cfc0 Try.prog) := okCfb
/-- cell.Far -/
theorem efc1 (a0 a1 a2 a3 a4 a5 b0 b1 b2 b3 c0 c1 c2 c3 : Int) : exFun ((Cfc0 Try.prog).at 28) 120 Try.f28 (pack [some 6, some 4, some 4] [a0, a1, a2, a3, a4, a5, b0, b1, b2, b3, c0, c1, c2, c3]) = tFar ⟨a0, a1, a2, a3, a4, a5⟩ ⟨b0, ⟨b1, b2, b3⟩⟩ ⟨c0, ⟨c1, c2, c3⟩⟩ := by kernel_rfl
def Ffc_28 : List Int → Option Value
  | [a0, a1, a2, a3, a4, a5, b0, b1, b2, b3, c0, c1, c2, c3] => some (fFar ⟨a0, a1, a2, a3, a4, a5⟩ ⟨b0, ⟨b1, b2, b3⟩⟩ ⟨c0, ⟨c1, c2, c3⟩⟩)
  | _ => none
def Cfc1 (P : Program) : Cx := (Cfc0 P).add 28 [some 6, some 4, some 4] Ffc_28
theorem okfc1 : CxOk (Cfc1 Try.prog) := Cx.add_ok okfc0 (n := 120) Try.func28 (by kernel_rfl) fun l v hl h => by
  match l, hl, h with
  | [a0, a1, a2, a3, a4, a5, b0, b1, b2, b3, c0, c1, c2, c3], _, hh => rw [efc1, tFar_eq]; exact hh

def CCfc (P : Program) : Cx := Cfc1 P
theorem okCfc : CxOk (CCfc Try.prog) := okfc1

end Go.Proofs.Ytofblakbfmjgkaa
