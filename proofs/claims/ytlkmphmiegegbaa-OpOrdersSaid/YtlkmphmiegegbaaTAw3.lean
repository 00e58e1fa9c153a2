/-
  The functions that the statements of this seat call, one by one: called as told, whatever the world. Nothing here is trusted.
-/
import Derived.Test.YtlkmphmiegegbaaTCmp
namespace Go.Proofs.Ytlkmphmiegegbaa
open Go Vx

def Cw0 (P : Program) : Cx := CCk P
theorem okw0 : CxOk (Cw0 Try.prog) := okCk
/-- facetlaw03.awake -/
theorem ew1 : exFun ((Cw0 Try.prog).at 12) 200 Try.f12 (pack [] []) = tAwake := by kernel_rfl
def Fw_12 : List Int → Option Value
  | [] => some (fAwake)
  | _ => none
def Cw1 (P : Program) : Cx := (Cw0 P).add 12 [] Fw_12
theorem okw1 : CxOk (Cw1 Try.prog) := Cx.add_ok okw0 (n := 200) Try.func12 (by kernel_rfl) fun l v hl h => by
  match l, hl, h with
  | [], _, hh => rw [ew1, tAwake_eq]; exact hh

def CCw (P : Program) : Cx := Cw1 P
theorem okCw : CxOk (CCw Try.prog) := okw1

end Go.Proofs.Ytlkmphmiegegbaa
