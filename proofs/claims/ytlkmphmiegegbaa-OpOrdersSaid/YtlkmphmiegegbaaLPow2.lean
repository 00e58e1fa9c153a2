/-
  op.Power with its loop told. Nothing here is trusted.
-/
import Derived.Test.YtlkmphmiegegbaaLPow
namespace Go.Proofs.Ytlkmphmiegegbaa
open Go Vx
def powS (st : St) : Option (Ans (Exit × St)) := match powAS st with
  | some a => some a
  | none => powBS st
def Cq (P : Program) : Cx := (CCr P).addLB 23 13 0 powS
theorem okq : CxOk (Cq Try.prog) := Cx.addLB_ok okCr powAX_eq fun st ans e s h hr => by
  unfold powS at h
  split at h
  · rename_i hA
    simp only [Option.some.injEq] at h
    subst h
    exact powAK hA hr
  · exact powBK h hr
end Go.Proofs.Ytlkmphmiegegbaa
