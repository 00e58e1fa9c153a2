/-
  op.Power with its loop told. Nothing here is trusted.
-/
import Derived.Test.YtagnkjdobkdhmabLPow
namespace Go.Proofs.Ytagnkjdobkdhmab
open Go Vx
def powS (st : St) : Option (Ans (Exit × St)) := match powAS st with
  | some a => some a
  | none => powBS st
def Cq (P : Program) : Cx := (CCr P).addL 18 13 powS
theorem okq : CxOk (Cq Try.prog) := Cx.addL_ok okCr powAX_eq fun st ans e s h hr => by
  unfold powS at h
  split at h
  · rename_i hA
    simp only [Option.some.injEq] at h
    subst h
    exact powAK hA hr
  · exact powBK h hr
end Go.Proofs.Ytagnkjdobkdhmab
