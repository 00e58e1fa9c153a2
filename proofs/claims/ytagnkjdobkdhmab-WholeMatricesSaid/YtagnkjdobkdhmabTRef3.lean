/-
  The functions that the statements of this seat call, one by one: called as told, whatever the world. Nothing here is trusted.
-/
import Derived.Test.YtagnkjdobkdhmabTOp
import Derived.Test.YtagnkjdobkdhmabRef3T
namespace Go.Proofs.Ytagnkjdobkdhmab
open Go Vx

def Cr0 (P : Program) : Cx := CCo P
theorem okr0 : CxOk (Cr0 Try.prog) := okCo

def CCr (P : Program) : Cx := Cr0 P
theorem okCr : CxOk (CCr Try.prog) := okr0

end Go.Proofs.Ytagnkjdobkdhmab
