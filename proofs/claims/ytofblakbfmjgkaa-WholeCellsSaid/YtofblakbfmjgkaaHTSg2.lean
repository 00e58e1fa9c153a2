/-
  The runs of one function of a byte, gone through. Nothing here is trusted.
-/
import Derived.Test.YtofblakbfmjgkaaHTSgA
namespace Go.Proofs.Ytofblakbfmjgkaa
open Go Vx
theorem rSg8 : runsG Try.prog Try.f53 53 8 = valsG sgM 8 := by kernel_rfl
theorem rSg9 : runsG Try.prog Try.f53 53 9 = valsG sgM 9 := by kernel_rfl
theorem rSg10 : runsG Try.prog Try.f53 53 10 = valsG sgM 10 := by kernel_rfl
theorem rSg11 : runsG Try.prog Try.f53 53 11 = valsG sgM 11 := by kernel_rfl
end Go.Proofs.Ytofblakbfmjgkaa
