/-
  The runs of one function of a byte, gone through. Nothing here is trusted.
-/
import Derived.Test.YtofblakbfmjgkaaHTSgA
namespace Go.Proofs.Ytofblakbfmjgkaa
open Go Vx
theorem rSg12 : runsG Try.prog Try.f53 53 12 = valsG sgM 12 := by kernel_rfl
theorem rSg13 : runsG Try.prog Try.f53 53 13 = valsG sgM 13 := by kernel_rfl
theorem rSg14 : runsG Try.prog Try.f53 53 14 = valsG sgM 14 := by kernel_rfl
theorem rSg15 : runsG Try.prog Try.f53 53 15 = valsG sgM 15 := by kernel_rfl
end Go.Proofs.Ytofblakbfmjgkaa
