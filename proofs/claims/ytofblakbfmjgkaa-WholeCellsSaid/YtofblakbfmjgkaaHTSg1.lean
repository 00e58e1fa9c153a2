/-
  The runs of one function of a byte, gone through. Nothing here is trusted.
-/
import Derived.Test.YtofblakbfmjgkaaHTSgA
namespace Go.Proofs.Ytofblakbfmjgkaa
open Go Vx
theorem rSg4 : runsG Try.prog Try.f53 53 4 = valsG sgM 4 := by kernel_rfl
theorem rSg5 : runsG Try.prog Try.f53 53 5 = valsG sgM 5 := by kernel_rfl
theorem rSg6 : runsG Try.prog Try.f53 53 6 = valsG sgM 6 := by kernel_rfl
theorem rSg7 : runsG Try.prog Try.f53 53 7 = valsG sgM 7 := by kernel_rfl
end Go.Proofs.Ytofblakbfmjgkaa
