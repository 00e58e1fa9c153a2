/-
  The runs of one function of a byte, gone through. Nothing here is trusted.
-/
import Derived.Test.YtofblakbfmjgkaaHTSgA
namespace Go.Proofs.Ytofblakbfmjgkaa
open Go Vx
theorem rSg0 : runsG Try.prog Try.f53 53 0 = valsG sgM 0 := by kernel_rfl
theorem rSg1 : runsG Try.prog Try.f53 53 1 = valsG sgM 1 := by kernel_rfl
theorem rSg2 : runsG Try.prog Try.f53 53 2 = valsG sgM 2 := by kernel_rfl
theorem rSg3 : runsG Try.prog Try.f53 53 3 = valsG sgM 3 := by kernel_rfl
end Go.Proofs.Ytofblakbfmjgkaa
