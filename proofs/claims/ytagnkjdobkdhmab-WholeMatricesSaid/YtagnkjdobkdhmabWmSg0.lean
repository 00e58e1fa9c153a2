/-
  The runs of one function of a byte, gone through. Nothing here is trusted.
-/
import Derived.Test.YtagnkjdobkdhmabWmM
namespace Go.Proofs.Ytagnkjdobkdhmab
open Go Vx
theorem rSg0 : runsA Try.prog Try.f34 34 0 = valsA sgM 0 := by kernel_rfl
theorem rSg1 : runsA Try.prog Try.f34 34 1 = valsA sgM 1 := by kernel_rfl
theorem rSg2 : runsA Try.prog Try.f34 34 2 = valsA sgM 2 := by kernel_rfl
theorem rSg3 : runsA Try.prog Try.f34 34 3 = valsA sgM 3 := by kernel_rfl
end Go.Proofs.Ytagnkjdobkdhmab
