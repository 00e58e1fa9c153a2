/-
  The runs of one function of a byte, gone through. Nothing here is trusted.
-/
import Derived.Test.YtagnkjdobkdhmabWmM
namespace Go.Proofs.Ytagnkjdobkdhmab
open Go Vx
theorem rSg4 : runsA Try.prog Try.f34 34 4 = valsA sgM 4 := by kernel_rfl
theorem rSg5 : runsA Try.prog Try.f34 34 5 = valsA sgM 5 := by kernel_rfl
theorem rSg6 : runsA Try.prog Try.f34 34 6 = valsA sgM 6 := by kernel_rfl
theorem rSg7 : runsA Try.prog Try.f34 34 7 = valsA sgM 7 := by kernel_rfl
end Go.Proofs.Ytagnkjdobkdhmab
