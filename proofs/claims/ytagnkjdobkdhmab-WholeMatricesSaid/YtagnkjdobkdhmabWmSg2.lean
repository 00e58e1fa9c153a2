/-
  The runs of one function of a byte, gone through. Nothing here is trusted.
-/
import Derived.Test.YtagnkjdobkdhmabWmM
namespace Go.Proofs.Ytagnkjdobkdhmab
open Go Vx
theorem rSg8 : runsA Try.prog Try.f34 34 8 = valsA sgM 8 := by kernel_rfl
theorem rSg9 : runsA Try.prog Try.f34 34 9 = valsA sgM 9 := by kernel_rfl
theorem rSg10 : runsA Try.prog Try.f34 34 10 = valsA sgM 10 := by kernel_rfl
theorem rSg11 : runsA Try.prog Try.f34 34 11 = valsA sgM 11 := by kernel_rfl
end Go.Proofs.Ytagnkjdobkdhmab
