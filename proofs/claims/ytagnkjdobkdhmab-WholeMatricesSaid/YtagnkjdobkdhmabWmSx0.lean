/-
  The runs of one function of a byte, gone through. Nothing here is trusted.
-/
import Derived.Test.YtagnkjdobkdhmabWmM
namespace Go.Proofs.Ytagnkjdobkdhmab
open Go Vx
theorem rSx0 : runsA Try.prog Try.f35 35 0 = valsA sxM 0 := by kernel_rfl
theorem rSx1 : runsA Try.prog Try.f35 35 1 = valsA sxM 1 := by kernel_rfl
theorem rSx2 : runsA Try.prog Try.f35 35 2 = valsA sxM 2 := by kernel_rfl
theorem rSx3 : runsA Try.prog Try.f35 35 3 = valsA sxM 3 := by kernel_rfl
end Go.Proofs.Ytagnkjdobkdhmab
