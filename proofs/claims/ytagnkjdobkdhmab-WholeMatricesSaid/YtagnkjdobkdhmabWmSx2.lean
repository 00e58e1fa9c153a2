/-
  The runs of one function of a byte, gone through. Nothing here is trusted.
-/
import Derived.Test.YtagnkjdobkdhmabWmM
namespace Go.Proofs.Ytagnkjdobkdhmab
open Go Vx
theorem rSx8 : runsA Try.prog Try.f35 35 8 = valsA sxM 8 := by kernel_rfl
theorem rSx9 : runsA Try.prog Try.f35 35 9 = valsA sxM 9 := by kernel_rfl
theorem rSx10 : runsA Try.prog Try.f35 35 10 = valsA sxM 10 := by kernel_rfl
theorem rSx11 : runsA Try.prog Try.f35 35 11 = valsA sxM 11 := by kernel_rfl
end Go.Proofs.Ytagnkjdobkdhmab
