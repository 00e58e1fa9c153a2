/-
  The runs of one function of a byte, gone through. Nothing here is trusted.
-/
import Derived.Test.YtagnkjdobkdhmabWmM
namespace Go.Proofs.Ytagnkjdobkdhmab
open Go Vx
theorem rSx4 : runsA Try.prog Try.f35 35 4 = valsA sxM 4 := by kernel_rfl
theorem rSx5 : runsA Try.prog Try.f35 35 5 = valsA sxM 5 := by kernel_rfl
theorem rSx6 : runsA Try.prog Try.f35 35 6 = valsA sxM 6 := by kernel_rfl
theorem rSx7 : runsA Try.prog Try.f35 35 7 = valsA sxM 7 := by kernel_rfl
end Go.Proofs.Ytagnkjdobkdhmab
