/-
  The runs of one function of a byte, gone through. Nothing here is trusted.
-/
import Derived.Test.YtagnkjdobkdhmabWmM
namespace Go.Proofs.Ytagnkjdobkdhmab
open Go Vx
theorem rSx12 : runsA Try.prog Try.f35 35 12 = valsA sxM 12 := by kernel_rfl
theorem rSx13 : runsA Try.prog Try.f35 35 13 = valsA sxM 13 := by kernel_rfl
theorem rSx14 : runsA Try.prog Try.f35 35 14 = valsA sxM 14 := by kernel_rfl
theorem rSx15 : runsA Try.prog Try.f35 35 15 = valsA sxM 15 := by kernel_rfl
end Go.Proofs.Ytagnkjdobkdhmab
