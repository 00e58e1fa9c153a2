/-
  The runs of one function of a byte, gone through. Nothing here is trusted.
-/
import Derived.Test.YtagnkjdobkdhmabWmM
namespace Go.Proofs.Ytagnkjdobkdhmab
open Go Vx
theorem rSg12 : runsA Try.prog Try.f34 34 12 = valsA sgM 12 := by kernel_rfl
theorem rSg13 : runsA Try.prog Try.f34 34 13 = valsA sgM 13 := by kernel_rfl
theorem rSg14 : runsA Try.prog Try.f34 34 14 = valsA sgM 14 := by kernel_rfl
theorem rSg15 : runsA Try.prog Try.f34 34 15 = valsA sgM 15 := by kernel_rfl
end Go.Proofs.Ytagnkjdobkdhmab
