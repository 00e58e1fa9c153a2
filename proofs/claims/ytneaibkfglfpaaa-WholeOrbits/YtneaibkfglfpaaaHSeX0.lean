/-
  The runs of one function of a byte, gone through. Nothing here is trusted.
-/
import Derived.Test.YtneaibkfglfpaaaHSeT
namespace Go.Proofs.Ytneaibkfglfpaaa
open Go Vx
theorem rSeX0 : runsX Try.prog Try.f97 97 0 = valsA sxM 0 := by kernel_rfl
theorem rSeX1 : runsX Try.prog Try.f97 97 1 = valsA sxM 1 := by kernel_rfl
theorem rSeX2 : runsX Try.prog Try.f97 97 2 = valsA sxM 2 := by kernel_rfl
theorem rSeX3 : runsX Try.prog Try.f97 97 3 = valsA sxM 3 := by kernel_rfl
end Go.Proofs.Ytneaibkfglfpaaa
