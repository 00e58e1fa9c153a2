/-
  The runs of one function of a byte, gone through. Nothing here is trusted.
-/
import Derived.Test.YtneaibkfglfpaaaHSeT
namespace Go.Proofs.Ytneaibkfglfpaaa
open Go Vx
theorem rSeX8 : runsX Try.prog Try.f97 97 8 = valsA sxM 8 := by kernel_rfl
theorem rSeX9 : runsX Try.prog Try.f97 97 9 = valsA sxM 9 := by kernel_rfl
theorem rSeX10 : runsX Try.prog Try.f97 97 10 = valsA sxM 10 := by kernel_rfl
theorem rSeX11 : runsX Try.prog Try.f97 97 11 = valsA sxM 11 := by kernel_rfl
end Go.Proofs.Ytneaibkfglfpaaa
