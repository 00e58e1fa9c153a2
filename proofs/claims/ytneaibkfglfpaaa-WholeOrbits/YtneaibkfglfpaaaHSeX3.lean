/-
  The runs of one function of a byte, gone through. Nothing here is trusted.
-/
import Derived.Test.YtneaibkfglfpaaaHSeT
namespace Go.Proofs.Ytneaibkfglfpaaa
open Go Vx
theorem rSeX12 : runsX Try.prog Try.f97 97 12 = valsA sxM 12 := by kernel_rfl
theorem rSeX13 : runsX Try.prog Try.f97 97 13 = valsA sxM 13 := by kernel_rfl
theorem rSeX14 : runsX Try.prog Try.f97 97 14 = valsA sxM 14 := by kernel_rfl
theorem rSeX15 : runsX Try.prog Try.f97 97 15 = valsA sxM 15 := by kernel_rfl
end Go.Proofs.Ytneaibkfglfpaaa
