/-
  The runs of one function of a byte, gone through. Nothing here is trusted.
-/
import Derived.Test.YtneaibkfglfpaaaHSeT
namespace Go.Proofs.Ytneaibkfglfpaaa
open Go Vx
theorem rSeG12 : runsX Try.prog Try.f96 96 12 = valsA sgM 12 := by kernel_rfl
theorem rSeG13 : runsX Try.prog Try.f96 96 13 = valsA sgM 13 := by kernel_rfl
theorem rSeG14 : runsX Try.prog Try.f96 96 14 = valsA sgM 14 := by kernel_rfl
theorem rSeG15 : runsX Try.prog Try.f96 96 15 = valsA sgM 15 := by kernel_rfl
end Go.Proofs.Ytneaibkfglfpaaa
