/-
  The runs of one function of a byte, gone through. Nothing here is trusted.
-/
import Derived.Test.YtneaibkfglfpaaaHSeT
namespace Go.Proofs.Ytneaibkfglfpaaa
open Go Vx
theorem rSeG8 : runsX Try.prog Try.f96 96 8 = valsA sgM 8 := by kernel_rfl
theorem rSeG9 : runsX Try.prog Try.f96 96 9 = valsA sgM 9 := by kernel_rfl
theorem rSeG10 : runsX Try.prog Try.f96 96 10 = valsA sgM 10 := by kernel_rfl
theorem rSeG11 : runsX Try.prog Try.f96 96 11 = valsA sgM 11 := by kernel_rfl
end Go.Proofs.Ytneaibkfglfpaaa
