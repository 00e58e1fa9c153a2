/-
  The runs of one function of a byte, gone through. Nothing here is trusted.
-/
import Derived.Test.YtneaibkfglfpaaaHSeT
namespace Go.Proofs.Ytneaibkfglfpaaa
open Go Vx
theorem rSeG0 : runsX Try.prog Try.f96 96 0 = valsA sgM 0 := by kernel_rfl
theorem rSeG1 : runsX Try.prog Try.f96 96 1 = valsA sgM 1 := by kernel_rfl
theorem rSeG2 : runsX Try.prog Try.f96 96 2 = valsA sgM 2 := by kernel_rfl
theorem rSeG3 : runsX Try.prog Try.f96 96 3 = valsA sgM 3 := by kernel_rfl
end Go.Proofs.Ytneaibkfglfpaaa
