/-
  The runs of one function of a byte, gone through. Nothing here is trusted.
-/
import Derived.Test.YtneaibkfglfpaaaHSeT
namespace Go.Proofs.Ytneaibkfglfpaaa
open Go Vx
theorem rSeG4 : runsX Try.prog Try.f96 96 4 = valsA sgM 4 := by kernel_rfl
theorem rSeG5 : runsX Try.prog Try.f96 96 5 = valsA sgM 5 := by kernel_rfl
theorem rSeG6 : runsX Try.prog Try.f96 96 6 = valsA sgM 6 := by kernel_rfl
theorem rSeG7 : runsX Try.prog Try.f96 96 7 = valsA sgM 7 := by kernel_rfl
end Go.Proofs.Ytneaibkfglfpaaa
