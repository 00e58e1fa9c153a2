/-
  The runs of one function of a byte, gone through. Nothing here is trusted.
-/
import Derived.Test.YtneaibkfglfpaaaHSeT
namespace Go.Proofs.Ytneaibkfglfpaaa
open Go Vx
theorem rSeX4 : runsX Try.prog Try.f97 97 4 = valsA sxM 4 := by kernel_rfl
theorem rSeX5 : runsX Try.prog Try.f97 97 5 = valsA sxM 5 := by kernel_rfl
theorem rSeX6 : runsX Try.prog Try.f97 97 6 = valsA sxM 6 := by kernel_rfl
theorem rSeX7 : runsX Try.prog Try.f97 97 7 = valsA sxM 7 := by kernel_rfl
end Go.Proofs.Ytneaibkfglfpaaa
