/-
  The runs of one function of a byte, gone through. Nothing here is trusted.
-/
import Derived.Test.YtggdbakgiknogaaHSeT
namespace Go.Proofs.Ytggdbakgiknogaa
open Go Vx
theorem rSeG0 : runsX Try.prog Try.f92 92 0 = valsA sgM 0 := by kernel_rfl
theorem rSeG1 : runsX Try.prog Try.f92 92 1 = valsA sgM 1 := by kernel_rfl
theorem rSeG2 : runsX Try.prog Try.f92 92 2 = valsA sgM 2 := by kernel_rfl
theorem rSeG3 : runsX Try.prog Try.f92 92 3 = valsA sgM 3 := by kernel_rfl
end Go.Proofs.Ytggdbakgiknogaa
