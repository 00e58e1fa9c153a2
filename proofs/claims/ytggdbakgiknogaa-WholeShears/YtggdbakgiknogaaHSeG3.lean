/-
  The runs of one function of a byte, gone through. Nothing here is trusted.
-/
import Derived.Test.YtggdbakgiknogaaHSeT
namespace Go.Proofs.Ytggdbakgiknogaa
open Go Vx
theorem rSeG12 : runsX Try.prog Try.f92 92 12 = valsA sgM 12 := by kernel_rfl
theorem rSeG13 : runsX Try.prog Try.f92 92 13 = valsA sgM 13 := by kernel_rfl
theorem rSeG14 : runsX Try.prog Try.f92 92 14 = valsA sgM 14 := by kernel_rfl
theorem rSeG15 : runsX Try.prog Try.f92 92 15 = valsA sgM 15 := by kernel_rfl
end Go.Proofs.Ytggdbakgiknogaa
