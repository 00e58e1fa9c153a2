/-
  The runs of one function of a byte, gone through. Nothing here is trusted.
-/
import Derived.Test.YtggdbakgiknogaaHSeT
namespace Go.Proofs.Ytggdbakgiknogaa
open Go Vx
theorem rSeX4 : runsX Try.prog Try.f93 93 4 = valsA sxM 4 := by kernel_rfl
theorem rSeX5 : runsX Try.prog Try.f93 93 5 = valsA sxM 5 := by kernel_rfl
theorem rSeX6 : runsX Try.prog Try.f93 93 6 = valsA sxM 6 := by kernel_rfl
theorem rSeX7 : runsX Try.prog Try.f93 93 7 = valsA sxM 7 := by kernel_rfl
end Go.Proofs.Ytggdbakgiknogaa
