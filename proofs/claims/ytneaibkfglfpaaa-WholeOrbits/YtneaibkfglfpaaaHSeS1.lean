/-
  The runs of facettop.seeded, gone through by the step. Nothing here is trusted.
-/
import Derived.Test.YtneaibkfglfpaaaHSeC
namespace Go.Proofs.Ytneaibkfglfpaaa
open Go Vx
theorem rSeS4 (h : Bool) (k a b c : Int) : runsS Try.prog Try.f75 4 h k a b c = valsS 4 h k a b c := by kernel_rfl
theorem rSeS5 (h : Bool) (k a b c : Int) : runsS Try.prog Try.f75 5 h k a b c = valsS 5 h k a b c := by kernel_rfl
theorem rSeS6 (h : Bool) (k a b c : Int) : runsS Try.prog Try.f75 6 h k a b c = valsS 6 h k a b c := by kernel_rfl
theorem rSeS7 (h : Bool) (k a b c : Int) : runsS Try.prog Try.f75 7 h k a b c = valsS 7 h k a b c := by kernel_rfl
end Go.Proofs.Ytneaibkfglfpaaa
