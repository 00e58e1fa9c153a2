/-
  The runs of facettop.seeded, gone through by the step. Nothing here is trusted.
-/
import Derived.Test.YtneaibkfglfpaaaHSeC
namespace Go.Proofs.Ytneaibkfglfpaaa
open Go Vx
theorem rSeS8 (h : Bool) (k a b c : Int) : runsS Try.prog Try.f75 8 h k a b c = valsS 8 h k a b c := by kernel_rfl
theorem rSeS9 (h : Bool) (k a b c : Int) : runsS Try.prog Try.f75 9 h k a b c = valsS 9 h k a b c := by kernel_rfl
theorem rSeS10 (h : Bool) (k a b c : Int) : runsS Try.prog Try.f75 10 h k a b c = valsS 10 h k a b c := by kernel_rfl
theorem rSeS11 (h : Bool) (k a b c : Int) : runsS Try.prog Try.f75 11 h k a b c = valsS 11 h k a b c := by kernel_rfl
end Go.Proofs.Ytneaibkfglfpaaa
