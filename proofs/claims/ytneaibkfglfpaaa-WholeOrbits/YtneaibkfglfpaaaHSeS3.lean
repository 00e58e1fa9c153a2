/-
  The runs of facettop.seeded, gone through by the step. Nothing here is trusted.
-/
import Derived.Test.YtneaibkfglfpaaaHSeC
namespace Go.Proofs.Ytneaibkfglfpaaa
open Go Vx
theorem rSeS12 (h : Bool) (k a b c : Int) : runsS Try.prog Try.f75 12 h k a b c = valsS 12 h k a b c := by kernel_rfl
theorem rSeS13 (h : Bool) (k a b c : Int) : runsS Try.prog Try.f75 13 h k a b c = valsS 13 h k a b c := by kernel_rfl
theorem rSeS14 (h : Bool) (k a b c : Int) : runsS Try.prog Try.f75 14 h k a b c = valsS 14 h k a b c := by kernel_rfl
theorem rSeS15 (h : Bool) (k a b c : Int) : runsS Try.prog Try.f75 15 h k a b c = valsS 15 h k a b c := by kernel_rfl
end Go.Proofs.Ytneaibkfglfpaaa
