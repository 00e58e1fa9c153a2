/-
  The runs of facettop.seeded, gone through by the step. Nothing here is trusted.
-/
import Derived.Test.YtneaibkfglfpaaaHSeC
namespace Go.Proofs.Ytneaibkfglfpaaa
open Go Vx
theorem rSeS0 (h : Bool) (k a b c : Int) : runsS Try.prog Try.f75 0 h k a b c = valsS 0 h k a b c := by kernel_rfl
theorem rSeS1 (h : Bool) (k a b c : Int) : runsS Try.prog Try.f75 1 h k a b c = valsS 1 h k a b c := by kernel_rfl
theorem rSeS2 (h : Bool) (k a b c : Int) : runsS Try.prog Try.f75 2 h k a b c = valsS 2 h k a b c := by kernel_rfl
theorem rSeS3 (h : Bool) (k a b c : Int) : runsS Try.prog Try.f75 3 h k a b c = valsS 3 h k a b c := by kernel_rfl
end Go.Proofs.Ytneaibkfglfpaaa
