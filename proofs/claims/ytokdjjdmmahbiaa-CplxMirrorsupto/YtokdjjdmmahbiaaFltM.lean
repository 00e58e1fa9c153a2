/-
  Floats: sums and products may change about. Nothing here is trusted.
-/
import Derived.Test.YtokdjjdmmahbiaaVyFl
namespace Go.Proofs.Ytokdjjdmmahbiaa.Vx
open Go Ieee

theorem dproduct_comm (x y : Datum) : x.product y = y.product x := by
  cases x <;> cases y <;> simp [Datum.product, Bool.xor_comm, Nat.mul_comm, Int.add_comm]
theorem dsum_comm (x y : Datum) : x.sum y = y.sum x := by
  cases x with
  | nan s t => rw [sum_nan_l, sum_nan_r]
  | infinity s => cases y with
    | nan s t => rfl
    | infinity t => cases s <;> cases t <;> rfl
    | number t n j => rfl
  | number s m i => cases y with
    | nan s t => rfl
    | infinity t => rfl
    | number t n j =>
      simp only [Datum.sum, Option.some.injEq]
      rw [Int.min_comm j i, Int.add_comm (signed t n _) (signed s m _), Bool.and_comm t s]
theorem fmul_comm (k : FloatKind) (a b : Nat) : fmul k a b = fmul k b a := by unfold fmul Format.mul; rw [dproduct_comm]
theorem fadd_comm (k : FloatKind) (a b : Nat) : fadd k a b = fadd k b a := by unfold fadd Format.add; rw [dsum_comm]
end Go.Proofs.Ytokdjjdmmahbiaa.Vx
