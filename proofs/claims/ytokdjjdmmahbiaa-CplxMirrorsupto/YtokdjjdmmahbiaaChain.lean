/-
  Answers by a row of tests: the first test that holds decides. Numbers of 64 bits: 'W' wraps round. Nothing here is trusted.
-/
import Derived.Test.YtokdjjdmmahbiaaVyC
namespace Go.Proofs.Ytokdjjdmmahbiaa.Vx
open Go

def nth : List Int → Nat → Int
  | [], _ => 0
  | x :: _, 0 => x
  | _ :: l, k + 1 => nth l k

def chainO (mk : List Int → Value) : List (Bool × List Int) → List Int → Option Value
  | [], d => some (mk d)
  | (t, r) :: ts, d => match t with
    | true => some (mk r)
    | false => chainO mk ts d

def chainL : List (Bool × List Int) → List Int → List Int
  | [], d => d
  | (t, r) :: ts, d => match t with
    | true => r
    | false => chainL ts d

theorem chain_eq (mk : List Int → Value) : ∀ (ts : List (Bool × List Int)) (d : List Int), chainO mk ts d = some (mk (chainL ts d))
  | [], _ => rfl
  | (true, _) :: _, _ => rfl
  | (false, _) :: ts, d => chain_eq mk ts d

def mk1 (l : List Int) : Value := .int .i64 (nth l 0)
def mkVec (l : List Int) : Value := .agg #[.int .i64 (nth l 0), .int .i64 (nth l 1), .int .i64 (nth l 2)]
def mkM (l : List Int) : Value := .agg #[.int .i64 (nth l 0), .int .i64 (nth l 1), .int .i64 (nth l 2), .int .i64 (nth l 3), .int .i64 (nth l 4), .int .i64 (nth l 5), .int .i64 (nth l 6), .int .i64 (nth l 7), .int .i64 (nth l 8)]
def mkIe (l : List Int) : Value := .tuple #[.int .i64 (nth l 0), .int .i64 (nth l 1)]
def mkVe (l : List Int) : Value := .tuple #[.agg #[.int .i64 (nth l 0), .int .i64 (nth l 1), .int .i64 (nth l 2)], .int .i64 (nth l 3)]
def mkMe (l : List Int) : Value := .tuple #[.agg #[.int .i64 (nth l 0), .int .i64 (nth l 1), .int .i64 (nth l 2), .int .i64 (nth l 3), .int .i64 (nth l 4), .int .i64 (nth l 5), .int .i64 (nth l 6), .int .i64 (nth l 7), .int .i64 (nth l 8)], .int .i64 (nth l 9)]

/-- The number of 64 bits that is left of a whole number. -/
def W (n : Int) : Int := IntKind.wrap .i64 n

theorem W_eq (n : Int) : W n = (n + 9223372036854775808) % 18446744073709551616 - 9223372036854775808 := by
  unfold W IntKind.wrap
  simp only [IntKind.bits, IntKind.signed]
  have h1 : ((2 : Int) ^ 64) = 18446744073709551616 := rfl
  have h2 : ((2 : Int) ^ (64 - 1)) = 9223372036854775808 := rfl
  simp only [h1, h2, Bool.true_and, decide_eq_true_eq]
  split <;> omega

theorem W_id {n : Int} (h1 : -9223372036854775808 ≤ n) (h2 : n ≤ 9223372036854775807) : W n = n := by rw [W_eq]; omega
theorem W_W (n : Int) : W (W n) = W n := by simp only [W_eq]; omega
theorem W_congr {m n : Int} : W m = W n ↔ (m - n) % 18446744073709551616 = 0 := by simp only [W_eq]; omega
theorem W_sub_self (n : Int) : (W n - n) % 18446744073709551616 = 0 := by rw [W_eq]; omega
theorem W_addl (m n : Int) : W (W m + n) = W (m + n) := by simp only [W_eq]; omega
theorem W_addr (m n : Int) : W (m + W n) = W (m + n) := by simp only [W_eq]; omega
theorem W_subl (m n : Int) : W (W m - n) = W (m - n) := by simp only [W_eq]; omega
theorem W_subr (m n : Int) : W (m - W n) = W (m - n) := by simp only [W_eq]; omega
theorem W_mull (m n : Int) : W (W m * n) = W (m * n) := by
  rw [W_congr, ← Int.sub_mul]
  obtain ⟨k, hk⟩ := Int.dvd_of_emod_eq_zero (W_sub_self m)
  rw [hk, Int.mul_assoc]
  exact Int.mul_emod_right _ _
theorem W_mulr (m n : Int) : W (m * W n) = W (m * n) := by rw [Int.mul_comm, W_mull, Int.mul_comm]
theorem W_neg (m : Int) : W (0 - W m) = W (0 - m) := W_subr 0 m

theorem wrap_W (n : Int) : IntKind.wrap .i64 n = W n := rfl

theorem wf_bounds {n : Int} (h : (Lit.int .i64 n).wf = true) : -9223372036854775808 ≤ n ∧ n ≤ 9223372036854775807 := by
  simp [Lit.wf, IntKind.min, IntKind.max, IntKind.signed, IntKind.bits] at h
  omega

end Go.Proofs.Ytokdjjdmmahbiaa.Vx
