/-
  RingSums told. Nothing here is trusted.
-/
import Derived.Test.YtjhijkdicmbbiaaHTRh1
namespace Go.Proofs.Ytjhijkdicmbbiaa
open Go Vx Go.RowKit
theorem frm_zero (M : Int) (c : Nat → Int) : frmB M 0 c = false := by
  unfold frmB
  cases h : fineB M with
  | false => rfl
  | true =>
    have := fine_cases h
    rw [show (((0 : Nat) : Int) * 3 == M) = false by simp; omega]
    rfl
theorem smV_on {M : Int} {n : Nat} {a b : Nat → Int} (h : ∀ q, q < n → a q = b q) : smV M M n n a b = true := by
  unfold smV eqC
  simp
  intro q hq
  exact h q hq
theorem szOk {n : Nat} (h : n ≤ 1048576) : (decide (n * 8 ≤ 2 ^ 47) && decide (n ≤ 2 ^ 62)) = true := by
  rw [decide_eq_true (by omega), decide_eq_true (by omega)]; rfl
theorem allR_on {n : Nat} {a b : Nat → Int} (h : ∀ q, q < n → a q = b q) : allR n a = allR n b := by
  unfold allR
  rw [Bool.eq_iff_iff, List.all_eq_true, List.all_eq_true]
  exact ⟨fun k i hi => by rw [← h i (List.mem_range.1 hi)]; exact k i hi, fun k i hi => by rw [h i (List.mem_range.1 hi)]; exact k i hi⟩
theorem bool_tt (b : Bool) {α : Type} (x : α) : (match b with
  | true => x
  | false => x) = x := by cases b <;> rfl
theorem pm1 : ((1 : Int) == 1 || (1 : Int) == -1) = true ∧ ((-1 : Int) == 1 || (-1 : Int) == -1) = true := by decide
/-- What the runs' tests come to by themselves. -/
theorem rules : (∀ row : Nat → List Value, shiftR 0 row = row) ∧ (∀ c : Nat → Int, iOf (iRow c) = c) ∧ (∀ (n : Nat) (c : Nat → Int), okIs n (iRow c) = true) ∧ (∀ n : Nat, Nat.beq n n = true) ∧ (∀ n : Nat, Nat.ble (0 + n) n = true) ∧ (∀ b : Bool, (true && b) = b) ∧ (∀ b : Bool, (b && true) = b) ∧ (∀ (α : Type) (x : Option α), gd true x = x) ∧ (∀ (α : Type) (x : Option α), gn false x = x) ∧ (∀ (α : Type) (b : Bool) (x : α), (match b with
  | true => x
  | false => x) = x) ∧ (∀ (M : Int) (c : Nat → Int), frmB M 0 c = false) ∧ ((1 : Int) == 1 || (1 : Int) == -1) = true ∧ ((-1 : Int) == 1 || (-1 : Int) == -1) = true :=
  ⟨sh_row, ioF, okIs_row, Nat.beq_refl, ble_self, Bool.true_and, Bool.and_true, fun _ _ => rfl, fun _ _ => rfl, fun _ b x => bool_tt b x, frm_zero, pm1.1, pm1.2⟩
theorem mx_small {M1 M2 : Int} {n1 n2 : Nat} {c1 c2 : Nat → Int} (h1 : frmB M1 n1 c1 = true) (h2 : frmB M2 n2 c2 = true) : decide ((mx M1 M2).toNat / 3 ≤ 4611686018427387904) = true := by
  obtain ⟨f1, _, _⟩ := frm_fine h1
  obtain ⟨f2, _, _⟩ := frm_fine h2
  obtain ⟨fm, _, _⟩ := mx_ok f1 f2
  have := fine_cases fm
  exact decide_eq_true (by omega)
end Go.Proofs.Ytjhijkdicmbbiaa
