/-
  RingSums told. Nothing here is trusted.
-/
import Derived.Test.YtjhijkdicmbbiaaHTRh1
namespace Go.Proofs.Ytjhijkdicmbbiaa
open Go Vx Go.RowKit
theorem frm_zero (M : Int) (c : Nat → Int) : frmB M 0 c = false := by
  unfold frmB
  cases h : fineB M with
  | false => rfl
  | true =>
    have := fine_cases h
    rw [show (((0 : Nat) : Int) * 3 == M) = false by simp; omega]
    rfl
theorem smV_on {M : Int} {n : Nat} {a b : Nat → Int} (h : ∀ q, q < n → a q = b q) : smV M M n n a b = true := by
  unfold smV eqC
  simp
  intro q hq
  exact h q hq
theorem szOk {n : Nat} (h : n ≤ 1048576) : (decide (n * 8 ≤ 2 ^ 47) && decide (n ≤ 2 ^ 62)) = true := by
  rw [decide_eq_true (by omega), decide_eq_true (by omega)]; rfl
theorem sub_eq (M1 M2 : Int) (c1 c2 : Nat → Int) (q : Nat) : subC M1 M2 c1 c2 q = fineG ((mx M1 M2).toNat / M1.toNat) c1 q + -1 * fineG ((mx M1 M2).toNat / M2.toNat) c2 q := by
  unfold subC addC fineG timesC
  by_cases h : q % ((mx M1 M2).toNat / M2.toNat) = 0
  · rw [if_pos h, if_pos h]
  · rw [if_neg h, if_neg h]; omega
theorem doc_add {M1 M2 : Int} {n1 n2 : Nat} {c1 c2 : Nat → Int} (h1 : frmB M1 n1 c1 = true) (h2 : frmB M2 n2 c2 = true) {q : Nat} (hq : q < (mx M1 M2).toNat / 3) : addC M1 M2 c1 c2 q = docC M1 M2 n1 n2 c1 c2 1 q := by
  rw [doc_sum 1 h1 h2 hq, Int.one_mul]; rfl
theorem doc_sub {M1 M2 : Int} {n1 n2 : Nat} {c1 c2 : Nat → Int} (h1 : frmB M1 n1 c1 = true) (h2 : frmB M2 n2 c2 = true) {q : Nat} (hq : q < (mx M1 M2).toNat / 3) : subC M1 M2 c1 c2 q = docC M1 M2 n1 n2 c1 c2 (-1) q := by
  rw [doc_sum (-1) h1 h2 hq, sub_eq]
theorem allR_on {n : Nat} {a b : Nat → Int} (h : ∀ q, q < n → a q = b q) : allR n a = allR n b := by
  unfold allR
  rw [Bool.eq_iff_iff, List.all_eq_true, List.all_eq_true]
  exact ⟨fun k i hi => by rw [← h i (List.mem_range.1 hi)]; exact k i hi, fun k i hi => by rw [h i (List.mem_range.1 hi)]; exact k i hi⟩
theorem bool_tt (b : Bool) {α : Type} (x : α) : (match b with
  | true => x
  | false => x) = x := by cases b <;> rfl
theorem pm1 : ((1 : Int) == 1 || (1 : Int) == -1) = true ∧ ((-1 : Int) == 1 || (-1 : Int) == -1) = true := by decide
/-- What the runs' tests come to by themselves. -/
theorem rules : (∀ row : Nat → List Value, shiftR 0 row = row) ∧ (∀ c : Nat → Int, iOf (iRow c) = c) ∧ (∀ (n : Nat) (c : Nat → Int), okIs n (iRow c) = true) ∧ (∀ n : Nat, Nat.beq n n = true) ∧ (∀ n : Nat, Nat.ble (0 + n) n = true) ∧ (∀ b : Bool, (true && b) = b) ∧ (∀ b : Bool, (b && true) = b) ∧ (∀ (α : Type) (x : Option α), gd true x = x) ∧ (∀ (α : Type) (x : Option α), gn false x = x) ∧ (∀ (α : Type) (b : Bool) (x : α), (match b with
  | true => x
  | false => x) = x) ∧ (∀ (M : Int) (c : Nat → Int), frmB M 0 c = false) ∧ ((1 : Int) == 1 || (1 : Int) == -1) = true ∧ ((-1 : Int) == 1 || (-1 : Int) == -1) = true :=
  ⟨sh_row, ioF, okIs_row, Nat.beq_refl, ble_self, Bool.true_and, Bool.and_true, fun _ _ => rfl, fun _ _ => rfl, fun _ b x => bool_tt b x, frm_zero, pm1.1, pm1.2⟩
theorem sNN (M1 M2 : Int) : MemSem Try.prog 3 [.agg #[vI M1, .slice none 0 0], .agg #[vI M2, .slice none 0 0]] [] (.bool true) [] := exT_ok okl1 Try.func3 (by kernel_rfl) (sumNN M1 M2)
theorem sNL (n : Nat) (hn : n ≤ 1048576) (o2 : Bool) (M1 M2 : Int) (c2 : Nat → Int) : MemSem Try.prog 3 [.agg #[vI M1, .slice none 0 0], .agg #[vI M2, SI 0 n]] [Ir o2 n c2] (.bool true) [Ir o2 n c2] := by
  match n, hn with
  | 0, _ =>
    have h := sumN0 o2 M1 M2 c2
    exact exT_ok okl1 Try.func3 (by kernel_rfl) h
  | k + 1, hk =>
    have h := sumNL k o2 M1 M2 c2
    simp only [rules, szOk hk] at h
    exact exT_ok okl1 Try.func3 (by kernel_rfl) h
theorem sLN (n : Nat) (hn : n ≤ 1048576) (o2 : Bool) (M1 M2 : Int) (c2 : Nat → Int) : MemSem Try.prog 3 [.agg #[vI M1, SI 0 n], .agg #[vI M2, .slice none 0 0]] [Ir o2 n c2] (.bool true) [Ir o2 n c2] := by
  match n, hn with
  | 0, _ =>
    have h := sum0N o2 M1 M2 c2
    exact exT_ok okl1 Try.func3 (by kernel_rfl) h
  | k + 1, hk =>
    have h := sumLN k o2 M1 M2 c2
    simp only [rules, szOk hk] at h
    exact exT_ok okl1 Try.func3 (by kernel_rfl) h
theorem mx_small {M1 M2 : Int} {n1 n2 : Nat} {c1 c2 : Nat → Int} (h1 : frmB M1 n1 c1 = true) (h2 : frmB M2 n2 c2 = true) : decide ((mx M1 M2).toNat / 3 ≤ 4611686018427387904) = true := by
  obtain ⟨f1, _, _⟩ := frm_fine h1
  obtain ⟨f2, _, _⟩ := frm_fine h2
  obtain ⟨fm, _, _⟩ := mx_ok f1 f2
  have := fine_cases fm
  exact decide_eq_true (by omega)
theorem sLL (n1 n2 : Nat) (hn1 : n1 ≤ 1048576) (hn2 : n2 ≤ 1048576) (o1 o2 : Bool) (M1 M2 : Int) (c1 c2 : Nat → Int) : MemSem Try.prog 3 [.agg #[vI M1, SI 0 n1], .agg #[vI M2, SI 1 n2]] [Ir o1 n1 c1, Ir o2 n2 c2] (.bool true) [Ir o1 n1 c1, Ir o2 n2 c2] := by
  match n1, hn1, n2, hn2 with
  | 0, _, 0, _ =>
    have h := sum00 o1 o2 M1 M2 c1 c2
    simp only [rules] at h
    exact exT_ok okl1 Try.func3 (by kernel_rfl) h
  | 0, _, k + 1, hk =>
    have h := sum0L k o1 o2 M1 M2 c1 c2
    simp only [rules, szOk hk] at h
    exact exT_ok okl1 Try.func3 (by kernel_rfl) h
  | k + 1, hk, 0, _ =>
    have h := sumL0 k o1 o2 M1 M2 c1 c2
    cases hf : frmB M1 (k + 1) c1 <;> simp only [rules, szOk hk, hf] at h <;> exact exT_ok okl1 Try.func3 (by kernel_rfl) h
  | k1 + 1, hk1, k2 + 1, hk2 =>
    cases h1 : frmB M1 (k1 + 1) c1 with
    | false =>
      have h := sumA k1 k2 o1 o2 M1 M2 c1 c2
      simp only [rules, And.intro (szOk hk1) (szOk hk2), h1] at h
      exact exT_ok okClA Try.func3 (by kernel_rfl) h
    | true =>
      cases h2 : frmB M2 (k2 + 1) c2 with
      | false =>
        have h := sumB k1 k2 o1 o2 M1 M2 c1 c2
        simp only [rules, And.intro (szOk hk1) (szOk hk2), And.intro h1 h2] at h
        exact exT_ok okClB Try.func3 (by kernel_rfl) h
      | true =>
        have ea := allR_on (n := (mx M1 M2).toNat / 3) fun q hq => doc_add h1 h2 hq
        have es := allR_on (n := (mx M1 M2).toNat / 3) fun q hq => doc_sub h1 h2 hq
        have va := smV_on (M := mx M1 M2) (n := (mx M1 M2).toNat / 3) fun q hq => doc_add h1 h2 hq
        have vs := smV_on (M := mx M1 M2) (n := (mx M1 M2).toNat / 3) fun q hq => doc_sub h1 h2 hq
        have sm := mx_small h1 h2
        cases ha : allR ((mx M1 M2).toNat / 3) (addC M1 M2 c1 c2) <;> cases hs : allR ((mx M1 M2).toNat / 3) (subC M1 M2 c1 c2)
        · have hh := And.intro (szOk hk1) (And.intro (szOk hk2) (And.intro h1 (And.intro h2 (And.intro ha (And.intro hs (And.intro sm (And.intro va vs)))))))
          have h := sumF k1 k2 o1 o2 M1 M2 c1 c2
          simp only [rules, hh, ← ea, ← es] at h
          exact exT_ok okClF Try.func3 (by kernel_rfl) h
        · have hh := And.intro (szOk hk1) (And.intro (szOk hk2) (And.intro h1 (And.intro h2 (And.intro ha (And.intro hs (And.intro sm (And.intro va vs)))))))
          have h := sumE k1 k2 o1 o2 M1 M2 c1 c2
          simp only [rules, hh, ← ea, ← es] at h
          exact exT_ok okClE Try.func3 (by kernel_rfl) h
        · have hh := And.intro (szOk hk1) (And.intro (szOk hk2) (And.intro h1 (And.intro h2 (And.intro ha (And.intro hs (And.intro sm (And.intro va vs)))))))
          have h := sumD k1 k2 o1 o2 M1 M2 c1 c2
          simp only [rules, hh, ← ea, ← es] at h
          exact exT_ok okClD Try.func3 (by kernel_rfl) h
        · have hh := And.intro (szOk hk1) (And.intro (szOk hk2) (And.intro h1 (And.intro h2 (And.intro ha (And.intro hs (And.intro sm (And.intro va vs)))))))
          have h := sumC k1 k2 o1 o2 M1 M2 c1 c2
          simp only [rules, hh, ← ea, ← es] at h
          exact exT_ok okClC Try.func3 (by kernel_rfl) h
end Go.Proofs.Ytjhijkdicmbbiaa
