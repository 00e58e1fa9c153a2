/-
  RingProducts told. Nothing here is trusted.
-/
import Derived.Test.YtjhijkdicmbbiaaHTRi1
import Derived.Test.YtjhijkdicmbbiaaHTRh8
namespace Go.Proofs.Ytjhijkdicmbbiaa
open Go Vx Go.RowKit
theorem pNN (n : Int) (M1 M2 : Int) : MemSem Try.prog 4 [.agg #[vI M1, .slice none 0 0], .agg #[vI M2, .slice none 0 0], vI n] [] (.bool true) [] := exT_ok okCp0 Try.func4 (by kernel_rfl) (prNN M1 M2 n)
theorem pNL (n : Int) (N : Nat) (hN : N ≤ 1048576) (o2 : Bool) (M1 M2 : Int) (c2 : Nat → Int) : MemSem Try.prog 4 [.agg #[vI M1, .slice none 0 0], .agg #[vI M2, SI 0 N], vI n] [Ir o2 N c2] (.bool true) [Ir o2 N c2] := by
  match N, hN with
  | 0, _ =>
    have h := prN0 M1 M2 n o2 c2
    exact exT_ok okCp0 Try.func4 (by kernel_rfl) h
  | k + 1, hk =>
    have h := prNL M1 M2 n k o2 c2
    simp only [rules, szOk hk] at h
    exact exT_ok okCp0 Try.func4 (by kernel_rfl) h
theorem pLN (n : Int) (hn : i64B n = true) (N : Nat) (hN : N ≤ 1048576) (o1 : Bool) (M1 M2 : Int) (c1 : Nat → Int) : MemSem Try.prog 4 [.agg #[vI M1, SI 0 N], .agg #[vI M2, .slice none 0 0], vI n] [Ir o1 N c1] (.bool true) [Ir o1 N c1] := by
  match N, hN with
  | 0, _ =>
    have h := pr0N M1 M2 n o1 c1
    simp only [rules, hn] at h
    exact exT_ok okCp0 Try.func4 (by kernel_rfl) h
  | k + 1, hk =>
    cases hf : frmB M1 (k + 1) c1 with
    | false =>
      have h := prLN M1 M2 n k o1 c1
      simp only [rules, And.intro hn (And.intro (szOk hk) hf)] at h
      exact exT_ok okCp0 Try.func4 (by kernel_rfl) h
    | true =>
      have hc := fine_cases (frm_fine hf).1
      have hd : decide (M1.toNat / 3 ≤ 4611686018427387904) = true := decide_eq_true (by omega)
      cases ht : allR (k + 1) (timesC n c1) <;> have h := prLN M1 M2 n k o1 c1 <;> simp only [rules, And.intro hn (And.intro (szOk hk) (And.intro hf (And.intro ht hd))), smV_self] at h <;> exact exT_ok okCp0 Try.func4 (by kernel_rfl) h
theorem pLL (n : Int) (hn : i64B n = true) (N1 N2 : Nat) (hN1 : N1 ≤ 1048576) (hN2 : N2 ≤ 1048576) (o1 o2 : Bool) (M1 M2 : Int) (c1 c2 : Nat → Int) : MemSem Try.prog 4 [.agg #[vI M1, SI 0 N1], .agg #[vI M2, SI 1 N2], vI n] [Ir o1 N1 c1, Ir o2 N2 c2] (.bool true) [Ir o1 N1 c1, Ir o2 N2 c2] := by
  match N1, hN1, N2, hN2 with
  | 0, _, 0, _ =>
    have h := pr00 M1 M2 n o1 c1 o2 c2
    simp only [rules, hn] at h
    exact exT_ok okCp0 Try.func4 (by kernel_rfl) h
  | 0, _, k + 1, hk =>
    have h := pr0L M1 M2 n o1 c1 k o2 c2
    simp only [rules, And.intro hn (szOk hk)] at h
    exact exT_ok okCp0 Try.func4 (by kernel_rfl) h
  | k + 1, hk, 0, _ =>
    cases hf : frmB M1 (k + 1) c1 with
    | false =>
      have h := prL0 M1 M2 n k o1 c1 o2 c2
      simp only [rules, And.intro hn (And.intro (szOk hk) hf)] at h
      exact exT_ok okCp0 Try.func4 (by kernel_rfl) h
    | true =>
      have hc := fine_cases (frm_fine hf).1
      have hd : decide (M1.toNat / 3 ≤ 4611686018427387904) = true := decide_eq_true (by omega)
      cases ht : allR (k + 1) (timesC n c1) <;> have h := prL0 M1 M2 n k o1 c1 o2 c2 <;> simp only [rules, And.intro hn (And.intro (szOk hk) (And.intro hf (And.intro ht hd))), smV_self] at h <;> exact exT_ok okCp0 Try.func4 (by kernel_rfl) h
  | k1 + 1, hk1, k2 + 1, hk2 =>
    have hz := And.intro hn (And.intro (szOk hk1) (szOk hk2))
    cases h1 : frmB M1 (k1 + 1) c1 with
    | false =>
      have h := pqA M1 M2 n k1 o1 c1 k2 o2 c2
      simp only [rules, And.intro hz h1] at h
      exact exT_ok okCpA Try.func4 (by kernel_rfl) h
    | true =>
      have hc := fine_cases (frm_fine h1).1
      have hd : decide (M1.toNat / 3 ≤ 4611686018427387904) = true := decide_eq_true (by omega)
      cases h2 : frmB M2 (k2 + 1) c2 with
      | false =>
        cases ht : allR (k1 + 1) (timesC n c1) with
        | false =>
          have h := pqB M1 M2 n k1 o1 c1 k2 o2 c2
          simp only [rules, And.intro hz (And.intro h1 (And.intro h2 (And.intro ht hd)))] at h
          exact exT_ok okCpB Try.func4 (by kernel_rfl) h
        | true =>
          have h := pqC M1 M2 n k1 o1 c1 k2 o2 c2
          simp only [rules, And.intro hz (And.intro h1 (And.intro h2 (And.intro ht hd))), smV_self] at h
          exact exT_ok okCpC Try.func4 (by kernel_rfl) h
      | true =>
        have sm := mx_small h1 h2
        cases hm : allR ((mx M1 M2).toNat / 3) (mulC M1 M2 c1 c2) <;> cases ht : allR (k1 + 1) (timesC n c1)
        · have h := pqD M1 M2 n k1 o1 c1 k2 o2 c2
          simp only [rules, And.intro hz (And.intro h1 (And.intro h2 (And.intro ht (And.intro hm (And.intro hd sm)))))] at h
          exact exT_ok okCpD Try.func4 (by kernel_rfl) h
        · have h := pqE M1 M2 n k1 o1 c1 k2 o2 c2
          simp only [rules, And.intro hz (And.intro h1 (And.intro h2 (And.intro ht (And.intro hm (And.intro hd sm))))), smV_self] at h
          exact exT_ok okCpE Try.func4 (by kernel_rfl) h
        · have h := pqF M1 M2 n k1 o1 c1 k2 o2 c2
          simp only [rules, And.intro hz (And.intro h1 (And.intro h2 (And.intro ht (And.intro hm (And.intro hd sm))))), smV_self] at h
          exact exT_ok okCpF Try.func4 (by kernel_rfl) h
        · have h := pqG M1 M2 n k1 o1 c1 k2 o2 c2
          simp only [rules, And.intro hz (And.intro h1 (And.intro h2 (And.intro ht (And.intro hm (And.intro hd sm))))), smV_self] at h
          exact exT_ok okCpG Try.func4 (by kernel_rfl) h
end Go.Proofs.Ytjhijkdicmbbiaa
