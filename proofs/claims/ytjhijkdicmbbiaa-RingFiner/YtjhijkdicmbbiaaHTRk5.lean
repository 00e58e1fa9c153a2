/-
  RingAsks told. Nothing here is trusted.
-/
import Derived.Test.YtjhijkdicmbbiaaHTRk4
import Derived.Test.YtjhijkdicmbbiaaHTRi2
namespace Go.Proofs.Ytjhijkdicmbbiaa
open Go Vx Go.RowKit
theorem dfine {m : Int} (h : fineB m = true) : decide (m.toNat / 3 ≤ 4611686018427387904) = true := by
  have hc := fine_cases h
  exact decide_eq_true (by omega)
theorem bself (b : Bool) : (b == b) = true := by cases b <;> rfl
theorem kNN (m : Int) (M1 M2 : Int) : MemSem Try.prog 6 [.agg #[vI M1, .slice none 0 0], .agg #[vI M2, .slice none 0 0], vI m] [] (.bool true) [] := by
  cases hf : fineB m with
  | false =>
    have h := aaNN M1 M2 m
    simp only [(And.intro rules (And.intro nots (And.intro smV_self (And.intro bself hf))))] at h
    exact exT_ok okCaN Try.func6 (by kernel_rfl) h
  | true =>
    have h := aaNN M1 M2 m
    simp only [(And.intro rules (And.intro nots (And.intro smV_self (And.intro bself hf))))] at h
    exact exT_ok okCaN Try.func6 (by kernel_rfl) h
theorem kNL (m : Int) (N : Nat) (hN : N ≤ 1048576) (o2 : Bool) (M1 M2 : Int) (c2 : Nat → Int) : MemSem Try.prog 6 [.agg #[vI M1, .slice none 0 0], .agg #[vI M2, SI 0 N], vI m] [Ir o2 N c2] (.bool true) [Ir o2 N c2] := by
  match N, hN with
  | 0, _ =>
    cases hf : fineB m with
    | false =>
      have h := aaN0 M1 M2 m o2 c2
      simp only [(And.intro rules (And.intro nots (And.intro smV_self (And.intro bself hf))))] at h
      exact exT_ok okCaN Try.func6 (by kernel_rfl) h
    | true =>
      have h := aaN0 M1 M2 m o2 c2
      simp only [(And.intro rules (And.intro nots (And.intro smV_self (And.intro bself hf))))] at h
      exact exT_ok okCaN Try.func6 (by kernel_rfl) h
  | k + 1, hk =>
    cases hf : fineB m with
    | false =>
      have h := aaNL M1 M2 m k o2 c2
      simp only [(And.intro rules (And.intro nots (And.intro smV_self (And.intro bself (And.intro hf (szOk hk))))))] at h
      exact exT_ok okCaN Try.func6 (by kernel_rfl) h
    | true =>
      have h := aaNL M1 M2 m k o2 c2
      simp only [(And.intro rules (And.intro nots (And.intro smV_self (And.intro bself (And.intro hf (szOk hk))))))] at h
      exact exT_ok okCaN Try.func6 (by kernel_rfl) h
theorem kLN (m : Int) (N : Nat) (hN : N ≤ 1048576) (o1 : Bool) (M1 M2 : Int) (c1 : Nat → Int) : MemSem Try.prog 6 [.agg #[vI M1, SI 0 N], .agg #[vI M2, .slice none 0 0], vI m] [Ir o1 N c1] (.bool true) [Ir o1 N c1] := by
  match N, hN with
  | 0, _ =>
    cases hf : fineB m with
    | false =>
      have h := aa0N0 M1 M2 m o1 c1
      simp only [(And.intro rules (And.intro nots (And.intro smV_self (And.intro bself hf))))] at h
      exact exT_ok okCa0n Try.func6 (by kernel_rfl) h
    | true =>
      have h := aa0N1 M1 M2 m o1 c1
      simp only [(And.intro rules (And.intro nots (And.intro smV_self (And.intro bself hf))))] at h
      exact exT_ok okCa1n Try.func6 (by kernel_rfl) h
  | k + 1, hk =>
    cases hg : frmB M1 (k + 1) c1 with
    | false =>
      cases hf : fineB m with
      | false =>
        have h := abFFN M1 M2 m k o1 c1
        simp only [(And.intro rules (And.intro nots (And.intro smV_self (And.intro bself (And.intro hf (And.intro hg (szOk hk)))))))] at h
        exact exT_ok okCbFFN Try.func6 (by kernel_rfl) h
      | true =>
        have h := abFGFN M1 M2 m k o1 c1
        simp only [(And.intro rules (And.intro nots (And.intro smV_self (And.intro bself (And.intro hf (And.intro hg (szOk hk)))))))] at h
        exact exT_ok okCbFGFN Try.func6 (by kernel_rfl) h
    | true =>
      cases hf : fineB m with
      | false =>
        have h := abTFN M1 M2 m k o1 c1
        simp only [(And.intro rules (And.intro nots (And.intro smV_self (And.intro bself (And.intro hf (And.intro hg (szOk hk)))))))] at h
        exact exT_ok okCbTFN Try.func6 (by kernel_rfl) h
      | true =>
        cases hd : m % M1 == 0 with
        | false =>
          have h := abTTFN M1 M2 m k o1 c1
          simp only [(And.intro rules (And.intro nots (And.intro smV_self (And.intro bself (And.intro hf (And.intro hg (And.intro hd (szOk hk))))))))] at h
          exact exT_ok okCbTTFN Try.func6 (by kernel_rfl) h
        | true =>
          have h := abTTTN M1 M2 m k o1 c1
          simp only [(And.intro rules (And.intro nots (And.intro smV_self (And.intro bself (And.intro hf (And.intro hg (And.intro hd (And.intro (dfine hf) (szOk hk)))))))))] at h
          exact exT_ok okCbTTTN Try.func6 (by kernel_rfl) h
theorem kLL (m : Int) (N1 N2 : Nat) (hN1 : N1 ≤ 1048576) (hN2 : N2 ≤ 1048576) (o1 o2 : Bool) (M1 M2 : Int) (c1 c2 : Nat → Int) : MemSem Try.prog 6 [.agg #[vI M1, SI 0 N1], .agg #[vI M2, SI 1 N2], vI m] [Ir o1 N1 c1, Ir o2 N2 c2] (.bool true) [Ir o1 N1 c1, Ir o2 N2 c2] := by
  match N1, hN1, N2, hN2 with
  | 0, _, 0, _ =>
    cases hf : fineB m with
    | false =>
      have h := aa000 M1 M2 m o1 c1 o2 c2
      simp only [(And.intro rules (And.intro nots (And.intro smV_self (And.intro bself hf))))] at h
      exact exT_ok okCa0 Try.func6 (by kernel_rfl) h
    | true =>
      have h := aa001 M1 M2 m o1 c1 o2 c2
      simp only [(And.intro rules (And.intro nots (And.intro smV_self (And.intro bself hf))))] at h
      exact exT_ok okCa1 Try.func6 (by kernel_rfl) h
  | 0, _, k + 1, hk =>
    cases hf : fineB m with
    | false =>
      have h := aa0L0 M1 M2 m o1 c1 k o2 c2
      simp only [(And.intro rules (And.intro nots (And.intro smV_self (And.intro bself (And.intro hf (szOk hk))))))] at h
      exact exT_ok okCa0 Try.func6 (by kernel_rfl) h
    | true =>
      have h := aa0L1 M1 M2 m o1 c1 k o2 c2
      simp only [(And.intro rules (And.intro nots (And.intro smV_self (And.intro bself (And.intro hf (szOk hk))))))] at h
      exact exT_ok okCa1 Try.func6 (by kernel_rfl) h
  | k + 1, hk, 0, _ =>
    cases hg : frmB M1 (k + 1) c1 with
    | false =>
      cases hf : fineB m with
      | false =>
        have h := abFFO M1 M2 m k o1 c1 o2 c2
        simp only [(And.intro rules (And.intro nots (And.intro smV_self (And.intro bself (And.intro hf (And.intro hg (szOk hk)))))))] at h
        exact exT_ok okCbFFO Try.func6 (by kernel_rfl) h
      | true =>
        have h := abFGFO M1 M2 m k o1 c1 o2 c2
        simp only [(And.intro rules (And.intro nots (And.intro smV_self (And.intro bself (And.intro hf (And.intro hg (szOk hk)))))))] at h
        exact exT_ok okCbFGFO Try.func6 (by kernel_rfl) h
    | true =>
      cases hf : fineB m with
      | false =>
        have h := abTFO M1 M2 m k o1 c1 o2 c2
        simp only [(And.intro rules (And.intro nots (And.intro smV_self (And.intro bself (And.intro hf (And.intro hg (szOk hk)))))))] at h
        exact exT_ok okCbTFO Try.func6 (by kernel_rfl) h
      | true =>
        cases hd : m % M1 == 0 with
        | false =>
          have h := abTTFO M1 M2 m k o1 c1 o2 c2
          simp only [(And.intro rules (And.intro nots (And.intro smV_self (And.intro bself (And.intro hf (And.intro hg (And.intro hd (szOk hk))))))))] at h
          exact exT_ok okCbTTFO Try.func6 (by kernel_rfl) h
        | true =>
          have h := abTTTO M1 M2 m k o1 c1 o2 c2
          simp only [(And.intro rules (And.intro nots (And.intro smV_self (And.intro bself (And.intro hf (And.intro hg (And.intro hd (And.intro (dfine hf) (szOk hk)))))))))] at h
          exact exT_ok okCbTTTO Try.func6 (by kernel_rfl) h
  | k1 + 1, hk1, k2 + 1, hk2 =>
    cases hg : frmB M1 (k1 + 1) c1 with
    | false =>
      cases hf : fineB m with
      | false =>
        have h := abFFx M1 M2 m k1 o1 c1 k2 o2 c2
        simp only [(And.intro rules (And.intro nots (And.intro smV_self (And.intro bself (And.intro hf (And.intro hg (And.intro (szOk hk1) (szOk hk2))))))))] at h
        exact exT_ok okCbFFx Try.func6 (by kernel_rfl) h
      | true =>
        have h := abFGFx M1 M2 m k1 o1 c1 k2 o2 c2
        simp only [(And.intro rules (And.intro nots (And.intro smV_self (And.intro bself (And.intro hf (And.intro hg (And.intro (szOk hk1) (szOk hk2))))))))] at h
        exact exT_ok okCbFGFx Try.func6 (by kernel_rfl) h
    | true =>
      cases hf : fineB m with
      | false =>
        cases hh : frmB M2 (k2 + 1) c2 with
        | false =>
          have h := abTFF M1 M2 m k1 o1 c1 k2 o2 c2
          simp only [(And.intro rules (And.intro nots (And.intro smV_self (And.intro bself (And.intro hf (And.intro hg (And.intro (szOk hk1) (And.intro (szOk hk2) hh))))))))] at h
          exact exT_ok okCbTFF Try.func6 (by kernel_rfl) h
        | true =>
          have h := abTFT M1 M2 m k1 o1 c1 k2 o2 c2
          simp only [(And.intro rules (And.intro nots (And.intro smV_self (And.intro bself (And.intro hf (And.intro hg (And.intro (szOk hk1) (And.intro (szOk hk2) hh))))))))] at h
          exact exT_ok okCbTFT Try.func6 (by kernel_rfl) h
      | true =>
        cases hd : m % M1 == 0 with
        | false =>
          cases hh : frmB M2 (k2 + 1) c2 with
          | false =>
            have h := abTTFF M1 M2 m k1 o1 c1 k2 o2 c2
            simp only [(And.intro rules (And.intro nots (And.intro smV_self (And.intro bself (And.intro hf (And.intro hg (And.intro hd (And.intro (szOk hk1) (And.intro (szOk hk2) hh)))))))))] at h
            exact exT_ok okCbTTFF Try.func6 (by kernel_rfl) h
          | true =>
            have h := abTTFT M1 M2 m k1 o1 c1 k2 o2 c2
            simp only [(And.intro rules (And.intro nots (And.intro smV_self (And.intro bself (And.intro hf (And.intro hg (And.intro hd (And.intro (szOk hk1) (And.intro (szOk hk2) hh)))))))))] at h
            exact exT_ok okCbTTFT Try.func6 (by kernel_rfl) h
        | true =>
          cases hh : frmB M2 (k2 + 1) c2 with
          | false =>
            have h := abTTTF M1 M2 m k1 o1 c1 k2 o2 c2
            simp only [(And.intro rules (And.intro nots (And.intro smV_self (And.intro bself (And.intro hf (And.intro hg (And.intro hd (And.intro (dfine hf) (And.intro (szOk hk1) (And.intro (szOk hk2) hh))))))))))] at h
            exact exT_ok okCbTTTF Try.func6 (by kernel_rfl) h
          | true =>
            have h := abTTTT M1 M2 m k1 o1 c1 k2 o2 c2
            simp only [(And.intro rules (And.intro nots (And.intro smV_self (And.intro bself (And.intro hf (And.intro hg (And.intro hd (And.intro (dfine hf) (And.intro (szOk hk1) (And.intro (szOk hk2) hh))))))))))] at h
            exact exT_ok okCbTTTT Try.func6 (by kernel_rfl) h
end Go.Proofs.Ytjhijkdicmbbiaa
