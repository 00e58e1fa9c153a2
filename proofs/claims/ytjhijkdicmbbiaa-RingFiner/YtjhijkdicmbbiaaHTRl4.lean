/-
  Numbers of one ring with small coefficients: bounds, and what RingZero asks. Nothing here is trusted.
-/
import Derived.Test.YtjhijkdicmbbiaaHTRl2
namespace Go.Proofs.Ytjhijkdicmbbiaa
open Go Vx Go.RowKit
/-- Within a bound. -/
def bd (B : Int) (x : Nat → Int) : Prop := ∀ q, -B ≤ x q ∧ x q ≤ B
theorem bd.le {B C : Int} {x : Nat → Int} (h : bd B x) (k : B ≤ C) : bd C x := fun q => by have := h q; omega
theorem abs_mulB {x y A B : Int} (hx : -A ≤ x ∧ x ≤ A) (hy : -B ≤ y ∧ y ≤ B) : -(A * B) ≤ x * y ∧ x * y ≤ A * B := by
  have h1 : (A - x) * (B - y) ≥ 0 := Int.mul_nonneg (by omega) (by omega)
  have h2 : (A + x) * (B + y) ≥ 0 := Int.mul_nonneg (by omega) (by omega)
  have h3 : (A - x) * (B + y) ≥ 0 := Int.mul_nonneg (by omega) (by omega)
  have h4 : (A + x) * (B - y) ≥ 0 := Int.mul_nonneg (by omega) (by omega)
  have e1 : (A - x) * (B - y) = A * B - A * y - x * B + x * y := by grind
  have e2 : (A + x) * (B + y) = A * B + A * y + x * B + x * y := by grind
  have e3 : (A - x) * (B + y) = A * B + A * y - x * B - x * y := by grind
  have e4 : (A + x) * (B - y) = A * B - A * y + x * B - x * y := by grind
  omega
theorem mulP_B {a b : Nat → Int} {A B P : Int} (ha : bd A a) (hb : bd B b) (hp : A * B = P) (h0 : 0 ≤ P) (d : Nat) : ∀ (i q : Nat), -(P * (i : Int)) ≤ mulP a b d i q ∧ mulP a b d i q ≤ P * (i : Int)
  | 0, q => by show -(P * ((0 : Nat) : Int)) ≤ (0 : Int) ∧ (0 : Int) ≤ P * ((0 : Nat) : Int); simp
  | i + 1, q => by
    have ih := mulP_B ha hb hp h0 d i q
    have e : P * ((i + 1 : Nat) : Int) = P * (i : Int) + P := by rw [Int.natCast_add, Int.mul_add]; simp
    rw [e]
    show -(P * (i : Int) + P) ≤ mulP a b d i q + _ ∧ mulP a b d i q + _ ≤ _
    by_cases h : i ≤ q ∧ q < i + d
    · rw [if_pos h]
      have p := abs_mulB (ha i) (hb (q - i))
      rw [hp] at p
      omega
    · rw [if_neg h]; omega
theorem mulE_B {e : Nat} {a b : Nat → Int} {A B P Q : Int} (ha : bd A a) (hb : bd B b) (hp : A * B = P) (h0 : 0 ≤ P) (he : e ≤ 32) (hq : 256 * P = Q) : bd Q (Rin.mulE e a b) := fun q => by
  have m : ∀ i, -(P * 64) ≤ mulP a b (2 * e) (2 * e) i ∧ mulP a b (2 * e) (2 * e) i ≤ P * 64 := fun i => by
    have := mulP_B ha hb hp h0 (2 * e) (2 * e) i
    have k : P * ((2 * e : Nat) : Int) ≤ P * 64 := Int.mul_le_mul_of_nonneg_left (by omega) h0
    omega
  have := cof_bound (e := e) (n := 2 * (2 * e) - 1) (by omega) m q
  unfold Rin.mulE
  omega
theorem tbP_B {e : Nat} {c : Nat → Int} {B : Int} (h0 : 0 ≤ B) (h : bd B c) : ∀ n q, -B ≤ Rin.tbP e c n q ∧ Rin.tbP e c n q ≤ B
  | 0, _ => by show -B ≤ (0 : Int) ∧ (0 : Int) ≤ B; omega
  | n + 1, q => by
    show -B ≤ putG (Rin.tbP e c n) (Rin.bkI e n) (c n) q ∧ putG (Rin.tbP e c n) (Rin.bkI e n) (c n) q ≤ B
    unfold putG
    split
    · exact h n
    · exact tbP_B h0 h n q
theorem conj_B {e : Nat} {c : Nat → Int} {B Q : Int} (h0 : 0 ≤ B) (h : bd B c) (hq : 4 * B = Q) : bd Q (Rin.conjE e c) := fun q => by
  have := cof_bound (e := e) (n := 6 * e) h0 (tbP_B (e := e) h0 h (2 * e)) q
  unfold Rin.conjE
  omega
theorem add_B {a b : Nat → Int} {A B Q : Int} (ha : bd A a) (hb : bd B b) (hq : A + B = Q) : bd Q fun q => a q + b q := fun q => by
  have := ha q
  have := hb q
  show -Q ≤ a q + b q ∧ a q + b q ≤ Q
  omega
theorem allR_B {d : Nat} {x : Nat → Int} (h : bd 4503599627370496 x) : allR d x = true := List.all_eq_true.2 fun i _ => inRg_iff.2 (h i)
theorem frm_B {M : Int} {x : Nat → Int} (hM : fineB M = true) (h : bd 4503599627370496 x) : frmB M (M.toNat / 3) x = true := by
  unfold frmB
  have hc := fine_cases hM
  rw [hM, allR_B h, show (((M.toNat / 3 : Nat) : Int) * 3 == M) = true by rw [beq_iff_eq]; omega]
  rfl
theorem mxs (M : Int) : mx M M = M := by unfold mx; split <;> rfl
theorem fineG1 (x : Nat → Int) : fineG 1 x = x := by
  funext q
  unfold fineG
  rw [if_pos (Nat.mod_one q), Nat.div_one]
theorem div_self {M : Int} (hM : fineB M = true) : M.toNat / M.toNat = 1 := by
  have hc := fine_cases hM
  exact Nat.div_self (by omega)
theorem mulC_self {M : Int} (hM : fineB M = true) (a b : Nat → Int) : mulC M M a b = Rin.mulE (M.toNat / 6) a b := by
  obtain ⟨s1, s2, s3, s4⟩ := six hM
  unfold mulC Rin.mulE
  rw [mxs, div_self hM, fineG1, fineG1, s3]
theorem addC_self {M : Int} (hM : fineB M = true) (a b : Nat → Int) : addC M M a b = fun q => a q + b q := by
  unfold addC
  rw [mxs, div_self hM, fineG1, fineG1]
theorem pow_two {M : Int} (hM : fineB M = true) : ∃ t, M.toNat / 6 = 2 ^ t := by
  rcases fine_cases hM with h | h | h | h <;> subst h
  · exact ⟨2, rfl⟩
  · exact ⟨3, rfl⟩
  · exact ⟨4, rfl⟩
  · exact ⟨5, rfl⟩
theorem zr_iff {d : Nat} {x : Nat → Int} (hd : 1 ≤ d) : zrV d x = true ↔ Rin.isZ d x := by
  unfold zrV Rin.isZ
  rw [show decide ((d : Int) > 0) = true from decide_eq_true (by omega), Bool.and_true, List.all_eq_true]
  exact ⟨fun h q hq => by simpa using h q (List.mem_range.2 hq), fun h i hi => by simpa using h i (List.mem_range.1 hi)⟩
theorem conj_z {e : Nat} (he : 1 ≤ e) {a : Nat → Int} (h : Rin.isZ (2 * e) a) : Rin.isZ (2 * e) (Rin.conjE e a) := Rin.z_ev he fun T hT => by
  rw [Rin.ev_conj a hT he]
  exact Rin.ev_z h _
theorem z_conj {e : Nat} (he : 1 ≤ e) (a : Nat → Int) : Rin.isZ (2 * e) (Rin.conjE e a) ↔ Rin.isZ (2 * e) a :=
  ⟨fun h => Rin.isZ_congr (Rin.conj_conj he a).symm (conj_z he h), conj_z he⟩
theorem bool_iff {b c : Bool} (h : b = true ↔ c = true) : b = c := by cases b <;> cases c <;> simp at h ⊢
theorem rz1 {M : Int} (hM : fineB M = true) (a b : Nat → Int) : zrV (M.toNat / 3) (Rin.mulE (M.toNat / 6) a b) = (zrV (M.toNat / 3) a || zrV (M.toNat / 3) b) := by
  obtain ⟨s1, s2, s3, s4⟩ := six hM
  obtain ⟨t, ht⟩ := pow_two hM
  refine bool_iff ?_
  rw [Bool.or_eq_true, s3, zr_iff (by omega), zr_iff (by omega), zr_iff (by omega)]
  exact Rin.no_zero ht
theorem rz3 {M : Int} (hM : fineB M = true) (a : Nat → Int) : zrV (M.toNat / 3) (Rin.mulE (M.toNat / 6) a (Rin.conjE (M.toNat / 6) a)) = zrV (M.toNat / 3) a := by
  obtain ⟨s1, s2, s3, s4⟩ := six hM
  obtain ⟨t, ht⟩ := pow_two hM
  refine bool_iff ?_
  rw [s3, zr_iff (by omega), zr_iff (by omega), Rin.no_zero ht, z_conj s2]
  exact or_self_iff
theorem eqC_on2 {n : Nat} {a b : Nat → Int} (h : ∀ q, q < n → a q = b q) : eqC n a b = true := List.all_eq_true.2 fun i hi => by
  rw [h i (List.mem_range.1 hi)]
  exact beq_self_eq_true _
theorem rz2 {M : Int} (hM : fineB M = true) (a : Nat → Int) : rlV M (Rin.mulE (M.toNat / 6) a (Rin.conjE (M.toNat / 6) a)) = true := by
  obtain ⟨s1, s2, s3, s4⟩ := six hM
  unfold rlV
  rw [s3]
  refine eqC_on2 fun q hq => ?_
  have h1 := Rin.conj_mul s2 a (Rin.conjE (M.toNat / 6) a)
  have h2 := Rin.mul_congr s2 (Rin.EqOn.rfl (d := 2 * (M.toNat / 6)) (a := Rin.conjE (M.toNat / 6) a)) (Rin.conj_conj s2 a)
  exact (((h1.trans h2).trans (Rin.mul_comm s2 _ _)) q hq).symm
end Go.Proofs.Ytjhijkdicmbbiaa
