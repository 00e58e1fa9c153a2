/-
  Of small entries: no power up to the twelfth is the identity where Order says none. Nothing here is trusted.
-/
import Derived.Test.YtagnkjdobkdhmabFinA
import Derived.Test.YtagnkjdobkdhmabTurnT
namespace Go.Proofs.Ytagnkjdobkdhmab.Vx
open Go
def M3.B3 (m : M3) : Prop := (-3 ≤ m.a ∧ m.a ≤ 3) ∧ (-3 ≤ m.b ∧ m.b ≤ 3) ∧ (-3 ≤ m.c ∧ m.c ≤ 3) ∧ (-3 ≤ m.d ∧ m.d ≤ 3) ∧ (-3 ≤ m.e ∧ m.e ≤ 3) ∧ (-3 ≤ m.f ∧ m.f ≤ 3) ∧ (-3 ≤ m.g ∧ m.g ≤ 3) ∧ (-3 ≤ m.h ∧ m.h ≤ 3) ∧ (-3 ≤ m.i ∧ m.i ≤ 3)
theorem M3.B3.tr {m : M3} (h : m.B3) : -9 ≤ m.tr ∧ m.tr ≤ 9 := by unfold M3.B3 at h; unfold M3.tr; omega
theorem M3.B3.sr {m : M3} (h : m.B3) : -54 ≤ m.sr ∧ m.sr ≤ 54 := by
  obtain ⟨ha, hb, hc, hd, he, hf, hg, hh, hi⟩ := h
  have b1 := bd_mul (m := 3) (n := 3) (x := m.e) (y := m.i) (by omega) (by omega)
  have b2 := bd_mul (m := 3) (n := 3) (x := m.f) (y := m.h) (by omega) (by omega)
  have b3 := bd_mul (m := 3) (n := 3) (x := m.i) (y := m.a) (by omega) (by omega)
  have b4 := bd_mul (m := 3) (n := 3) (x := m.g) (y := m.c) (by omega) (by omega)
  have b5 := bd_mul (m := 3) (n := 3) (x := m.a) (y := m.e) (by omega) (by omega)
  have b6 := bd_mul (m := 3) (n := 3) (x := m.b) (y := m.d) (by omega) (by omega)
  unfold M3.sr; omega
theorem M3.B3.neg {m : M3} (h : m.B3) : m.neg.B3 := by unfold M3.B3 M3.neg at *; simp only; omega
theorem few {m : M3} (hb : m.B3) (hd : m.det = 1) {k : Nat} (h1 : 1 ≤ k) (h2 : k ≤ 24) (h : m.pow k = M3.one) : fewB m.tr m.sr = true := by
  have ht := hb.tr
  have hs := hb.sr
  have hall := allT_true
  unfold allT at hall
  rw [List.all_eq_true] at hall
  have h3 := hall (m.tr + 9).toNat (List.mem_range.2 (by omega))
  rw [List.all_eq_true] at h3
  have h4 := h3 (m.sr + 54).toNat (List.mem_range.2 (by omega))
  rw [show (((m.tr + 9).toNat : Int) - 9) = m.tr by omega, show (((m.sr + 54).toNat : Int) - 54) = m.sr by omega, Bool.or_eq_true] at h4
  rcases h4 with h4 | h4
  · exact h4
  · exfalso
    have p0 : (m.pow 0).tr = 3 := rfl
    have p1 : (m.pow (0 + 1)).tr = m.tr := by rw [Nat.zero_add, M3.pow_one]
    have p2 : (m.pow (0 + 2)).tr = m.tr * m.tr - 2 * m.sr := M3.tr_two m
    refine goT_spec (f := fun k => (m.pow k).tr) (M3.tr_rec hd) 24 0 (by simp only [p0, p1, p2]; exact h4) k (by omega) (by omega) ⟨?_, ?_, ?_⟩
    · simp only [h]; exact p0
    · rw [Nat.add_comm k 1, M3.pow_add, h, M3.mul_one, M3.pow_one]
    · rw [Nat.add_comm k 2, M3.pow_add, h, M3.mul_one]; exact p2
/-! One entry after another -/
theorem seq33 {f : Nat → Int} (hr : ∀ k, f (k + 3) = 3 * f (k + 2) - 3 * f (k + 1) + f k) : ∀ k : Nat, f (k + 1) - f k = (f 1 - f 0) + k * (f 2 - 2 * f 1 + f 0) ∧ f (k + 2) - f (k + 1) = (f 1 - f 0) + (k + 1) * (f 2 - 2 * f 1 + f 0)
  | 0 => ⟨by simp, by simp; omega⟩
  | k + 1 => by
    obtain ⟨h1, h2⟩ := seq33 hr k
    have h3 := hr k
    refine ⟨by rw [show k + 1 + 1 = k + 2 from rfl, h2]; push_cast; rfl, ?_⟩
    rw [show k + 1 + 2 = k + 3 from rfl, show k + 1 + 1 = k + 2 from rfl, h3]
    push_cast
    grind
theorem seqSum {f : Nat → Int} {a : Int} (h : ∀ k, f (k + 1) - f k = a) : ∀ k : Nat, f k = f 0 + k * a
  | 0 => by simp
  | k + 1 => by have := h k; have := seqSum h k; push_cast; grind
theorem seq33_eq {f : Nat → Int} (hr : ∀ k, f (k + 3) = 3 * f (k + 2) - 3 * f (k + 1) + f k) {k : Nat} (hk : 1 ≤ k) (h0 : f k = f 0) (h1 : f (k + 1) = f 1) : f 1 = f 0 := by
  have e := (seq33 hr k).1
  rw [h0, h1] at e
  have z : (k : Int) * (f 2 - 2 * f 1 + f 0) = 0 := by omega
  have z2 : f 2 - 2 * f 1 + f 0 = 0 := by
    rcases Int.mul_eq_zero.1 z with h | h
    · omega
    · exact h
  have key : ∀ j, f (j + 1) - f j = f 1 - f 0 := fun j => by
    have := (seq33 hr j).1
    rw [z2, Int.mul_zero, Int.add_zero] at this; exact this
  have s := seqSum key k
  rw [h0] at s
  have z3 : (k : Int) * (f 1 - f 0) = 0 := by omega
  rcases Int.mul_eq_zero.1 z3 with h | h <;> omega
theorem seq11 {f : Nat → Int} (hr : ∀ k, f (k + 3) = -1 * f (k + 2) - -1 * f (k + 1) + f k) : ∀ k : Nat, f (2 * k + 2) - f (2 * k) = f 2 - f 0
  | 0 => rfl
  | k + 1 => by
    have ih := seq11 hr k
    have h1 := hr (2 * k)
    have h2 := hr (2 * k + 1)
    rw [show 2 * (k + 1) + 2 = 2 * k + 1 + 3 by omega, show 2 * (k + 1) = 2 * k + 2 by omega, h2]
    rw [show 2 * k + 1 + 2 = 2 * k + 3 by omega, show 2 * k + 1 + 1 = 2 * k + 2 by omega, h1]
    omega
theorem seq11_eq {f : Nat → Int} (hr : ∀ k, f (k + 3) = -1 * f (k + 2) - -1 * f (k + 1) + f k) {k : Nat} (hk : 1 ≤ k) (h : f (2 * k) = f 0) : f 2 = f 0 := by
  have s := seqSum (f := fun j => f (2 * j)) (a := f 2 - f 0) (fun j => by
    rw [show 2 * (j + 1) = 2 * j + 2 by omega]; exact seq11 hr j) k
  simp only [Nat.mul_zero] at s
  rw [h] at s
  have z3 : (k : Int) * (f 2 - f 0) = 0 := by omega
  rcases Int.mul_eq_zero.1 z3 with h | h <;> omega
theorem ord_one {m : M3} (hb : m.B3) (hd : m.det = 1) {k : Nat} (h1 : 1 ≤ k) (h2 : k ≤ 24) (h : m.pow k = M3.one) : m = M3.one ∨ m.pow 2 = M3.one ∨ m.pow 3 = M3.one ∨ m.pow 4 = M3.one ∨ m.pow 6 = M3.one := by
  have hf := few hb hd h1 h2 h
  unfold fewB at hf
  simp only [Bool.and_eq_true, Bool.or_eq_true, beq_iff_eq] at hf
  obtain ⟨hts, ht⟩ := hf
  have hr := fun j => M3.pow_rec hd j
  rw [← hts] at hr
  have hk0 : ∀ j, (m.pow k).ent j = (m.pow 0).ent j := fun j => by rw [h]; rfl
  rcases ht with (((ht | ht) | ht) | ht) | ht
  · left
    rw [ht] at hr
    refine M3.ent_ext fun j => ?_
    have := seq33_eq (f := fun k => (m.pow k).ent j) (hr j) h1 (hk0 j) (by rw [Nat.add_comm k 1, M3.pow_add, h, M3.mul_one])
    rw [M3.pow_one] at this
    exact this
  · right; left
    rw [ht] at hr
    refine M3.ent_ext fun j => ?_
    exact seq11_eq (f := fun k => (m.pow k).ent j) (hr j) h1 (by rw [Nat.mul_comm, M3.pow_mul_one h]; rfl)
  · right; right; left
    rw [ht] at hr
    refine M3.ent_ext fun j => ?_
    have := hr j 0
    simp only [Nat.zero_add] at this
    rw [this]; show _ = (m.pow 0).ent j; omega
  · right; right; right; left
    rw [ht] at hr
    refine M3.ent_ext fun j => ?_
    have a0 := hr j 0
    have a1 := hr j 1
    simp only [Nat.zero_add, Nat.reduceAdd] at a0 a1
    show _ = (m.pow 0).ent j
    omega
  · right; right; right; right
    rw [ht] at hr
    refine M3.ent_ext fun j => ?_
    have a0 := hr j 0
    have a1 := hr j 1
    have a2 := hr j 2
    have a3 := hr j 3
    simp only [Nat.zero_add, Nat.reduceAdd] at a0 a1 a2 a3
    show _ = (m.pow 0).ent j
    omega
theorem M3.ordI_ne {m : M3} (h : m = M3.one ∨ m.pow 2 = M3.one ∨ m.pow 3 = M3.one ∨ m.pow 4 = M3.one ∨ m.pow 6 = M3.one) : m.ordI ≠ 0 := by
  rw [← M3.eqB_iff, ← M3.eqB_iff, ← M3.eqB_iff, ← M3.eqB_iff, ← M3.eqB_iff] at h
  unfold M3.ordI
  revert h
  cases m.eqB M3.one <;> cases (m.pow 2).eqB M3.one <;> cases (m.pow 3).eqB M3.one <;> cases (m.pow 4).eqB M3.one <;> cases (m.pow 6).eqB M3.one <;> simp
theorem M3.neg_pow2 (m : M3) (k : Nat) : m.neg.pow (2 * k) = m.pow (2 * k) := by
  rw [M3.pow_2, M3.pow_2, M3.neg_mul_neg]
theorem fin_order {m : M3} (hb : m.B3) (hu : m.U) {k : Nat} (h1 : 1 ≤ k) (h2 : k ≤ 12) (h : m.pow k = M3.one) : m.ordI ≠ 0 := by
  rcases hu with hd | hd
  · exact M3.ordI_ne (ord_one hb hd h1 (by omega) h)
  · have hk : m.neg.pow (2 * k) = M3.one := by rw [M3.neg_pow2, Nat.mul_comm]; exact M3.pow_mul_one h 2
    have hn := ord_one hb.neg (by rw [M3.det_neg, hd]; rfl) (by omega) (by omega) hk
    refine M3.ordI_ne ?_
    rcases hn with e | e | e | e | e
    · right; left
      rw [← M3.neg_pow2 m 1, Nat.mul_one, M3.pow2, e]; rfl
    · right; left; rw [← M3.neg_pow2 m 1]; exact e
    · right; right; right; right
      rw [← M3.neg_pow2 m 3]; exact M3.pow_mul_one e 2
    · right; right; right; left; rw [← M3.neg_pow2 m 2]; exact e
    · right; right; right; right; rw [← M3.neg_pow2 m 3]; exact e
end Go.Proofs.Ytagnkjdobkdhmab.Vx
