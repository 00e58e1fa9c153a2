/-
  How often a map must be done, done again, undone, and told from elsewhere. No program in sight. Nothing here is trusted.
-/
import Derived.Test.YtlkmphmiegegbaaOpGT
namespace Go.Proofs.Ytlkmphmiegegbaa.Vx
open Go

def opow (o : O3) : Nat → O3
  | 0 => O3.one
  | k + 1 => o.mul (opow o k)
theorem opow_eq (o : O3) : ∀ k, opow o k = ⟨o.r.pow k, (sumP o k).md 24⟩
  | 0 => rfl
  | k + 1 => by
    simp only [opow]
    rw [opow_eq o k]
    refine O3.ext' rfl ?_
    simp only [O3.mul]
    rw [md_app_add, sumP_front]
theorem sumP_add (o : O3) (a : Nat) : ∀ b, sumP o (a + b) = (sumP o a).add ((o.r.pow a).app (sumP o b))
  | 0 => by simp only [sumP, Nat.add_zero]; rw [M3.app_zero, V3.add_zero]
  | b + 1 => by
    rw [show a + (b + 1) = (a + b) + 1 by omega]
    simp only [sumP]
    rw [sumP_add o a b, M3.app_add, ← M3.app_mul, ← M3.pow_add, V3.add_assoc]
theorem smul_succ (u : V3) (j : Nat) : (u.smul (j : Int)).add u = u.smul ((j + 1 : Nat) : Int) := by
  unfold V3.smul V3.add
  simp only [V3.mk.injEq]
  refine ⟨?_, ?_, ?_⟩ <;> (push_cast; grind)
theorem sumP_mul {o : O3} {t : Nat} (h : o.r.pow t = M3.one) : ∀ j : Nat, sumP o (t * j) = (sumP o t).smul (j : Int)
  | 0 => by simp only [Nat.mul_zero, sumP]; unfold V3.smul V3.zero; simp
  | j + 1 => by rw [Nat.mul_succ, sumP_add, sumP_mul h j, M3.pow_mul_one h j, M3.app_one, smul_succ]
theorem hit_dvd (s : V3) (n : Int) : 24 ∣ n * s.x ∧ 24 ∣ n * s.y ∧ 24 ∣ n * s.z ↔ 24 / gcd3 s ∣ n := by
  obtain ⟨g0, g1, g2, g3, gp⟩ := gcd3_spec s
  obtain ⟨d, hd⟩ := g0
  have hdd : (24 : Int) / gcd3 s = d := by rw [hd]; exact Int.mul_ediv_cancel_left d (by omega)
  rw [hdd]
  constructor
  · rintro ⟨h1, h2, h3⟩
    have k1 : (24 : Int) ∣ n * (Int.gcd 24 s.x : Int) := dvd_gcd_mul ⟨n, by rw [Int.mul_comm]⟩ h1
    have k2 := dvd_gcd_mul k1 h2
    have k3 := dvd_gcd_mul k2 h3
    obtain ⟨q, hq⟩ := k3
    have : gcd3 s * n = gcd3 s * (d * q) := by
      rw [Int.mul_comm, ← Int.mul_assoc, ← hd]; exact hq
    exact ⟨q, Int.eq_of_mul_eq_mul_left (by omega) this⟩
  · rintro ⟨q, rfl⟩
    have k : ∀ x : Int, gcd3 s ∣ x → 24 ∣ d * q * x := by
      rintro x ⟨y, rfl⟩
      exact ⟨q * y, by rw [hd]; grind⟩
    exact ⟨k _ g1, k _ g2, k _ g3⟩
theorem md_zero_iff (v : V3) : v.md 24 = V3.zero ↔ 24 ∣ v.x ∧ 24 ∣ v.y ∧ 24 ∣ v.z := by
  unfold V3.md V3.zero
  simp only [V3.mk.injEq, Int.dvd_iff_emod_eq_zero]
/-- What Order tells of a map that has one. -/
def O3.IsOrd (o : O3) (n : Nat) : Prop := 0 < n ∧ ∀ i, opow o i = O3.one ↔ n ∣ i
theorem O3.IsOrd.unique {o b : O3} {n k : Nat} (h : o.IsOrd n) (g : b.IsOrd k) (hb : ∀ i, opow b i = O3.one ↔ opow o i = O3.one) : n = k := by
  have h1 : n ∣ k := (h.2 k).1 ((hb k).1 ((g.2 k).2 (Nat.dvd_refl _)))
  have h2 : k ∣ n := (g.2 n).1 ((hb n).2 ((h.2 n).2 (Nat.dvd_refl _)))
  exact Nat.dvd_antisymm h1 h2
theorem O3.ord_spec {o : O3} (ho : o.ck = 0) (h0 : o.r.ordI ≠ 0) : ∃ n : Nat, o.ordF = n ∧ o.IsOrd n ∧ n ≤ 144 := by
  obtain ⟨t, ht, hord, ht6⟩ := M3.ordI_spec h0
  have e0 : (o.r.ordI == 0) = false := by simpa using h0
  have hF : o.ordF = t * (24 / gcd3 (o.sum t)) := by
    unfold O3.ordF
    rw [ho, e0, ht]
    simp
  have hg := gcd3_div (o.sum t)
  obtain ⟨d, hd⟩ := Int.eq_ofNat_of_zero_le (show 0 ≤ 24 / gcd3 (o.sum t) by omega)
  rw [hd] at hF hg
  refine ⟨t * d, by rw [hF]; simp, ⟨Nat.mul_pos hord.1 (by omega), fun i => ?_⟩, ?_⟩
  · rw [opow_eq]
    have key : (⟨o.r.pow i, (sumP o i).md 24⟩ : O3) = O3.one ↔ o.r.pow i = M3.one ∧ (sumP o i).md 24 = V3.zero := by
      unfold O3.one; simp only [O3.mk.injEq]
    rw [key, hord.dvd]
    constructor
    · rintro ⟨⟨j, rfl⟩, h2⟩
      rw [sumP_mul hord.2.1] at h2
      have h3 : ((o.sum t).smul (j : Int)).md 24 = V3.zero := by
        have e : ((o.sum t).smul (j : Int)).md 24 = ((sumP o t).smul (j : Int)).md 24 := by
          unfold O3.sum V3.smul V3.md
          simp only [V3.mk.injEq]
          refine ⟨?_, ?_, ?_⟩ <;> simp [Int.mul_emod]
        rw [e]; exact h2
      rw [md_zero_iff] at h3
      have h4 := (hit_dvd (o.sum t) j).1 h3
      rw [hd] at h4
      exact Nat.mul_dvd_mul_left t (Int.natCast_dvd_natCast.1 h4)
    · rintro ⟨q, rfl⟩
      refine ⟨⟨d * q, by rw [Nat.mul_assoc]⟩, ?_⟩
      rw [Nat.mul_assoc, sumP_mul hord.2.1]
      have h4 : 24 / gcd3 (o.sum t) ∣ ((d * q : Nat) : Int) := by rw [hd]; exact ⟨(q : Int), by push_cast; rfl⟩
      have h5 := (hit_dvd (o.sum t) _).2 h4
      have e : ((o.sum t).smul ((d * q : Nat) : Int)).md 24 = ((sumP o t).smul ((d * q : Nat) : Int)).md 24 := by
        unfold O3.sum V3.smul V3.md
        simp only [V3.mk.injEq]
        refine ⟨?_, ?_, ?_⟩ <;> simp [Int.mul_emod]
      rw [← e, md_zero_iff]
      exact h5
  · have : t ≤ 6 := by omega
    have : d ≤ 24 := by omega
    calc t * d ≤ 6 * 24 := Nat.mul_le_mul ‹t ≤ 6› ‹d ≤ 24›
      _ = 144 := rfl
/-! Undone, told from elsewhere -/
theorem opow_part (o : O3) : ∀ k, (opow o k).t.part = true
  | 0 => by show O3.one.t.part = true; decide
  | k + 1 => V3.md_part _
theorem opow_comm {o : O3} (h : o.t.part = true) : ∀ k, (opow o k).mul o = o.mul (opow o k)
  | 0 => by simp only [opow]; rw [O3.one_mul h, O3.mul_one h]
  | k + 1 => by simp only [opow]; rw [O3.mul_assoc, opow_comm h k]
theorem inv_opow {o : O3} (h : o.t.part = true) (hu : o.r.U) : ∀ k, (opow o k).mul (opow o.inv k) = O3.one
  | 0 => by show O3.one.mul O3.one = O3.one; exact O3.one_mul (by decide)
  | k + 1 => by
    simp only [opow]
    rw [← opow_comm h k, O3.mul_assoc, ← O3.mul_assoc o, O3.mul_inv hu, O3.one_mul (opow_part _ k), inv_opow h hu k]
theorem inv_opow_one {o : O3} (h : o.t.part = true) (hu : o.r.U) (k : Nat) : opow o.inv k = O3.one ↔ opow o k = O3.one := by
  have e := inv_opow h hu k
  constructor
  · intro hk; rwa [hk, O3.mul_one (opow_part o k)] at e
  · intro hk; rwa [hk, O3.one_mul (opow_part _ k)] at e
theorem conj_opow {m o u : O3} (hm : m.t.part = true) (hu : u.t.part = true) (h1 : m.mul u = O3.one) (h2 : u.mul m = O3.one) : ∀ k, opow ((m.mul o).mul u) k = (m.mul (opow o k)).mul u
  | 0 => by simp only [opow]; rw [O3.mul_one hm, h1]
  | k + 1 => by
    simp only [opow]
    rw [conj_opow hm hu h1 h2 k, O3.mul_assoc (m.mul o) u, ← O3.mul_assoc u, ← O3.mul_assoc u m, h2, O3.one_mul (opow_part o k), O3.mul_assoc m o, ← O3.mul_assoc o (opow o k) u, ← O3.mul_assoc m]
theorem conj_opow_one {m o u : O3} (hm : m.t.part = true) (hu : u.t.part = true) (h1 : m.mul u = O3.one) (h2 : u.mul m = O3.one) (k : Nat) : opow ((m.mul o).mul u) k = O3.one ↔ opow o k = O3.one := by
  rw [conj_opow hm hu h1 h2]
  constructor
  · intro h
    have := congrArg (fun x => (u.mul x).mul m) h
    rw [O3.mul_one hu, h2, ← O3.mul_assoc, ← O3.mul_assoc u m, h2, O3.one_mul (opow_part o k), O3.mul_assoc, h2, O3.mul_one (opow_part o k)] at this
    exact this
  · intro h; rw [h, O3.mul_one hm, h1]
theorem M3.ordI_inv {m : M3} (hu : m.U) : m.inv.ordI = m.ordI := by
  have key : ∀ k, m.inv.pow k = M3.one ↔ m.pow k = M3.one := fun k => by
    have e := M3.inv_pow hu k
    constructor
    · intro hk; rwa [hk, M3.mul_one] at e
    · intro hk; rwa [hk, M3.one_mul] at e
  have kb : ∀ k, (m.inv.pow k).eqB M3.one = (m.pow k).eqB M3.one := fun k => beq_of_iff (by rw [M3.eqB_iff, M3.eqB_iff]; exact key k)
  have k1 : m.inv.eqB M3.one = m.eqB M3.one := by have := kb 1; rwa [M3.pow_one, M3.pow_one] at this
  unfold M3.ordI
  rw [k1, kb, kb, kb, kb]
theorem M3.ordI_conj {m p q : M3} (hpq : q.mul p = M3.one) (hqp : p.mul q = M3.one) : ((p.mul m).mul q).ordI = m.ordI := by
  have kb : ∀ k, (((p.mul m).mul q).pow k).eqB M3.one = (m.pow k).eqB M3.one := fun k => beq_of_iff (by rw [M3.eqB_iff, M3.eqB_iff, M3.conj_pow hpq hqp, M3.conj_one hpq hqp])
  have k1 : ((p.mul m).mul q).eqB M3.one = m.eqB M3.one := by have := kb 1; rwa [M3.pow_one, M3.pow_one] at this
  unfold M3.ordI
  rw [k1, kb, kb, kb, kb]
theorem M3.neg_inv {m : M3} (hu : m.U) : m.inv.neg = m.neg.inv := by
  refine M3.inv_unique (M3.U_neg hu) ?_
  rw [M3.neg_mul_neg, M3.mul_inv hu]
theorem M3.neg_mul (m n : M3) : m.neg.mul n = (m.mul n).neg := by
  refine M3.ext' ⟨?_, ?_, ?_, ?_, ?_, ?_, ?_, ?_, ?_⟩ <;> (simp only [M3.mul, M3.neg]; grind)
theorem M3.mul_neg (m n : M3) : m.mul n.neg = (m.mul n).neg := by
  refine M3.ext' ⟨?_, ?_, ?_, ?_, ?_, ?_, ?_, ?_, ?_⟩ <;> (simp only [M3.mul, M3.neg]; grind)
theorem M3.kind_inv {m : M3} (hu : m.U) : m.inv.kindF = m.kindF := by
  unfold M3.kindF
  rw [M3.det_inv hu, M3.ordI_inv hu, M3.neg_inv hu, M3.ordI_inv (M3.U_neg hu)]
theorem M3.kind_conj {m p q : M3} (hpq : q.mul p = M3.one) (hqp : p.mul q = M3.one) : ((p.mul m).mul q).kindF = m.kindF := by
  have hd : ((p.mul m).mul q).det = m.det := by
    rw [M3.det_mul, M3.det_mul]
    have := congrArg M3.det hqp
    rw [M3.det_mul, M3.det_one] at this
    rw [Int.mul_comm p.det, Int.mul_assoc, this, Int.mul_one]
  have hn : ((p.mul m).mul q).neg = (p.mul m.neg).mul q := by rw [M3.mul_neg, M3.neg_mul]
  unfold M3.kindF
  rw [hd, M3.ordI_conj hpq hqp, hn, M3.ordI_conj hpq hqp]
theorem orderOf_zero {k : Int} (hk : -6 ≤ k ∧ k ≤ 6) (h : orderOfI k = 0) : k = 0 := by
  unfold orderOfI at h
  by_cases h1 : k > 0
  · have : decide (k > 0) = true := by simpa using h1
    rw [this] at h; simp at h; omega
  · have : decide (k > 0) = false := by simpa using h1
    rw [this, W_in (by omega), W_in (by omega)] at h
    simp only [cond_false] at h
    revert h
    cases Int.tmod k 2 != 0 <;> simp <;> omega
theorem M3.kind_zero {m : M3} (hu : m.U) : m.kindF = 0 ↔ m.ordI = 0 := by
  have e := orderOf_eq hu
  have hb : -6 ≤ m.kindF ∧ m.kindF ≤ 6 := by
    have h1 := M3.ordI_bd m
    have h2 := M3.ordI_bd m.neg
    unfold M3.kindF
    cases m.det == 1 <;> simp <;> omega
  constructor
  · intro h; rw [h] at e; rw [← e]; rfl
  · intro h; rw [h] at e; exact orderOf_zero hb e
/-! The statement's own count -/
def turnI (o p : O3) (n i : Int) : Bool := o.ck == 0 && (p.ck == 0 && (!(o.r.ordI == 0) && (n == o.ordF && (decide (1 ≤ i) && (decide (i ≤ n + 1) && p.eqB (opow o (i - 1).toNat))))))
theorem turnI_iff {o p : O3} {n i : Int} : turnI o p n i = true ↔ o.ck = 0 ∧ p.ck = 0 ∧ o.r.ordI ≠ 0 ∧ n = o.ordF ∧ 1 ≤ i ∧ i ≤ n + 1 ∧ p = opow o (i - 1).toNat := by
  unfold turnI
  simp only [Bool.and_eq_true, beq_iff_eq, decide_eq_true_eq, O3.eqB_iff, Bool.not_eq_true', beq_eq_false_iff_ne]
theorem turn_step {o p : O3} {n i : Int} (h : turnI o p n i = true) (hi : i ≤ n) (he : o.mulE p = 0) : turnI o (o.mulF p) n (i + 1) = true ∧ ((o.mulF p).eqB O3.one != (i == n)) = false := by
  obtain ⟨h1, h2, h3, h4, h5, h6, h7⟩ := turnI_iff.1 h
  obtain ⟨e, k⟩ := O3.mulF_of h1 h2 he
  have hn : (i + 1 - 1).toNat = (i - 1).toNat + 1 := by omega
  have hp : o.mulF p = opow o (i + 1 - 1).toNat := by rw [e, hn]; simp only [opow]; rw [← h7]
  refine ⟨turnI_iff.2 ⟨h1, by rw [e]; exact k, h3, h4, by omega, by omega, hp⟩, ?_⟩
  obtain ⟨N, hN, hord, _⟩ := O3.ord_spec h1 h3
  have : (o.mulF p).eqB O3.one = (i == n) := beq_of_iff (by
    rw [O3.eqB_iff, hp, hord.2, beq_iff_eq]
    constructor
    · intro hd
      have := Nat.le_of_dvd (by omega) hd
      omega
    · intro hi'
      have : (i + 1 - 1).toNat = N := by omega
      rw [this]; exact Nat.dvd_refl _)
  rw [this]; simp
theorem powL_err {o : O3} (h1 : o.ck = 0) : ∀ (k : Nat) (p : O3), p.ck = 0 → (powL o k p).2 = 0 ∨ (powL o k p).2 = 4
  | 0, p, _ => .inl rfl
  | k + 1, p, h2 => by
    simp only [powL]
    cases he : o.mulE p != 0 with
    | true =>
      right
      have hne : o.mulE p ≠ 0 := by simpa using he
      have := (O3.mulF_eq h1 h2).2
      show o.mulE p = 4
      rw [this] at hne ⊢
      unfold O3.smallE at *
      cases hk : (o.mul p).r.ok with
      | true => rw [hk] at hne; exact absurd rfl hne
      | false => rfl
    | false =>
      have hz : o.mulE p = 0 := by simpa using he
      obtain ⟨e, k'⟩ := O3.mulF_of h1 h2 hz
      exact powL_err h1 k _ (by rw [e]; exact k')
/-- Same order and kind, where both are in form. -/
theorem O3.same {o b : O3} (ho : o.ck = 0) (hb : b.ck = 0) (hI : b.r.ordI = o.r.ordI) (hk : b.r.kindF = o.r.kindF) (h0 : o.r.ordI ≠ 0) (hp : ∀ i, opow b i = O3.one ↔ opow o i = O3.one) : b.ordE = 0 ∧ b.kindE = 0 ∧ b.ordF = o.ordF ∧ b.kindF = o.kindF := by
  obtain ⟨n, e1, g1, _⟩ := O3.ord_spec ho h0
  obtain ⟨k, e2, g2, _⟩ := O3.ord_spec hb (by rw [hI]; exact h0)
  have hu := (O3.ck_zero.1 ho).2.2
  have hz : o.r.kindF ≠ 0 := fun h => h0 ((M3.kind_zero hu).1 h)
  refine ⟨?_, ?_, ?_, ?_⟩
  · unfold O3.ordE; rw [hb, hI, (bif_beq h0).1]; rfl
  · unfold O3.kindE M3.kindE; rw [hb, hk, (bif_beq hz).1]; rfl
  · rw [e1, e2, g1.unique g2 hp]
  · unfold O3.kindF; rw [ho, hb, hk]
def turn3 (o m : O3) (n k : Int) : Option Value := match m.invE != 0 with
  | true => some (.bool true)
  | false => match m.mulE o != 0 with
    | true => some (.bool true)
    | false => match (m.mulF o).mulE m.invF != 0 with
      | true => some (.bool true)
      | false => match ((m.mulF o).mulF m.invF).ordE == 0 with
        | true => match ((m.mulF o).mulF m.invF).kindE == 0 with
          | true => match ((m.mulF o).mulF m.invF).ordF == n with
            | true => some (.bool (((m.mulF o).mulF m.invF).kindF == k))
            | false => some (.bool false)
          | false => some (.bool false)
        | false => some (.bool false)
def turn2 (o m : O3) (n k : Int) : Option Value := match o.invE == 0 with
  | true => guardF [o.invF.ordE != 0, o.invF.kindE != 0, o.invF.ordF != n, o.invF.kindF != k] (turn3 o m n k)
  | false => turn3 o m n k
def turn1 (o m : O3) (n k : Int) : Option Value := match (powL o (n + 1 - 1).toNat O3.one).2 == 0 with
  | true => turn2 o m n k
  | false => some (.bool ((powL o (n + 1 - 1).toNat O3.one).2 == 4))
def tOpTurns (o m : O3) : Option Value := match o.ordE != 0 with
  | true => match o.ordF == 0 with
    | true => match o.ordE != 9 with
      | true => some (.bool true)
      | false => some (.bool (o.kindE == 9))
    | false => some (.bool false)
  | false => match o.kindE != 0 with
    | true => some (.bool false)
    | false => match decide (o.ordF < 1) with
      | true => some (.bool false)
      | false => match decide (o.ordF > 144) with
        | true => some (.bool false)
        | false => onO (turnI o O3.one o.ordF 1 && decide (o.ordF ≤ 144)) (turn1 o m o.ordF o.kindF)
theorem turn3_true {o m : O3} (ho : o.ck = 0) (h0 : o.r.ordI ≠ 0) : turn3 o m o.ordF o.kindF = some (.bool true) := by
  unfold turn3
  by_cases h1 : m.invE = 0
  · by_cases h2 : m.mulE o = 0
    · by_cases h3 : (m.mulF o).mulE m.invF = 0
      · have hm : m.ck = 0 := by
          unfold O3.mulE at h2
          by_cases hl : leastI m.ck o.ck = 0
          · exact (leastI_zero.1 hl).1
          · rw [(bif_beq hl).1] at h2; exact absurd h2 hl
        obtain ⟨e1, k1⟩ := O3.invF_of hm h1
        obtain ⟨e2, k2⟩ := O3.mulF_of hm ho h2
        rw [e1, e2] at h3
        obtain ⟨e3, k3⟩ := O3.mulF_of k2 k1 h3
        have hu := (O3.ck_zero.1 hm).2.2
        have mp := (O3.ck_zero.1 hm).1
        have up := (O3.ck_zero.1 k1).1
        have hq : m.r.inv.mul m.r = M3.one := M3.inv_mul hu
        have hp : m.r.mul m.r.inv = M3.one := M3.mul_inv hu
        obtain ⟨a1, a2, a3, a4⟩ := O3.same (b := (m.mul o).mul m.inv) ho k3 (M3.ordI_conj hq hp) (M3.kind_conj hq hp) h0 (fun i => conj_opow_one mp up (O3.mul_inv hu) (O3.inv_mul hu) i)
        rw [e1, e2, h1, h2, h3, e3, a1, a2, a3, a4]
        simp
      · rw [h1, h2, (bif_beq h3).2]; rfl
    · rw [h1, (bif_beq h2).2]; rfl
  · rw [(bif_beq h1).2]
theorem turn2_true {o m : O3} (ho : o.ck = 0) (h0 : o.r.ordI ≠ 0) : turn2 o m o.ordF o.kindF = some (.bool true) := by
  unfold turn2
  rw [turn3_true ho h0]
  by_cases h1 : o.invE = 0
  · obtain ⟨e1, k1⟩ := O3.invF_of ho h1
    have hu := (O3.ck_zero.1 ho).2.2
    obtain ⟨a1, a2, a3, a4⟩ := O3.same (b := o.inv) ho k1 (M3.ordI_inv hu) (M3.kind_inv hu) h0 (fun i => inv_opow_one (O3.ck_zero.1 ho).1 hu i)
    rw [e1, h1, a1, a2, a3, a4]
    simp [guardF]
  · rw [(bif_beq h1).1]
theorem tOpTurns_true (o m : O3) : tOpTurns o m = some (.bool true) := by
  unfold tOpTurns
  by_cases ho : o.ck = 0
  · have hu := (O3.ck_zero.1 ho).2.2
    by_cases h0 : o.r.ordI = 0
    · have hk := (M3.kind_zero hu).2 h0
      have e1 : o.ordE = 9 := by unfold O3.ordE; rw [ho, h0]; rfl
      have e2 : o.ordF = 0 := by unfold O3.ordF; rw [ho, h0]; rfl
      have e3 : o.kindE = 9 := by unfold O3.kindE M3.kindE; rw [ho, hk]; rfl
      rw [e1, e2, e3]; rfl
    · obtain ⟨a1, a2, a3, a4⟩ := O3.same (b := o) ho ho rfl rfl h0 (fun _ => Iff.rfl)
      obtain ⟨n, e1, g1, hn⟩ := O3.ord_spec ho h0
      have hpos := g1.1
      have d1 : decide (o.ordF < 1) = false := by simp; omega
      have d2 : decide (o.ordF > 144) = false := by simp; omega
      have d3 : turnI o O3.one o.ordF 1 = true := turnI_iff.2 ⟨ho, O3.ck_one, h0, rfl, by omega, by omega, rfl⟩
      have d4 : decide (o.ordF ≤ 144) = true := by simp; omega
      rw [a1, a2, d1, d2, onO_true (by rw [d3, d4]; rfl)]
      show turn1 o m o.ordF o.kindF = _
      unfold turn1
      rcases powL_err ho (o.ordF + 1 - 1).toNat O3.one O3.ck_one with h | h
      · rw [h]; exact turn2_true ho h0
      · rw [h]; rfl
  · have e1 : o.ordE = o.ck := by unfold O3.ordE; rw [(bif_beq ho).1]; rfl
    have e2 : o.ordF = 0 := by unfold O3.ordF; rw [(bif_beq ho).1]; rfl
    rw [e1, e2, (bif_beq ho).2]
    rcases O3.ck_cases o with h | h | h <;> simp [h]
end Go.Proofs.Ytlkmphmiegegbaa.Vx
