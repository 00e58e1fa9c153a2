/-
  How often a map must be done: what op.Order and the document's answer come to. Nothing here is trusted.
-/
import Derived.Test.YtloanoibojmlgaaPowT
import Derived.Test.YtloanoibojmlgaaVecT
namespace Go.Proofs.Ytloanoibojmlgaa.Vx
open Go

/-! ## Orders by traces -/
def M3.sm (m : M3) : Int := m.adj.tr
theorem M3.alg (m : M3) : Alg m.a m.b m.c m.d m.e m.f m.g m.h m.i (m.mul m).a (m.mul m).b (m.mul m).c (m.mul m).d (m.mul m).e (m.mul m).f (m.mul m).g (m.mul m).h (m.mul m).i m.adj.a m.adj.b m.adj.c m.adj.d m.adj.e m.adj.f m.adj.g m.adj.h m.adj.i m.tr m.sm m.det :=
  Go.Proofs.Ytloanoibojmlgaa.alg m.a m.b m.c m.d m.e m.f m.g m.h m.i
theorem M3.eq_iff {m n : M3} : m = n ↔ (m.a = n.a ∧ m.b = n.b ∧ m.c = n.c ∧ m.d = n.d ∧ m.e = n.e ∧ m.f = n.f ∧ m.g = n.g ∧ m.h = n.h ∧ m.i = n.i) := ⟨fun h => by subst h; simp, M3.ext'⟩
theorem M3.adj_inv {m : M3} (hd : m.det = 1) : m.adj = m.inv := by unfold M3.inv; rw [hd, M3.smul_one]
theorem M3.pow3 (m : M3) : m.pow 3 = m.mul (m.mul m) := by simp only [M3.pow]; rw [M3.mul_one]
theorem M3.tr3 {m : M3} (hd : m.det = 1) (h1 : m ≠ M3.one) : m.pow 3 = M3.one ↔ m.tr = 0 ∧ m.sm = 0 := by
  have hu : m.U := Or.inl hd
  have e := E3 m.alg (Or.inl hd) (fun h => h1 (M3.eq_iff.2 h))
  rw [hd] at e
  simp only [Int.one_mul, and_true] at e
  rw [← e, M3.pow3, ← M3.mul_inv hu, ← M3.cancel_iff hu, ← M3.adj_inv hd, M3.eq_iff]
theorem M3.tr4 {m : M3} (hd : m.det = 1) (h2 : m.pow 2 ≠ M3.one) : m.pow 4 = M3.one ↔ m.tr = 1 ∧ m.sm = 1 := by
  have hu : m.U := Or.inl hd
  have e := E4 m.alg (Or.inl hd) (fun h => h2 (by rw [M3.pow2]; exact M3.eq_iff.2 h))
  rw [hd] at e
  have k : m.pow 4 = M3.one ↔ m.mul m = m.adj.mul m.adj := by
    rw [M3.adj_inv hd]
    conv => rhs; rw [M3.cancel_iff hu, ← M3.mul_assoc m m.inv, M3.mul_inv hu, M3.one_mul, M3.cancel_iff hu, M3.mul_inv hu]
    simp only [M3.pow]; rw [M3.mul_one]
  rw [k, M3.eq_iff]
  refine Iff.trans (show _ ↔ _ from Iff.rfl) (e.trans ?_)
  omega
theorem M3.tr6 {m : M3} (hd : m.det = 1) (h2 : m.pow 2 ≠ M3.one) (h3 : ¬ (m.tr = 0 ∧ m.sm = 0)) : m.pow 6 = M3.one ↔ m.tr = 2 ∧ m.sm = 2 := by
  have hu : m.U := Or.inl hd
  have e := E6 m.alg (Or.inl hd) (fun h => h2 (by rw [M3.pow2]; exact M3.eq_iff.2 h)) (fun h => h3 ⟨h.1, h.2.1⟩)
  rw [hd] at e
  have k : m.pow 6 = M3.one ↔ (m.mul m).mul (m.mul m) = m.adj.mul m.adj := by
    rw [M3.adj_inv hd]
    conv => rhs; rw [M3.cancel_iff hu, ← M3.mul_assoc m m.inv, M3.mul_inv hu, M3.one_mul, M3.cancel_iff hu, M3.mul_inv hu]
    simp only [M3.pow]; rw [M3.mul_one, M3.mul_assoc m m]
  rw [k, M3.eq_iff]
  refine Iff.trans (show _ ↔ _ from Iff.rfl) (e.trans ?_)
  omega
theorem M3.tr2 {m : M3} (hd : m.det = 1) (h1 : m ≠ M3.one) (h2 : m.pow 2 = M3.one) : m.tr = -1 ∧ m.sm = -1 := by
  have hu : m.U := Or.inl hd
  rw [M3.pow2] at h2
  have hi : m.adj = m := by rw [M3.adj_inv hd]; exact (M3.inv_unique hu h2).symm
  have hs : m.sm = m.tr := by unfold M3.sm; rw [hi]
  have ha := m.alg
  have c0 := ha.ch0; have c1 := ha.ch1; have c2 := ha.ch2; have c3 := ha.ch3; have c4 := ha.ch4; have c5 := ha.ch5; have c6 := ha.ch6; have c7 := ha.ch7; have c8 := ha.ch8
  rw [hi, h2] at c0 c1 c2 c3 c4 c5 c6 c7 c8
  simp only [M3.one] at c0 c1 c2 c3 c4 c5 c6 c7 c8
  rw [hs] at c0 c1 c2 c3 c4 c5 c6 c7 c8 ⊢
  have hz : m.tr + 1 = 0 := by
    by_cases hne : m.tr + 1 = 0
    · exact hne
    · exfalso
      apply h1
      have z : ∀ x : Int, (m.tr + 1) * x = 0 → x = 0 := fun x hx => (Int.mul_eq_zero.1 hx).resolve_left hne
      refine M3.ext' ⟨?_, ?_, ?_, ?_, ?_, ?_, ?_, ?_, ?_⟩ <;> simp only [M3.one]
      · have := z (m.a - 1) (by grind); omega
      · exact z m.b (by grind)
      · exact z m.c (by grind)
      · exact z m.d (by grind)
      · have := z (m.e - 1) (by grind); omega
      · exact z m.f (by grind)
      · exact z m.g (by grind)
      · exact z m.h (by grind)
      · have := z (m.i - 1) (by grind); omega
  omega
theorem W_tr {m : M3} {k : Int} (h : m.Bd k) (hk : k ≤ 1000000000000) : W m.tr = m.tr := by
  unfold M3.Bd at h
  unfold M3.tr
  exact W_in (by omega)
theorem M3.rotW_eq {m : M3} (hok : m.ok = true) (hd : m.det = 1) : m.rotW = m.ordI := by
  have hu : m.U := Or.inl hd
  have hb := M3.ok_iff.1 hok
  have hi := hb.inv hu
  have e1 : m.inv.w.tr = m.sm := by rw [M3.w_eq (hi.mono (by omega)), ← M3.adj_inv hd]; rfl
  have e2 : W m.sm = m.sm := by
    have : m.sm = m.inv.tr := by rw [← M3.adj_inv hd]; rfl
    rw [this]; exact W_tr hi (by omega)
  have e3 : (m.mul m).w = m.mul m := M3.w_eq ((hb.mul hb).mono (by omega))
  unfold M3.rotW M3.ordI
  rw [W_tr hb (by omega), e1, e2, e3, ← M3.pow2]
  by_cases h1 : m = M3.one
  · subst h1; decide
  · have f1 := M3.eqB_false.2 h1
    rw [f1]
    by_cases h2 : m.pow 2 = M3.one
    · obtain ⟨t1, t2⟩ := M3.tr2 hd h1 h2
      rw [M3.eqB_iff.2 h2, t1, t2]; rfl
    · rw [M3.eqB_false.2 h2]
      by_cases h3 : m.tr = 0 ∧ m.sm = 0
      · rw [M3.eqB_iff.2 ((M3.tr3 hd h1).2 h3), h3.1, h3.2]; rfl
      · have g3 : m.pow 3 ≠ M3.one := fun h => h3 ((M3.tr3 hd h1).1 h)
        rw [M3.eqB_false.2 g3]
        by_cases h4 : m.tr = 1 ∧ m.sm = 1
        · rw [M3.eqB_iff.2 ((M3.tr4 hd h2).2 h4), h4.1, h4.2]; rfl
        · have g4 : m.pow 4 ≠ M3.one := fun h => h4 ((M3.tr4 hd h2).1 h)
          rw [M3.eqB_false.2 g4]
          by_cases h6 : m.tr = 2 ∧ m.sm = 2
          · rw [M3.eqB_iff.2 ((M3.tr6 hd h2 h3).2 h6), h6.1, h6.2]; rfl
          · have g6 : m.pow 6 ≠ M3.one := fun h => h6 ((M3.tr6 hd h2 h3).1 h)
            rw [M3.eqB_false.2 g6]
            by_cases hts : m.tr = m.sm
            · rw [← hts] at h3 h4 h6 ⊢
              have a0 : (m.tr == 0) = false := by simp; omega
              have a1 : (m.tr == 1) = false := by simp; omega
              have a2 : (m.tr == 2) = false := by simp; omega
              rw [a0, a1, a2]
              cases m.tr == 3 <;> cases m.tr == -1 <;> simp
            · have : (m.tr != m.sm) = true := by simpa using hts
              rw [this]; rfl
theorem M3.kindW_eq {m : M3} (hok : m.ok = true) (hu : m.U) : m.kindW = m.kindF := by
  unfold M3.kindW M3.kindF
  rw [Wdet hok]
  rcases hu with hd | hd
  · rw [hd, M3.rotW_eq hok hd]; rfl
  · rw [hd, M3.negW_eq (M3.ok_iff.1 hok), M3.rotW_eq (M3.neg_ok hok) (by rw [M3.det_neg, hd]; rfl)]
    have := M3.ordI_bd m.neg
    rw [W_in (by omega), Int.zero_sub]; rfl
/-! ## The order of a matrix of determinant -1 -/
theorem M3.neg_mul_neg (m n : M3) : m.neg.mul n.neg = m.mul n := by
  refine M3.ext' ⟨?_, ?_, ?_, ?_, ?_, ?_, ?_, ?_, ?_⟩ <;> (simp only [M3.mul, M3.neg]; grind)
theorem M3.pow_2 (m : M3) (k : Nat) : m.pow (2 * k) = (m.mul m).pow k := by
  induction k with
  | zero => rfl
  | succ k ih => rw [show 2 * (k + 1) = 2 * k + 1 + 1 by omega]; simp only [M3.pow]; rw [ih, M3.mul_assoc]
theorem M3.neg_pow (m : M3) (k : Nat) : m.neg.pow (2 * k) = m.pow (2 * k) := by rw [M3.pow_2, M3.pow_2, M3.neg_mul_neg]
theorem M3.det_pow_odd {m : M3} (hd : m.det = -1) : ∀ k, (m.pow (2 * k + 1)).det = -1
  | 0 => by simp only [M3.pow]; rw [M3.mul_one]; exact hd
  | k + 1 => by
    rw [show 2 * (k + 1) + 1 = (2 * k + 1) + 1 + 1 by omega]
    simp only [M3.pow] at *
    rw [M3.det_mul, M3.det_mul, hd]
    have := M3.det_pow_odd hd k
    simp only [M3.pow] at this
    rw [this]; rfl
theorem M3.odd_ne {m : M3} (hd : m.det = -1) (k : Nat) : m.pow (2 * k + 1) ≠ M3.one := fun h => by
  have := M3.det_pow_odd hd k
  rw [h, M3.det_one] at this
  omega
theorem orderOf_eq {m : M3} (hu : m.U) : orderOfI m.kindF = m.ordI := by
  unfold M3.kindF
  rcases hu with hd | hd
  · rw [hd]
    simp only [beq_self_eq_true, cond_true]
    have := M3.ordI_bd m
    unfold orderOfI
    by_cases h0 : m.ordI = 0
    · rw [h0]; rfl
    · have : decide (m.ordI > 0) = true := by simp; omega
      rw [this]; rfl
  · have hne : (m.det == 1) = false := by rw [hd]; rfl
    rw [hne]
    simp only [cond_false]
    have key : ∀ k, m.pow (2 * k) = M3.one ↔ m.neg.pow (2 * k) = M3.one := fun k => by rw [M3.neg_pow]
    by_cases h0 : m.neg.ordI = 0
    · rw [h0]
      have hz : m.ordI = 0 := by
        by_cases hz : m.ordI = 0
        · exact hz
        · exfalso
          obtain ⟨n, h1, h2, h3⟩ := M3.ordI_spec hz
          have hp := h2.2.1
          have hev : ∃ k, n = 2 * k ∧ (k = 1 ∨ k = 2 ∨ k = 3) := by
            rcases h3 with rfl | rfl | rfl | rfl | rfl
            · exact absurd hp (M3.odd_ne hd 0)
            · exact ⟨1, rfl, by omega⟩
            · exact absurd hp (M3.odd_ne hd 1)
            · exact ⟨2, rfl, by omega⟩
            · exact ⟨3, rfl, by omega⟩
          obtain ⟨k, rfl, hk⟩ := hev
          have hq := (key k).1 hp
          have : m.neg.ordI ≠ 0 := by
            unfold M3.ordI
            cases a1 : m.neg.eqB M3.one with
            | true => simp
            | false =>
              rcases hk with rfl | rfl | rfl
              · rw [M3.eqB_iff.2 hq]; simp
              · cases (m.neg.pow 2).eqB M3.one <;> cases (m.neg.pow 3).eqB M3.one <;> simp [M3.eqB_iff.2 hq]
              · cases (m.neg.pow 2).eqB M3.one <;> cases (m.neg.pow 3).eqB M3.one <;> cases (m.neg.pow 4).eqB M3.one <;> simp [M3.eqB_iff.2 hq]
          exact this h0
      rw [hz]; rfl
    · obtain ⟨n, h1, h2, h3⟩ := M3.ordI_spec h0
      have hord : ∀ N : Nat, (∀ k, N ∣ 2 * k ↔ n ∣ 2 * k) → (∃ k, N = 2 * k) → 0 < N → m.IsOrd N := by
        intro N hN hev hpos
        obtain ⟨k, hk⟩ := hev
        refine ⟨hpos, ?_, fun j j1 j2 hj => ?_⟩
        · rw [hk, key, h2.dvd, ← hN, hk]; exact Nat.dvd_refl _
        · have hp : j = 2 * (j / 2) ∨ j = 2 * (j / 2) + 1 := by omega
          rcases hp with hp | hp
          · rw [hp, key, h2.dvd, ← hN] at hj
            have := Nat.le_of_dvd (by omega) hj
            omega
          · rw [hp] at hj; exact M3.odd_ne hd _ hj
      rw [h1]
      rcases h3 with rfl | rfl | rfl | rfl | rfl
      · rw [M3.ordI_of (hord 2 (fun k => by omega) ⟨1, rfl⟩ (by omega)) (by omega)]; rfl
      · rw [M3.ordI_of (hord 2 (fun k => by omega) ⟨1, rfl⟩ (by omega)) (by omega)]; rfl
      · rw [M3.ordI_of (hord 6 (fun k => by omega) ⟨3, rfl⟩ (by omega)) (by omega)]; rfl
      · rw [M3.ordI_of (hord 4 (fun k => Iff.rfl) ⟨2, rfl⟩ (by omega)) (by omega)]; rfl
      · rw [M3.ordI_of (hord 6 (fun k => Iff.rfl) ⟨3, rfl⟩ (by omega)) (by omega)]; rfl
/-! ## Sums of translations -/
def sendL (o : O3) : Nat → V3 → V3
  | 0, s => s
  | k + 1, s => sendL o k (o.send s)
/-- The document's: the sum, and the next of its terms. -/
def docL (o : O3) : Nat → V3 × V3 → V3 × V3
  | 0, x => x
  | k + 1, x => docL o k (((x.1.add x.2).w).md 24, ((o.r.app x.2).w).md 24)
def V3.eq24 (u v : V3) : Prop := u.md 24 = v.md 24
theorem app_md (m : M3) (v : V3) : (m.app (v.md 24)).md 24 = (m.app v).md 24 := by
  unfold M3.app V3.md
  simp only [V3.mk.injEq]
  refine ⟨?_, ?_, ?_⟩ <;> simp [Int.add_emod, Int.mul_emod]
theorem md_add_md2 (u v : V3) : ((u.md 24).add (v.md 24)).md 24 = (u.add v).md 24 := by
  unfold V3.md V3.add
  simp only [V3.mk.injEq]
  omega
theorem V3.add_comm (u v : V3) : u.add v = v.add u := by unfold V3.add; simp only [V3.mk.injEq]; omega
theorem V3.add_assoc (u v x : V3) : (u.add v).add x = u.add (v.add x) := by unfold V3.add; simp only [V3.mk.injEq]; omega
/-- Sums of the first powers' translations. -/
def sumP (o : O3) : Nat → V3
  | 0 => V3.zero
  | k + 1 => (sumP o k).add ((o.r.pow k).app o.t)
theorem sumP_front (o : O3) : ∀ k, ((o.r.app (sumP o k)).add o.t) = sumP o (k + 1)
  | 0 => by
    simp only [sumP, M3.pow]
    rw [M3.app_one]
    unfold M3.app V3.zero V3.add
    simp
  | k + 1 => by
    rw [sumP, M3.app_add, V3.add_assoc, V3.add_comm _ o.t, ← V3.add_assoc, sumP_front o k, ← M3.app_mul]
    rfl
theorem V3.bd_md (v : V3) : (v.md 24).Bd 24 := by unfold V3.Bd V3.md; simp only; omega
theorem send_sum {o : O3} (ho : o.r.ok = true) : ∀ (k j : Nat), sendL o k ((sumP o j).md 24) = (sumP o (j + k)).md 24
  | 0, j => rfl
  | k + 1, j => by
    simp only [sendL]
    rw [O3.send_eq ho (V3.part_ok (V3.md_part _)), ← md_add_md, app_md, md_add_md, sumP_front, send_sum ho k (j + 1)]
    congr 2; omega
theorem doc_sum {o : O3} (ho : o.r.ok = true) : ∀ (k j : Nat), (docL o k ((sumP o j).md 24, ((o.r.pow j).app o.t).md 24)).1 = (sumP o (j + k)).md 24
  | 0, j => rfl
  | k + 1, j => by
    simp only [docL]
    have b1 : (((sumP o j).md 24).add (((o.r.pow j).app o.t).md 24)).Bd 48 := (V3.bd_md _).add (V3.bd_md _)
    have b2 : (o.r.app (((o.r.pow j).app o.t).md 24)).Bd (3 * (1000 * 24)) := (M3.ok_iff.1 ho).app (V3.bd_md _)
    rw [V3.w_eq (b1.mono (by omega)), V3.w_eq (b2.mono (by omega)), md_add_md2, app_md, ← M3.app_mul]
    have := doc_sum ho k (j + 1)
    simp only [sumP, M3.pow] at this
    rw [this]
    congr 2; omega
/-! ## How often a translation -/
def findM (s : V3) : Nat → Int → Int
  | 0, n => n
  | k + 1, n => match ((s.smul n).md 24).eqB V3.zero with
    | true => n
    | false => findM s k (n + 1)
theorem hit_iff (s : V3) (n : Int) : ((s.smul n).md 24).eqB V3.zero = true ↔ 24 ∣ n * s.x ∧ 24 ∣ n * s.y ∧ 24 ∣ n * s.z := by
  rw [V3.eqB_iff]
  unfold V3.smul V3.md V3.zero
  simp only [V3.mk.injEq, Int.dvd_iff_emod_eq_zero]
theorem findM_of {s : V3} {d : Int} (hd : ∀ n : Int, 0 < n → (((s.smul n).md 24).eqB V3.zero = true ↔ d ∣ n)) (hpos : 0 < d) : ∀ (k : Nat) (n : Int), 0 < n → n ≤ d → d ≤ n + k → findM s k n = d
  | 0, n, h0, h1, h2 => by simp only [findM]; omega
  | k + 1, n, h0, h1, h2 => by
    simp only [findM]
    cases hc : ((s.smul n).md 24).eqB V3.zero with
    | true =>
      have := (hd n h0).1 hc
      have := Int.le_of_dvd h0 this
      simp only; omega
    | false =>
      simp only
      have hne : n ≠ d := fun e => by
        subst e
        have := (hd n h0).2 (Int.dvd_refl _)
        rw [hc] at this; cases this
      exact findM_of hd hpos k (n + 1) (by omega) (by omega) (by omega)
theorem dvd_gcd_mul {a n x y : Int} (hx : a ∣ n * x) (hy : a ∣ n * y) : a ∣ n * (Int.gcd x y : Int) := by
  have h : a ∣ (Int.gcd (n * x) (n * y) : Int) := Int.dvd_coe_gcd hx hy
  rw [Int.gcd_mul_left] at h
  have h2 : ((n.natAbs * Int.gcd x y : Nat) : Int) = (n.natAbs : Int) * (Int.gcd x y : Int) := by simp
  rw [h2] at h
  rcases Int.natAbs_eq n with e | e
  · rw [e]; exact h
  · rw [e, Int.neg_mul]; exact Int.dvd_neg.2 h
def gcd3 (s : V3) : Int := (Int.gcd (Int.gcd (Int.gcd 24 s.x : Int) s.y : Int) s.z : Int)
theorem gcd3_spec (s : V3) : gcd3 s ∣ 24 ∧ gcd3 s ∣ s.x ∧ gcd3 s ∣ s.y ∧ gcd3 s ∣ s.z ∧ 0 < gcd3 s := by
  have a1 : gcd3 s ∣ (Int.gcd (Int.gcd 24 s.x : Int) s.y : Int) := Int.gcd_dvd_left ..
  have a2 : gcd3 s ∣ s.z := Int.gcd_dvd_right ..
  have b1 : (Int.gcd (Int.gcd 24 s.x : Int) s.y : Int) ∣ (Int.gcd 24 s.x : Int) := Int.gcd_dvd_left ..
  have b2 : (Int.gcd (Int.gcd 24 s.x : Int) s.y : Int) ∣ s.y := Int.gcd_dvd_right ..
  have c1 : (Int.gcd 24 s.x : Int) ∣ 24 := Int.gcd_dvd_left ..
  have c2 : (Int.gcd 24 s.x : Int) ∣ s.x := Int.gcd_dvd_right ..
  have d1 := Int.dvd_trans a1 (Int.dvd_trans b1 c1)
  refine ⟨d1, Int.dvd_trans a1 (Int.dvd_trans b1 c2), Int.dvd_trans a1 b2, a2, ?_⟩
  have h0 : 0 ≤ gcd3 s := by unfold gcd3; omega
  rcases Int.lt_or_eq_of_le h0 with h | h
  · exact h
  · rw [← h] at d1
    obtain ⟨q, hq⟩ := d1
    rw [Int.zero_mul] at hq
    omega
theorem find_eq (s : V3) : findM s 23 1 = 24 / gcd3 s := by
  obtain ⟨g0, g1, g2, g3, gp⟩ := gcd3_spec s
  obtain ⟨d, hd⟩ := g0
  have hdd : (24 : Int) / gcd3 s = d := by rw [hd]; exact Int.mul_ediv_cancel_left d (by omega)
  rw [hdd]
  have dpos : 0 < d := by
    rcases Int.lt_or_le 0 d with h | h
    · exact h
    · have := Int.mul_nonpos_of_nonneg_of_nonpos (Int.le_of_lt gp) h
      omega
  have dle : d ≤ 24 := by
    have : d ∣ 24 := ⟨gcd3 s, by rw [hd, Int.mul_comm]⟩
    exact Int.le_of_dvd (by omega) this
  refine findM_of ?_ dpos 23 1 (by omega) (by omega) (by omega)
  intro n hn
  rw [hit_iff]
  constructor
  · rintro ⟨h1, h2, h3⟩
    have k1 : (24 : Int) ∣ n * (Int.gcd 24 s.x : Int) := dvd_gcd_mul ⟨n, by rw [Int.mul_comm]⟩ h1
    have k2 := dvd_gcd_mul k1 h2
    have k3 := dvd_gcd_mul k2 h3
    obtain ⟨q, hq⟩ := k3
    have : gcd3 s * n = gcd3 s * (d * q) := by
      rw [Int.mul_comm, ← Int.mul_assoc, ← hd]; exact hq
    exact ⟨q, Int.eq_of_mul_eq_mul_left (by omega) this⟩
  · rintro ⟨q, rfl⟩
    have k : ∀ x : Int, gcd3 s ∣ x → 24 ∣ d * q * x := by
      rintro x ⟨y, rfl⟩
      exact ⟨q * y, by rw [hd]; grind⟩
    exact ⟨k _ g1, k _ g2, k _ g3⟩
/-! ## Order -/
def O3.sum (o : O3) (n : Nat) : V3 := (sumP o n).md 24
def O3.ordF (o : O3) : Int := bif o.ck == 0 then (bif o.r.ordI == 0 then 0 else o.r.ordI * (24 / gcd3 (o.sum o.r.ordI.toNat))) else 0
def O3.ordE (o : O3) : Int := bif o.ck == 0 then (bif o.r.ordI == 0 then 9 else 0) else o.ck
def fOOrder (o : O3) : Value := p2 (vI o.ordF) (vI o.ordE)
def rng24 (n : Int) : Bool := decide (1 ≤ n) && decide (n ≤ 24)
def tOOrder (o : O3) : Option Value := match o.ck != 0 with
  | true => some (p2 (vI 0) (vI o.ck))
  | false => match o.r.ordE != 0 with
    | true => some (p2 (vI 0) (vI o.r.ordE))
    | false => onO (rngB 0 o.r.ordF) (onO (rng24 1) (some (p2 (vI (W (o.r.ordF * findM (sendL o (o.r.ordF - 0).toNat V3.zero) (24 - 1 : Int).toNat 1))) (vI 0))))
theorem gcd3_div (s : V3) : 1 ≤ 24 / gcd3 s ∧ 24 / gcd3 s ≤ 24 := by
  obtain ⟨⟨d, hd⟩, _, _, _, gp⟩ := gcd3_spec s
  have hdd : (24 : Int) / gcd3 s = d := by rw [hd]; exact Int.mul_ediv_cancel_left d (by omega)
  rw [hdd]
  have dpos : 0 < d := by
    rcases Int.lt_or_le 0 d with h | h
    · exact h
    · have := Int.mul_nonpos_of_nonneg_of_nonpos (Int.le_of_lt gp) h
      omega
  have : d ∣ 24 := ⟨gcd3 s, by rw [hd, Int.mul_comm]⟩
  exact ⟨by omega, Int.le_of_dvd (by omega) this⟩
theorem ord_ff {o : O3} (h : o.ck = 0) : o.r.ordF = o.r.ordI ∧ o.r.ordE = bif o.r.ordI == 0 then 9 else 0 := by
  obtain ⟨_, a2, a3⟩ := O3.ck_zero.1 h
  unfold M3.ordF M3.ordE
  rw [M3.form_zero.2 ⟨a2, a3⟩]; exact ⟨rfl, rfl⟩
theorem sumP_zero (o : O3) : (sumP o 0).md 24 = V3.zero := rfl
theorem tOOrder_eq (o : O3) : tOOrder o = some (fOOrder o) := by
  unfold tOOrder fOOrder O3.ordF O3.ordE
  by_cases h : o.ck = 0
  · obtain ⟨_, a2, a3⟩ := O3.ck_zero.1 h
    rw [(ord_ff h).1, (ord_ff h).2, h]
    by_cases h0 : o.r.ordI = 0
    · rw [h0]; rfl
    · have hb := M3.ordI_bd o.r
      have e0 : (o.r.ordI == 0) = false := by simpa using h0
      rw [e0]
      have hr : rngB 0 o.r.ordI = true := rngB_iff.2 (by omega)
      simp only [bne_self_eq_false, beq_self_eq_true, cond_true, cond_false]
      rw [onO_true hr, onO_true (by decide), show (o.r.ordI - 0).toNat = o.r.ordI.toNat by omega]
      have hs : sendL o o.r.ordI.toNat V3.zero = o.sum o.r.ordI.toNat := by
        have := send_sum a2 o.r.ordI.toNat 0
        rw [sumP_zero, Nat.zero_add] at this; exact this
      rw [hs, show (24 - 1 : Int).toNat = 23 from rfl, find_eq]
      have hg := gcd3_div (o.sum o.r.ordI.toNat)
      have := bd_mul (m := 6) (n := 24) (x := o.r.ordI) (y := 24 / gcd3 (o.sum o.r.ordI.toNat)) (by omega) (by omega)
      rw [W_in (by omega)]
  · rw [(bif_beq h).1, (bif_beq h).2]; rfl
def posB (a : Int) : Bool := decide (0 ≤ a)
def tGcd (a b : Int) : Option Value := onO (posB a && posB b) (some (vI (Int.gcd a b : Int)))
theorem tGcd_eq {a b : Int} (h : (posB a && posB b) = true) : tGcd a b = some (vI (Int.gcd a b : Int)) := by unfold tGcd; rw [onO_true h]
def docEnd (n : Int) (s : V3) : Option Value :=
  onO (posB 24 && posB s.x) (onO (posB (Int.gcd 24 s.x : Int) && posB s.y) (onO (posB (Int.gcd (Int.gcd 24 s.x : Int) s.y : Int) && posB s.z)
    (match gcd3 s == 0 with
      | true => none
      | false => some (p2 (vI (W (n * W (Int.tdiv 24 (gcd3 s))))) (vI 0)))))
def tDocOrder (o : O3) : Option Value := match o.ck != 0 with
  | true => some (p2 (vI 0) (vI o.ck))
  | false => match orderOfI o.r.kindW == 0 with
    | true => some (p2 (vI 0) (vI 9))
    | false => onO (rngB 0 (orderOfI o.r.kindW)) (docEnd (orderOfI o.r.kindW) (docL o (orderOfI o.r.kindW - 0).toNat (V3.zero, o.t)).1)
theorem posB_gcd (a b : Int) : posB (Int.gcd a b : Int) = true := by unfold posB; simp
theorem tDocOrder_eq (o : O3) : tDocOrder o = some (fOOrder o) := by
  unfold tDocOrder fOOrder O3.ordF O3.ordE
  by_cases h : o.ck = 0
  · obtain ⟨a1, a2, a3⟩ := O3.ck_zero.1 h
    rw [M3.kindW_eq a2 a3, orderOf_eq a3, h]
    by_cases h0 : o.r.ordI = 0
    · rw [h0]; rfl
    · have hb := M3.ordI_bd o.r
      have e0 : (o.r.ordI == 0) = false := by simpa using h0
      rw [e0]
      have hr : rngB 0 o.r.ordI = true := rngB_iff.2 (by omega)
      simp only [bne_self_eq_false, beq_self_eq_true, cond_true, cond_false]
      rw [onO_true hr, show (o.r.ordI - 0).toNat = o.r.ordI.toNat by omega]
      have hs : (docL o o.r.ordI.toNat (V3.zero, o.t)).1 = o.sum o.r.ordI.toNat := by
        have := doc_sum a2 o.r.ordI.toNat 0
        rw [sumP_zero, Nat.zero_add] at this
        simp only [M3.pow] at this
        rw [M3.app_one, V3.part_md a1] at this
        exact this
      rw [hs]
      unfold docEnd
      have hp := V3.part_iff.1 (show (o.sum o.r.ordI.toNat).part = true from V3.md_part _)
      have q1 : posB (o.sum o.r.ordI.toNat).x = true := by unfold posB; simp; omega
      have q2 : posB (o.sum o.r.ordI.toNat).y = true := by unfold posB; simp; omega
      have q3 : posB (o.sum o.r.ordI.toNat).z = true := by unfold posB; simp; omega
      rw [posB_gcd, posB_gcd, q1, q2, q3]
      obtain ⟨g0, _, _, _, gp⟩ := gcd3_spec (o.sum o.r.ordI.toNat)
      have hne : (gcd3 (o.sum o.r.ordI.toNat) == 0) = false := by simp; omega
      rw [hne]
      have hg := gcd3_div (o.sum o.r.ordI.toNat)
      have htd : Int.tdiv 24 (gcd3 (o.sum o.r.ordI.toNat)) = 24 / gcd3 (o.sum o.r.ordI.toNat) := Int.tdiv_eq_ediv_of_nonneg (by omega)
      have := bd_mul (m := 6) (n := 24) (x := o.r.ordI) (y := 24 / gcd3 (o.sum o.r.ordI.toNat)) (by omega) (by omega)
      rw [htd, W_in (n := 24 / gcd3 (o.sum o.r.ordI.toNat)) (by omega), W_in (by omega)]
      rfl
  · rw [(bif_beq h).1, (bif_beq h).2]; rfl
def tDocKind (o : O3) : Option Value := match o.ck != 0 with
  | true => some (p2 (vI 0) (vI o.ck))
  | false => match o.r.kindW == 0 with
    | true => some (p2 (vI 0) (vI 9))
    | false => some (p2 (vI o.r.kindW) (vI 0))
theorem tDocKind_eq (o : O3) : tDocKind o = some (fKind o) := by
  unfold tDocKind fKind O3.kindF O3.kindE M3.kindE
  by_cases h : o.ck = 0
  · obtain ⟨a1, a2, a3⟩ := O3.ck_zero.1 h
    rw [M3.kindW_eq a2 a3, h]
    by_cases h0 : o.r.kindF = 0
    · rw [h0]; rfl
    · rw [(bif_beq h0).1]; rfl
  · rw [(bif_beq h).1, (bif_beq h).2]; rfl
end Go.Proofs.Ytloanoibojmlgaa.Vx
