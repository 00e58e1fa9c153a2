/-
  Maps taken together, undone, and places led by them. No program in sight. Nothing here is trusted.
-/
import Derived.Test.YtloanoibojmlgaaOrdT
namespace Go.Proofs.Ytloanoibojmlgaa.Vx
open Go

theorem md_app_add (m : M3) (u v : V3) : ((m.app (u.md 24)).add v).md 24 = ((m.app u).add v).md 24 := by
  rw [← md_add_md, app_md, md_add_md]
theorem V3.md_add_right (u v : V3) : (u.add (v.md 24)).md 24 = (u.add v).md 24 := by rw [V3.add_comm, md_add_md, V3.add_comm]
theorem O3.ext' {a b : O3} (h1 : a.r = b.r) (h2 : a.t = b.t) : a = b := by cases a; cases b; simp only at h1 h2; rw [h1, h2]
theorem O3.mul_assoc (a b c : O3) : (a.mul b).mul c = a.mul (b.mul c) := by
  refine O3.ext' (M3.mul_assoc _ _ _) ?_
  simp only [O3.mul]
  rw [md_app_add, M3.app_add, ← M3.app_mul, V3.md_add_right, V3.add_assoc]
theorem V3.zero_add (v : V3) : V3.zero.add v = v := by unfold V3.add V3.zero; simp
theorem M3.app_zero (m : M3) : m.app V3.zero = V3.zero := by unfold M3.app V3.zero; simp
theorem O3.mul_one {a : O3} (h : a.t.part = true) : a.mul O3.one = a := by
  refine O3.ext' (M3.mul_one _) ?_
  simp only [O3.mul, O3.one]
  rw [M3.app_zero, V3.zero_add, V3.part_md h]
theorem O3.one_mul {a : O3} (h : a.t.part = true) : O3.one.mul a = a := by
  refine O3.ext' (M3.one_mul _) ?_
  simp only [O3.mul, O3.one]
  rw [M3.app_one, V3.add_zero, V3.part_md h]
theorem V3.neg_add (v : V3) : v.neg.add v = V3.zero := by unfold V3.neg V3.add V3.zero; simp only [V3.mk.injEq]; omega
theorem O3.mul_inv {a : O3} (hu : a.r.U) : a.mul a.inv = O3.one := by
  refine O3.ext' (M3.mul_inv hu) ?_
  simp only [O3.mul, O3.inv, O3.one]
  rw [md_app_add, M3.app_neg, ← M3.app_mul, M3.mul_inv hu, M3.app_one, V3.neg_add]
  rfl
theorem neg_md (v : V3) : ((v.md 24).neg).md 24 = v.neg.md 24 := by unfold V3.md V3.neg; simp only [V3.mk.injEq]; omega
theorem V3.neg_neg (v : V3) : v.neg.neg = v := by unfold V3.neg; simp
theorem V3.add_neg (v : V3) : v.add v.neg = V3.zero := by rw [V3.add_comm, V3.neg_add]
theorem O3.inv_mul {a : O3} (hu : a.r.U) : a.inv.mul a = O3.one := by
  refine O3.ext' (M3.inv_mul hu) ?_
  simp only [O3.mul, O3.inv, O3.one]
  rw [V3.md_add_right, V3.add_neg]
  rfl
theorem O3.inv_inv {a : O3} (hu : a.r.U) (h : a.t.part = true) : a.inv.inv = a := by
  refine O3.ext' (M3.inv_inv hu) ?_
  simp only [O3.inv]
  rw [M3.inv_inv hu, ← neg_md, app_md, neg_md, M3.app_neg, V3.neg_neg, ← M3.app_mul, M3.mul_inv hu, M3.app_one, V3.part_md h]
/-! Places -/
theorem form_m {p : P3} (h : p.form = true) : p.m = 24 * (p.m / 24) ∧ 0 < p.m / 24 := by
  have := (P3.form_spec h).1
  rcases this with e | e | e | e <;> rw [e] <;> decide
theorem O3.app_form {o : O3} {p : P3} (h : p.form = true) : (o.app p).form = true := by
  unfold P3.form at h ⊢
  rw [Bool.and_eq_true] at h
  simp only [O3.app, h.1, md_md, V3.eqB_refl, Bool.and_self]
theorem app_md' (k : Int) (m : M3) (v : V3) : (m.app (v.md k)).md k = (m.app v).md k := by
  unfold M3.app V3.md
  simp only [V3.mk.injEq]
  refine ⟨?_, ?_, ?_⟩ <;> simp [Int.add_emod, Int.mul_emod]
theorem V3.md_add_r (k : Int) (u v : V3) : (u.add (v.md k)).md k = (u.add v).md k := by rw [V3.add_comm, md_add_md, V3.add_comm]
theorem smul_md (k : Int) (v : V3) : ((v.md 24).smul k).md (24 * k) = (v.smul k).md (24 * k) := by
  unfold V3.smul V3.md
  simp only [V3.mk.injEq]
  have key : ∀ x : Int, k * (x % 24) % (24 * k) = k * x % (24 * k) := fun x => by
    have e : x = 24 * (x / 24) + x % 24 := (Int.mul_ediv_add_emod x 24).symm
    have e2 : k * x = k * (x % 24) + (24 * k) * (x / 24) := by
      conv => lhs; rw [e]
      grind
    rw [e2, Int.add_mul_emod_self_left]
  exact ⟨key _, key _, key _⟩
theorem smul_add (k : Int) (u v : V3) : (u.add v).smul k = (u.smul k).add (v.smul k) := by
  unfold V3.smul V3.add; simp only [V3.mk.injEq]; exact ⟨Int.mul_add _ _ _, Int.mul_add _ _ _, Int.mul_add _ _ _⟩
theorem app_smul (k : Int) (m : M3) (v : V3) : m.app (v.smul k) = (m.app v).smul k := by
  unfold V3.smul M3.app; simp only [V3.mk.injEq]; refine ⟨?_, ?_, ?_⟩ <;> grind
theorem O3.app_mul (a b : O3) {p : P3} (h : p.form = true) : (a.mul b).app p = a.app (b.app p) := by
  obtain ⟨hm, _⟩ := form_m h
  unfold O3.app
  simp only [O3.mul, P3.mk.injEq, true_and]
  generalize p.m / 24 = k at *
  rw [hm]
  rw [← md_add_md (24 * k) (a.r.app _), app_md', md_add_md, M3.app_add, app_smul, M3.app_mul, V3.add_assoc, ← smul_add, ← V3.md_add_r _ (a.r.app (b.r.app p.x)), smul_md k, V3.md_add_r]
/-! Closed forms in form -/
theorem O3.mulF_of {a b : O3} (ha : a.ck = 0) (hb : b.ck = 0) (h : a.mulE b = 0) : a.mulF b = a.mul b ∧ (a.mul b).ck = 0 := by
  obtain ⟨e1, e2⟩ := O3.mulF_eq ha hb
  rw [e2] at h
  have hok := O3.smallE_zero.1 h
  exact ⟨by rw [e1, O3.small_ok hok], O3.ck_mul ha hb hok⟩
theorem O3.mul_id {o : O3} (ho : o.ck = 0) : o.mulE O3.one = 0 ∧ o.mulF O3.one = o := by
  obtain ⟨a1, a2, a3⟩ := O3.ck_zero.1 ho
  obtain ⟨e1, e2⟩ := O3.mulF_eq ho O3.ck_one
  rw [O3.mul_one a1] at e1 e2
  exact ⟨e2.trans (O3.smallE_zero.2 a2), e1.trans (O3.small_ok a2)⟩
theorem O3.id_mul {o : O3} (ho : o.ck = 0) : O3.one.mulE o = 0 ∧ O3.one.mulF o = o := by
  obtain ⟨a1, a2, a3⟩ := O3.ck_zero.1 ho
  obtain ⟨e1, e2⟩ := O3.mulF_eq O3.ck_one ho
  rw [O3.one_mul a1] at e1 e2
  exact ⟨e2.trans (O3.smallE_zero.2 a2), e1.trans (O3.small_ok a2)⟩
theorem O3.invF_of {a : O3} (ha : a.ck = 0) (h : a.invE = 0) : a.invF = a.inv ∧ a.inv.ck = 0 := by
  unfold O3.invE at h
  unfold O3.invF
  rw [ha] at h ⊢
  have hok := O3.smallE_zero.1 h
  exact ⟨by rw [O3.small_ok hok]; rfl, O3.ck_inv ha hok⟩
theorem O3.one_ok : O3.one.r.ok = true := by decide
theorem beq_true {x : Int} (h : x = 0) : (x == 0) = true ∧ (x != 0) = false := by subst h; exact ⟨rfl, rfl⟩

/-! The statement's tests, in its order -/
def grp1 (o : O3) (K : Option Value) : Option Value := match !(o.ck == 0) with
  | true => some (.bool true)
  | false => guardF [o.mulE O3.one != 0, O3.one.mulE o != 0, !((o.mulF O3.one).eqB o), !((O3.one.mulF o).eqB o)] K
def grp2 (a b c : O3) (K : Option Value) : Option Value := match a.mulE b == 0 with
  | true => match b.mulE c == 0 with
    | true => guardF [(a.mulF b).mulE c != a.mulE (b.mulF c), !(((a.mulF b).mulF c).eqB (a.mulF (b.mulF c)))] K
    | false => K
  | false => K
def grp3 (a : O3) (K : Option Value) : Option Value := match a.invE == 0 with
  | true => guardF [a.mulE a.invF != 0, a.invF.mulE a != 0, a.invF.invE != 0, !((a.mulF a.invF).eqB O3.one), !((a.invF.mulF a).eqB O3.one), !(a.invF.invF.eqB a)] K
  | false => K
def grp4 (a b : O3) (p : P3) : Option Value := match a.mulE b != 0 with
  | true => some (.bool true)
  | false => match !p.form with
    | true => some (.bool true)
    | false => match (a.mulF b).appE p == 0 with
      | true => match b.appE p == 0 with
        | true => match a.appE (b.appF p) == 0 with
          | true => some (.bool (((a.mulF b).appF p).eqB (a.appF (b.appF p))))
          | false => some (.bool false)
        | false => some (.bool false)
      | false => some (.bool false)
def tOpGroups (a b c : O3) (p : P3) : Option Value := grp1 a (grp1 b (grp1 c (grp2 a b c (grp3 a (grp4 a b p)))))
theorem grp1_true {o : O3} {K : Option Value} (hK : o.ck = 0 → K = some (.bool true)) : grp1 o K = some (.bool true) := by
  unfold grp1
  by_cases h : o.ck = 0
  · obtain ⟨a1, a2⟩ := O3.mul_id h
    obtain ⟨b1, b2⟩ := O3.id_mul h
    rw [a1, a2, b1, b2, h, O3.eqB_refl]
    exact hK h
  · rw [(bif_beq h).1]; rfl
theorem grp2_true {a b c : O3} (ha : a.ck = 0) (hb : b.ck = 0) (hc : c.ck = 0) {K : Option Value} : grp2 a b c K = K := by
  unfold grp2
  by_cases h1 : a.mulE b = 0
  · by_cases h2 : b.mulE c = 0
    · obtain ⟨e1, k1⟩ := O3.mulF_of ha hb h1
      obtain ⟨e2, k2⟩ := O3.mulF_of hb hc h2
      obtain ⟨f1, f2⟩ := O3.mulF_eq k1 hc
      obtain ⟨g1, g2⟩ := O3.mulF_eq ha k2
      rw [e1, e2, f1, f2, g1, g2, O3.mul_assoc, h1, h2, O3.eqB_refl, bne_self_eq_false]
      rfl
    · rw [(beq_true h1).1, (bif_beq h2).1]
  · rw [(bif_beq h1).1]
theorem grp3_true {a : O3} (ha : a.ck = 0) {K : Option Value} : grp3 a K = K := by
  unfold grp3
  obtain ⟨p1, p2, p3⟩ := O3.ck_zero.1 ha
  by_cases h1 : a.invE = 0
  · obtain ⟨e1, k1⟩ := O3.invF_of ha h1
    obtain ⟨f1, f2⟩ := O3.mulF_eq ha k1
    obtain ⟨g1, g2⟩ := O3.mulF_eq k1 ha
    have hii : a.inv.invE = 0 ∧ a.inv.invF = a := by
      unfold O3.invE O3.invF
      rw [k1, O3.inv_inv p3 p1]
      exact ⟨O3.smallE_zero.2 p2, O3.small_ok p2⟩
    have s1 : O3.one.small = O3.one := O3.small_ok O3.one_ok
    have s2 : O3.one.smallE = 0 := O3.smallE_zero.2 O3.one_ok
    rw [e1, f1, f2, g1, g2, hii.1, hii.2, O3.mul_inv p3, O3.inv_mul p3, s1, s2, h1, O3.eqB_refl, O3.eqB_refl]
    rfl
  · rw [(bif_beq h1).1]
theorem O3.appF_of {o : O3} {p : P3} (ho : o.ck = 0) (hp : p.form = true) : o.appE p = 0 ∧ o.appF p = o.app p := by
  have : o.appE p = 0 := by unfold O3.appE; rw [hp, ho]; rfl
  refine ⟨this, ?_⟩
  unfold O3.appF; rw [this]; rfl
theorem grp4_true {a b : O3} {p : P3} (ha : a.ck = 0) (hb : b.ck = 0) : grp4 a b p = some (.bool true) := by
  unfold grp4
  by_cases h1 : a.mulE b = 0
  · obtain ⟨e1, k1⟩ := O3.mulF_of ha hb h1
    cases hp : p.form with
    | false => rw [h1]; rfl
    | true =>
      obtain ⟨x1, x2⟩ := O3.appF_of k1 hp
      obtain ⟨y1, y2⟩ := O3.appF_of hb hp
      obtain ⟨z1, z2⟩ := O3.appF_of ha (O3.app_form (o := b) hp)
      rw [e1, x1, x2, y1, y2, z1, z2, h1, O3.app_mul a b hp, P3.eqB_refl]
      rfl
  · rw [(bif_beq h1).2]
theorem tOpGroups_true (a b c : O3) (p : P3) : tOpGroups a b c p = some (.bool true) := by
  unfold tOpGroups
  refine grp1_true fun ha => grp1_true fun hb => grp1_true fun hc => ?_
  rw [grp2_true ha hb hc, grp3_true ha, grp4_true ha hb]
end Go.Proofs.Ytloanoibojmlgaa.Vx
