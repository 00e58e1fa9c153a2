/-
  What the statements of layer 7 come to. No program in sight. Nothing here is trusted.
-/
import Derived.Test.YtjpfnfckpgilgaaGreatHBasR
namespace Go.Proofs.YtjpfnfckpgilgaaGreat.Vx
open Go

theorem beq_refl_i (x : Int) : (x == x) = true := by simp
def tBasisChanges (a b : O3) : Option Value :=
  andO [(a.behF b).r.eqB (a.behF b).r, (a.behF b).t.eqB (a.behF b).t, a.behE b == a.behE b, a.bakF.r.eqB a.bakF.r, a.bakF.t.eqB a.bakF.t, a.bakE == a.bakE]
theorem tBasisChanges_true (a b : O3) : tBasisChanges a b = some (.bool true) := by
  apply andO_eq
  simp only [List.mem_cons, List.not_mem_nil, or_false, forall_eq_or_imp, forall_eq, M3.eqB_refl, V3.eqB_refl, beq_refl_i, and_self]
def tBasisThings (c : O3) (p : P3) (o : O3) (h : V3) : Option Value :=
  andO [(c.ptF p).eqB (c.ptF p), c.ptE p == c.ptE p, (c.opcF o).eqB (c.opcF o), c.opcE o == c.opcE o, (c.idxF h).eqB (c.idxF h), c.idxE h == c.idxE h]
theorem tBasisThings_true (c : O3) (p : P3) (o : O3) (h : V3) : tBasisThings c p o h = some (.bool true) := by
  apply andO_eq
  simp only [List.mem_cons, List.not_mem_nil, or_false, forall_eq_or_imp, forall_eq, P3.eqB_refl, O3.eqB_refl, V3.eqB_refl, beq_refl_i, and_self]
def G6.eqB (m n : G6) : Bool := (m.aa == n.aa) && ((m.bb == n.bb) && ((m.cc == n.cc) && ((m.bc == n.bc) && ((m.ac == n.ac) && ((m.ab == n.ab) && true)))))
theorem G6.eqB_refl (m : G6) : m.eqB m = true := by simp [G6.eqB]
def tBasisMetrics (c : O3) (m : G6) : Option Value := andO [(c.metF m).eqB (c.metF m), c.metE m == c.metE m]
theorem tBasisMetrics_true (c : O3) (m : G6) : tBasisMetrics c m = some (.bool true) := by
  apply andO_eq
  simp only [List.mem_cons, List.not_mem_nil, or_false, forall_eq_or_imp, forall_eq, G6.eqB_refl, beq_refl_i, and_self]

/-! Maps and places go along -/
def goesErr (c o : O3) (p : P3) : Option Value :=
  orB [o.appE p == 3, o.appE p == 4, c.opcE o == 3, c.opcE o == 4, c.ptE p == 3, c.ptE p == 4] (match o.appE p == 0 with
    | true => some (.bool true)
    | false => some (.bool ((o.appF p).eqB P3.zero))) (some (.bool false))
def tBasisGoes (c o : O3) (p : P3) : Option Value :=
  orB [o.appE p != 0, c.opcE o != 0, c.ptE p != 0] (goesErr c o p)
    (andO [(c.opcF o).appE (c.ptF p) == 0, c.ptE (o.appF p) == 0, ((c.opcF o).appF (c.ptF p)).eqB (c.ptF (o.appF p)), ((c.opcF o).appF (c.ptF p)).form])
theorem O3.appE_cases (o : O3) (p : P3) : o.appE p = 0 ∨ o.appE p = 3 ∨ o.appE p = 4 := by
  unfold O3.appE
  cases p.form
  · exact Or.inr (Or.inl rfl)
  · exact O3.ck_cases o
theorem O3.ptE_cases (c : O3) (p : P3) : c.ptE p = 0 ∨ c.ptE p = 3 ∨ c.ptE p = 4 := by
  unfold O3.ptE
  cases p.form
  · exact Or.inr (Or.inl rfl)
  · exact M3.form_cases c.r
theorem O3.smallE_cases (o : O3) : o.smallE = 0 ∨ o.smallE = 4 := by unfold O3.smallE; cases o.r.ok <;> simp
theorem O3.opcE_cases (c o : O3) : c.opcE o = 0 ∨ c.opcE o = 3 ∨ c.opcE o = 4 := by
  unfold O3.opcE
  have h1 := O3.smallE_cases (c.told o)
  rcases M3.form_cases c.r with h | h | h <;> rcases O3.ck_cases o with k | k | k <;> rw [h, k] <;> first | (right; left; rfl) | (right; right; rfl) | (rcases h1 with e | e <;> simp [leastN, e])
theorem O3.behE_cases (a b : O3) : a.behE b = 0 ∨ a.behE b = 3 ∨ a.behE b = 4 := by
  unfold O3.behE
  have h1 := O3.smallE_cases (a.mul b)
  rcases M3.form_cases a.r with h | h | h <;> rcases M3.form_cases b.r with k | k | k <;> rw [h, k] <;> first | (right; left; rfl) | (right; right; rfl) | (rcases h1 with e | e <;> simp [leastN, e])
theorem O3.appF_err {o : O3} {p : P3} (h : o.appE p ≠ 0) : o.appF p = P3.zero := by
  unfold O3.appF; rw [(bif_beq h).1]; rfl
theorem goesErr_true {c o : O3} {p : P3} (h : o.appE p ≠ 0 ∨ c.opcE o ≠ 0 ∨ c.ptE p ≠ 0) : goesErr c o p = some (.bool true) := by
  have e : (match o.appE p == 0 with
    | true => some (.bool true)
    | false => some (.bool ((o.appF p).eqB P3.zero)) : Option Value) = some (.bool true) := by
    by_cases h0 : o.appE p = 0
    · rw [h0]; rfl
    · rw [(bif_beq h0).1, O3.appF_err h0, P3.eqB_refl]
  unfold goesErr
  rw [e]
  rcases O3.appE_cases o p with h1 | h1 | h1 <;> rcases O3.opcE_cases c o with h2 | h2 | h2 <;> rcases O3.ptE_cases c p with h3 | h3 | h3 <;> rw [h1, h2, h3] <;> first | rfl | (exfalso; rw [h1, h2, h3] at h; simp at h)
theorem O3.ptE_zero {c : O3} {p : P3} (h : c.ptE p = 0) : p.form = true ∧ c.r.form = 0 ∧ c.ptF p = c.app p := by
  unfold O3.ptF
  rw [h]
  unfold O3.ptE at h
  cases hp : p.form with
  | false => rw [hp] at h; cases h
  | true => rw [hp] at h; exact ⟨rfl, h, rfl⟩
theorem O3.ptE_of {c : O3} {p : P3} (hp : p.form = true) (hc : c.r.form = 0) : c.ptE p = 0 ∧ c.ptF p = c.app p := by
  have e : c.ptE p = 0 := by unfold O3.ptE; rw [hp]; exact hc
  exact ⟨e, (O3.ptE_zero e).2.2⟩
theorem O3.appE_zero {o : O3} {p : P3} (h : o.appE p = 0) : p.form = true ∧ o.ck = 0 ∧ o.appF p = o.app p := by
  unfold O3.appF
  rw [h]
  unfold O3.appE at h
  cases hp : p.form with
  | false => rw [hp] at h; cases h
  | true => rw [hp] at h; exact ⟨rfl, h, rfl⟩
theorem O3.small_zero {o : O3} (h : o.smallE = 0) : o.r.ok = true ∧ o.small = o := by
  unfold O3.smallE at h
  unfold O3.small
  cases ho : o.r.ok with
  | false => rw [ho] at h; cases h
  | true => exact ⟨rfl, rfl⟩
theorem O3.opcE_zero {c o : O3} (h : c.opcE o = 0) : c.r.form = 0 ∧ o.ck = 0 ∧ (c.told o).r.ok = true ∧ c.opcF o = c.told o := by
  unfold O3.opcE at h
  unfold O3.opcF
  by_cases h0 : leastN c.r.form o.ck = 0
  · rw [h0] at h ⊢
    obtain ⟨a, b⟩ := leastZero.1 h0
    obtain ⟨x, y⟩ := O3.small_zero (o := c.told o) h
    exact ⟨a, b, x, y⟩
  · rw [(bif_beq h0).1] at h; exact absurd h h0
theorem O3.opcE_of {c o : O3} (hc : c.r.form = 0) (ho : o.ck = 0) (hk : (c.told o).r.ok = true) : c.opcE o = 0 ∧ c.opcF o = c.told o := by
  unfold O3.opcE O3.opcF O3.small O3.smallE
  rw [leastZero.2 ⟨hc, ho⟩, hk]
  exact ⟨rfl, rfl⟩
theorem O3.told_ck {c o : O3} (hc : c.r.form = 0) (ho : o.ck = 0) (hk : (c.told o).r.ok = true) : (c.told o).ck = 0 := by
  obtain ⟨c1, c2⟩ := M3.form_zero.1 hc
  obtain ⟨o1, o2, o3⟩ := O3.ck_zero.1 ho
  refine O3.ck_zero.2 ⟨V3.md_part _, hk, ?_⟩
  exact M3.U_mul (M3.U_mul c2 o3) (M3.U_inv c2)
theorem V3.cancel3 (u v w : V3) : (u.add (((v.add w).add u.neg).md 24)).md 24 = (v.add w).md 24 := by
  unfold V3.md V3.add V3.neg
  simp only [V3.mk.injEq]
  omega
theorem O3.told_mul {c o : O3} (hc : c.r.U) : (c.told o).mul c = c.mul o := by
  unfold O3.mul O3.told
  simp only
  refine O3.ext' ?_ ?_
  · simp only; rw [M3.mul_assoc, M3.inv_mul hc, M3.mul_one]
  · simp only; exact V3.cancel3 _ _ _
theorem tBasisGoes_true (c o : O3) (p : P3) : tBasisGoes c o p = some (.bool true) := by
  unfold tBasisGoes
  by_cases h1 : o.appE p = 0
  · by_cases h2 : c.opcE o = 0
    · by_cases h3 : c.ptE p = 0
      · rw [h1, h2, h3]
        obtain ⟨hp, ho, e1⟩ := O3.appE_zero h1
        obtain ⟨hc, _, hk, e2⟩ := O3.opcE_zero h2
        obtain ⟨_, _, e3⟩ := O3.ptE_zero h3
        have hq : (c.app p).form = true := O3.app_form hp
        have hr : (o.app p).form = true := O3.app_form hp
        obtain ⟨x1, x2⟩ := O3.appF_of (O3.told_ck hc ho hk) hq
        obtain ⟨y1, y2⟩ := O3.ptE_of hr hc
        rw [e1, e2, e3, x1, x2, y1, y2]
        have e : (c.told o).app (c.app p) = c.app (o.app p) := by
          rw [← O3.app_mul _ _ hp, ← O3.app_mul _ _ hp, O3.told_mul (M3.form_zero.1 hc).2]
        show andO [true, true, _, _] = _
        rw [e, P3.eqB_refl, O3.app_form hr]
        rfl
      · rw [goesErr_true (Or.inr (Or.inr h3)), h1, h2, (bif_beq h3).2]; rfl
    · rw [goesErr_true (Or.inr (Or.inl h2)), h1, (bif_beq h2).2]; rfl
  · rw [goesErr_true (Or.inl h1), (bif_beq h1).2]; rfl

/-! Back again -/
def bk1 (a : O3) (K : Option Value) : Option Value := guardF [a.behE a.bakF != 0, !((a.behF a.bakF).r.eqB M3.one), !((a.behF a.bakF).t.eqB V3.zero)] K
def bk2 (a : O3) (p : P3) (K : Option Value) : Option Value := match a.ptE p == 0 with
  | true => guardF [a.bakF.ptE (a.ptF p) != 0, !((a.bakF.ptF (a.ptF p)).eqB p)] K
  | false => K
def bk3 (a o : O3) (K : Option Value) : Option Value := match a.opcE o == 0 with
  | true => guardF [a.bakF.opcE (a.opcF o) != 0, !((a.bakF.opcF (a.opcF o)).eqB o)] K
  | false => K
def bk4 (a b : O3) (p : P3) : Option Value := match a.behE b != 0 with
  | true => match a.behE b == 3 with
    | true => some (.bool true)
    | false => some (.bool (a.behE b == 4))
  | false => match b.ptE p != 0 with
    | true => match b.ptE p == 3 with
      | true => some (.bool ((a.behF b).ptE p == 3))
      | false => some (.bool false)
    | false => andO [a.ptE (b.ptF p) == 0, (a.behF b).ptE p == 0, (a.ptF (b.ptF p)).eqB ((a.behF b).ptF p)]
def tBasisBack (a b : O3) (p : P3) (o : O3) : Option Value := match a.bakE == 0 with
  | true => bk1 a (bk2 a p (bk3 a o (bk4 a b p)))
  | false => bk4 a b p
theorem O3.bakE_zero {c : O3} (h : c.bakE = 0) : c.r.form = 0 ∧ c.r.inv.ok = true ∧ c.bakF = c.inv ∧ c.inv.r.form = 0 := by
  unfold O3.bakE at h
  unfold O3.bakF
  by_cases h0 : c.r.form = 0
  · rw [h0] at h ⊢
    obtain ⟨x, y⟩ := O3.small_zero (o := c.inv) h
    exact ⟨rfl, x, y, M3.form_zero.2 ⟨x, M3.U_inv (M3.form_zero.1 h0).2⟩⟩
  · rw [(bif_beq h0).1] at h; exact absurd h h0
theorem O3.behE_of {a b : O3} (ha : a.r.form = 0) (hb : b.r.form = 0) (hk : (a.mul b).r.ok = true) : a.behE b = 0 ∧ a.behF b = a.mul b := by
  unfold O3.behE O3.behF O3.small O3.smallE
  rw [leastZero.2 ⟨ha, hb⟩, hk]
  exact ⟨rfl, rfl⟩
theorem O3.behE_zero {a b : O3} (h : a.behE b = 0) : a.r.form = 0 ∧ b.r.form = 0 ∧ (a.mul b).r.ok = true ∧ a.behF b = a.mul b := by
  unfold O3.behE at h
  unfold O3.behF
  by_cases h0 : leastN a.r.form b.r.form = 0
  · rw [h0] at h ⊢
    obtain ⟨x, y⟩ := leastZero.1 h0
    obtain ⟨u, v⟩ := O3.small_zero (o := a.mul b) h
    exact ⟨x, y, u, v⟩
  · rw [(bif_beq h0).1] at h; exact absurd h h0
theorem bk1_true {a : O3} (h : a.bakE = 0) (K : Option Value) : bk1 a K = K := by
  obtain ⟨h1, h2, h3, h4⟩ := O3.bakE_zero h
  have hu := (M3.form_zero.1 h1).2
  obtain ⟨e1, e2⟩ := O3.behE_of h1 h4 (by rw [O3.mul_inv hu]; decide)
  unfold bk1
  rw [h3, e1, e2, O3.mul_inv hu]
  rfl
theorem P3.form_md {p : P3} (h : p.form = true) : p.x.md p.m = p.x := by
  unfold P3.form at h
  rw [Bool.and_eq_true] at h
  exact (V3.eqB_iff.1 h.2).symm
theorem O3.one_app {p : P3} (h : p.form = true) : O3.one.app p = p := by
  have e : O3.one.app p = ⟨p.m, p.x.md p.m⟩ := by
    unfold O3.app O3.one
    simp only [M3.app_one]
    congr 2
    unfold V3.smul V3.zero V3.add
    simp
  rw [e, P3.form_md h]
theorem bk2_true {a : O3} (h : a.bakE = 0) (p : P3) (K : Option Value) : bk2 a p K = K := by
  obtain ⟨h1, h2, h3, h4⟩ := O3.bakE_zero h
  have hu := (M3.form_zero.1 h1).2
  unfold bk2
  by_cases hp : a.ptE p = 0
  · obtain ⟨p1, p2, p3⟩ := O3.ptE_zero hp
    obtain ⟨q1, q2⟩ := O3.ptE_of (c := a.inv) (p := a.app p) (O3.app_form p1) h4
    rw [hp, h3, p3, q1, q2, ← O3.app_mul _ _ p1, O3.inv_mul hu, O3.one_app p1, P3.eqB_refl]
    rfl
  · rw [(bif_beq hp).1]
theorem O3.mul_md_t (a : O3) (r : M3) (t : V3) : a.mul ⟨r, t.md 24⟩ = a.mul ⟨r, t⟩ := by
  unfold O3.mul; simp only; rw [md_app_add]
theorem O3.told_eq {c o : O3} (hc : c.r.U) : c.told o = (c.mul o).mul c.inv := by
  rw [← O3.told_mul hc, O3.mul_assoc, O3.mul_inv hc, O3.mul_one]
  exact V3.md_part _
theorem told_back {a o : O3} (hu : a.r.U) (ho : o.t.part = true) : a.inv.told (a.told o) = o := by
  have e1 : ∀ x : O3, x.mul (a.inv.mul a.inv.inv) = x.mul O3.one := fun x => by rw [O3.mul_inv (M3.U_inv hu)]
  have pa : (O3.mk a.r (a.t.md 24)).t.part = true := V3.md_part _
  rw [O3.told_eq (M3.U_inv hu), O3.told_eq hu, ← O3.mul_assoc, ← O3.mul_assoc, O3.inv_mul hu, O3.one_mul ho, O3.mul_assoc, e1, O3.mul_one ho]
theorem bk3_true {a : O3} (h : a.bakE = 0) (o : O3) (K : Option Value) : bk3 a o K = K := by
  obtain ⟨h1, h2, h3, h4⟩ := O3.bakE_zero h
  have hu := (M3.form_zero.1 h1).2
  unfold bk3
  by_cases hp : a.opcE o = 0
  · obtain ⟨p1, p2, p3, p4⟩ := O3.opcE_zero hp
    obtain ⟨o1, o2, o3⟩ := O3.ck_zero.1 p2
    have e := told_back (a := a) (o := o) hu o1
    obtain ⟨q1, q2⟩ := O3.opcE_of (c := a.inv) (o := a.told o) h4 (O3.told_ck p1 p2 p3) (by rw [e]; exact o2)
    rw [hp, h3, p4, q1, q2, e, O3.eqB_refl]
    rfl
  · rw [(bif_beq hp).1]
theorem bk4_true (a b : O3) (p : P3) : bk4 a b p = some (.bool true) := by
  unfold bk4
  by_cases h : a.behE b = 0
  · obtain ⟨ha, hb, hk, e⟩ := O3.behE_zero h
    have hn : (a.mul b).r.form = 0 := M3.form_zero.2 ⟨hk, M3.U_mul (M3.form_zero.1 ha).2 (M3.form_zero.1 hb).2⟩
    rw [h, e]
    simp only [bne_self_eq_false]
    cases hp : p.form with
    | false =>
      have k1 : b.ptE p = 3 := by unfold O3.ptE; rw [hp]; rfl
      have k2 : (a.mul b).ptE p = 3 := by unfold O3.ptE; rw [hp]; rfl
      rw [k1, k2]; rfl
    | true =>
      obtain ⟨q1, q2⟩ := O3.ptE_of hp hb
      obtain ⟨r1, r2⟩ := O3.ptE_of (c := a) (p := b.app p) (O3.app_form hp) ha
      obtain ⟨s1, s2⟩ := O3.ptE_of hp hn
      rw [q1, q2, r1, r2, s1, s2, O3.app_mul _ _ hp, P3.eqB_refl]
      rfl
  · rw [(bif_beq h).2]
    rcases O3.behE_cases a b with h1 | h1 | h1
    · exact absurd h1 h
    · rw [h1]; rfl
    · rw [h1]; rfl
theorem tBasisBack_true (a b : O3) (p : P3) (o : O3) : tBasisBack a b p o = some (.bool true) := by
  unfold tBasisBack
  by_cases h : a.bakE = 0
  · rw [bk1_true h, bk2_true h, bk3_true h, bk4_true, h]; rfl
  · rw [(bif_beq h).1]; exact bk4_true a b p

/-! Phases -/
def ph0 (m t : Int) : Int := W (Int.tmod (W (Int.tmod t 24 + 24)) 24 * W (Int.tdiv m 24))
def ph1 (m k x t : Int) : Int := W (Int.tmod k m * W (x - ph0 m t))
def nz (m : Int) (K : Option Value) : Option Value := match m == 0 with
  | true => none
  | false => K
def phBefore (h : V3) (p : P3) : Int := W (W (W (0 + W (h.x * p.x.x)) + W (h.y * p.x.y)) + W (h.z * p.x.z))
def phAfter (c : O3) (k : V3) (p q : P3) : Int := W (W (W (0 + ph1 p.m k.x q.x.x c.t.x) + ph1 p.m k.y q.x.y c.t.y) + ph1 p.m k.z q.x.z c.t.z)
def tBasisPhases (c : O3) (h : V3) (p : P3) : Option Value :=
  orB [c.idxE h != 0, c.ptE p != 0] (some (.bool true)) (nz p.m (nz p.m (nz p.m (match (c.ptF p).m == p.m with
    | true => nz p.m (some (.bool (Int.tmod (W (phBefore h p - phAfter c (c.idxF h) p (c.ptF p))) p.m == 0)))
    | false => some (.bool false)))))
theorem ph0_eq (t : Int) {m : Int} (hm : m = 24 ∨ m = 48 ∨ m = 96 ∨ m = 192) : ph0 m t = m / 24 * (t % 24) := by
  have e : Int.tmod (W (Int.tmod t 24 + 24)) 24 = t % 24 := by
    have h1 := tmod_bd t 24 (by omega)
    have h2 := Int.tmod_add_mul_tdiv t 24
    rw [W_in (by omega), Int.tmod_eq_emod_of_nonneg (by omega)]
    omega
  unfold ph0
  rw [e]
  exact pt1_eq t hm
/-- Numbers alike modulo m. -/
def Ali (m a b : Int) : Prop := m ∣ a - b
theorem Ali.add {m a b c d : Int} (h : Ali m a b) (h' : Ali m c d) : Ali m (a + c) (b + d) := by
  unfold Ali at *
  have := Int.dvd_add h h'
  rwa [show a + c - (b + d) = a - b + (c - d) by omega]
theorem Ali.mul {m a b c d : Int} (h : Ali m a b) (h' : Ali m c d) : Ali m (a * c) (b * d) := by
  unfold Ali at *
  rw [show a * c - b * d = (a - b) * c + b * (c - d) by grind]
  exact Int.dvd_add (Int.dvd_mul_of_dvd_left h) (Int.dvd_mul_of_dvd_right h')
theorem ali_emod (m a : Int) : Ali m (a % m) a := by
  unfold Ali
  have := Int.emod_add_mul_ediv a m
  exact ⟨-(a / m), by rw [Int.mul_neg]; omega⟩
theorem ali_tmod (m a : Int) : Ali m (Int.tmod a m) a := by
  unfold Ali
  have := Int.tmod_add_mul_tdiv a m
  exact ⟨-(Int.tdiv a m), by rw [Int.mul_neg]; omega⟩
theorem ph_small {m k x t : Int} (hm : m = 24 ∨ m = 48 ∨ m = 96 ∨ m = 192) (hx : 0 ≤ x ∧ x < m) :
    ph1 m k x t = Int.tmod k m * (x - m / 24 * (t % 24)) ∧ (-36864 ≤ ph1 m k x t ∧ ph1 m k x t ≤ 36864) := by
  unfold ph1
  rw [ph0_eq t hm]
  have ht : 0 ≤ m / 24 * (t % 24) ∧ m / 24 * (t % 24) ≤ 184 := by
    rcases hm with rfl | rfl | rfl | rfl
    · rw [show (24 : Int) / 24 = 1 from rfl]; omega
    · rw [show (48 : Int) / 24 = 2 from rfl]; omega
    · rw [show (96 : Int) / 24 = 4 from rfl]; omega
    · rw [show (192 : Int) / 24 = 8 from rfl]; omega
  have hk := tmod_bd k m (by omega)
  rw [W_in (n := x - m / 24 * (t % 24)) (by omega)]
  have hb := bd_mul (m := 192) (n := 192) (x := Int.tmod k m) (y := x - m / 24 * (t % 24)) (by omega) (by omega)
  rw [W_in (by omega)]
  exact ⟨rfl, by omega⟩
theorem left_app (h : V3) (q p : M3) (x : V3) (e : q.mul p = M3.one) :
    (M3.left h q).x * (p.app x).x + (M3.left h q).y * (p.app x).y + (M3.left h q).z * (p.app x).z = h.x * x.x + h.y * x.y + h.z * x.z := by
  have k : ∀ u : V3, (M3.left h q).x * u.x + (M3.left h q).y * u.y + (M3.left h q).z * u.z = h.x * (q.app u).x + h.y * (q.app u).y + h.z * (q.app u).z := fun u => by
    simp only [M3.left, M3.app]; grind
  rw [k, ← M3.app_mul, e, M3.app_one]
theorem ali_part {m k x t : Int} (hm : m = 24 ∨ m = 48 ∨ m = 96 ∨ m = 192) {y : Int} (hx : x = (y + m / 24 * t) % m) : Ali m (Int.tmod k m * (x - m / 24 * (t % 24))) (k * y) := by
  refine Ali.mul (ali_tmod m k) ?_
  subst hx
  unfold Ali
  have h1 := ali_emod m (y + m / 24 * t)
  unfold Ali at h1
  have h2 : m ∣ m / 24 * t - m / 24 * (t % 24) := by
    refine ⟨t / 24, ?_⟩
    rcases hm with rfl | rfl | rfl | rfl
    · rw [show (24 : Int) / 24 = 1 from rfl]; omega
    · rw [show (48 : Int) / 24 = 2 from rfl]; omega
    · rw [show (96 : Int) / 24 = 4 from rfl]; omega
    · rw [show (192 : Int) / 24 = 8 from rfl]; omega
  have := Int.dvd_add h1 h2
  rwa [show (y + m / 24 * t) % m - (y + m / 24 * t) + (m / 24 * t - m / 24 * (t % 24)) = (y + m / 24 * t) % m - m / 24 * (t % 24) - y by omega] at this
theorem tBasisPhases_true (c : O3) (h : V3) (p : P3) : tBasisPhases c h p = some (.bool true) := by
  unfold tBasisPhases
  by_cases h1 : c.idxE h = 0
  · by_cases h2 : c.ptE p = 0
    · obtain ⟨hp, hc, e⟩ := O3.ptE_zero h2
      have hi : h.idx = true := by
        unfold O3.idxE at h1
        cases hi : h.idx with
        | true => rfl
        | false => rw [hi] at h1; cases h1
      have ek : c.idxF h = M3.left h c.r.inv := by unfold O3.idxF; rw [h1]; rfl
      obtain ⟨hm, x1, x2, x3⟩ := P3.form_spec hp
      obtain ⟨_, y1, y2, y3⟩ := P3.form_spec (O3.app_form (o := c) hp)
      have hm0 : (p.m == 0) = false := by simp; omega
      have hu := (M3.form_zero.1 hc).2
      rw [h1, h2, e, ek]
      unfold nz
      rw [hm0]
      have hq : (c.app p).m = p.m := rfl
      rw [hq] at y1 y2 y3
      rw [hq]
      simp only [orB, bne_self_eq_false, beq_self_eq_true]
      congr 2
      obtain ⟨b1, b2, b3⟩ := V3.idx_iff.1 hi
      have d1 := bd_mul (n := 192) b1 (y := p.x.x) (by omega)
      have d2 := bd_mul (n := 192) b2 (y := p.x.y) (by omega)
      have d3 := bd_mul (n := 192) b3 (y := p.x.z) (by omega)
      have eb : phBefore h p = h.x * p.x.x + h.y * p.x.y + h.z * p.x.z := by
        unfold phBefore
        simp only [Int.zero_add, W_W, W_addl, W_addr]
        exact W_in (by omega)
      obtain ⟨p1, q1⟩ := ph_small (k := (M3.left h c.r.inv).x) (t := c.t.x) hm y1
      obtain ⟨p2, q2⟩ := ph_small (k := (M3.left h c.r.inv).y) (t := c.t.y) hm y2
      obtain ⟨p3, q3⟩ := ph_small (k := (M3.left h c.r.inv).z) (t := c.t.z) hm y3
      have ea : phAfter c (M3.left h c.r.inv) p (c.app p) = ph1 p.m (M3.left h c.r.inv).x (c.app p).x.x c.t.x + ph1 p.m (M3.left h c.r.inv).y (c.app p).x.y c.t.y + ph1 p.m (M3.left h c.r.inv).z (c.app p).x.z c.t.z := by
        unfold phAfter
        rw [W_in (n := 0 + _) (by omega), W_in (n := 0 + _ + _) (by omega), W_in (by omega)]
        omega
      rw [eb, W_in (by omega), ea, p1, p2, p3]
      have k1 : (c.app p).x.x = ((c.r.app p.x).x + p.m / 24 * c.t.x) % p.m := rfl
      have k2 : (c.app p).x.y = ((c.r.app p.x).y + p.m / 24 * c.t.y) % p.m := rfl
      have k3 : (c.app p).x.z = ((c.r.app p.x).z + p.m / 24 * c.t.z) % p.m := rfl
      have key := ((ali_part (k := (M3.left h c.r.inv).x) hm k1).add (ali_part (k := (M3.left h c.r.inv).y) hm k2)).add (ali_part (k := (M3.left h c.r.inv).z) hm k3)
      rw [left_app h c.r.inv c.r p.x (M3.inv_mul hu)] at key
      unfold Ali at key
      rw [beq_iff_eq]
      have := Int.tmod_eq_zero_of_dvd key
      rw [← Int.neg_sub, Int.neg_tmod, this]
      rfl
    · rw [h1, (bif_beq h2).2]; rfl
  · rw [(bif_beq h1).2]; rfl
end Go.Proofs.YtjpfnfckpgilgaaGreat.Vx
