/-
  The functions of layer 7 (basis) and of the document's answer for it: what the executor finds ('t..'), and what that comes to ('f..'). Nothing here is trusted.
-/
import Derived.Test.YtjpfnfckpgilgaaKaf
import Derived.Test.YtjpfnfckpgilgaaKag
namespace Go.Proofs.Ytjpfnfckpgilgaa.Vx
open Go

/-! Layer 1, the rest -/
def M3.T (m : M3) : M3 := ⟨m.a, m.d, m.g, m.b, m.e, m.h, m.c, m.f, m.i⟩
def M3.left (v : V3) (m : M3) : V3 := ⟨v.x * m.a + v.y * m.d + v.z * m.g, v.x * m.b + v.y * m.e + v.z * m.h, v.x * m.c + v.y * m.f + v.z * m.i⟩
def tTranspose (m : M3) : Option Value := chainO mkMe [(m.ck != 0, zeros9 m.ck)] (m.T.l ++ [0])
def M3.flipF (m : M3) : M3 := bif m.ok then m.T else M3.zero
def fTranspose (m : M3) : Value := p2 m.flipF.v (vI m.ck)
theorem tTranspose_eq (m : M3) : tTranspose m = some (fTranspose m) := by
  unfold tTranspose fTranspose M3.flipF
  rw [chain_eq]
  unfold M3.ck
  cases m.ok <;> rfl

/-! op, with the lesser error of two -/
theorem leastN_ck3 (o : O3) : leastN o.ck 3 = leastI o.ck 3 := by
  rcases O3.ck_cases o with h | h | h <;> rw [h] <;> decide
def tOApplyN (o : O3) (p : P3) : Option Value :=
  match !p.form with
  | true => tOApplyEnd o p (leastN o.ck 3)
  | false => tOApplyEnd o p o.ck
theorem tOApplyN_eq (o : O3) (p : P3) : tOApplyN o p = some (fOApply o p) := by
  unfold tOApplyN
  rw [leastN_ck3]
  exact tOApply_eq o p
/-! What both come to -/
theorem M3.form_cases (m : M3) : m.form = 0 ∨ m.form = 3 ∨ m.form = 4 := by
  unfold M3.form
  cases m.ok <;> cases unitB m.det <;> simp
theorem leastZero {a b : Int} : leastN a b = 0 ↔ a = 0 ∧ b = 0 := by
  unfold leastN
  by_cases ha : a = 0
  · subst ha; simp
  · rw [(bif_beq ha).1]
    by_cases hb : b = 0
    · subst hb; simp [ha]
    · rw [(bif_beq hb).2]
      by_cases hl : b < a <;> simp [hl, ha, hb]
/-- Behind: one change, then another. -/
def O3.behE (a b : O3) : Int := bif leastN a.r.form b.r.form == 0 then (a.mul b).smallE else leastN a.r.form b.r.form
def O3.behF (a b : O3) : O3 := bif leastN a.r.form b.r.form == 0 then (a.mul b).small else O3.zero
def fBehind (a b : O3) : Value := pOE (a.behF b) (a.behE b)
/-- Back. -/
def O3.bakE (c : O3) : Int := bif c.r.form == 0 then c.inv.smallE else c.r.form
def O3.bakF (c : O3) : O3 := bif c.r.form == 0 then c.inv.small else O3.zero
def fBBack (c : O3) : Value := pOE c.bakF c.bakE
/-- Point. -/
def O3.ptE (c : O3) (p : P3) : Int := bif p.form then c.r.form else 3
def O3.ptF (c : O3) (p : P3) : P3 := bif c.ptE p == 0 then c.app p else P3.zero
def fPoint (c : O3) (p : P3) : Value := p2 (c.ptF p).v (vI (c.ptE p))
/-- Op. -/
def O3.told (c o : O3) : O3 := ⟨(c.r.mul o.r).mul c.r.inv, (((c.r.app o.t).add c.t).add ((((c.r.mul o.r).mul c.r.inv).app c.t).neg)).md 24⟩
def O3.opcE (c o : O3) : Int := bif leastN c.r.form o.ck == 0 then (c.told o).smallE else leastN c.r.form o.ck
def O3.opcF (c o : O3) : O3 := bif leastN c.r.form o.ck == 0 then (c.told o).small else O3.zero
def fBOp (c o : O3) : Value := pOE (c.opcF o) (c.opcE o)
/-- Index. -/
def V3.idx (h : V3) : Bool := inB 512 h.l
def O3.idxE (c : O3) (h : V3) : Int := bif h.idx then c.r.form else 1
def O3.idxF (c : O3) (h : V3) : V3 := bif c.idxE h == 0 then M3.left h c.r.inv else V3.zero
def fIndex (c : O3) (h : V3) : Value := p2 (c.idxF h).v (vI (c.idxE h))
/-- Metric. -/
structure G6 where
  (aa bb cc bc ac ab : Int)
def G6.v (m : G6) : Value := .agg #[.int .i64 m.aa, .int .i64 m.bb, .int .i64 m.cc, .int .i64 m.bc, .int .i64 m.ac, .int .i64 m.ab]
def G6.zero : G6 := ⟨0, 0, 0, 0, 0, 0⟩
def G6.mat (m : G6) : M3 := ⟨m.aa, m.ab, m.ac, m.ab, m.bb, m.bc, m.ac, m.bc, m.cc⟩
def G6.of (n : M3) : G6 := ⟨n.a, n.e, n.i, n.f, n.c, n.b⟩
def sqT (x : Int) (l : List (Bool × List Int)) : List (Bool × List Int) := (decide (x < 1), [1]) :: (decide (x > 100000), [1]) :: l
def dgT (x : Int) (l : List (Bool × List Int)) : List (Bool × List Int) := (decide (x < -100000), [1]) :: (decide (x > 100000), [1]) :: l
def G6.T (m : G6) : List (Bool × List Int) := sqT m.aa (sqT m.bb (sqT m.cc (dgT m.bc (dgT m.ac (dgT m.ab [])))))
def G6.ck (m : G6) : Int := nth (chainL m.T [0]) 0
def tCheckG (m : G6) : Option Value := chainO mk1 m.T [0]
def fCheckG (m : G6) : Value := vI m.ck
theorem tCheckG_eq (m : G6) : tCheckG m = some (fCheckG m) := by unfold tCheckG; rw [chain_eq]; rfl
def G6.Bd (m : G6) : Prop := (1 ≤ m.aa ∧ m.aa ≤ 100000) ∧ (1 ≤ m.bb ∧ m.bb ≤ 100000) ∧ (1 ≤ m.cc ∧ m.cc ≤ 100000) ∧ (-100000 ≤ m.bc ∧ m.bc ≤ 100000) ∧ (-100000 ≤ m.ac ∧ m.ac ≤ 100000) ∧ (-100000 ≤ m.ab ∧ m.ab ≤ 100000)
theorem sq_step {x : Int} {l : List (Bool × List Int)} (h : nth (chainL (sqT x l) [0]) 0 = 0) : (1 ≤ x ∧ x ≤ 100000) ∧ nth (chainL l [0]) 0 = 0 := by
  unfold sqT at h
  by_cases h1 : x < 1
  · rw [show decide (x < 1) = true by simpa using h1] at h; cases h
  · rw [show decide (x < 1) = false by simpa using h1] at h
    by_cases h2 : x > 100000
    · rw [show decide (x > 100000) = true by simpa using h2] at h; cases h
    · rw [show decide (x > 100000) = false by simpa using h2] at h
      exact ⟨by omega, h⟩
theorem dg_step {x : Int} {l : List (Bool × List Int)} (h : nth (chainL (dgT x l) [0]) 0 = 0) : (-100000 ≤ x ∧ x ≤ 100000) ∧ nth (chainL l [0]) 0 = 0 := by
  unfold dgT at h
  by_cases h1 : x < -100000
  · rw [show decide (x < -100000) = true by simpa using h1] at h; cases h
  · rw [show decide (x < -100000) = false by simpa using h1] at h
    by_cases h2 : x > 100000
    · rw [show decide (x > 100000) = true by simpa using h2] at h; cases h
    · rw [show decide (x > 100000) = false by simpa using h2] at h
      exact ⟨by omega, h⟩
theorem G6.ck_zero {m : G6} (h : m.ck = 0) : m.Bd := by
  unfold G6.ck G6.T at h
  obtain ⟨h1, h⟩ := sq_step h
  obtain ⟨h2, h⟩ := sq_step h
  obtain ⟨h3, h⟩ := sq_step h
  obtain ⟨h4, h⟩ := dg_step h
  obtain ⟨h5, h⟩ := dg_step h
  obtain ⟨h6, h⟩ := dg_step h
  exact ⟨h1, h2, h3, h4, h5, h6⟩
def O3.metE (c : O3) (m : G6) : Int := bif m.ck == 0 then c.r.form else m.ck
def O3.metF (c : O3) (m : G6) : G6 := bif c.metE m == 0 then G6.of ((c.r.inv.T.mul m.mat).mul c.r.inv) else G6.zero
def pGE (m : G6) (e : Int) : Value := p2 m.v (vI e)
def fMetric (c : O3) (m : G6) : Value := pGE (c.metF m) (c.metE m)

/-! basis -/
theorem rdot_W (a b c d e f : Int) : rdot a b c d e f = W (a * d + b * e + c * f) := by rw [rdot_eq, dotR_W]
def tRowTimes (v : V3) (m : M3) : Option Value := some (V3.v ⟨rdot v.x v.y v.z m.a m.d m.g, rdot v.x v.y v.z m.b m.e m.h, rdot v.x v.y v.z m.c m.f m.i⟩)
def fRowTimes (v : V3) (m : M3) : Value := (M3.left v m).w.v
theorem tRowTimes_eq (v : V3) (m : M3) : tRowTimes v m = some (fRowTimes v m) := by
  unfold tRowTimes fRowTimes
  simp only [rdot_W]; rfl
def tProduct (m n : M3) : Option Value := some (m.mul n).w.v
def fProduct (m n : M3) : Value := (m.mul n).w.v
theorem tProduct_eq (m n : M3) : tProduct m n = some (fProduct m n) := rfl
def tBehind (a b : O3) : Option Value :=
  match leastN a.r.form b.r.form != 0 with
  | true => some (pOE O3.zero (leastN a.r.form b.r.form))
  | false => some (pOE ((O3.makeF a.r a.t).mulF (O3.makeF b.r b.t)) ((O3.makeF a.r a.t).mulE (O3.makeF b.r b.t)))
theorem makeF_ck {m : M3} {t : V3} (h : m.form = 0) : O3.makeF m t = ⟨m, t.md 24⟩ ∧ (O3.makeF m t).ck = 0 := by
  have e : O3.makeF m t = ⟨m, t.md 24⟩ := by unfold O3.makeF; rw [h]; rfl
  refine ⟨e, ?_⟩
  rw [e, O3.ck_zero]
  exact ⟨V3.md_part t, M3.form_zero.1 h⟩
theorem O3.mul_md (a b : O3) : O3.mul ⟨a.r, a.t.md 24⟩ ⟨b.r, b.t.md 24⟩ = a.mul b := by
  unfold O3.mul
  simp only
  rw [md_app_add, V3.md_add_right]
theorem tBehind_eq (a b : O3) : tBehind a b = some (fBehind a b) := by
  unfold tBehind fBehind O3.behF O3.behE
  by_cases h : leastN a.r.form b.r.form = 0
  · obtain ⟨ha, hb⟩ := leastZero.1 h
    obtain ⟨a1, a2⟩ := makeF_ck (t := a.t) ha
    obtain ⟨b1, b2⟩ := makeF_ck (t := b.t) hb
    have e : leastI (O3.makeF a.r a.t).ck (O3.makeF b.r b.t).ck = 0 := leastI_zero.2 ⟨a2, b2⟩
    rw [h]
    unfold O3.mulF O3.mulE
    rw [e, a1, b1, O3.mul_md]
    rfl
  · rw [(bif_beq h).1, (bif_beq h).2]; rfl
def tBBack (c : O3) : Option Value :=
  match c.r.form != 0 with
  | true => some (pOE O3.zero c.r.form)
  | false => some (pOE (O3.makeF c.r c.t).invF (O3.makeF c.r c.t).invE)
theorem O3.inv_md (c : O3) : O3.inv ⟨c.r, c.t.md 24⟩ = c.inv := by
  unfold O3.inv
  simp only
  rw [← neg_md (c.r.inv.app (c.t.md 24)), app_md', neg_md]
theorem tBBack_eq (c : O3) : tBBack c = some (fBBack c) := by
  unfold tBBack fBBack O3.bakF O3.bakE
  by_cases h : c.r.form = 0
  · obtain ⟨a1, a2⟩ := makeF_ck (t := c.t) h
    rw [h]
    unfold O3.invF O3.invE
    rw [a2, a1, O3.inv_md]
    rfl
  · rw [(bif_beq h).1, (bif_beq h).2]; rfl
def tPointEnd (c : O3) (p : P3) (e : Int) : Option Value :=
  match e != 0 with
  | true => some (p2 P3.zero.v (vI e))
  | false => some (p2 ((O3.makeF c.r c.t).appF p).v (vI ((O3.makeF c.r c.t).appE p)))
def tPoint (c : O3) (p : P3) : Option Value :=
  match !p.form with
  | true => tPointEnd c p (leastN c.r.form 3)
  | false => tPointEnd c p c.r.form
theorem O3.app_md {c : O3} {p : P3} (h : p.form = true) : O3.app ⟨c.r, c.t.md 24⟩ p = c.app p := by
  unfold O3.app
  simp only
  obtain ⟨hm, _⟩ := form_m h
  have e : ((c.t.md 24).smul (p.m / 24)).md p.m = (c.t.smul (p.m / 24)).md p.m := by
    have := smul_md (p.m / 24) c.t
    rwa [← hm] at this
  rw [← V3.md_add_r, e, V3.md_add_r]
theorem leastN_form3 (m : M3) : leastN m.form 3 = 3 := by
  rcases M3.form_cases m with h | h | h <;> rw [h] <;> decide
theorem tPoint_eq (c : O3) (p : P3) : tPoint c p = some (fPoint c p) := by
  unfold tPoint fPoint O3.ptF O3.ptE tPointEnd
  cases hp : p.form with
  | false => rw [leastN_form3]; rfl
  | true =>
    simp only [Bool.not_true, cond_true]
    by_cases h : c.r.form = 0
    · obtain ⟨a1, a2⟩ := makeF_ck (t := c.t) h
      rw [h]
      unfold O3.appF O3.appE
      rw [hp, a2, a1, O3.app_md hp]
      rfl
    · rw [(bif_beq h).1, (bif_beq h).2]; rfl
/-- A map told behind a change; what undoes its matrix is handed in. -/
def M3.tel (c : O3) (q : M3) (o : O3) : M3 := (((c.r.mul o.r).w).mul q).w
def O3.telT (c : O3) (r : M3) (o : O3) : V3 := ((((c.r.appF o.t).add (c.t.md 24)).md 24).add (((r.appF (c.t.md 24)).neg).md 24)).md 24
def tRetell (c : O3) (q : M3) (o : O3) : Option Value :=
  match (M3.tel c q o).ck != 0 with
  | true => some (pOE O3.zero (M3.tel c q o).ck)
  | false => some (pOE ⟨M3.tel c q o, ((((c.r.appF o.t).add (((c.t.add V3.zero).md 24))).md 24).add ((((M3.tel c q o).appF (((c.t.add V3.zero).md 24))).neg).md 24)).md 24⟩ 0)
def O3.tellF (c : O3) (q : M3) (o : O3) : O3 := O3.small ⟨M3.tel c q o, c.telT (M3.tel c q o) o⟩
def fRetell (c : O3) (q : M3) (o : O3) : Value := pOE (c.tellF q o) (M3.tel c q o).ck
theorem tRetell_eq (c : O3) (q : M3) (o : O3) : tRetell c q o = some (fRetell c q o) := by
  unfold tRetell fRetell O3.tellF O3.telT O3.small M3.ck
  rw [V3.add_zero]
  cases (M3.tel c q o).ok <;> rfl
theorem tel_eq {c o : O3} (hc : c.r.form = 0) (ho : o.ck = 0) : M3.tel c c.r.inv o = (c.r.mul o.r).mul c.r.inv := by
  obtain ⟨c1, c2⟩ := M3.form_zero.1 hc
  obtain ⟨o1, o2, o3⟩ := O3.ck_zero.1 ho
  have h1 := (M3.ok_iff.1 c1).mul (M3.ok_iff.1 o2)
  have h2 := h1.mul ((M3.ok_iff.1 c1).inv c2)
  unfold M3.tel
  rw [M3.w_eq (h1.mono (by omega)), M3.w_eq (h2.mono (by omega))]
theorem md_ok (v : V3) : (v.md 24).ok = true := V3.part_ok (V3.md_part v)
theorem tell3 (u v : V3) {w w' : V3} (h : w.md 24 = w'.md 24) : (((u.add (v.md 24)).md 24).add ((w.neg).md 24)).md 24 = ((u.add v).add w'.neg).md 24 := by
  unfold V3.md at h
  simp only [V3.mk.injEq] at h
  unfold V3.md V3.add V3.neg
  simp only [V3.mk.injEq]
  omega
theorem retell_eq {c o : O3} (hc : c.r.form = 0) (ho : o.ck = 0) : fRetell c c.r.inv o = pOE (c.told o).small (c.told o).smallE := by
  obtain ⟨c1, c2⟩ := M3.form_zero.1 hc
  obtain ⟨o1, o2, o3⟩ := O3.ck_zero.1 ho
  unfold fRetell O3.tellF O3.small O3.smallE
  rw [tel_eq hc ho]
  unfold O3.telT O3.told M3.ck
  simp only
  cases hr : ((c.r.mul o.r).mul c.r.inv).ok with
  | false => rfl
  | true =>
    simp only [cond_true]
    unfold M3.appF
    rw [hr, c1, V3.part_ok o1, md_ok]
    simp only [Bool.and_self, cond_true]
    rw [tell3 _ _ (app_md' 24 _ c.t)]

def tBOp (c o : O3) : Option Value :=
  match o.ck != 0 with
  | true => match leastN c.r.form o.ck != 0 with
    | true => some (pOE O3.zero (leastN c.r.form o.ck))
    | false => some (fRetell c c.r.invF o)
  | false => match leastN c.r.form 0 != 0 with
    | true => some (pOE O3.zero (leastN c.r.form 0))
    | false => some (fRetell c c.r.invF o)
theorem invF_form {m : M3} (h : m.form = 0) : m.invF = m.inv := by unfold M3.invF; rw [h]; rfl
theorem tBOp_eq (c o : O3) : tBOp c o = some (fBOp c o) := by
  unfold tBOp fBOp O3.opcF O3.opcE
  by_cases h : leastN c.r.form o.ck = 0
  · obtain ⟨hc, ho⟩ := leastZero.1 h
    rw [h, ho, hc, invF_form hc, retell_eq hc ho]
    rfl
  · by_cases ho : o.ck = 0
    · rw [ho] at h ⊢
      rw [(bif_beq h).1, (bif_beq h).2]; rfl
    · rw [(bif_beq ho).2, (bif_beq h).1, (bif_beq h).2]; rfl
def idxT (x : Int) (l : List (Bool × List Int)) : List (Bool × List Int) := (decide (x < -512), [0, 0, 0, 1]) :: (decide (x > 512), [0, 0, 0, 1]) :: l
def tIndex (c : O3) (h : V3) : Option Value :=
  chainO mkVe (idxT h.x (idxT h.y (idxT h.z [(c.r.form != 0, [0, 0, 0, c.r.form])]))) [(M3.left h c.r.invF).w.x, (M3.left h c.r.invF).w.y, (M3.left h c.r.invF).w.z, 0]
theorem V3.idx_iff {h : V3} : h.idx = true ↔ h.Bd 512 := by
  unfold V3.idx V3.l V3.Bd
  rw [inB_iff]
  simp only [List.mem_cons, List.not_mem_nil, or_false, forall_eq_or_imp, forall_eq]
theorem left_w {h : V3} {m : M3} {k l : Int} (hh : h.Bd k) (hm : m.Bd l) (hk : 3 * (k * l) ≤ 9000000000000000000) : (M3.left h m).w = M3.left h m := by
  obtain ⟨a, b, c, d, e, f, g, h', i⟩ := hm
  obtain ⟨x, y, z⟩ := hh
  have h1 := dot_bd x y z a d g
  have h2 := dot_bd x y z b e h'
  have h3 := dot_bd x y z c f i
  apply V3.w_eq
  unfold V3.Bd M3.left
  simp only
  omega
theorem idx_chain (h : V3) (t : List (Bool × List Int)) (d : List Int) : chainL (idxT h.x (idxT h.y (idxT h.z t))) d = bif h.idx then chainL t d else [0, 0, 0, 1] := by
  have key : h.idx = (!(decide (h.x < -512)) && (!(decide (h.x > 512)) && (!(decide (h.y < -512)) && (!(decide (h.y > 512)) && (!(decide (h.z < -512)) && !(decide (h.z > 512))))))) := by
    rw [Bool.eq_iff_iff, V3.idx_iff]
    unfold V3.Bd
    simp only [Bool.and_eq_true, Bool.not_eq_true', decide_eq_false_iff_not]
    omega
  rw [key]
  unfold idxT
  cases decide (h.x < -512) <;> cases decide (h.x > 512) <;> cases decide (h.y < -512) <;> cases decide (h.y > 512) <;> cases decide (h.z < -512) <;> cases decide (h.z > 512) <;> rfl
theorem idx_left {c : O3} {h : V3} (hi : h.idx = true) (hc : c.r.form = 0) : (M3.left h c.r.inv).w = M3.left h c.r.inv := by
  obtain ⟨c1, c2⟩ := M3.form_zero.1 hc
  exact left_w (V3.idx_iff.1 hi) ((M3.ok_iff.1 c1).inv c2) (by omega)
theorem tIndex_eq (c : O3) (h : V3) : tIndex c h = some (fIndex c h) := by
  unfold tIndex fIndex O3.idxF O3.idxE
  rw [chain_eq, idx_chain]
  cases hi : h.idx with
  | false => rfl
  | true =>
    simp only [cond_true]
    by_cases hc : c.r.form = 0
    · rw [hc, invF_form hc, idx_left hi hc]; rfl
    · rw [(bif_beq hc).1]
      simp only [chainL, (bif_beq hc).2]
      rfl
def tMetric (c : O3) (m : G6) : Option Value :=
  match m.ck != 0 with
  | true => some (pGE G6.zero m.ck)
  | false => match c.r.form != 0 with
    | true => some (pGE G6.zero c.r.form)
    | false => some (pGE (G6.of ((((c.r.flipF.invF.mul m.mat).w).mul c.r.invF).w)) 0)
theorem M3.T_det (m : M3) : m.T.det = m.det := by unfold M3.T M3.det; grind
theorem M3.T_ok {m : M3} (h : m.ok = true) : m.T.ok = true := by
  rw [M3.ok_iff] at *; unfold M3.Bd M3.T at *; simp only; omega
theorem M3.T_inv (m : M3) : m.T.inv = m.inv.T := by
  unfold M3.inv
  rw [M3.T_det]
  refine M3.ext' ⟨?_, ?_, ?_, ?_, ?_, ?_, ?_, ?_, ?_⟩ <;> (simp only [M3.smul, M3.adj, M3.T]; grind)
theorem M3.Bd.T {m : M3} {k : Int} (h : m.Bd k) : m.T.Bd k := by unfold M3.Bd M3.T at *; simp only; omega
theorem flip_inv {m : M3} (h : m.form = 0) : m.flipF.invF = m.inv.T := by
  obtain ⟨h1, h2⟩ := M3.form_zero.1 h
  have e : m.flipF = m.T := by unfold M3.flipF; rw [h1]; rfl
  rw [e, invF_form, M3.T_inv]
  exact M3.form_zero.2 ⟨M3.T_ok h1, by unfold M3.U at *; rw [M3.T_det]; exact h2⟩
theorem G6.mat_bd {m : G6} (h : m.Bd) : m.mat.Bd 100000 := by unfold G6.Bd at h; unfold G6.mat M3.Bd; simp only; omega
theorem tMetric_eq (c : O3) (m : G6) : tMetric c m = some (fMetric c m) := by
  unfold tMetric fMetric O3.metF O3.metE
  by_cases hm : m.ck = 0
  · rw [hm]
    by_cases hc : c.r.form = 0
    · obtain ⟨c1, c2⟩ := M3.form_zero.1 hc
      have hi := (M3.ok_iff.1 c1).inv c2
      have h1 := hi.T.mul (G6.mat_bd (G6.ck_zero hm))
      have h2 := h1.mul hi
      rw [hc, flip_inv hc, invF_form hc, M3.w_eq (h1.mono (by omega)), M3.w_eq (h2.mono (by omega))]
      rfl
    · simp only [bne_self_eq_false, beq_self_eq_true, cond_true]
      rw [(bif_beq hc).1, (bif_beq hc).2]; rfl
  · rw [(bif_beq hm).1, (bif_beq hm).2]
    simp only [cond_false]
    rw [(bif_beq hm).1]; rfl
end Go.Proofs.Ytjpfnfckpgilgaa.Vx
