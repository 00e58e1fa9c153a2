/-
  The document's answer for layers 1, 2 and 7, as the executor finds it ('t..'), and what that comes to. Nothing here is trusted.
-/
import Derived.Test.YtjpfnfckpgilgaaGreatHBasT
namespace Go.Proofs.YtjpfnfckpgilgaaGreat.Vx
open Go

def tR1Mat (m : M3) : Option Value := chainO mk1 (rangeT 1000 m.l) [0]
theorem tR1Mat_eq (m : M3) : tR1Mat m = some (fCheck m) := by
  unfold tR1Mat fCheck
  rw [chain_eq]
  show some (vI (matR m.a m.b m.c m.d m.e m.f m.g m.h m.i)) = _
  rw [mat_eq]; rfl
def tR1T (m : M3) : Option Value := some m.T.v
def fR1T (m : M3) : Value := m.T.v
theorem tR1T_eq (m : M3) : tR1T m = some (fR1T m) := rfl
def tR1Left (v : V3) (m : M3) : Option Value := some (m.T.app v).w.v
def fR1Left (v : V3) (m : M3) : Value := (M3.left v m).w.v
theorem left_T (v : V3) (m : M3) : m.T.app v = M3.left v m := by
  refine V3.ext' ⟨?_, ?_, ?_⟩ <;> (simp only [M3.T, M3.app, M3.left]; grind)
theorem tR1Left_eq (v : V3) (m : M3) : tR1Left v m = some (fR1Left v m) := by unfold tR1Left fR1Left; rw [left_T]
def tR1Det (m : M3) : Option Value := some (vI (rdet m.a m.b m.c m.d m.e m.f m.g m.h m.i))
theorem tR1Det_eq (m : M3) : tR1Det m = some (fRDet m) := by unfold tR1Det fRDet; rw [rdet_eq]; rfl
def tR1Adj (m : M3) : Option Value := some (lM (cofL m.a m.b m.c m.d m.e m.f m.g m.h m.i)).v
def fR1Adj (m : M3) : Value := m.adj.w.v
theorem tR1Adj_eq (m : M3) : tR1Adj m = some (fR1Adj m) := by
  unfold tR1Adj fR1Adj cofL
  simp only [minR_W]; rfl
def tR1Scale (n : Int) (m : M3) : Option Value := some (m.smul n).w.v
def fR1Scale (n : Int) (m : M3) : Value := (m.smul n).w.v
theorem tR1Scale_eq (n : Int) (m : M3) : tR1Scale n m = some (fR1Scale n m) := rfl
def tR1Inv (m : M3) : Option Value := some (m.adj.w.smul (W m.det)).w.v
def fR1Inv (m : M3) : Value := m.inv.w.v
theorem tR1Inv_eq (m : M3) : tR1Inv m = some (fR1Inv m) := by
  unfold tR1Inv fR1Inv M3.inv M3.smul M3.w
  simp only [W_mul2]
def tR1Form (m : M3) : Option Value :=
  match m.ck != 0 with
  | true => some (vI 4)
  | false => match W m.det != 1 with
    | true => match W m.det != -1 with
      | true => some (vI 3)
      | false => some (vI 0)
    | false => some (vI 0)
theorem tR1Form_eq (m : M3) : tR1Form m = some (fCheckM m) := by
  unfold tR1Form fCheckM M3.form M3.ck
  cases h : m.ok
  · rfl
  · simp only [cond_true, bne_self_eq_false, Wdet h]
    by_cases h1 : m.det = 1
    · rw [h1]; rfl
    · by_cases h2 : m.det = -1
      · rw [h2]; rfl
      · have e1 : (m.det != 1) = true := by simpa using h1
        have e2 : (m.det != -1) = true := by simpa using h2
        have e3 : unitB m.det = false := by simp [unitB, h1, h2]
        rw [e1, e2, e3]; rfl
theorem inv_w {m : M3} (h : m.form = 0) : m.inv.w = m.inv := by
  obtain ⟨h1, h2⟩ := M3.form_zero.1 h
  exact M3.w_eq (((M3.ok_iff.1 h1).inv h2).mono (by omega))
def tR1DocInv (m : M3) : Option Value :=
  match m.form != 0 with
  | true => some (p2 M3.zero.v (vI m.form))
  | false => some (p2 m.inv.w.v (vI 0))
theorem tR1DocInv_eq (m : M3) : tR1DocInv m = some (fInverse m) := by
  unfold tR1DocInv fInverse M3.invF
  by_cases h : m.form = 0
  · rw [inv_w h, h]; rfl
  · rw [(bif_beq h).1, (bif_beq h).2]; rfl
def tR2Form (p : P3) : Option Value := match isF p.m with
  | true => onO (modB p.m) (some (.bool (p.x.eqB (p.x.md p.m))))
  | false => some (.bool false)
theorem tR2Form_eq (p : P3) : tR2Form p = some (fPForm p) := by
  unfold tR2Form fPForm P3.form
  cases h : isF p.m with
  | true => simp only [onO_true (isF_modB h), Bool.true_and]
  | false => rfl
def tR4Form (o : O3) : Option Value := chainO mk1 [(decide (o.t.x < 0), [3]), (decide (o.t.x > 23), [3]), (decide (o.t.y < 0), [3]), (decide (o.t.y > 23), [3]), (decide (o.t.z < 0), [3]), (decide (o.t.z > 23), [3])] [o.r.form]
theorem part1_eq' (x : Int) : part1 x = (!(decide (x < 0)) && !(decide (x > 23))) := by
  unfold part1
  rw [Bool.eq_iff_iff]
  simp only [Bool.and_eq_true, decide_eq_true_eq, Bool.not_eq_true', decide_eq_false_iff_not]
  omega
theorem tR4Form_eq (o : O3) : tR4Form o = some (fOCheck o) := by
  unfold tR4Form fOCheck O3.ck V3.part
  rw [chain_eq, part1_eq', part1_eq', part1_eq']
  cases decide (o.t.x < 0) <;> cases decide (o.t.x > 23) <;> cases decide (o.t.y < 0) <;> cases decide (o.t.y > 23) <;> cases decide (o.t.z < 0) <;> cases decide (o.t.z > 23) <;> rfl
/-- m v + w modulo n. -/
def M3.img (m : M3) (v w : V3) (n : Int) : V3 := (((m.app (v.md n)).w).add (w.md n)).w.md n
def tImage (m : M3) (v w : V3) (n : Int) : Option Value := onO (modB n) (onO (modB n) (onO (modB n) (some (m.img v w n).v)))
theorem tImage_eq {m : M3} {v w : V3} {n : Int} (h : modB n = true) : tImage m v w n = some (m.img v w n).v := by
  unfold tImage; simp only [onO_true h]
theorem md_bd (v : V3) {n : Int} (h : modB n = true) : (v.md n).Bd 1000 := by
  obtain ⟨h0, h1⟩ := modB_iff.1 h
  have := Int.emod_nonneg v.x (show n ≠ 0 by omega)
  have := Int.emod_nonneg v.y (show n ≠ 0 by omega)
  have := Int.emod_nonneg v.z (show n ≠ 0 by omega)
  have := Int.emod_lt_of_pos v.x h0
  have := Int.emod_lt_of_pos v.y h0
  have := Int.emod_lt_of_pos v.z h0
  unfold V3.md V3.Bd
  simp only
  omega
theorem img_eq {m : M3} {v w : V3} {n : Int} (hm : m.ok = true) (h : modB n = true) : m.img v w n = ((m.app v).add w).md n := by
  have h1 := (M3.ok_iff.1 hm).app (md_bd v h)
  have h2 := h1.add (md_bd w h)
  unfold M3.img
  rw [V3.w_eq (h1.mono (by omega)), V3.w_eq (h2.mono (by omega)), V3.md_add_r, ← md_add_md, app_md', md_add_md]
def tDocBehind (a b : O3) : Option Value :=
  match leastN a.r.form b.r.form != 0 with
  | true => some (pOE O3.zero (leastN a.r.form b.r.form))
  | false => match ((a.r.mul b.r).w).ck != 0 with
    | true => some (pOE O3.zero ((a.r.mul b.r).w).ck)
    | false => some (pOE ⟨(a.r.mul b.r).w, a.r.img b.t a.t 24⟩ 0)
theorem mod24 : modB 24 = true := rfl
theorem tDocBehind_eq (a b : O3) : tDocBehind a b = some (fBehind a b) := by
  unfold tDocBehind fBehind O3.behF O3.behE
  by_cases h : leastN a.r.form b.r.form = 0
  · obtain ⟨ha, hb⟩ := leastZero.1 h
    obtain ⟨a1, a2⟩ := M3.form_zero.1 ha
    obtain ⟨b1, b2⟩ := M3.form_zero.1 hb
    rw [h, M3.w_eq (((M3.ok_iff.1 a1).mul (M3.ok_iff.1 b1)).mono (by omega)), img_eq a1 mod24]
    unfold O3.small O3.smallE O3.mul M3.ck
    simp only
    cases (a.r.mul b.r).ok <;> rfl
  · rw [(bif_beq h).1, (bif_beq h).2]; rfl
def V3.neg0 (u : V3) : V3 := ⟨W (0 - u.x), W (0 - u.y), W (0 - u.z)⟩
def tDocBack (c : O3) : Option Value :=
  match c.r.form != 0 with
  | true => some (pOE O3.zero c.r.form)
  | false => match c.r.invF.ck != 0 with
    | true => some (pOE O3.zero c.r.invF.ck)
    | false => some (pOE ⟨c.r.invF, ((c.r.invF.app (c.t.md 24)).w.neg0).md 24⟩ 0)
theorem neg0_eq {u : V3} (h : u.Bd 1000000000) : u.neg0 = u.neg := by
  unfold V3.neg0 V3.neg
  unfold V3.Bd at h
  rw [W_in (by omega), W_in (by omega), W_in (by omega)]
  simp only [Int.zero_sub]
theorem tDocBack_eq (c : O3) : tDocBack c = some (fBBack c) := by
  unfold tDocBack fBBack O3.bakF O3.bakE
  by_cases h : c.r.form = 0
  · obtain ⟨c1, c2⟩ := M3.form_zero.1 h
    have hb := ((M3.ok_iff.1 c1).inv c2).app (V3.part_bd (V3.md_part c.t))
    rw [h, invF_form h, V3.w_eq (hb.mono (by omega)), neg0_eq (hb.mono (by omega)), ← neg_md, app_md', neg_md]
    unfold O3.small O3.smallE O3.inv M3.ck
    simp only
    cases c.r.inv.ok <;> rfl
  · rw [(bif_beq h).1, (bif_beq h).2]; rfl
def pt1 (t m : Int) : Int := W (t % 24 * W (Int.tdiv m 24))
def V3.pts (t : V3) (m : Int) : V3 := ⟨pt1 t.x m, pt1 t.y m, pt1 t.z m⟩
def tDocPoint (c : O3) (p : P3) : Option Value :=
  match !p.form with
  | true => some (p2 P3.zero.v (vI 3))
  | false => match c.r.form != 0 with
    | true => some (p2 P3.zero.v (vI c.r.form))
    | false => onO (modB p.m) (some (p2 (P3.v ⟨p.m, c.r.img p.x (c.t.pts p.m) p.m⟩) (vI 0)))
theorem pt1_eq (t : Int) {m : Int} (hm : m = 24 ∨ m = 48 ∨ m = 96 ∨ m = 192) : pt1 t m = m / 24 * (t % 24) := by
  unfold pt1
  rcases hm with rfl | rfl | rfl | rfl
  · rw [show W (Int.tdiv 24 24) = 1 from rfl, W_in (n := t % 24 * 1) (by omega)]; omega
  · rw [show W (Int.tdiv 48 24) = 2 from rfl, W_in (n := t % 24 * 2) (by omega)]; omega
  · rw [show W (Int.tdiv 96 24) = 4 from rfl, W_in (n := t % 24 * 4) (by omega)]; omega
  · rw [show W (Int.tdiv 192 24) = 8 from rfl, W_in (n := t % 24 * 8) (by omega)]; omega
theorem pts_eq (t : V3) {m : Int} (hm : m = 24 ∨ m = 48 ∨ m = 96 ∨ m = 192) : t.pts m = (t.md 24).smul (m / 24) := by
  unfold V3.pts V3.smul V3.md
  rw [pt1_eq _ hm, pt1_eq _ hm, pt1_eq _ hm]
theorem tDocPoint_eq (c : O3) (p : P3) : tDocPoint c p = some (fPoint c p) := by
  unfold tDocPoint fPoint O3.ptF O3.ptE
  cases hp : p.form with
  | false => rfl
  | true =>
    simp only [Bool.not_true, cond_true]
    by_cases h : c.r.form = 0
    · obtain ⟨c1, c2⟩ := M3.form_zero.1 h
      have hm := (P3.form_spec hp).1
      have hmod : modB p.m = true := modB_iff.2 (by omega)
      rw [h, onO_true hmod, img_eq c1 hmod, pts_eq _ hm]
      have := O3.app_md (c := c) hp
      unfold O3.app at this ⊢
      simp only at this
      simp only [bne_self_eq_false, beq_self_eq_true, cond_true]
      rw [this]
    · rw [(bif_beq h).1, (bif_beq h).2]; rfl
def O3.rtold (c o : O3) : O3 :=
  ⟨((c.r.mul o.r).w.mul c.r.inv.w).w, V3.md 24 ⟨W ((c.r.img o.t c.t 24).x - Int.tmod (((c.r.mul o.r).w.mul c.r.inv.w).w.app (c.t.md 24)).w.x 24), W ((c.r.img o.t c.t 24).y - Int.tmod (((c.r.mul o.r).w.mul c.r.inv.w).w.app (c.t.md 24)).w.y 24), W ((c.r.img o.t c.t 24).z - Int.tmod (((c.r.mul o.r).w.mul c.r.inv.w).w.app (c.t.md 24)).w.z 24)⟩⟩
def tTold (c o : O3) : Option Value := some (c.rtold o).v
def fTold (c o : O3) : Value := (c.rtold o).v
theorem tTold_eq (c o : O3) : tTold c o = some (fTold c o) := rfl
theorem tmod24 (a u : Int) (ha : 0 ≤ a ∧ a < 24) : W (a - Int.tmod u 24) % 24 = (a - u) % 24 := by
  have h1 := tmod_bd u 24 (by omega)
  have h2 := Int.tmod_add_mul_tdiv u 24
  rw [W_in (by omega)]
  omega
theorem rtold_eq {c o : O3} (hc : c.r.form = 0) (ho : o.ck = 0) : c.rtold o = c.told o := by
  obtain ⟨c1, c2⟩ := M3.form_zero.1 hc
  obtain ⟨o1, o2, o3⟩ := O3.ck_zero.1 ho
  have h1 := (M3.ok_iff.1 c1).mul (M3.ok_iff.1 o2)
  have h2 := h1.mul ((M3.ok_iff.1 c1).inv c2)
  have h3 := h2.app (V3.part_bd (V3.md_part c.t))
  unfold O3.rtold O3.told
  rw [inv_w hc, M3.w_eq (h1.mono (by omega)), M3.w_eq (h2.mono (by omega)), V3.w_eq (h3.mono (by omega)), img_eq c1 mod24]
  congr 1
  have key := app_md' 24 ((c.r.mul o.r).mul c.r.inv) c.t
  generalize ((c.r.mul o.r).mul c.r.inv).app (c.t.md 24) = u at key ⊢
  generalize ((c.r.mul o.r).mul c.r.inv).app c.t = u' at key ⊢
  generalize (c.r.app o.t).add c.t = s
  unfold V3.md at key
  simp only [V3.mk.injEq] at key
  unfold V3.md V3.add V3.neg
  simp only [V3.mk.injEq]
  rw [tmod24 _ _ (by omega), tmod24 _ _ (by omega), tmod24 _ _ (by omega)]
  omega
def tDocOp (c o : O3) : Option Value :=
  match leastN c.r.form o.ck != 0 with
  | true => some (pOE O3.zero (leastN c.r.form o.ck))
  | false => match (c.rtold o).r.ck != 0 with
    | true => some (pOE O3.zero (c.rtold o).r.ck)
    | false => some (pOE (c.rtold o) 0)
theorem tDocOp_eq (c o : O3) : tDocOp c o = some (fBOp c o) := by
  unfold tDocOp fBOp O3.opcF O3.opcE
  by_cases h : leastN c.r.form o.ck = 0
  · obtain ⟨hc, ho⟩ := leastZero.1 h
    rw [h, rtold_eq hc ho]
    unfold O3.small O3.smallE M3.ck
    cases (c.told o).r.ok <;> rfl
  · rw [(bif_beq h).1, (bif_beq h).2]; rfl
theorem tDocIndex_eq (c : O3) (h : V3) : tIndex c h = some (fIndex c h) := tIndex_eq c h
def tBTurned (m : G6) (p : M3) : Option Value := some (G6.of ((p.T.mul ((m.mat.mul p).w)).w)).v
def fBTurned (m : G6) (p : M3) : Value := (G6.of ((p.T.mul ((m.mat.mul p).w)).w)).v
theorem tBTurned_eq (m : G6) (p : M3) : tBTurned m p = some (fBTurned m p) := rfl
def tDocMetric (c : O3) (m : G6) : Option Value :=
  match m.ck != 0 with
  | true => some (pGE G6.zero m.ck)
  | false => match c.r.form != 0 with
    | true => some (pGE G6.zero c.r.form)
    | false => some (pGE (G6.of ((c.r.invF.T.mul ((m.mat.mul c.r.invF).w)).w)) 0)
theorem tDocMetric_eq (c : O3) (m : G6) : tDocMetric c m = some (fMetric c m) := by
  unfold tDocMetric fMetric O3.metF O3.metE
  by_cases hm : m.ck = 0
  · rw [hm]
    by_cases hc : c.r.form = 0
    · obtain ⟨c1, c2⟩ := M3.form_zero.1 hc
      have hi := (M3.ok_iff.1 c1).inv c2
      have h1 := (G6.mat_bd (G6.ck_zero hm)).mul hi
      have h2 := hi.T.mul h1
      rw [hc, invF_form hc, M3.w_eq (h1.mono (by omega)), M3.w_eq (h2.mono (by omega)), ← M3.mul_assoc]
      rfl
    · simp only [bne_self_eq_false, beq_self_eq_true, cond_true]
      rw [(bif_beq hc).1, (bif_beq hc).2]; rfl
  · rw [(bif_beq hm).1, (bif_beq hm).2]
    simp only [cond_false]
    rw [(bif_beq hm).1]; rfl
end Go.Proofs.YtjpfnfckpgilgaaGreat.Vx
