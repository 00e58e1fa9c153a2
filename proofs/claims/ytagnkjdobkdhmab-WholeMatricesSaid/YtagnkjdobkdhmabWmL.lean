/-
  What the statement WholeMatrices finds. No program in sight. Nothing here is trusted.
-/
import Derived.Test.YtagnkjdobkdhmabWmM
namespace Go.Proofs.Ytagnkjdobkdhmab.Vx
open Go
def wmI (g w : M3) (n i : Int) : Bool := gOk g && (n == g.ordI && (decide (1 ≤ i) && (decide (i ≤ n) && w.eqB (g.pow i.toNat))))
theorem wmI_iff {g w : M3} {n i : Int} : wmI g w n i = true ↔ gOk g = true ∧ n = g.ordI ∧ 1 ≤ i ∧ i ≤ n ∧ w = g.pow i.toNat := by
  unfold wmI
  simp only [Bool.and_eq_true, beq_iff_eq, decide_eq_true_eq, M3.eqB_iff]
theorem gOk_spec {g : M3} (h : gOk g = true) : g.form = 0 ∧ g.ordI ≠ 0 ∧ ∀ j : Nat, 1 ≤ j → j ≤ 6 → (g.pow j).ok = true := by
  unfold gOk at h
  simp only [Bool.and_eq_true, beq_iff_eq, Bool.not_eq_true', beq_eq_false_iff_ne] at h
  obtain ⟨h0, h1, p1, p2, p3, p4, p5, p6⟩ := h
  refine ⟨h0, h1, fun j a b => ?_⟩
  have : j = 1 ∨ j = 2 ∨ j = 3 ∨ j = 4 ∨ j = 5 ∨ j = 6 := by omega
  rcases this with rfl | rfl | rfl | rfl | rfl | rfl <;> assumption
theorem wm_step {g w : M3} {n i : Int} (h : wmI g w n i = true) (hi : i < n) : w.eqB M3.one = false ∧ wmI g (w.mul g).w n (i + 1) = true := by
  obtain ⟨h1, h2, h3, h4, h5⟩ := wmI_iff.1 h
  obtain ⟨g1, g2, g3⟩ := gOk_spec h1
  obtain ⟨N, e1, o1, o2⟩ := M3.ordI_spec g2
  constructor
  · rw [M3.eqB_false, h5]
    exact o1.2.2 i.toNat (by omega) (by omega)
  · have hp : w.mul g = g.pow (i + 1).toNat := by
      rw [show (i + 1).toNat = i.toNat + 1 by omega, h5]
      simp only [M3.pow]; exact M3.pow_comm _ _
    have hok : (w.mul g).ok = true := by rw [hp]; exact g3 _ (by omega) (by omega)
    have hw : (w.mul g).w = w.mul g := M3.w_eq ((M3.ok_iff.1 hok).mono (by omega))
    exact wmI_iff.2 ⟨h1, h2, by omega, by omega, by rw [hw, hp]⟩
theorem wm_end {g w : M3} {n i : Int} (h : wmI g w n i = true) (hi : ¬ i < n) : w = g.pow n.toNat := by
  obtain ⟨h1, h2, h3, h4, h5⟩ := wmI_iff.1 h
  rw [h5, show i = n by omega]
def shear : M3 := ⟨1, 1, 0, 0, 1, 0, 0, 0, 1⟩
def wmE (g : M3) (n : Int) : Option Value := match (g.pow n.toNat).eqB M3.one with
  | true => match n == 1 with
    | true => some (.bool (shear.ordE == 9))
    | false => match n == 2 with
      | true => some (.bool (shear.ordE == 9))
      | false => match n == 3 with
        | true => some (.bool (shear.ordE == 9))
        | false => match n == 4 with
          | true => some (.bool (shear.ordE == 9))
          | false => match n == 6 with
            | true => some (.bool (shear.ordE == 9))
            | false => some (.bool false)
  | false => some (.bool false)
def wmT (g : M3) : Option Value := guardF [g.form != 0, (bif g.ok && g.invF.ok then 0 else 4 : Int) != 0, g.ordE != 0, !((g.mulF g.invF).eqB M3.one)] (onO (wmI g g g.ordF 1) (wmE g g.ordF))
def eOk (b : Bool) : Int := bif b then 0 else 4
def dF (m : M3) : Int := bif m.ok then m.det else 0
def byteB (k : Int) : Bool := decide (0 ≤ k) && decide (k < 256)
def wm3 (S X : Int → M3) (k : Int) (hex : Bool) : Option Value := onO (byteB k) (match hex with
  | true => onO (byteB k) (wmT (X k))
  | false => wmT (S k))
def wm2 (x y : M3) (u : V3) (K : Option Value) : Option Value :=
  guardF [eOk (x.ok && u.ok) != 0, eOk (y.ok && (M3.leftF u x).ok) != 0, eOk ((x.mulF y).ok && u.ok) != 0, x.ck != 0, eOk (x.tpF.ok && u.ok) != 0, !((M3.leftF (M3.leftF u x) y).eqB (M3.leftF u (x.mulF y))), !((x.tpF.appF u).eqB (M3.leftF u x))] K
def wm1 (x y : M3) (u : V3) (K : Option Value) : Option Value :=
  guardF [eOk (x.ok && y.ok) != 0, eOk (y.ok && u.ok) != 0, eOk (x.ok && (y.appF u).ok) != 0, eOk ((x.mulF y).ok && u.ok) != 0, x.ck != 0, y.ck != 0, (x.mulF y).ck != 0, x.ck != 0, eOk (x.ok && x.adjF.ok) != 0,
    !((x.appF (y.appF u)).eqB ((x.mulF y).appF u)), dF (x.mulF y) != W (dF x * dF y), !((x.mulF x.adjF).eqB ⟨dF x, 0, 0, 0, dF x, 0, 0, 0, dF x⟩)] K
def m12 (a b c d e f g h i : Int) : M3 := ⟨Int.tmod (W a) 12, Int.tmod (W b) 12, Int.tmod (W c) 12, Int.tmod (W d) 12, Int.tmod (W e) 12, Int.tmod (W f) 12, Int.tmod (W g) 12, Int.tmod (W h) 12, Int.tmod (W i) 12⟩
def tWholeM (S X : Int → M3) (x y : M3) (u : V3) (k : Int) (hex : Bool) : Option Value := wm1 x y u (wm2 x y u (wm3 S X k hex))
theorem wmT_true {g : M3} (h : gOk g = true) : wmT g = some (.bool true) := by
  obtain ⟨g1, g2, g3⟩ := gOk_spec h
  obtain ⟨N, e1, o1, o2⟩ := M3.ordI_spec g2
  obtain ⟨go, gu⟩ := M3.form_zero.1 g1
  have eF : g.ordF = g.ordI := by unfold M3.ordF; rw [g1]; rfl
  have eE : g.ordE = 0 := by unfold M3.ordE; rw [g1, (bif_beq g2).1]; rfl
  have ei : g.invF = g.inv := by unfold M3.invF; rw [g1]; rfl
  have io : g.inv.ok = true := by
    have : g.inv = g.pow (N - 1) ∨ N = 1 := by
      rcases Nat.lt_or_ge 1 N with hN | hN
      · left
        refine (M3.inv_unique gu ?_).symm
        have := o1.2.1
        rw [show N = (N - 1) + 1 by omega] at this
        exact this
      · right; have := o1.1; omega
    rcases this with h1 | h1
    · rcases Nat.lt_or_ge (N - 1) 1 with hN | hN
      · rw [h1, show N - 1 = 0 by omega]; show M3.one.ok = true; decide
      · rw [h1]; exact g3 _ hN (by omega)
    · have h2 := o1.2.1
      rw [h1, M3.pow_one] at h2
      have : g.inv = M3.one := (M3.inv_unique gu (by rw [h2]; exact M3.mul_one _)).symm
      rw [this]; decide
  have em : g.mulF g.invF = M3.one := by unfold M3.mulF; rw [ei, go, io]; exact M3.mul_inv gu
  have hp := o1.1
  have hI : wmI g g g.ordF 1 = true := wmI_iff.2 ⟨h, eF, by omega, by rw [eF, e1]; omega, (M3.pow_one g).symm⟩
  have hE : wmE g g.ordF = some (.bool true) := by
    unfold wmE
    rw [eF, e1]
    have h1 : (g.pow ((N : Int)).toNat).eqB M3.one = true := by rw [Int.toNat_natCast, M3.eqB_iff]; exact o1.2.1
    have hs : (shear.ordE == 9) = true := by decide +kernel
    rw [h1, hs]
    rcases o2 with rfl | rfl | rfl | rfl | rfl <;> rfl
  unfold wmT
  rw [em, ei, go, io, g1, eE, onO_true hI, hE, M3.eqB_refl]
  rfl
theorem wm3_true {S X : Int → M3} {k : Int} {hex : Bool} (hS : ∀ k, gOk (S k) = true) (hX : ∀ k, gOk (X k) = true) (hk : 0 ≤ k ∧ k < 256) : wm3 S X k hex = some (.bool true) := by
  have hb : byteB k = true := by unfold byteB; simp [hk]
  unfold wm3
  rw [onO_true hb, onO_true hb, wmT_true (hS k), wmT_true (hX k)]
  cases hex <;> rfl
theorem M3.Bd.le {n k : Int} {m : M3} (h : m.Bd n) (hk : n ≤ k) : m.Bd k := h.mono hk
theorem whole_true {S X : Int → M3} {x y : M3} {u : V3} {k : Int} {hex : Bool} (hS : ∀ k, gOk (S k) = true) (hX : ∀ k, gOk (X k) = true) (hk : 0 ≤ k ∧ k < 256) (hx : x.Bd 11) (hy : y.Bd 11) (hu : u.Bd 40000) : tWholeM S X x y u k hex = some (.bool true) := by
  have xo : x.ok = true := M3.ok_iff.2 (hx.mono (by omega))
  have yo : y.ok = true := M3.ok_iff.2 (hy.mono (by omega))
  have uo : u.ok = true := V3.ok_iff.2 (by unfold V3.Bd at *; omega)
  have exy : x.mulF y = x.mul y := by unfold M3.mulF; rw [xo, yo]; rfl
  have xyo : (x.mul y).ok = true := M3.ok_iff.2 ((hx.mul hy).mono (by omega))
  have eyu : y.appF u = y.app u := by unfold M3.appF; rw [yo, uo]; rfl
  have yuo : (y.app u).ok = true := V3.ok_iff.2 ((hy.app hu).mono (by omega))
  have exyu : x.appF (y.app u) = x.app (y.app u) := by unfold M3.appF; rw [xo, yuo]; rfl
  have eall : (x.mul y).appF u = (x.mul y).app u := by unfold M3.appF; rw [xyo, uo]; rfl
  have eadj : x.adjF = x.adj := by unfold M3.adjF; rw [xo]; rfl
  have ado : x.adj.ok = true := M3.ok_iff.2 (hx.adj.mono (by omega))
  have ep : x.mulF x.adj = x.mul x.adj := by unfold M3.mulF; rw [xo, ado]; rfl
  have ed : dF x = x.det := by unfold dF; rw [xo]; rfl
  have edy : dF y = y.det := by unfold dF; rw [yo]; rfl
  have edxy : dF (x.mul y) = (x.mul y).det := by unfold dF; rw [xyo]; rfl
  have cx : x.ck = 0 := by unfold M3.ck; rw [xo]; rfl
  have cy : y.ck = 0 := by unfold M3.ck; rw [yo]; rfl
  have cxy : (x.mul y).ck = 0 := by unfold M3.ck; rw [xyo]; rfl
  have ehy : M3.leftF u x = x.tp.app u := by unfold M3.leftF; rw [xo, uo, M3.left_eq]; rfl
  have hyo : (x.tp.app u).ok = true := V3.ok_iff.2 ((hx.tp.app hu).mono (by omega))
  have ehxy : M3.leftF (x.tp.app u) y = y.tp.app (x.tp.app u) := by unfold M3.leftF; rw [yo, hyo, M3.left_eq]; rfl
  have el : M3.leftF u (x.mul y) = (x.mul y).tp.app u := by unfold M3.leftF; rw [xyo, uo, M3.left_eq]; rfl
  have etx : x.tpF = x.tp := by unfold M3.tpF; rw [xo]; rfl
  have txo : x.tp.ok = true := M3.ok_iff.2 (hx.tp.mono (by omega))
  have eux : x.tp.appF u = x.tp.app u := by unfold M3.appF; rw [txo, uo]; rfl
  have tpm : (x.mul y).tp = y.tp.mul x.tp := by
    refine M3.ext' ⟨?_, ?_, ?_, ?_, ?_, ?_, ?_, ?_, ?_⟩ <;> (simp only [M3.mul, M3.tp, Int.mul_comm])
  have hdet : (x.mul y).det = W (x.det * y.det) := by
    have b1 := hx.det
    have b2 := hy.det
    have := bd_mul (m := 10000) (n := 10000) (x := x.det) (y := y.det) (by omega) (by omega)
    rw [M3.det_mul, W_in (by omega)]
  have hadj : x.mul x.adj = ⟨x.det, 0, 0, 0, x.det, 0, 0, 0, x.det⟩ := by
    rw [M3.mul_adj]; unfold M3.smul M3.one; simp
  unfold tWholeM wm1 wm2
  simp only [exy, eyu, exyu, eall, eadj, ep, ed, edy, edxy, cx, cy, cxy, ehy, ehxy, el, etx, eux, xo, yo, uo, xyo, yuo, ado, hyo, txo, ← M3.app_mul, tpm, ← hdet, hadj, M3.eqB_refl, V3.eqB_refl, Bool.and_self, eOk, cond_true, bne_self_eq_false, Bool.not_true, guardF]
  exact wm3_true hS hX hk
end Go.Proofs.Ytagnkjdobkdhmab.Vx
