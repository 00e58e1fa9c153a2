/-
  A map done over and over: what op.Power and the document's answer come to. Nothing here is trusted.
-/
import Derived.Test.YtofblakbfmjgkaaKaf

namespace Go.Proofs.Ytofblakbfmjgkaa.Vx
open Go

/-- So many times more; the map that was reached, and the error. -/
def powL (o : O3) : Nat → O3 → O3 × Int
  | 0, p => (p, 0)
  | k + 1, p => match o.mulE p != 0 with
    | true => (p, o.mulE p)
    | false => powL o k (o.mulF p)
def powOut (x : O3 × Int) : O3 × Int := bif x.2 == 0 then (x.1, 0) else (O3.zero, x.2)
def O3.pow (o : O3) (n : Int) : O3 × Int :=
  bif decide (n < -1000) || decide (n > 1000) then (O3.zero, 1)
  else bif o.ck != 0 then (O3.zero, o.ck)
  else bif decide (n < 0) then (bif o.invE != 0 then (O3.zero, o.invE) else powOut (powL o.invF (-n).toNat O3.one))
  else powOut (powL o n.toNat O3.one)
def tPowEnd (x : O3 × Int) : Option Value := match x.2 == 0 with
  | true => some (pOE x.1 0)
  | false => some (pOE O3.zero x.2)
def rngB (i n : Int) : Bool := decide (0 ≤ i) && (decide (i ≤ n) && decide (n ≤ 1000))
theorem rngB_iff {i n : Int} : rngB i n = true ↔ 0 ≤ i ∧ i ≤ n ∧ n ≤ 1000 := by simp [rngB]
def tPower (o : O3) (n : Int) : Option Value := match decide (n < -1000) with
  | true => some (pOE O3.zero 1)
  | false => match decide (n > 1000) with
    | true => some (pOE O3.zero 1)
    | false => match o.ck != 0 with
      | true => some (pOE O3.zero o.ck)
      | false => match decide (n < 0) with
        | true => match o.invE != 0 with
          | true => some (pOE O3.zero o.invE)
          | false => onO (rngB 0 (W (0 - n))) (tPowEnd (powL o.invF (W (0 - n) - 0).toNat O3.one))
        | false => onO (rngB 0 n) (tPowEnd (powL o (n - 0).toNat O3.one))
def fPower (o : O3) (n : Int) : Value := pOE (o.pow n).1 (o.pow n).2
theorem tPowEnd_eq (x : O3 × Int) : tPowEnd x = some (pOE (powOut x).1 (powOut x).2) := by
  unfold tPowEnd powOut
  cases x.2 == 0 <;> rfl
theorem tPower_eq (o : O3) (n : Int) : tPower o n = some (fPower o n) := by
  unfold tPower fPower O3.pow
  by_cases h1 : n < -1000
  · simp [h1]
  · by_cases h2 : n > 1000
    · simp [h1, h2]
    · by_cases h3 : o.ck = 0
      · by_cases h4 : n < 0
        · by_cases h5 : o.invE = 0
          · have hr : rngB 0 (0 - n) = true := rngB_iff.2 (by omega)
            simp only [h1, h2, h3, h4, h5, decide_false, decide_true, Bool.or_self, cond_false, cond_true, bne_self_eq_false]
            rw [W_in (by omega), onO_true hr, tPowEnd_eq, show (0 - n - 0).toNat = (-n).toNat by omega]
          · simp [h1, h2, h3, h4, (bif_beq h5).2]
        · have hr : rngB 0 n = true := rngB_iff.2 (by omega)
          simp only [h1, h2, h3, h4, decide_false, Bool.or_self, cond_false, bne_self_eq_false]
          rw [onO_true hr, tPowEnd_eq, show (n - 0).toNat = n.toNat by omega]
      · simp [h1, h2, (bif_beq h3).2]

/-! The document's -/
/-- What the document's loop does: so many times more; the map that was reached, and the error. -/
def rpowL (o : O3) : Nat → O3 → O3 × Int
  | 0, p => (p, 0)
  | k + 1, p => match (o.rmul p).smallE != 0 with
    | true => ((o.rmul p).small, (o.rmul p).smallE)
    | false => rpowL o k (o.rmul p).small
theorem O3.ck_mul {a b : O3} (ha : a.ck = 0) (hb : b.ck = 0) (h : (a.mul b).r.ok = true) : (a.mul b).ck = 0 := by
  obtain ⟨_, _, a3⟩ := O3.ck_zero.1 ha
  obtain ⟨_, _, b3⟩ := O3.ck_zero.1 hb
  exact O3.ck_zero.2 ⟨V3.md_part _, h, M3.U_mul a3 b3⟩
theorem O3.mulF_eq {a b : O3} (ha : a.ck = 0) (hb : b.ck = 0) : a.mulF b = (a.mul b).small ∧ a.mulE b = (a.mul b).smallE := by
  have : leastI a.ck b.ck = 0 := leastI_zero.2 ⟨ha, hb⟩
  unfold O3.mulF O3.mulE
  rw [this]; exact ⟨rfl, rfl⟩
theorem O3.smallE_zero {o : O3} : o.smallE = 0 ↔ o.r.ok = true := by unfold O3.smallE; cases o.r.ok <;> simp
theorem O3.small_ok {o : O3} (h : o.r.ok = true) : o.small = o := by unfold O3.small; rw [h]; rfl
theorem O3.ck_one : O3.one.ck = 0 := by decide
theorem rpow_eq (o : O3) (ho : o.ck = 0) : ∀ (k : Nat) (p : O3), p.ck = 0 → powOut (rpowL o k p) = powOut (powL o k p)
  | 0, p, _ => rfl
  | k + 1, p, hp => by
    simp only [rpowL, powL]
    rw [O3.rmul_eq ho hp, (O3.mulF_eq ho hp).1, (O3.mulF_eq ho hp).2]
    cases he : (o.mul p).smallE != 0 with
    | true =>
      have : ((o.mul p).smallE == 0) = false := by simpa using he
      simp only [powOut, this, cond_false]
    | false =>
      have h0 : (o.mul p).smallE = 0 := by simpa using he
      have hok := O3.smallE_zero.1 h0
      simp only
      rw [O3.small_ok hok]
      exact rpow_eq o ho k (o.mul p) (O3.ck_mul ho hp hok)
def tDocPower (o : O3) (n : Int) : Option Value := match decide (n < -1000) with
  | true => some (pOE O3.zero 1)
  | false => match decide (n > 1000) with
    | true => some (pOE O3.zero 1)
    | false => match o.ck != 0 with
      | true => some (pOE O3.zero o.ck)
      | false => match decide (n < 0) with
        | true => match o.rback.smallE != 0 with
          | true => some (pOE O3.zero o.rback.smallE)
          | false => onO (rngB 0 (W (0 - n))) (tPowEnd (rpowL o.rback.small (W (0 - n)).toNat O3.one))
        | false => onO (rngB 0 n) (tPowEnd (rpowL o n.toNat O3.one))
theorem O3.ck_inv {a : O3} (ha : a.ck = 0) (h : a.inv.r.ok = true) : a.inv.ck = 0 := by
  obtain ⟨_, _, a3⟩ := O3.ck_zero.1 ha
  exact O3.ck_zero.2 ⟨V3.md_part _, h, M3.U_inv a3⟩
theorem tDocPower_eq (o : O3) (n : Int) : tDocPower o n = some (fPower o n) := by
  rw [← tPower_eq]
  unfold tDocPower tPower
  by_cases h3 : o.ck = 0
  · have e1 : o.invE = o.rback.smallE ∧ o.invF = o.rback.small := by
      unfold O3.invE O3.invF
      rw [h3, O3.rback_eq h3]; exact ⟨rfl, rfl⟩
    rw [e1.1, e1.2]
    rw [tPowEnd_eq, tPowEnd_eq, tPowEnd_eq, tPowEnd_eq, rpow_eq o h3 _ _ O3.ck_one, show (n - 0).toNat = n.toNat by omega, show (W (0 - n) - 0).toNat = (W (0 - n)).toNat by omega]
    cases he : o.rback.smallE != 0 with
    | true => rfl
    | false =>
      have h0 : o.rback.smallE = 0 := by simpa using he
      have hok := O3.smallE_zero.1 h0
      have hck : o.rback.small.ck = 0 := by
        rw [O3.small_ok hok]
        rw [O3.rback_eq h3] at hok ⊢
        exact O3.ck_inv h3 hok
      rw [rpow_eq _ hck _ _ O3.ck_one]
  · rw [(bif_beq h3).2]
end Go.Proofs.Ytofblakbfmjgkaa.Vx


namespace Go.Proofs.Ytofblakbfmjgkaa
open Go Vx

/-- What holds of a matrix m, its square p and its adjugate c. -/
structure Alg (m0 m1 m2 m3 m4 m5 m6 m7 m8 p0 p1 p2 p3 p4 p5 p6 p7 p8 c0 c1 c2 c3 c4 c5 c6 c7 c8 t s D : Int) : Prop where
  tr : t = m0 + m4 + m8
  sq0 : p0 = m0 * m0 + m1 * m3 + m2 * m6
  sq1 : p1 = m0 * m1 + m1 * m4 + m2 * m7
  sq2 : p2 = m0 * m2 + m1 * m5 + m2 * m8
  sq3 : p3 = m3 * m0 + m4 * m3 + m5 * m6
  sq4 : p4 = m3 * m1 + m4 * m4 + m5 * m7
  sq5 : p5 = m3 * m2 + m4 * m5 + m5 * m8
  sq6 : p6 = m6 * m0 + m7 * m3 + m8 * m6
  sq7 : p7 = m6 * m1 + m7 * m4 + m8 * m7
  sq8 : p8 = m6 * m2 + m7 * m5 + m8 * m8
  ch0 : c0 = p0 - t * m0 + s * 1
  ch1 : c1 = p1 - t * m1 + s * 0
  ch2 : c2 = p2 - t * m2 + s * 0
  ch3 : c3 = p3 - t * m3 + s * 0
  ch4 : c4 = p4 - t * m4 + s * 1
  ch5 : c5 = p5 - t * m5 + s * 0
  ch6 : c6 = p6 - t * m6 + s * 0
  ch7 : c7 = p7 - t * m7 + s * 0
  ch8 : c8 = p8 - t * m8 + s * 1
  cp0 : c0 * p0 + c1 * p3 + c2 * p6 = D * m0
  cp1 : c0 * p1 + c1 * p4 + c2 * p7 = D * m1
  cp2 : c0 * p2 + c1 * p5 + c2 * p8 = D * m2
  cp3 : c3 * p0 + c4 * p3 + c5 * p6 = D * m3
  cp4 : c3 * p1 + c4 * p4 + c5 * p7 = D * m4
  cp5 : c3 * p2 + c4 * p5 + c5 * p8 = D * m5
  cp6 : c6 * p0 + c7 * p3 + c8 * p6 = D * m6
  cp7 : c6 * p1 + c7 * p4 + c8 * p7 = D * m7
  cp8 : c6 * p2 + c7 * p5 + c8 * p8 = D * m8
  mc0 : m0 * c0 + m1 * c3 + m2 * c6 = D * 1
  mc1 : m0 * c1 + m1 * c4 + m2 * c7 = D * 0
  mc2 : m0 * c2 + m1 * c5 + m2 * c8 = D * 0
  mc3 : m3 * c0 + m4 * c3 + m5 * c6 = D * 0
  mc4 : m3 * c1 + m4 * c4 + m5 * c7 = D * 1
  mc5 : m3 * c2 + m4 * c5 + m5 * c8 = D * 0
  mc6 : m6 * c0 + m7 * c3 + m8 * c6 = D * 0
  mc7 : m6 * c1 + m7 * c4 + m8 * c7 = D * 0
  mc8 : m6 * c2 + m7 * c5 + m8 * c8 = D * 1
  mp0 : m0 * p0 + m1 * p3 + m2 * p6 = t * p0 - s * m0 + D * 1
  mp1 : m0 * p1 + m1 * p4 + m2 * p7 = t * p1 - s * m1 + D * 0
  mp2 : m0 * p2 + m1 * p5 + m2 * p8 = t * p2 - s * m2 + D * 0
  mp3 : m3 * p0 + m4 * p3 + m5 * p6 = t * p3 - s * m3 + D * 0
  mp4 : m3 * p1 + m4 * p4 + m5 * p7 = t * p4 - s * m4 + D * 1
  mp5 : m3 * p2 + m4 * p5 + m5 * p8 = t * p5 - s * m5 + D * 0
  mp6 : m6 * p0 + m7 * p3 + m8 * p6 = t * p6 - s * m6 + D * 0
  mp7 : m6 * p1 + m7 * p4 + m8 * p7 = t * p7 - s * m7 + D * 0
  mp8 : m6 * p2 + m7 * p5 + m8 * p8 = t * p8 - s * m8 + D * 1
  pp0 : p0 * p0 + p1 * p3 + p2 * p6 = (t * t - s) * p0 + (D - t * s) * m0 + t * D * 1
  pp1 : p0 * p1 + p1 * p4 + p2 * p7 = (t * t - s) * p1 + (D - t * s) * m1 + t * D * 0
  pp2 : p0 * p2 + p1 * p5 + p2 * p8 = (t * t - s) * p2 + (D - t * s) * m2 + t * D * 0
  pp3 : p3 * p0 + p4 * p3 + p5 * p6 = (t * t - s) * p3 + (D - t * s) * m3 + t * D * 0
  pp4 : p3 * p1 + p4 * p4 + p5 * p7 = (t * t - s) * p4 + (D - t * s) * m4 + t * D * 1
  pp5 : p3 * p2 + p4 * p5 + p5 * p8 = (t * t - s) * p5 + (D - t * s) * m5 + t * D * 0
  pp6 : p6 * p0 + p7 * p3 + p8 * p6 = (t * t - s) * p6 + (D - t * s) * m6 + t * D * 0
  pp7 : p6 * p1 + p7 * p4 + p8 * p7 = (t * t - s) * p7 + (D - t * s) * m7 + t * D * 0
  pp8 : p6 * p2 + p7 * p5 + p8 * p8 = (t * t - s) * p8 + (D - t * s) * m8 + t * D * 1
  cc0 : c0 * c0 + c1 * c3 + c2 * c6 = s * p0 + (D - s * t) * m0 + (s * s - D * t) * 1
  cc1 : c0 * c1 + c1 * c4 + c2 * c7 = s * p1 + (D - s * t) * m1 + (s * s - D * t) * 0
  cc2 : c0 * c2 + c1 * c5 + c2 * c8 = s * p2 + (D - s * t) * m2 + (s * s - D * t) * 0
  cc3 : c3 * c0 + c4 * c3 + c5 * c6 = s * p3 + (D - s * t) * m3 + (s * s - D * t) * 0
  cc4 : c3 * c1 + c4 * c4 + c5 * c7 = s * p4 + (D - s * t) * m4 + (s * s - D * t) * 1
  cc5 : c3 * c2 + c4 * c5 + c5 * c8 = s * p5 + (D - s * t) * m5 + (s * s - D * t) * 0
  cc6 : c6 * c0 + c7 * c3 + c8 * c6 = s * p6 + (D - s * t) * m6 + (s * s - D * t) * 0
  cc7 : c6 * c1 + c7 * c4 + c8 * c7 = s * p7 + (D - s * t) * m7 + (s * s - D * t) * 0
  cc8 : c6 * c2 + c7 * c5 + c8 * c8 = s * p8 + (D - s * t) * m8 + (s * s - D * t) * 1
  t2 : p0 + p4 + p8 = t * t - 2 * s
  dp : det p0 p1 p2 p3 p4 p5 p6 p7 p8 = D * D
  dm : D = det m0 m1 m2 m3 m4 m5 m6 m7 m8

theorem alg (m0 m1 m2 m3 m4 m5 m6 m7 m8 : Int) : Alg m0 m1 m2 m3 m4 m5 m6 m7 m8 (m0 * m0 + m1 * m3 + m2 * m6) (m0 * m1 + m1 * m4 + m2 * m7) (m0 * m2 + m1 * m5 + m2 * m8) (m3 * m0 + m4 * m3 + m5 * m6) (m3 * m1 + m4 * m4 + m5 * m7) (m3 * m2 + m4 * m5 + m5 * m8) (m6 * m0 + m7 * m3 + m8 * m6) (m6 * m1 + m7 * m4 + m8 * m7) (m6 * m2 + m7 * m5 + m8 * m8) (m4 * m8 - m5 * m7) (m7 * m2 - m8 * m1) (m1 * m5 - m2 * m4) (m5 * m6 - m3 * m8) (m8 * m0 - m6 * m2) (m2 * m3 - m0 * m5) (m3 * m7 - m4 * m6) (m6 * m1 - m7 * m0) (m0 * m4 - m1 * m3) (m0 + m4 + m8) (m4 * m8 - m5 * m7 + (m8 * m0 - m6 * m2) + (m0 * m4 - m1 * m3)) (det m0 m1 m2 m3 m4 m5 m6 m7 m8) := by
  refine ⟨rfl, rfl, rfl, rfl, rfl, rfl, rfl, rfl, rfl, rfl, ?_, ?_, ?_, ?_, ?_, ?_, ?_, ?_, ?_, ?_, ?_, ?_, ?_, ?_, ?_, ?_, ?_, ?_, ?_, ?_, ?_, ?_, ?_, ?_, ?_, ?_, ?_, ?_, ?_, ?_, ?_, ?_, ?_, ?_, ?_, ?_, ?_, ?_, ?_, ?_, ?_, ?_, ?_, ?_, ?_, ?_, ?_, ?_, ?_, ?_, ?_, ?_, ?_, ?_, ?_, det_mul _ _ _ _ _ _ _ _ _ _ _ _ _ _ _ _ _ _, rfl⟩
  all_goals first | (unfold det; grind) | grind

theorem L1 {x y z u v w a b c D e : Int} (h1 : u = D * a) (h2 : v = D * b) (h3 : w = D * c) (h : x * a + y * b + z * c = D * e) (hD : D * D = 1) : x * u + y * v + z * w = e := by
  subst h1; subst h2; subst h3
  have : x * (D * a) + y * (D * b) + z * (D * c) = D * (x * a + y * b + z * c) := by grind
  rw [this, h, ← Int.mul_assoc, hD, Int.one_mul]
theorem L3 {x y z u v w a b c t s d1 d2 d3 : Int} (h1 : 2 * u = t * a - s * d1) (h2 : 2 * v = t * b - s * d2) (h3 : 2 * w = t * c - s * d3) : 2 * (x * u + y * v + z * w) = t * (x * a + y * b + z * c) - s * (x * d1 + y * d2 + z * d3) := by
  have : 2 * (x * u + y * v + z * w) = x * (2 * u) + y * (2 * v) + z * (2 * w) := by grind
  rw [this, h1, h2, h3]
  grind
theorem L4 {x y z u v w a b c σ A B d1 d2 d3 : Int} (h1 : u = σ * u + A * a + B * d1) (h2 : v = σ * v + A * b + B * d2) (h3 : w = σ * w + A * c + B * d3) : x * u + y * v + z * w = σ * (x * u + y * v + z * w) + A * (x * a + y * b + z * c) + B * (x * d1 + y * d2 + z * d3) := by
  have e1 : x * u = x * (σ * u + A * a + B * d1) := by rw [← h1]
  have e2 : y * v = y * (σ * v + A * b + B * d2) := by rw [← h2]
  have e3 : z * w = z * (σ * w + A * c + B * d3) := by rw [← h3]
  clear h1 h2 h3
  grind
theorem bd_cube {x c : Int} (hc : c ≠ 0) (h : x * (x * x) = c) : x.natAbs ≤ c.natAbs :=
  Nat.le_of_dvd (by omega) (Int.natAbs_dvd_natAbs.2 ⟨x * x, h.symm⟩)
theorem cube_one {x : Int} (h : x * (x * x) = 1) : x = 1 := by
  have := bd_cube (by omega) h
  have hx : x = -1 ∨ x = 0 ∨ x = 1 := by omega
  rcases hx with rfl | rfl | rfl
  · omega
  · omega
  · rfl
theorem E2 {m0 m1 m2 m3 m4 m5 m6 m7 m8 p0 p1 p2 p3 p4 p5 p6 p7 p8 c0 c1 c2 c3 c4 c5 c6 c7 c8 t s D : Int} (h : Alg m0 m1 m2 m3 m4 m5 m6 m7 m8 p0 p1 p2 p3 p4 p5 p6 p7 p8 c0 c1 c2 c3 c4 c5 c6 c7 c8 t s D) (hD : D = 1 ∨ D = -1) : (m0 = D * c0 ∧ m1 = D * c1 ∧ m2 = D * c2 ∧ m3 = D * c3 ∧ m4 = D * c4 ∧ m5 = D * c5 ∧ m6 = D * c6 ∧ m7 = D * c7 ∧ m8 = D * c8) ↔ (p0 = 1 ∧ p1 = 0 ∧ p2 = 0 ∧ p3 = 0 ∧ p4 = 1 ∧ p5 = 0 ∧ p6 = 0 ∧ p7 = 0 ∧ p8 = 1) := by
  have hDD : D * D = 1 := by rcases hD with rfl | rfl <;> rfl
  constructor
  · intro ⟨k0, k1, k2, k3, k4, k5, k6, k7, k8⟩
    exact ⟨h.sq0.trans (L1 k0 k3 k6 h.mc0 hDD), h.sq1.trans (L1 k1 k4 k7 h.mc1 hDD), h.sq2.trans (L1 k2 k5 k8 h.mc2 hDD), h.sq3.trans (L1 k0 k3 k6 h.mc3 hDD), h.sq4.trans (L1 k1 k4 k7 h.mc4 hDD), h.sq5.trans (L1 k2 k5 k8 h.mc5 hDD), h.sq6.trans (L1 k0 k3 k6 h.mc6 hDD), h.sq7.trans (L1 k1 k4 k7 h.mc7 hDD), h.sq8.trans (L1 k2 k5 k8 h.mc8 hDD)⟩
  · intro ⟨k0, k1, k2, k3, k4, k5, k6, k7, k8⟩
    refine ⟨?_, ?_, ?_, ?_, ?_, ?_, ?_, ?_, ?_⟩
    · have := h.cp0; rw [k0, k3, k6] at this; rcases hD with rfl | rfl <;> omega
    · have := h.cp1; rw [k1, k4, k7] at this; rcases hD with rfl | rfl <;> omega
    · have := h.cp2; rw [k2, k5, k8] at this; rcases hD with rfl | rfl <;> omega
    · have := h.cp3; rw [k0, k3, k6] at this; rcases hD with rfl | rfl <;> omega
    · have := h.cp4; rw [k1, k4, k7] at this; rcases hD with rfl | rfl <;> omega
    · have := h.cp5; rw [k2, k5, k8] at this; rcases hD with rfl | rfl <;> omega
    · have := h.cp6; rw [k0, k3, k6] at this; rcases hD with rfl | rfl <;> omega
    · have := h.cp7; rw [k1, k4, k7] at this; rcases hD with rfl | rfl <;> omega
    · have := h.cp8; rw [k2, k5, k8] at this; rcases hD with rfl | rfl <;> omega
theorem E3 {m0 m1 m2 m3 m4 m5 m6 m7 m8 p0 p1 p2 p3 p4 p5 p6 p7 p8 c0 c1 c2 c3 c4 c5 c6 c7 c8 t s D : Int} (h : Alg m0 m1 m2 m3 m4 m5 m6 m7 m8 p0 p1 p2 p3 p4 p5 p6 p7 p8 c0 c1 c2 c3 c4 c5 c6 c7 c8 t s D) (hD : D = 1 ∨ D = -1) (n1 : ¬ (m0 = 1 ∧ m1 = 0 ∧ m2 = 0 ∧ m3 = 0 ∧ m4 = 1 ∧ m5 = 0 ∧ m6 = 0 ∧ m7 = 0 ∧ m8 = 1)) : (p0 = D * c0 ∧ p1 = D * c1 ∧ p2 = D * c2 ∧ p3 = D * c3 ∧ p4 = D * c4 ∧ p5 = D * c5 ∧ p6 = D * c6 ∧ p7 = D * c7 ∧ p8 = D * c8) ↔ (t = 0 ∧ s = 0 ∧ D = 1) := by
  constructor
  · intro ⟨k0, k1, k2, k3, k4, k5, k6, k7, k8⟩
    have j0 := h.ch0
    have j1 := h.ch1
    have j2 := h.ch2
    have j3 := h.ch3
    have j4 := h.ch4
    have j5 := h.ch5
    have j6 := h.ch6
    have j7 := h.ch7
    have j8 := h.ch8
    rcases hD with rfl | rfl
    · have q0 : t * m0 = s := by omega
      have q4 : t * m4 = s := by omega
      have q8 : t * m8 = s := by omega
      by_cases ht : t = 0
      · subst ht; exact ⟨rfl, by omega, rfl⟩
      · exfalso
        have e4 : m4 = m0 := Int.eq_of_mul_eq_mul_left ht (by omega)
        have e8 : m8 = m0 := Int.eq_of_mul_eq_mul_left ht (by omega)
        have e1 : m1 = 0 := (Int.mul_eq_zero.1 (show t * m1 = 0 by omega)).resolve_left ht
        have e2 : m2 = 0 := (Int.mul_eq_zero.1 (show t * m2 = 0 by omega)).resolve_left ht
        have e3 : m3 = 0 := (Int.mul_eq_zero.1 (show t * m3 = 0 by omega)).resolve_left ht
        have e5 : m5 = 0 := (Int.mul_eq_zero.1 (show t * m5 = 0 by omega)).resolve_left ht
        have e6 : m6 = 0 := (Int.mul_eq_zero.1 (show t * m6 = 0 by omega)).resolve_left ht
        have e7 : m7 = 0 := (Int.mul_eq_zero.1 (show t * m7 = 0 by omega)).resolve_left ht
        have hd := h.dm
        rw [e1, e2, e3, e4, e5, e6, e7, e8] at hd
        have c1 : m0 * (m0 * m0) = 1 := by rw [hd]; unfold det; grind
        have o := cube_one c1
        exact n1 ⟨o, e1, e2, e3, e4.trans o, e5, e6, e7, e8.trans o⟩
    · exfalso
      have tt : t * m0 + t * m4 + t * m8 = t * t := by rw [← Int.mul_add, ← Int.mul_add, ← h.tr]
      have t2 := h.t2
      have hs : s = t * t := by omega
      have f0 : t * p0 - s * m0 = 2 := by
        have a1 := h.mp0; have a2 := h.sq0
        have b0 : 2 * p0 = t * m0 - s * 1 := by omega
        have b1 : 2 * p3 = t * m3 - s * 0 := by omega
        have b2 : 2 * p6 = t * m6 - s * 0 := by omega
        have a3 := L3 (x := m0) (y := m1) (z := m2) b0 b1 b2
        rw [← a2, a1] at a3
        simp only [Int.mul_one, Int.mul_zero, Int.add_zero] at a3; omega
      have f4 : t * p4 - s * m4 = 2 := by
        have a1 := h.mp4; have a2 := h.sq4
        have b0 : 2 * p1 = t * m1 - s * 0 := by omega
        have b1 : 2 * p4 = t * m4 - s * 1 := by omega
        have b2 : 2 * p7 = t * m7 - s * 0 := by omega
        have a3 := L3 (x := m3) (y := m4) (z := m5) b0 b1 b2
        rw [← a2, a1] at a3
        simp only [Int.mul_one, Int.mul_zero, Int.add_zero, Int.zero_add] at a3; omega
      have f8 : t * p8 - s * m8 = 2 := by
        have a1 := h.mp8; have a2 := h.sq8
        have b0 : 2 * p2 = t * m2 - s * 0 := by omega
        have b1 : 2 * p5 = t * m5 - s * 0 := by omega
        have b2 : 2 * p8 = t * m8 - s * 1 := by omega
        have a3 := L3 (x := m6) (y := m7) (z := m8) b0 b1 b2
        rw [← a2, a1] at a3
        simp only [Int.mul_one, Int.mul_zero, Int.add_zero, Int.zero_add] at a3; omega
      have c3 : t * (t * t) = -3 := by
        have tp : t * p0 + t * p4 + t * p8 = t * (t * t - 2 * s) := by rw [← Int.mul_add, ← Int.mul_add, t2]
        have sm : s * m0 + s * m4 + s * m8 = s * t := by rw [← Int.mul_add, ← Int.mul_add, ← h.tr]
        have : t * (t * t - 2 * s) - s * t = 6 := by omega
        rw [hs] at this
        grind
      have b3 := bd_cube (by omega) c3
      have hx : t = -3 ∨ t = -2 ∨ t = -1 ∨ t = 0 ∨ t = 1 ∨ t = 2 ∨ t = 3 := by omega
      rcases hx with rfl | rfl | rfl | rfl | rfl | rfl | rfl <;> omega
  · rintro ⟨rfl, rfl, rfl⟩
    have j0 := h.ch0
    have j1 := h.ch1
    have j2 := h.ch2
    have j3 := h.ch3
    have j4 := h.ch4
    have j5 := h.ch5
    have j6 := h.ch6
    have j7 := h.ch7
    have j8 := h.ch8
    refine ⟨?_, ?_, ?_, ?_, ?_, ?_, ?_, ?_, ?_⟩ <;> omega
theorem L6 {t s D p m e : Int} (g : (t * t - s) * p + (D - t * s) * m + t * D * e = s * p + (D - s * t) * m + (s * s - D * t) * e) : (t * t - 2 * s) * p = (s * s - 2 * (t * D)) * e := by grind
theorem solve6p {t s : Int} (q1 : t * t - 2 * s = 0) (q2 : s * s - 2 * (t * 1) = 0) : (t = 0 ∧ s = 0) ∨ (t = 2 ∧ s = 2) := by
  have f1 : t * (t * (t * t) - 8) = 0 := by
    have a : s * s = 2 * t := by omega
    have b : t * t = 2 * s := by omega
    have c : (t * t) * (t * t) = 4 * (s * s) := by rw [b]; grind
    rw [a] at c
    clear q1 q2 a b
    grind
  rcases Int.mul_eq_zero.1 f1 with e | e
  · subst e; left; omega
  · have c3 : t * (t * t) = 8 := by omega
    have b3 := bd_cube (by omega) c3
    have hx : t = -8 ∨ t = -7 ∨ t = -6 ∨ t = -5 ∨ t = -4 ∨ t = -3 ∨ t = -2 ∨ t = -1 ∨ t = 0 ∨ t = 1 ∨ t = 2 ∨ t = 3 ∨ t = 4 ∨ t = 5 ∨ t = 6 ∨ t = 7 ∨ t = 8 := by omega
    rcases hx with rfl | rfl | rfl | rfl | rfl | rfl | rfl | rfl | rfl | rfl | rfl | rfl | rfl | rfl | rfl | rfl | rfl <;> omega
theorem solve6n {t s : Int} (q1 : t * t - 2 * s = 0) (q2 : s * s - 2 * (t * -1) = 0) : (t = 0 ∧ s = 0) ∨ (t = -2 ∧ s = 2) := by
  have f1 : t * (t * (t * t) + 8) = 0 := by
    have a : s * s = -(2 * t) := by omega
    have b : t * t = 2 * s := by omega
    have c : (t * t) * (t * t) = 4 * (s * s) := by rw [b]; grind
    rw [a] at c
    clear q1 q2 a b
    grind
  rcases Int.mul_eq_zero.1 f1 with e | e
  · subst e; left; omega
  · have c3 : t * (t * t) = -8 := by omega
    have b3 := bd_cube (by omega) c3
    have hx : t = -8 ∨ t = -7 ∨ t = -6 ∨ t = -5 ∨ t = -4 ∨ t = -3 ∨ t = -2 ∨ t = -1 ∨ t = 0 ∨ t = 1 ∨ t = 2 ∨ t = 3 ∨ t = 4 ∨ t = 5 ∨ t = 6 ∨ t = 7 ∨ t = 8 := by omega
    rcases hx with rfl | rfl | rfl | rfl | rfl | rfl | rfl | rfl | rfl | rfl | rfl | rfl | rfl | rfl | rfl | rfl | rfl <;> omega
theorem sq_nn (x : Int) : 0 ≤ x * x := by
  rcases Int.le_total 0 x with h | h
  · exact Int.mul_nonneg h h
  · have := Int.mul_nonneg (show 0 ≤ -x by omega) (show 0 ≤ -x by omega)
    rwa [Int.neg_mul_neg] at this
theorem L5 {t s D p m e : Int} (g : t * p - s * m + D * e = s * (t * p - s * m + D * e) + (D - s * t) * p + (s * s - D * t) * m) : (t - D) * p + (D * t - s) * m + (D - s * D) * e = 0 := by grind
theorem solve4p {t s : Int} (q1 : t * t - 2 * s = s * (t * t - 2 * s) + (1 - s * t) * t + 3 * (s * s - 1 * t)) (q2 : (t - 1) * (t * t - 2 * s) + (1 * t - s) * t + 3 * (1 - s * 1) = 0) : (t = 1 ∧ s = 1) ∨ (t = 3 ∧ s = 3) ∨ (t = -1 ∧ s = -1) := by
  have f1 : (t - s) * (t + s + 2) = 0 := by clear q2; grind
  rcases Int.mul_eq_zero.1 f1 with e | e
  · have e' : s = t := by omega
    subst e'
    have f2 : (s - 3) * ((s - 1) * (s + 1)) = 0 := by clear q1 f1 e; grind
    rcases Int.mul_eq_zero.1 f2 with e | e
    · right; left; omega
    · rcases Int.mul_eq_zero.1 e with e | e
      · left; omega
      · right; right; omega
  · have e' : s = -2 - t := by omega
    subst e'
    have f2 : (t + 1) * ((t + 1) * (t + 1) + 4) = 0 := by clear q1 f1 e; grind
    rcases Int.mul_eq_zero.1 f2 with e | e
    · right; right; omega
    · exfalso
      have := sq_nn (t + 1)
      omega
theorem solve4n {t s : Int} (q1 : t * t - 2 * s = s * (t * t - 2 * s) + (-1 - s * t) * t + 3 * (s * s - -1 * t)) (q2 : (t - -1) * (t * t - 2 * s) + (-1 * t - s) * t + 3 * (-1 - s * -1) = 0) : (t = -1 ∧ s = 1) ∨ (t = -3 ∧ s = 3) ∨ (t = 1 ∧ s = -1) := by
  have f1 : (t + s) * (t - s - 2) = 0 := by clear q2; grind
  rcases Int.mul_eq_zero.1 f1 with e | e
  · have e' : s = -t := by omega
    subst e'
    have f2 : (t + 3) * ((t - 1) * (t + 1)) = 0 := by clear q1 f1 e; grind
    rcases Int.mul_eq_zero.1 f2 with e | e
    · right; left; omega
    · rcases Int.mul_eq_zero.1 e with e | e
      · right; right; omega
      · left; omega
  · have e' : s = t - 2 := by omega
    subst e'
    have f2 : (t - 1) * ((t - 1) * (t - 1) + 4) = 0 := by clear q1 f1 e; grind
    rcases Int.mul_eq_zero.1 f2 with e | e
    · right; right; omega
    · exfalso
      have := sq_nn (t - 1)
      omega
theorem E4 {m0 m1 m2 m3 m4 m5 m6 m7 m8 p0 p1 p2 p3 p4 p5 p6 p7 p8 c0 c1 c2 c3 c4 c5 c6 c7 c8 t s D : Int} (h : Alg m0 m1 m2 m3 m4 m5 m6 m7 m8 p0 p1 p2 p3 p4 p5 p6 p7 p8 c0 c1 c2 c3 c4 c5 c6 c7 c8 t s D) (hD : D = 1 ∨ D = -1) (n1 : ¬ (p0 = 1 ∧ p1 = 0 ∧ p2 = 0 ∧ p3 = 0 ∧ p4 = 1 ∧ p5 = 0 ∧ p6 = 0 ∧ p7 = 0 ∧ p8 = 1)) : (p0 = c0 * c0 + c1 * c3 + c2 * c6 ∧ p1 = c0 * c1 + c1 * c4 + c2 * c7 ∧ p2 = c0 * c2 + c1 * c5 + c2 * c8 ∧ p3 = c3 * c0 + c4 * c3 + c5 * c6 ∧ p4 = c3 * c1 + c4 * c4 + c5 * c7 ∧ p5 = c3 * c2 + c4 * c5 + c5 * c8 ∧ p6 = c6 * c0 + c7 * c3 + c8 * c6 ∧ p7 = c6 * c1 + c7 * c4 + c8 * c7 ∧ p8 = c6 * c2 + c7 * c5 + c8 * c8) ↔ ((t = 1 ∧ s = 1 ∧ D = 1) ∨ (t = -1 ∧ s = 1 ∧ D = -1)) := by
  constructor
  · intro ⟨k0, k1, k2, k3, k4, k5, k6, k7, k8⟩
    have j0 : p0 = s * p0 + (D - s * t) * m0 + (s * s - D * t) * 1 := k0.trans h.cc0
    have j1 : p1 = s * p1 + (D - s * t) * m1 + (s * s - D * t) * 0 := k1.trans h.cc1
    have j2 : p2 = s * p2 + (D - s * t) * m2 + (s * s - D * t) * 0 := k2.trans h.cc2
    have j3 : p3 = s * p3 + (D - s * t) * m3 + (s * s - D * t) * 0 := k3.trans h.cc3
    have j4 : p4 = s * p4 + (D - s * t) * m4 + (s * s - D * t) * 1 := k4.trans h.cc4
    have j5 : p5 = s * p5 + (D - s * t) * m5 + (s * s - D * t) * 0 := k5.trans h.cc5
    have j6 : p6 = s * p6 + (D - s * t) * m6 + (s * s - D * t) * 0 := k6.trans h.cc6
    have j7 : p7 = s * p7 + (D - s * t) * m7 + (s * s - D * t) * 0 := k7.trans h.cc7
    have j8 : p8 = s * p8 + (D - s * t) * m8 + (s * s - D * t) * 1 := k8.trans h.cc8
    have g0 : (t - D) * p0 + (D * t - s) * m0 + (D - s * D) * 1 = 0 := by
      have g := L4 (x := m0) (y := m1) (z := m2) j0 j3 j6
      have z : m0 * 1 + m1 * 0 + m2 * 0 = m0 := by omega
      rw [← h.sq0, h.mp0, z] at g
      exact L5 g
    have g1 : (t - D) * p1 + (D * t - s) * m1 + (D - s * D) * 0 = 0 := by
      have g := L4 (x := m0) (y := m1) (z := m2) j1 j4 j7
      have z : m0 * 0 + m1 * 1 + m2 * 0 = m1 := by omega
      rw [← h.sq1, h.mp1, z] at g
      exact L5 g
    have g2 : (t - D) * p2 + (D * t - s) * m2 + (D - s * D) * 0 = 0 := by
      have g := L4 (x := m0) (y := m1) (z := m2) j2 j5 j8
      have z : m0 * 0 + m1 * 0 + m2 * 1 = m2 := by omega
      rw [← h.sq2, h.mp2, z] at g
      exact L5 g
    have g3 : (t - D) * p3 + (D * t - s) * m3 + (D - s * D) * 0 = 0 := by
      have g := L4 (x := m3) (y := m4) (z := m5) j0 j3 j6
      have z : m3 * 1 + m4 * 0 + m5 * 0 = m3 := by omega
      rw [← h.sq3, h.mp3, z] at g
      exact L5 g
    have g4 : (t - D) * p4 + (D * t - s) * m4 + (D - s * D) * 1 = 0 := by
      have g := L4 (x := m3) (y := m4) (z := m5) j1 j4 j7
      have z : m3 * 0 + m4 * 1 + m5 * 0 = m4 := by omega
      rw [← h.sq4, h.mp4, z] at g
      exact L5 g
    have g5 : (t - D) * p5 + (D * t - s) * m5 + (D - s * D) * 0 = 0 := by
      have g := L4 (x := m3) (y := m4) (z := m5) j2 j5 j8
      have z : m3 * 0 + m4 * 0 + m5 * 1 = m5 := by omega
      rw [← h.sq5, h.mp5, z] at g
      exact L5 g
    have g6 : (t - D) * p6 + (D * t - s) * m6 + (D - s * D) * 0 = 0 := by
      have g := L4 (x := m6) (y := m7) (z := m8) j0 j3 j6
      have z : m6 * 1 + m7 * 0 + m8 * 0 = m6 := by omega
      rw [← h.sq6, h.mp6, z] at g
      exact L5 g
    have g7 : (t - D) * p7 + (D * t - s) * m7 + (D - s * D) * 0 = 0 := by
      have g := L4 (x := m6) (y := m7) (z := m8) j1 j4 j7
      have z : m6 * 0 + m7 * 1 + m8 * 0 = m7 := by omega
      rw [← h.sq7, h.mp7, z] at g
      exact L5 g
    have g8 : (t - D) * p8 + (D * t - s) * m8 + (D - s * D) * 1 = 0 := by
      have g := L4 (x := m6) (y := m7) (z := m8) j2 j5 j8
      have z : m6 * 0 + m7 * 0 + m8 * 1 = m8 := by omega
      rw [← h.sq8, h.mp8, z] at g
      exact L5 g
    have r1 := h.t2
    have q1 : t * t - 2 * s = s * (t * t - 2 * s) + (D - s * t) * t + 3 * (s * s - D * t) := by
      have r2 : (D - s * t) * m0 + (D - s * t) * m4 + (D - s * t) * m8 = (D - s * t) * t := by rw [← Int.mul_add, ← Int.mul_add, ← h.tr]
      have r3 : s * p0 + s * p4 + s * p8 = s * (t * t - 2 * s) := by rw [← Int.mul_add, ← Int.mul_add, r1]
      omega
    have q2 : (t - D) * (t * t - 2 * s) + (D * t - s) * t + 3 * (D - s * D) = 0 := by
      have r2 : (D * t - s) * m0 + (D * t - s) * m4 + (D * t - s) * m8 = (D * t - s) * t := by rw [← Int.mul_add, ← Int.mul_add, ← h.tr]
      have r3 : (t - D) * p0 + (t - D) * p4 + (t - D) * p8 = (t - D) * (t * t - 2 * s) := by rw [← Int.mul_add, ← Int.mul_add, r1]
      omega
    rcases hD with rfl | rfl
    · rcases solve4p q1 q2 with ⟨rfl, rfl⟩ | ⟨rfl, rfl⟩ | ⟨rfl, rfl⟩
      · left; exact ⟨rfl, rfl, rfl⟩
      · exfalso; exact n1 ⟨by omega, by omega, by omega, by omega, by omega, by omega, by omega, by omega, by omega⟩
      · exfalso; exact n1 ⟨by omega, by omega, by omega, by omega, by omega, by omega, by omega, by omega, by omega⟩
    · rcases solve4n q1 q2 with ⟨rfl, rfl⟩ | ⟨rfl, rfl⟩ | ⟨rfl, rfl⟩
      · right; exact ⟨rfl, rfl, rfl⟩
      · exfalso; exact n1 ⟨by omega, by omega, by omega, by omega, by omega, by omega, by omega, by omega, by omega⟩
      · exfalso; exact n1 ⟨by omega, by omega, by omega, by omega, by omega, by omega, by omega, by omega, by omega⟩
  · rintro (⟨rfl, rfl, rfl⟩ | ⟨rfl, rfl, rfl⟩)
    · refine ⟨Eq.symm (h.cc0.trans (by omega)), Eq.symm (h.cc1.trans (by omega)), Eq.symm (h.cc2.trans (by omega)), Eq.symm (h.cc3.trans (by omega)), Eq.symm (h.cc4.trans (by omega)), Eq.symm (h.cc5.trans (by omega)), Eq.symm (h.cc6.trans (by omega)), Eq.symm (h.cc7.trans (by omega)), Eq.symm (h.cc8.trans (by omega))⟩
    · refine ⟨Eq.symm (h.cc0.trans (by omega)), Eq.symm (h.cc1.trans (by omega)), Eq.symm (h.cc2.trans (by omega)), Eq.symm (h.cc3.trans (by omega)), Eq.symm (h.cc4.trans (by omega)), Eq.symm (h.cc5.trans (by omega)), Eq.symm (h.cc6.trans (by omega)), Eq.symm (h.cc7.trans (by omega)), Eq.symm (h.cc8.trans (by omega))⟩
theorem E6 {m0 m1 m2 m3 m4 m5 m6 m7 m8 p0 p1 p2 p3 p4 p5 p6 p7 p8 c0 c1 c2 c3 c4 c5 c6 c7 c8 t s D : Int} (h : Alg m0 m1 m2 m3 m4 m5 m6 m7 m8 p0 p1 p2 p3 p4 p5 p6 p7 p8 c0 c1 c2 c3 c4 c5 c6 c7 c8 t s D) (hD : D = 1 ∨ D = -1) (n1 : ¬ (p0 = 1 ∧ p1 = 0 ∧ p2 = 0 ∧ p3 = 0 ∧ p4 = 1 ∧ p5 = 0 ∧ p6 = 0 ∧ p7 = 0 ∧ p8 = 1)) (n3 : ¬ (t = 0 ∧ s = 0 ∧ D = 1)) : (p0 * p0 + p1 * p3 + p2 * p6 = c0 * c0 + c1 * c3 + c2 * c6 ∧ p0 * p1 + p1 * p4 + p2 * p7 = c0 * c1 + c1 * c4 + c2 * c7 ∧ p0 * p2 + p1 * p5 + p2 * p8 = c0 * c2 + c1 * c5 + c2 * c8 ∧ p3 * p0 + p4 * p3 + p5 * p6 = c3 * c0 + c4 * c3 + c5 * c6 ∧ p3 * p1 + p4 * p4 + p5 * p7 = c3 * c1 + c4 * c4 + c5 * c7 ∧ p3 * p2 + p4 * p5 + p5 * p8 = c3 * c2 + c4 * c5 + c5 * c8 ∧ p6 * p0 + p7 * p3 + p8 * p6 = c6 * c0 + c7 * c3 + c8 * c6 ∧ p6 * p1 + p7 * p4 + p8 * p7 = c6 * c1 + c7 * c4 + c8 * c7 ∧ p6 * p2 + p7 * p5 + p8 * p8 = c6 * c2 + c7 * c5 + c8 * c8) ↔ ((t = 0 ∧ s = 0 ∧ D = -1) ∨ (t = 2 ∧ s = 2 ∧ D = 1) ∨ (t = -2 ∧ s = 2 ∧ D = -1)) := by
  constructor
  · intro ⟨k0, k1, k2, k3, k4, k5, k6, k7, k8⟩
    have j0 : (t * t - 2 * s) * p0 = (s * s - 2 * (t * D)) * 1 := L6 (h.pp0.symm.trans (k0.trans h.cc0))
    have j1 : (t * t - 2 * s) * p1 = (s * s - 2 * (t * D)) * 0 := L6 (h.pp1.symm.trans (k1.trans h.cc1))
    have j2 : (t * t - 2 * s) * p2 = (s * s - 2 * (t * D)) * 0 := L6 (h.pp2.symm.trans (k2.trans h.cc2))
    have j3 : (t * t - 2 * s) * p3 = (s * s - 2 * (t * D)) * 0 := L6 (h.pp3.symm.trans (k3.trans h.cc3))
    have j4 : (t * t - 2 * s) * p4 = (s * s - 2 * (t * D)) * 1 := L6 (h.pp4.symm.trans (k4.trans h.cc4))
    have j5 : (t * t - 2 * s) * p5 = (s * s - 2 * (t * D)) * 0 := L6 (h.pp5.symm.trans (k5.trans h.cc5))
    have j6 : (t * t - 2 * s) * p6 = (s * s - 2 * (t * D)) * 0 := L6 (h.pp6.symm.trans (k6.trans h.cc6))
    have j7 : (t * t - 2 * s) * p7 = (s * s - 2 * (t * D)) * 0 := L6 (h.pp7.symm.trans (k7.trans h.cc7))
    have j8 : (t * t - 2 * s) * p8 = (s * s - 2 * (t * D)) * 1 := L6 (h.pp8.symm.trans (k8.trans h.cc8))
    by_cases ha : t * t - 2 * s = 0
    · have hb : s * s - 2 * (t * D) = 0 := by rw [ha] at j0; omega
      rcases hD with rfl | rfl
      · rcases solve6p ha hb with ⟨rfl, rfl⟩ | ⟨rfl, rfl⟩
        · exact absurd ⟨rfl, rfl, rfl⟩ n3
        · right; left; exact ⟨rfl, rfl, rfl⟩
      · rcases solve6n ha hb with ⟨rfl, rfl⟩ | ⟨rfl, rfl⟩
        · left; exact ⟨rfl, rfl, rfl⟩
        · right; right; exact ⟨rfl, rfl, rfl⟩
    · exfalso
      have e4 : p4 = p0 := Int.eq_of_mul_eq_mul_left ha (j4.trans j0.symm)
      have e8 : p8 = p0 := Int.eq_of_mul_eq_mul_left ha (j8.trans j0.symm)
      have e1 : p1 = 0 := (Int.mul_eq_zero.1 (j1.trans (Int.mul_zero _))).resolve_left ha
      have e2 : p2 = 0 := (Int.mul_eq_zero.1 (j2.trans (Int.mul_zero _))).resolve_left ha
      have e3 : p3 = 0 := (Int.mul_eq_zero.1 (j3.trans (Int.mul_zero _))).resolve_left ha
      have e5 : p5 = 0 := (Int.mul_eq_zero.1 (j5.trans (Int.mul_zero _))).resolve_left ha
      have e6 : p6 = 0 := (Int.mul_eq_zero.1 (j6.trans (Int.mul_zero _))).resolve_left ha
      have e7 : p7 = 0 := (Int.mul_eq_zero.1 (j7.trans (Int.mul_zero _))).resolve_left ha
      have hd := h.dp
      rw [e1, e2, e3, e4, e5, e6, e7, e8] at hd
      have hDD : D * D = 1 := by rcases hD with rfl | rfl <;> rfl
      have c1 : p0 * (p0 * p0) = 1 := by rw [← hDD, ← hd]; unfold det; grind
      have o := cube_one c1
      exact n1 ⟨o, e1, e2, e3, e4.trans o, e5, e6, e7, e8.trans o⟩
  · rintro (⟨rfl, rfl, rfl⟩ | ⟨rfl, rfl, rfl⟩ | ⟨rfl, rfl, rfl⟩)
    · refine ⟨h.pp0.trans (Eq.symm (h.cc0.trans (by omega))), h.pp1.trans (Eq.symm (h.cc1.trans (by omega))), h.pp2.trans (Eq.symm (h.cc2.trans (by omega))), h.pp3.trans (Eq.symm (h.cc3.trans (by omega))), h.pp4.trans (Eq.symm (h.cc4.trans (by omega))), h.pp5.trans (Eq.symm (h.cc5.trans (by omega))), h.pp6.trans (Eq.symm (h.cc6.trans (by omega))), h.pp7.trans (Eq.symm (h.cc7.trans (by omega))), h.pp8.trans (Eq.symm (h.cc8.trans (by omega)))⟩
    · refine ⟨h.pp0.trans (Eq.symm (h.cc0.trans (by omega))), h.pp1.trans (Eq.symm (h.cc1.trans (by omega))), h.pp2.trans (Eq.symm (h.cc2.trans (by omega))), h.pp3.trans (Eq.symm (h.cc3.trans (by omega))), h.pp4.trans (Eq.symm (h.cc4.trans (by omega))), h.pp5.trans (Eq.symm (h.cc5.trans (by omega))), h.pp6.trans (Eq.symm (h.cc6.trans (by omega))), h.pp7.trans (Eq.symm (h.cc7.trans (by omega))), h.pp8.trans (Eq.symm (h.cc8.trans (by omega)))⟩
    · refine ⟨h.pp0.trans (Eq.symm (h.cc0.trans (by omega))), h.pp1.trans (Eq.symm (h.cc1.trans (by omega))), h.pp2.trans (Eq.symm (h.cc2.trans (by omega))), h.pp3.trans (Eq.symm (h.cc3.trans (by omega))), h.pp4.trans (Eq.symm (h.cc4.trans (by omega))), h.pp5.trans (Eq.symm (h.cc5.trans (by omega))), h.pp6.trans (Eq.symm (h.cc6.trans (by omega))), h.pp7.trans (Eq.symm (h.cc7.trans (by omega))), h.pp8.trans (Eq.symm (h.cc8.trans (by omega)))⟩

end Go.Proofs.Ytofblakbfmjgkaa


namespace Go.Proofs.Ytofblakbfmjgkaa.Vx
open Go

/-! ## Orders by traces -/
def M3.sm (m : M3) : Int := m.adj.tr
theorem M3.alg (m : M3) : Alg m.a m.b m.c m.d m.e m.f m.g m.h m.i (m.mul m).a (m.mul m).b (m.mul m).c (m.mul m).d (m.mul m).e (m.mul m).f (m.mul m).g (m.mul m).h (m.mul m).i m.adj.a m.adj.b m.adj.c m.adj.d m.adj.e m.adj.f m.adj.g m.adj.h m.adj.i m.tr m.sm m.det :=
  Go.Proofs.Ytofblakbfmjgkaa.alg m.a m.b m.c m.d m.e m.f m.g m.h m.i
theorem M3.eq_iff {m n : M3} : m = n ↔ (m.a = n.a ∧ m.b = n.b ∧ m.c = n.c ∧ m.d = n.d ∧ m.e = n.e ∧ m.f = n.f ∧ m.g = n.g ∧ m.h = n.h ∧ m.i = n.i) := ⟨fun h => by subst h; simp, M3.ext'⟩
theorem M3.adj_inv {m : M3} (hd : m.det = 1) : m.adj = m.inv := by unfold M3.inv; rw [hd, M3.smul_one]
theorem M3.pow3 (m : M3) : m.pow 3 = m.mul (m.mul m) := by simp only [M3.pow]; rw [M3.mul_one]
theorem M3.tr3 {m : M3} (hd : m.det = 1) (h1 : m ≠ M3.one) : m.pow 3 = M3.one ↔ m.tr = 0 ∧ m.sm = 0 := by
  have hu : m.U := Or.inl hd
  have e := E3 m.alg (Or.inl hd) (fun h => h1 (M3.eq_iff.2 h))
  rw [hd] at e
  simp only [Int.one_mul, and_true] at e
  rw [← e, M3.pow3, ← M3.mul_inv hu, ← M3.cancel_iff hu, ← M3.adj_inv hd, M3.eq_iff]
theorem M3.tr4 {m : M3} (hd : m.det = 1) (h2 : m.pow 2 ≠ M3.one) : m.pow 4 = M3.one ↔ m.tr = 1 ∧ m.sm = 1 := by
  have hu : m.U := Or.inl hd
  have e := E4 m.alg (Or.inl hd) (fun h => h2 (by rw [M3.pow2]; exact M3.eq_iff.2 h))
  rw [hd] at e
  have k : m.pow 4 = M3.one ↔ m.mul m = m.adj.mul m.adj := by
    rw [M3.adj_inv hd]
    conv => rhs; rw [M3.cancel_iff hu, ← M3.mul_assoc m m.inv, M3.mul_inv hu, M3.one_mul, M3.cancel_iff hu, M3.mul_inv hu]
    simp only [M3.pow]; rw [M3.mul_one]
  rw [k, M3.eq_iff]
  refine Iff.trans (show _ ↔ _ from Iff.rfl) (e.trans ?_)
  omega
theorem M3.tr6 {m : M3} (hd : m.det = 1) (h2 : m.pow 2 ≠ M3.one) (h3 : ¬ (m.tr = 0 ∧ m.sm = 0)) : m.pow 6 = M3.one ↔ m.tr = 2 ∧ m.sm = 2 := by
  have hu : m.U := Or.inl hd
  have e := E6 m.alg (Or.inl hd) (fun h => h2 (by rw [M3.pow2]; exact M3.eq_iff.2 h)) (fun h => h3 ⟨h.1, h.2.1⟩)
  rw [hd] at e
  have k : m.pow 6 = M3.one ↔ (m.mul m).mul (m.mul m) = m.adj.mul m.adj := by
    rw [M3.adj_inv hd]
    conv => rhs; rw [M3.cancel_iff hu, ← M3.mul_assoc m m.inv, M3.mul_inv hu, M3.one_mul, M3.cancel_iff hu, M3.mul_inv hu]
    simp only [M3.pow]; rw [M3.mul_one, M3.mul_assoc m m]
  rw [k, M3.eq_iff]
  refine Iff.trans (show _ ↔ _ from Iff.rfl) (e.trans ?_)
  omega
theorem M3.tr2 {m : M3} (hd : m.det = 1) (h1 : m ≠ M3.one) (h2 : m.pow 2 = M3.one) : m.tr = -1 ∧ m.sm = -1 := by
  have hu : m.U := Or.inl hd
  rw [M3.pow2] at h2
  have hi : m.adj = m := by rw [M3.adj_inv hd]; exact (M3.inv_unique hu h2).symm
  have hs : m.sm = m.tr := by unfold M3.sm; rw [hi]
  have ha := m.alg
  have c0 := ha.ch0; have c1 := ha.ch1; have c2 := ha.ch2; have c3 := ha.ch3; have c4 := ha.ch4; have c5 := ha.ch5; have c6 := ha.ch6; have c7 := ha.ch7; have c8 := ha.ch8
  rw [hi, h2] at c0 c1 c2 c3 c4 c5 c6 c7 c8
  simp only [M3.one] at c0 c1 c2 c3 c4 c5 c6 c7 c8
  rw [hs] at c0 c1 c2 c3 c4 c5 c6 c7 c8 ⊢
  have hz : m.tr + 1 = 0 := by
    by_cases hne : m.tr + 1 = 0
    · exact hne
    · exfalso
      apply h1
      have z : ∀ x : Int, (m.tr + 1) * x = 0 → x = 0 := fun x hx => (Int.mul_eq_zero.1 hx).resolve_left hne
      refine M3.ext' ⟨?_, ?_, ?_, ?_, ?_, ?_, ?_, ?_, ?_⟩ <;> simp only [M3.one]
      · have := z (m.a - 1) (by grind); omega
      · exact z m.b (by grind)
      · exact z m.c (by grind)
      · exact z m.d (by grind)
      · have := z (m.e - 1) (by grind); omega
      · exact z m.f (by grind)
      · exact z m.g (by grind)
      · exact z m.h (by grind)
      · have := z (m.i - 1) (by grind); omega
  omega
theorem W_tr {m : M3} {k : Int} (h : m.Bd k) (hk : k ≤ 1000000000000) : W m.tr = m.tr := by
  unfold M3.Bd at h
  unfold M3.tr
  exact W_in (by omega)
theorem M3.rotW_eq {m : M3} (hok : m.ok = true) (hd : m.det = 1) : m.rotW = m.ordI := by
  have hu : m.U := Or.inl hd
  have hb := M3.ok_iff.1 hok
  have hi := hb.inv hu
  have e1 : m.inv.w.tr = m.sm := by rw [M3.w_eq (hi.mono (by omega)), ← M3.adj_inv hd]; rfl
  have e2 : W m.sm = m.sm := by
    have : m.sm = m.inv.tr := by rw [← M3.adj_inv hd]; rfl
    rw [this]; exact W_tr hi (by omega)
  have e3 : (m.mul m).w = m.mul m := M3.w_eq ((hb.mul hb).mono (by omega))
  unfold M3.rotW M3.ordI
  rw [W_tr hb (by omega), e1, e2, e3, ← M3.pow2]
  by_cases h1 : m = M3.one
  · subst h1; decide
  · have f1 := M3.eqB_false.2 h1
    rw [f1]
    by_cases h2 : m.pow 2 = M3.one
    · obtain ⟨t1, t2⟩ := M3.tr2 hd h1 h2
      rw [M3.eqB_iff.2 h2, t1, t2]; rfl
    · rw [M3.eqB_false.2 h2]
      by_cases h3 : m.tr = 0 ∧ m.sm = 0
      · rw [M3.eqB_iff.2 ((M3.tr3 hd h1).2 h3), h3.1, h3.2]; rfl
      · have g3 : m.pow 3 ≠ M3.one := fun h => h3 ((M3.tr3 hd h1).1 h)
        rw [M3.eqB_false.2 g3]
        by_cases h4 : m.tr = 1 ∧ m.sm = 1
        · rw [M3.eqB_iff.2 ((M3.tr4 hd h2).2 h4), h4.1, h4.2]; rfl
        · have g4 : m.pow 4 ≠ M3.one := fun h => h4 ((M3.tr4 hd h2).1 h)
          rw [M3.eqB_false.2 g4]
          by_cases h6 : m.tr = 2 ∧ m.sm = 2
          · rw [M3.eqB_iff.2 ((M3.tr6 hd h2 h3).2 h6), h6.1, h6.2]; rfl
          · have g6 : m.pow 6 ≠ M3.one := fun h => h6 ((M3.tr6 hd h2 h3).1 h)
            rw [M3.eqB_false.2 g6]
            by_cases hts : m.tr = m.sm
            · rw [← hts] at h3 h4 h6 ⊢
              have a0 : (m.tr == 0) = false := by simp; omega
              have a1 : (m.tr == 1) = false := by simp; omega
              have a2 : (m.tr == 2) = false := by simp; omega
              rw [a0, a1, a2]
              cases m.tr == 3 <;> cases m.tr == -1 <;> simp
            · have : (m.tr != m.sm) = true := by simpa using hts
              rw [this]; rfl
theorem M3.kindW_eq {m : M3} (hok : m.ok = true) (hu : m.U) : m.kindW = m.kindF := by
  unfold M3.kindW M3.kindF
  rw [Wdet hok]
  rcases hu with hd | hd
  · rw [hd, M3.rotW_eq hok hd]; rfl
  · rw [hd, M3.negW_eq (M3.ok_iff.1 hok), M3.rotW_eq (M3.neg_ok hok) (by rw [M3.det_neg, hd]; rfl)]
    have := M3.ordI_bd m.neg
    rw [W_in (by omega), Int.zero_sub]; rfl
/-! ## The order of a matrix of determinant -1 -/
theorem M3.neg_mul_neg (m n : M3) : m.neg.mul n.neg = m.mul n := by
  refine M3.ext' ⟨?_, ?_, ?_, ?_, ?_, ?_, ?_, ?_, ?_⟩ <;> (simp only [M3.mul, M3.neg]; grind)
theorem M3.pow_2 (m : M3) (k : Nat) : m.pow (2 * k) = (m.mul m).pow k := by
  induction k with
  | zero => rfl
  | succ k ih => rw [show 2 * (k + 1) = 2 * k + 1 + 1 by omega]; simp only [M3.pow]; rw [ih, M3.mul_assoc]
theorem M3.neg_pow (m : M3) (k : Nat) : m.neg.pow (2 * k) = m.pow (2 * k) := by rw [M3.pow_2, M3.pow_2, M3.neg_mul_neg]
theorem M3.det_pow_odd {m : M3} (hd : m.det = -1) : ∀ k, (m.pow (2 * k + 1)).det = -1
  | 0 => by simp only [M3.pow]; rw [M3.mul_one]; exact hd
  | k + 1 => by
    rw [show 2 * (k + 1) + 1 = (2 * k + 1) + 1 + 1 by omega]
    simp only [M3.pow] at *
    rw [M3.det_mul, M3.det_mul, hd]
    have := M3.det_pow_odd hd k
    simp only [M3.pow] at this
    rw [this]; rfl
theorem M3.odd_ne {m : M3} (hd : m.det = -1) (k : Nat) : m.pow (2 * k + 1) ≠ M3.one := fun h => by
  have := M3.det_pow_odd hd k
  rw [h, M3.det_one] at this
  omega
theorem orderOf_eq {m : M3} (hu : m.U) : orderOfI m.kindF = m.ordI := by
  unfold M3.kindF
  rcases hu with hd | hd
  · rw [hd]
    simp only [beq_self_eq_true, cond_true]
    have := M3.ordI_bd m
    unfold orderOfI
    by_cases h0 : m.ordI = 0
    · rw [h0]; rfl
    · have : decide (m.ordI > 0) = true := by simp; omega
      rw [this]; rfl
  · have hne : (m.det == 1) = false := by rw [hd]; rfl
    rw [hne]
    simp only [cond_false]
    have key : ∀ k, m.pow (2 * k) = M3.one ↔ m.neg.pow (2 * k) = M3.one := fun k => by rw [M3.neg_pow]
    by_cases h0 : m.neg.ordI = 0
    · rw [h0]
      have hz : m.ordI = 0 := by
        by_cases hz : m.ordI = 0
        · exact hz
        · exfalso
          obtain ⟨n, h1, h2, h3⟩ := M3.ordI_spec hz
          have hp := h2.2.1
          have hev : ∃ k, n = 2 * k ∧ (k = 1 ∨ k = 2 ∨ k = 3) := by
            rcases h3 with rfl | rfl | rfl | rfl | rfl
            · exact absurd hp (M3.odd_ne hd 0)
            · exact ⟨1, rfl, by omega⟩
            · exact absurd hp (M3.odd_ne hd 1)
            · exact ⟨2, rfl, by omega⟩
            · exact ⟨3, rfl, by omega⟩
          obtain ⟨k, rfl, hk⟩ := hev
          have hq := (key k).1 hp
          have : m.neg.ordI ≠ 0 := by
            unfold M3.ordI
            cases a1 : m.neg.eqB M3.one with
            | true => simp
            | false =>
              rcases hk with rfl | rfl | rfl
              · rw [M3.eqB_iff.2 hq]; simp
              · cases (m.neg.pow 2).eqB M3.one <;> cases (m.neg.pow 3).eqB M3.one <;> simp [M3.eqB_iff.2 hq]
              · cases (m.neg.pow 2).eqB M3.one <;> cases (m.neg.pow 3).eqB M3.one <;> cases (m.neg.pow 4).eqB M3.one <;> simp [M3.eqB_iff.2 hq]
          exact this h0
      rw [hz]; rfl
    · obtain ⟨n, h1, h2, h3⟩ := M3.ordI_spec h0
      have hord : ∀ N : Nat, (∀ k, N ∣ 2 * k ↔ n ∣ 2 * k) → (∃ k, N = 2 * k) → 0 < N → m.IsOrd N := by
        intro N hN hev hpos
        obtain ⟨k, hk⟩ := hev
        refine ⟨hpos, ?_, fun j j1 j2 hj => ?_⟩
        · rw [hk, key, h2.dvd, ← hN, hk]; exact Nat.dvd_refl _
        · have hp : j = 2 * (j / 2) ∨ j = 2 * (j / 2) + 1 := by omega
          rcases hp with hp | hp
          · rw [hp, key, h2.dvd, ← hN] at hj
            have := Nat.le_of_dvd (by omega) hj
            omega
          · rw [hp] at hj; exact M3.odd_ne hd _ hj
      rw [h1]
      rcases h3 with rfl | rfl | rfl | rfl | rfl
      · rw [M3.ordI_of (hord 2 (fun k => by omega) ⟨1, rfl⟩ (by omega)) (by omega)]; rfl
      · rw [M3.ordI_of (hord 2 (fun k => by omega) ⟨1, rfl⟩ (by omega)) (by omega)]; rfl
      · rw [M3.ordI_of (hord 6 (fun k => by omega) ⟨3, rfl⟩ (by omega)) (by omega)]; rfl
      · rw [M3.ordI_of (hord 4 (fun k => Iff.rfl) ⟨2, rfl⟩ (by omega)) (by omega)]; rfl
      · rw [M3.ordI_of (hord 6 (fun k => Iff.rfl) ⟨3, rfl⟩ (by omega)) (by omega)]; rfl
/-! ## Sums of translations -/
def sendL (o : O3) : Nat → V3 → V3
  | 0, s => s
  | k + 1, s => sendL o k (o.send s)
/-- The document's: the sum, and the next of its terms. -/
def docL (o : O3) : Nat → V3 × V3 → V3 × V3
  | 0, x => x
  | k + 1, x => docL o k (((x.1.add x.2).w).md 24, ((o.r.app x.2).w).md 24)
def V3.eq24 (u v : V3) : Prop := u.md 24 = v.md 24
theorem app_md (m : M3) (v : V3) : (m.app (v.md 24)).md 24 = (m.app v).md 24 := by
  unfold M3.app V3.md
  simp only [V3.mk.injEq]
  refine ⟨?_, ?_, ?_⟩ <;> simp [Int.add_emod, Int.mul_emod]
theorem md_add_md2 (u v : V3) : ((u.md 24).add (v.md 24)).md 24 = (u.add v).md 24 := by
  unfold V3.md V3.add
  simp only [V3.mk.injEq]
  omega
theorem V3.add_comm (u v : V3) : u.add v = v.add u := by unfold V3.add; simp only [V3.mk.injEq]; omega
theorem V3.add_assoc (u v x : V3) : (u.add v).add x = u.add (v.add x) := by unfold V3.add; simp only [V3.mk.injEq]; omega
/-- Sums of the first powers' translations. -/
def sumP (o : O3) : Nat → V3
  | 0 => V3.zero
  | k + 1 => (sumP o k).add ((o.r.pow k).app o.t)
theorem sumP_front (o : O3) : ∀ k, ((o.r.app (sumP o k)).add o.t) = sumP o (k + 1)
  | 0 => by
    simp only [sumP, M3.pow]
    rw [M3.app_one]
    unfold M3.app V3.zero V3.add
    simp
  | k + 1 => by
    rw [sumP, M3.app_add, V3.add_assoc, V3.add_comm _ o.t, ← V3.add_assoc, sumP_front o k, ← M3.app_mul]
    rfl
theorem V3.bd_md (v : V3) : (v.md 24).Bd 24 := by unfold V3.Bd V3.md; simp only; omega
theorem send_sum {o : O3} (ho : o.r.ok = true) : ∀ (k j : Nat), sendL o k ((sumP o j).md 24) = (sumP o (j + k)).md 24
  | 0, j => rfl
  | k + 1, j => by
    simp only [sendL]
    rw [O3.send_eq ho (V3.part_ok (V3.md_part _)), ← md_add_md, app_md, md_add_md, sumP_front, send_sum ho k (j + 1)]
    congr 2; omega
theorem doc_sum {o : O3} (ho : o.r.ok = true) : ∀ (k j : Nat), (docL o k ((sumP o j).md 24, ((o.r.pow j).app o.t).md 24)).1 = (sumP o (j + k)).md 24
  | 0, j => rfl
  | k + 1, j => by
    simp only [docL]
    have b1 : (((sumP o j).md 24).add (((o.r.pow j).app o.t).md 24)).Bd 48 := (V3.bd_md _).add (V3.bd_md _)
    have b2 : (o.r.app (((o.r.pow j).app o.t).md 24)).Bd (3 * (1000 * 24)) := (M3.ok_iff.1 ho).app (V3.bd_md _)
    rw [V3.w_eq (b1.mono (by omega)), V3.w_eq (b2.mono (by omega)), md_add_md2, app_md, ← M3.app_mul]
    have := doc_sum ho k (j + 1)
    simp only [sumP, M3.pow] at this
    rw [this]
    congr 2; omega
/-! ## How often a translation -/
def findM (s : V3) : Nat → Int → Int
  | 0, n => n
  | k + 1, n => match ((s.smul n).md 24).eqB V3.zero with
    | true => n
    | false => findM s k (n + 1)
theorem hit_iff (s : V3) (n : Int) : ((s.smul n).md 24).eqB V3.zero = true ↔ 24 ∣ n * s.x ∧ 24 ∣ n * s.y ∧ 24 ∣ n * s.z := by
  rw [V3.eqB_iff]
  unfold V3.smul V3.md V3.zero
  simp only [V3.mk.injEq, Int.dvd_iff_emod_eq_zero]
theorem findM_of {s : V3} {d : Int} (hd : ∀ n : Int, 0 < n → (((s.smul n).md 24).eqB V3.zero = true ↔ d ∣ n)) (hpos : 0 < d) : ∀ (k : Nat) (n : Int), 0 < n → n ≤ d → d ≤ n + k → findM s k n = d
  | 0, n, h0, h1, h2 => by simp only [findM]; omega
  | k + 1, n, h0, h1, h2 => by
    simp only [findM]
    cases hc : ((s.smul n).md 24).eqB V3.zero with
    | true =>
      have := (hd n h0).1 hc
      have := Int.le_of_dvd h0 this
      simp only; omega
    | false =>
      simp only
      have hne : n ≠ d := fun e => by
        subst e
        have := (hd n h0).2 (Int.dvd_refl _)
        rw [hc] at this; cases this
      exact findM_of hd hpos k (n + 1) (by omega) (by omega) (by omega)
theorem dvd_gcd_mul {a n x y : Int} (hx : a ∣ n * x) (hy : a ∣ n * y) : a ∣ n * (Int.gcd x y : Int) := by
  have h : a ∣ (Int.gcd (n * x) (n * y) : Int) := Int.dvd_coe_gcd hx hy
  rw [Int.gcd_mul_left] at h
  have h2 : ((n.natAbs * Int.gcd x y : Nat) : Int) = (n.natAbs : Int) * (Int.gcd x y : Int) := by simp
  rw [h2] at h
  rcases Int.natAbs_eq n with e | e
  · rw [e]; exact h
  · rw [e, Int.neg_mul]; exact Int.dvd_neg.2 h
def gcd3 (s : V3) : Int := (Int.gcd (Int.gcd (Int.gcd 24 s.x : Int) s.y : Int) s.z : Int)
theorem gcd3_spec (s : V3) : gcd3 s ∣ 24 ∧ gcd3 s ∣ s.x ∧ gcd3 s ∣ s.y ∧ gcd3 s ∣ s.z ∧ 0 < gcd3 s := by
  have a1 : gcd3 s ∣ (Int.gcd (Int.gcd 24 s.x : Int) s.y : Int) := Int.gcd_dvd_left ..
  have a2 : gcd3 s ∣ s.z := Int.gcd_dvd_right ..
  have b1 : (Int.gcd (Int.gcd 24 s.x : Int) s.y : Int) ∣ (Int.gcd 24 s.x : Int) := Int.gcd_dvd_left ..
  have b2 : (Int.gcd (Int.gcd 24 s.x : Int) s.y : Int) ∣ s.y := Int.gcd_dvd_right ..
  have c1 : (Int.gcd 24 s.x : Int) ∣ 24 := Int.gcd_dvd_left ..
  have c2 : (Int.gcd 24 s.x : Int) ∣ s.x := Int.gcd_dvd_right ..
  have d1 := Int.dvd_trans a1 (Int.dvd_trans b1 c1)
  refine ⟨d1, Int.dvd_trans a1 (Int.dvd_trans b1 c2), Int.dvd_trans a1 b2, a2, ?_⟩
  have h0 : 0 ≤ gcd3 s := by unfold gcd3; omega
  rcases Int.lt_or_eq_of_le h0 with h | h
  · exact h
  · rw [← h] at d1
    obtain ⟨q, hq⟩ := d1
    rw [Int.zero_mul] at hq
    omega
theorem find_eq (s : V3) : findM s 23 1 = 24 / gcd3 s := by
  obtain ⟨g0, g1, g2, g3, gp⟩ := gcd3_spec s
  obtain ⟨d, hd⟩ := g0
  have hdd : (24 : Int) / gcd3 s = d := by rw [hd]; exact Int.mul_ediv_cancel_left d (by omega)
  rw [hdd]
  have dpos : 0 < d := by
    rcases Int.lt_or_le 0 d with h | h
    · exact h
    · have := Int.mul_nonpos_of_nonneg_of_nonpos (Int.le_of_lt gp) h
      omega
  have dle : d ≤ 24 := by
    have : d ∣ 24 := ⟨gcd3 s, by rw [hd, Int.mul_comm]⟩
    exact Int.le_of_dvd (by omega) this
  refine findM_of ?_ dpos 23 1 (by omega) (by omega) (by omega)
  intro n hn
  rw [hit_iff]
  constructor
  · rintro ⟨h1, h2, h3⟩
    have k1 : (24 : Int) ∣ n * (Int.gcd 24 s.x : Int) := dvd_gcd_mul ⟨n, by rw [Int.mul_comm]⟩ h1
    have k2 := dvd_gcd_mul k1 h2
    have k3 := dvd_gcd_mul k2 h3
    obtain ⟨q, hq⟩ := k3
    have : gcd3 s * n = gcd3 s * (d * q) := by
      rw [Int.mul_comm, ← Int.mul_assoc, ← hd]; exact hq
    exact ⟨q, Int.eq_of_mul_eq_mul_left (by omega) this⟩
  · rintro ⟨q, rfl⟩
    have k : ∀ x : Int, gcd3 s ∣ x → 24 ∣ d * q * x := by
      rintro x ⟨y, rfl⟩
      exact ⟨q * y, by rw [hd]; grind⟩
    exact ⟨k _ g1, k _ g2, k _ g3⟩
/-! ## Order -/
def O3.sum (o : O3) (n : Nat) : V3 := (sumP o n).md 24
def O3.ordF (o : O3) : Int := bif o.ck == 0 then (bif o.r.ordI == 0 then 0 else o.r.ordI * (24 / gcd3 (o.sum o.r.ordI.toNat))) else 0
def O3.ordE (o : O3) : Int := bif o.ck == 0 then (bif o.r.ordI == 0 then 9 else 0) else o.ck
def fOOrder (o : O3) : Value := p2 (vI o.ordF) (vI o.ordE)
def rng24 (n : Int) : Bool := decide (1 ≤ n) && decide (n ≤ 24)
def tOOrder (o : O3) : Option Value := match o.ck != 0 with
  | true => some (p2 (vI 0) (vI o.ck))
  | false => match o.r.ordE != 0 with
    | true => some (p2 (vI 0) (vI o.r.ordE))
    | false => onO (rngB 0 o.r.ordF) (onO (rng24 1) (some (p2 (vI (W (o.r.ordF * findM (sendL o (o.r.ordF - 0).toNat V3.zero) (24 - 1 : Int).toNat 1))) (vI 0))))
theorem gcd3_div (s : V3) : 1 ≤ 24 / gcd3 s ∧ 24 / gcd3 s ≤ 24 := by
  obtain ⟨⟨d, hd⟩, _, _, _, gp⟩ := gcd3_spec s
  have hdd : (24 : Int) / gcd3 s = d := by rw [hd]; exact Int.mul_ediv_cancel_left d (by omega)
  rw [hdd]
  have dpos : 0 < d := by
    rcases Int.lt_or_le 0 d with h | h
    · exact h
    · have := Int.mul_nonpos_of_nonneg_of_nonpos (Int.le_of_lt gp) h
      omega
  have : d ∣ 24 := ⟨gcd3 s, by rw [hd, Int.mul_comm]⟩
  exact ⟨by omega, Int.le_of_dvd (by omega) this⟩
theorem ord_ff {o : O3} (h : o.ck = 0) : o.r.ordF = o.r.ordI ∧ o.r.ordE = bif o.r.ordI == 0 then 9 else 0 := by
  obtain ⟨_, a2, a3⟩ := O3.ck_zero.1 h
  unfold M3.ordF M3.ordE
  rw [M3.form_zero.2 ⟨a2, a3⟩]; exact ⟨rfl, rfl⟩
theorem sumP_zero (o : O3) : (sumP o 0).md 24 = V3.zero := rfl
theorem tOOrder_eq (o : O3) : tOOrder o = some (fOOrder o) := by
  unfold tOOrder fOOrder O3.ordF O3.ordE
  by_cases h : o.ck = 0
  · obtain ⟨_, a2, a3⟩ := O3.ck_zero.1 h
    rw [(ord_ff h).1, (ord_ff h).2, h]
    by_cases h0 : o.r.ordI = 0
    · rw [h0]; rfl
    · have hb := M3.ordI_bd o.r
      have e0 : (o.r.ordI == 0) = false := by simpa using h0
      rw [e0]
      have hr : rngB 0 o.r.ordI = true := rngB_iff.2 (by omega)
      simp only [bne_self_eq_false, beq_self_eq_true, cond_true, cond_false]
      rw [onO_true hr, onO_true (by decide), show (o.r.ordI - 0).toNat = o.r.ordI.toNat by omega]
      have hs : sendL o o.r.ordI.toNat V3.zero = o.sum o.r.ordI.toNat := by
        have := send_sum a2 o.r.ordI.toNat 0
        rw [sumP_zero, Nat.zero_add] at this; exact this
      rw [hs, show (24 - 1 : Int).toNat = 23 from rfl, find_eq]
      have hg := gcd3_div (o.sum o.r.ordI.toNat)
      have := bd_mul (m := 6) (n := 24) (x := o.r.ordI) (y := 24 / gcd3 (o.sum o.r.ordI.toNat)) (by omega) (by omega)
      rw [W_in (by omega)]
  · rw [(bif_beq h).1, (bif_beq h).2]; rfl
def posB (a : Int) : Bool := decide (0 ≤ a)
def tGcd (a b : Int) : Option Value := onO (posB a && posB b) (some (vI (Int.gcd a b : Int)))
theorem tGcd_eq {a b : Int} (h : (posB a && posB b) = true) : tGcd a b = some (vI (Int.gcd a b : Int)) := by unfold tGcd; rw [onO_true h]
def docEnd (n : Int) (s : V3) : Option Value :=
  onO (posB 24 && posB s.x) (onO (posB (Int.gcd 24 s.x : Int) && posB s.y) (onO (posB (Int.gcd (Int.gcd 24 s.x : Int) s.y : Int) && posB s.z)
    (match gcd3 s == 0 with
      | true => none
      | false => some (p2 (vI (W (n * W (Int.tdiv 24 (gcd3 s))))) (vI 0)))))
def tDocOrder (o : O3) : Option Value := match o.ck != 0 with
  | true => some (p2 (vI 0) (vI o.ck))
  | false => match orderOfI o.r.kindW == 0 with
    | true => some (p2 (vI 0) (vI 9))
    | false => onO (rngB 0 (orderOfI o.r.kindW)) (docEnd (orderOfI o.r.kindW) (docL o (orderOfI o.r.kindW - 0).toNat (V3.zero, o.t)).1)
theorem posB_gcd (a b : Int) : posB (Int.gcd a b : Int) = true := by unfold posB; simp
theorem tDocOrder_eq (o : O3) : tDocOrder o = some (fOOrder o) := by
  unfold tDocOrder fOOrder O3.ordF O3.ordE
  by_cases h : o.ck = 0
  · obtain ⟨a1, a2, a3⟩ := O3.ck_zero.1 h
    rw [M3.kindW_eq a2 a3, orderOf_eq a3, h]
    by_cases h0 : o.r.ordI = 0
    · rw [h0]; rfl
    · have hb := M3.ordI_bd o.r
      have e0 : (o.r.ordI == 0) = false := by simpa using h0
      rw [e0]
      have hr : rngB 0 o.r.ordI = true := rngB_iff.2 (by omega)
      simp only [bne_self_eq_false, beq_self_eq_true, cond_true, cond_false]
      rw [onO_true hr, show (o.r.ordI - 0).toNat = o.r.ordI.toNat by omega]
      have hs : (docL o o.r.ordI.toNat (V3.zero, o.t)).1 = o.sum o.r.ordI.toNat := by
        have := doc_sum a2 o.r.ordI.toNat 0
        rw [sumP_zero, Nat.zero_add] at this
        simp only [M3.pow] at this
        rw [M3.app_one, V3.part_md a1] at this
        exact this
      rw [hs]
      unfold docEnd
      have hp := V3.part_iff.1 (show (o.sum o.r.ordI.toNat).part = true from V3.md_part _)
      have q1 : posB (o.sum o.r.ordI.toNat).x = true := by unfold posB; simp; omega
      have q2 : posB (o.sum o.r.ordI.toNat).y = true := by unfold posB; simp; omega
      have q3 : posB (o.sum o.r.ordI.toNat).z = true := by unfold posB; simp; omega
      rw [posB_gcd, posB_gcd, q1, q2, q3]
      obtain ⟨g0, _, _, _, gp⟩ := gcd3_spec (o.sum o.r.ordI.toNat)
      have hne : (gcd3 (o.sum o.r.ordI.toNat) == 0) = false := by simp; omega
      rw [hne]
      have hg := gcd3_div (o.sum o.r.ordI.toNat)
      have htd : Int.tdiv 24 (gcd3 (o.sum o.r.ordI.toNat)) = 24 / gcd3 (o.sum o.r.ordI.toNat) := Int.tdiv_eq_ediv_of_nonneg (by omega)
      have := bd_mul (m := 6) (n := 24) (x := o.r.ordI) (y := 24 / gcd3 (o.sum o.r.ordI.toNat)) (by omega) (by omega)
      rw [htd, W_in (n := 24 / gcd3 (o.sum o.r.ordI.toNat)) (by omega), W_in (by omega)]
      rfl
  · rw [(bif_beq h).1, (bif_beq h).2]; rfl
def tDocKind (o : O3) : Option Value := match o.ck != 0 with
  | true => some (p2 (vI 0) (vI o.ck))
  | false => match o.r.kindW == 0 with
    | true => some (p2 (vI 0) (vI 9))
    | false => some (p2 (vI o.r.kindW) (vI 0))
theorem tDocKind_eq (o : O3) : tDocKind o = some (fKind o) := by
  unfold tDocKind fKind O3.kindF O3.kindE M3.kindE
  by_cases h : o.ck = 0
  · obtain ⟨a1, a2, a3⟩ := O3.ck_zero.1 h
    rw [M3.kindW_eq a2 a3, h]
    by_cases h0 : o.r.kindF = 0
    · rw [h0]; rfl
    · rw [(bif_beq h0).1]; rfl
  · rw [(bif_beq h).1, (bif_beq h).2]; rfl
end Go.Proofs.Ytofblakbfmjgkaa.Vx


namespace Go.Proofs.Ytofblakbfmjgkaa.Vx
open Go

theorem md_app_add (m : M3) (u v : V3) : ((m.app (u.md 24)).add v).md 24 = ((m.app u).add v).md 24 := by
  rw [← md_add_md, app_md, md_add_md]
theorem V3.md_add_right (u v : V3) : (u.add (v.md 24)).md 24 = (u.add v).md 24 := by rw [V3.add_comm, md_add_md, V3.add_comm]
theorem O3.ext' {a b : O3} (h1 : a.r = b.r) (h2 : a.t = b.t) : a = b := by cases a; cases b; simp only at h1 h2; rw [h1, h2]
theorem O3.mul_assoc (a b c : O3) : (a.mul b).mul c = a.mul (b.mul c) := by
  refine O3.ext' (M3.mul_assoc _ _ _) ?_
  simp only [O3.mul]
  rw [md_app_add, M3.app_add, ← M3.app_mul, V3.md_add_right, V3.add_assoc]
theorem V3.zero_add (v : V3) : V3.zero.add v = v := by unfold V3.add V3.zero; simp
theorem M3.app_zero (m : M3) : m.app V3.zero = V3.zero := by unfold M3.app V3.zero; simp
theorem O3.mul_one {a : O3} (h : a.t.part = true) : a.mul O3.one = a := by
  refine O3.ext' (M3.mul_one _) ?_
  simp only [O3.mul, O3.one]
  rw [M3.app_zero, V3.zero_add, V3.part_md h]
theorem O3.one_mul {a : O3} (h : a.t.part = true) : O3.one.mul a = a := by
  refine O3.ext' (M3.one_mul _) ?_
  simp only [O3.mul, O3.one]
  rw [M3.app_one, V3.add_zero, V3.part_md h]
theorem V3.neg_add (v : V3) : v.neg.add v = V3.zero := by unfold V3.neg V3.add V3.zero; simp only [V3.mk.injEq]; omega
theorem O3.mul_inv {a : O3} (hu : a.r.U) : a.mul a.inv = O3.one := by
  refine O3.ext' (M3.mul_inv hu) ?_
  simp only [O3.mul, O3.inv, O3.one]
  rw [md_app_add, M3.app_neg, ← M3.app_mul, M3.mul_inv hu, M3.app_one, V3.neg_add]
  rfl
theorem neg_md (v : V3) : ((v.md 24).neg).md 24 = v.neg.md 24 := by unfold V3.md V3.neg; simp only [V3.mk.injEq]; omega
theorem V3.neg_neg (v : V3) : v.neg.neg = v := by unfold V3.neg; simp
theorem V3.add_neg (v : V3) : v.add v.neg = V3.zero := by rw [V3.add_comm, V3.neg_add]
theorem O3.inv_mul {a : O3} (hu : a.r.U) : a.inv.mul a = O3.one := by
  refine O3.ext' (M3.inv_mul hu) ?_
  simp only [O3.mul, O3.inv, O3.one]
  rw [V3.md_add_right, V3.add_neg]
  rfl
theorem O3.inv_inv {a : O3} (hu : a.r.U) (h : a.t.part = true) : a.inv.inv = a := by
  refine O3.ext' (M3.inv_inv hu) ?_
  simp only [O3.inv]
  rw [M3.inv_inv hu, ← neg_md, app_md, neg_md, M3.app_neg, V3.neg_neg, ← M3.app_mul, M3.mul_inv hu, M3.app_one, V3.part_md h]
/-! Places -/
theorem form_m {p : P3} (h : p.form = true) : p.m = 24 * (p.m / 24) ∧ 0 < p.m / 24 := by
  have := (P3.form_spec h).1
  rcases this with e | e | e | e <;> rw [e] <;> decide
theorem O3.app_form {o : O3} {p : P3} (h : p.form = true) : (o.app p).form = true := by
  unfold P3.form at h ⊢
  rw [Bool.and_eq_true] at h
  simp only [O3.app, h.1, md_md, V3.eqB_refl, Bool.and_self]
theorem app_md' (k : Int) (m : M3) (v : V3) : (m.app (v.md k)).md k = (m.app v).md k := by
  unfold M3.app V3.md
  simp only [V3.mk.injEq]
  refine ⟨?_, ?_, ?_⟩ <;> simp [Int.add_emod, Int.mul_emod]
theorem V3.md_add_r (k : Int) (u v : V3) : (u.add (v.md k)).md k = (u.add v).md k := by rw [V3.add_comm, md_add_md, V3.add_comm]
theorem smul_md (k : Int) (v : V3) : ((v.md 24).smul k).md (24 * k) = (v.smul k).md (24 * k) := by
  unfold V3.smul V3.md
  simp only [V3.mk.injEq]
  have key : ∀ x : Int, k * (x % 24) % (24 * k) = k * x % (24 * k) := fun x => by
    have e : x = 24 * (x / 24) + x % 24 := (Int.mul_ediv_add_emod x 24).symm
    have e2 : k * x = k * (x % 24) + (24 * k) * (x / 24) := by
      conv => lhs; rw [e]
      grind
    rw [e2, Int.add_mul_emod_self_left]
  exact ⟨key _, key _, key _⟩
theorem smul_add (k : Int) (u v : V3) : (u.add v).smul k = (u.smul k).add (v.smul k) := by
  unfold V3.smul V3.add; simp only [V3.mk.injEq]; exact ⟨Int.mul_add _ _ _, Int.mul_add _ _ _, Int.mul_add _ _ _⟩
theorem app_smul (k : Int) (m : M3) (v : V3) : m.app (v.smul k) = (m.app v).smul k := by
  unfold V3.smul M3.app; simp only [V3.mk.injEq]; refine ⟨?_, ?_, ?_⟩ <;> grind
theorem O3.app_mul (a b : O3) {p : P3} (h : p.form = true) : (a.mul b).app p = a.app (b.app p) := by
  obtain ⟨hm, _⟩ := form_m h
  unfold O3.app
  simp only [O3.mul, P3.mk.injEq, true_and]
  generalize p.m / 24 = k at *
  rw [hm]
  rw [← md_add_md (24 * k) (a.r.app _), app_md', md_add_md, M3.app_add, app_smul, M3.app_mul, V3.add_assoc, ← smul_add, ← V3.md_add_r _ (a.r.app (b.r.app p.x)), smul_md k, V3.md_add_r]
/-! Closed forms in form -/
theorem O3.mulF_of {a b : O3} (ha : a.ck = 0) (hb : b.ck = 0) (h : a.mulE b = 0) : a.mulF b = a.mul b ∧ (a.mul b).ck = 0 := by
  obtain ⟨e1, e2⟩ := O3.mulF_eq ha hb
  rw [e2] at h
  have hok := O3.smallE_zero.1 h
  exact ⟨by rw [e1, O3.small_ok hok], O3.ck_mul ha hb hok⟩
theorem O3.mul_id {o : O3} (ho : o.ck = 0) : o.mulE O3.one = 0 ∧ o.mulF O3.one = o := by
  obtain ⟨a1, a2, a3⟩ := O3.ck_zero.1 ho
  obtain ⟨e1, e2⟩ := O3.mulF_eq ho O3.ck_one
  rw [O3.mul_one a1] at e1 e2
  exact ⟨e2.trans (O3.smallE_zero.2 a2), e1.trans (O3.small_ok a2)⟩
theorem O3.id_mul {o : O3} (ho : o.ck = 0) : O3.one.mulE o = 0 ∧ O3.one.mulF o = o := by
  obtain ⟨a1, a2, a3⟩ := O3.ck_zero.1 ho
  obtain ⟨e1, e2⟩ := O3.mulF_eq O3.ck_one ho
  rw [O3.one_mul a1] at e1 e2
  exact ⟨e2.trans (O3.smallE_zero.2 a2), e1.trans (O3.small_ok a2)⟩
theorem O3.invF_of {a : O3} (ha : a.ck = 0) (h : a.invE = 0) : a.invF = a.inv ∧ a.inv.ck = 0 := by
  unfold O3.invE at h
  unfold O3.invF
  rw [ha] at h ⊢
  have hok := O3.smallE_zero.1 h
  exact ⟨by rw [O3.small_ok hok]; rfl, O3.ck_inv ha hok⟩
theorem O3.one_ok : O3.one.r.ok = true := by decide
theorem beq_true {x : Int} (h : x = 0) : (x == 0) = true ∧ (x != 0) = false := by subst h; exact ⟨rfl, rfl⟩

/-! The statement's tests, in its order -/
def grp1 (o : O3) (K : Option Value) : Option Value := match !(o.ck == 0) with
  | true => some (.bool true)
  | false => guardF [o.mulE O3.one != 0, O3.one.mulE o != 0, !((o.mulF O3.one).eqB o), !((O3.one.mulF o).eqB o)] K
def grp2 (a b c : O3) (K : Option Value) : Option Value := match a.mulE b == 0 with
  | true => match b.mulE c == 0 with
    | true => guardF [(a.mulF b).mulE c != a.mulE (b.mulF c), !(((a.mulF b).mulF c).eqB (a.mulF (b.mulF c)))] K
    | false => K
  | false => K
def grp3 (a : O3) (K : Option Value) : Option Value := match a.invE == 0 with
  | true => guardF [a.mulE a.invF != 0, a.invF.mulE a != 0, a.invF.invE != 0, !((a.mulF a.invF).eqB O3.one), !((a.invF.mulF a).eqB O3.one), !(a.invF.invF.eqB a)] K
  | false => K
def grp4 (a b : O3) (p : P3) : Option Value := match a.mulE b != 0 with
  | true => some (.bool true)
  | false => match !p.form with
    | true => some (.bool true)
    | false => match (a.mulF b).appE p == 0 with
      | true => match b.appE p == 0 with
        | true => match a.appE (b.appF p) == 0 with
          | true => some (.bool (((a.mulF b).appF p).eqB (a.appF (b.appF p))))
          | false => some (.bool false)
        | false => some (.bool false)
      | false => some (.bool false)
def tOpGroups (a b c : O3) (p : P3) : Option Value := grp1 a (grp1 b (grp1 c (grp2 a b c (grp3 a (grp4 a b p)))))
theorem grp1_true {o : O3} {K : Option Value} (hK : o.ck = 0 → K = some (.bool true)) : grp1 o K = some (.bool true) := by
  unfold grp1
  by_cases h : o.ck = 0
  · obtain ⟨a1, a2⟩ := O3.mul_id h
    obtain ⟨b1, b2⟩ := O3.id_mul h
    rw [a1, a2, b1, b2, h, O3.eqB_refl]
    exact hK h
  · rw [(bif_beq h).1]; rfl
theorem grp2_true {a b c : O3} (ha : a.ck = 0) (hb : b.ck = 0) (hc : c.ck = 0) {K : Option Value} : grp2 a b c K = K := by
  unfold grp2
  by_cases h1 : a.mulE b = 0
  · by_cases h2 : b.mulE c = 0
    · obtain ⟨e1, k1⟩ := O3.mulF_of ha hb h1
      obtain ⟨e2, k2⟩ := O3.mulF_of hb hc h2
      obtain ⟨f1, f2⟩ := O3.mulF_eq k1 hc
      obtain ⟨g1, g2⟩ := O3.mulF_eq ha k2
      rw [e1, e2, f1, f2, g1, g2, O3.mul_assoc, h1, h2, O3.eqB_refl, bne_self_eq_false]
      rfl
    · rw [(beq_true h1).1, (bif_beq h2).1]
  · rw [(bif_beq h1).1]
theorem grp3_true {a : O3} (ha : a.ck = 0) {K : Option Value} : grp3 a K = K := by
  unfold grp3
  obtain ⟨p1, p2, p3⟩ := O3.ck_zero.1 ha
  by_cases h1 : a.invE = 0
  · obtain ⟨e1, k1⟩ := O3.invF_of ha h1
    obtain ⟨f1, f2⟩ := O3.mulF_eq ha k1
    obtain ⟨g1, g2⟩ := O3.mulF_eq k1 ha
    have hii : a.inv.invE = 0 ∧ a.inv.invF = a := by
      unfold O3.invE O3.invF
      rw [k1, O3.inv_inv p3 p1]
      exact ⟨O3.smallE_zero.2 p2, O3.small_ok p2⟩
    have s1 : O3.one.small = O3.one := O3.small_ok O3.one_ok
    have s2 : O3.one.smallE = 0 := O3.smallE_zero.2 O3.one_ok
    rw [e1, f1, f2, g1, g2, hii.1, hii.2, O3.mul_inv p3, O3.inv_mul p3, s1, s2, h1, O3.eqB_refl, O3.eqB_refl]
    rfl
  · rw [(bif_beq h1).1]
theorem O3.appF_of {o : O3} {p : P3} (ho : o.ck = 0) (hp : p.form = true) : o.appE p = 0 ∧ o.appF p = o.app p := by
  have : o.appE p = 0 := by unfold O3.appE; rw [hp, ho]; rfl
  refine ⟨this, ?_⟩
  unfold O3.appF; rw [this]; rfl
theorem grp4_true {a b : O3} {p : P3} (ha : a.ck = 0) (hb : b.ck = 0) : grp4 a b p = some (.bool true) := by
  unfold grp4
  by_cases h1 : a.mulE b = 0
  · obtain ⟨e1, k1⟩ := O3.mulF_of ha hb h1
    cases hp : p.form with
    | false => rw [h1]; rfl
    | true =>
      obtain ⟨x1, x2⟩ := O3.appF_of k1 hp
      obtain ⟨y1, y2⟩ := O3.appF_of hb hp
      obtain ⟨z1, z2⟩ := O3.appF_of ha (O3.app_form (o := b) hp)
      rw [e1, x1, x2, y1, y2, z1, z2, h1, O3.app_mul a b hp, P3.eqB_refl]
      rfl
  · rw [(bif_beq h1).2]
theorem tOpGroups_true (a b c : O3) (p : P3) : tOpGroups a b c p = some (.bool true) := by
  unfold tOpGroups
  refine grp1_true fun ha => grp1_true fun hb => grp1_true fun hc => ?_
  rw [grp2_true ha hb hc, grp3_true ha, grp4_true ha hb]
end Go.Proofs.Ytofblakbfmjgkaa.Vx


namespace Go.Proofs.Ytofblakbfmjgkaa.Vx
open Go

/-! Layer 1, the rest -/
def M3.T (m : M3) : M3 := ⟨m.a, m.d, m.g, m.b, m.e, m.h, m.c, m.f, m.i⟩
def M3.left (v : V3) (m : M3) : V3 := ⟨v.x * m.a + v.y * m.d + v.z * m.g, v.x * m.b + v.y * m.e + v.z * m.h, v.x * m.c + v.y * m.f + v.z * m.i⟩
def tTranspose (m : M3) : Option Value := chainO mkMe [(m.ck != 0, zeros9 m.ck)] (m.T.l ++ [0])
def M3.flipF (m : M3) : M3 := bif m.ok then m.T else M3.zero
def fTranspose (m : M3) : Value := p2 m.flipF.v (vI m.ck)
theorem tTranspose_eq (m : M3) : tTranspose m = some (fTranspose m) := by
  unfold tTranspose fTranspose M3.flipF
  rw [chain_eq]
  unfold M3.ck
  cases m.ok <;> rfl

/-! op, with the lesser error of two -/
theorem leastN_ck3 (o : O3) : leastN o.ck 3 = leastI o.ck 3 := by
  rcases O3.ck_cases o with h | h | h <;> rw [h] <;> decide
def tOApplyN (o : O3) (p : P3) : Option Value :=
  match !p.form with
  | true => tOApplyEnd o p (leastN o.ck 3)
  | false => tOApplyEnd o p o.ck
theorem tOApplyN_eq (o : O3) (p : P3) : tOApplyN o p = some (fOApply o p) := by
  unfold tOApplyN
  rw [leastN_ck3]
  exact tOApply_eq o p
theorem leastN_ck (a b : O3) : leastN a.ck b.ck = leastI a.ck b.ck := by
  rcases O3.ck_cases a with h | h | h <;> rcases O3.ck_cases b with k | k | k <;> rw [h, k] <;> decide
def tOMulN (a b : O3) : Option Value :=
  match leastN a.ck b.ck != 0 with
  | true => some (pOE O3.zero (leastN a.ck b.ck))
  | false => match (a.r.mulF b.r).ck != 0 with
    | true => some (pOE O3.zero (a.r.mulF b.r).ck)
    | false => some (pOE ⟨a.r.mulF b.r, a.send b.t⟩ 0)
theorem tOMulN_eq (a b : O3) : tOMulN a b = some (fOMul a b) := by
  unfold tOMulN
  rw [leastN_ck]
  exact tOMul_eq a b

/-! What both come to -/
theorem M3.form_cases (m : M3) : m.form = 0 ∨ m.form = 3 ∨ m.form = 4 := by
  unfold M3.form
  cases m.ok <;> cases unitB m.det <;> simp
theorem leastN_zero {a b : Int} : leastN a b = 0 ↔ a = 0 ∧ b = 0 := by
  unfold leastN
  by_cases ha : a = 0
  · subst ha; simp
  · rw [(bif_beq ha).1]
    by_cases hb : b = 0
    · subst hb; simp [ha]
    · rw [(bif_beq hb).2]
      by_cases hl : b < a <;> simp [hl, ha, hb]
/-- Behind: one change, then another. -/
def O3.behE (a b : O3) : Int := bif leastN a.r.form b.r.form == 0 then (a.mul b).smallE else leastN a.r.form b.r.form
def O3.behF (a b : O3) : O3 := bif leastN a.r.form b.r.form == 0 then (a.mul b).small else O3.zero
def fBehind (a b : O3) : Value := pOE (a.behF b) (a.behE b)
/-- Back. -/
def O3.bakE (c : O3) : Int := bif c.r.form == 0 then c.inv.smallE else c.r.form
def O3.bakF (c : O3) : O3 := bif c.r.form == 0 then c.inv.small else O3.zero
def fBBack (c : O3) : Value := pOE c.bakF c.bakE
/-- Point. -/
def O3.ptE (c : O3) (p : P3) : Int := bif p.form then c.r.form else 3
def O3.ptF (c : O3) (p : P3) : P3 := bif c.ptE p == 0 then c.app p else P3.zero
def fPoint (c : O3) (p : P3) : Value := p2 (c.ptF p).v (vI (c.ptE p))
/-- Op. -/
def O3.told (c o : O3) : O3 := ⟨(c.r.mul o.r).mul c.r.inv, (((c.r.app o.t).add c.t).add ((((c.r.mul o.r).mul c.r.inv).app c.t).neg)).md 24⟩
def O3.opcE (c o : O3) : Int := bif leastN c.r.form o.ck == 0 then (c.told o).smallE else leastN c.r.form o.ck
def O3.opcF (c o : O3) : O3 := bif leastN c.r.form o.ck == 0 then (c.told o).small else O3.zero
def fBOp (c o : O3) : Value := pOE (c.opcF o) (c.opcE o)
/-- Index. -/
def V3.idx (h : V3) : Bool := inB 512 h.l
def O3.idxE (c : O3) (h : V3) : Int := bif h.idx then c.r.form else 1
def O3.idxF (c : O3) (h : V3) : V3 := bif c.idxE h == 0 then M3.left h c.r.inv else V3.zero
def fIndex (c : O3) (h : V3) : Value := p2 (c.idxF h).v (vI (c.idxE h))
/-- Metric. -/
structure G6 where
  (aa bb cc bc ac ab : Int)
def G6.v (m : G6) : Value := .agg #[.int .i64 m.aa, .int .i64 m.bb, .int .i64 m.cc, .int .i64 m.bc, .int .i64 m.ac, .int .i64 m.ab]
def G6.zero : G6 := ⟨0, 0, 0, 0, 0, 0⟩
def G6.mat (m : G6) : M3 := ⟨m.aa, m.ab, m.ac, m.ab, m.bb, m.bc, m.ac, m.bc, m.cc⟩
def G6.of (n : M3) : G6 := ⟨n.a, n.e, n.i, n.f, n.c, n.b⟩
def sqT (x : Int) (l : List (Bool × List Int)) : List (Bool × List Int) := (decide (x < 1), [1]) :: (decide (x > 100000), [1]) :: l
def dgT (x : Int) (l : List (Bool × List Int)) : List (Bool × List Int) := (decide (x < -100000), [1]) :: (decide (x > 100000), [1]) :: l
def G6.T (m : G6) : List (Bool × List Int) := sqT m.aa (sqT m.bb (sqT m.cc (dgT m.bc (dgT m.ac (dgT m.ab [])))))
def G6.ck (m : G6) : Int := nth (chainL m.T [0]) 0
def tCheckG (m : G6) : Option Value := chainO mk1 m.T [0]
def fCheckG (m : G6) : Value := vI m.ck
theorem tCheckG_eq (m : G6) : tCheckG m = some (fCheckG m) := by unfold tCheckG; rw [chain_eq]; rfl
def G6.Bd (m : G6) : Prop := (1 ≤ m.aa ∧ m.aa ≤ 100000) ∧ (1 ≤ m.bb ∧ m.bb ≤ 100000) ∧ (1 ≤ m.cc ∧ m.cc ≤ 100000) ∧ (-100000 ≤ m.bc ∧ m.bc ≤ 100000) ∧ (-100000 ≤ m.ac ∧ m.ac ≤ 100000) ∧ (-100000 ≤ m.ab ∧ m.ab ≤ 100000)
theorem sq_step {x : Int} {l : List (Bool × List Int)} (h : nth (chainL (sqT x l) [0]) 0 = 0) : (1 ≤ x ∧ x ≤ 100000) ∧ nth (chainL l [0]) 0 = 0 := by
  unfold sqT at h
  by_cases h1 : x < 1
  · rw [show decide (x < 1) = true by simpa using h1] at h; cases h
  · rw [show decide (x < 1) = false by simpa using h1] at h
    by_cases h2 : x > 100000
    · rw [show decide (x > 100000) = true by simpa using h2] at h; cases h
    · rw [show decide (x > 100000) = false by simpa using h2] at h
      exact ⟨by omega, h⟩
theorem dg_step {x : Int} {l : List (Bool × List Int)} (h : nth (chainL (dgT x l) [0]) 0 = 0) : (-100000 ≤ x ∧ x ≤ 100000) ∧ nth (chainL l [0]) 0 = 0 := by
  unfold dgT at h
  by_cases h1 : x < -100000
  · rw [show decide (x < -100000) = true by simpa using h1] at h; cases h
  · rw [show decide (x < -100000) = false by simpa using h1] at h
    by_cases h2 : x > 100000
    · rw [show decide (x > 100000) = true by simpa using h2] at h; cases h
    · rw [show decide (x > 100000) = false by simpa using h2] at h
      exact ⟨by omega, h⟩
theorem G6.ck_zero {m : G6} (h : m.ck = 0) : m.Bd := by
  unfold G6.ck G6.T at h
  obtain ⟨h1, h⟩ := sq_step h
  obtain ⟨h2, h⟩ := sq_step h
  obtain ⟨h3, h⟩ := sq_step h
  obtain ⟨h4, h⟩ := dg_step h
  obtain ⟨h5, h⟩ := dg_step h
  obtain ⟨h6, h⟩ := dg_step h
  exact ⟨h1, h2, h3, h4, h5, h6⟩
def O3.metE (c : O3) (m : G6) : Int := bif m.ck == 0 then c.r.form else m.ck
def O3.metF (c : O3) (m : G6) : G6 := bif c.metE m == 0 then G6.of ((c.r.inv.T.mul m.mat).mul c.r.inv) else G6.zero
def pGE (m : G6) (e : Int) : Value := p2 m.v (vI e)
def fMetric (c : O3) (m : G6) : Value := pGE (c.metF m) (c.metE m)

/-! basis -/
theorem rdot_W (a b c d e f : Int) : rdot a b c d e f = W (a * d + b * e + c * f) := by rw [rdot_eq, dotR_W]
def tRowTimes (v : V3) (m : M3) : Option Value := some (V3.v ⟨rdot v.x v.y v.z m.a m.d m.g, rdot v.x v.y v.z m.b m.e m.h, rdot v.x v.y v.z m.c m.f m.i⟩)
def fRowTimes (v : V3) (m : M3) : Value := (M3.left v m).w.v
theorem tRowTimes_eq (v : V3) (m : M3) : tRowTimes v m = some (fRowTimes v m) := by
  unfold tRowTimes fRowTimes
  simp only [rdot_W]; rfl
def tProduct (m n : M3) : Option Value := some (m.mul n).w.v
def fProduct (m n : M3) : Value := (m.mul n).w.v
theorem tProduct_eq (m n : M3) : tProduct m n = some (fProduct m n) := rfl
def tBehind (a b : O3) : Option Value :=
  match leastN a.r.form b.r.form != 0 with
  | true => some (pOE O3.zero (leastN a.r.form b.r.form))
  | false => some (pOE ((O3.makeF a.r a.t).mulF (O3.makeF b.r b.t)) ((O3.makeF a.r a.t).mulE (O3.makeF b.r b.t)))
theorem makeF_ck {m : M3} {t : V3} (h : m.form = 0) : O3.makeF m t = ⟨m, t.md 24⟩ ∧ (O3.makeF m t).ck = 0 := by
  have e : O3.makeF m t = ⟨m, t.md 24⟩ := by unfold O3.makeF; rw [h]; rfl
  refine ⟨e, ?_⟩
  rw [e, O3.ck_zero]
  exact ⟨V3.md_part t, M3.form_zero.1 h⟩
theorem O3.mul_md (a b : O3) : O3.mul ⟨a.r, a.t.md 24⟩ ⟨b.r, b.t.md 24⟩ = a.mul b := by
  unfold O3.mul
  simp only
  rw [md_app_add, V3.md_add_right]
theorem tBehind_eq (a b : O3) : tBehind a b = some (fBehind a b) := by
  unfold tBehind fBehind O3.behF O3.behE
  by_cases h : leastN a.r.form b.r.form = 0
  · obtain ⟨ha, hb⟩ := leastN_zero.1 h
    obtain ⟨a1, a2⟩ := makeF_ck (t := a.t) ha
    obtain ⟨b1, b2⟩ := makeF_ck (t := b.t) hb
    have e : leastI (O3.makeF a.r a.t).ck (O3.makeF b.r b.t).ck = 0 := leastI_zero.2 ⟨a2, b2⟩
    rw [h]
    unfold O3.mulF O3.mulE
    rw [e, a1, b1, O3.mul_md]
    rfl
  · rw [(bif_beq h).1, (bif_beq h).2]; rfl
def tBBack (c : O3) : Option Value :=
  match c.r.form != 0 with
  | true => some (pOE O3.zero c.r.form)
  | false => some (pOE (O3.makeF c.r c.t).invF (O3.makeF c.r c.t).invE)
theorem O3.inv_md (c : O3) : O3.inv ⟨c.r, c.t.md 24⟩ = c.inv := by
  unfold O3.inv
  simp only
  rw [← neg_md (c.r.inv.app (c.t.md 24)), app_md', neg_md]
theorem tBBack_eq (c : O3) : tBBack c = some (fBBack c) := by
  unfold tBBack fBBack O3.bakF O3.bakE
  by_cases h : c.r.form = 0
  · obtain ⟨a1, a2⟩ := makeF_ck (t := c.t) h
    rw [h]
    unfold O3.invF O3.invE
    rw [a2, a1, O3.inv_md]
    rfl
  · rw [(bif_beq h).1, (bif_beq h).2]; rfl
def tPointEnd (c : O3) (p : P3) (e : Int) : Option Value :=
  match e != 0 with
  | true => some (p2 P3.zero.v (vI e))
  | false => some (p2 ((O3.makeF c.r c.t).appF p).v (vI ((O3.makeF c.r c.t).appE p)))
def tPoint (c : O3) (p : P3) : Option Value :=
  match !p.form with
  | true => tPointEnd c p (leastN c.r.form 3)
  | false => tPointEnd c p c.r.form
theorem O3.app_md {c : O3} {p : P3} (h : p.form = true) : O3.app ⟨c.r, c.t.md 24⟩ p = c.app p := by
  unfold O3.app
  simp only
  obtain ⟨hm, _⟩ := form_m h
  have e : ((c.t.md 24).smul (p.m / 24)).md p.m = (c.t.smul (p.m / 24)).md p.m := by
    have := smul_md (p.m / 24) c.t
    rwa [← hm] at this
  rw [← V3.md_add_r, e, V3.md_add_r]
theorem leastN_form3 (m : M3) : leastN m.form 3 = 3 := by
  rcases M3.form_cases m with h | h | h <;> rw [h] <;> decide
theorem tPoint_eq (c : O3) (p : P3) : tPoint c p = some (fPoint c p) := by
  unfold tPoint fPoint O3.ptF O3.ptE tPointEnd
  cases hp : p.form with
  | false => rw [leastN_form3]; rfl
  | true =>
    simp only [Bool.not_true, cond_true]
    by_cases h : c.r.form = 0
    · obtain ⟨a1, a2⟩ := makeF_ck (t := c.t) h
      rw [h]
      unfold O3.appF O3.appE
      rw [hp, a2, a1, O3.app_md hp]
      rfl
    · rw [(bif_beq h).1, (bif_beq h).2]; rfl
/-- A map told behind a change; what undoes its matrix is handed in. -/
def M3.tel (c : O3) (q : M3) (o : O3) : M3 := (((c.r.mul o.r).w).mul q).w
def O3.telT (c : O3) (r : M3) (o : O3) : V3 := ((((c.r.appF o.t).add (c.t.md 24)).md 24).add (((r.appF (c.t.md 24)).neg).md 24)).md 24
def tRetell (c : O3) (q : M3) (o : O3) : Option Value :=
  match (M3.tel c q o).ck != 0 with
  | true => some (pOE O3.zero (M3.tel c q o).ck)
  | false => some (pOE ⟨M3.tel c q o, ((((c.r.appF o.t).add (((c.t.add V3.zero).md 24))).md 24).add ((((M3.tel c q o).appF (((c.t.add V3.zero).md 24))).neg).md 24)).md 24⟩ 0)
def O3.tellF (c : O3) (q : M3) (o : O3) : O3 := O3.small ⟨M3.tel c q o, c.telT (M3.tel c q o) o⟩
def fRetell (c : O3) (q : M3) (o : O3) : Value := pOE (c.tellF q o) (M3.tel c q o).ck
theorem tRetell_eq (c : O3) (q : M3) (o : O3) : tRetell c q o = some (fRetell c q o) := by
  unfold tRetell fRetell O3.tellF O3.telT O3.small M3.ck
  rw [V3.add_zero]
  cases (M3.tel c q o).ok <;> rfl
theorem tel_eq {c o : O3} (hc : c.r.form = 0) (ho : o.ck = 0) : M3.tel c c.r.inv o = (c.r.mul o.r).mul c.r.inv := by
  obtain ⟨c1, c2⟩ := M3.form_zero.1 hc
  obtain ⟨o1, o2, o3⟩ := O3.ck_zero.1 ho
  have h1 := (M3.ok_iff.1 c1).mul (M3.ok_iff.1 o2)
  have h2 := h1.mul ((M3.ok_iff.1 c1).inv c2)
  unfold M3.tel
  rw [M3.w_eq (h1.mono (by omega)), M3.w_eq (h2.mono (by omega))]
theorem md_ok (v : V3) : (v.md 24).ok = true := V3.part_ok (V3.md_part v)
theorem tell3 (u v : V3) {w w' : V3} (h : w.md 24 = w'.md 24) : (((u.add (v.md 24)).md 24).add ((w.neg).md 24)).md 24 = ((u.add v).add w'.neg).md 24 := by
  unfold V3.md at h
  simp only [V3.mk.injEq] at h
  unfold V3.md V3.add V3.neg
  simp only [V3.mk.injEq]
  omega
theorem retell_eq {c o : O3} (hc : c.r.form = 0) (ho : o.ck = 0) : fRetell c c.r.inv o = pOE (c.told o).small (c.told o).smallE := by
  obtain ⟨c1, c2⟩ := M3.form_zero.1 hc
  obtain ⟨o1, o2, o3⟩ := O3.ck_zero.1 ho
  unfold fRetell O3.tellF O3.small O3.smallE
  rw [tel_eq hc ho]
  unfold O3.telT O3.told M3.ck
  simp only
  cases hr : ((c.r.mul o.r).mul c.r.inv).ok with
  | false => rfl
  | true =>
    simp only [cond_true]
    unfold M3.appF
    rw [hr, c1, V3.part_ok o1, md_ok]
    simp only [Bool.and_self, cond_true]
    rw [tell3 _ _ (app_md' 24 _ c.t)]

def tBOp (c o : O3) : Option Value :=
  match o.ck != 0 with
  | true => match leastN c.r.form o.ck != 0 with
    | true => some (pOE O3.zero (leastN c.r.form o.ck))
    | false => some (fRetell c c.r.invF o)
  | false => match leastN c.r.form 0 != 0 with
    | true => some (pOE O3.zero (leastN c.r.form 0))
    | false => some (fRetell c c.r.invF o)
theorem invF_form {m : M3} (h : m.form = 0) : m.invF = m.inv := by unfold M3.invF; rw [h]; rfl
theorem tBOp_eq (c o : O3) : tBOp c o = some (fBOp c o) := by
  unfold tBOp fBOp O3.opcF O3.opcE
  by_cases h : leastN c.r.form o.ck = 0
  · obtain ⟨hc, ho⟩ := leastN_zero.1 h
    rw [h, ho, hc, invF_form hc, retell_eq hc ho]
    rfl
  · by_cases ho : o.ck = 0
    · rw [ho] at h ⊢
      rw [(bif_beq h).1, (bif_beq h).2]; rfl
    · rw [(bif_beq ho).2, (bif_beq h).1, (bif_beq h).2]; rfl
def idxT (x : Int) (l : List (Bool × List Int)) : List (Bool × List Int) := (decide (x < -512), [0, 0, 0, 1]) :: (decide (x > 512), [0, 0, 0, 1]) :: l
def tIndex (c : O3) (h : V3) : Option Value :=
  chainO mkVe (idxT h.x (idxT h.y (idxT h.z [(c.r.form != 0, [0, 0, 0, c.r.form])]))) [(M3.left h c.r.invF).w.x, (M3.left h c.r.invF).w.y, (M3.left h c.r.invF).w.z, 0]
theorem V3.idx_iff {h : V3} : h.idx = true ↔ h.Bd 512 := by
  unfold V3.idx V3.l V3.Bd
  rw [inB_iff]
  simp only [List.mem_cons, List.not_mem_nil, or_false, forall_eq_or_imp, forall_eq]
theorem left_w {h : V3} {m : M3} {k l : Int} (hh : h.Bd k) (hm : m.Bd l) (hk : 3 * (k * l) ≤ 9000000000000000000) : (M3.left h m).w = M3.left h m := by
  obtain ⟨a, b, c, d, e, f, g, h', i⟩ := hm
  obtain ⟨x, y, z⟩ := hh
  have h1 := dot_bd x y z a d g
  have h2 := dot_bd x y z b e h'
  have h3 := dot_bd x y z c f i
  apply V3.w_eq
  unfold V3.Bd M3.left
  simp only
  omega
theorem idx_chain (h : V3) (t : List (Bool × List Int)) (d : List Int) : chainL (idxT h.x (idxT h.y (idxT h.z t))) d = bif h.idx then chainL t d else [0, 0, 0, 1] := by
  have key : h.idx = (!(decide (h.x < -512)) && (!(decide (h.x > 512)) && (!(decide (h.y < -512)) && (!(decide (h.y > 512)) && (!(decide (h.z < -512)) && !(decide (h.z > 512))))))) := by
    rw [Bool.eq_iff_iff, V3.idx_iff]
    unfold V3.Bd
    simp only [Bool.and_eq_true, Bool.not_eq_true', decide_eq_false_iff_not]
    omega
  rw [key]
  unfold idxT
  cases decide (h.x < -512) <;> cases decide (h.x > 512) <;> cases decide (h.y < -512) <;> cases decide (h.y > 512) <;> cases decide (h.z < -512) <;> cases decide (h.z > 512) <;> rfl
theorem idx_left {c : O3} {h : V3} (hi : h.idx = true) (hc : c.r.form = 0) : (M3.left h c.r.inv).w = M3.left h c.r.inv := by
  obtain ⟨c1, c2⟩ := M3.form_zero.1 hc
  exact left_w (V3.idx_iff.1 hi) ((M3.ok_iff.1 c1).inv c2) (by omega)
theorem tIndex_eq (c : O3) (h : V3) : tIndex c h = some (fIndex c h) := by
  unfold tIndex fIndex O3.idxF O3.idxE
  rw [chain_eq, idx_chain]
  cases hi : h.idx with
  | false => rfl
  | true =>
    simp only [cond_true]
    by_cases hc : c.r.form = 0
    · rw [hc, invF_form hc, idx_left hi hc]; rfl
    · rw [(bif_beq hc).1]
      simp only [chainL, (bif_beq hc).2]
      rfl
def tMetric (c : O3) (m : G6) : Option Value :=
  match m.ck != 0 with
  | true => some (pGE G6.zero m.ck)
  | false => match c.r.form != 0 with
    | true => some (pGE G6.zero c.r.form)
    | false => some (pGE (G6.of ((((c.r.flipF.invF.mul m.mat).w).mul c.r.invF).w)) 0)
theorem M3.T_det (m : M3) : m.T.det = m.det := by unfold M3.T M3.det; grind
theorem M3.T_ok {m : M3} (h : m.ok = true) : m.T.ok = true := by
  rw [M3.ok_iff] at *; unfold M3.Bd M3.T at *; simp only; omega
theorem M3.T_inv (m : M3) : m.T.inv = m.inv.T := by
  unfold M3.inv
  rw [M3.T_det]
  refine M3.ext' ⟨?_, ?_, ?_, ?_, ?_, ?_, ?_, ?_, ?_⟩ <;> (simp only [M3.smul, M3.adj, M3.T]; grind)
theorem M3.Bd.T {m : M3} {k : Int} (h : m.Bd k) : m.T.Bd k := by unfold M3.Bd M3.T at *; simp only; omega
theorem flip_inv {m : M3} (h : m.form = 0) : m.flipF.invF = m.inv.T := by
  obtain ⟨h1, h2⟩ := M3.form_zero.1 h
  have e : m.flipF = m.T := by unfold M3.flipF; rw [h1]; rfl
  rw [e, invF_form, M3.T_inv]
  exact M3.form_zero.2 ⟨M3.T_ok h1, by unfold M3.U at *; rw [M3.T_det]; exact h2⟩
theorem G6.mat_bd {m : G6} (h : m.Bd) : m.mat.Bd 100000 := by unfold G6.Bd at h; unfold G6.mat M3.Bd; simp only; omega
theorem tMetric_eq (c : O3) (m : G6) : tMetric c m = some (fMetric c m) := by
  unfold tMetric fMetric O3.metF O3.metE
  by_cases hm : m.ck = 0
  · rw [hm]
    by_cases hc : c.r.form = 0
    · obtain ⟨c1, c2⟩ := M3.form_zero.1 hc
      have hi := (M3.ok_iff.1 c1).inv c2
      have h1 := hi.T.mul (G6.mat_bd (G6.ck_zero hm))
      have h2 := h1.mul hi
      rw [hc, flip_inv hc, invF_form hc, M3.w_eq (h1.mono (by omega)), M3.w_eq (h2.mono (by omega))]
      rfl
    · simp only [bne_self_eq_false, beq_self_eq_true, cond_true]
      rw [(bif_beq hc).1, (bif_beq hc).2]; rfl
  · rw [(bif_beq hm).1, (bif_beq hm).2]
    simp only [cond_false]
    rw [(bif_beq hm).1]; rfl
end Go.Proofs.Ytofblakbfmjgkaa.Vx


namespace Go.Proofs.Ytofblakbfmjgkaa.Vx
open Go

def G6.dot (m : G6) (u v : V3) : Int := m.aa * u.x * v.x + m.bb * u.y * v.y + m.cc * u.z * v.z + m.bc * (u.y * v.z + u.z * v.y) + m.ac * (u.x * v.z + u.z * v.x) + m.ab * (u.x * v.y + u.y * v.x)
def G6.two (m : G6) : Int := m.aa * m.bb - m.ab * m.ab
def G6.det (m : G6) : Int := m.aa * m.bb * m.cc + 2 * m.bc * m.ac * m.ab - m.aa * m.bc * m.bc - m.bb * m.ac * m.ac - m.cc * m.ab * m.ab
def G6.Pos (m : G6) : Prop := ∀ v : V3, v ≠ V3.zero → 0 < m.dot v v
theorem G6.ext' {m n : G6} (h : m.aa = n.aa ∧ m.bb = n.bb ∧ m.cc = n.cc ∧ m.bc = n.bc ∧ m.ac = n.ac ∧ m.ab = n.ab) : m = n := by
  cases m; cases n; simp only [G6.mk.injEq]; exact h

theorem sqn (x : Int) : 0 ≤ x * x := by
  rcases Int.le_total 0 x with h | h
  · exact Int.mul_nonneg h h
  · exact Int.mul_nonneg_of_nonpos_of_nonpos h h
theorem sqp {x : Int} (h : x ≠ 0) : 0 < x * x := by
  have := sqn x
  have h2 : x * x ≠ 0 := fun e => by rcases Int.mul_eq_zero.1 e with e | e <;> exact h e
  omega
theorem pos_of_mul {a b : Int} (ha : 0 < a) (h : 0 < a * b) : 0 < b :=
  Int.lt_of_mul_lt_mul_left (a := a) (by rw [Int.mul_zero]; exact h) (Int.le_of_lt ha)
theorem V3.zero_iff {v : V3} : v = V3.zero ↔ v.x = 0 ∧ v.y = 0 ∧ v.z = 0 := by
  cases v; simp [V3.zero]

theorem dot_key (m : G6) (v : V3) : m.aa * m.two * m.dot v v =
    m.two * ((m.aa * v.x + m.ab * v.y + m.ac * v.z) * (m.aa * v.x + m.ab * v.y + m.ac * v.z)) + (m.two * v.y + (m.aa * m.bc - m.ab * m.ac) * v.z) * (m.two * v.y + (m.aa * m.bc - m.ab * m.ac) * v.z) + m.aa * m.det * (v.z * v.z) := by
  unfold G6.dot G6.two G6.det; grind
theorem pos_of_syl {m : G6} (h1 : 0 < m.aa) (h2 : 0 < m.two) (h3 : 0 < m.det) : m.Pos := fun v hv => by
  have key := dot_key m v
  refine pos_of_mul (Int.mul_pos h1 h2) ?_
  rw [key]
  have a1 := Int.mul_nonneg (Int.le_of_lt h2) (sqn (m.aa * v.x + m.ab * v.y + m.ac * v.z))
  have a2 := sqn (m.two * v.y + (m.aa * m.bc - m.ab * m.ac) * v.z)
  have a3 := Int.mul_nonneg (Int.le_of_lt (Int.mul_pos h1 h3)) (sqn v.z)
  by_cases hz : v.z = 0
  · by_cases hy : v.y = 0
    · have hx : v.x ≠ 0 := fun e => hv (V3.zero_iff.2 ⟨e, hy, hz⟩)
      have : m.aa * v.x + m.ab * v.y + m.ac * v.z ≠ 0 := by
        rw [hy, hz]
        simp only [Int.mul_zero, Int.add_zero]
        exact Int.mul_ne_zero (by omega) hx
      have := Int.mul_pos h2 (sqp this)
      omega
    · have : m.two * v.y + (m.aa * m.bc - m.ab * m.ac) * v.z ≠ 0 := by
        rw [hz]
        simp only [Int.mul_zero, Int.add_zero]
        exact Int.mul_ne_zero (by omega) hy
      have := sqp this
      omega
  · have := Int.mul_pos (Int.mul_pos h1 h3) (sqp hz)
    omega
theorem G6.Pos.aa {m : G6} (h : m.Pos) : 0 < m.aa := by
  have := h ⟨1, 0, 0⟩ (by simp [V3.zero_iff])
  simpa [G6.dot] using this
theorem G6.Pos.bb {m : G6} (h : m.Pos) : 0 < m.bb := by
  have := h ⟨0, 1, 0⟩ (by simp [V3.zero_iff])
  simpa [G6.dot] using this
theorem G6.Pos.cc {m : G6} (h : m.Pos) : 0 < m.cc := by
  have := h ⟨0, 0, 1⟩ (by simp [V3.zero_iff])
  simpa [G6.dot] using this
theorem G6.Pos.two {m : G6} (h : m.Pos) : 0 < m.two := by
  have ha := G6.Pos.aa h
  have := h ⟨-m.ab, m.aa, 0⟩ (by simp [V3.zero_iff]; omega)
  rw [show m.dot ⟨-m.ab, m.aa, 0⟩ ⟨-m.ab, m.aa, 0⟩ = m.aa * m.two by unfold G6.dot G6.two; grind] at this
  exact pos_of_mul ha this
theorem G6.Pos.det {m : G6} (h : m.Pos) : 0 < m.det := by
  have ha := G6.Pos.two h
  have := h ⟨m.ab * m.bc - m.ac * m.bb, m.ab * m.ac - m.aa * m.bc, m.two⟩ (by simp [V3.zero_iff]; omega)
  rw [show m.dot ⟨m.ab * m.bc - m.ac * m.bb, m.ab * m.ac - m.aa * m.bc, m.two⟩ ⟨m.ab * m.bc - m.ac * m.bb, m.ab * m.ac - m.aa * m.bc, m.two⟩ = m.two * m.det by unfold G6.dot G6.two G6.det; grind] at this
  exact pos_of_mul ha this
theorem pos_iff {m : G6} : m.Pos ↔ 0 < m.aa ∧ 0 < m.two ∧ 0 < m.det := ⟨fun h => ⟨G6.Pos.aa h, G6.Pos.two h, G6.Pos.det h⟩, fun ⟨a, b, c⟩ => pos_of_syl a b c⟩
theorem dot_zero (m : G6) : m.dot V3.zero V3.zero = 0 := by simp [G6.dot, V3.zero]
theorem G6.Pos.nn {m : G6} (h : m.Pos) (v : V3) : 0 ≤ m.dot v v := by
  by_cases hv : v = V3.zero
  · rw [hv, dot_zero]; omega
  · exact Int.le_of_lt (h v hv)
theorem dot_comm (m : G6) (u v : V3) : m.dot u v = m.dot v u := by unfold G6.dot; grind
def V3.sub (u v : V3) : V3 := ⟨u.x - v.x, u.y - v.y, u.z - v.z⟩
theorem dot_addadd (m : G6) (u v : V3) : m.dot (u.add v) (u.add v) = m.dot u u + m.dot v v + 2 * m.dot u v := by unfold G6.dot V3.add; grind
theorem dot_subsub (m : G6) (u v : V3) : m.dot (u.sub v) (u.sub v) = m.dot u u + m.dot v v - 2 * m.dot u v := by unfold G6.dot V3.sub; grind
/-- Twice a product lies within the sum of the squares. -/
theorem G6.Pos.within {m : G6} (h : m.Pos) (u v : V3) : 2 * m.dot u v ≤ m.dot u u + m.dot v v ∧ -(m.dot u u + m.dot v v) ≤ 2 * m.dot u v := by
  have h1 := h.nn (u.add v)
  have h2 := h.nn (u.sub v)
  rw [dot_addadd] at h1
  rw [dot_subsub] at h2
  omega
/-- Cauchy and Schwarz. -/
theorem G6.Pos.cs {m : G6} (h : m.Pos) (u v : V3) : m.dot u v * m.dot u v ≤ m.dot u u * m.dot v v := by
  by_cases hu : u = V3.zero
  · subst hu
    rw [dot_zero, show m.dot V3.zero v = 0 by simp [G6.dot, V3.zero]]; omega
  · have hp := h u hu
    have := h.nn ⟨m.dot u u * v.x - m.dot u v * u.x, m.dot u u * v.y - m.dot u v * u.y, m.dot u u * v.z - m.dot u v * u.z⟩
    rw [show m.dot ⟨m.dot u u * v.x - m.dot u v * u.x, m.dot u u * v.y - m.dot u v * u.y, m.dot u u * v.z - m.dot u v * u.z⟩ ⟨m.dot u u * v.x - m.dot u v * u.x, m.dot u u * v.y - m.dot u v * u.y, m.dot u u * v.z - m.dot u v * u.z⟩ = m.dot u u * (m.dot u u * m.dot v v - m.dot u v * m.dot u v) by
      have e : ∀ a b : Int, m.dot ⟨a * v.x - b * u.x, a * v.y - b * u.y, a * v.z - b * u.z⟩ ⟨a * v.x - b * u.x, a * v.y - b * u.y, a * v.z - b * u.z⟩ = a * a * m.dot v v - 2 * a * b * m.dot u v + b * b * m.dot u u := by intro a b; unfold G6.dot; grind
      rw [e]; grind] at this
    by_cases hn : m.dot u u * m.dot v v - m.dot u v * m.dot u v < 0
    · have := Int.mul_neg_of_pos_of_neg hp hn
      omega
    · omega

/-! Edges told by a matrix -/
def M3.c1 (p : M3) : V3 := ⟨p.a, p.d, p.g⟩
def M3.c2 (p : M3) : V3 := ⟨p.b, p.e, p.h⟩
def M3.c3 (p : M3) : V3 := ⟨p.c, p.f, p.i⟩
def G6.turn (m : G6) (p : M3) : G6 := ⟨m.dot p.c1 p.c1, m.dot p.c2 p.c2, m.dot p.c3 p.c3, m.dot p.c2 p.c3, m.dot p.c1 p.c3, m.dot p.c1 p.c2⟩
theorem dot_turn (m : G6) (p : M3) (u v : V3) : (m.turn p).dot u v = m.dot (p.app u) (p.app v) := by
  unfold G6.turn G6.dot M3.c1 M3.c2 M3.c3 M3.app; grind
theorem turn_of (m : G6) (p : M3) : G6.of (p.T.mul (m.mat.mul p)) = m.turn p := by
  refine G6.ext' ⟨?_, ?_, ?_, ?_, ?_, ?_⟩ <;> (simp only [G6.of, G6.turn, G6.dot, M3.c1, M3.c2, M3.c3, M3.T, M3.mul, G6.mat]; grind)
theorem turn_mul (m : G6) (p q : M3) : (m.turn p).turn q = m.turn (p.mul q) := by
  have e : ∀ u v, (m.turn p).dot u v = m.dot (p.app u) (p.app v) := dot_turn m p
  have c1 : p.app q.c1 = (p.mul q).c1 := rfl
  have c2 : p.app q.c2 = (p.mul q).c2 := rfl
  have c3 : p.app q.c3 = (p.mul q).c3 := rfl
  rw [show (m.turn p).turn q = ⟨(m.turn p).dot q.c1 q.c1, (m.turn p).dot q.c2 q.c2, (m.turn p).dot q.c3 q.c3, (m.turn p).dot q.c2 q.c3, (m.turn p).dot q.c1 q.c3, (m.turn p).dot q.c1 q.c2⟩ from rfl]
  simp only [e, c1, c2, c3]
  rfl
theorem turn_one (m : G6) : m.turn M3.one = m := by
  refine G6.ext' ⟨?_, ?_, ?_, ?_, ?_, ?_⟩ <;> simp [G6.turn, G6.dot, M3.c1, M3.c2, M3.c3, M3.one]
theorem det_mat (m : G6) : m.mat.det = m.det := by unfold G6.mat M3.det G6.det; grind
theorem mat_turn (m : G6) (p : M3) : (m.turn p).mat = p.T.mul (m.mat.mul p) := by
  refine M3.ext' ⟨?_, ?_, ?_, ?_, ?_, ?_, ?_, ?_, ?_⟩ <;> (simp only [G6.mat, G6.turn, G6.dot, M3.c1, M3.c2, M3.c3, M3.T, M3.mul]; grind)
theorem turn_det (m : G6) (p : M3) : (m.turn p).det = m.det * (p.det * p.det) := by
  rw [← det_mat, mat_turn, M3.det_mul, M3.det_mul, det_mat, M3.T_det]; grind
theorem app_inj {p : M3} (hd : p.det ≠ 0) {v : V3} (h : p.app v = V3.zero) : v = V3.zero := by
  have e : p.adj.app (p.app v) = ⟨p.det * v.x, p.det * v.y, p.det * v.z⟩ := by
    refine V3.ext' ⟨?_, ?_, ?_⟩ <;> (simp only [M3.app, M3.adj, M3.det]; grind)
  rw [h] at e
  have z : p.adj.app V3.zero = V3.zero := by simp [M3.app, V3.zero]
  rw [z] at e
  simp only [V3.zero, V3.mk.injEq] at e
  refine V3.zero_iff.2 ⟨?_, ?_, ?_⟩
  · exact (Int.mul_eq_zero.1 e.1.symm).resolve_left hd
  · exact (Int.mul_eq_zero.1 e.2.1.symm).resolve_left hd
  · exact (Int.mul_eq_zero.1 e.2.2.symm).resolve_left hd
theorem G6.Pos.turn {m : G6} (h : m.Pos) {p : M3} (hd : p.det ≠ 0) : (m.turn p).Pos := fun v hv => by
  rw [dot_turn]
  exact h _ fun e => hv (app_inj hd e)

/-! The four edges -/
def G6.ad (m : G6) : Int := -m.aa - m.ab - m.ac
def G6.bd (m : G6) : Int := -m.ab - m.bb - m.bc
def G6.cd (m : G6) : Int := -m.ac - m.bc - m.cc
/-- The sum of the four squares. -/
def G6.sq4 (m : G6) : Int := 2 * (m.aa + m.bb + m.cc) + 2 * (m.ab + m.ac + m.bc)
def stp0 : M3 := ⟨1, 0, 0, 1, -1, 0, 0, 0, 1⟩
def stp1 : M3 := ⟨-1, 1, 0, 0, 1, 0, 0, 0, 1⟩
def stp2 : M3 := ⟨-1, 0, 1, 0, 1, 0, 0, 0, 1⟩
def stp3 : M3 := ⟨-1, 1, 1, 0, 1, 0, 0, 0, 1⟩
def stp4 : M3 := ⟨1, 0, 0, 1, -1, 1, 0, 0, 1⟩
def stp5 : M3 := ⟨1, 0, 0, 0, 1, 0, 1, 1, -1⟩
/-- The product of the first sharp pair, and the matrix of its step; none: 0 and the identity. -/
def G6.sharp (m : G6) : Int × M3 :=
  bif decide (m.bc > 0) then (m.bc, stp0) else bif decide (m.ac > 0) then (m.ac, stp1) else bif decide (m.ab > 0) then (m.ab, stp2) else
  bif decide (m.ad > 0) then (m.ad, stp3) else bif decide (m.bd > 0) then (m.bd, stp4) else bif decide (m.cd > 0) then (m.cd, stp5) else (0, M3.one)
def G6.Obt (m : G6) : Prop := m.bc ≤ 0 ∧ m.ac ≤ 0 ∧ m.ab ≤ 0 ∧ m.ad ≤ 0 ∧ m.bd ≤ 0 ∧ m.cd ≤ 0
theorem sharp_cases (m : G6) : (m.sharp = (0, M3.one) ∧ m.Obt) ∨ (0 < m.sharp.1 ∧ ((m.sharp.1 = m.bc ∧ m.sharp.2 = stp0) ∨ (m.sharp.1 = m.ac ∧ m.sharp.2 = stp1) ∨ (m.sharp.1 = m.ab ∧ m.sharp.2 = stp2) ∨ (m.sharp.1 = m.ad ∧ m.sharp.2 = stp3) ∨ (m.sharp.1 = m.bd ∧ m.sharp.2 = stp4) ∨ (m.sharp.1 = m.cd ∧ m.sharp.2 = stp5))) := by
  unfold G6.sharp G6.Obt
  cases h0 : decide (m.bc > 0) with
  | true => exact Or.inr ⟨of_decide_eq_true h0, Or.inl ⟨rfl, rfl⟩⟩
  | false =>
    cases h1 : decide (m.ac > 0) with
    | true => exact Or.inr ⟨of_decide_eq_true h1, Or.inr (Or.inl ⟨rfl, rfl⟩)⟩
    | false =>
      cases h2 : decide (m.ab > 0) with
      | true => exact Or.inr ⟨of_decide_eq_true h2, Or.inr (Or.inr (Or.inl ⟨rfl, rfl⟩))⟩
      | false =>
        cases h3 : decide (m.ad > 0) with
        | true => exact Or.inr ⟨of_decide_eq_true h3, Or.inr (Or.inr (Or.inr (Or.inl ⟨rfl, rfl⟩)))⟩
        | false =>
          cases h4 : decide (m.bd > 0) with
          | true => exact Or.inr ⟨of_decide_eq_true h4, Or.inr (Or.inr (Or.inr (Or.inr (Or.inl ⟨rfl, rfl⟩))))⟩
          | false =>
            cases h5 : decide (m.cd > 0) with
            | true => exact Or.inr ⟨of_decide_eq_true h5, Or.inr (Or.inr (Or.inr (Or.inr (Or.inr (⟨rfl, rfl⟩)))))⟩
            | false =>
              exact Or.inl ⟨rfl, Int.not_lt.1 (of_decide_eq_false h0), Int.not_lt.1 (of_decide_eq_false h1), Int.not_lt.1 (of_decide_eq_false h2), Int.not_lt.1 (of_decide_eq_false h3), Int.not_lt.1 (of_decide_eq_false h4), Int.not_lt.1 (of_decide_eq_false h5)⟩
def G6.next (m : G6) : G6 := m.turn m.sharp.2
theorem sq4_next (m : G6) : m.next.sq4 = m.sq4 - 2 * m.sharp.1 := by
  unfold G6.next
  rcases sharp_cases m with ⟨h, _⟩ | ⟨_, h⟩
  · rw [h, turn_one]; omega
  · rcases h with ⟨h1, h2⟩ | ⟨h1, h2⟩ | ⟨h1, h2⟩ | ⟨h1, h2⟩ | ⟨h1, h2⟩ | ⟨h1, h2⟩ <;> rw [h1, h2] <;>
      (simp only [G6.sq4, G6.turn, G6.dot, M3.c1, M3.c2, M3.c3, stp0, stp1, stp2, stp3, stp4, stp5, G6.ad, G6.bd, G6.cd]; grind)
theorem sharp_det (m : G6) (h : 0 < m.sharp.1) : m.sharp.2.det = -1 := by
  rcases sharp_cases m with ⟨e, _⟩ | ⟨_, e⟩
  · rw [e] at h; exact absurd h (by decide)
  · rcases e with ⟨_, e⟩ | ⟨_, e⟩ | ⟨_, e⟩ | ⟨_, e⟩ | ⟨_, e⟩ | ⟨_, e⟩ <;> rw [e] <;> decide
theorem sq4_squares (m : G6) : m.sq4 = m.dot ⟨1, 0, 0⟩ ⟨1, 0, 0⟩ + m.dot ⟨0, 1, 0⟩ ⟨0, 1, 0⟩ + m.dot ⟨0, 0, 1⟩ ⟨0, 0, 1⟩ + m.dot ⟨-1, -1, -1⟩ ⟨-1, -1, -1⟩ := by
  unfold G6.sq4 G6.dot; simp only; grind
theorem G6.Pos.sq4 {m : G6} (h : m.Pos) : 0 < m.sq4 := by
  rw [sq4_squares]
  have h1 := h ⟨1, 0, 0⟩ (by simp [V3.zero_iff])
  have h2 := h.nn ⟨0, 1, 0⟩
  have h3 := h.nn ⟨0, 0, 1⟩
  have h4 := h.nn ⟨-1, -1, -1⟩
  omega
/-- All entries of a metric lie within the sum of the four squares. -/
theorem G6.Pos.entries {m : G6} (h : m.Pos) : (0 < m.aa ∧ m.aa ≤ m.sq4) ∧ (0 < m.bb ∧ m.bb ≤ m.sq4) ∧ (0 < m.cc ∧ m.cc ≤ m.sq4) ∧ (-m.sq4 ≤ m.bc ∧ m.bc ≤ m.sq4) ∧ (-m.sq4 ≤ m.ac ∧ m.ac ≤ m.sq4) ∧ (-m.sq4 ≤ m.ab ∧ m.ab ≤ m.sq4) := by
  have e1 : m.dot ⟨1, 0, 0⟩ ⟨1, 0, 0⟩ = m.aa := by simp [G6.dot]
  have e2 : m.dot ⟨0, 1, 0⟩ ⟨0, 1, 0⟩ = m.bb := by simp [G6.dot]
  have e3 : m.dot ⟨0, 0, 1⟩ ⟨0, 0, 1⟩ = m.cc := by simp [G6.dot]
  have e4 : m.dot ⟨0, 1, 0⟩ ⟨0, 0, 1⟩ = m.bc := by simp [G6.dot]
  have e5 : m.dot ⟨1, 0, 0⟩ ⟨0, 0, 1⟩ = m.ac := by simp [G6.dot]
  have e6 : m.dot ⟨1, 0, 0⟩ ⟨0, 1, 0⟩ = m.ab := by simp [G6.dot]
  have s := sq4_squares m
  have h4 := h.nn ⟨-1, -1, -1⟩
  have a := G6.Pos.aa h
  have b := G6.Pos.bb h
  have c := G6.Pos.cc h
  have w1 := h.within ⟨0, 1, 0⟩ ⟨0, 0, 1⟩
  have w2 := h.within ⟨1, 0, 0⟩ ⟨0, 0, 1⟩
  have w3 := h.within ⟨1, 0, 0⟩ ⟨0, 1, 0⟩
  rw [e1, e2, e3] at s
  rw [e2, e3, e4] at w1
  rw [e1, e3, e5] at w2
  rw [e1, e2, e6] at w3
  omega

/-! All steps -/
def G6.walk : Nat → G6 → M3 → Int → G6 × M3 × Int
  | 0, m, p, n => (m, p, n)
  | k + 1, m, p, n => bif decide (m.sharp.1 > 0) then G6.walk k m.next (p.mul m.sharp.2) (n + 1) else (m, p, n)
/-- As many steps as the sum of the squares has twos. -/
def G6.fin (m : G6) : G6 × M3 × Int := G6.walk m.sq4.toNat m M3.one 0
theorem G6.Pos.next {m : G6} (h : m.Pos) : m.next.Pos := by
  unfold G6.next
  rcases sharp_cases m with ⟨e, _⟩ | ⟨hp, _⟩
  · rw [e, turn_one]; exact h
  · exact h.turn (by rw [sharp_det m hp]; decide)
theorem walk_stop {m : G6} (h : ¬ m.sharp.1 > 0) : ∀ k p n, G6.walk k m p n = (m, p, n)
  | 0, _, _ => rfl
  | k + 1, p, n => by simp only [G6.walk, h, decide_false, cond_false]
theorem walk_more {m : G6} (hp : m.Pos) : ∀ (k j : Nat) (p : M3) (n : Int), m.sq4 ≤ (k : Int) → k ≤ j → G6.walk j m p n = G6.walk k m p n := by
  intro k
  induction k generalizing m with
  | zero => intro j p n hk _; have := G6.Pos.sq4 hp; omega
  | succ k ih =>
    intro j p n hk hj
    obtain ⟨j, rfl⟩ : ∃ i, j = i + 1 := ⟨j - 1, by omega⟩
    simp only [G6.walk]
    by_cases hs : m.sharp.1 > 0
    · simp only [hs, decide_true, cond_true]
      exact ih hp.next j _ _ (by rw [sq4_next]; omega) (by omega)
    · simp only [hs, decide_false, cond_false]
/-- A step, and the walk from there. -/
theorem fin_step {m : G6} (hp : m.Pos) (p : M3) (n : Int) (hs : m.sharp.1 > 0) : G6.walk m.sq4.toNat m p n = G6.walk m.next.sq4.toNat m.next (p.mul m.sharp.2) (n + 1) := by
  have h0 := G6.Pos.sq4 hp
  have h1 := G6.Pos.sq4 hp.next
  have e := sq4_next m
  obtain ⟨k, hk⟩ : ∃ k, m.sq4.toNat = k + 1 := ⟨m.sq4.toNat - 1, by omega⟩
  rw [hk]
  simp only [G6.walk, hs, decide_true, cond_true]
  exact walk_more hp.next _ _ _ _ (by omega) (by omega)
end Go.Proofs.Ytofblakbfmjgkaa.Vx
