/-
  Which powers of a matrix of whole numbers are the identity: by its trace, the trace of its adjugate, and its determinant. Nothing here is trusted.
-/
import Derived.Test.YtjpfnfckpgilgaaKae
import Derived.Test.YtjpfnfckpgilgaaKaf

namespace Go.Proofs.Ytjpfnfckpgilgaa
open Go Vx

/-- What holds of a matrix m, its square p and its adjugate c. -/
structure Alg (m0 m1 m2 m3 m4 m5 m6 m7 m8 p0 p1 p2 p3 p4 p5 p6 p7 p8 c0 c1 c2 c3 c4 c5 c6 c7 c8 t s D : Int) : Prop where
  tr : t = m0 + m4 + m8
  sq0 : p0 = m0 * m0 + m1 * m3 + m2 * m6
  sq1 : p1 = m0 * m1 + m1 * m4 + m2 * m7
  sq2 : p2 = m0 * m2 + m1 * m5 + m2 * m8
  sq3 : p3 = m3 * m0 + m4 * m3 + m5 * m6
  sq4 : p4 = m3 * m1 + m4 * m4 + m5 * m7
  sq5 : p5 = m3 * m2 + m4 * m5 + m5 * m8
  sq6 : p6 = m6 * m0 + m7 * m3 + m8 * m6
  sq7 : p7 = m6 * m1 + m7 * m4 + m8 * m7
  sq8 : p8 = m6 * m2 + m7 * m5 + m8 * m8
  ch0 : c0 = p0 - t * m0 + s * 1
  ch1 : c1 = p1 - t * m1 + s * 0
  ch2 : c2 = p2 - t * m2 + s * 0
  ch3 : c3 = p3 - t * m3 + s * 0
  ch4 : c4 = p4 - t * m4 + s * 1
  ch5 : c5 = p5 - t * m5 + s * 0
  ch6 : c6 = p6 - t * m6 + s * 0
  ch7 : c7 = p7 - t * m7 + s * 0
  ch8 : c8 = p8 - t * m8 + s * 1
  cp0 : c0 * p0 + c1 * p3 + c2 * p6 = D * m0
  cp1 : c0 * p1 + c1 * p4 + c2 * p7 = D * m1
  cp2 : c0 * p2 + c1 * p5 + c2 * p8 = D * m2
  cp3 : c3 * p0 + c4 * p3 + c5 * p6 = D * m3
  cp4 : c3 * p1 + c4 * p4 + c5 * p7 = D * m4
  cp5 : c3 * p2 + c4 * p5 + c5 * p8 = D * m5
  cp6 : c6 * p0 + c7 * p3 + c8 * p6 = D * m6
  cp7 : c6 * p1 + c7 * p4 + c8 * p7 = D * m7
  cp8 : c6 * p2 + c7 * p5 + c8 * p8 = D * m8
  mc0 : m0 * c0 + m1 * c3 + m2 * c6 = D * 1
  mc1 : m0 * c1 + m1 * c4 + m2 * c7 = D * 0
  mc2 : m0 * c2 + m1 * c5 + m2 * c8 = D * 0
  mc3 : m3 * c0 + m4 * c3 + m5 * c6 = D * 0
  mc4 : m3 * c1 + m4 * c4 + m5 * c7 = D * 1
  mc5 : m3 * c2 + m4 * c5 + m5 * c8 = D * 0
  mc6 : m6 * c0 + m7 * c3 + m8 * c6 = D * 0
  mc7 : m6 * c1 + m7 * c4 + m8 * c7 = D * 0
  mc8 : m6 * c2 + m7 * c5 + m8 * c8 = D * 1
  mp0 : m0 * p0 + m1 * p3 + m2 * p6 = t * p0 - s * m0 + D * 1
  mp1 : m0 * p1 + m1 * p4 + m2 * p7 = t * p1 - s * m1 + D * 0
  mp2 : m0 * p2 + m1 * p5 + m2 * p8 = t * p2 - s * m2 + D * 0
  mp3 : m3 * p0 + m4 * p3 + m5 * p6 = t * p3 - s * m3 + D * 0
  mp4 : m3 * p1 + m4 * p4 + m5 * p7 = t * p4 - s * m4 + D * 1
  mp5 : m3 * p2 + m4 * p5 + m5 * p8 = t * p5 - s * m5 + D * 0
  mp6 : m6 * p0 + m7 * p3 + m8 * p6 = t * p6 - s * m6 + D * 0
  mp7 : m6 * p1 + m7 * p4 + m8 * p7 = t * p7 - s * m7 + D * 0
  mp8 : m6 * p2 + m7 * p5 + m8 * p8 = t * p8 - s * m8 + D * 1
  pp0 : p0 * p0 + p1 * p3 + p2 * p6 = (t * t - s) * p0 + (D - t * s) * m0 + t * D * 1
  pp1 : p0 * p1 + p1 * p4 + p2 * p7 = (t * t - s) * p1 + (D - t * s) * m1 + t * D * 0
  pp2 : p0 * p2 + p1 * p5 + p2 * p8 = (t * t - s) * p2 + (D - t * s) * m2 + t * D * 0
  pp3 : p3 * p0 + p4 * p3 + p5 * p6 = (t * t - s) * p3 + (D - t * s) * m3 + t * D * 0
  pp4 : p3 * p1 + p4 * p4 + p5 * p7 = (t * t - s) * p4 + (D - t * s) * m4 + t * D * 1
  pp5 : p3 * p2 + p4 * p5 + p5 * p8 = (t * t - s) * p5 + (D - t * s) * m5 + t * D * 0
  pp6 : p6 * p0 + p7 * p3 + p8 * p6 = (t * t - s) * p6 + (D - t * s) * m6 + t * D * 0
  pp7 : p6 * p1 + p7 * p4 + p8 * p7 = (t * t - s) * p7 + (D - t * s) * m7 + t * D * 0
  pp8 : p6 * p2 + p7 * p5 + p8 * p8 = (t * t - s) * p8 + (D - t * s) * m8 + t * D * 1
  cc0 : c0 * c0 + c1 * c3 + c2 * c6 = s * p0 + (D - s * t) * m0 + (s * s - D * t) * 1
  cc1 : c0 * c1 + c1 * c4 + c2 * c7 = s * p1 + (D - s * t) * m1 + (s * s - D * t) * 0
  cc2 : c0 * c2 + c1 * c5 + c2 * c8 = s * p2 + (D - s * t) * m2 + (s * s - D * t) * 0
  cc3 : c3 * c0 + c4 * c3 + c5 * c6 = s * p3 + (D - s * t) * m3 + (s * s - D * t) * 0
  cc4 : c3 * c1 + c4 * c4 + c5 * c7 = s * p4 + (D - s * t) * m4 + (s * s - D * t) * 1
  cc5 : c3 * c2 + c4 * c5 + c5 * c8 = s * p5 + (D - s * t) * m5 + (s * s - D * t) * 0
  cc6 : c6 * c0 + c7 * c3 + c8 * c6 = s * p6 + (D - s * t) * m6 + (s * s - D * t) * 0
  cc7 : c6 * c1 + c7 * c4 + c8 * c7 = s * p7 + (D - s * t) * m7 + (s * s - D * t) * 0
  cc8 : c6 * c2 + c7 * c5 + c8 * c8 = s * p8 + (D - s * t) * m8 + (s * s - D * t) * 1
  t2 : p0 + p4 + p8 = t * t - 2 * s
  dp : det p0 p1 p2 p3 p4 p5 p6 p7 p8 = D * D
  dm : D = det m0 m1 m2 m3 m4 m5 m6 m7 m8

theorem alg (m0 m1 m2 m3 m4 m5 m6 m7 m8 : Int) : Alg m0 m1 m2 m3 m4 m5 m6 m7 m8 (m0 * m0 + m1 * m3 + m2 * m6) (m0 * m1 + m1 * m4 + m2 * m7) (m0 * m2 + m1 * m5 + m2 * m8) (m3 * m0 + m4 * m3 + m5 * m6) (m3 * m1 + m4 * m4 + m5 * m7) (m3 * m2 + m4 * m5 + m5 * m8) (m6 * m0 + m7 * m3 + m8 * m6) (m6 * m1 + m7 * m4 + m8 * m7) (m6 * m2 + m7 * m5 + m8 * m8) (m4 * m8 - m5 * m7) (m7 * m2 - m8 * m1) (m1 * m5 - m2 * m4) (m5 * m6 - m3 * m8) (m8 * m0 - m6 * m2) (m2 * m3 - m0 * m5) (m3 * m7 - m4 * m6) (m6 * m1 - m7 * m0) (m0 * m4 - m1 * m3) (m0 + m4 + m8) (m4 * m8 - m5 * m7 + (m8 * m0 - m6 * m2) + (m0 * m4 - m1 * m3)) (det m0 m1 m2 m3 m4 m5 m6 m7 m8) := by
  refine ⟨rfl, rfl, rfl, rfl, rfl, rfl, rfl, rfl, rfl, rfl, ?_, ?_, ?_, ?_, ?_, ?_, ?_, ?_, ?_, ?_, ?_, ?_, ?_, ?_, ?_, ?_, ?_, ?_, ?_, ?_, ?_, ?_, ?_, ?_, ?_, ?_, ?_, ?_, ?_, ?_, ?_, ?_, ?_, ?_, ?_, ?_, ?_, ?_, ?_, ?_, ?_, ?_, ?_, ?_, ?_, ?_, ?_, ?_, ?_, ?_, ?_, ?_, ?_, ?_, ?_, det_mul _ _ _ _ _ _ _ _ _ _ _ _ _ _ _ _ _ _, rfl⟩
  all_goals first | (unfold det; grind) | grind

theorem L1 {x y z u v w a b c D e : Int} (h1 : u = D * a) (h2 : v = D * b) (h3 : w = D * c) (h : x * a + y * b + z * c = D * e) (hD : D * D = 1) : x * u + y * v + z * w = e := by
  subst h1; subst h2; subst h3
  have : x * (D * a) + y * (D * b) + z * (D * c) = D * (x * a + y * b + z * c) := by grind
  rw [this, h, ← Int.mul_assoc, hD, Int.one_mul]
theorem L3 {x y z u v w a b c t s d1 d2 d3 : Int} (h1 : 2 * u = t * a - s * d1) (h2 : 2 * v = t * b - s * d2) (h3 : 2 * w = t * c - s * d3) : 2 * (x * u + y * v + z * w) = t * (x * a + y * b + z * c) - s * (x * d1 + y * d2 + z * d3) := by
  have : 2 * (x * u + y * v + z * w) = x * (2 * u) + y * (2 * v) + z * (2 * w) := by grind
  rw [this, h1, h2, h3]
  grind
theorem L4 {x y z u v w a b c σ A B d1 d2 d3 : Int} (h1 : u = σ * u + A * a + B * d1) (h2 : v = σ * v + A * b + B * d2) (h3 : w = σ * w + A * c + B * d3) : x * u + y * v + z * w = σ * (x * u + y * v + z * w) + A * (x * a + y * b + z * c) + B * (x * d1 + y * d2 + z * d3) := by
  have e1 : x * u = x * (σ * u + A * a + B * d1) := by rw [← h1]
  have e2 : y * v = y * (σ * v + A * b + B * d2) := by rw [← h2]
  have e3 : z * w = z * (σ * w + A * c + B * d3) := by rw [← h3]
  clear h1 h2 h3
  grind
theorem bd_cube {x c : Int} (hc : c ≠ 0) (h : x * (x * x) = c) : x.natAbs ≤ c.natAbs :=
  Nat.le_of_dvd (by omega) (Int.natAbs_dvd_natAbs.2 ⟨x * x, h.symm⟩)
theorem cube_one {x : Int} (h : x * (x * x) = 1) : x = 1 := by
  have := bd_cube (by omega) h
  have hx : x = -1 ∨ x = 0 ∨ x = 1 := by omega
  rcases hx with rfl | rfl | rfl
  · omega
  · omega
  · rfl
theorem E2 {m0 m1 m2 m3 m4 m5 m6 m7 m8 p0 p1 p2 p3 p4 p5 p6 p7 p8 c0 c1 c2 c3 c4 c5 c6 c7 c8 t s D : Int} (h : Alg m0 m1 m2 m3 m4 m5 m6 m7 m8 p0 p1 p2 p3 p4 p5 p6 p7 p8 c0 c1 c2 c3 c4 c5 c6 c7 c8 t s D) (hD : D = 1 ∨ D = -1) : (m0 = D * c0 ∧ m1 = D * c1 ∧ m2 = D * c2 ∧ m3 = D * c3 ∧ m4 = D * c4 ∧ m5 = D * c5 ∧ m6 = D * c6 ∧ m7 = D * c7 ∧ m8 = D * c8) ↔ (p0 = 1 ∧ p1 = 0 ∧ p2 = 0 ∧ p3 = 0 ∧ p4 = 1 ∧ p5 = 0 ∧ p6 = 0 ∧ p7 = 0 ∧ p8 = 1) := by
  have hDD : D * D = 1 := by rcases hD with rfl | rfl <;> rfl
  constructor
  · intro ⟨k0, k1, k2, k3, k4, k5, k6, k7, k8⟩
    exact ⟨h.sq0.trans (L1 k0 k3 k6 h.mc0 hDD), h.sq1.trans (L1 k1 k4 k7 h.mc1 hDD), h.sq2.trans (L1 k2 k5 k8 h.mc2 hDD), h.sq3.trans (L1 k0 k3 k6 h.mc3 hDD), h.sq4.trans (L1 k1 k4 k7 h.mc4 hDD), h.sq5.trans (L1 k2 k5 k8 h.mc5 hDD), h.sq6.trans (L1 k0 k3 k6 h.mc6 hDD), h.sq7.trans (L1 k1 k4 k7 h.mc7 hDD), h.sq8.trans (L1 k2 k5 k8 h.mc8 hDD)⟩
  · intro ⟨k0, k1, k2, k3, k4, k5, k6, k7, k8⟩
    refine ⟨?_, ?_, ?_, ?_, ?_, ?_, ?_, ?_, ?_⟩
    · have := h.cp0; rw [k0, k3, k6] at this; rcases hD with rfl | rfl <;> omega
    · have := h.cp1; rw [k1, k4, k7] at this; rcases hD with rfl | rfl <;> omega
    · have := h.cp2; rw [k2, k5, k8] at this; rcases hD with rfl | rfl <;> omega
    · have := h.cp3; rw [k0, k3, k6] at this; rcases hD with rfl | rfl <;> omega
    · have := h.cp4; rw [k1, k4, k7] at this; rcases hD with rfl | rfl <;> omega
    · have := h.cp5; rw [k2, k5, k8] at this; rcases hD with rfl | rfl <;> omega
    · have := h.cp6; rw [k0, k3, k6] at this; rcases hD with rfl | rfl <;> omega
    · have := h.cp7; rw [k1, k4, k7] at this; rcases hD with rfl | rfl <;> omega
    · have := h.cp8; rw [k2, k5, k8] at this; rcases hD with rfl | rfl <;> omega
theorem E3 {m0 m1 m2 m3 m4 m5 m6 m7 m8 p0 p1 p2 p3 p4 p5 p6 p7 p8 c0 c1 c2 c3 c4 c5 c6 c7 c8 t s D : Int} (h : Alg m0 m1 m2 m3 m4 m5 m6 m7 m8 p0 p1 p2 p3 p4 p5 p6 p7 p8 c0 c1 c2 c3 c4 c5 c6 c7 c8 t s D) (hD : D = 1 ∨ D = -1) (n1 : ¬ (m0 = 1 ∧ m1 = 0 ∧ m2 = 0 ∧ m3 = 0 ∧ m4 = 1 ∧ m5 = 0 ∧ m6 = 0 ∧ m7 = 0 ∧ m8 = 1)) : (p0 = D * c0 ∧ p1 = D * c1 ∧ p2 = D * c2 ∧ p3 = D * c3 ∧ p4 = D * c4 ∧ p5 = D * c5 ∧ p6 = D * c6 ∧ p7 = D * c7 ∧ p8 = D * c8) ↔ (t = 0 ∧ s = 0 ∧ D = 1) := by
  constructor
  · intro ⟨k0, k1, k2, k3, k4, k5, k6, k7, k8⟩
    have j0 := h.ch0
    have j1 := h.ch1
    have j2 := h.ch2
    have j3 := h.ch3
    have j4 := h.ch4
    have j5 := h.ch5
    have j6 := h.ch6
    have j7 := h.ch7
    have j8 := h.ch8
    rcases hD with rfl | rfl
    · have q0 : t * m0 = s := by omega
      have q4 : t * m4 = s := by omega
      have q8 : t * m8 = s := by omega
      by_cases ht : t = 0
      · subst ht; exact ⟨rfl, by omega, rfl⟩
      · exfalso
        have e4 : m4 = m0 := Int.eq_of_mul_eq_mul_left ht (by omega)
        have e8 : m8 = m0 := Int.eq_of_mul_eq_mul_left ht (by omega)
        have e1 : m1 = 0 := (Int.mul_eq_zero.1 (show t * m1 = 0 by omega)).resolve_left ht
        have e2 : m2 = 0 := (Int.mul_eq_zero.1 (show t * m2 = 0 by omega)).resolve_left ht
        have e3 : m3 = 0 := (Int.mul_eq_zero.1 (show t * m3 = 0 by omega)).resolve_left ht
        have e5 : m5 = 0 := (Int.mul_eq_zero.1 (show t * m5 = 0 by omega)).resolve_left ht
        have e6 : m6 = 0 := (Int.mul_eq_zero.1 (show t * m6 = 0 by omega)).resolve_left ht
        have e7 : m7 = 0 := (Int.mul_eq_zero.1 (show t * m7 = 0 by omega)).resolve_left ht
        have hd := h.dm
        rw [e1, e2, e3, e4, e5, e6, e7, e8] at hd
        have c1 : m0 * (m0 * m0) = 1 := by rw [hd]; unfold det; grind
        have o := cube_one c1
        exact n1 ⟨o, e1, e2, e3, e4.trans o, e5, e6, e7, e8.trans o⟩
    · exfalso
      have tt : t * m0 + t * m4 + t * m8 = t * t := by rw [← Int.mul_add, ← Int.mul_add, ← h.tr]
      have t2 := h.t2
      have hs : s = t * t := by omega
      have f0 : t * p0 - s * m0 = 2 := by
        have a1 := h.mp0; have a2 := h.sq0
        have b0 : 2 * p0 = t * m0 - s * 1 := by omega
        have b1 : 2 * p3 = t * m3 - s * 0 := by omega
        have b2 : 2 * p6 = t * m6 - s * 0 := by omega
        have a3 := L3 (x := m0) (y := m1) (z := m2) b0 b1 b2
        rw [← a2, a1] at a3
        simp only [Int.mul_one, Int.mul_zero, Int.add_zero] at a3; omega
      have f4 : t * p4 - s * m4 = 2 := by
        have a1 := h.mp4; have a2 := h.sq4
        have b0 : 2 * p1 = t * m1 - s * 0 := by omega
        have b1 : 2 * p4 = t * m4 - s * 1 := by omega
        have b2 : 2 * p7 = t * m7 - s * 0 := by omega
        have a3 := L3 (x := m3) (y := m4) (z := m5) b0 b1 b2
        rw [← a2, a1] at a3
        simp only [Int.mul_one, Int.mul_zero, Int.add_zero, Int.zero_add] at a3; omega
      have f8 : t * p8 - s * m8 = 2 := by
        have a1 := h.mp8; have a2 := h.sq8
        have b0 : 2 * p2 = t * m2 - s * 0 := by omega
        have b1 : 2 * p5 = t * m5 - s * 0 := by omega
        have b2 : 2 * p8 = t * m8 - s * 1 := by omega
        have a3 := L3 (x := m6) (y := m7) (z := m8) b0 b1 b2
        rw [← a2, a1] at a3
        simp only [Int.mul_one, Int.mul_zero, Int.add_zero, Int.zero_add] at a3; omega
      have c3 : t * (t * t) = -3 := by
        have tp : t * p0 + t * p4 + t * p8 = t * (t * t - 2 * s) := by rw [← Int.mul_add, ← Int.mul_add, t2]
        have sm : s * m0 + s * m4 + s * m8 = s * t := by rw [← Int.mul_add, ← Int.mul_add, ← h.tr]
        have : t * (t * t - 2 * s) - s * t = 6 := by omega
        rw [hs] at this
        grind
      have b3 := bd_cube (by omega) c3
      have hx : t = -3 ∨ t = -2 ∨ t = -1 ∨ t = 0 ∨ t = 1 ∨ t = 2 ∨ t = 3 := by omega
      rcases hx with rfl | rfl | rfl | rfl | rfl | rfl | rfl <;> omega
  · rintro ⟨rfl, rfl, rfl⟩
    have j0 := h.ch0
    have j1 := h.ch1
    have j2 := h.ch2
    have j3 := h.ch3
    have j4 := h.ch4
    have j5 := h.ch5
    have j6 := h.ch6
    have j7 := h.ch7
    have j8 := h.ch8
    refine ⟨?_, ?_, ?_, ?_, ?_, ?_, ?_, ?_, ?_⟩ <;> omega
theorem L6 {t s D p m e : Int} (g : (t * t - s) * p + (D - t * s) * m + t * D * e = s * p + (D - s * t) * m + (s * s - D * t) * e) : (t * t - 2 * s) * p = (s * s - 2 * (t * D)) * e := by grind
theorem solve6p {t s : Int} (q1 : t * t - 2 * s = 0) (q2 : s * s - 2 * (t * 1) = 0) : (t = 0 ∧ s = 0) ∨ (t = 2 ∧ s = 2) := by
  have f1 : t * (t * (t * t) - 8) = 0 := by
    have a : s * s = 2 * t := by omega
    have b : t * t = 2 * s := by omega
    have c : (t * t) * (t * t) = 4 * (s * s) := by rw [b]; grind
    rw [a] at c
    clear q1 q2 a b
    grind
  rcases Int.mul_eq_zero.1 f1 with e | e
  · subst e; left; omega
  · have c3 : t * (t * t) = 8 := by omega
    have b3 := bd_cube (by omega) c3
    have hx : t = -8 ∨ t = -7 ∨ t = -6 ∨ t = -5 ∨ t = -4 ∨ t = -3 ∨ t = -2 ∨ t = -1 ∨ t = 0 ∨ t = 1 ∨ t = 2 ∨ t = 3 ∨ t = 4 ∨ t = 5 ∨ t = 6 ∨ t = 7 ∨ t = 8 := by omega
    rcases hx with rfl | rfl | rfl | rfl | rfl | rfl | rfl | rfl | rfl | rfl | rfl | rfl | rfl | rfl | rfl | rfl | rfl <;> omega
theorem solve6n {t s : Int} (q1 : t * t - 2 * s = 0) (q2 : s * s - 2 * (t * -1) = 0) : (t = 0 ∧ s = 0) ∨ (t = -2 ∧ s = 2) := by
  have f1 : t * (t * (t * t) + 8) = 0 := by
    have a : s * s = -(2 * t) := by omega
    have b : t * t = 2 * s := by omega
    have c : (t * t) * (t * t) = 4 * (s * s) := by rw [b]; grind
    rw [a] at c
    clear q1 q2 a b
    grind
  rcases Int.mul_eq_zero.1 f1 with e | e
  · subst e; left; omega
  · have c3 : t * (t * t) = -8 := by omega
    have b3 := bd_cube (by omega) c3
    have hx : t = -8 ∨ t = -7 ∨ t = -6 ∨ t = -5 ∨ t = -4 ∨ t = -3 ∨ t = -2 ∨ t = -1 ∨ t = 0 ∨ t = 1 ∨ t = 2 ∨ t = 3 ∨ t = 4 ∨ t = 5 ∨ t = 6 ∨ t = 7 ∨ t = 8 := by omega
    rcases hx with rfl | rfl | rfl | rfl | rfl | rfl | rfl | rfl | rfl | rfl | rfl | rfl | rfl | rfl | rfl | rfl | rfl <;> omega
theorem sq_nn (x : Int) : 0 ≤ x * x := by
  rcases Int.le_total 0 x with h | h
  · exact Int.mul_nonneg h h
  · have := Int.mul_nonneg (show 0 ≤ -x by omega) (show 0 ≤ -x by omega)
    rwa [Int.neg_mul_neg] at this
theorem L5 {t s D p m e : Int} (g : t * p - s * m + D * e = s * (t * p - s * m + D * e) + (D - s * t) * p + (s * s - D * t) * m) : (t - D) * p + (D * t - s) * m + (D - s * D) * e = 0 := by grind
theorem solve4p {t s : Int} (q1 : t * t - 2 * s = s * (t * t - 2 * s) + (1 - s * t) * t + 3 * (s * s - 1 * t)) (q2 : (t - 1) * (t * t - 2 * s) + (1 * t - s) * t + 3 * (1 - s * 1) = 0) : (t = 1 ∧ s = 1) ∨ (t = 3 ∧ s = 3) ∨ (t = -1 ∧ s = -1) := by
  have f1 : (t - s) * (t + s + 2) = 0 := by clear q2; grind
  rcases Int.mul_eq_zero.1 f1 with e | e
  · have e' : s = t := by omega
    subst e'
    have f2 : (s - 3) * ((s - 1) * (s + 1)) = 0 := by clear q1 f1 e; grind
    rcases Int.mul_eq_zero.1 f2 with e | e
    · right; left; omega
    · rcases Int.mul_eq_zero.1 e with e | e
      · left; omega
      · right; right; omega
  · have e' : s = -2 - t := by omega
    subst e'
    have f2 : (t + 1) * ((t + 1) * (t + 1) + 4) = 0 := by clear q1 f1 e; grind
    rcases Int.mul_eq_zero.1 f2 with e | e
    · right; right; omega
    · exfalso
      have := sq_nn (t + 1)
      omega
theorem solve4n {t s : Int} (q1 : t * t - 2 * s = s * (t * t - 2 * s) + (-1 - s * t) * t + 3 * (s * s - -1 * t)) (q2 : (t - -1) * (t * t - 2 * s) + (-1 * t - s) * t + 3 * (-1 - s * -1) = 0) : (t = -1 ∧ s = 1) ∨ (t = -3 ∧ s = 3) ∨ (t = 1 ∧ s = -1) := by
  have f1 : (t + s) * (t - s - 2) = 0 := by clear q2; grind
  rcases Int.mul_eq_zero.1 f1 with e | e
  · have e' : s = -t := by omega
    subst e'
    have f2 : (t + 3) * ((t - 1) * (t + 1)) = 0 := by clear q1 f1 e; grind
    rcases Int.mul_eq_zero.1 f2 with e | e
    · right; left; omega
    · rcases Int.mul_eq_zero.1 e with e | e
      · right; right; omega
      · left; omega
  · have e' : s = t - 2 := by omega
    subst e'
    have f2 : (t - 1) * ((t - 1) * (t - 1) + 4) = 0 := by clear q1 f1 e; grind
    rcases Int.mul_eq_zero.1 f2 with e | e
    · right; right; omega
    · exfalso
      have := sq_nn (t - 1)
      omega
theorem E4 {m0 m1 m2 m3 m4 m5 m6 m7 m8 p0 p1 p2 p3 p4 p5 p6 p7 p8 c0 c1 c2 c3 c4 c5 c6 c7 c8 t s D : Int} (h : Alg m0 m1 m2 m3 m4 m5 m6 m7 m8 p0 p1 p2 p3 p4 p5 p6 p7 p8 c0 c1 c2 c3 c4 c5 c6 c7 c8 t s D) (hD : D = 1 ∨ D = -1) (n1 : ¬ (p0 = 1 ∧ p1 = 0 ∧ p2 = 0 ∧ p3 = 0 ∧ p4 = 1 ∧ p5 = 0 ∧ p6 = 0 ∧ p7 = 0 ∧ p8 = 1)) : (p0 = c0 * c0 + c1 * c3 + c2 * c6 ∧ p1 = c0 * c1 + c1 * c4 + c2 * c7 ∧ p2 = c0 * c2 + c1 * c5 + c2 * c8 ∧ p3 = c3 * c0 + c4 * c3 + c5 * c6 ∧ p4 = c3 * c1 + c4 * c4 + c5 * c7 ∧ p5 = c3 * c2 + c4 * c5 + c5 * c8 ∧ p6 = c6 * c0 + c7 * c3 + c8 * c6 ∧ p7 = c6 * c1 + c7 * c4 + c8 * c7 ∧ p8 = c6 * c2 + c7 * c5 + c8 * c8) ↔ ((t = 1 ∧ s = 1 ∧ D = 1) ∨ (t = -1 ∧ s = 1 ∧ D = -1)) := by
  constructor
  · intro ⟨k0, k1, k2, k3, k4, k5, k6, k7, k8⟩
    have j0 : p0 = s * p0 + (D - s * t) * m0 + (s * s - D * t) * 1 := k0.trans h.cc0
    have j1 : p1 = s * p1 + (D - s * t) * m1 + (s * s - D * t) * 0 := k1.trans h.cc1
    have j2 : p2 = s * p2 + (D - s * t) * m2 + (s * s - D * t) * 0 := k2.trans h.cc2
    have j3 : p3 = s * p3 + (D - s * t) * m3 + (s * s - D * t) * 0 := k3.trans h.cc3
    have j4 : p4 = s * p4 + (D - s * t) * m4 + (s * s - D * t) * 1 := k4.trans h.cc4
    have j5 : p5 = s * p5 + (D - s * t) * m5 + (s * s - D * t) * 0 := k5.trans h.cc5
    have j6 : p6 = s * p6 + (D - s * t) * m6 + (s * s - D * t) * 0 := k6.trans h.cc6
    have j7 : p7 = s * p7 + (D - s * t) * m7 + (s * s - D * t) * 0 := k7.trans h.cc7
    have j8 : p8 = s * p8 + (D - s * t) * m8 + (s * s - D * t) * 1 := k8.trans h.cc8
    have g0 : (t - D) * p0 + (D * t - s) * m0 + (D - s * D) * 1 = 0 := by
      have g := L4 (x := m0) (y := m1) (z := m2) j0 j3 j6
      have z : m0 * 1 + m1 * 0 + m2 * 0 = m0 := by omega
      rw [← h.sq0, h.mp0, z] at g
      exact L5 g
    have g1 : (t - D) * p1 + (D * t - s) * m1 + (D - s * D) * 0 = 0 := by
      have g := L4 (x := m0) (y := m1) (z := m2) j1 j4 j7
      have z : m0 * 0 + m1 * 1 + m2 * 0 = m1 := by omega
      rw [← h.sq1, h.mp1, z] at g
      exact L5 g
    have g2 : (t - D) * p2 + (D * t - s) * m2 + (D - s * D) * 0 = 0 := by
      have g := L4 (x := m0) (y := m1) (z := m2) j2 j5 j8
      have z : m0 * 0 + m1 * 0 + m2 * 1 = m2 := by omega
      rw [← h.sq2, h.mp2, z] at g
      exact L5 g
    have g3 : (t - D) * p3 + (D * t - s) * m3 + (D - s * D) * 0 = 0 := by
      have g := L4 (x := m3) (y := m4) (z := m5) j0 j3 j6
      have z : m3 * 1 + m4 * 0 + m5 * 0 = m3 := by omega
      rw [← h.sq3, h.mp3, z] at g
      exact L5 g
    have g4 : (t - D) * p4 + (D * t - s) * m4 + (D - s * D) * 1 = 0 := by
      have g := L4 (x := m3) (y := m4) (z := m5) j1 j4 j7
      have z : m3 * 0 + m4 * 1 + m5 * 0 = m4 := by omega
      rw [← h.sq4, h.mp4, z] at g
      exact L5 g
    have g5 : (t - D) * p5 + (D * t - s) * m5 + (D - s * D) * 0 = 0 := by
      have g := L4 (x := m3) (y := m4) (z := m5) j2 j5 j8
      have z : m3 * 0 + m4 * 0 + m5 * 1 = m5 := by omega
      rw [← h.sq5, h.mp5, z] at g
      exact L5 g
    have g6 : (t - D) * p6 + (D * t - s) * m6 + (D - s * D) * 0 = 0 := by
      have g := L4 (x := m6) (y := m7) (z := m8) j0 j3 j6
      have z : m6 * 1 + m7 * 0 + m8 * 0 = m6 := by omega
      rw [← h.sq6, h.mp6, z] at g
      exact L5 g
    have g7 : (t - D) * p7 + (D * t - s) * m7 + (D - s * D) * 0 = 0 := by
      have g := L4 (x := m6) (y := m7) (z := m8) j1 j4 j7
      have z : m6 * 0 + m7 * 1 + m8 * 0 = m7 := by omega
      rw [← h.sq7, h.mp7, z] at g
      exact L5 g
    have g8 : (t - D) * p8 + (D * t - s) * m8 + (D - s * D) * 1 = 0 := by
      have g := L4 (x := m6) (y := m7) (z := m8) j2 j5 j8
      have z : m6 * 0 + m7 * 0 + m8 * 1 = m8 := by omega
      rw [← h.sq8, h.mp8, z] at g
      exact L5 g
    have r1 := h.t2
    have q1 : t * t - 2 * s = s * (t * t - 2 * s) + (D - s * t) * t + 3 * (s * s - D * t) := by
      have r2 : (D - s * t) * m0 + (D - s * t) * m4 + (D - s * t) * m8 = (D - s * t) * t := by rw [← Int.mul_add, ← Int.mul_add, ← h.tr]
      have r3 : s * p0 + s * p4 + s * p8 = s * (t * t - 2 * s) := by rw [← Int.mul_add, ← Int.mul_add, r1]
      omega
    have q2 : (t - D) * (t * t - 2 * s) + (D * t - s) * t + 3 * (D - s * D) = 0 := by
      have r2 : (D * t - s) * m0 + (D * t - s) * m4 + (D * t - s) * m8 = (D * t - s) * t := by rw [← Int.mul_add, ← Int.mul_add, ← h.tr]
      have r3 : (t - D) * p0 + (t - D) * p4 + (t - D) * p8 = (t - D) * (t * t - 2 * s) := by rw [← Int.mul_add, ← Int.mul_add, r1]
      omega
    rcases hD with rfl | rfl
    · rcases solve4p q1 q2 with ⟨rfl, rfl⟩ | ⟨rfl, rfl⟩ | ⟨rfl, rfl⟩
      · left; exact ⟨rfl, rfl, rfl⟩
      · exfalso; exact n1 ⟨by omega, by omega, by omega, by omega, by omega, by omega, by omega, by omega, by omega⟩
      · exfalso; exact n1 ⟨by omega, by omega, by omega, by omega, by omega, by omega, by omega, by omega, by omega⟩
    · rcases solve4n q1 q2 with ⟨rfl, rfl⟩ | ⟨rfl, rfl⟩ | ⟨rfl, rfl⟩
      · right; exact ⟨rfl, rfl, rfl⟩
      · exfalso; exact n1 ⟨by omega, by omega, by omega, by omega, by omega, by omega, by omega, by omega, by omega⟩
      · exfalso; exact n1 ⟨by omega, by omega, by omega, by omega, by omega, by omega, by omega, by omega, by omega⟩
  · rintro (⟨rfl, rfl, rfl⟩ | ⟨rfl, rfl, rfl⟩)
    · refine ⟨Eq.symm (h.cc0.trans (by omega)), Eq.symm (h.cc1.trans (by omega)), Eq.symm (h.cc2.trans (by omega)), Eq.symm (h.cc3.trans (by omega)), Eq.symm (h.cc4.trans (by omega)), Eq.symm (h.cc5.trans (by omega)), Eq.symm (h.cc6.trans (by omega)), Eq.symm (h.cc7.trans (by omega)), Eq.symm (h.cc8.trans (by omega))⟩
    · refine ⟨Eq.symm (h.cc0.trans (by omega)), Eq.symm (h.cc1.trans (by omega)), Eq.symm (h.cc2.trans (by omega)), Eq.symm (h.cc3.trans (by omega)), Eq.symm (h.cc4.trans (by omega)), Eq.symm (h.cc5.trans (by omega)), Eq.symm (h.cc6.trans (by omega)), Eq.symm (h.cc7.trans (by omega)), Eq.symm (h.cc8.trans (by omega))⟩
theorem E6 {m0 m1 m2 m3 m4 m5 m6 m7 m8 p0 p1 p2 p3 p4 p5 p6 p7 p8 c0 c1 c2 c3 c4 c5 c6 c7 c8 t s D : Int} (h : Alg m0 m1 m2 m3 m4 m5 m6 m7 m8 p0 p1 p2 p3 p4 p5 p6 p7 p8 c0 c1 c2 c3 c4 c5 c6 c7 c8 t s D) (hD : D = 1 ∨ D = -1) (n1 : ¬ (p0 = 1 ∧ p1 = 0 ∧ p2 = 0 ∧ p3 = 0 ∧ p4 = 1 ∧ p5 = 0 ∧ p6 = 0 ∧ p7 = 0 ∧ p8 = 1)) (n3 : ¬ (t = 0 ∧ s = 0 ∧ D = 1)) : (p0 * p0 + p1 * p3 + p2 * p6 = c0 * c0 + c1 * c3 + c2 * c6 ∧ p0 * p1 + p1 * p4 + p2 * p7 = c0 * c1 + c1 * c4 + c2 * c7 ∧ p0 * p2 + p1 * p5 + p2 * p8 = c0 * c2 + c1 * c5 + c2 * c8 ∧ p3 * p0 + p4 * p3 + p5 * p6 = c3 * c0 + c4 * c3 + c5 * c6 ∧ p3 * p1 + p4 * p4 + p5 * p7 = c3 * c1 + c4 * c4 + c5 * c7 ∧ p3 * p2 + p4 * p5 + p5 * p8 = c3 * c2 + c4 * c5 + c5 * c8 ∧ p6 * p0 + p7 * p3 + p8 * p6 = c6 * c0 + c7 * c3 + c8 * c6 ∧ p6 * p1 + p7 * p4 + p8 * p7 = c6 * c1 + c7 * c4 + c8 * c7 ∧ p6 * p2 + p7 * p5 + p8 * p8 = c6 * c2 + c7 * c5 + c8 * c8) ↔ ((t = 0 ∧ s = 0 ∧ D = -1) ∨ (t = 2 ∧ s = 2 ∧ D = 1) ∨ (t = -2 ∧ s = 2 ∧ D = -1)) := by
  constructor
  · intro ⟨k0, k1, k2, k3, k4, k5, k6, k7, k8⟩
    have j0 : (t * t - 2 * s) * p0 = (s * s - 2 * (t * D)) * 1 := L6 (h.pp0.symm.trans (k0.trans h.cc0))
    have j1 : (t * t - 2 * s) * p1 = (s * s - 2 * (t * D)) * 0 := L6 (h.pp1.symm.trans (k1.trans h.cc1))
    have j2 : (t * t - 2 * s) * p2 = (s * s - 2 * (t * D)) * 0 := L6 (h.pp2.symm.trans (k2.trans h.cc2))
    have j3 : (t * t - 2 * s) * p3 = (s * s - 2 * (t * D)) * 0 := L6 (h.pp3.symm.trans (k3.trans h.cc3))
    have j4 : (t * t - 2 * s) * p4 = (s * s - 2 * (t * D)) * 1 := L6 (h.pp4.symm.trans (k4.trans h.cc4))
    have j5 : (t * t - 2 * s) * p5 = (s * s - 2 * (t * D)) * 0 := L6 (h.pp5.symm.trans (k5.trans h.cc5))
    have j6 : (t * t - 2 * s) * p6 = (s * s - 2 * (t * D)) * 0 := L6 (h.pp6.symm.trans (k6.trans h.cc6))
    have j7 : (t * t - 2 * s) * p7 = (s * s - 2 * (t * D)) * 0 := L6 (h.pp7.symm.trans (k7.trans h.cc7))
    have j8 : (t * t - 2 * s) * p8 = (s * s - 2 * (t * D)) * 1 := L6 (h.pp8.symm.trans (k8.trans h.cc8))
    by_cases ha : t * t - 2 * s = 0
    · have hb : s * s - 2 * (t * D) = 0 := by rw [ha] at j0; omega
      rcases hD with rfl | rfl
      · rcases solve6p ha hb with ⟨rfl, rfl⟩ | ⟨rfl, rfl⟩
        · exact absurd ⟨rfl, rfl, rfl⟩ n3
        · right; left; exact ⟨rfl, rfl, rfl⟩
      · rcases solve6n ha hb with ⟨rfl, rfl⟩ | ⟨rfl, rfl⟩
        · left; exact ⟨rfl, rfl, rfl⟩
        · right; right; exact ⟨rfl, rfl, rfl⟩
    · exfalso
      have e4 : p4 = p0 := Int.eq_of_mul_eq_mul_left ha (j4.trans j0.symm)
      have e8 : p8 = p0 := Int.eq_of_mul_eq_mul_left ha (j8.trans j0.symm)
      have e1 : p1 = 0 := (Int.mul_eq_zero.1 (j1.trans (Int.mul_zero _))).resolve_left ha
      have e2 : p2 = 0 := (Int.mul_eq_zero.1 (j2.trans (Int.mul_zero _))).resolve_left ha
      have e3 : p3 = 0 := (Int.mul_eq_zero.1 (j3.trans (Int.mul_zero _))).resolve_left ha
      have e5 : p5 = 0 := (Int.mul_eq_zero.1 (j5.trans (Int.mul_zero _))).resolve_left ha
      have e6 : p6 = 0 := (Int.mul_eq_zero.1 (j6.trans (Int.mul_zero _))).resolve_left ha
      have e7 : p7 = 0 := (Int.mul_eq_zero.1 (j7.trans (Int.mul_zero _))).resolve_left ha
      have hd := h.dp
      rw [e1, e2, e3, e4, e5, e6, e7, e8] at hd
      have hDD : D * D = 1 := by rcases hD with rfl | rfl <;> rfl
      have c1 : p0 * (p0 * p0) = 1 := by rw [← hDD, ← hd]; unfold det; grind
      have o := cube_one c1
      exact n1 ⟨o, e1, e2, e3, e4.trans o, e5, e6, e7, e8.trans o⟩
  · rintro (⟨rfl, rfl, rfl⟩ | ⟨rfl, rfl, rfl⟩ | ⟨rfl, rfl, rfl⟩)
    · refine ⟨h.pp0.trans (Eq.symm (h.cc0.trans (by omega))), h.pp1.trans (Eq.symm (h.cc1.trans (by omega))), h.pp2.trans (Eq.symm (h.cc2.trans (by omega))), h.pp3.trans (Eq.symm (h.cc3.trans (by omega))), h.pp4.trans (Eq.symm (h.cc4.trans (by omega))), h.pp5.trans (Eq.symm (h.cc5.trans (by omega))), h.pp6.trans (Eq.symm (h.cc6.trans (by omega))), h.pp7.trans (Eq.symm (h.cc7.trans (by omega))), h.pp8.trans (Eq.symm (h.cc8.trans (by omega)))⟩
    · refine ⟨h.pp0.trans (Eq.symm (h.cc0.trans (by omega))), h.pp1.trans (Eq.symm (h.cc1.trans (by omega))), h.pp2.trans (Eq.symm (h.cc2.trans (by omega))), h.pp3.trans (Eq.symm (h.cc3.trans (by omega))), h.pp4.trans (Eq.symm (h.cc4.trans (by omega))), h.pp5.trans (Eq.symm (h.cc5.trans (by omega))), h.pp6.trans (Eq.symm (h.cc6.trans (by omega))), h.pp7.trans (Eq.symm (h.cc7.trans (by omega))), h.pp8.trans (Eq.symm (h.cc8.trans (by omega)))⟩
    · refine ⟨h.pp0.trans (Eq.symm (h.cc0.trans (by omega))), h.pp1.trans (Eq.symm (h.cc1.trans (by omega))), h.pp2.trans (Eq.symm (h.cc2.trans (by omega))), h.pp3.trans (Eq.symm (h.cc3.trans (by omega))), h.pp4.trans (Eq.symm (h.cc4.trans (by omega))), h.pp5.trans (Eq.symm (h.cc5.trans (by omega))), h.pp6.trans (Eq.symm (h.cc6.trans (by omega))), h.pp7.trans (Eq.symm (h.cc7.trans (by omega))), h.pp8.trans (Eq.symm (h.cc8.trans (by omega)))⟩

end Go.Proofs.Ytjpfnfckpgilgaa


namespace Go.Proofs.Ytjpfnfckpgilgaa.Vx
open Go

/-! ## Orders by traces -/
def M3.sm (m : M3) : Int := m.adj.tr
theorem M3.alg (m : M3) : Alg m.a m.b m.c m.d m.e m.f m.g m.h m.i (m.mul m).a (m.mul m).b (m.mul m).c (m.mul m).d (m.mul m).e (m.mul m).f (m.mul m).g (m.mul m).h (m.mul m).i m.adj.a m.adj.b m.adj.c m.adj.d m.adj.e m.adj.f m.adj.g m.adj.h m.adj.i m.tr m.sm m.det :=
  Go.Proofs.Ytjpfnfckpgilgaa.alg m.a m.b m.c m.d m.e m.f m.g m.h m.i
theorem M3.eq_iff {m n : M3} : m = n ↔ (m.a = n.a ∧ m.b = n.b ∧ m.c = n.c ∧ m.d = n.d ∧ m.e = n.e ∧ m.f = n.f ∧ m.g = n.g ∧ m.h = n.h ∧ m.i = n.i) := ⟨fun h => by subst h; simp, M3.ext'⟩
theorem M3.adj_inv {m : M3} (hd : m.det = 1) : m.adj = m.inv := by unfold M3.inv; rw [hd, M3.smul_one]
theorem M3.pow3 (m : M3) : m.pow 3 = m.mul (m.mul m) := by simp only [M3.pow]; rw [M3.mul_one]
theorem M3.tr3 {m : M3} (hd : m.det = 1) (h1 : m ≠ M3.one) : m.pow 3 = M3.one ↔ m.tr = 0 ∧ m.sm = 0 := by
  have hu : m.U := Or.inl hd
  have e := E3 m.alg (Or.inl hd) (fun h => h1 (M3.eq_iff.2 h))
  rw [hd] at e
  simp only [Int.one_mul, and_true] at e
  rw [← e, M3.pow3, ← M3.mul_inv hu, ← M3.cancel_iff hu, ← M3.adj_inv hd, M3.eq_iff]
theorem M3.tr4 {m : M3} (hd : m.det = 1) (h2 : m.pow 2 ≠ M3.one) : m.pow 4 = M3.one ↔ m.tr = 1 ∧ m.sm = 1 := by
  have hu : m.U := Or.inl hd
  have e := E4 m.alg (Or.inl hd) (fun h => h2 (by rw [M3.pow2]; exact M3.eq_iff.2 h))
  rw [hd] at e
  have k : m.pow 4 = M3.one ↔ m.mul m = m.adj.mul m.adj := by
    rw [M3.adj_inv hd]
    conv => rhs; rw [M3.cancel_iff hu, ← M3.mul_assoc m m.inv, M3.mul_inv hu, M3.one_mul, M3.cancel_iff hu, M3.mul_inv hu]
    simp only [M3.pow]; rw [M3.mul_one]
  rw [k, M3.eq_iff]
  refine Iff.trans (show _ ↔ _ from Iff.rfl) (e.trans ?_)
  omega
theorem M3.tr6 {m : M3} (hd : m.det = 1) (h2 : m.pow 2 ≠ M3.one) (h3 : ¬ (m.tr = 0 ∧ m.sm = 0)) : m.pow 6 = M3.one ↔ m.tr = 2 ∧ m.sm = 2 := by
  have hu : m.U := Or.inl hd
  have e := E6 m.alg (Or.inl hd) (fun h => h2 (by rw [M3.pow2]; exact M3.eq_iff.2 h)) (fun h => h3 ⟨h.1, h.2.1⟩)
  rw [hd] at e
  have k : m.pow 6 = M3.one ↔ (m.mul m).mul (m.mul m) = m.adj.mul m.adj := by
    rw [M3.adj_inv hd]
    conv => rhs; rw [M3.cancel_iff hu, ← M3.mul_assoc m m.inv, M3.mul_inv hu, M3.one_mul, M3.cancel_iff hu, M3.mul_inv hu]
    simp only [M3.pow]; rw [M3.mul_one, M3.mul_assoc m m]
  rw [k, M3.eq_iff]
  refine Iff.trans (show _ ↔ _ from Iff.rfl) (e.trans ?_)
  omega
theorem M3.tr2 {m : M3} (hd : m.det = 1) (h1 : m ≠ M3.one) (h2 : m.pow 2 = M3.one) : m.tr = -1 ∧ m.sm = -1 := by
  have hu : m.U := Or.inl hd
  rw [M3.pow2] at h2
  have hi : m.adj = m := by rw [M3.adj_inv hd]; exact (M3.inv_unique hu h2).symm
  have hs : m.sm = m.tr := by unfold M3.sm; rw [hi]
  have ha := m.alg
  have c0 := ha.ch0; have c1 := ha.ch1; have c2 := ha.ch2; have c3 := ha.ch3; have c4 := ha.ch4; have c5 := ha.ch5; have c6 := ha.ch6; have c7 := ha.ch7; have c8 := ha.ch8
  rw [hi, h2] at c0 c1 c2 c3 c4 c5 c6 c7 c8
  simp only [M3.one] at c0 c1 c2 c3 c4 c5 c6 c7 c8
  rw [hs] at c0 c1 c2 c3 c4 c5 c6 c7 c8 ⊢
  have hz : m.tr + 1 = 0 := by
    by_cases hne : m.tr + 1 = 0
    · exact hne
    · exfalso
      apply h1
      have z : ∀ x : Int, (m.tr + 1) * x = 0 → x = 0 := fun x hx => (Int.mul_eq_zero.1 hx).resolve_left hne
      refine M3.ext' ⟨?_, ?_, ?_, ?_, ?_, ?_, ?_, ?_, ?_⟩ <;> simp only [M3.one]
      · have := z (m.a - 1) (by grind); omega
      · exact z m.b (by grind)
      · exact z m.c (by grind)
      · exact z m.d (by grind)
      · have := z (m.e - 1) (by grind); omega
      · exact z m.f (by grind)
      · exact z m.g (by grind)
      · exact z m.h (by grind)
      · have := z (m.i - 1) (by grind); omega
  omega
theorem W_tr {m : M3} {k : Int} (h : m.Bd k) (hk : k ≤ 1000000000000) : W m.tr = m.tr := by
  unfold M3.Bd at h
  unfold M3.tr
  exact W_in (by omega)
theorem M3.rotW_eq {m : M3} (hok : m.ok = true) (hd : m.det = 1) : m.rotW = m.ordI := by
  have hu : m.U := Or.inl hd
  have hb := M3.ok_iff.1 hok
  have hi := hb.inv hu
  have e1 : m.inv.w.tr = m.sm := by rw [M3.w_eq (hi.mono (by omega)), ← M3.adj_inv hd]; rfl
  have e2 : W m.sm = m.sm := by
    have : m.sm = m.inv.tr := by rw [← M3.adj_inv hd]; rfl
    rw [this]; exact W_tr hi (by omega)
  have e3 : (m.mul m).w = m.mul m := M3.w_eq ((hb.mul hb).mono (by omega))
  unfold M3.rotW M3.ordI
  rw [W_tr hb (by omega), e1, e2, e3, ← M3.pow2]
  by_cases h1 : m = M3.one
  · subst h1; decide
  · have f1 := M3.eqB_false.2 h1
    rw [f1]
    by_cases h2 : m.pow 2 = M3.one
    · obtain ⟨t1, t2⟩ := M3.tr2 hd h1 h2
      rw [M3.eqB_iff.2 h2, t1, t2]; rfl
    · rw [M3.eqB_false.2 h2]
      by_cases h3 : m.tr = 0 ∧ m.sm = 0
      · rw [M3.eqB_iff.2 ((M3.tr3 hd h1).2 h3), h3.1, h3.2]; rfl
      · have g3 : m.pow 3 ≠ M3.one := fun h => h3 ((M3.tr3 hd h1).1 h)
        rw [M3.eqB_false.2 g3]
        by_cases h4 : m.tr = 1 ∧ m.sm = 1
        · rw [M3.eqB_iff.2 ((M3.tr4 hd h2).2 h4), h4.1, h4.2]; rfl
        · have g4 : m.pow 4 ≠ M3.one := fun h => h4 ((M3.tr4 hd h2).1 h)
          rw [M3.eqB_false.2 g4]
          by_cases h6 : m.tr = 2 ∧ m.sm = 2
          · rw [M3.eqB_iff.2 ((M3.tr6 hd h2 h3).2 h6), h6.1, h6.2]; rfl
          · have g6 : m.pow 6 ≠ M3.one := fun h => h6 ((M3.tr6 hd h2 h3).1 h)
            rw [M3.eqB_false.2 g6]
            by_cases hts : m.tr = m.sm
            · rw [← hts] at h3 h4 h6 ⊢
              have a0 : (m.tr == 0) = false := by simp; omega
              have a1 : (m.tr == 1) = false := by simp; omega
              have a2 : (m.tr == 2) = false := by simp; omega
              rw [a0, a1, a2]
              cases m.tr == 3 <;> cases m.tr == -1 <;> simp
            · have : (m.tr != m.sm) = true := by simpa using hts
              rw [this]; rfl
theorem M3.kindW_eq {m : M3} (hok : m.ok = true) (hu : m.U) : m.kindW = m.kindF := by
  unfold M3.kindW M3.kindF
  rw [Wdet hok]
  rcases hu with hd | hd
  · rw [hd, M3.rotW_eq hok hd]; rfl
  · rw [hd, M3.negW_eq (M3.ok_iff.1 hok), M3.rotW_eq (M3.neg_ok hok) (by rw [M3.det_neg, hd]; rfl)]
    have := M3.ordI_bd m.neg
    rw [W_in (by omega), Int.zero_sub]; rfl
/-! ## The order of a matrix of determinant -1 -/
theorem M3.neg_mul_neg (m n : M3) : m.neg.mul n.neg = m.mul n := by
  refine M3.ext' ⟨?_, ?_, ?_, ?_, ?_, ?_, ?_, ?_, ?_⟩ <;> (simp only [M3.mul, M3.neg]; grind)
theorem M3.pow_2 (m : M3) (k : Nat) : m.pow (2 * k) = (m.mul m).pow k := by
  induction k with
  | zero => rfl
  | succ k ih => rw [show 2 * (k + 1) = 2 * k + 1 + 1 by omega]; simp only [M3.pow]; rw [ih, M3.mul_assoc]
theorem M3.neg_pow (m : M3) (k : Nat) : m.neg.pow (2 * k) = m.pow (2 * k) := by rw [M3.pow_2, M3.pow_2, M3.neg_mul_neg]
theorem M3.det_pow_odd {m : M3} (hd : m.det = -1) : ∀ k, (m.pow (2 * k + 1)).det = -1
  | 0 => by simp only [M3.pow]; rw [M3.mul_one]; exact hd
  | k + 1 => by
    rw [show 2 * (k + 1) + 1 = (2 * k + 1) + 1 + 1 by omega]
    simp only [M3.pow] at *
    rw [M3.det_mul, M3.det_mul, hd]
    have := M3.det_pow_odd hd k
    simp only [M3.pow] at this
    rw [this]; rfl
theorem M3.odd_ne {m : M3} (hd : m.det = -1) (k : Nat) : m.pow (2 * k + 1) ≠ M3.one := fun h => by
  have := M3.det_pow_odd hd k
  rw [h, M3.det_one] at this
  omega
theorem orderOf_eq {m : M3} (hu : m.U) : orderOfI m.kindF = m.ordI := by
  unfold M3.kindF
  rcases hu with hd | hd
  · rw [hd]
    simp only [beq_self_eq_true, cond_true]
    have := M3.ordI_bd m
    unfold orderOfI
    by_cases h0 : m.ordI = 0
    · rw [h0]; rfl
    · have : decide (m.ordI > 0) = true := by simp; omega
      rw [this]; rfl
  · have hne : (m.det == 1) = false := by rw [hd]; rfl
    rw [hne]
    simp only [cond_false]
    have key : ∀ k, m.pow (2 * k) = M3.one ↔ m.neg.pow (2 * k) = M3.one := fun k => by rw [M3.neg_pow]
    by_cases h0 : m.neg.ordI = 0
    · rw [h0]
      have hz : m.ordI = 0 := by
        by_cases hz : m.ordI = 0
        · exact hz
        · exfalso
          obtain ⟨n, h1, h2, h3⟩ := M3.ordI_spec hz
          have hp := h2.2.1
          have hev : ∃ k, n = 2 * k ∧ (k = 1 ∨ k = 2 ∨ k = 3) := by
            rcases h3 with rfl | rfl | rfl | rfl | rfl
            · exact absurd hp (M3.odd_ne hd 0)
            · exact ⟨1, rfl, by omega⟩
            · exact absurd hp (M3.odd_ne hd 1)
            · exact ⟨2, rfl, by omega⟩
            · exact ⟨3, rfl, by omega⟩
          obtain ⟨k, rfl, hk⟩ := hev
          have hq := (key k).1 hp
          have : m.neg.ordI ≠ 0 := by
            unfold M3.ordI
            cases a1 : m.neg.eqB M3.one with
            | true => simp
            | false =>
              rcases hk with rfl | rfl | rfl
              · rw [M3.eqB_iff.2 hq]; simp
              · cases (m.neg.pow 2).eqB M3.one <;> cases (m.neg.pow 3).eqB M3.one <;> simp [M3.eqB_iff.2 hq]
              · cases (m.neg.pow 2).eqB M3.one <;> cases (m.neg.pow 3).eqB M3.one <;> cases (m.neg.pow 4).eqB M3.one <;> simp [M3.eqB_iff.2 hq]
          exact this h0
      rw [hz]; rfl
    · obtain ⟨n, h1, h2, h3⟩ := M3.ordI_spec h0
      have hord : ∀ N : Nat, (∀ k, N ∣ 2 * k ↔ n ∣ 2 * k) → (∃ k, N = 2 * k) → 0 < N → m.IsOrd N := by
        intro N hN hev hpos
        obtain ⟨k, hk⟩ := hev
        refine ⟨hpos, ?_, fun j j1 j2 hj => ?_⟩
        · rw [hk, key, h2.dvd, ← hN, hk]; exact Nat.dvd_refl _
        · have hp : j = 2 * (j / 2) ∨ j = 2 * (j / 2) + 1 := by omega
          rcases hp with hp | hp
          · rw [hp, key, h2.dvd, ← hN] at hj
            have := Nat.le_of_dvd (by omega) hj
            omega
          · rw [hp] at hj; exact M3.odd_ne hd _ hj
      rw [h1]
      rcases h3 with rfl | rfl | rfl | rfl | rfl
      · rw [M3.ordI_of (hord 2 (fun k => by omega) ⟨1, rfl⟩ (by omega)) (by omega)]; rfl
      · rw [M3.ordI_of (hord 2 (fun k => by omega) ⟨1, rfl⟩ (by omega)) (by omega)]; rfl
      · rw [M3.ordI_of (hord 6 (fun k => by omega) ⟨3, rfl⟩ (by omega)) (by omega)]; rfl
      · rw [M3.ordI_of (hord 4 (fun k => Iff.rfl) ⟨2, rfl⟩ (by omega)) (by omega)]; rfl
      · rw [M3.ordI_of (hord 6 (fun k => Iff.rfl) ⟨3, rfl⟩ (by omega)) (by omega)]; rfl
/-! ## Sums of translations -/
def sendL (o : O3) : Nat → V3 → V3
  | 0, s => s
  | k + 1, s => sendL o k (o.send s)
/-- The document's: the sum, and the next of its terms. -/
def docL (o : O3) : Nat → V3 × V3 → V3 × V3
  | 0, x => x
  | k + 1, x => docL o k (((x.1.add x.2).w).md 24, ((o.r.app x.2).w).md 24)
def V3.eq24 (u v : V3) : Prop := u.md 24 = v.md 24
theorem app_md (m : M3) (v : V3) : (m.app (v.md 24)).md 24 = (m.app v).md 24 := by
  unfold M3.app V3.md
  simp only [V3.mk.injEq]
  refine ⟨?_, ?_, ?_⟩ <;> simp [Int.add_emod, Int.mul_emod]
theorem md_add_md2 (u v : V3) : ((u.md 24).add (v.md 24)).md 24 = (u.add v).md 24 := by
  unfold V3.md V3.add
  simp only [V3.mk.injEq]
  omega
theorem V3.add_comm (u v : V3) : u.add v = v.add u := by unfold V3.add; simp only [V3.mk.injEq]; omega
theorem V3.add_assoc (u v x : V3) : (u.add v).add x = u.add (v.add x) := by unfold V3.add; simp only [V3.mk.injEq]; omega
/-- Sums of the first powers' translations. -/
def sumP (o : O3) : Nat → V3
  | 0 => V3.zero
  | k + 1 => (sumP o k).add ((o.r.pow k).app o.t)
theorem sumP_front (o : O3) : ∀ k, ((o.r.app (sumP o k)).add o.t) = sumP o (k + 1)
  | 0 => by
    simp only [sumP, M3.pow]
    rw [M3.app_one]
    unfold M3.app V3.zero V3.add
    simp
  | k + 1 => by
    rw [sumP, M3.app_add, V3.add_assoc, V3.add_comm _ o.t, ← V3.add_assoc, sumP_front o k, ← M3.app_mul]
    rfl
theorem V3.bd_md (v : V3) : (v.md 24).Bd 24 := by unfold V3.Bd V3.md; simp only; omega
theorem send_sum {o : O3} (ho : o.r.ok = true) : ∀ (k j : Nat), sendL o k ((sumP o j).md 24) = (sumP o (j + k)).md 24
  | 0, j => rfl
  | k + 1, j => by
    simp only [sendL]
    rw [O3.send_eq ho (V3.part_ok (V3.md_part _)), ← md_add_md, app_md, md_add_md, sumP_front, send_sum ho k (j + 1)]
    congr 2; omega
theorem doc_sum {o : O3} (ho : o.r.ok = true) : ∀ (k j : Nat), (docL o k ((sumP o j).md 24, ((o.r.pow j).app o.t).md 24)).1 = (sumP o (j + k)).md 24
  | 0, j => rfl
  | k + 1, j => by
    simp only [docL]
    have b1 : (((sumP o j).md 24).add (((o.r.pow j).app o.t).md 24)).Bd 48 := (V3.bd_md _).add (V3.bd_md _)
    have b2 : (o.r.app (((o.r.pow j).app o.t).md 24)).Bd (3 * (1000 * 24)) := (M3.ok_iff.1 ho).app (V3.bd_md _)
    rw [V3.w_eq (b1.mono (by omega)), V3.w_eq (b2.mono (by omega)), md_add_md2, app_md, ← M3.app_mul]
    have := doc_sum ho k (j + 1)
    simp only [sumP, M3.pow] at this
    rw [this]
    congr 2; omega
/-! ## How often a translation -/
def findM (s : V3) : Nat → Int → Int
  | 0, n => n
  | k + 1, n => match ((s.smul n).md 24).eqB V3.zero with
    | true => n
    | false => findM s k (n + 1)
theorem hit_iff (s : V3) (n : Int) : ((s.smul n).md 24).eqB V3.zero = true ↔ 24 ∣ n * s.x ∧ 24 ∣ n * s.y ∧ 24 ∣ n * s.z := by
  rw [V3.eqB_iff]
  unfold V3.smul V3.md V3.zero
  simp only [V3.mk.injEq, Int.dvd_iff_emod_eq_zero]
theorem findM_of {s : V3} {d : Int} (hd : ∀ n : Int, 0 < n → (((s.smul n).md 24).eqB V3.zero = true ↔ d ∣ n)) (hpos : 0 < d) : ∀ (k : Nat) (n : Int), 0 < n → n ≤ d → d ≤ n + k → findM s k n = d
  | 0, n, h0, h1, h2 => by simp only [findM]; omega
  | k + 1, n, h0, h1, h2 => by
    simp only [findM]
    cases hc : ((s.smul n).md 24).eqB V3.zero with
    | true =>
      have := (hd n h0).1 hc
      have := Int.le_of_dvd h0 this
      simp only; omega
    | false =>
      simp only
      have hne : n ≠ d := fun e => by
        subst e
        have := (hd n h0).2 (Int.dvd_refl _)
        rw [hc] at this; cases this
      exact findM_of hd hpos k (n + 1) (by omega) (by omega) (by omega)
theorem dvd_gcd_mul {a n x y : Int} (hx : a ∣ n * x) (hy : a ∣ n * y) : a ∣ n * (Int.gcd x y : Int) := by
  have h : a ∣ (Int.gcd (n * x) (n * y) : Int) := Int.dvd_coe_gcd hx hy
  rw [Int.gcd_mul_left] at h
  have h2 : ((n.natAbs * Int.gcd x y : Nat) : Int) = (n.natAbs : Int) * (Int.gcd x y : Int) := by simp
  rw [h2] at h
  rcases Int.natAbs_eq n with e | e
  · rw [e]; exact h
  · rw [e, Int.neg_mul]; exact Int.dvd_neg.2 h
def gcd3 (s : V3) : Int := (Int.gcd (Int.gcd (Int.gcd 24 s.x : Int) s.y : Int) s.z : Int)
theorem gcd3_spec (s : V3) : gcd3 s ∣ 24 ∧ gcd3 s ∣ s.x ∧ gcd3 s ∣ s.y ∧ gcd3 s ∣ s.z ∧ 0 < gcd3 s := by
  have a1 : gcd3 s ∣ (Int.gcd (Int.gcd 24 s.x : Int) s.y : Int) := Int.gcd_dvd_left ..
  have a2 : gcd3 s ∣ s.z := Int.gcd_dvd_right ..
  have b1 : (Int.gcd (Int.gcd 24 s.x : Int) s.y : Int) ∣ (Int.gcd 24 s.x : Int) := Int.gcd_dvd_left ..
  have b2 : (Int.gcd (Int.gcd 24 s.x : Int) s.y : Int) ∣ s.y := Int.gcd_dvd_right ..
  have c1 : (Int.gcd 24 s.x : Int) ∣ 24 := Int.gcd_dvd_left ..
  have c2 : (Int.gcd 24 s.x : Int) ∣ s.x := Int.gcd_dvd_right ..
  have d1 := Int.dvd_trans a1 (Int.dvd_trans b1 c1)
  refine ⟨d1, Int.dvd_trans a1 (Int.dvd_trans b1 c2), Int.dvd_trans a1 b2, a2, ?_⟩
  have h0 : 0 ≤ gcd3 s := by unfold gcd3; omega
  rcases Int.lt_or_eq_of_le h0 with h | h
  · exact h
  · rw [← h] at d1
    obtain ⟨q, hq⟩ := d1
    rw [Int.zero_mul] at hq
    omega
theorem find_eq (s : V3) : findM s 23 1 = 24 / gcd3 s := by
  obtain ⟨g0, g1, g2, g3, gp⟩ := gcd3_spec s
  obtain ⟨d, hd⟩ := g0
  have hdd : (24 : Int) / gcd3 s = d := by rw [hd]; exact Int.mul_ediv_cancel_left d (by omega)
  rw [hdd]
  have dpos : 0 < d := by
    rcases Int.lt_or_le 0 d with h | h
    · exact h
    · have := Int.mul_nonpos_of_nonneg_of_nonpos (Int.le_of_lt gp) h
      omega
  have dle : d ≤ 24 := by
    have : d ∣ 24 := ⟨gcd3 s, by rw [hd, Int.mul_comm]⟩
    exact Int.le_of_dvd (by omega) this
  refine findM_of ?_ dpos 23 1 (by omega) (by omega) (by omega)
  intro n hn
  rw [hit_iff]
  constructor
  · rintro ⟨h1, h2, h3⟩
    have k1 : (24 : Int) ∣ n * (Int.gcd 24 s.x : Int) := dvd_gcd_mul ⟨n, by rw [Int.mul_comm]⟩ h1
    have k2 := dvd_gcd_mul k1 h2
    have k3 := dvd_gcd_mul k2 h3
    obtain ⟨q, hq⟩ := k3
    have : gcd3 s * n = gcd3 s * (d * q) := by
      rw [Int.mul_comm, ← Int.mul_assoc, ← hd]; exact hq
    exact ⟨q, Int.eq_of_mul_eq_mul_left (by omega) this⟩
  · rintro ⟨q, rfl⟩
    have k : ∀ x : Int, gcd3 s ∣ x → 24 ∣ d * q * x := by
      rintro x ⟨y, rfl⟩
      exact ⟨q * y, by rw [hd]; grind⟩
    exact ⟨k _ g1, k _ g2, k _ g3⟩
/-! ## Order -/
def O3.sum (o : O3) (n : Nat) : V3 := (sumP o n).md 24
def O3.ordF (o : O3) : Int := bif o.ck == 0 then (bif o.r.ordI == 0 then 0 else o.r.ordI * (24 / gcd3 (o.sum o.r.ordI.toNat))) else 0
def O3.ordE (o : O3) : Int := bif o.ck == 0 then (bif o.r.ordI == 0 then 9 else 0) else o.ck
def fOOrder (o : O3) : Value := p2 (vI o.ordF) (vI o.ordE)
def rng24 (n : Int) : Bool := decide (1 ≤ n) && decide (n ≤ 24)
def tOOrder (o : O3) : Option Value := match o.ck != 0 with
  | true => some (p2 (vI 0) (vI o.ck))
  | false => match o.r.ordE != 0 with
    | true => some (p2 (vI 0) (vI o.r.ordE))
    | false => onO (rngB 0 o.r.ordF) (onO (rng24 1) (some (p2 (vI (W (o.r.ordF * findM (sendL o (o.r.ordF - 0).toNat V3.zero) (24 - 1 : Int).toNat 1))) (vI 0))))
theorem gcd3_div (s : V3) : 1 ≤ 24 / gcd3 s ∧ 24 / gcd3 s ≤ 24 := by
  obtain ⟨⟨d, hd⟩, _, _, _, gp⟩ := gcd3_spec s
  have hdd : (24 : Int) / gcd3 s = d := by rw [hd]; exact Int.mul_ediv_cancel_left d (by omega)
  rw [hdd]
  have dpos : 0 < d := by
    rcases Int.lt_or_le 0 d with h | h
    · exact h
    · have := Int.mul_nonpos_of_nonneg_of_nonpos (Int.le_of_lt gp) h
      omega
  have : d ∣ 24 := ⟨gcd3 s, by rw [hd, Int.mul_comm]⟩
  exact ⟨by omega, Int.le_of_dvd (by omega) this⟩
theorem ord_ff {o : O3} (h : o.ck = 0) : o.r.ordF = o.r.ordI ∧ o.r.ordE = bif o.r.ordI == 0 then 9 else 0 := by
  obtain ⟨_, a2, a3⟩ := O3.ck_zero.1 h
  unfold M3.ordF M3.ordE
  rw [M3.form_zero.2 ⟨a2, a3⟩]; exact ⟨rfl, rfl⟩
theorem sumP_zero (o : O3) : (sumP o 0).md 24 = V3.zero := rfl
theorem tOOrder_eq (o : O3) : tOOrder o = some (fOOrder o) := by
  unfold tOOrder fOOrder O3.ordF O3.ordE
  by_cases h : o.ck = 0
  · obtain ⟨_, a2, a3⟩ := O3.ck_zero.1 h
    rw [(ord_ff h).1, (ord_ff h).2, h]
    by_cases h0 : o.r.ordI = 0
    · rw [h0]; rfl
    · have hb := M3.ordI_bd o.r
      have e0 : (o.r.ordI == 0) = false := by simpa using h0
      rw [e0]
      have hr : rngB 0 o.r.ordI = true := rngB_iff.2 (by omega)
      simp only [bne_self_eq_false, beq_self_eq_true, cond_true, cond_false]
      rw [onO_true hr, onO_true (by decide), show (o.r.ordI - 0).toNat = o.r.ordI.toNat by omega]
      have hs : sendL o o.r.ordI.toNat V3.zero = o.sum o.r.ordI.toNat := by
        have := send_sum a2 o.r.ordI.toNat 0
        rw [sumP_zero, Nat.zero_add] at this; exact this
      rw [hs, show (24 - 1 : Int).toNat = 23 from rfl, find_eq]
      have hg := gcd3_div (o.sum o.r.ordI.toNat)
      have := bd_mul (m := 6) (n := 24) (x := o.r.ordI) (y := 24 / gcd3 (o.sum o.r.ordI.toNat)) (by omega) (by omega)
      rw [W_in (by omega)]
  · rw [(bif_beq h).1, (bif_beq h).2]; rfl
def posB (a : Int) : Bool := decide (0 ≤ a)
def tGcd (a b : Int) : Option Value := onO (posB a && posB b) (some (vI (Int.gcd a b : Int)))
theorem tGcd_eq {a b : Int} (h : (posB a && posB b) = true) : tGcd a b = some (vI (Int.gcd a b : Int)) := by unfold tGcd; rw [onO_true h]
def docEnd (n : Int) (s : V3) : Option Value :=
  onO (posB 24 && posB s.x) (onO (posB (Int.gcd 24 s.x : Int) && posB s.y) (onO (posB (Int.gcd (Int.gcd 24 s.x : Int) s.y : Int) && posB s.z)
    (match gcd3 s == 0 with
      | true => none
      | false => some (p2 (vI (W (n * W (Int.tdiv 24 (gcd3 s))))) (vI 0)))))
def tDocOrder (o : O3) : Option Value := match o.ck != 0 with
  | true => some (p2 (vI 0) (vI o.ck))
  | false => match orderOfI o.r.kindW == 0 with
    | true => some (p2 (vI 0) (vI 9))
    | false => onO (rngB 0 (orderOfI o.r.kindW)) (docEnd (orderOfI o.r.kindW) (docL o (orderOfI o.r.kindW - 0).toNat (V3.zero, o.t)).1)
theorem posB_gcd (a b : Int) : posB (Int.gcd a b : Int) = true := by unfold posB; simp
theorem tDocOrder_eq (o : O3) : tDocOrder o = some (fOOrder o) := by
  unfold tDocOrder fOOrder O3.ordF O3.ordE
  by_cases h : o.ck = 0
  · obtain ⟨a1, a2, a3⟩ := O3.ck_zero.1 h
    rw [M3.kindW_eq a2 a3, orderOf_eq a3, h]
    by_cases h0 : o.r.ordI = 0
    · rw [h0]; rfl
    · have hb := M3.ordI_bd o.r
      have e0 : (o.r.ordI == 0) = false := by simpa using h0
      rw [e0]
      have hr : rngB 0 o.r.ordI = true := rngB_iff.2 (by omega)
      simp only [bne_self_eq_false, beq_self_eq_true, cond_true, cond_false]
      rw [onO_true hr, show (o.r.ordI - 0).toNat = o.r.ordI.toNat by omega]
      have hs : (docL o o.r.ordI.toNat (V3.zero, o.t)).1 = o.sum o.r.ordI.toNat := by
        have := doc_sum a2 o.r.ordI.toNat 0
        rw [sumP_zero, Nat.zero_add] at this
        simp only [M3.pow] at this
        rw [M3.app_one, V3.part_md a1] at this
        exact this
      rw [hs]
      unfold docEnd
      have hp := V3.part_iff.1 (show (o.sum o.r.ordI.toNat).part = true from V3.md_part _)
      have q1 : posB (o.sum o.r.ordI.toNat).x = true := by unfold posB; simp; omega
      have q2 : posB (o.sum o.r.ordI.toNat).y = true := by unfold posB; simp; omega
      have q3 : posB (o.sum o.r.ordI.toNat).z = true := by unfold posB; simp; omega
      rw [posB_gcd, posB_gcd, q1, q2, q3]
      obtain ⟨g0, _, _, _, gp⟩ := gcd3_spec (o.sum o.r.ordI.toNat)
      have hne : (gcd3 (o.sum o.r.ordI.toNat) == 0) = false := by simp; omega
      rw [hne]
      have hg := gcd3_div (o.sum o.r.ordI.toNat)
      have htd : Int.tdiv 24 (gcd3 (o.sum o.r.ordI.toNat)) = 24 / gcd3 (o.sum o.r.ordI.toNat) := Int.tdiv_eq_ediv_of_nonneg (by omega)
      have := bd_mul (m := 6) (n := 24) (x := o.r.ordI) (y := 24 / gcd3 (o.sum o.r.ordI.toNat)) (by omega) (by omega)
      rw [htd, W_in (n := 24 / gcd3 (o.sum o.r.ordI.toNat)) (by omega), W_in (by omega)]
      rfl
  · rw [(bif_beq h).1, (bif_beq h).2]; rfl
def tDocKind (o : O3) : Option Value := match o.ck != 0 with
  | true => some (p2 (vI 0) (vI o.ck))
  | false => match o.r.kindW == 0 with
    | true => some (p2 (vI 0) (vI 9))
    | false => some (p2 (vI o.r.kindW) (vI 0))
theorem tDocKind_eq (o : O3) : tDocKind o = some (fKind o) := by
  unfold tDocKind fKind O3.kindF O3.kindE M3.kindE
  by_cases h : o.ck = 0
  · obtain ⟨a1, a2, a3⟩ := O3.ck_zero.1 h
    rw [M3.kindW_eq a2 a3, h]
    by_cases h0 : o.r.kindF = 0
    · rw [h0]; rfl
    · rw [(bif_beq h0).1]; rfl
  · rw [(bif_beq h).1, (bif_beq h).2]; rfl
end Go.Proofs.Ytjpfnfckpgilgaa.Vx


namespace Go.Proofs.Ytjpfnfckpgilgaa.Vx
open Go

theorem md_app_add (m : M3) (u v : V3) : ((m.app (u.md 24)).add v).md 24 = ((m.app u).add v).md 24 := by
  rw [← md_add_md, app_md, md_add_md]
theorem V3.md_add_right (u v : V3) : (u.add (v.md 24)).md 24 = (u.add v).md 24 := by rw [V3.add_comm, md_add_md, V3.add_comm]
theorem O3.ext' {a b : O3} (h1 : a.r = b.r) (h2 : a.t = b.t) : a = b := by cases a; cases b; simp only at h1 h2; rw [h1, h2]
theorem O3.mul_assoc (a b c : O3) : (a.mul b).mul c = a.mul (b.mul c) := by
  refine O3.ext' (M3.mul_assoc _ _ _) ?_
  simp only [O3.mul]
  rw [md_app_add, M3.app_add, ← M3.app_mul, V3.md_add_right, V3.add_assoc]
theorem V3.zero_add (v : V3) : V3.zero.add v = v := by unfold V3.add V3.zero; simp
theorem M3.app_zero (m : M3) : m.app V3.zero = V3.zero := by unfold M3.app V3.zero; simp
theorem O3.mul_one {a : O3} (h : a.t.part = true) : a.mul O3.one = a := by
  refine O3.ext' (M3.mul_one _) ?_
  simp only [O3.mul, O3.one]
  rw [M3.app_zero, V3.zero_add, V3.part_md h]
theorem O3.one_mul {a : O3} (h : a.t.part = true) : O3.one.mul a = a := by
  refine O3.ext' (M3.one_mul _) ?_
  simp only [O3.mul, O3.one]
  rw [M3.app_one, V3.add_zero, V3.part_md h]
theorem V3.neg_add (v : V3) : v.neg.add v = V3.zero := by unfold V3.neg V3.add V3.zero; simp only [V3.mk.injEq]; omega
theorem O3.mul_inv {a : O3} (hu : a.r.U) : a.mul a.inv = O3.one := by
  refine O3.ext' (M3.mul_inv hu) ?_
  simp only [O3.mul, O3.inv, O3.one]
  rw [md_app_add, M3.app_neg, ← M3.app_mul, M3.mul_inv hu, M3.app_one, V3.neg_add]
  rfl
theorem neg_md (v : V3) : ((v.md 24).neg).md 24 = v.neg.md 24 := by unfold V3.md V3.neg; simp only [V3.mk.injEq]; omega
theorem V3.neg_neg (v : V3) : v.neg.neg = v := by unfold V3.neg; simp
theorem V3.add_neg (v : V3) : v.add v.neg = V3.zero := by rw [V3.add_comm, V3.neg_add]
theorem O3.inv_mul {a : O3} (hu : a.r.U) : a.inv.mul a = O3.one := by
  refine O3.ext' (M3.inv_mul hu) ?_
  simp only [O3.mul, O3.inv, O3.one]
  rw [V3.md_add_right, V3.add_neg]
  rfl
theorem O3.inv_inv {a : O3} (hu : a.r.U) (h : a.t.part = true) : a.inv.inv = a := by
  refine O3.ext' (M3.inv_inv hu) ?_
  simp only [O3.inv]
  rw [M3.inv_inv hu, ← neg_md, app_md, neg_md, M3.app_neg, V3.neg_neg, ← M3.app_mul, M3.mul_inv hu, M3.app_one, V3.part_md h]
/-! Places -/
theorem form_m {p : P3} (h : p.form = true) : p.m = 24 * (p.m / 24) ∧ 0 < p.m / 24 := by
  have := (P3.form_spec h).1
  rcases this with e | e | e | e <;> rw [e] <;> decide
theorem O3.app_form {o : O3} {p : P3} (h : p.form = true) : (o.app p).form = true := by
  unfold P3.form at h ⊢
  rw [Bool.and_eq_true] at h
  simp only [O3.app, h.1, md_md, V3.eqB_refl, Bool.and_self]
theorem app_md' (k : Int) (m : M3) (v : V3) : (m.app (v.md k)).md k = (m.app v).md k := by
  unfold M3.app V3.md
  simp only [V3.mk.injEq]
  refine ⟨?_, ?_, ?_⟩ <;> simp [Int.add_emod, Int.mul_emod]
theorem V3.md_add_r (k : Int) (u v : V3) : (u.add (v.md k)).md k = (u.add v).md k := by rw [V3.add_comm, md_add_md, V3.add_comm]
theorem smul_md (k : Int) (v : V3) : ((v.md 24).smul k).md (24 * k) = (v.smul k).md (24 * k) := by
  unfold V3.smul V3.md
  simp only [V3.mk.injEq]
  have key : ∀ x : Int, k * (x % 24) % (24 * k) = k * x % (24 * k) := fun x => by
    have e : x = 24 * (x / 24) + x % 24 := (Int.mul_ediv_add_emod x 24).symm
    have e2 : k * x = k * (x % 24) + (24 * k) * (x / 24) := by
      conv => lhs; rw [e]
      grind
    rw [e2, Int.add_mul_emod_self_left]
  exact ⟨key _, key _, key _⟩
theorem smul_add (k : Int) (u v : V3) : (u.add v).smul k = (u.smul k).add (v.smul k) := by
  unfold V3.smul V3.add; simp only [V3.mk.injEq]; exact ⟨Int.mul_add _ _ _, Int.mul_add _ _ _, Int.mul_add _ _ _⟩
theorem app_smul (k : Int) (m : M3) (v : V3) : m.app (v.smul k) = (m.app v).smul k := by
  unfold V3.smul M3.app; simp only [V3.mk.injEq]; refine ⟨?_, ?_, ?_⟩ <;> grind
theorem O3.app_mul (a b : O3) {p : P3} (h : p.form = true) : (a.mul b).app p = a.app (b.app p) := by
  obtain ⟨hm, _⟩ := form_m h
  unfold O3.app
  simp only [O3.mul, P3.mk.injEq, true_and]
  generalize p.m / 24 = k at *
  rw [hm]
  rw [← md_add_md (24 * k) (a.r.app _), app_md', md_add_md, M3.app_add, app_smul, M3.app_mul, V3.add_assoc, ← smul_add, ← V3.md_add_r _ (a.r.app (b.r.app p.x)), smul_md k, V3.md_add_r]
/-! Closed forms in form -/
theorem O3.mulF_of {a b : O3} (ha : a.ck = 0) (hb : b.ck = 0) (h : a.mulE b = 0) : a.mulF b = a.mul b ∧ (a.mul b).ck = 0 := by
  obtain ⟨e1, e2⟩ := O3.mulF_eq ha hb
  rw [e2] at h
  have hok := O3.smallE_zero.1 h
  exact ⟨by rw [e1, O3.small_ok hok], O3.ck_mul ha hb hok⟩
theorem O3.mul_id {o : O3} (ho : o.ck = 0) : o.mulE O3.one = 0 ∧ o.mulF O3.one = o := by
  obtain ⟨a1, a2, a3⟩ := O3.ck_zero.1 ho
  obtain ⟨e1, e2⟩ := O3.mulF_eq ho O3.ck_one
  rw [O3.mul_one a1] at e1 e2
  exact ⟨e2.trans (O3.smallE_zero.2 a2), e1.trans (O3.small_ok a2)⟩
theorem O3.id_mul {o : O3} (ho : o.ck = 0) : O3.one.mulE o = 0 ∧ O3.one.mulF o = o := by
  obtain ⟨a1, a2, a3⟩ := O3.ck_zero.1 ho
  obtain ⟨e1, e2⟩ := O3.mulF_eq O3.ck_one ho
  rw [O3.one_mul a1] at e1 e2
  exact ⟨e2.trans (O3.smallE_zero.2 a2), e1.trans (O3.small_ok a2)⟩
theorem O3.invF_of {a : O3} (ha : a.ck = 0) (h : a.invE = 0) : a.invF = a.inv ∧ a.inv.ck = 0 := by
  unfold O3.invE at h
  unfold O3.invF
  rw [ha] at h ⊢
  have hok := O3.smallE_zero.1 h
  exact ⟨by rw [O3.small_ok hok]; rfl, O3.ck_inv ha hok⟩
theorem O3.one_ok : O3.one.r.ok = true := by decide
theorem beq_true {x : Int} (h : x = 0) : (x == 0) = true ∧ (x != 0) = false := by subst h; exact ⟨rfl, rfl⟩

/-! The statement's tests, in its order -/
def grp1 (o : O3) (K : Option Value) : Option Value := match !(o.ck == 0) with
  | true => some (.bool true)
  | false => guardF [o.mulE O3.one != 0, O3.one.mulE o != 0, !((o.mulF O3.one).eqB o), !((O3.one.mulF o).eqB o)] K
def grp2 (a b c : O3) (K : Option Value) : Option Value := match a.mulE b == 0 with
  | true => match b.mulE c == 0 with
    | true => guardF [(a.mulF b).mulE c != a.mulE (b.mulF c), !(((a.mulF b).mulF c).eqB (a.mulF (b.mulF c)))] K
    | false => K
  | false => K
def grp3 (a : O3) (K : Option Value) : Option Value := match a.invE == 0 with
  | true => guardF [a.mulE a.invF != 0, a.invF.mulE a != 0, a.invF.invE != 0, !((a.mulF a.invF).eqB O3.one), !((a.invF.mulF a).eqB O3.one), !(a.invF.invF.eqB a)] K
  | false => K
def grp4 (a b : O3) (p : P3) : Option Value := match a.mulE b != 0 with
  | true => some (.bool true)
  | false => match !p.form with
    | true => some (.bool true)
    | false => match (a.mulF b).appE p == 0 with
      | true => match b.appE p == 0 with
        | true => match a.appE (b.appF p) == 0 with
          | true => some (.bool (((a.mulF b).appF p).eqB (a.appF (b.appF p))))
          | false => some (.bool false)
        | false => some (.bool false)
      | false => some (.bool false)
def tOpGroups (a b c : O3) (p : P3) : Option Value := grp1 a (grp1 b (grp1 c (grp2 a b c (grp3 a (grp4 a b p)))))
theorem grp1_true {o : O3} {K : Option Value} (hK : o.ck = 0 → K = some (.bool true)) : grp1 o K = some (.bool true) := by
  unfold grp1
  by_cases h : o.ck = 0
  · obtain ⟨a1, a2⟩ := O3.mul_id h
    obtain ⟨b1, b2⟩ := O3.id_mul h
    rw [a1, a2, b1, b2, h, O3.eqB_refl]
    exact hK h
  · rw [(bif_beq h).1]; rfl
theorem grp2_true {a b c : O3} (ha : a.ck = 0) (hb : b.ck = 0) (hc : c.ck = 0) {K : Option Value} : grp2 a b c K = K := by
  unfold grp2
  by_cases h1 : a.mulE b = 0
  · by_cases h2 : b.mulE c = 0
    · obtain ⟨e1, k1⟩ := O3.mulF_of ha hb h1
      obtain ⟨e2, k2⟩ := O3.mulF_of hb hc h2
      obtain ⟨f1, f2⟩ := O3.mulF_eq k1 hc
      obtain ⟨g1, g2⟩ := O3.mulF_eq ha k2
      rw [e1, e2, f1, f2, g1, g2, O3.mul_assoc, h1, h2, O3.eqB_refl, bne_self_eq_false]
      rfl
    · rw [(beq_true h1).1, (bif_beq h2).1]
  · rw [(bif_beq h1).1]
theorem grp3_true {a : O3} (ha : a.ck = 0) {K : Option Value} : grp3 a K = K := by
  unfold grp3
  obtain ⟨p1, p2, p3⟩ := O3.ck_zero.1 ha
  by_cases h1 : a.invE = 0
  · obtain ⟨e1, k1⟩ := O3.invF_of ha h1
    obtain ⟨f1, f2⟩ := O3.mulF_eq ha k1
    obtain ⟨g1, g2⟩ := O3.mulF_eq k1 ha
    have hii : a.inv.invE = 0 ∧ a.inv.invF = a := by
      unfold O3.invE O3.invF
      rw [k1, O3.inv_inv p3 p1]
      exact ⟨O3.smallE_zero.2 p2, O3.small_ok p2⟩
    have s1 : O3.one.small = O3.one := O3.small_ok O3.one_ok
    have s2 : O3.one.smallE = 0 := O3.smallE_zero.2 O3.one_ok
    rw [e1, f1, f2, g1, g2, hii.1, hii.2, O3.mul_inv p3, O3.inv_mul p3, s1, s2, h1, O3.eqB_refl, O3.eqB_refl]
    rfl
  · rw [(bif_beq h1).1]
theorem O3.appF_of {o : O3} {p : P3} (ho : o.ck = 0) (hp : p.form = true) : o.appE p = 0 ∧ o.appF p = o.app p := by
  have : o.appE p = 0 := by unfold O3.appE; rw [hp, ho]; rfl
  refine ⟨this, ?_⟩
  unfold O3.appF; rw [this]; rfl
theorem grp4_true {a b : O3} {p : P3} (ha : a.ck = 0) (hb : b.ck = 0) : grp4 a b p = some (.bool true) := by
  unfold grp4
  by_cases h1 : a.mulE b = 0
  · obtain ⟨e1, k1⟩ := O3.mulF_of ha hb h1
    cases hp : p.form with
    | false => rw [h1]; rfl
    | true =>
      obtain ⟨x1, x2⟩ := O3.appF_of k1 hp
      obtain ⟨y1, y2⟩ := O3.appF_of hb hp
      obtain ⟨z1, z2⟩ := O3.appF_of ha (O3.app_form (o := b) hp)
      rw [e1, x1, x2, y1, y2, z1, z2, h1, O3.app_mul a b hp, P3.eqB_refl]
      rfl
  · rw [(bif_beq h1).2]
theorem tOpGroups_true (a b c : O3) (p : P3) : tOpGroups a b c p = some (.bool true) := by
  unfold tOpGroups
  refine grp1_true fun ha => grp1_true fun hb => grp1_true fun hc => ?_
  rw [grp2_true ha hb hc, grp3_true ha, grp4_true ha hb]
end Go.Proofs.Ytjpfnfckpgilgaa.Vx


namespace Go.Proofs.Ytjpfnfckpgilgaa.Vx
open Go

def lexI : List Int → List Int → Int
  | a :: l, b :: m => if a < b then -1 else if a > b then 1 else lexI l m
  | _, _ => 0
def O3.l (o : O3) : List Int := [o.r.a, o.r.b, o.r.c, o.r.d, o.r.e, o.r.f, o.r.g, o.r.h, o.r.i, o.t.x, o.t.y, o.t.z]
theorem lexI_cases : ∀ (l m : List Int), lexI l m = -1 ∨ lexI l m = 0 ∨ lexI l m = 1
  | [], _ => Or.inr (Or.inl (by simp [lexI]))
  | _ :: _, [] => Or.inr (Or.inl (by simp [lexI]))
  | a :: l, b :: m => by
    simp only [lexI]
    split
    · exact Or.inl rfl
    · split
      · exact Or.inr (Or.inr rfl)
      · exact lexI_cases l m
theorem lexI_neg : ∀ (l m : List Int), lexI m l = -lexI l m
  | [], [] => rfl
  | [], _ :: _ => rfl
  | _ :: _, [] => rfl
  | a :: l, b :: m => by
    simp only [lexI]
    by_cases h1 : a < b
    · rw [if_pos h1, if_neg (by omega), if_pos (by omega)]; rfl
    · by_cases h2 : a > b
      · rw [if_pos (by omega), if_neg h1, if_pos h2]
      · rw [if_neg (by omega), if_neg (by omega), if_neg h1, if_neg h2]; exact lexI_neg l m
theorem lexI_zero : ∀ {l m : List Int}, l.length = m.length → (lexI l m = 0 ↔ l = m)
  | [], [], _ => by simp [lexI]
  | [], _ :: _, h => by simp at h
  | _ :: _, [], h => by simp at h
  | a :: l, b :: m, h => by
    simp only [lexI, List.cons.injEq]
    have ih := lexI_zero (l := l) (m := m) (by simpa using h)
    by_cases h1 : a < b
    · rw [if_pos h1]; constructor
      · intro h; omega
      · intro h; omega
    · by_cases h2 : a > b
      · rw [if_neg h1, if_pos h2]; constructor
        · intro h; omega
        · intro h; omega
      · rw [if_neg h1, if_neg h2, ih]
        constructor
        · intro h; exact ⟨by omega, h⟩
        · intro h; exact h.2
theorem lexI_trans : ∀ {l m n : List Int}, l.length = m.length → m.length = n.length → lexI l m ≤ 0 → lexI m n ≤ 0 → lexI l n ≤ 0
  | [], _, _, _, _, _, _ => by simp [lexI]
  | _ :: _, [], _, h, _, _, _ => by simp at h
  | _ :: _, _ :: _, [], _, h, _, _ => by simp at h
  | a :: l, b :: m, c :: n, h1, h2, h3, h4 => by
    simp only [lexI] at h3 h4 ⊢
    split at h3
    · split at h4
      · rw [if_pos (by omega)]; omega
      · split at h4
        · omega
        · rw [if_pos (by omega)]; omega
    · split at h3
      · omega
      · split at h4
        · rw [if_pos (by omega)]; omega
        · split at h4
          · omega
          · rw [if_neg (by omega), if_neg (by omega)]
            exact lexI_trans (by simpa using h1) (by simpa using h2) h3 h4
theorem comp_lex : ∀ (l m : List Int), l.length = m.length → nth (chainL (compT l m) [0]) 0 = lexI l m
  | [], [], _ => rfl
  | [], _ :: _, h => by simp at h
  | _ :: _, [], h => by simp at h
  | a :: l, b :: m, h => by
    have ih := comp_lex l m (by simpa using h)
    simp only [compT, lexI]
    have hc : cmpR a b = if a < b then -1 else if a > b then 1 else 0 := by
      unfold cmpR cmpT
      by_cases h1 : a < b
      · simp [chainL, h1, nth]
      · by_cases h2 : a > b
        · simp [chainL, h1, h2, nth]
        · simp [chainL, h1, h2, nth]
    rw [hc]
    by_cases h1 : a < b
    · simp [h1, chainL, nth]
    · by_cases h2 : a > b
      · simp [h1, h2, chainL, nth]
      · simp only [h1, h2, if_false, bne_self_eq_false, chainL]; exact ih
theorem dcomp_lex : ∀ (l m : List Int), l.length = m.length → nth (chainL (dcompT l m) [0]) 0 = lexI l m
  | [], [], _ => rfl
  | [], _ :: _, h => by simp at h
  | _ :: _, [], h => by simp at h
  | a :: l, b :: m, h => by
    have ih := dcomp_lex l m (by simpa using h)
    simp only [dcompT, lexI]
    by_cases h1 : a < b
    · simp [h1, chainL, nth]
    · by_cases h2 : a > b
      · simp [h1, h2, chainL, nth]
      · simp only [h1, h2, decide_false, if_false, chainL]; exact ih
theorem lexI_append : ∀ (l m l' m' : List Int), l.length = m.length → lexI (l ++ l') (m ++ m') = if lexI l m ≠ 0 then lexI l m else lexI l' m'
  | [], [], _, _, _ => by simp [lexI]
  | [], _ :: _, _, _, h => by simp at h
  | _ :: _, [], _, _, h => by simp at h
  | a :: l, b :: m, l', m', h => by
    simp only [List.cons_append, lexI]
    split
    · simp
    · split
      · simp
      · exact lexI_append l m l' m' (by simpa using h)
def tCmp (a b : Int) : Option Value := chainO mk1 (cmpT a b) [0]
def fCmp (a b : Int) : Value := vI (cmpR a b)
theorem tCmp_eq (a b : Int) : tCmp a b = some (fCmp a b) := by unfold tCmp fCmp; rw [chain_eq]; rfl
def tNaN (a : Int) : Option Value := some (.bool (a != a))
def fNaN (_ : Int) : Value := .bool false
theorem tNaN_eq (a : Int) : tNaN a = some (fNaN a) := by unfold tNaN fNaN; rw [bne_self_eq_false]
def tVCompare (a b : M3) : Option Value := chainO mk1 (compT a.l b.l) [0]
def fVCompare (a b : M3) : Value := vI (lexI a.l b.l)
theorem tVCompare_eq (a b : M3) : tVCompare a b = some (fVCompare a b) := by
  unfold tVCompare fVCompare
  rw [chain_eq, ← comp_lex a.l b.l rfl]; rfl
def tOCompare (a b : O3) : Option Value := match lexI a.r.l b.r.l != 0 with
  | true => some (vI (lexI a.r.l b.r.l))
  | false => chainO mk1 (compT a.t.l b.t.l) [0]
def fOCompare (a b : O3) : Value := vI (lexI a.l b.l)
theorem tOCompare_eq (a b : O3) : tOCompare a b = some (fOCompare a b) := by
  unfold tOCompare fOCompare
  have e : lexI a.l b.l = if lexI a.r.l b.r.l ≠ 0 then lexI a.r.l b.r.l else lexI a.t.l b.t.l := lexI_append a.r.l b.r.l a.t.l b.t.l rfl
  rw [e]
  by_cases h : lexI a.r.l b.r.l = 0
  · rw [h]
    simp only [bne_self_eq_false, ne_eq, not_true_eq_false, if_false]
    rw [chain_eq, ← comp_lex a.t.l b.t.l rfl]; rfl
  · rw [(bif_beq h).2, if_pos h]
def tRCompare (a b : O3) : Option Value := chainO mk1 (dcompT a.l b.l) [0]
theorem tRCompare_eq (a b : O3) : tRCompare a b = some (fOCompare a b) := by
  unfold tRCompare fOCompare
  rw [chain_eq, ← dcomp_lex a.l b.l rfl]; rfl
theorem O3.l_inj {a b : O3} (h : a.l = b.l) : a = b := by
  obtain ⟨⟨_, _, _, _, _, _, _, _, _⟩, ⟨_, _, _⟩⟩ := a
  obtain ⟨⟨_, _, _, _, _, _, _, _, _⟩, ⟨_, _, _⟩⟩ := b
  simp [O3.l] at h
  simp [h]
/-! The statement's tests, in its order -/
def tOpCompares (a b c : O3) : Option Value :=
  guardF [lexI a.l b.l != lexI a.l b.l, lexI b.l c.l != lexI b.l c.l, lexI a.l c.l != lexI a.l c.l, lexI b.l a.l != W (0 - lexI a.l b.l), (lexI a.l b.l == 0) != a.eqB b]
    (match decide (lexI a.l b.l > 0) with
      | true => some (.bool true)
      | false => match decide (lexI b.l c.l > 0) with
        | true => some (.bool true)
        | false => some (.bool (decide (lexI a.l c.l ≤ 0))))
theorem tOpCompares_true (a b c : O3) : tOpCompares a b c = some (.bool true) := by
  unfold tOpCompares
  rw [guardF_eq]
  · by_cases h1 : lexI a.l b.l > 0
    · simp [h1]
    · by_cases h2 : lexI b.l c.l > 0
      · simp [h1, h2]
      · have := lexI_trans (l := a.l) (m := b.l) (n := c.l) rfl rfl (by omega) (by omega)
        simp [h1, h2, this]
  · intro t ht
    simp only [List.mem_cons, List.not_mem_nil, or_false] at ht
    rcases ht with rfl | rfl | rfl | rfl | rfl
    · simp
    · simp
    · simp
    · have := lexI_cases a.l b.l
      rw [W_in (by omega), lexI_neg a.l b.l]
      simp
    · have : (lexI a.l b.l == 0) = a.eqB b := beq_of_iff (by
        rw [beq_iff_eq, O3.eqB_iff, lexI_zero (l := a.l) (m := b.l) rfl]
        exact ⟨O3.l_inj, fun h => by rw [h]⟩)
      rw [this]; simp
end Go.Proofs.Ytjpfnfckpgilgaa.Vx


namespace Go.Proofs.Ytjpfnfckpgilgaa.Vx
open Go
theorem leastN_ck (a b : O3) : leastN a.ck b.ck = leastI a.ck b.ck := by
  rcases O3.ck_cases a with h | h | h <;> rcases O3.ck_cases b with k | k | k <;> rw [h, k] <;> decide
def tOMulN (a b : O3) : Option Value :=
  match leastN a.ck b.ck != 0 with
  | true => some (pOE O3.zero (leastN a.ck b.ck))
  | false => match (a.r.mulF b.r).ck != 0 with
    | true => some (pOE O3.zero (a.r.mulF b.r).ck)
    | false => some (pOE ⟨a.r.mulF b.r, a.send b.t⟩ 0)
theorem tOMulN_eq (a b : O3) : tOMulN a b = some (fOMul a b) := by
  unfold tOMulN
  rw [leastN_ck]
  exact tOMul_eq a b
def tCheckMap (o : O3) : Option Value := match o.ck != 0 with
  | true => some (vI o.ck)
  | false => some (vI 0)
theorem tCheckMap_eq (o : O3) : tCheckMap o = some (fOCheck o) := by
  unfold tCheckMap fOCheck
  by_cases h : o.ck = 0
  · rw [h]; rfl
  · rw [(bif_beq h).2]
end Go.Proofs.Ytjpfnfckpgilgaa.Vx


namespace Go.Proofs.Ytjpfnfckpgilgaa
open Go Vx

def Cg0 (P : Program) : Cx := CL P
theorem okg0 : CxOk (Cg0 Try.prog) := okL
/-- op.checkMatrix -/
theorem eg1 (a0 a1 a2 a3 a4 a5 a6 a7 a8 : Int) : exFun ((Cg0 Try.prog).at 154) 60 Try.f154 (pack [some 9] [a0, a1, a2, a3, a4, a5, a6, a7, a8]) = tCheckM ⟨a0, a1, a2, a3, a4, a5, a6, a7, a8⟩ := by kernel_rfl
def Fg_154 : List Int → Option Value
  | [a0, a1, a2, a3, a4, a5, a6, a7, a8] => some (fCheckM ⟨a0, a1, a2, a3, a4, a5, a6, a7, a8⟩)
  | _ => none
def Cg1 (P : Program) : Cx := (Cg0 P).add 154 [some 9] Fg_154
theorem okg1 : CxOk (Cg1 Try.prog) := Cx.add_ok okg0 (n := 60) Try.func154 (by kernel_rfl) fun l v hl h => by
  match l, hl, h with
  | [a0, a1, a2, a3, a4, a5, a6, a7, a8], _, hh => rw [eg1, tCheckM_eq]; exact hh
/-- op.check -/
theorem eg2 (a0 a1 a2 a3 a4 a5 a6 a7 a8 a9 a10 a11 : Int) : exFun ((Cg1 Try.prog).at 131) 60 Try.f131 (pack [some 12] [a0, a1, a2, a3, a4, a5, a6, a7, a8, a9, a10, a11]) = tOCheck ⟨⟨a0, a1, a2, a3, a4, a5, a6, a7, a8⟩, ⟨a9, a10, a11⟩⟩ := by kernel_rfl
def Fg_131 : List Int → Option Value
  | [a0, a1, a2, a3, a4, a5, a6, a7, a8, a9, a10, a11] => some (fOCheck ⟨⟨a0, a1, a2, a3, a4, a5, a6, a7, a8⟩, ⟨a9, a10, a11⟩⟩)
  | _ => none
def Cg2 (P : Program) : Cx := (Cg1 P).add 131 [some 12] Fg_131
theorem okg2 : CxOk (Cg2 Try.prog) := Cx.add_ok okg1 (n := 60) Try.func131 (by kernel_rfl) fun l v hl h => by
  match l, hl, h with
  | [a0, a1, a2, a3, a4, a5, a6, a7, a8, a9, a10, a11], _, hh => rw [eg2, tOCheck_eq]; exact hh
/-- op.send -/
theorem eg3 (a0 a1 a2 a3 a4 a5 a6 a7 a8 a9 a10 a11 b0 b1 b2 : Int) : exFun ((Cg2 Try.prog).at 158) 60 Try.f158 (pack [some 12, some 3] [a0, a1, a2, a3, a4, a5, a6, a7, a8, a9, a10, a11, b0, b1, b2]) = tSend ⟨⟨a0, a1, a2, a3, a4, a5, a6, a7, a8⟩, ⟨a9, a10, a11⟩⟩ ⟨b0, b1, b2⟩ := by kernel_rfl
def Fg_158 : List Int → Option Value
  | [a0, a1, a2, a3, a4, a5, a6, a7, a8, a9, a10, a11, b0, b1, b2] => some (fSend ⟨⟨a0, a1, a2, a3, a4, a5, a6, a7, a8⟩, ⟨a9, a10, a11⟩⟩ ⟨b0, b1, b2⟩)
  | _ => none
def Cg3 (P : Program) : Cx := (Cg2 P).add 158 [some 12, some 3] Fg_158
theorem okg3 : CxOk (Cg3 Try.prog) := Cx.add_ok okg2 (n := 60) Try.func158 (by kernel_rfl) fun l v hl h => by
  match l, hl, h with
  | [a0, a1, a2, a3, a4, a5, a6, a7, a8, a9, a10, a11, b0, b1, b2], _, hh => rw [eg3, tSend_eq]; exact hh
/-- op.One -/
theorem eg4 : exFun ((Cg3 Try.prog).at 37) 60 Try.f37 (pack [] []) = tOne := by kernel_rfl
def Fg_37 : List Int → Option Value
  | [] => some (fOne)
  | _ => none
def Cg4 (P : Program) : Cx := (Cg3 P).add 37 [] Fg_37
theorem okg4 : CxOk (Cg4 Try.prog) := Cx.add_ok okg3 (n := 60) Try.func37 (by kernel_rfl) fun l v hl h => by
  match l, hl, h with
  | [], _, hh => rw [eg4, tOne_eq]; exact hh
/-- op.Mul -/
theorem eg5 (a0 a1 a2 a3 a4 a5 a6 a7 a8 a9 a10 a11 b0 b1 b2 b3 b4 b5 b6 b7 b8 b9 b10 b11 : Int) : exFun ((Cg4 Try.prog).at 133) 60 Try.f133 (pack [some 12, some 12] [a0, a1, a2, a3, a4, a5, a6, a7, a8, a9, a10, a11, b0, b1, b2, b3, b4, b5, b6, b7, b8, b9, b10, b11]) = tOMulN ⟨⟨a0, a1, a2, a3, a4, a5, a6, a7, a8⟩, ⟨a9, a10, a11⟩⟩ ⟨⟨b0, b1, b2, b3, b4, b5, b6, b7, b8⟩, ⟨b9, b10, b11⟩⟩ := by kernel_rfl
def Fg_133 : List Int → Option Value
  | [a0, a1, a2, a3, a4, a5, a6, a7, a8, a9, a10, a11, b0, b1, b2, b3, b4, b5, b6, b7, b8, b9, b10, b11] => some (fOMul ⟨⟨a0, a1, a2, a3, a4, a5, a6, a7, a8⟩, ⟨a9, a10, a11⟩⟩ ⟨⟨b0, b1, b2, b3, b4, b5, b6, b7, b8⟩, ⟨b9, b10, b11⟩⟩)
  | _ => none
def Cg5 (P : Program) : Cx := (Cg4 P).add 133 [some 12, some 12] Fg_133
theorem okg5 : CxOk (Cg5 Try.prog) := Cx.add_ok okg4 (n := 60) Try.func133 (by kernel_rfl) fun l v hl h => by
  match l, hl, h with
  | [a0, a1, a2, a3, a4, a5, a6, a7, a8, a9, a10, a11, b0, b1, b2, b3, b4, b5, b6, b7, b8, b9, b10, b11], _, hh => rw [eg5, tOMulN_eq]; exact hh
/-- op.Inverse -/
theorem eg6 (a0 a1 a2 a3 a4 a5 a6 a7 a8 a9 a10 a11 : Int) : exFun ((Cg5 Try.prog).at 132) 60 Try.f132 (pack [some 12] [a0, a1, a2, a3, a4, a5, a6, a7, a8, a9, a10, a11]) = tOInverse ⟨⟨a0, a1, a2, a3, a4, a5, a6, a7, a8⟩, ⟨a9, a10, a11⟩⟩ := by kernel_rfl
def Fg_132 : List Int → Option Value
  | [a0, a1, a2, a3, a4, a5, a6, a7, a8, a9, a10, a11] => some (fOInverse ⟨⟨a0, a1, a2, a3, a4, a5, a6, a7, a8⟩, ⟨a9, a10, a11⟩⟩)
  | _ => none
def Cg6 (P : Program) : Cx := (Cg5 P).add 132 [some 12] Fg_132
theorem okg6 : CxOk (Cg6 Try.prog) := Cx.add_ok okg5 (n := 60) Try.func132 (by kernel_rfl) fun l v hl h => by
  match l, hl, h with
  | [a0, a1, a2, a3, a4, a5, a6, a7, a8, a9, a10, a11], _, hh => rw [eg6, tOInverse_eq]; exact hh
/-- group.checkMap -/
theorem eg7 (a0 a1 a2 a3 a4 a5 a6 a7 a8 a9 a10 a11 : Int) : exFun ((Cg6 Try.prog).at 75) 60 Try.f75 (pack [some 12] [a0, a1, a2, a3, a4, a5, a6, a7, a8, a9, a10, a11]) = tCheckMap ⟨⟨a0, a1, a2, a3, a4, a5, a6, a7, a8⟩, ⟨a9, a10, a11⟩⟩ := by kernel_rfl
def Fg_75 : List Int → Option Value
  | [a0, a1, a2, a3, a4, a5, a6, a7, a8, a9, a10, a11] => some (fOCheck ⟨⟨a0, a1, a2, a3, a4, a5, a6, a7, a8⟩, ⟨a9, a10, a11⟩⟩)
  | _ => none
def Cg7 (P : Program) : Cx := (Cg6 P).add 75 [some 12] Fg_75
theorem okg7 : CxOk (Cg7 Try.prog) := Cx.add_ok okg6 (n := 60) Try.func75 (by kernel_rfl) fun l v hl h => by
  match l, hl, h with
  | [a0, a1, a2, a3, a4, a5, a6, a7, a8, a9, a10, a11], _, hh => rw [eg7, tCheckMap_eq]; exact hh
/-- facetref05.One -/
theorem eg8 : exFun ((Cg7 Try.prog).at 104) 60 Try.f104 (pack [] []) = tOne := by kernel_rfl
def Fg_104 : List Int → Option Value
  | [] => some (fOne)
  | _ => none
def Cg8 (P : Program) : Cx := (Cg7 P).add 104 [] Fg_104
theorem okg8 : CxOk (Cg8 Try.prog) := Cx.add_ok okg7 (n := 60) Try.func104 (by kernel_rfl) fun l v hl h => by
  match l, hl, h with
  | [], _, hh => rw [eg8, tOne_eq]; exact hh
/-- cmp.isNaN[int] -/
theorem eg9 (a : Int) : exFun ((Cg8 Try.prog).at 121) 60 Try.f121 (pack [none] [a]) = tNaN a := by kernel_rfl
def Fg_121 : List Int → Option Value
  | [a] => some (fNaN a)
  | _ => none
def Cg9 (P : Program) : Cx := (Cg8 P).add 121 [none] Fg_121
theorem okg9 : CxOk (Cg9 Try.prog) := Cx.add_ok okg8 (n := 60) Try.func121 (by kernel_rfl) fun l v hl h => by
  match l, hl, h with
  | [a], _, hh => rw [eg9, tNaN_eq]; exact hh
/-- cmp.Compare[int] -/
theorem eg10 (a b : Int) : exFun ((Cg9 Try.prog).at 93) 60 Try.f93 (pack [none, none] [a, b]) = tCmp a b := by kernel_rfl
def Fg_93 : List Int → Option Value
  | [a, b] => some (fCmp a b)
  | _ => none
def Cg10 (P : Program) : Cx := (Cg9 P).add 93 [none, none] Fg_93
theorem okg10 : CxOk (Cg10 Try.prog) := Cx.add_ok okg9 (n := 60) Try.func93 (by kernel_rfl) fun l v hl h => by
  match l, hl, h with
  | [a, b], _, hh => rw [eg10, tCmp_eq]; exact hh
/-- vec.Compare -/
theorem eg11 (a0 a1 a2 a3 a4 a5 a6 a7 a8 b0 b1 b2 b3 b4 b5 b6 b7 b8 : Int) : exFun ((Cg10 Try.prog).at 117) 60 Try.f117 (pack [some 9, some 9] [a0, a1, a2, a3, a4, a5, a6, a7, a8, b0, b1, b2, b3, b4, b5, b6, b7, b8]) = tVCompare ⟨a0, a1, a2, a3, a4, a5, a6, a7, a8⟩ ⟨b0, b1, b2, b3, b4, b5, b6, b7, b8⟩ := by kernel_rfl
def Fg_117 : List Int → Option Value
  | [a0, a1, a2, a3, a4, a5, a6, a7, a8, b0, b1, b2, b3, b4, b5, b6, b7, b8] => some (fVCompare ⟨a0, a1, a2, a3, a4, a5, a6, a7, a8⟩ ⟨b0, b1, b2, b3, b4, b5, b6, b7, b8⟩)
  | _ => none
def Cg11 (P : Program) : Cx := (Cg10 P).add 117 [some 9, some 9] Fg_117
theorem okg11 : CxOk (Cg11 Try.prog) := Cx.add_ok okg10 (n := 60) Try.func117 (by kernel_rfl) fun l v hl h => by
  match l, hl, h with
  | [a0, a1, a2, a3, a4, a5, a6, a7, a8, b0, b1, b2, b3, b4, b5, b6, b7, b8], _, hh => rw [eg11, tVCompare_eq]; exact hh
/-- op.Compare -/
theorem eg12 (a0 a1 a2 a3 a4 a5 a6 a7 a8 a9 a10 a11 b0 b1 b2 b3 b4 b5 b6 b7 b8 b9 b10 b11 : Int) : exFun ((Cg11 Try.prog).at 80) 60 Try.f80 (pack [some 12, some 12] [a0, a1, a2, a3, a4, a5, a6, a7, a8, a9, a10, a11, b0, b1, b2, b3, b4, b5, b6, b7, b8, b9, b10, b11]) = tOCompare ⟨⟨a0, a1, a2, a3, a4, a5, a6, a7, a8⟩, ⟨a9, a10, a11⟩⟩ ⟨⟨b0, b1, b2, b3, b4, b5, b6, b7, b8⟩, ⟨b9, b10, b11⟩⟩ := by kernel_rfl
def Fg_80 : List Int → Option Value
  | [a0, a1, a2, a3, a4, a5, a6, a7, a8, a9, a10, a11, b0, b1, b2, b3, b4, b5, b6, b7, b8, b9, b10, b11] => some (fOCompare ⟨⟨a0, a1, a2, a3, a4, a5, a6, a7, a8⟩, ⟨a9, a10, a11⟩⟩ ⟨⟨b0, b1, b2, b3, b4, b5, b6, b7, b8⟩, ⟨b9, b10, b11⟩⟩)
  | _ => none
def Cg12 (P : Program) : Cx := (Cg11 P).add 80 [some 12, some 12] Fg_80
theorem okg12 : CxOk (Cg12 Try.prog) := Cx.add_ok okg11 (n := 60) Try.func80 (by kernel_rfl) fun l v hl h => by
  match l, hl, h with
  | [a0, a1, a2, a3, a4, a5, a6, a7, a8, a9, a10, a11, b0, b1, b2, b3, b4, b5, b6, b7, b8, b9, b10, b11], _, hh => rw [eg12, tOCompare_eq]; exact hh

def CCg (P : Program) : Cx := Cg12 P
theorem okCg : CxOk (CCg Try.prog) := okg12

end Go.Proofs.Ytjpfnfckpgilgaa


namespace Go.Proofs.Ytjpfnfckpgilgaa
open Go Vx
/-- The map at a place. -/
def atO (xs : List O3) (i : Int) : O3 := (xs[i.toNat]?).getD O3.zero
def leastL : List O3 → Int → Int
  | [], e => e
  | o :: l, e => leastL l (leastN e o.ck)
theorem drop_at {xs : List O3} {i : Int} (h0 : 0 ≤ i) (h : i < (xs.length : Int)) : xs.drop i.toNat = atO xs i :: xs.drop (i + 1).toNat := by
  have hlt : i.toNat < xs.length := by omega
  rw [show (i + 1).toNat = i.toNat + 1 by omega, List.drop_eq_getElem_cons hlt]
  unfold atO
  rw [List.getElem?_eq_getElem hlt]
  rfl

def ckmX (P : Program) : Code := (loopsOf P 76 5).headD .skip
theorem ckmX_eq : loopsOf Try.prog 76 5 = [ckmX Try.prog] := by kernel_rfl
def ckmH (own : Bool) (n : Nat) (xs : List O3) (e : Int) (i : Int) : St := stOf 22 [(3, vI e), (9, .slice (some ⟨0, 0, some 0⟩) n 12), (10, vI n), (11, vI i)] [.rows own true 12 n (opRow xs)]
theorem ckmR (own : Bool) (n : Nat) (xs : List O3) (e : Int) (i : Int) : roundR ((CCg Try.prog).into 76 1) 40 (ckmX Try.prog) [3, 9, 10, 11] [3] [.fix 0] [.fix 0] (ckmH own n xs e i) =
    match decide (i < (n : Int)) with
    | true => match boundsI i n with
      | true => some (.normal, ckmH own n xs (leastN e (atO xs i).ck) (W (i + 1)))
      | false => none
    | false => some (.exit 0, stOf 22 [(3, vI e)] [.rows own true 12 n (opRow xs)]) := by kernel_rfl
structure ckmG where
  (own : Bool) (n : Nat) (xs : List O3) (e : Int) (i : Int)
def ckmO (own : Bool) (n : Nat) (xs : List O3) (e : Int) (i : Int) : Exit × St :=
  (.exit 0, stOf 22 [(3, vI (leastL (xs.drop i.toNat) e))] [.rows own true 12 n (opRow xs)])
theorem ckmL (own : Bool) (n : Nat) (xs : List O3) (e : Int) (i : Int) (hg : 0 ≤ i ∧ (n : Int) ≤ 4611686018427387904 ∧ xs.length = n) : LoopSem Try.prog 1 (ckmX Try.prog) (ckmH own n xs e i) (ckmO own n xs e i).1 (ckmO own n xs e i).2 := by
  refine loop_rule (C := CCg Try.prog) okCg (f := 76) (B := 1) (loopsOf_in (k := 5) ckmX_eq) 40 [3, 9, 10, 11] [3] [.fix 0] [.fix 0] (fun g : ckmG => ckmH g.own g.n g.xs g.e g.i) (fun g => (g.n - g.i).toNat) (fun g => 0 ≤ g.i ∧ (g.n : Int) ≤ 4611686018427387904 ∧ g.xs.length = g.n) (fun g => ckmO g.own g.n g.xs g.e g.i) ?_ ⟨own, n, xs, e, i⟩ hg
  clear hg
  rintro ⟨own, n, xs, e, i⟩ hg
  simp only at hg
  simp only [ckmR]
  obtain ⟨h0, h1, h2⟩ := hg
  by_cases hi : i < (n : Int)
  · have hd : decide (i < (n : Int)) = true := by simpa using hi
    have hb : boundsI i n = true := by simp [boundsI, h0, hi]
    rw [hd, hb]
    left
    have hw : W (i + 1) = i + 1 := W_in (by omega)
    refine ⟨⟨own, n, xs, leastN e (atO xs i).ck, i + 1⟩, by rw [hw], ⟨by simp only; omega, h1, h2⟩, by simp only; omega, ?_⟩
    unfold ckmO
    simp only
    rw [drop_at h0 (by omega)]
    rfl
  · have hd : decide (i < (n : Int)) = false := by simpa using hi
    rw [hd]
    right
    have hn : xs.drop i.toNat = [] := List.drop_eq_nil_of_le (by omega)
    unfold ckmO
    simp only [hn]
    exact ⟨rfl, by simp⟩
def ckmS (st : St) : Option (Ans (Exit × St)) :=
  match sized st 22 1, tAt st 3, tAt st 9, tAt st 10, tAt st 11, st.mem with
  | true, some (.int .i64 e), some (.slice (some ⟨0, 0, some 0⟩) n 12), some (.int .i64 ln), some (.int .i64 i), [.rows own true 12 n2 row] => some (.br (Nat.beq n n2 && (okOps n row && (decide ((n : Int) = ln) && (decide (0 ≤ i) && (decide ((n : Int) ≤ 4611686018427387904)))))) (.out (.exit 0, stOf 22 [(3, vI (leastL ((opsOf n row).drop i.toNat) e))] [.rows own true 12 n (opRow (opsOf n row))])) .fail)
  | _, _, _, _, _, _ => none
theorem ckmK {st : St} {ans : Ans (Exit × St)} {e_ : Exit} {s_ : St} (h : ckmS st = some ans) (hr : ans.res = some (e_, s_)) : LoopSem Try.prog 1 (ckmX Try.prog) st e_ s_ := by
  unfold ckmS at h
  split at h
  · rename_i e n ln i own n2 row hb hs0 hs1 hs2 hs3 hm
    simp only [Option.some.injEq] at h
    subst h
    rcases Ans.br_some hr with ⟨hc, hr1⟩ | ⟨_, hr1⟩
    · clear hr
      simp only [Bool.and_eq_true] at hc
      obtain ⟨ht0, ht1, ht2, ht3, ht4⟩ := hc
      have ht0 := beq_len ht0
      subst ht0
      have ht2 : (n : Int) = ln := by simpa using ht2
      subst ht2
      have hinv : 0 ≤ i ∧ (n : Int) ≤ 4611686018427387904 ∧ (opsOf n row).length = n := by
        exact ⟨by simpa using ht3, by simpa using ht4, opsOf_length n row⟩
      have hk := stOf_keep hb [(3, vI e), (9, .slice (some ⟨0, 0, some 0⟩) n 12), (10, vI n), (11, vI i)] (by
        intro x hx
        simp only [List.mem_cons, List.not_mem_nil, or_false] at hx
        rcases hx with rfl | rfl | rfl | rfl
        · exact hs0
        · exact hs1
        · exact hs2
        · exact hs3) hm
      have key := ckmL own n (opsOf n row) e i hinv
      unfold ckmH at key
      have key := LoopSem.like (m := [.rows own true 12 n row]) key ⟨.rows (ops_like ht1), trivial⟩
      have key : LoopSem Try.prog 1 (ckmX Try.prog) (stOf 22 [(3, vI e), (9, .slice (some ⟨0, 0, some 0⟩) n 12), (10, vI n), (11, vI i)] [.rows own true 12 n row]) _ _ := key
      rw [← hk] at key
      have key := LoopSem.clean key
      unfold ckmO at key
      simp only [Ans.res, Option.some.injEq, Prod.mk.injEq] at hr1
      obtain ⟨rfl, rfl⟩ := hr1
      exact key
    · simp [Ans.res] at hr1
  · cases h
end Go.Proofs.Ytjpfnfckpgilgaa


namespace Go.Proofs.Ytjpfnfckpgilgaa
open Go Vx
theorem opsOf_row {xs : List O3} {n : Nat} (h : xs.length = n) : opsOf n (opRow xs) = xs := by subst h; exact opsOf_opRow xs
theorem beq_self (n : Nat) : Nat.beq n n = true := Nat.beq_refl n
def Ckm (P : Program) : Cx := (CCg P).addLB 76 5 1 ckmS
theorem okm : CxOk (Ckm Try.prog) := Cx.addLB_ok okCg ckmX_eq fun _ _ _ _ h hr => ckmK h hr
def ckMaps (xs : List O3) : Int := if (xs.length : Int) > 192 then 2 else leastL xs 0

/-- group.checkMaps -/
theorem ckmsE0 : (exFunA ((Ckm Try.prog).at 76) 60 Try.f76 [.slice none 0 0] []).res = some (vI 0, []) := by kernel_rfl
theorem ckmsE1 (own : Bool) (n : Nat) (xs : List O3) : (exFunA ((Ckm Try.prog).at 76) 60 Try.f76 [.slice (some ⟨0, 0, some 0⟩) n 12] [.rows own true 12 n (opRow xs)]).res = (match decide ((n : Int) > 192) with
    | true => some (vI 2, [.rows own true 12 n (opRow xs)])
    | false => gd (Nat.beq n n && (okOps n (opRow xs) && (decide ((n : Int) = (n : Int)) && (decide ((0 : Int) ≤ 0) && decide ((n : Int) ≤ 4611686018427387904))))) (some (vI (leastL ((opsOf n (opRow xs)).drop (0 : Int).toNat) 0), [.rows own true 12 n (opRow (opsOf n (opRow xs)))]))) := by kernel_rfl
theorem ckmsE (own : Bool) (n : Nat) (xs : List O3) (hx : xs.length = n) : (exFunA ((Ckm Try.prog).at 76) 60 Try.f76 [.slice (some ⟨0, 0, some 0⟩) n 12] [.rows own true 12 n (opRow xs)]).res = some (vI (ckMaps xs), [.rows own true 12 n (opRow xs)]) := by
  rw [ckmsE1]
  unfold ckMaps
  by_cases h : (n : Int) > 192
  · rw [decide_eq_true h, if_pos (by omega)]
  · have hb : decide ((n : Int) ≤ 4611686018427387904) = true := by simp; omega
    rw [decide_eq_false h, if_neg (by omega), opsOf_row hx, hb]
    simp [okOps_opRow, gd]
def ckmsF : List Value → Mem → Option (Ans (Value × Mem))
  | [.slice none 0 0], [] => some (.out (vI 0, []))
  | [.slice (some ⟨0, 0, some 0⟩) n 12], [.rows own true 12 n2 row] => some (.br (Nat.beq n n2 && okOps n row) (.out (vI (ckMaps (opsOf n row)), [.rows own true 12 n (opRow (opsOf n row))])) .fail)
  | _, _ => none
def Cckm (P : Program) : Cx := (Ckm P).addF 76 ckmsF
theorem okckm : CxOk (Cckm Try.prog) := Cx.addF_ok okm fun args m ans v m' h hr => by
  unfold ckmsF at h
  split at h
  · simp only [Option.some.injEq] at h
    subst h
    simp only [Ans.res, Option.some.injEq, Prod.mk.injEq] at hr
    obtain ⟨rfl, rfl⟩ := hr
    exact exFunA_ok (n := 60) okm Try.func76 (by kernel_rfl) ckmsE0
  · rename_i n own n2 row
    simp only [Option.some.injEq] at h
    subst h
    rcases Ans.br_some hr with ⟨hc, hr1⟩ | ⟨_, hr1⟩
    · clear hr
      simp only [Bool.and_eq_true] at hc
      obtain ⟨h0, h1⟩ := hc
      have h0 := beq_len h0
      subst h0
      simp only [Ans.res, Option.some.injEq, Prod.mk.injEq] at hr1
      obtain ⟨rfl, rfl⟩ := hr1
      exact (exFunA_ok (n := 60) okm Try.func76 (by kernel_rfl) (ckmsE own n (opsOf n row) (opsOf_length n row))).like ⟨.rows (ops_like h1), trivial⟩
    · simp [Ans.res] at hr1
  · cases h
end Go.Proofs.Ytjpfnfckpgilgaa


namespace Go.Proofs.Ytjpfnfckpgilgaa
open Go Vx
/-- The numbers of a map. -/
def key (o : O3) : List Int := [o.r.a, o.r.b, o.r.c, o.r.d, o.r.e, o.r.f, o.r.g, o.r.h, o.r.i, o.t.x, o.t.y, o.t.z]
theorem key_inj {a b : O3} (h : key a = key b) : a = b := by
  cases a with | mk r t => cases b with | mk r' t' => cases r; cases t; cases r'; cases t'; simp [key] at h; simp [h]
theorem key_of : ∀ {xs : List Int}, xs.length = 12 → ∃ o, xs = key o
  | [a, b, c, d, e, f, g, h, i, x, y, z], _ => ⟨⟨⟨a, b, c, d, e, f, g, h, i⟩, ⟨x, y, z⟩⟩, rfl⟩
theorem eqOp (a b : O3) : eqCells Try.prog 9 38 a.cells b.cells = some (a.eqB b) := by kernel_rfl
theorem chkOp (a : O3) (b : Bool) (w : World) : (Instr.checkKey b 10000 38 (.agg a.cells.toArray)).run Try.prog w = .ok () w := by kernel_rfl
theorem keyOk : KeyOk Try.prog 38 12 := by
  refine ⟨fun xs ys hx hy w => ?_, fun xs hx b w => ?_, Option.isSome_iff_exists.1 (by kernel_rfl)⟩
  · obtain ⟨a, rfl⟩ := key_of hx
    obtain ⟨b, rfl⟩ := key_of hy
    have := equal_run (P := Try.prog) (t := 38) (xs := a.cells.toArray) (ys := b.cells.toArray) (by kernel_rfl) (eqOp a b) w
    have e : decide (key b = key a) = a.eqB b := by
      rw [Bool.eq_iff_iff, decide_eq_true_eq, O3.eqB_iff]
      exact ⟨fun h => (key_inj h).symm, fun h => by rw [h]⟩
    rw [e]
    exact this
  · obtain ⟨a, rfl⟩ := key_of hx
    exact chkOp a b w
def Ck (P : Program) : Cx := (Cckm P).addK 38 12
theorem okk : CxOk (Ck Try.prog) := Cx.addK_ok okckm keyOk
end Go.Proofs.Ytjpfnfckpgilgaa


namespace Go.Proofs.Ytjpfnfckpgilgaa
open Go Vx
def strucB (a n k : Nat) : Blk := .cells true 0 [.slice (some ⟨a, 0, some 0⟩) n 12, .map (some 2), .slice (some ⟨3, 0, some 0⟩) k 12]
def tcX (P : Program) : Code := (loopsOf P 114 10).headD .skip
theorem tcX_eq : loopsOf Try.prog 114 10 = [tcX Try.prog] := by kernel_rfl
/-- Ahead of the first round. -/
def tcE (n : Nat) (xs : List O3) (es : List (List Int × Int)) (mm bb : O3) (k : Nat) (ms : List O3) (f : O3) (p : Nat) (i : Int) : St := stOf 66 [(0, .pointer (some ⟨0, 0, none⟩)), (9, .pointer (some ⟨6, 0, none⟩)), (48, .slice (some ⟨1, 0, some 0⟩) p 12), (49, vI p), (50, vI i)] [strucB 1 n k, .rows true true 12 n (opRow xs), .mp true 12 es, .rows true true 12 k (opRow ms), .cells true 0 mm.cells, .cells true 0 bb.cells, .cells true 0 f.cells, .cells true 0 []]
/-- Behind a round. -/
def tcB (n0 : Nat) (xs0 : List O3) (n : Nat) (row : Nat → List Value) (es : List (List Int × Int)) (k : Nat) (ms : List O3) (f : O3) (p : Nat) (i : Int) : St := stOf 66 [(0, .pointer (some ⟨0, 0, none⟩)), (9, .pointer (some ⟨4, 0, none⟩)), (48, .slice (some ⟨1, 0, some 0⟩) p 12), (49, vI p), (50, vI i)] [strucB 5 n k, .view true 12 n0 (opRow xs0), .mp true 12 es, .rows true true 12 k (opRow ms), .cells true 0 f.cells, .grow true 12 n row]
def tcM0 (n : Nat) (xs : List O3) (es : List (List Int × Int)) (k : Nat) (ms : List O3) : Mem := [strucB 1 n k, .rows true true 12 n (opRow xs), .mp true 12 es, .rows true true 12 k (opRow ms), .no]
def tcM1 (n : Nat) (xs : List O3) (es : List (List Int × Int)) (k : Nat) (ms : List O3) : Mem := [strucB 4 n k, .gone, .mp true 12 es, .rows true true 12 k (opRow ms), .rows true true 12 n (opRow xs)]
def fits (n : Nat) : Bool := Nat.beq n n && (decide ((n + 1) * 96 ≤ 2 ^ 47) && decide (n + 1 ≤ 2 ^ 62))
theorem tcRE (n : Nat) (xs : List O3) (es : List (List Int × Int)) (mm bb : O3) (k : Nat) (ms : List O3) (f : O3) (p : Nat) (i : Int) : roundR ((Ck Try.prog).into 114 4) 40 (tcX Try.prog) [0, 9, 48, 49, 50] [8] [.fix 0, .fix 1, .fix 2, .fix 3, .slot 9, .cellN 0 0 4] [.fix 0, .fix 1, .fix 2, .fix 3, .cellN 0 0 4] (tcE n xs es mm bb k ms f p i) =
    (match decide (i < (p : Int)) with
    | true => match boundsI i p with
      | true => match f.mulE (atO xs i) != 0 with
        | true => some (.ret, stOf 66 [(8, .bool false)] (tcM0 n xs es k ms))
        | false => match fits n with
          | true => some (.normal, tcB n xs (n + 1) (catR n (opRow xs) (chop 12 0 (f.mulF (atO xs i)).cells)) (mPut (key (f.mulF (atO xs i))) 0 es) k ms f p (W (i + 1)))
          | false => none
      | false => none
    | false => some (.exit 0, stOf 66 [] (tcM0 n xs es k ms))) := by kernel_rfl
theorem tcRB (n0 : Nat) (xs0 : List O3) (n : Nat) (xs : List O3) (es : List (List Int × Int)) (k : Nat) (ms : List O3) (f : O3) (p : Nat) (i : Int) : roundR ((Ck Try.prog).into 114 4) 40 (tcX Try.prog) [0, 9, 48, 49, 50] [8] [.fix 0, .fix 1, .fix 2, .fix 3, .slot 9, .cellN 0 0 4] [.fix 0, .fix 1, .fix 2, .fix 3, .cellN 0 0 4] (tcB n0 xs0 n (opRow xs) es k ms f p i) =
    (match decide (i < (p : Int)) with
    | true => match boundsI i p with
      | true => match f.mulE (atO xs0 i) != 0 with
        | true => some (.ret, stOf 66 [(8, .bool false)] (tcM1 n xs es k ms))
        | false => match fits n with
          | true => some (.normal, tcB n0 xs0 (n + 1) (catR n (opRow xs) (chop 12 0 (f.mulF (atO xs0 i)).cells)) (mPut (key (f.mulF (atO xs0 i))) 0 es) k ms f p (W (i + 1)))
          | false => none
      | false => none
    | false => some (.exit 0, stOf 66 [] (tcM1 n xs es k ms))) := by kernel_rfl
end Go.Proofs.Ytjpfnfckpgilgaa


namespace Go.Proofs.Ytjpfnfckpgilgaa
open Go Vx
abbrev ES := List (List Int × Int)
/-- Each map of a list, then f: appended to the maps, until one is too great. -/
def cosL (f : O3) : List O3 → List O3 → ES → Bool × List O3 × ES
  | [], xs, es => (true, xs, es)
  | a :: l, xs, es => match f.mulE a != 0 with
    | true => (false, xs, es)
    | false => cosL f l (xs ++ [f.mulF a]) (mPut (key (f.mulF a)) 0 es)
theorem cosL_len (f : O3) : ∀ (l xs : List O3) (es : ES), xs.length ≤ (cosL f l xs es).2.1.length
  | [], xs, es => Nat.le_refl _
  | a :: l, xs, es => by
    simp only [cosL]
    cases f.mulE a != 0 with
    | true => exact Nat.le_refl _
    | false => have := cosL_len f l (xs ++ [f.mulF a]) (mPut (key (f.mulF a)) 0 es); simp at this ⊢; omega
structure tcG where
  (b : Bool) (n0 : Nat) (xs0 : List O3) (n : Nat) (xs : List O3) (es : ES) (mm bb : O3) (k : Nat) (ms : List O3) (f : O3) (p : Nat) (i : Int)
def tcH (g : tcG) : St := match g.b with
  | false => tcE g.n g.xs g.es g.mm g.bb g.k g.ms g.f g.p g.i
  | true => tcB g.n0 g.xs0 g.n (opRow g.xs) g.es g.k g.ms g.f g.p g.i
def tcInv (g : tcG) : Prop := g.xs0.length = g.n0 ∧ g.xs.length = g.n ∧ 1 ≤ g.p ∧ g.p ≤ g.n0 ∧ 0 ≤ g.i ∧ g.i ≤ (g.p : Int) ∧ (g.n : Int) + (g.p - g.i) ≤ 192 ∧ (g.b = false → g.i = 0 ∧ g.n = g.n0 ∧ g.xs = g.xs0) ∧ (g.b = true → g.n0 < g.n) ∧ g.n0 ≤ g.n
def tcRes (g : tcG) : Bool × List O3 × ES := cosL g.f ((g.xs0.take g.p).drop g.i.toNat) g.xs g.es
def tcMem (n0 : Nat) (xs0 : List O3) (r : Bool × List O3 × ES) (k : Nat) (ms : List O3) : Mem := match Nat.blt n0 r.2.1.length with
  | true => tcM1 r.2.1.length r.2.1 r.2.2 k ms
  | false => tcM0 n0 xs0 r.2.2 k ms
def tcO (g : tcG) : Exit × St := match (tcRes g).1 with
  | true => (.exit 0, stOf 66 [] (tcMem g.n0 g.xs0 (tcRes g) g.k g.ms))
  | false => (.ret, stOf 66 [(8, .bool false)] (tcMem g.n0 g.xs0 (tcRes g) g.k g.ms))
theorem take_at {xs : List O3} {p : Nat} {i : Int} (h0 : 0 ≤ i) (h : i < (p : Int)) (hp : p ≤ xs.length) : (xs.take p).drop i.toNat = atO xs i :: (xs.take p).drop (i + 1).toNat := by
  have hl : (xs.take p).length = p := by simp; omega
  rw [drop_at h0 (by omega)]
  congr 1
  unfold atO
  rw [List.getElem?_take, if_pos (by omega)]
theorem fits_ok {n : Nat} (h : n ≤ 1000) : fits n = true := by
  unfold fits
  rw [Nat.beq_refl]
  simp; omega
theorem tcL (g : tcG) (hg : tcInv g) : LoopSem Try.prog 4 (tcX Try.prog) (tcH g) (tcO g).1 (tcO g).2 := by
  refine loop_rule2 (C := Ck Try.prog) okk (f := 114) (B := 4) (loopsOf_in (k := 10) tcX_eq) 40 [0, 9, 48, 49, 50] [8] [.fix 0, .fix 1, .fix 2, .fix 3, .slot 9, .cellN 0 0 4] [.fix 0, .fix 1, .fix 2, .fix 3, .cellN 0 0 4] tcH (fun g => (g.p - g.i).toNat) tcInv tcO ?_ g hg
  clear hg g
  rintro ⟨b, n0, xs0, n, xs, es, mm, bb, k, ms, f, p, i⟩ hg
  unfold tcInv at hg
  simp only at hg
  obtain ⟨h1, h2, h3, h4, h5, h6, h7, h8, h9, h10⟩ := hg
  by_cases hi : i < (p : Int)
  · have hd : decide (i < (p : Int)) = true := by simpa using hi
    have hb : boundsI i p = true := by simp [boundsI, h5, hi]
    have hw : W (i + 1) = i + 1 := W_in (by omega)
    have hf : fits n = true := fits_ok (by omega)
    have htk := take_at (xs := xs0) h5 hi (by omega)
    cases he : f.mulE (atO xs0 i) != 0 with
    | true =>
      right
      have hres : tcRes ⟨b, n0, xs0, n, xs, es, mm, bb, k, ms, f, p, i⟩ = (false, xs, es) := by unfold tcRes; simp only [htk, cosL, he]
      cases b with
      | false =>
        obtain ⟨rfl, rfl, rfl⟩ := h8 rfl
        refine ⟨stOf 66 [(8, .bool false)] (tcM0 n xs es k ms), ?_, ?_, ?_⟩
        · unfold tcH
          simp only [tcRE, hd, hb, he]
          unfold tcO
          simp only [hres]
        · unfold tcO tcMem
          simp only [hres, h2, blt_ff (Nat.lt_irrefl n)]
          exact StLike.refl _
        · unfold tcO; simp [hres]
      | true =>
        have hlt := h9 rfl
        refine ⟨stOf 66 [(8, .bool false)] (tcM1 n xs es k ms), ?_, ?_, ?_⟩
        · unfold tcH
          simp only [tcRB, hd, hb, he]
          unfold tcO
          simp only [hres]
        · unfold tcO tcMem
          simp only [hres, h2, show Nat.blt n0 n = true by simpa [Nat.blt_eq] using hlt]
          exact StLike.refl _
        · unfold tcO; simp [hres]
    | false =>
      left
      refine ⟨⟨true, n0, xs0, n + 1, xs ++ [f.mulF (atO xs0 i)], mPut (key (f.mulF (atO xs0 i))) 0 es, mm, bb, k, ms, f, p, i + 1⟩, tcB n0 xs0 (n + 1) (catR n (opRow xs) (chop 12 0 (f.mulF (atO xs0 i)).cells)) (mPut (key (f.mulF (atO xs0 i))) 0 es) k ms f p (i + 1), ?_, ?_, ?_, ?_, ?_⟩
      · cases b with
        | false =>
          obtain ⟨rfl, rfl, rfl⟩ := h8 rfl
          unfold tcH
          simp only [tcRE, hd, hb, he, hf, hw]
        | true =>
          unfold tcH
          simp only [tcRB, hd, hb, he, hf, hw]
      · exact ⟨rfl, .refl _, .refl _, .refl _, .refl _, .refl _, like_ng h2 _, trivial⟩
      · unfold tcInv
        simp only
        refine ⟨h1, by simp [h2], h3, h4, by omega, by omega, by omega, (fun h => by cases h), fun _ => ?_, by omega⟩
        cases b with
        | false => obtain ⟨_, e, _⟩ := h8 rfl; omega
        | true => have := h9 rfl; omega
      · simp only; omega
      · have hres : tcRes ⟨b, n0, xs0, n, xs, es, mm, bb, k, ms, f, p, i⟩ = tcRes ⟨true, n0, xs0, n + 1, xs ++ [f.mulF (atO xs0 i)], mPut (key (f.mulF (atO xs0 i))) 0 es, mm, bb, k, ms, f, p, i + 1⟩ := by unfold tcRes; simp only [htk, cosL, he]
        unfold tcO
        simp only [hres, tcMem]
  · have hd : decide (i < (p : Int)) = false := by simpa using hi
    have hip : i = (p : Int) := by omega
    right
    have hn : (xs0.take p).drop i.toNat = [] := List.drop_eq_nil_of_le (by simp; omega)
    have hres : tcRes ⟨b, n0, xs0, n, xs, es, mm, bb, k, ms, f, p, i⟩ = (true, xs, es) := by unfold tcRes; simp only [hn, cosL]
    cases b with
    | false =>
      obtain ⟨e, _, _⟩ := h8 rfl
      omega
    | true =>
      have hlt := h9 rfl
      refine ⟨stOf 66 [] (tcM1 n xs es k ms), ?_, ?_, ?_⟩
      · unfold tcH
        simp only [tcRB, hd]
        unfold tcO
        simp only [hres]
      · unfold tcO tcMem
        simp only [hres, h2, show Nat.blt n0 n = true by simpa [Nat.blt_eq] using hlt]
        exact StLike.refl _
      · unfold tcO; simp [hres]
end Go.Proofs.Ytjpfnfckpgilgaa


namespace Go.Proofs.Ytjpfnfckpgilgaa
open Go Vx
def tcTest (n n2 k k2 p : Nat) (row row2 : Nat → List Value) (lp i : Int) : Bool := Nat.beq n n2 && (okOps n row && (Nat.beq k k2 && (okOps k row2 && (decide ((p : Int) = lp) && (decide (i = 0) && (Nat.ble 1 p && (Nat.ble p n && decide (n + p ≤ 192))))))))
def tcS (st : St) : Option (Ans (Exit × St)) :=
  match sized st 66 8, tAt st 0, tAt st 9, tAt st 48, tAt st 49, tAt st 50, st.mem with
  | true, some (.pointer (some ⟨0, 0, none⟩)), some (.pointer (some ⟨6, 0, none⟩)), some (.slice (some ⟨1, 0, some 0⟩) p 12), some (.int .i64 lp), some (.int .i64 i), [.cells true 0 cs, .rows true true 12 n2 row, .mp true 12 es, .rows true true 12 k2 row2, .cells true 0 cm, .cells true 0 cb, .cells true 0 cf, .cells true 0 []] =>
    match cs, opCells cm, opCells cb, opCells cf with
    | [.slice (some ⟨1, 0, some 0⟩) n 12, .map (some 2), .slice (some ⟨3, 0, some 0⟩) k 12], some _, some _, some f => some (.br (tcTest n n2 k k2 p row row2 lp i) (.br (cosL f ((opsOf n row).take p) (opsOf n row) es).1 (.br (Nat.blt n (cosL f ((opsOf n row).take p) (opsOf n row) es).2.1.length) (.out (.exit 0, stOf 66 [] (tcM1 (cosL f ((opsOf n row).take p) (opsOf n row) es).2.1.length (cosL f ((opsOf n row).take p) (opsOf n row) es).2.1 (cosL f ((opsOf n row).take p) (opsOf n row) es).2.2 k (opsOf k row2)))) (.out (.exit 0, stOf 66 [] (tcM0 n (opsOf n row) (cosL f ((opsOf n row).take p) (opsOf n row) es).2.2 k (opsOf k row2))))) (.br (Nat.blt n (cosL f ((opsOf n row).take p) (opsOf n row) es).2.1.length) (.out (.ret, stOf 66 [(8, .bool false)] (tcM1 (cosL f ((opsOf n row).take p) (opsOf n row) es).2.1.length (cosL f ((opsOf n row).take p) (opsOf n row) es).2.1 (cosL f ((opsOf n row).take p) (opsOf n row) es).2.2 k (opsOf k row2)))) (.out (.ret, stOf 66 [(8, .bool false)] (tcM0 n (opsOf n row) (cosL f ((opsOf n row).take p) (opsOf n row) es).2.2 k (opsOf k row2)))))) .fail)
    | _, _, _, _ => none
  | _, _, _, _, _, _, _ => none
theorem tcK {st : St} {ans : Ans (Exit × St)} {e_ : Exit} {s_ : St} (h : tcS st = some ans) (hr : ans.res = some (e_, s_)) : LoopSem Try.prog 4 (tcX Try.prog) st e_ s_ := by
  unfold tcS at h
  split at h
  · rename_i p lp i cs n2 row es k2 row2 cm cb cf hb hs0 hs1 hs2 hs3 hs4 hm
    split at h
    rotate_left
    · cases h
    rename_i n k m b f hm0 hm1 hm2
    rw [opCells_spec hm0, opCells_spec hm1, opCells_spec hm2] at hm
    simp only [Option.some.injEq] at h
    subst h
    rcases Ans.br_some hr with ⟨hc, hr1⟩ | ⟨_, hr1⟩
    · clear hr
      unfold tcTest at hc
      simp only [Bool.and_eq_true, decide_eq_true_eq] at hc
      obtain ⟨c1, c2, c3, c4, c5, c6, c7, c8, c9⟩ := hc
      have c1 := beq_len c1
      subst c1
      have c3 := beq_len c3
      subst c3
      subst c5
      subst c6
      have c7 := Nat.le_of_ble_eq_true c7
      have c8 := Nat.le_of_ble_eq_true c8
      have hk := stOf_keep hb [(0, .pointer (some ⟨0, 0, none⟩)), (9, .pointer (some ⟨6, 0, none⟩)), (48, .slice (some ⟨1, 0, some 0⟩) p 12), (49, vI p), (50, vI 0)] (by
        intro x hx
        simp only [List.mem_cons, List.not_mem_nil, or_false] at hx
        rcases hx with rfl | rfl | rfl | rfl | rfl
        · exact hs0
        · exact hs1
        · exact hs2
        · exact hs3
        · exact hs4) hm
      have key := tcL ⟨false, n, opsOf n row, n, opsOf n row, es, m, b, k, opsOf k row2, f, p, 0⟩ (by
        unfold tcInv
        simp only
        exact ⟨opsOf_length n row, opsOf_length n row, c7, c8, by omega, by omega, by omega, fun _ => ⟨trivial, trivial, trivial⟩, (fun h => by cases h), Nat.le_refl _⟩)
      have key := LoopSem.like (tm := (tcE n (opsOf n row) es m b k (opsOf k row2) f p 0).tmps) (m := st.mem) (m2 := (tcE n (opsOf n row) es m b k (opsOf k row2) f p 0).mem) key (by
        rw [hm]
        exact ⟨.refl _, .rows (ops_like c2), .refl _, .rows (ops_like c4), .refl _, .refl _, .refl _, .refl _, trivial⟩)
      have e0 : (⟨(tcE n (opsOf n row) es m b k (opsOf k row2) f p 0).tmps, st.mem⟩ : St) = ⟨keepL [0, 9, 48, 49, 50] 0 st.tmps, st.mem⟩ := by
        have := congrArg St.tmps hk
        rw [show keepL [0, 9, 48, 49, 50] 0 st.tmps = (tcE n (opsOf n row) es m b k (opsOf k row2) f p 0).tmps from this]
      rw [e0] at key
      have key := LoopSem.clean key
      have hres : tcRes ⟨false, n, opsOf n row, n, opsOf n row, es, m, b, k, opsOf k row2, f, p, 0⟩ = (cosL f ((opsOf n row).take p) (opsOf n row) es) := rfl
      unfold tcO tcMem at key
      simp only [hres] at key
      rcases Ans.br_some hr1 with ⟨hq, hr2⟩ | ⟨hq, hr2⟩
      · simp only [hq] at key
        rcases Ans.br_some hr2 with ⟨hq2, hr3⟩ | ⟨hq2, hr3⟩
        · simp only [hq2] at key
          simp only [Ans.res, Option.some.injEq, Prod.mk.injEq] at hr3
          obtain ⟨rfl, rfl⟩ := hr3
          exact key
        · simp only [hq2] at key
          simp only [Ans.res, Option.some.injEq, Prod.mk.injEq] at hr3
          obtain ⟨rfl, rfl⟩ := hr3
          exact key
      · simp only [hq] at key
        rcases Ans.br_some hr2 with ⟨hq2, hr3⟩ | ⟨hq2, hr3⟩
        · simp only [hq2] at key
          simp only [Ans.res, Option.some.injEq, Prod.mk.injEq] at hr3
          obtain ⟨rfl, rfl⟩ := hr3
          exact key
        · simp only [hq2] at key
          simp only [Ans.res, Option.some.injEq, Prod.mk.injEq] at hr3
          obtain ⟨rfl, rfl⟩ := hr3
          exact key
    · simp [Ans.res] at hr1
  · cases h
def Ctc (P : Program) : Cx := (Ck P).addLB 114 10 4 tcS
theorem oktc : CxOk (Ctc Try.prog) := Cx.addLB_ok okk tcX_eq fun _ _ _ _ h hr => tcK h hr
def spanM (n : Nat) (xs : List O3) (es : ES) (k : Nat) (ms : List O3) : Mem := [strucB 1 n k, .rows true true 12 n (opRow xs), .mp true 12 es, .rows true true 12 k (opRow ms)]
def cosR (n k : Nat) (xs ms : List O3) (es : ES) (f : O3) (p : Nat) : Option (Value × Mem) := gd (tcTest n n k k p (opRow xs) (opRow ms) p 0)
  (match (cosL f ((opsOf n (opRow xs)).take p) (opsOf n (opRow xs)) es).1 with
  | true => match Nat.blt n (cosL f ((opsOf n (opRow xs)).take p) (opsOf n (opRow xs)) es).2.1.length with
    | true => some (.bool true, tcM1 (cosL f ((opsOf n (opRow xs)).take p) (opsOf n (opRow xs)) es).2.1.length (cosL f ((opsOf n (opRow xs)).take p) (opsOf n (opRow xs)) es).2.1 (cosL f ((opsOf n (opRow xs)).take p) (opsOf n (opRow xs)) es).2.2 k (opsOf k (opRow ms)))
    | false => some (.bool true, tcM0 n (opsOf n (opRow xs)) (cosL f ((opsOf n (opRow xs)).take p) (opsOf n (opRow xs)) es).2.2 k (opsOf k (opRow ms)))
  | false => match Nat.blt n (cosL f ((opsOf n (opRow xs)).take p) (opsOf n (opRow xs)) es).2.1.length with
    | true => some (.bool false, tcM1 (cosL f ((opsOf n (opRow xs)).take p) (opsOf n (opRow xs)) es).2.1.length (cosL f ((opsOf n (opRow xs)).take p) (opsOf n (opRow xs)) es).2.1 (cosL f ((opsOf n (opRow xs)).take p) (opsOf n (opRow xs)) es).2.2 k (opsOf k (opRow ms)))
    | false => some (.bool false, tcM0 n (opsOf n (opRow xs)) (cosL f ((opsOf n (opRow xs)).take p) (opsOf n (opRow xs)) es).2.2 k (opsOf k (opRow ms))))
theorem tcF1 (m b : O3) (q : Int) (n : Nat) (xs : List O3) (es : ES) (k : Nat) (ms : List O3) : exT ((Ctc Try.prog).at 114) 60 Try.f114 [.pointer (some ⟨0, 0, none⟩), m.v, b.v, vI q] (spanM n xs es k ms) [.fix 0, .fix 1, .fix 2, .fix 3, .cellN 0 0 4] =
    (match m.mulE b != 0 with
    | true => some (.bool false, tcM0 n xs es k ms)
    | false => match mHas (key (m.mulF b)) es with
      | true => some (.bool true, tcM0 n xs es k ms)
      | false => match decide (W ((n : Int) + q) > 192) with
        | true => some (.bool false, tcM0 n xs es k ms)
        | false => match leI q n with
          | true => cosR n k xs ms es (m.mulF b) q.toNat
          | false => none) := by kernel_rfl
end Go.Proofs.Ytjpfnfckpgilgaa
