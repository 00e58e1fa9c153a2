/-
  Which powers of a matrix of whole numbers are the identity: by its trace, the trace of its adjugate, and its determinant. Nothing here is trusted.
-/
import Derived.Test.YtloanoibojmlgaaVecN
namespace Go.Proofs.Ytloanoibojmlgaa
open Go Vx

/-- What holds of a matrix m, its square p and its adjugate c. -/
structure Alg (m0 m1 m2 m3 m4 m5 m6 m7 m8 p0 p1 p2 p3 p4 p5 p6 p7 p8 c0 c1 c2 c3 c4 c5 c6 c7 c8 t s D : Int) : Prop where
  tr : t = m0 + m4 + m8
  sq0 : p0 = m0 * m0 + m1 * m3 + m2 * m6
  sq1 : p1 = m0 * m1 + m1 * m4 + m2 * m7
  sq2 : p2 = m0 * m2 + m1 * m5 + m2 * m8
  sq3 : p3 = m3 * m0 + m4 * m3 + m5 * m6
  sq4 : p4 = m3 * m1 + m4 * m4 + m5 * m7
  sq5 : p5 = m3 * m2 + m4 * m5 + m5 * m8
  sq6 : p6 = m6 * m0 + m7 * m3 + m8 * m6
  sq7 : p7 = m6 * m1 + m7 * m4 + m8 * m7
  sq8 : p8 = m6 * m2 + m7 * m5 + m8 * m8
  ch0 : c0 = p0 - t * m0 + s * 1
  ch1 : c1 = p1 - t * m1 + s * 0
  ch2 : c2 = p2 - t * m2 + s * 0
  ch3 : c3 = p3 - t * m3 + s * 0
  ch4 : c4 = p4 - t * m4 + s * 1
  ch5 : c5 = p5 - t * m5 + s * 0
  ch6 : c6 = p6 - t * m6 + s * 0
  ch7 : c7 = p7 - t * m7 + s * 0
  ch8 : c8 = p8 - t * m8 + s * 1
  cp0 : c0 * p0 + c1 * p3 + c2 * p6 = D * m0
  cp1 : c0 * p1 + c1 * p4 + c2 * p7 = D * m1
  cp2 : c0 * p2 + c1 * p5 + c2 * p8 = D * m2
  cp3 : c3 * p0 + c4 * p3 + c5 * p6 = D * m3
  cp4 : c3 * p1 + c4 * p4 + c5 * p7 = D * m4
  cp5 : c3 * p2 + c4 * p5 + c5 * p8 = D * m5
  cp6 : c6 * p0 + c7 * p3 + c8 * p6 = D * m6
  cp7 : c6 * p1 + c7 * p4 + c8 * p7 = D * m7
  cp8 : c6 * p2 + c7 * p5 + c8 * p8 = D * m8
  mc0 : m0 * c0 + m1 * c3 + m2 * c6 = D * 1
  mc1 : m0 * c1 + m1 * c4 + m2 * c7 = D * 0
  mc2 : m0 * c2 + m1 * c5 + m2 * c8 = D * 0
  mc3 : m3 * c0 + m4 * c3 + m5 * c6 = D * 0
  mc4 : m3 * c1 + m4 * c4 + m5 * c7 = D * 1
  mc5 : m3 * c2 + m4 * c5 + m5 * c8 = D * 0
  mc6 : m6 * c0 + m7 * c3 + m8 * c6 = D * 0
  mc7 : m6 * c1 + m7 * c4 + m8 * c7 = D * 0
  mc8 : m6 * c2 + m7 * c5 + m8 * c8 = D * 1
  mp0 : m0 * p0 + m1 * p3 + m2 * p6 = t * p0 - s * m0 + D * 1
  mp1 : m0 * p1 + m1 * p4 + m2 * p7 = t * p1 - s * m1 + D * 0
  mp2 : m0 * p2 + m1 * p5 + m2 * p8 = t * p2 - s * m2 + D * 0
  mp3 : m3 * p0 + m4 * p3 + m5 * p6 = t * p3 - s * m3 + D * 0
  mp4 : m3 * p1 + m4 * p4 + m5 * p7 = t * p4 - s * m4 + D * 1
  mp5 : m3 * p2 + m4 * p5 + m5 * p8 = t * p5 - s * m5 + D * 0
  mp6 : m6 * p0 + m7 * p3 + m8 * p6 = t * p6 - s * m6 + D * 0
  mp7 : m6 * p1 + m7 * p4 + m8 * p7 = t * p7 - s * m7 + D * 0
  mp8 : m6 * p2 + m7 * p5 + m8 * p8 = t * p8 - s * m8 + D * 1
  pp0 : p0 * p0 + p1 * p3 + p2 * p6 = (t * t - s) * p0 + (D - t * s) * m0 + t * D * 1
  pp1 : p0 * p1 + p1 * p4 + p2 * p7 = (t * t - s) * p1 + (D - t * s) * m1 + t * D * 0
  pp2 : p0 * p2 + p1 * p5 + p2 * p8 = (t * t - s) * p2 + (D - t * s) * m2 + t * D * 0
  pp3 : p3 * p0 + p4 * p3 + p5 * p6 = (t * t - s) * p3 + (D - t * s) * m3 + t * D * 0
  pp4 : p3 * p1 + p4 * p4 + p5 * p7 = (t * t - s) * p4 + (D - t * s) * m4 + t * D * 1
  pp5 : p3 * p2 + p4 * p5 + p5 * p8 = (t * t - s) * p5 + (D - t * s) * m5 + t * D * 0
  pp6 : p6 * p0 + p7 * p3 + p8 * p6 = (t * t - s) * p6 + (D - t * s) * m6 + t * D * 0
  pp7 : p6 * p1 + p7 * p4 + p8 * p7 = (t * t - s) * p7 + (D - t * s) * m7 + t * D * 0
  pp8 : p6 * p2 + p7 * p5 + p8 * p8 = (t * t - s) * p8 + (D - t * s) * m8 + t * D * 1
  cc0 : c0 * c0 + c1 * c3 + c2 * c6 = s * p0 + (D - s * t) * m0 + (s * s - D * t) * 1
  cc1 : c0 * c1 + c1 * c4 + c2 * c7 = s * p1 + (D - s * t) * m1 + (s * s - D * t) * 0
  cc2 : c0 * c2 + c1 * c5 + c2 * c8 = s * p2 + (D - s * t) * m2 + (s * s - D * t) * 0
  cc3 : c3 * c0 + c4 * c3 + c5 * c6 = s * p3 + (D - s * t) * m3 + (s * s - D * t) * 0
  cc4 : c3 * c1 + c4 * c4 + c5 * c7 = s * p4 + (D - s * t) * m4 + (s * s - D * t) * 1
  cc5 : c3 * c2 + c4 * c5 + c5 * c8 = s * p5 + (D - s * t) * m5 + (s * s - D * t) * 0
  cc6 : c6 * c0 + c7 * c3 + c8 * c6 = s * p6 + (D - s * t) * m6 + (s * s - D * t) * 0
  cc7 : c6 * c1 + c7 * c4 + c8 * c7 = s * p7 + (D - s * t) * m7 + (s * s - D * t) * 0
  cc8 : c6 * c2 + c7 * c5 + c8 * c8 = s * p8 + (D - s * t) * m8 + (s * s - D * t) * 1
  t2 : p0 + p4 + p8 = t * t - 2 * s
  dp : det p0 p1 p2 p3 p4 p5 p6 p7 p8 = D * D
  dm : D = det m0 m1 m2 m3 m4 m5 m6 m7 m8

theorem alg (m0 m1 m2 m3 m4 m5 m6 m7 m8 : Int) : Alg m0 m1 m2 m3 m4 m5 m6 m7 m8 (m0 * m0 + m1 * m3 + m2 * m6) (m0 * m1 + m1 * m4 + m2 * m7) (m0 * m2 + m1 * m5 + m2 * m8) (m3 * m0 + m4 * m3 + m5 * m6) (m3 * m1 + m4 * m4 + m5 * m7) (m3 * m2 + m4 * m5 + m5 * m8) (m6 * m0 + m7 * m3 + m8 * m6) (m6 * m1 + m7 * m4 + m8 * m7) (m6 * m2 + m7 * m5 + m8 * m8) (m4 * m8 - m5 * m7) (m7 * m2 - m8 * m1) (m1 * m5 - m2 * m4) (m5 * m6 - m3 * m8) (m8 * m0 - m6 * m2) (m2 * m3 - m0 * m5) (m3 * m7 - m4 * m6) (m6 * m1 - m7 * m0) (m0 * m4 - m1 * m3) (m0 + m4 + m8) (m4 * m8 - m5 * m7 + (m8 * m0 - m6 * m2) + (m0 * m4 - m1 * m3)) (det m0 m1 m2 m3 m4 m5 m6 m7 m8) := by
  refine ⟨rfl, rfl, rfl, rfl, rfl, rfl, rfl, rfl, rfl, rfl, ?_, ?_, ?_, ?_, ?_, ?_, ?_, ?_, ?_, ?_, ?_, ?_, ?_, ?_, ?_, ?_, ?_, ?_, ?_, ?_, ?_, ?_, ?_, ?_, ?_, ?_, ?_, ?_, ?_, ?_, ?_, ?_, ?_, ?_, ?_, ?_, ?_, ?_, ?_, ?_, ?_, ?_, ?_, ?_, ?_, ?_, ?_, ?_, ?_, ?_, ?_, ?_, ?_, ?_, ?_, det_mul _ _ _ _ _ _ _ _ _ _ _ _ _ _ _ _ _ _, rfl⟩
  all_goals first | (unfold det; grind) | grind

theorem L1 {x y z u v w a b c D e : Int} (h1 : u = D * a) (h2 : v = D * b) (h3 : w = D * c) (h : x * a + y * b + z * c = D * e) (hD : D * D = 1) : x * u + y * v + z * w = e := by
  subst h1; subst h2; subst h3
  have : x * (D * a) + y * (D * b) + z * (D * c) = D * (x * a + y * b + z * c) := by grind
  rw [this, h, ← Int.mul_assoc, hD, Int.one_mul]
theorem L3 {x y z u v w a b c t s d1 d2 d3 : Int} (h1 : 2 * u = t * a - s * d1) (h2 : 2 * v = t * b - s * d2) (h3 : 2 * w = t * c - s * d3) : 2 * (x * u + y * v + z * w) = t * (x * a + y * b + z * c) - s * (x * d1 + y * d2 + z * d3) := by
  have : 2 * (x * u + y * v + z * w) = x * (2 * u) + y * (2 * v) + z * (2 * w) := by grind
  rw [this, h1, h2, h3]
  grind
theorem L4 {x y z u v w a b c σ A B d1 d2 d3 : Int} (h1 : u = σ * u + A * a + B * d1) (h2 : v = σ * v + A * b + B * d2) (h3 : w = σ * w + A * c + B * d3) : x * u + y * v + z * w = σ * (x * u + y * v + z * w) + A * (x * a + y * b + z * c) + B * (x * d1 + y * d2 + z * d3) := by
  have e1 : x * u = x * (σ * u + A * a + B * d1) := by rw [← h1]
  have e2 : y * v = y * (σ * v + A * b + B * d2) := by rw [← h2]
  have e3 : z * w = z * (σ * w + A * c + B * d3) := by rw [← h3]
  clear h1 h2 h3
  grind
theorem bd_cube {x c : Int} (hc : c ≠ 0) (h : x * (x * x) = c) : x.natAbs ≤ c.natAbs :=
  Nat.le_of_dvd (by omega) (Int.natAbs_dvd_natAbs.2 ⟨x * x, h.symm⟩)
theorem cube_one {x : Int} (h : x * (x * x) = 1) : x = 1 := by
  have := bd_cube (by omega) h
  have hx : x = -1 ∨ x = 0 ∨ x = 1 := by omega
  rcases hx with rfl | rfl | rfl
  · omega
  · omega
  · rfl
theorem E2 {m0 m1 m2 m3 m4 m5 m6 m7 m8 p0 p1 p2 p3 p4 p5 p6 p7 p8 c0 c1 c2 c3 c4 c5 c6 c7 c8 t s D : Int} (h : Alg m0 m1 m2 m3 m4 m5 m6 m7 m8 p0 p1 p2 p3 p4 p5 p6 p7 p8 c0 c1 c2 c3 c4 c5 c6 c7 c8 t s D) (hD : D = 1 ∨ D = -1) : (m0 = D * c0 ∧ m1 = D * c1 ∧ m2 = D * c2 ∧ m3 = D * c3 ∧ m4 = D * c4 ∧ m5 = D * c5 ∧ m6 = D * c6 ∧ m7 = D * c7 ∧ m8 = D * c8) ↔ (p0 = 1 ∧ p1 = 0 ∧ p2 = 0 ∧ p3 = 0 ∧ p4 = 1 ∧ p5 = 0 ∧ p6 = 0 ∧ p7 = 0 ∧ p8 = 1) := by
  have hDD : D * D = 1 := by rcases hD with rfl | rfl <;> rfl
  constructor
  · intro ⟨k0, k1, k2, k3, k4, k5, k6, k7, k8⟩
    exact ⟨h.sq0.trans (L1 k0 k3 k6 h.mc0 hDD), h.sq1.trans (L1 k1 k4 k7 h.mc1 hDD), h.sq2.trans (L1 k2 k5 k8 h.mc2 hDD), h.sq3.trans (L1 k0 k3 k6 h.mc3 hDD), h.sq4.trans (L1 k1 k4 k7 h.mc4 hDD), h.sq5.trans (L1 k2 k5 k8 h.mc5 hDD), h.sq6.trans (L1 k0 k3 k6 h.mc6 hDD), h.sq7.trans (L1 k1 k4 k7 h.mc7 hDD), h.sq8.trans (L1 k2 k5 k8 h.mc8 hDD)⟩
  · intro ⟨k0, k1, k2, k3, k4, k5, k6, k7, k8⟩
    refine ⟨?_, ?_, ?_, ?_, ?_, ?_, ?_, ?_, ?_⟩
    · have := h.cp0; rw [k0, k3, k6] at this; rcases hD with rfl | rfl <;> omega
    · have := h.cp1; rw [k1, k4, k7] at this; rcases hD with rfl | rfl <;> omega
    · have := h.cp2; rw [k2, k5, k8] at this; rcases hD with rfl | rfl <;> omega
    · have := h.cp3; rw [k0, k3, k6] at this; rcases hD with rfl | rfl <;> omega
    · have := h.cp4; rw [k1, k4, k7] at this; rcases hD with rfl | rfl <;> omega
    · have := h.cp5; rw [k2, k5, k8] at this; rcases hD with rfl | rfl <;> omega
    · have := h.cp6; rw [k0, k3, k6] at this; rcases hD with rfl | rfl <;> omega
    · have := h.cp7; rw [k1, k4, k7] at this; rcases hD with rfl | rfl <;> omega
    · have := h.cp8; rw [k2, k5, k8] at this; rcases hD with rfl | rfl <;> omega
theorem E3 {m0 m1 m2 m3 m4 m5 m6 m7 m8 p0 p1 p2 p3 p4 p5 p6 p7 p8 c0 c1 c2 c3 c4 c5 c6 c7 c8 t s D : Int} (h : Alg m0 m1 m2 m3 m4 m5 m6 m7 m8 p0 p1 p2 p3 p4 p5 p6 p7 p8 c0 c1 c2 c3 c4 c5 c6 c7 c8 t s D) (hD : D = 1 ∨ D = -1) (n1 : ¬ (m0 = 1 ∧ m1 = 0 ∧ m2 = 0 ∧ m3 = 0 ∧ m4 = 1 ∧ m5 = 0 ∧ m6 = 0 ∧ m7 = 0 ∧ m8 = 1)) : (p0 = D * c0 ∧ p1 = D * c1 ∧ p2 = D * c2 ∧ p3 = D * c3 ∧ p4 = D * c4 ∧ p5 = D * c5 ∧ p6 = D * c6 ∧ p7 = D * c7 ∧ p8 = D * c8) ↔ (t = 0 ∧ s = 0 ∧ D = 1) := by
  constructor
  · intro ⟨k0, k1, k2, k3, k4, k5, k6, k7, k8⟩
    have j0 := h.ch0
    have j1 := h.ch1
    have j2 := h.ch2
    have j3 := h.ch3
    have j4 := h.ch4
    have j5 := h.ch5
    have j6 := h.ch6
    have j7 := h.ch7
    have j8 := h.ch8
    rcases hD with rfl | rfl
    · have q0 : t * m0 = s := by omega
      have q4 : t * m4 = s := by omega
      have q8 : t * m8 = s := by omega
      by_cases ht : t = 0
      · subst ht; exact ⟨rfl, by omega, rfl⟩
      · exfalso
        have e4 : m4 = m0 := Int.eq_of_mul_eq_mul_left ht (by omega)
        have e8 : m8 = m0 := Int.eq_of_mul_eq_mul_left ht (by omega)
        have e1 : m1 = 0 := (Int.mul_eq_zero.1 (show t * m1 = 0 by omega)).resolve_left ht
        have e2 : m2 = 0 := (Int.mul_eq_zero.1 (show t * m2 = 0 by omega)).resolve_left ht
        have e3 : m3 = 0 := (Int.mul_eq_zero.1 (show t * m3 = 0 by omega)).resolve_left ht
        have e5 : m5 = 0 := (Int.mul_eq_zero.1 (show t * m5 = 0 by omega)).resolve_left ht
        have e6 : m6 = 0 := (Int.mul_eq_zero.1 (show t * m6 = 0 by omega)).resolve_left ht
        have e7 : m7 = 0 := (Int.mul_eq_zero.1 (show t * m7 = 0 by omega)).resolve_left ht
        have hd := h.dm
        rw [e1, e2, e3, e4, e5, e6, e7, e8] at hd
        have c1 : m0 * (m0 * m0) = 1 := by rw [hd]; unfold det; grind
        have o := cube_one c1
        exact n1 ⟨o, e1, e2, e3, e4.trans o, e5, e6, e7, e8.trans o⟩
    · exfalso
      have tt : t * m0 + t * m4 + t * m8 = t * t := by rw [← Int.mul_add, ← Int.mul_add, ← h.tr]
      have t2 := h.t2
      have hs : s = t * t := by omega
      have f0 : t * p0 - s * m0 = 2 := by
        have a1 := h.mp0; have a2 := h.sq0
        have b0 : 2 * p0 = t * m0 - s * 1 := by omega
        have b1 : 2 * p3 = t * m3 - s * 0 := by omega
        have b2 : 2 * p6 = t * m6 - s * 0 := by omega
        have a3 := L3 (x := m0) (y := m1) (z := m2) b0 b1 b2
        rw [← a2, a1] at a3
        simp only [Int.mul_one, Int.mul_zero, Int.add_zero] at a3; omega
      have f4 : t * p4 - s * m4 = 2 := by
        have a1 := h.mp4; have a2 := h.sq4
        have b0 : 2 * p1 = t * m1 - s * 0 := by omega
        have b1 : 2 * p4 = t * m4 - s * 1 := by omega
        have b2 : 2 * p7 = t * m7 - s * 0 := by omega
        have a3 := L3 (x := m3) (y := m4) (z := m5) b0 b1 b2
        rw [← a2, a1] at a3
        simp only [Int.mul_one, Int.mul_zero, Int.add_zero, Int.zero_add] at a3; omega
      have f8 : t * p8 - s * m8 = 2 := by
        have a1 := h.mp8; have a2 := h.sq8
        have b0 : 2 * p2 = t * m2 - s * 0 := by omega
        have b1 : 2 * p5 = t * m5 - s * 0 := by omega
        have b2 : 2 * p8 = t * m8 - s * 1 := by omega
        have a3 := L3 (x := m6) (y := m7) (z := m8) b0 b1 b2
        rw [← a2, a1] at a3
        simp only [Int.mul_one, Int.mul_zero, Int.add_zero, Int.zero_add] at a3; omega
      have c3 : t * (t * t) = -3 := by
        have tp : t * p0 + t * p4 + t * p8 = t * (t * t - 2 * s) := by rw [← Int.mul_add, ← Int.mul_add, t2]
        have sm : s * m0 + s * m4 + s * m8 = s * t := by rw [← Int.mul_add, ← Int.mul_add, ← h.tr]
        have : t * (t * t - 2 * s) - s * t = 6 := by omega
        rw [hs] at this
        grind
      have b3 := bd_cube (by omega) c3
      have hx : t = -3 ∨ t = -2 ∨ t = -1 ∨ t = 0 ∨ t = 1 ∨ t = 2 ∨ t = 3 := by omega
      rcases hx with rfl | rfl | rfl | rfl | rfl | rfl | rfl <;> omega
  · rintro ⟨rfl, rfl, rfl⟩
    have j0 := h.ch0
    have j1 := h.ch1
    have j2 := h.ch2
    have j3 := h.ch3
    have j4 := h.ch4
    have j5 := h.ch5
    have j6 := h.ch6
    have j7 := h.ch7
    have j8 := h.ch8
    refine ⟨?_, ?_, ?_, ?_, ?_, ?_, ?_, ?_, ?_⟩ <;> omega
theorem L6 {t s D p m e : Int} (g : (t * t - s) * p + (D - t * s) * m + t * D * e = s * p + (D - s * t) * m + (s * s - D * t) * e) : (t * t - 2 * s) * p = (s * s - 2 * (t * D)) * e := by grind
theorem solve6p {t s : Int} (q1 : t * t - 2 * s = 0) (q2 : s * s - 2 * (t * 1) = 0) : (t = 0 ∧ s = 0) ∨ (t = 2 ∧ s = 2) := by
  have f1 : t * (t * (t * t) - 8) = 0 := by
    have a : s * s = 2 * t := by omega
    have b : t * t = 2 * s := by omega
    have c : (t * t) * (t * t) = 4 * (s * s) := by rw [b]; grind
    rw [a] at c
    clear q1 q2 a b
    grind
  rcases Int.mul_eq_zero.1 f1 with e | e
  · subst e; left; omega
  · have c3 : t * (t * t) = 8 := by omega
    have b3 := bd_cube (by omega) c3
    have hx : t = -8 ∨ t = -7 ∨ t = -6 ∨ t = -5 ∨ t = -4 ∨ t = -3 ∨ t = -2 ∨ t = -1 ∨ t = 0 ∨ t = 1 ∨ t = 2 ∨ t = 3 ∨ t = 4 ∨ t = 5 ∨ t = 6 ∨ t = 7 ∨ t = 8 := by omega
    rcases hx with rfl | rfl | rfl | rfl | rfl | rfl | rfl | rfl | rfl | rfl | rfl | rfl | rfl | rfl | rfl | rfl | rfl <;> omega
theorem solve6n {t s : Int} (q1 : t * t - 2 * s = 0) (q2 : s * s - 2 * (t * -1) = 0) : (t = 0 ∧ s = 0) ∨ (t = -2 ∧ s = 2) := by
  have f1 : t * (t * (t * t) + 8) = 0 := by
    have a : s * s = -(2 * t) := by omega
    have b : t * t = 2 * s := by omega
    have c : (t * t) * (t * t) = 4 * (s * s) := by rw [b]; grind
    rw [a] at c
    clear q1 q2 a b
    grind
  rcases Int.mul_eq_zero.1 f1 with e | e
  · subst e; left; omega
  · have c3 : t * (t * t) = -8 := by omega
    have b3 := bd_cube (by omega) c3
    have hx : t = -8 ∨ t = -7 ∨ t = -6 ∨ t = -5 ∨ t = -4 ∨ t = -3 ∨ t = -2 ∨ t = -1 ∨ t = 0 ∨ t = 1 ∨ t = 2 ∨ t = 3 ∨ t = 4 ∨ t = 5 ∨ t = 6 ∨ t = 7 ∨ t = 8 := by omega
    rcases hx with rfl | rfl | rfl | rfl | rfl | rfl | rfl | rfl | rfl | rfl | rfl | rfl | rfl | rfl | rfl | rfl | rfl <;> omega
theorem sq_nn (x : Int) : 0 ≤ x * x := by
  rcases Int.le_total 0 x with h | h
  · exact Int.mul_nonneg h h
  · have := Int.mul_nonneg (show 0 ≤ -x by omega) (show 0 ≤ -x by omega)
    rwa [Int.neg_mul_neg] at this
theorem L5 {t s D p m e : Int} (g : t * p - s * m + D * e = s * (t * p - s * m + D * e) + (D - s * t) * p + (s * s - D * t) * m) : (t - D) * p + (D * t - s) * m + (D - s * D) * e = 0 := by grind
theorem solve4p {t s : Int} (q1 : t * t - 2 * s = s * (t * t - 2 * s) + (1 - s * t) * t + 3 * (s * s - 1 * t)) (q2 : (t - 1) * (t * t - 2 * s) + (1 * t - s) * t + 3 * (1 - s * 1) = 0) : (t = 1 ∧ s = 1) ∨ (t = 3 ∧ s = 3) ∨ (t = -1 ∧ s = -1) := by
  have f1 : (t - s) * (t + s + 2) = 0 := by clear q2; grind
  rcases Int.mul_eq_zero.1 f1 with e | e
  · have e' : s = t := by omega
    subst e'
    have f2 : (s - 3) * ((s - 1) * (s + 1)) = 0 := by clear q1 f1 e; grind
    rcases Int.mul_eq_zero.1 f2 with e | e
    · right; left; omega
    · rcases Int.mul_eq_zero.1 e with e | e
      · left; omega
      · right; right; omega
  · have e' : s = -2 - t := by omega
    subst e'
    have f2 : (t + 1) * ((t + 1) * (t + 1) + 4) = 0 := by clear q1 f1 e; grind
    rcases Int.mul_eq_zero.1 f2 with e | e
    · right; right; omega
    · exfalso
      have := sq_nn (t + 1)
      omega
theorem solve4n {t s : Int} (q1 : t * t - 2 * s = s * (t * t - 2 * s) + (-1 - s * t) * t + 3 * (s * s - -1 * t)) (q2 : (t - -1) * (t * t - 2 * s) + (-1 * t - s) * t + 3 * (-1 - s * -1) = 0) : (t = -1 ∧ s = 1) ∨ (t = -3 ∧ s = 3) ∨ (t = 1 ∧ s = -1) := by
  have f1 : (t + s) * (t - s - 2) = 0 := by clear q2; grind
  rcases Int.mul_eq_zero.1 f1 with e | e
  · have e' : s = -t := by omega
    subst e'
    have f2 : (t + 3) * ((t - 1) * (t + 1)) = 0 := by clear q1 f1 e; grind
    rcases Int.mul_eq_zero.1 f2 with e | e
    · right; left; omega
    · rcases Int.mul_eq_zero.1 e with e | e
      · right; right; omega
      · left; omega
  · have e' : s = t - 2 := by omega
    subst e'
    have f2 : (t - 1) * ((t - 1) * (t - 1) + 4) = 0 := by clear q1 f1 e; grind
    rcases Int.mul_eq_zero.1 f2 with e | e
    · right; right; omega
    · exfalso
      have := sq_nn (t - 1)
      omega
theorem E4 {m0 m1 m2 m3 m4 m5 m6 m7 m8 p0 p1 p2 p3 p4 p5 p6 p7 p8 c0 c1 c2 c3 c4 c5 c6 c7 c8 t s D : Int} (h : Alg m0 m1 m2 m3 m4 m5 m6 m7 m8 p0 p1 p2 p3 p4 p5 p6 p7 p8 c0 c1 c2 c3 c4 c5 c6 c7 c8 t s D) (hD : D = 1 ∨ D = -1) (n1 : ¬ (p0 = 1 ∧ p1 = 0 ∧ p2 = 0 ∧ p3 = 0 ∧ p4 = 1 ∧ p5 = 0 ∧ p6 = 0 ∧ p7 = 0 ∧ p8 = 1)) : (p0 = c0 * c0 + c1 * c3 + c2 * c6 ∧ p1 = c0 * c1 + c1 * c4 + c2 * c7 ∧ p2 = c0 * c2 + c1 * c5 + c2 * c8 ∧ p3 = c3 * c0 + c4 * c3 + c5 * c6 ∧ p4 = c3 * c1 + c4 * c4 + c5 * c7 ∧ p5 = c3 * c2 + c4 * c5 + c5 * c8 ∧ p6 = c6 * c0 + c7 * c3 + c8 * c6 ∧ p7 = c6 * c1 + c7 * c4 + c8 * c7 ∧ p8 = c6 * c2 + c7 * c5 + c8 * c8) ↔ ((t = 1 ∧ s = 1 ∧ D = 1) ∨ (t = -1 ∧ s = 1 ∧ D = -1)) := by
  constructor
  · intro ⟨k0, k1, k2, k3, k4, k5, k6, k7, k8⟩
    have j0 : p0 = s * p0 + (D - s * t) * m0 + (s * s - D * t) * 1 := k0.trans h.cc0
    have j1 : p1 = s * p1 + (D - s * t) * m1 + (s * s - D * t) * 0 := k1.trans h.cc1
    have j2 : p2 = s * p2 + (D - s * t) * m2 + (s * s - D * t) * 0 := k2.trans h.cc2
    have j3 : p3 = s * p3 + (D - s * t) * m3 + (s * s - D * t) * 0 := k3.trans h.cc3
    have j4 : p4 = s * p4 + (D - s * t) * m4 + (s * s - D * t) * 1 := k4.trans h.cc4
    have j5 : p5 = s * p5 + (D - s * t) * m5 + (s * s - D * t) * 0 := k5.trans h.cc5
    have j6 : p6 = s * p6 + (D - s * t) * m6 + (s * s - D * t) * 0 := k6.trans h.cc6
    have j7 : p7 = s * p7 + (D - s * t) * m7 + (s * s - D * t) * 0 := k7.trans h.cc7
    have j8 : p8 = s * p8 + (D - s * t) * m8 + (s * s - D * t) * 1 := k8.trans h.cc8
    have g0 : (t - D) * p0 + (D * t - s) * m0 + (D - s * D) * 1 = 0 := by
      have g := L4 (x := m0) (y := m1) (z := m2) j0 j3 j6
      have z : m0 * 1 + m1 * 0 + m2 * 0 = m0 := by omega
      rw [← h.sq0, h.mp0, z] at g
      exact L5 g
    have g1 : (t - D) * p1 + (D * t - s) * m1 + (D - s * D) * 0 = 0 := by
      have g := L4 (x := m0) (y := m1) (z := m2) j1 j4 j7
      have z : m0 * 0 + m1 * 1 + m2 * 0 = m1 := by omega
      rw [← h.sq1, h.mp1, z] at g
      exact L5 g
    have g2 : (t - D) * p2 + (D * t - s) * m2 + (D - s * D) * 0 = 0 := by
      have g := L4 (x := m0) (y := m1) (z := m2) j2 j5 j8
      have z : m0 * 0 + m1 * 0 + m2 * 1 = m2 := by omega
      rw [← h.sq2, h.mp2, z] at g
      exact L5 g
    have g3 : (t - D) * p3 + (D * t - s) * m3 + (D - s * D) * 0 = 0 := by
      have g := L4 (x := m3) (y := m4) (z := m5) j0 j3 j6
      have z : m3 * 1 + m4 * 0 + m5 * 0 = m3 := by omega
      rw [← h.sq3, h.mp3, z] at g
      exact L5 g
    have g4 : (t - D) * p4 + (D * t - s) * m4 + (D - s * D) * 1 = 0 := by
      have g := L4 (x := m3) (y := m4) (z := m5) j1 j4 j7
      have z : m3 * 0 + m4 * 1 + m5 * 0 = m4 := by omega
      rw [← h.sq4, h.mp4, z] at g
      exact L5 g
    have g5 : (t - D) * p5 + (D * t - s) * m5 + (D - s * D) * 0 = 0 := by
      have g := L4 (x := m3) (y := m4) (z := m5) j2 j5 j8
      have z : m3 * 0 + m4 * 0 + m5 * 1 = m5 := by omega
      rw [← h.sq5, h.mp5, z] at g
      exact L5 g
    have g6 : (t - D) * p6 + (D * t - s) * m6 + (D - s * D) * 0 = 0 := by
      have g := L4 (x := m6) (y := m7) (z := m8) j0 j3 j6
      have z : m6 * 1 + m7 * 0 + m8 * 0 = m6 := by omega
      rw [← h.sq6, h.mp6, z] at g
      exact L5 g
    have g7 : (t - D) * p7 + (D * t - s) * m7 + (D - s * D) * 0 = 0 := by
      have g := L4 (x := m6) (y := m7) (z := m8) j1 j4 j7
      have z : m6 * 0 + m7 * 1 + m8 * 0 = m7 := by omega
      rw [← h.sq7, h.mp7, z] at g
      exact L5 g
    have g8 : (t - D) * p8 + (D * t - s) * m8 + (D - s * D) * 1 = 0 := by
      have g := L4 (x := m6) (y := m7) (z := m8) j2 j5 j8
      have z : m6 * 0 + m7 * 0 + m8 * 1 = m8 := by omega
      rw [← h.sq8, h.mp8, z] at g
      exact L5 g
    have r1 := h.t2
    have q1 : t * t - 2 * s = s * (t * t - 2 * s) + (D - s * t) * t + 3 * (s * s - D * t) := by
      have r2 : (D - s * t) * m0 + (D - s * t) * m4 + (D - s * t) * m8 = (D - s * t) * t := by rw [← Int.mul_add, ← Int.mul_add, ← h.tr]
      have r3 : s * p0 + s * p4 + s * p8 = s * (t * t - 2 * s) := by rw [← Int.mul_add, ← Int.mul_add, r1]
      omega
    have q2 : (t - D) * (t * t - 2 * s) + (D * t - s) * t + 3 * (D - s * D) = 0 := by
      have r2 : (D * t - s) * m0 + (D * t - s) * m4 + (D * t - s) * m8 = (D * t - s) * t := by rw [← Int.mul_add, ← Int.mul_add, ← h.tr]
      have r3 : (t - D) * p0 + (t - D) * p4 + (t - D) * p8 = (t - D) * (t * t - 2 * s) := by rw [← Int.mul_add, ← Int.mul_add, r1]
      omega
    rcases hD with rfl | rfl
    · rcases solve4p q1 q2 with ⟨rfl, rfl⟩ | ⟨rfl, rfl⟩ | ⟨rfl, rfl⟩
      · left; exact ⟨rfl, rfl, rfl⟩
      · exfalso; exact n1 ⟨by omega, by omega, by omega, by omega, by omega, by omega, by omega, by omega, by omega⟩
      · exfalso; exact n1 ⟨by omega, by omega, by omega, by omega, by omega, by omega, by omega, by omega, by omega⟩
    · rcases solve4n q1 q2 with ⟨rfl, rfl⟩ | ⟨rfl, rfl⟩ | ⟨rfl, rfl⟩
      · right; exact ⟨rfl, rfl, rfl⟩
      · exfalso; exact n1 ⟨by omega, by omega, by omega, by omega, by omega, by omega, by omega, by omega, by omega⟩
      · exfalso; exact n1 ⟨by omega, by omega, by omega, by omega, by omega, by omega, by omega, by omega, by omega⟩
  · rintro (⟨rfl, rfl, rfl⟩ | ⟨rfl, rfl, rfl⟩)
    · refine ⟨Eq.symm (h.cc0.trans (by omega)), Eq.symm (h.cc1.trans (by omega)), Eq.symm (h.cc2.trans (by omega)), Eq.symm (h.cc3.trans (by omega)), Eq.symm (h.cc4.trans (by omega)), Eq.symm (h.cc5.trans (by omega)), Eq.symm (h.cc6.trans (by omega)), Eq.symm (h.cc7.trans (by omega)), Eq.symm (h.cc8.trans (by omega))⟩
    · refine ⟨Eq.symm (h.cc0.trans (by omega)), Eq.symm (h.cc1.trans (by omega)), Eq.symm (h.cc2.trans (by omega)), Eq.symm (h.cc3.trans (by omega)), Eq.symm (h.cc4.trans (by omega)), Eq.symm (h.cc5.trans (by omega)), Eq.symm (h.cc6.trans (by omega)), Eq.symm (h.cc7.trans (by omega)), Eq.symm (h.cc8.trans (by omega))⟩
theorem E6 {m0 m1 m2 m3 m4 m5 m6 m7 m8 p0 p1 p2 p3 p4 p5 p6 p7 p8 c0 c1 c2 c3 c4 c5 c6 c7 c8 t s D : Int} (h : Alg m0 m1 m2 m3 m4 m5 m6 m7 m8 p0 p1 p2 p3 p4 p5 p6 p7 p8 c0 c1 c2 c3 c4 c5 c6 c7 c8 t s D) (hD : D = 1 ∨ D = -1) (n1 : ¬ (p0 = 1 ∧ p1 = 0 ∧ p2 = 0 ∧ p3 = 0 ∧ p4 = 1 ∧ p5 = 0 ∧ p6 = 0 ∧ p7 = 0 ∧ p8 = 1)) (n3 : ¬ (t = 0 ∧ s = 0 ∧ D = 1)) : (p0 * p0 + p1 * p3 + p2 * p6 = c0 * c0 + c1 * c3 + c2 * c6 ∧ p0 * p1 + p1 * p4 + p2 * p7 = c0 * c1 + c1 * c4 + c2 * c7 ∧ p0 * p2 + p1 * p5 + p2 * p8 = c0 * c2 + c1 * c5 + c2 * c8 ∧ p3 * p0 + p4 * p3 + p5 * p6 = c3 * c0 + c4 * c3 + c5 * c6 ∧ p3 * p1 + p4 * p4 + p5 * p7 = c3 * c1 + c4 * c4 + c5 * c7 ∧ p3 * p2 + p4 * p5 + p5 * p8 = c3 * c2 + c4 * c5 + c5 * c8 ∧ p6 * p0 + p7 * p3 + p8 * p6 = c6 * c0 + c7 * c3 + c8 * c6 ∧ p6 * p1 + p7 * p4 + p8 * p7 = c6 * c1 + c7 * c4 + c8 * c7 ∧ p6 * p2 + p7 * p5 + p8 * p8 = c6 * c2 + c7 * c5 + c8 * c8) ↔ ((t = 0 ∧ s = 0 ∧ D = -1) ∨ (t = 2 ∧ s = 2 ∧ D = 1) ∨ (t = -2 ∧ s = 2 ∧ D = -1)) := by
  constructor
  · intro ⟨k0, k1, k2, k3, k4, k5, k6, k7, k8⟩
    have j0 : (t * t - 2 * s) * p0 = (s * s - 2 * (t * D)) * 1 := L6 (h.pp0.symm.trans (k0.trans h.cc0))
    have j1 : (t * t - 2 * s) * p1 = (s * s - 2 * (t * D)) * 0 := L6 (h.pp1.symm.trans (k1.trans h.cc1))
    have j2 : (t * t - 2 * s) * p2 = (s * s - 2 * (t * D)) * 0 := L6 (h.pp2.symm.trans (k2.trans h.cc2))
    have j3 : (t * t - 2 * s) * p3 = (s * s - 2 * (t * D)) * 0 := L6 (h.pp3.symm.trans (k3.trans h.cc3))
    have j4 : (t * t - 2 * s) * p4 = (s * s - 2 * (t * D)) * 1 := L6 (h.pp4.symm.trans (k4.trans h.cc4))
    have j5 : (t * t - 2 * s) * p5 = (s * s - 2 * (t * D)) * 0 := L6 (h.pp5.symm.trans (k5.trans h.cc5))
    have j6 : (t * t - 2 * s) * p6 = (s * s - 2 * (t * D)) * 0 := L6 (h.pp6.symm.trans (k6.trans h.cc6))
    have j7 : (t * t - 2 * s) * p7 = (s * s - 2 * (t * D)) * 0 := L6 (h.pp7.symm.trans (k7.trans h.cc7))
    have j8 : (t * t - 2 * s) * p8 = (s * s - 2 * (t * D)) * 1 := L6 (h.pp8.symm.trans (k8.trans h.cc8))
    by_cases ha : t * t - 2 * s = 0
    · have hb : s * s - 2 * (t * D) = 0 := by rw [ha] at j0; omega
      rcases hD with rfl | rfl
      · rcases solve6p ha hb with ⟨rfl, rfl⟩ | ⟨rfl, rfl⟩
        · exact absurd ⟨rfl, rfl, rfl⟩ n3
        · right; left; exact ⟨rfl, rfl, rfl⟩
      · rcases solve6n ha hb with ⟨rfl, rfl⟩ | ⟨rfl, rfl⟩
        · left; exact ⟨rfl, rfl, rfl⟩
        · right; right; exact ⟨rfl, rfl, rfl⟩
    · exfalso
      have e4 : p4 = p0 := Int.eq_of_mul_eq_mul_left ha (j4.trans j0.symm)
      have e8 : p8 = p0 := Int.eq_of_mul_eq_mul_left ha (j8.trans j0.symm)
      have e1 : p1 = 0 := (Int.mul_eq_zero.1 (j1.trans (Int.mul_zero _))).resolve_left ha
      have e2 : p2 = 0 := (Int.mul_eq_zero.1 (j2.trans (Int.mul_zero _))).resolve_left ha
      have e3 : p3 = 0 := (Int.mul_eq_zero.1 (j3.trans (Int.mul_zero _))).resolve_left ha
      have e5 : p5 = 0 := (Int.mul_eq_zero.1 (j5.trans (Int.mul_zero _))).resolve_left ha
      have e6 : p6 = 0 := (Int.mul_eq_zero.1 (j6.trans (Int.mul_zero _))).resolve_left ha
      have e7 : p7 = 0 := (Int.mul_eq_zero.1 (j7.trans (Int.mul_zero _))).resolve_left ha
      have hd := h.dp
      rw [e1, e2, e3, e4, e5, e6, e7, e8] at hd
      have hDD : D * D = 1 := by rcases hD with rfl | rfl <;> rfl
      have c1 : p0 * (p0 * p0) = 1 := by rw [← hDD, ← hd]; unfold det; grind
      have o := cube_one c1
      exact n1 ⟨o, e1, e2, e3, e4.trans o, e5, e6, e7, e8.trans o⟩
  · rintro (⟨rfl, rfl, rfl⟩ | ⟨rfl, rfl, rfl⟩ | ⟨rfl, rfl, rfl⟩)
    · refine ⟨h.pp0.trans (Eq.symm (h.cc0.trans (by omega))), h.pp1.trans (Eq.symm (h.cc1.trans (by omega))), h.pp2.trans (Eq.symm (h.cc2.trans (by omega))), h.pp3.trans (Eq.symm (h.cc3.trans (by omega))), h.pp4.trans (Eq.symm (h.cc4.trans (by omega))), h.pp5.trans (Eq.symm (h.cc5.trans (by omega))), h.pp6.trans (Eq.symm (h.cc6.trans (by omega))), h.pp7.trans (Eq.symm (h.cc7.trans (by omega))), h.pp8.trans (Eq.symm (h.cc8.trans (by omega)))⟩
    · refine ⟨h.pp0.trans (Eq.symm (h.cc0.trans (by omega))), h.pp1.trans (Eq.symm (h.cc1.trans (by omega))), h.pp2.trans (Eq.symm (h.cc2.trans (by omega))), h.pp3.trans (Eq.symm (h.cc3.trans (by omega))), h.pp4.trans (Eq.symm (h.cc4.trans (by omega))), h.pp5.trans (Eq.symm (h.cc5.trans (by omega))), h.pp6.trans (Eq.symm (h.cc6.trans (by omega))), h.pp7.trans (Eq.symm (h.cc7.trans (by omega))), h.pp8.trans (Eq.symm (h.cc8.trans (by omega)))⟩
    · refine ⟨h.pp0.trans (Eq.symm (h.cc0.trans (by omega))), h.pp1.trans (Eq.symm (h.cc1.trans (by omega))), h.pp2.trans (Eq.symm (h.cc2.trans (by omega))), h.pp3.trans (Eq.symm (h.cc3.trans (by omega))), h.pp4.trans (Eq.symm (h.cc4.trans (by omega))), h.pp5.trans (Eq.symm (h.cc5.trans (by omega))), h.pp6.trans (Eq.symm (h.cc6.trans (by omega))), h.pp7.trans (Eq.symm (h.cc7.trans (by omega))), h.pp8.trans (Eq.symm (h.cc8.trans (by omega)))⟩

end Go.Proofs.Ytloanoibojmlgaa
