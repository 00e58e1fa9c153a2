/-
  Metrics of whole numbers: squares are above nought, edges told anew, steps towards obtuse edges. No program in sight. Nothing here is trusted.
-/
import Derived.Test.YtjpfnfckpgilgaaGreatHBasT
namespace Go.Proofs.YtjpfnfckpgilgaaGreat.Vx
open Go

def G6.dot (m : G6) (u v : V3) : Int := m.aa * u.x * v.x + m.bb * u.y * v.y + m.cc * u.z * v.z + m.bc * (u.y * v.z + u.z * v.y) + m.ac * (u.x * v.z + u.z * v.x) + m.ab * (u.x * v.y + u.y * v.x)
def G6.two (m : G6) : Int := m.aa * m.bb - m.ab * m.ab
def G6.det (m : G6) : Int := m.aa * m.bb * m.cc + 2 * m.bc * m.ac * m.ab - m.aa * m.bc * m.bc - m.bb * m.ac * m.ac - m.cc * m.ab * m.ab
def G6.Pos (m : G6) : Prop := ∀ v : V3, v ≠ V3.zero → 0 < m.dot v v
theorem G6.ext' {m n : G6} (h : m.aa = n.aa ∧ m.bb = n.bb ∧ m.cc = n.cc ∧ m.bc = n.bc ∧ m.ac = n.ac ∧ m.ab = n.ab) : m = n := by
  cases m; cases n; simp only [G6.mk.injEq]; exact h

theorem sqn (x : Int) : 0 ≤ x * x := by
  rcases Int.le_total 0 x with h | h
  · exact Int.mul_nonneg h h
  · exact Int.mul_nonneg_of_nonpos_of_nonpos h h
theorem sqp {x : Int} (h : x ≠ 0) : 0 < x * x := by
  have := sqn x
  have h2 : x * x ≠ 0 := fun e => by rcases Int.mul_eq_zero.1 e with e | e <;> exact h e
  omega
theorem pos_of_mul {a b : Int} (ha : 0 < a) (h : 0 < a * b) : 0 < b :=
  Int.lt_of_mul_lt_mul_left (a := a) (by rw [Int.mul_zero]; exact h) (Int.le_of_lt ha)
theorem V3.zero_iff {v : V3} : v = V3.zero ↔ v.x = 0 ∧ v.y = 0 ∧ v.z = 0 := by
  cases v; simp [V3.zero]

theorem dot_key (m : G6) (v : V3) : m.aa * m.two * m.dot v v =
    m.two * ((m.aa * v.x + m.ab * v.y + m.ac * v.z) * (m.aa * v.x + m.ab * v.y + m.ac * v.z)) + (m.two * v.y + (m.aa * m.bc - m.ab * m.ac) * v.z) * (m.two * v.y + (m.aa * m.bc - m.ab * m.ac) * v.z) + m.aa * m.det * (v.z * v.z) := by
  unfold G6.dot G6.two G6.det; grind
theorem pos_of_syl {m : G6} (h1 : 0 < m.aa) (h2 : 0 < m.two) (h3 : 0 < m.det) : m.Pos := fun v hv => by
  have key := dot_key m v
  refine pos_of_mul (Int.mul_pos h1 h2) ?_
  rw [key]
  have a1 := Int.mul_nonneg (Int.le_of_lt h2) (sqn (m.aa * v.x + m.ab * v.y + m.ac * v.z))
  have a2 := sqn (m.two * v.y + (m.aa * m.bc - m.ab * m.ac) * v.z)
  have a3 := Int.mul_nonneg (Int.le_of_lt (Int.mul_pos h1 h3)) (sqn v.z)
  by_cases hz : v.z = 0
  · by_cases hy : v.y = 0
    · have hx : v.x ≠ 0 := fun e => hv (V3.zero_iff.2 ⟨e, hy, hz⟩)
      have : m.aa * v.x + m.ab * v.y + m.ac * v.z ≠ 0 := by
        rw [hy, hz]
        simp only [Int.mul_zero, Int.add_zero]
        exact Int.mul_ne_zero (by omega) hx
      have := Int.mul_pos h2 (sqp this)
      omega
    · have : m.two * v.y + (m.aa * m.bc - m.ab * m.ac) * v.z ≠ 0 := by
        rw [hz]
        simp only [Int.mul_zero, Int.add_zero]
        exact Int.mul_ne_zero (by omega) hy
      have := sqp this
      omega
  · have := Int.mul_pos (Int.mul_pos h1 h3) (sqp hz)
    omega
theorem G6.Pos.aa {m : G6} (h : m.Pos) : 0 < m.aa := by
  have := h ⟨1, 0, 0⟩ (by simp [V3.zero_iff])
  simpa [G6.dot] using this
theorem G6.Pos.bb {m : G6} (h : m.Pos) : 0 < m.bb := by
  have := h ⟨0, 1, 0⟩ (by simp [V3.zero_iff])
  simpa [G6.dot] using this
theorem G6.Pos.cc {m : G6} (h : m.Pos) : 0 < m.cc := by
  have := h ⟨0, 0, 1⟩ (by simp [V3.zero_iff])
  simpa [G6.dot] using this
theorem G6.Pos.two {m : G6} (h : m.Pos) : 0 < m.two := by
  have ha := G6.Pos.aa h
  have := h ⟨-m.ab, m.aa, 0⟩ (by simp [V3.zero_iff]; omega)
  rw [show m.dot ⟨-m.ab, m.aa, 0⟩ ⟨-m.ab, m.aa, 0⟩ = m.aa * m.two by unfold G6.dot G6.two; grind] at this
  exact pos_of_mul ha this
theorem G6.Pos.det {m : G6} (h : m.Pos) : 0 < m.det := by
  have ha := G6.Pos.two h
  have := h ⟨m.ab * m.bc - m.ac * m.bb, m.ab * m.ac - m.aa * m.bc, m.two⟩ (by simp [V3.zero_iff]; omega)
  rw [show m.dot ⟨m.ab * m.bc - m.ac * m.bb, m.ab * m.ac - m.aa * m.bc, m.two⟩ ⟨m.ab * m.bc - m.ac * m.bb, m.ab * m.ac - m.aa * m.bc, m.two⟩ = m.two * m.det by unfold G6.dot G6.two G6.det; grind] at this
  exact pos_of_mul ha this
theorem pos_iff {m : G6} : m.Pos ↔ 0 < m.aa ∧ 0 < m.two ∧ 0 < m.det := ⟨fun h => ⟨G6.Pos.aa h, G6.Pos.two h, G6.Pos.det h⟩, fun ⟨a, b, c⟩ => pos_of_syl a b c⟩
theorem dot_zero (m : G6) : m.dot V3.zero V3.zero = 0 := by simp [G6.dot, V3.zero]
theorem G6.Pos.nn {m : G6} (h : m.Pos) (v : V3) : 0 ≤ m.dot v v := by
  by_cases hv : v = V3.zero
  · rw [hv, dot_zero]; omega
  · exact Int.le_of_lt (h v hv)
theorem dot_comm (m : G6) (u v : V3) : m.dot u v = m.dot v u := by unfold G6.dot; grind
def V3.sub (u v : V3) : V3 := ⟨u.x - v.x, u.y - v.y, u.z - v.z⟩
theorem dot_addadd (m : G6) (u v : V3) : m.dot (u.add v) (u.add v) = m.dot u u + m.dot v v + 2 * m.dot u v := by unfold G6.dot V3.add; grind
theorem dot_subsub (m : G6) (u v : V3) : m.dot (u.sub v) (u.sub v) = m.dot u u + m.dot v v - 2 * m.dot u v := by unfold G6.dot V3.sub; grind
/-- Twice a product lies within the sum of the squares. -/
theorem G6.Pos.within {m : G6} (h : m.Pos) (u v : V3) : 2 * m.dot u v ≤ m.dot u u + m.dot v v ∧ -(m.dot u u + m.dot v v) ≤ 2 * m.dot u v := by
  have h1 := h.nn (u.add v)
  have h2 := h.nn (u.sub v)
  rw [dot_addadd] at h1
  rw [dot_subsub] at h2
  omega
/-- Cauchy and Schwarz. -/
theorem G6.Pos.cs {m : G6} (h : m.Pos) (u v : V3) : m.dot u v * m.dot u v ≤ m.dot u u * m.dot v v := by
  by_cases hu : u = V3.zero
  · subst hu
    rw [dot_zero, show m.dot V3.zero v = 0 by simp [G6.dot, V3.zero]]; omega
  · have hp := h u hu
    have := h.nn ⟨m.dot u u * v.x - m.dot u v * u.x, m.dot u u * v.y - m.dot u v * u.y, m.dot u u * v.z - m.dot u v * u.z⟩
    rw [show m.dot ⟨m.dot u u * v.x - m.dot u v * u.x, m.dot u u * v.y - m.dot u v * u.y, m.dot u u * v.z - m.dot u v * u.z⟩ ⟨m.dot u u * v.x - m.dot u v * u.x, m.dot u u * v.y - m.dot u v * u.y, m.dot u u * v.z - m.dot u v * u.z⟩ = m.dot u u * (m.dot u u * m.dot v v - m.dot u v * m.dot u v) by
      have e : ∀ a b : Int, m.dot ⟨a * v.x - b * u.x, a * v.y - b * u.y, a * v.z - b * u.z⟩ ⟨a * v.x - b * u.x, a * v.y - b * u.y, a * v.z - b * u.z⟩ = a * a * m.dot v v - 2 * a * b * m.dot u v + b * b * m.dot u u := by intro a b; unfold G6.dot; grind
      rw [e]; grind] at this
    by_cases hn : m.dot u u * m.dot v v - m.dot u v * m.dot u v < 0
    · have := Int.mul_neg_of_pos_of_neg hp hn
      omega
    · omega

/-! Edges told by a matrix -/
def M3.c1 (p : M3) : V3 := ⟨p.a, p.d, p.g⟩
def M3.c2 (p : M3) : V3 := ⟨p.b, p.e, p.h⟩
def M3.c3 (p : M3) : V3 := ⟨p.c, p.f, p.i⟩
def G6.turn (m : G6) (p : M3) : G6 := ⟨m.dot p.c1 p.c1, m.dot p.c2 p.c2, m.dot p.c3 p.c3, m.dot p.c2 p.c3, m.dot p.c1 p.c3, m.dot p.c1 p.c2⟩
theorem dot_turn (m : G6) (p : M3) (u v : V3) : (m.turn p).dot u v = m.dot (p.app u) (p.app v) := by
  unfold G6.turn G6.dot M3.c1 M3.c2 M3.c3 M3.app; grind
theorem turn_of (m : G6) (p : M3) : G6.of (p.T.mul (m.mat.mul p)) = m.turn p := by
  refine G6.ext' ⟨?_, ?_, ?_, ?_, ?_, ?_⟩ <;> (simp only [G6.of, G6.turn, G6.dot, M3.c1, M3.c2, M3.c3, M3.T, M3.mul, G6.mat]; grind)
theorem turn_mul (m : G6) (p q : M3) : (m.turn p).turn q = m.turn (p.mul q) := by
  have e : ∀ u v, (m.turn p).dot u v = m.dot (p.app u) (p.app v) := dot_turn m p
  have c1 : p.app q.c1 = (p.mul q).c1 := rfl
  have c2 : p.app q.c2 = (p.mul q).c2 := rfl
  have c3 : p.app q.c3 = (p.mul q).c3 := rfl
  rw [show (m.turn p).turn q = ⟨(m.turn p).dot q.c1 q.c1, (m.turn p).dot q.c2 q.c2, (m.turn p).dot q.c3 q.c3, (m.turn p).dot q.c2 q.c3, (m.turn p).dot q.c1 q.c3, (m.turn p).dot q.c1 q.c2⟩ from rfl]
  simp only [e, c1, c2, c3]
  rfl
theorem turn_one (m : G6) : m.turn M3.one = m := by
  refine G6.ext' ⟨?_, ?_, ?_, ?_, ?_, ?_⟩ <;> simp [G6.turn, G6.dot, M3.c1, M3.c2, M3.c3, M3.one]
theorem det_mat (m : G6) : m.mat.det = m.det := by unfold G6.mat M3.det G6.det; grind
theorem mat_turn (m : G6) (p : M3) : (m.turn p).mat = p.T.mul (m.mat.mul p) := by
  refine M3.ext' ⟨?_, ?_, ?_, ?_, ?_, ?_, ?_, ?_, ?_⟩ <;> (simp only [G6.mat, G6.turn, G6.dot, M3.c1, M3.c2, M3.c3, M3.T, M3.mul]; grind)
theorem turn_det (m : G6) (p : M3) : (m.turn p).det = m.det * (p.det * p.det) := by
  rw [← det_mat, mat_turn, M3.det_mul, M3.det_mul, det_mat, M3.T_det]; grind
theorem app_inj {p : M3} (hd : p.det ≠ 0) {v : V3} (h : p.app v = V3.zero) : v = V3.zero := by
  have e : p.adj.app (p.app v) = ⟨p.det * v.x, p.det * v.y, p.det * v.z⟩ := by
    refine V3.ext' ⟨?_, ?_, ?_⟩ <;> (simp only [M3.app, M3.adj, M3.det]; grind)
  rw [h] at e
  have z : p.adj.app V3.zero = V3.zero := by simp [M3.app, V3.zero]
  rw [z] at e
  simp only [V3.zero, V3.mk.injEq] at e
  refine V3.zero_iff.2 ⟨?_, ?_, ?_⟩
  · exact (Int.mul_eq_zero.1 e.1.symm).resolve_left hd
  · exact (Int.mul_eq_zero.1 e.2.1.symm).resolve_left hd
  · exact (Int.mul_eq_zero.1 e.2.2.symm).resolve_left hd
theorem G6.Pos.turn {m : G6} (h : m.Pos) {p : M3} (hd : p.det ≠ 0) : (m.turn p).Pos := fun v hv => by
  rw [dot_turn]
  exact h _ fun e => hv (app_inj hd e)

/-! The four edges -/
def G6.ad (m : G6) : Int := -m.aa - m.ab - m.ac
def G6.bd (m : G6) : Int := -m.ab - m.bb - m.bc
def G6.cd (m : G6) : Int := -m.ac - m.bc - m.cc
/-- The sum of the four squares. -/
def G6.sq4 (m : G6) : Int := 2 * (m.aa + m.bb + m.cc) + 2 * (m.ab + m.ac + m.bc)
def stp0 : M3 := ⟨1, 0, 0, 1, -1, 0, 0, 0, 1⟩
def stp1 : M3 := ⟨-1, 1, 0, 0, 1, 0, 0, 0, 1⟩
def stp2 : M3 := ⟨-1, 0, 1, 0, 1, 0, 0, 0, 1⟩
def stp3 : M3 := ⟨-1, 1, 1, 0, 1, 0, 0, 0, 1⟩
def stp4 : M3 := ⟨1, 0, 0, 1, -1, 1, 0, 0, 1⟩
def stp5 : M3 := ⟨1, 0, 0, 0, 1, 0, 1, 1, -1⟩
/-- The product of the first sharp pair, and the matrix of its step; none: 0 and the identity. -/
def G6.sharp (m : G6) : Int × M3 :=
  bif decide (m.bc > 0) then (m.bc, stp0) else bif decide (m.ac > 0) then (m.ac, stp1) else bif decide (m.ab > 0) then (m.ab, stp2) else
  bif decide (m.ad > 0) then (m.ad, stp3) else bif decide (m.bd > 0) then (m.bd, stp4) else bif decide (m.cd > 0) then (m.cd, stp5) else (0, M3.one)
def G6.Obt (m : G6) : Prop := m.bc ≤ 0 ∧ m.ac ≤ 0 ∧ m.ab ≤ 0 ∧ m.ad ≤ 0 ∧ m.bd ≤ 0 ∧ m.cd ≤ 0
theorem sharp_cases (m : G6) : (m.sharp = (0, M3.one) ∧ m.Obt) ∨ (0 < m.sharp.1 ∧ ((m.sharp.1 = m.bc ∧ m.sharp.2 = stp0) ∨ (m.sharp.1 = m.ac ∧ m.sharp.2 = stp1) ∨ (m.sharp.1 = m.ab ∧ m.sharp.2 = stp2) ∨ (m.sharp.1 = m.ad ∧ m.sharp.2 = stp3) ∨ (m.sharp.1 = m.bd ∧ m.sharp.2 = stp4) ∨ (m.sharp.1 = m.cd ∧ m.sharp.2 = stp5))) := by
  unfold G6.sharp G6.Obt
  cases h0 : decide (m.bc > 0) with
  | true => exact Or.inr ⟨of_decide_eq_true h0, Or.inl ⟨rfl, rfl⟩⟩
  | false =>
    cases h1 : decide (m.ac > 0) with
    | true => exact Or.inr ⟨of_decide_eq_true h1, Or.inr (Or.inl ⟨rfl, rfl⟩)⟩
    | false =>
      cases h2 : decide (m.ab > 0) with
      | true => exact Or.inr ⟨of_decide_eq_true h2, Or.inr (Or.inr (Or.inl ⟨rfl, rfl⟩))⟩
      | false =>
        cases h3 : decide (m.ad > 0) with
        | true => exact Or.inr ⟨of_decide_eq_true h3, Or.inr (Or.inr (Or.inr (Or.inl ⟨rfl, rfl⟩)))⟩
        | false =>
          cases h4 : decide (m.bd > 0) with
          | true => exact Or.inr ⟨of_decide_eq_true h4, Or.inr (Or.inr (Or.inr (Or.inr (Or.inl ⟨rfl, rfl⟩))))⟩
          | false =>
            cases h5 : decide (m.cd > 0) with
            | true => exact Or.inr ⟨of_decide_eq_true h5, Or.inr (Or.inr (Or.inr (Or.inr (Or.inr (⟨rfl, rfl⟩)))))⟩
            | false =>
              exact Or.inl ⟨rfl, Int.not_lt.1 (of_decide_eq_false h0), Int.not_lt.1 (of_decide_eq_false h1), Int.not_lt.1 (of_decide_eq_false h2), Int.not_lt.1 (of_decide_eq_false h3), Int.not_lt.1 (of_decide_eq_false h4), Int.not_lt.1 (of_decide_eq_false h5)⟩
def G6.next (m : G6) : G6 := m.turn m.sharp.2
theorem sq4_next (m : G6) : m.next.sq4 = m.sq4 - 2 * m.sharp.1 := by
  unfold G6.next
  rcases sharp_cases m with ⟨h, _⟩ | ⟨_, h⟩
  · rw [h, turn_one]; omega
  · rcases h with ⟨h1, h2⟩ | ⟨h1, h2⟩ | ⟨h1, h2⟩ | ⟨h1, h2⟩ | ⟨h1, h2⟩ | ⟨h1, h2⟩ <;> rw [h1, h2] <;>
      (simp only [G6.sq4, G6.turn, G6.dot, M3.c1, M3.c2, M3.c3, stp0, stp1, stp2, stp3, stp4, stp5, G6.ad, G6.bd, G6.cd]; grind)
theorem sharp_det (m : G6) (h : 0 < m.sharp.1) : m.sharp.2.det = -1 := by
  rcases sharp_cases m with ⟨e, _⟩ | ⟨_, e⟩
  · rw [e] at h; exact absurd h (by decide)
  · rcases e with ⟨_, e⟩ | ⟨_, e⟩ | ⟨_, e⟩ | ⟨_, e⟩ | ⟨_, e⟩ | ⟨_, e⟩ <;> rw [e] <;> decide
theorem sq4_squares (m : G6) : m.sq4 = m.dot ⟨1, 0, 0⟩ ⟨1, 0, 0⟩ + m.dot ⟨0, 1, 0⟩ ⟨0, 1, 0⟩ + m.dot ⟨0, 0, 1⟩ ⟨0, 0, 1⟩ + m.dot ⟨-1, -1, -1⟩ ⟨-1, -1, -1⟩ := by
  unfold G6.sq4 G6.dot; simp only; grind
theorem G6.Pos.sq4 {m : G6} (h : m.Pos) : 0 < m.sq4 := by
  rw [sq4_squares]
  have h1 := h ⟨1, 0, 0⟩ (by simp [V3.zero_iff])
  have h2 := h.nn ⟨0, 1, 0⟩
  have h3 := h.nn ⟨0, 0, 1⟩
  have h4 := h.nn ⟨-1, -1, -1⟩
  omega
/-- All entries of a metric lie within the sum of the four squares. -/
theorem G6.Pos.entries {m : G6} (h : m.Pos) : (0 < m.aa ∧ m.aa ≤ m.sq4) ∧ (0 < m.bb ∧ m.bb ≤ m.sq4) ∧ (0 < m.cc ∧ m.cc ≤ m.sq4) ∧ (-m.sq4 ≤ m.bc ∧ m.bc ≤ m.sq4) ∧ (-m.sq4 ≤ m.ac ∧ m.ac ≤ m.sq4) ∧ (-m.sq4 ≤ m.ab ∧ m.ab ≤ m.sq4) := by
  have e1 : m.dot ⟨1, 0, 0⟩ ⟨1, 0, 0⟩ = m.aa := by simp [G6.dot]
  have e2 : m.dot ⟨0, 1, 0⟩ ⟨0, 1, 0⟩ = m.bb := by simp [G6.dot]
  have e3 : m.dot ⟨0, 0, 1⟩ ⟨0, 0, 1⟩ = m.cc := by simp [G6.dot]
  have e4 : m.dot ⟨0, 1, 0⟩ ⟨0, 0, 1⟩ = m.bc := by simp [G6.dot]
  have e5 : m.dot ⟨1, 0, 0⟩ ⟨0, 0, 1⟩ = m.ac := by simp [G6.dot]
  have e6 : m.dot ⟨1, 0, 0⟩ ⟨0, 1, 0⟩ = m.ab := by simp [G6.dot]
  have s := sq4_squares m
  have h4 := h.nn ⟨-1, -1, -1⟩
  have a := G6.Pos.aa h
  have b := G6.Pos.bb h
  have c := G6.Pos.cc h
  have w1 := h.within ⟨0, 1, 0⟩ ⟨0, 0, 1⟩
  have w2 := h.within ⟨1, 0, 0⟩ ⟨0, 0, 1⟩
  have w3 := h.within ⟨1, 0, 0⟩ ⟨0, 1, 0⟩
  rw [e1, e2, e3] at s
  rw [e2, e3, e4] at w1
  rw [e1, e3, e5] at w2
  rw [e1, e2, e6] at w3
  omega

/-! All steps -/
def G6.walk : Nat → G6 → M3 → Int → G6 × M3 × Int
  | 0, m, p, n => (m, p, n)
  | k + 1, m, p, n => bif decide (m.sharp.1 > 0) then G6.walk k m.next (p.mul m.sharp.2) (n + 1) else (m, p, n)
/-- As many steps as the sum of the squares has twos. -/
def G6.fin (m : G6) : G6 × M3 × Int := G6.walk m.sq4.toNat m M3.one 0
theorem G6.Pos.next {m : G6} (h : m.Pos) : m.next.Pos := by
  unfold G6.next
  rcases sharp_cases m with ⟨e, _⟩ | ⟨hp, _⟩
  · rw [e, turn_one]; exact h
  · exact h.turn (by rw [sharp_det m hp]; decide)
theorem walk_stop {m : G6} (h : ¬ m.sharp.1 > 0) : ∀ k p n, G6.walk k m p n = (m, p, n)
  | 0, _, _ => rfl
  | k + 1, p, n => by simp only [G6.walk, h, decide_false, cond_false]
theorem walk_more {m : G6} (hp : m.Pos) : ∀ (k j : Nat) (p : M3) (n : Int), m.sq4 ≤ (k : Int) → k ≤ j → G6.walk j m p n = G6.walk k m p n := by
  intro k
  induction k generalizing m with
  | zero => intro j p n hk _; have := G6.Pos.sq4 hp; omega
  | succ k ih =>
    intro j p n hk hj
    obtain ⟨j, rfl⟩ : ∃ i, j = i + 1 := ⟨j - 1, by omega⟩
    simp only [G6.walk]
    by_cases hs : m.sharp.1 > 0
    · simp only [hs, decide_true, cond_true]
      exact ih hp.next j _ _ (by rw [sq4_next]; omega) (by omega)
    · simp only [hs, decide_false, cond_false]
/-- A step, and the walk from there. -/
theorem fin_step {m : G6} (hp : m.Pos) (p : M3) (n : Int) (hs : m.sharp.1 > 0) : G6.walk m.sq4.toNat m p n = G6.walk m.next.sq4.toNat m.next (p.mul m.sharp.2) (n + 1) := by
  have h0 := G6.Pos.sq4 hp
  have h1 := G6.Pos.sq4 hp.next
  have e := sq4_next m
  obtain ⟨k, hk⟩ : ∃ k, m.sq4.toNat = k + 1 := ⟨m.sq4.toNat - 1, by omega⟩
  rw [hk]
  simp only [G6.walk, hs, decide_true, cond_true]
  exact walk_more hp.next _ _ _ _ (by omega) (by omega)
end Go.Proofs.YtjpfnfckpgilgaaGreat.Vx
