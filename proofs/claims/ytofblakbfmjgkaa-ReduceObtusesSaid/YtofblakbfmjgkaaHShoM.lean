/-
  Edges brought down by one another: the shortest of them is the shortest vector. No program in sight. Nothing here is trusted.
-/
import Derived.Test.YtofblakbfmjgkaaKai
namespace Go.Proofs.Ytofblakbfmjgkaa.Vx
open Go
def em01 (n : Int) : M3 := ⟨1, 0, 0, n, 1, 0, 0, 0, 1⟩
def em02 (n : Int) : M3 := ⟨1, 0, 0, 0, 1, 0, n, 0, 1⟩
def em10 (n : Int) : M3 := ⟨1, n, 0, 0, 1, 0, 0, 0, 1⟩
def em12 (n : Int) : M3 := ⟨1, 0, 0, 0, 1, 0, 0, n, 1⟩
def em20 (n : Int) : M3 := ⟨1, 0, n, 0, 1, 0, 0, 0, 1⟩
def em21 (n : Int) : M3 := ⟨1, 0, 0, 0, 1, n, 0, 0, 1⟩
theorem em_U (n : Int) : (em01 n).U ∧ (em02 n).U ∧ (em10 n).U ∧ (em12 n).U ∧ (em20 n).U ∧ (em21 n).U := by
  refine ⟨?_, ?_, ?_, ?_, ?_, ?_⟩ <;> (left; simp [M3.det, em01, em02, em10, em12, em20, em21])
def G6.tr (m : G6) : Int := m.aa + m.bb + m.cc
def Red (m m' : G6) : Prop := ∃ p : M3, p.U ∧ m' = m.turn p
theorem Red.refl (m : G6) : Red m m := ⟨M3.one, M3.U_one, (turn_one m).symm⟩
theorem Red.trans {a b c : G6} (h : Red a b) (g : Red b c) : Red a c := by
  obtain ⟨p, hp, rfl⟩ := h
  obtain ⟨q, hq, rfl⟩ := g
  exact ⟨p.mul q, M3.U_mul hp hq, turn_mul a p q⟩
theorem U_det {p : M3} (h : p.U) : p.det ≠ 0 := by rcases h with e | e <;> rw [e] <;> decide
structure Inv (m : G6) : Prop where
  pos : m.Pos
  tr : m.tr ≤ 300000
theorem Inv.bd {m : G6} (h : Inv m) : (0 < m.aa ∧ m.aa ≤ 300000) ∧ (0 < m.bb ∧ m.bb ≤ 300000) ∧ (0 < m.cc ∧ m.cc ≤ 300000) ∧ (-300000 ≤ m.bc ∧ m.bc ≤ 300000) ∧ (-300000 ≤ m.ac ∧ m.ac ≤ 300000) ∧ (-300000 ≤ m.ab ∧ m.ab ≤ 300000) := by
  have a := G6.Pos.aa h.pos
  have b := G6.Pos.bb h.pos
  have c := G6.Pos.cc h.pos
  have ht := h.tr
  unfold G6.tr at ht
  have w1 := h.pos.within ⟨0, 1, 0⟩ ⟨0, 0, 1⟩
  have w2 := h.pos.within ⟨1, 0, 0⟩ ⟨0, 0, 1⟩
  have w3 := h.pos.within ⟨1, 0, 0⟩ ⟨0, 1, 0⟩
  have e1 : m.dot ⟨1, 0, 0⟩ ⟨1, 0, 0⟩ = m.aa := by simp [G6.dot]
  have e2 : m.dot ⟨0, 1, 0⟩ ⟨0, 1, 0⟩ = m.bb := by simp [G6.dot]
  have e3 : m.dot ⟨0, 0, 1⟩ ⟨0, 0, 1⟩ = m.cc := by simp [G6.dot]
  have e4 : m.dot ⟨0, 1, 0⟩ ⟨0, 0, 1⟩ = m.bc := by simp [G6.dot]
  have e5 : m.dot ⟨1, 0, 0⟩ ⟨0, 0, 1⟩ = m.ac := by simp [G6.dot]
  have e6 : m.dot ⟨1, 0, 0⟩ ⟨0, 1, 0⟩ = m.ab := by simp [G6.dot]
  rw [e2, e3, e4] at w1
  rw [e1, e3, e5] at w2
  rw [e1, e2, e6] at w3
  omega
/-- One test: nothing done and this holds, or the edges are told anew and shorter. -/
def Next (m : G6) (t : Bool) (m' : G6) (t' : Bool) (T : Prop) : Prop := (m' = m ∧ t' = t ∧ T) ∨ (t' = true ∧ Red m m' ∧ m'.tr < m.tr)
theorem Next.inv {m m' : G6} {t t' : Bool} {T : Prop} (h : Next m t m' t' T) (hi : Inv m) : Inv m' := by
  rcases h with ⟨rfl, _, _⟩ | ⟨_, ⟨p, hp, rfl⟩, ht⟩
  · exact hi
  · exact ⟨hi.pos.turn (U_det hp), by have := hi.tr; omega⟩
def Acc (m0 m : G6) (t : Bool) (S : Prop) : Prop := (m = m0 ∧ t = false ∧ S) ∨ (t = true ∧ Red m0 m ∧ m.tr < m0.tr)
theorem Acc.next {m0 m m' : G6} {t t' : Bool} {S : Prop} {T : G6 → Prop} (h : Acc m0 m t S) (g : Next m t m' t' (T m)) : Acc m0 m' t' (S ∧ T m0) := by
  rcases h with ⟨rfl, rfl, hs⟩ | ⟨rfl, hr, ht⟩
  · rcases g with ⟨rfl, rfl, hT⟩ | ⟨rfl, hr, ht⟩
    · exact Or.inl ⟨rfl, rfl, hs, hT⟩
    · exact Or.inr ⟨rfl, hr, ht⟩
  · rcases g with ⟨rfl, rfl, _⟩ | ⟨rfl, hr2, ht2⟩
    · exact Or.inr ⟨rfl, hr, ht⟩
    · exact Or.inr ⟨rfl, hr.trans hr2, by omega⟩
/-! Rounding -/
def rnd (a b : Int) : Int := (2 * a + b) / (2 * b)
theorem rnd_spec {a b : Int} (hb : 0 < b) : 2 * (rnd a b * b) ≤ 2 * a + b ∧ 2 * a < 2 * (rnd a b * b) + b := by
  unfold rnd
  have h1 := Int.emod_add_mul_ediv (2 * a + b) (2 * b)
  have h2 := Int.emod_nonneg (2 * a + b) (show 2 * b ≠ 0 by omega)
  have h3 := Int.emod_lt_of_pos (2 * a + b) (show 0 < 2 * b by omega)
  have e : 2 * b * ((2 * a + b) / (2 * b)) = 2 * ((2 * a + b) / (2 * b) * b) := by grind
  rw [e] at h1
  omega
/-- If taking off the nearest multiple is no better, the product is small. -/
theorem small_of {g a b : Int} (hb : 0 < b) (h : rnd a b = 0 ∨ g ≤ g - 2 * rnd a b * a + rnd a b * rnd a b * b) : -b ≤ 2 * a ∧ 2 * a ≤ b := by
  obtain ⟨s1, s2⟩ := rnd_spec (a := a) hb
  generalize rnd a b = n at *
  rcases h with rfl | h
  · omega
  · by_cases h0 : n = 0
    · subst h0; omega
    · by_cases hn : 0 < n
      · have h2 : n * (2 * a) ≤ n * (n * b) := by
          rw [show n * (2 * a) = 2 * n * a by grind, show n * (n * b) = n * n * b by grind]; omega
        have h3 := Int.le_of_mul_le_mul_left h2 hn
        have h4 : n * b ≤ 1 * b := by omega
        have h5 := Int.le_of_mul_le_mul_right h4 hb
        have : n = 1 := by omega
        subst this
        omega
      · have h2 : (-n) * (-(2 * a)) ≤ (-n) * (-(n * b)) := by
          rw [show (-n) * (-(2 * a)) = 2 * n * a by grind, show (-n) * (-(n * b)) = n * n * b by grind]; omega
        have h3 := Int.le_of_mul_le_mul_left h2 (by omega : 0 < -n)
        have h4 : (-1) * b ≤ n * b := by omega
        have h5 := Int.le_of_mul_le_mul_right h4 hb
        have : n = -1 := by omega
        subst this
        omega
/-! Reduced edges -/
structure Rdc (m : G6) : Prop where
  ab1 : -m.bb ≤ 2 * m.ab ∧ 2 * m.ab ≤ m.bb
  ab2 : -m.aa ≤ 2 * m.ab ∧ 2 * m.ab ≤ m.aa
  ac1 : -m.cc ≤ 2 * m.ac ∧ 2 * m.ac ≤ m.cc
  ac2 : -m.aa ≤ 2 * m.ac ∧ 2 * m.ac ≤ m.aa
  bc1 : -m.cc ≤ 2 * m.bc ∧ 2 * m.bc ≤ m.cc
  bc2 : -m.bb ≤ 2 * m.bc ∧ 2 * m.bc ≤ m.bb
  all : ∀ x y z : Int, (x = 1 ∨ x = -1) → (y = 1 ∨ y = -1) → (z = 1 ∨ z = -1) → m.aa ≤ m.dot ⟨x, y, z⟩ ⟨x, y, z⟩
def sgI (x : Int) : Int := if x > 0 then 1 else if x < 0 then -1 else 0
theorem sgI_cases (x : Int) : (x > 0 ∧ sgI x = 1) ∨ (x = 0 ∧ sgI x = 0) ∨ (x < 0 ∧ sgI x = -1) := by
  unfold sgI; split
  · omega
  · split <;> omega
/-- A vector is no shorter than that of its signs. -/
theorem sg_le {m : G6} (h : Rdc m) (hp : m.Pos) (u : V3) : m.dot ⟨sgI u.x, sgI u.y, sgI u.z⟩ ⟨sgI u.x, sgI u.y, sgI u.z⟩ ≤ m.dot u u := by
  have key : m.dot u u = m.dot ⟨sgI u.x, sgI u.y, sgI u.z⟩ ⟨sgI u.x, sgI u.y, sgI u.z⟩ + 2 * ((u.x - sgI u.x) * (m.aa * sgI u.x + m.ab * sgI u.y + m.ac * sgI u.z) + (u.y - sgI u.y) * (m.ab * sgI u.x + m.bb * sgI u.y + m.bc * sgI u.z) + (u.z - sgI u.z) * (m.ac * sgI u.x + m.bc * sgI u.y + m.cc * sgI u.z)) + m.dot ⟨u.x - sgI u.x, u.y - sgI u.y, u.z - sgI u.z⟩ ⟨u.x - sgI u.x, u.y - sgI u.y, u.z - sgI u.z⟩ := by
    unfold G6.dot; simp only; grind
  have nn := hp.nn ⟨u.x - sgI u.x, u.y - sgI u.y, u.z - sgI u.z⟩
  have a := G6.Pos.aa hp
  have b := G6.Pos.bb hp
  have c := G6.Pos.cc hp
  obtain ⟨⟨h1, h2⟩, ⟨h3, h4⟩, ⟨h5, h6⟩, ⟨h7, h8⟩, ⟨h9, h10⟩, ⟨h11, h12⟩, _⟩ := h
  have term : ∀ {x s g : Int}, ((x > 0 ∧ s = 1 ∧ 0 ≤ g) ∨ (x = 0 ∧ s = 0) ∨ (x < 0 ∧ s = -1 ∧ g ≤ 0)) → 0 ≤ (x - s) * g := by
    intro x s g h
    rcases h with ⟨h1, rfl, h3⟩ | ⟨rfl, rfl⟩ | ⟨h1, rfl, h3⟩
    · exact Int.mul_nonneg (by omega) h3
    · simp
    · exact Int.mul_nonneg_of_nonpos_of_nonpos (by omega) h3
  have sx := sgI_cases u.x
  have sy := sgI_cases u.y
  have sz := sgI_cases u.z
  have t1 : 0 ≤ (u.x - sgI u.x) * (m.aa * sgI u.x + m.ab * sgI u.y + m.ac * sgI u.z) := term (by
    rcases sx with ⟨x1, x2⟩ | ⟨x1, x2⟩ | ⟨x1, x2⟩ <;> rcases sy with ⟨_, y2⟩ | ⟨_, y2⟩ | ⟨_, y2⟩ <;> rcases sz with ⟨_, z2⟩ | ⟨_, z2⟩ | ⟨_, z2⟩ <;> rw [x2, y2, z2] <;> omega)
  have t2 : 0 ≤ (u.y - sgI u.y) * (m.ab * sgI u.x + m.bb * sgI u.y + m.bc * sgI u.z) := term (by
    rcases sx with ⟨_, x2⟩ | ⟨_, x2⟩ | ⟨_, x2⟩ <;> rcases sy with ⟨y1, y2⟩ | ⟨y1, y2⟩ | ⟨y1, y2⟩ <;> rcases sz with ⟨_, z2⟩ | ⟨_, z2⟩ | ⟨_, z2⟩ <;> rw [x2, y2, z2] <;> omega)
  have t3 : 0 ≤ (u.z - sgI u.z) * (m.ac * sgI u.x + m.bc * sgI u.y + m.cc * sgI u.z) := term (by
    rcases sx with ⟨_, x2⟩ | ⟨_, x2⟩ | ⟨_, x2⟩ <;> rcases sy with ⟨_, y2⟩ | ⟨_, y2⟩ | ⟨_, y2⟩ <;> rcases sz with ⟨z1, z2⟩ | ⟨z1, z2⟩ | ⟨z1, z2⟩ <;> rw [x2, y2, z2] <;> omega)
  omega
theorem rdc_short {m : G6} (h : Rdc m) (hp : m.Pos) : m.Short (min2I (min2I m.aa m.bb) m.cc) := by
  have m1 := min2I_le m.aa m.bb
  have m2 := min2I_le (min2I m.aa m.bb) m.cc
  generalize min2I (min2I m.aa m.bb) m.cc = n at *
  generalize min2I m.aa m.bb = k at *
  constructor
  · have : n = m.aa ∨ n = m.bb ∨ n = m.cc := by omega
    rcases this with h | h | h
    · exact ⟨⟨1, 0, 0⟩, by simp [V3.zero_iff], by rw [h]; simp [G6.dot]⟩
    · exact ⟨⟨0, 1, 0⟩, by simp [V3.zero_iff], by rw [h]; simp [G6.dot]⟩
    · exact ⟨⟨0, 0, 1⟩, by simp [V3.zero_iff], by rw [h]; simp [G6.dot]⟩
  · intro v hv
    have hs := sg_le h hp v
    have : n ≤ m.dot ⟨sgI v.x, sgI v.y, sgI v.z⟩ ⟨sgI v.x, sgI v.y, sgI v.z⟩ := by
      obtain ⟨h1, h2, h3, h4, h5, h6, h7⟩ := h
      have d3 := h7 (sgI v.x) (sgI v.y) (sgI v.z)
      rcases sgI_cases v.x with ⟨x1, x2⟩ | ⟨x1, x2⟩ | ⟨x1, x2⟩ <;> rcases sgI_cases v.y with ⟨y1, y2⟩ | ⟨y1, y2⟩ | ⟨y1, y2⟩ <;> rcases sgI_cases v.z with ⟨z1, z2⟩ | ⟨z1, z2⟩ | ⟨z1, z2⟩ <;> rw [x2, y2, z2] at d3 ⊢
      all_goals first
        | (exact absurd (V3.zero_iff.2 ⟨x1, y1, z1⟩) hv)
        | (simp [G6.dot]; omega)
        | (exact Int.le_trans (by omega) (d3 (by decide) (by decide) (by decide)))
    omega
end Go.Proofs.Ytofblakbfmjgkaa.Vx
