/-
  What the tests of the document's Shortest tell. No program in sight. Nothing here is trusted.
-/
import Derived.Test.YtofblakbfmjgkaaHShoW
namespace Go.Proofs.Ytofblakbfmjgkaa.Vx
open Go
theorem Inv.bd2 {m : G6} (h : Inv m) : m.aa + m.bb + m.cc ≤ 300000 ∧ (2 * m.ab ≤ m.aa + m.bb ∧ -(m.aa + m.bb) ≤ 2 * m.ab) ∧ (2 * m.ac ≤ m.aa + m.cc ∧ -(m.aa + m.cc) ≤ 2 * m.ac) ∧ (2 * m.bc ≤ m.bb + m.cc ∧ -(m.bb + m.cc) ≤ 2 * m.bc) := by
  have w1 := h.pos.within ⟨0, 1, 0⟩ ⟨0, 0, 1⟩
  have w2 := h.pos.within ⟨1, 0, 0⟩ ⟨0, 0, 1⟩
  have w3 := h.pos.within ⟨1, 0, 0⟩ ⟨0, 1, 0⟩
  have e1 : m.dot ⟨1, 0, 0⟩ ⟨1, 0, 0⟩ = m.aa := by simp [G6.dot]
  have e2 : m.dot ⟨0, 1, 0⟩ ⟨0, 1, 0⟩ = m.bb := by simp [G6.dot]
  have e3 : m.dot ⟨0, 0, 1⟩ ⟨0, 0, 1⟩ = m.cc := by simp [G6.dot]
  have e4 : m.dot ⟨0, 1, 0⟩ ⟨0, 0, 1⟩ = m.bc := by simp [G6.dot]
  have e5 : m.dot ⟨1, 0, 0⟩ ⟨0, 0, 1⟩ = m.ac := by simp [G6.dot]
  have e6 : m.dot ⟨1, 0, 0⟩ ⟨0, 1, 0⟩ = m.ab := by simp [G6.dot]
  rw [e2, e3, e4] at w1
  rw [e1, e3, e5] at w2
  rw [e1, e2, e6] at w3
  have ht := h.tr
  unfold G6.tr at ht
  omega
theorem Inv.sb {m : G6} (h : Inv m) : m.SB 1000000 := by
  have := h.bd
  unfold G6.SB; omega
theorem rnd_bd {a b : Int} (hb : 0 < b) (hb1 : b ≤ 300000) (ha : -300000 ≤ a ∧ a ≤ 300000) : -1000000 ≤ rnd a b ∧ rnd a b ≤ 1000000 := by
  unfold rnd
  constructor
  · exact (Int.le_ediv_iff_mul_le (by omega)).2 (by omega)
  · exact Int.ediv_le_of_le_mul (by omega) (by omega)
theorem rdB_of {a b : Int} (hb : 0 < b) (hb1 : b ≤ 300000) (ha : -300000 ≤ a ∧ a ≤ 300000) : rdB a b = true := by
  simp only [rdB, Bool.and_eq_true, decide_eq_true_eq]; omega
theorem em01_eq (m : G6) (n : Int) : m.turn (em01 n) = ⟨m.aa + 2 * (n * m.ab) + n * (n * m.bb), m.bb, m.cc, m.bc, m.ac + n * m.bc, m.ab + n * m.bb⟩ := by
  refine G6.ext' ⟨?_, ?_, ?_, ?_, ?_, ?_⟩ <;> (simp only [G6.turn, G6.dot, M3.c1, M3.c2, M3.c3, em01]; grind)
theorem ad01_zero {m : G6} (h : m.SB 4000000000000000000) : ad01 m.mat 0 = m.mat := by
  have e := mat_w h (by omega)
  have ea := congrArg M3.a e
  have eb := congrArg M3.b e
  have ec := congrArg M3.c e
  have ed := congrArg M3.d e
  have ee := congrArg M3.e e
  have ef := congrArg M3.f e
  have eg := congrArg M3.g e
  have eh := congrArg M3.h e
  have ei := congrArg M3.i e
  simp only [M3.w] at ea eb ec ed ee ef eg eh ei
  have z : W 0 = 0 := rfl
  refine M3.ext' ⟨?_, ?_, ?_, ?_, ?_, ?_, ?_, ?_, ?_⟩ <;> (simp only [ad01, Int.zero_mul, z, Int.add_zero, W_W]; try assumption)
theorem em02_eq (m : G6) (n : Int) : m.turn (em02 n) = ⟨m.aa + 2 * (n * m.ac) + n * (n * m.cc), m.bb, m.cc, m.bc, m.ac + n * m.cc, m.ab + n * m.bc⟩ := by
  refine G6.ext' ⟨?_, ?_, ?_, ?_, ?_, ?_⟩ <;> (simp only [G6.turn, G6.dot, M3.c1, M3.c2, M3.c3, em02]; grind)
theorem ad02_zero {m : G6} (h : m.SB 4000000000000000000) : ad02 m.mat 0 = m.mat := by
  have e := mat_w h (by omega)
  have ea := congrArg M3.a e
  have eb := congrArg M3.b e
  have ec := congrArg M3.c e
  have ed := congrArg M3.d e
  have ee := congrArg M3.e e
  have ef := congrArg M3.f e
  have eg := congrArg M3.g e
  have eh := congrArg M3.h e
  have ei := congrArg M3.i e
  simp only [M3.w] at ea eb ec ed ee ef eg eh ei
  have z : W 0 = 0 := rfl
  refine M3.ext' ⟨?_, ?_, ?_, ?_, ?_, ?_, ?_, ?_, ?_⟩ <;> (simp only [ad02, Int.zero_mul, z, Int.add_zero, W_W]; try assumption)
theorem em10_eq (m : G6) (n : Int) : m.turn (em10 n) = ⟨m.aa, m.bb + 2 * (n * m.ab) + n * (n * m.aa), m.cc, m.bc + n * m.ac, m.ac, m.ab + n * m.aa⟩ := by
  refine G6.ext' ⟨?_, ?_, ?_, ?_, ?_, ?_⟩ <;> (simp only [G6.turn, G6.dot, M3.c1, M3.c2, M3.c3, em10]; grind)
theorem ad10_zero {m : G6} (h : m.SB 4000000000000000000) : ad10 m.mat 0 = m.mat := by
  have e := mat_w h (by omega)
  have ea := congrArg M3.a e
  have eb := congrArg M3.b e
  have ec := congrArg M3.c e
  have ed := congrArg M3.d e
  have ee := congrArg M3.e e
  have ef := congrArg M3.f e
  have eg := congrArg M3.g e
  have eh := congrArg M3.h e
  have ei := congrArg M3.i e
  simp only [M3.w] at ea eb ec ed ee ef eg eh ei
  have z : W 0 = 0 := rfl
  refine M3.ext' ⟨?_, ?_, ?_, ?_, ?_, ?_, ?_, ?_, ?_⟩ <;> (simp only [ad10, Int.zero_mul, z, Int.add_zero, W_W]; try assumption)
theorem em12_eq (m : G6) (n : Int) : m.turn (em12 n) = ⟨m.aa, m.bb + 2 * (n * m.bc) + n * (n * m.cc), m.cc, m.bc + n * m.cc, m.ac, m.ab + n * m.ac⟩ := by
  refine G6.ext' ⟨?_, ?_, ?_, ?_, ?_, ?_⟩ <;> (simp only [G6.turn, G6.dot, M3.c1, M3.c2, M3.c3, em12]; grind)
theorem ad12_zero {m : G6} (h : m.SB 4000000000000000000) : ad12 m.mat 0 = m.mat := by
  have e := mat_w h (by omega)
  have ea := congrArg M3.a e
  have eb := congrArg M3.b e
  have ec := congrArg M3.c e
  have ed := congrArg M3.d e
  have ee := congrArg M3.e e
  have ef := congrArg M3.f e
  have eg := congrArg M3.g e
  have eh := congrArg M3.h e
  have ei := congrArg M3.i e
  simp only [M3.w] at ea eb ec ed ee ef eg eh ei
  have z : W 0 = 0 := rfl
  refine M3.ext' ⟨?_, ?_, ?_, ?_, ?_, ?_, ?_, ?_, ?_⟩ <;> (simp only [ad12, Int.zero_mul, z, Int.add_zero, W_W]; try assumption)
theorem em20_eq (m : G6) (n : Int) : m.turn (em20 n) = ⟨m.aa, m.bb, m.cc + 2 * (n * m.ac) + n * (n * m.aa), m.bc + n * m.ab, m.ac + n * m.aa, m.ab⟩ := by
  refine G6.ext' ⟨?_, ?_, ?_, ?_, ?_, ?_⟩ <;> (simp only [G6.turn, G6.dot, M3.c1, M3.c2, M3.c3, em20]; grind)
theorem ad20_zero {m : G6} (h : m.SB 4000000000000000000) : ad20 m.mat 0 = m.mat := by
  have e := mat_w h (by omega)
  have ea := congrArg M3.a e
  have eb := congrArg M3.b e
  have ec := congrArg M3.c e
  have ed := congrArg M3.d e
  have ee := congrArg M3.e e
  have ef := congrArg M3.f e
  have eg := congrArg M3.g e
  have eh := congrArg M3.h e
  have ei := congrArg M3.i e
  simp only [M3.w] at ea eb ec ed ee ef eg eh ei
  have z : W 0 = 0 := rfl
  refine M3.ext' ⟨?_, ?_, ?_, ?_, ?_, ?_, ?_, ?_, ?_⟩ <;> (simp only [ad20, Int.zero_mul, z, Int.add_zero, W_W]; try assumption)
theorem em21_eq (m : G6) (n : Int) : m.turn (em21 n) = ⟨m.aa, m.bb, m.cc + 2 * (n * m.bc) + n * (n * m.bb), m.bc + n * m.bb, m.ac + n * m.ab, m.ab⟩ := by
  refine G6.ext' ⟨?_, ?_, ?_, ?_, ?_, ?_⟩ <;> (simp only [G6.turn, G6.dot, M3.c1, M3.c2, M3.c3, em21]; grind)
theorem ad21_zero {m : G6} (h : m.SB 4000000000000000000) : ad21 m.mat 0 = m.mat := by
  have e := mat_w h (by omega)
  have ea := congrArg M3.a e
  have eb := congrArg M3.b e
  have ec := congrArg M3.c e
  have ed := congrArg M3.d e
  have ee := congrArg M3.e e
  have ef := congrArg M3.f e
  have eg := congrArg M3.g e
  have eh := congrArg M3.h e
  have ei := congrArg M3.i e
  simp only [M3.w] at ea eb ec ed ee ef eg eh ei
  have z : W 0 = 0 := rfl
  refine M3.ext' ⟨?_, ?_, ?_, ?_, ?_, ?_, ?_, ?_, ?_⟩ <;> (simp only [ad21, Int.zero_mul, z, Int.add_zero, W_W]; try assumption)
theorem st01 {m : G6} (h : Inv m) (t : Bool) : rdB m.ab m.bb = true ∧ W (0 - rnd m.ab m.bb) = -(rnd m.ab m.bb) ∧ ad01 m.mat (-(rnd m.ab m.bb)) = (m.turn (em01 (-(rnd m.ab m.bb)))).mat ∧ ad01 (m.turn (em01 (-(rnd m.ab m.bb)))).mat 0 = (m.turn (em01 (-(rnd m.ab m.bb)))).mat ∧
    ((m.turn (em01 (-(rnd m.ab m.bb)))).aa < m.aa → Next m t (m.turn (em01 (-(rnd m.ab m.bb)))) true (-m.bb ≤ 2 * m.ab ∧ 2 * m.ab ≤ m.bb)) ∧
    (¬ (m.turn (em01 (-(rnd m.ab m.bb)))).aa < m.aa → Next m t m t (-m.bb ≤ 2 * m.ab ∧ 2 * m.ab ≤ m.bb)) ∧ (rnd m.ab m.bb = 0 → Next m t m t (-m.bb ≤ 2 * m.ab ∧ 2 * m.ab ≤ m.bb)) := by
  have bd := h.bd
  have rb := rnd_bd (a := m.ab) (b := m.bb) (by omega) (by omega) (by omega)
  have rr := rdB_of (a := m.ab) (b := m.bb) (by omega) (by omega) (by omega)
  have sm := @small_of m.aa m.ab m.bb (by omega)
  refine ⟨rr, ?_, ?_, ?_, ?_, ?_, ?_⟩
  · rw [Int.zero_sub]; exact W_in (by omega)
  · exact ad01_in h.sb (by omega)
  · exact ad01_zero (em01_SB h.sb (by omega))
  · intro hl
    refine Or.inr ⟨rfl, ⟨_, (em_U _).1, rfl⟩, ?_⟩
    rw [em01_eq] at hl ⊢
    unfold G6.tr
    simp only at hl ⊢
    omega
  · intro hl
    refine Or.inl ⟨rfl, rfl, sm (Or.inr ?_)⟩
    rw [em01_eq] at hl
    simp only at hl
    have e1 : -(rnd m.ab m.bb) * m.ab = -(rnd m.ab m.bb * m.ab) := by grind
    have e2 : -(rnd m.ab m.bb) * (-(rnd m.ab m.bb) * m.bb) = rnd m.ab m.bb * rnd m.ab m.bb * m.bb := by grind
    have e3 : 2 * rnd m.ab m.bb * m.ab = 2 * (rnd m.ab m.bb * m.ab) := by grind
    rw [e1, e2] at hl
    rw [e3]
    omega
  · intro h0
    exact Or.inl ⟨rfl, rfl, sm (Or.inl h0)⟩
theorem st02 {m : G6} (h : Inv m) (t : Bool) : rdB m.ac m.cc = true ∧ W (0 - rnd m.ac m.cc) = -(rnd m.ac m.cc) ∧ ad02 m.mat (-(rnd m.ac m.cc)) = (m.turn (em02 (-(rnd m.ac m.cc)))).mat ∧ ad02 (m.turn (em02 (-(rnd m.ac m.cc)))).mat 0 = (m.turn (em02 (-(rnd m.ac m.cc)))).mat ∧
    ((m.turn (em02 (-(rnd m.ac m.cc)))).aa < m.aa → Next m t (m.turn (em02 (-(rnd m.ac m.cc)))) true (-m.cc ≤ 2 * m.ac ∧ 2 * m.ac ≤ m.cc)) ∧
    (¬ (m.turn (em02 (-(rnd m.ac m.cc)))).aa < m.aa → Next m t m t (-m.cc ≤ 2 * m.ac ∧ 2 * m.ac ≤ m.cc)) ∧ (rnd m.ac m.cc = 0 → Next m t m t (-m.cc ≤ 2 * m.ac ∧ 2 * m.ac ≤ m.cc)) := by
  have bd := h.bd
  have rb := rnd_bd (a := m.ac) (b := m.cc) (by omega) (by omega) (by omega)
  have rr := rdB_of (a := m.ac) (b := m.cc) (by omega) (by omega) (by omega)
  have sm := @small_of m.aa m.ac m.cc (by omega)
  refine ⟨rr, ?_, ?_, ?_, ?_, ?_, ?_⟩
  · rw [Int.zero_sub]; exact W_in (by omega)
  · exact ad02_in h.sb (by omega)
  · exact ad02_zero (em02_SB h.sb (by omega))
  · intro hl
    refine Or.inr ⟨rfl, ⟨_, (em_U _).2.1, rfl⟩, ?_⟩
    rw [em02_eq] at hl ⊢
    unfold G6.tr
    simp only at hl ⊢
    omega
  · intro hl
    refine Or.inl ⟨rfl, rfl, sm (Or.inr ?_)⟩
    rw [em02_eq] at hl
    simp only at hl
    have e1 : -(rnd m.ac m.cc) * m.ac = -(rnd m.ac m.cc * m.ac) := by grind
    have e2 : -(rnd m.ac m.cc) * (-(rnd m.ac m.cc) * m.cc) = rnd m.ac m.cc * rnd m.ac m.cc * m.cc := by grind
    have e3 : 2 * rnd m.ac m.cc * m.ac = 2 * (rnd m.ac m.cc * m.ac) := by grind
    rw [e1, e2] at hl
    rw [e3]
    omega
  · intro h0
    exact Or.inl ⟨rfl, rfl, sm (Or.inl h0)⟩
theorem st10 {m : G6} (h : Inv m) (t : Bool) : rdB m.ab m.aa = true ∧ W (0 - rnd m.ab m.aa) = -(rnd m.ab m.aa) ∧ ad10 m.mat (-(rnd m.ab m.aa)) = (m.turn (em10 (-(rnd m.ab m.aa)))).mat ∧ ad10 (m.turn (em10 (-(rnd m.ab m.aa)))).mat 0 = (m.turn (em10 (-(rnd m.ab m.aa)))).mat ∧
    ((m.turn (em10 (-(rnd m.ab m.aa)))).bb < m.bb → Next m t (m.turn (em10 (-(rnd m.ab m.aa)))) true (-m.aa ≤ 2 * m.ab ∧ 2 * m.ab ≤ m.aa)) ∧
    (¬ (m.turn (em10 (-(rnd m.ab m.aa)))).bb < m.bb → Next m t m t (-m.aa ≤ 2 * m.ab ∧ 2 * m.ab ≤ m.aa)) ∧ (rnd m.ab m.aa = 0 → Next m t m t (-m.aa ≤ 2 * m.ab ∧ 2 * m.ab ≤ m.aa)) := by
  have bd := h.bd
  have rb := rnd_bd (a := m.ab) (b := m.aa) (by omega) (by omega) (by omega)
  have rr := rdB_of (a := m.ab) (b := m.aa) (by omega) (by omega) (by omega)
  have sm := @small_of m.bb m.ab m.aa (by omega)
  refine ⟨rr, ?_, ?_, ?_, ?_, ?_, ?_⟩
  · rw [Int.zero_sub]; exact W_in (by omega)
  · exact ad10_in h.sb (by omega)
  · exact ad10_zero (em10_SB h.sb (by omega))
  · intro hl
    refine Or.inr ⟨rfl, ⟨_, (em_U _).2.2.1, rfl⟩, ?_⟩
    rw [em10_eq] at hl ⊢
    unfold G6.tr
    simp only at hl ⊢
    omega
  · intro hl
    refine Or.inl ⟨rfl, rfl, sm (Or.inr ?_)⟩
    rw [em10_eq] at hl
    simp only at hl
    have e1 : -(rnd m.ab m.aa) * m.ab = -(rnd m.ab m.aa * m.ab) := by grind
    have e2 : -(rnd m.ab m.aa) * (-(rnd m.ab m.aa) * m.aa) = rnd m.ab m.aa * rnd m.ab m.aa * m.aa := by grind
    have e3 : 2 * rnd m.ab m.aa * m.ab = 2 * (rnd m.ab m.aa * m.ab) := by grind
    rw [e1, e2] at hl
    rw [e3]
    omega
  · intro h0
    exact Or.inl ⟨rfl, rfl, sm (Or.inl h0)⟩
theorem st12 {m : G6} (h : Inv m) (t : Bool) : rdB m.bc m.cc = true ∧ W (0 - rnd m.bc m.cc) = -(rnd m.bc m.cc) ∧ ad12 m.mat (-(rnd m.bc m.cc)) = (m.turn (em12 (-(rnd m.bc m.cc)))).mat ∧ ad12 (m.turn (em12 (-(rnd m.bc m.cc)))).mat 0 = (m.turn (em12 (-(rnd m.bc m.cc)))).mat ∧
    ((m.turn (em12 (-(rnd m.bc m.cc)))).bb < m.bb → Next m t (m.turn (em12 (-(rnd m.bc m.cc)))) true (-m.cc ≤ 2 * m.bc ∧ 2 * m.bc ≤ m.cc)) ∧
    (¬ (m.turn (em12 (-(rnd m.bc m.cc)))).bb < m.bb → Next m t m t (-m.cc ≤ 2 * m.bc ∧ 2 * m.bc ≤ m.cc)) ∧ (rnd m.bc m.cc = 0 → Next m t m t (-m.cc ≤ 2 * m.bc ∧ 2 * m.bc ≤ m.cc)) := by
  have bd := h.bd
  have rb := rnd_bd (a := m.bc) (b := m.cc) (by omega) (by omega) (by omega)
  have rr := rdB_of (a := m.bc) (b := m.cc) (by omega) (by omega) (by omega)
  have sm := @small_of m.bb m.bc m.cc (by omega)
  refine ⟨rr, ?_, ?_, ?_, ?_, ?_, ?_⟩
  · rw [Int.zero_sub]; exact W_in (by omega)
  · exact ad12_in h.sb (by omega)
  · exact ad12_zero (em12_SB h.sb (by omega))
  · intro hl
    refine Or.inr ⟨rfl, ⟨_, (em_U _).2.2.2.1, rfl⟩, ?_⟩
    rw [em12_eq] at hl ⊢
    unfold G6.tr
    simp only at hl ⊢
    omega
  · intro hl
    refine Or.inl ⟨rfl, rfl, sm (Or.inr ?_)⟩
    rw [em12_eq] at hl
    simp only at hl
    have e1 : -(rnd m.bc m.cc) * m.bc = -(rnd m.bc m.cc * m.bc) := by grind
    have e2 : -(rnd m.bc m.cc) * (-(rnd m.bc m.cc) * m.cc) = rnd m.bc m.cc * rnd m.bc m.cc * m.cc := by grind
    have e3 : 2 * rnd m.bc m.cc * m.bc = 2 * (rnd m.bc m.cc * m.bc) := by grind
    rw [e1, e2] at hl
    rw [e3]
    omega
  · intro h0
    exact Or.inl ⟨rfl, rfl, sm (Or.inl h0)⟩
theorem st20 {m : G6} (h : Inv m) (t : Bool) : rdB m.ac m.aa = true ∧ W (0 - rnd m.ac m.aa) = -(rnd m.ac m.aa) ∧ ad20 m.mat (-(rnd m.ac m.aa)) = (m.turn (em20 (-(rnd m.ac m.aa)))).mat ∧ ad20 (m.turn (em20 (-(rnd m.ac m.aa)))).mat 0 = (m.turn (em20 (-(rnd m.ac m.aa)))).mat ∧
    ((m.turn (em20 (-(rnd m.ac m.aa)))).cc < m.cc → Next m t (m.turn (em20 (-(rnd m.ac m.aa)))) true (-m.aa ≤ 2 * m.ac ∧ 2 * m.ac ≤ m.aa)) ∧
    (¬ (m.turn (em20 (-(rnd m.ac m.aa)))).cc < m.cc → Next m t m t (-m.aa ≤ 2 * m.ac ∧ 2 * m.ac ≤ m.aa)) ∧ (rnd m.ac m.aa = 0 → Next m t m t (-m.aa ≤ 2 * m.ac ∧ 2 * m.ac ≤ m.aa)) := by
  have bd := h.bd
  have rb := rnd_bd (a := m.ac) (b := m.aa) (by omega) (by omega) (by omega)
  have rr := rdB_of (a := m.ac) (b := m.aa) (by omega) (by omega) (by omega)
  have sm := @small_of m.cc m.ac m.aa (by omega)
  refine ⟨rr, ?_, ?_, ?_, ?_, ?_, ?_⟩
  · rw [Int.zero_sub]; exact W_in (by omega)
  · exact ad20_in h.sb (by omega)
  · exact ad20_zero (em20_SB h.sb (by omega))
  · intro hl
    refine Or.inr ⟨rfl, ⟨_, (em_U _).2.2.2.2.1, rfl⟩, ?_⟩
    rw [em20_eq] at hl ⊢
    unfold G6.tr
    simp only at hl ⊢
    omega
  · intro hl
    refine Or.inl ⟨rfl, rfl, sm (Or.inr ?_)⟩
    rw [em20_eq] at hl
    simp only at hl
    have e1 : -(rnd m.ac m.aa) * m.ac = -(rnd m.ac m.aa * m.ac) := by grind
    have e2 : -(rnd m.ac m.aa) * (-(rnd m.ac m.aa) * m.aa) = rnd m.ac m.aa * rnd m.ac m.aa * m.aa := by grind
    have e3 : 2 * rnd m.ac m.aa * m.ac = 2 * (rnd m.ac m.aa * m.ac) := by grind
    rw [e1, e2] at hl
    rw [e3]
    omega
  · intro h0
    exact Or.inl ⟨rfl, rfl, sm (Or.inl h0)⟩
theorem st21 {m : G6} (h : Inv m) (t : Bool) : rdB m.bc m.bb = true ∧ W (0 - rnd m.bc m.bb) = -(rnd m.bc m.bb) ∧ ad21 m.mat (-(rnd m.bc m.bb)) = (m.turn (em21 (-(rnd m.bc m.bb)))).mat ∧ ad21 (m.turn (em21 (-(rnd m.bc m.bb)))).mat 0 = (m.turn (em21 (-(rnd m.bc m.bb)))).mat ∧
    ((m.turn (em21 (-(rnd m.bc m.bb)))).cc < m.cc → Next m t (m.turn (em21 (-(rnd m.bc m.bb)))) true (-m.bb ≤ 2 * m.bc ∧ 2 * m.bc ≤ m.bb)) ∧
    (¬ (m.turn (em21 (-(rnd m.bc m.bb)))).cc < m.cc → Next m t m t (-m.bb ≤ 2 * m.bc ∧ 2 * m.bc ≤ m.bb)) ∧ (rnd m.bc m.bb = 0 → Next m t m t (-m.bb ≤ 2 * m.bc ∧ 2 * m.bc ≤ m.bb)) := by
  have bd := h.bd
  have rb := rnd_bd (a := m.bc) (b := m.bb) (by omega) (by omega) (by omega)
  have rr := rdB_of (a := m.bc) (b := m.bb) (by omega) (by omega) (by omega)
  have sm := @small_of m.cc m.bc m.bb (by omega)
  refine ⟨rr, ?_, ?_, ?_, ?_, ?_, ?_⟩
  · rw [Int.zero_sub]; exact W_in (by omega)
  · exact ad21_in h.sb (by omega)
  · exact ad21_zero (em21_SB h.sb (by omega))
  · intro hl
    refine Or.inr ⟨rfl, ⟨_, (em_U _).2.2.2.2.2, rfl⟩, ?_⟩
    rw [em21_eq] at hl ⊢
    unfold G6.tr
    simp only at hl ⊢
    omega
  · intro hl
    refine Or.inl ⟨rfl, rfl, sm (Or.inr ?_)⟩
    rw [em21_eq] at hl
    simp only at hl
    have e1 : -(rnd m.bc m.bb) * m.bc = -(rnd m.bc m.bb * m.bc) := by grind
    have e2 : -(rnd m.bc m.bb) * (-(rnd m.bc m.bb) * m.bb) = rnd m.bc m.bb * rnd m.bc m.bb * m.bb := by grind
    have e3 : 2 * rnd m.bc m.bb * m.bc = 2 * (rnd m.bc m.bb * m.bc) := by grind
    rw [e1, e2] at hl
    rw [e3]
    omega
  · intro h0
    exact Or.inl ⟨rfl, rfl, sm (Or.inl h0)⟩
theorem sn0 {m : G6} (h : Inv m) (t : Bool) {x y : Int} (hx : x = 1 ∨ x = -1) (hy : y = 1 ∨ y = -1) : ad02 (ad01 m.mat x) y = ((m.turn (em01 x)).turn (em02 y)).mat ∧
    (((m.turn (em01 x)).turn (em02 y)).aa < m.aa → Next m t ((m.turn (em01 x)).turn (em02 y)) true (m.aa ≤ m.dot ⟨1, x, y⟩ ⟨1, x, y⟩)) ∧
    (¬ ((m.turn (em01 x)).turn (em02 y)).aa < m.aa → Next m t m t (m.aa ≤ m.dot ⟨1, x, y⟩ ⟨1, x, y⟩)) := by
  have b2 := h.bd2
  have bd := h.bd
  have s1 : (m.turn (em01 x)).SB 1000000 := by
    rw [em01_eq]
    unfold G6.SB
    simp only
    rcases hx with rfl | rfl <;> omega
  refine ⟨?_, ?_, ?_⟩
  · rw [ad01_in h.sb (by omega), ad02_in s1 (by omega)]
  · intro hl
    refine Or.inr ⟨rfl, Red.trans ⟨_, (em_U _).1, rfl⟩ ⟨_, (em_U _).2.1, rfl⟩, ?_⟩
    rw [em02_eq, em01_eq] at hl ⊢
    unfold G6.tr
    simp only at hl ⊢
    omega
  · intro hl
    refine Or.inl ⟨rfl, rfl, ?_⟩
    have e : ((m.turn (em01 x)).turn (em02 y)).aa = m.dot ⟨1, x, y⟩ ⟨1, x, y⟩ := by
      rw [em02_eq, em01_eq]
      unfold G6.dot
      simp only
      grind
    rw [e] at hl
    omega
theorem sn1 {m : G6} (h : Inv m) (t : Bool) {x y : Int} (hx : x = 1 ∨ x = -1) (hy : y = 1 ∨ y = -1) : ad10 (ad12 m.mat x) y = ((m.turn (em12 x)).turn (em10 y)).mat ∧
    (((m.turn (em12 x)).turn (em10 y)).bb < m.bb → Next m t ((m.turn (em12 x)).turn (em10 y)) true True) ∧
    (¬ ((m.turn (em12 x)).turn (em10 y)).bb < m.bb → Next m t m t True) := by
  have b2 := h.bd2
  have bd := h.bd
  have s1 : (m.turn (em12 x)).SB 1000000 := by
    rw [em12_eq]
    unfold G6.SB
    simp only
    rcases hx with rfl | rfl <;> omega
  refine ⟨?_, ?_, ?_⟩
  · rw [ad12_in h.sb (by omega), ad10_in s1 (by omega)]
  · intro hl
    refine Or.inr ⟨rfl, Red.trans ⟨_, (em_U _).2.2.2.1, rfl⟩ ⟨_, (em_U _).2.2.1, rfl⟩, ?_⟩
    rw [em10_eq, em12_eq] at hl ⊢
    unfold G6.tr
    simp only at hl ⊢
    omega
  · intro hl
    refine Or.inl ⟨rfl, rfl, ?_⟩
    trivial
theorem sn2 {m : G6} (h : Inv m) (t : Bool) {x y : Int} (hx : x = 1 ∨ x = -1) (hy : y = 1 ∨ y = -1) : ad21 (ad20 m.mat x) y = ((m.turn (em20 x)).turn (em21 y)).mat ∧
    (((m.turn (em20 x)).turn (em21 y)).cc < m.cc → Next m t ((m.turn (em20 x)).turn (em21 y)) true True) ∧
    (¬ ((m.turn (em20 x)).turn (em21 y)).cc < m.cc → Next m t m t True) := by
  have b2 := h.bd2
  have bd := h.bd
  have s1 : (m.turn (em20 x)).SB 1000000 := by
    rw [em20_eq]
    unfold G6.SB
    simp only
    rcases hx with rfl | rfl <;> omega
  refine ⟨?_, ?_, ?_⟩
  · rw [ad20_in h.sb (by omega), ad21_in s1 (by omega)]
  · intro hl
    refine Or.inr ⟨rfl, Red.trans ⟨_, (em_U _).2.2.2.2.1, rfl⟩ ⟨_, (em_U _).2.2.2.2.2, rfl⟩, ?_⟩
    rw [em21_eq, em20_eq] at hl ⊢
    unfold G6.tr
    simp only at hl ⊢
    omega
  · intro hl
    refine Or.inl ⟨rfl, rfl, ?_⟩
    trivial
theorem dot_minus (m : G6) (x y z : Int) : m.dot ⟨-x, -y, -z⟩ ⟨-x, -y, -z⟩ = m.dot ⟨x, y, z⟩ ⟨x, y, z⟩ := by unfold G6.dot; simp only; grind
/-- All tests have failed. -/
theorem rdc_of {m : G6} (h01 : -m.bb ≤ 2 * m.ab ∧ 2 * m.ab ≤ m.bb) (h02 : -m.cc ≤ 2 * m.ac ∧ 2 * m.ac ≤ m.cc) (h10 : -m.aa ≤ 2 * m.ab ∧ 2 * m.ab ≤ m.aa) (h12 : -m.cc ≤ 2 * m.bc ∧ 2 * m.bc ≤ m.cc) (h20 : -m.aa ≤ 2 * m.ac ∧ 2 * m.ac ≤ m.aa) (h21 : -m.bb ≤ 2 * m.bc ∧ 2 * m.bc ≤ m.bb)
    (n0 : m.aa ≤ m.dot ⟨1, -1, -1⟩ ⟨1, -1, -1⟩) (n1 : m.aa ≤ m.dot ⟨1, 1, -1⟩ ⟨1, 1, -1⟩) (n2 : m.aa ≤ m.dot ⟨1, -1, 1⟩ ⟨1, -1, 1⟩) (n3 : m.aa ≤ m.dot ⟨1, 1, 1⟩ ⟨1, 1, 1⟩) : Rdc m := by
  refine ⟨h01, h10, h02, h20, h12, h21, ?_⟩
  intro x y z hx hy hz
  rcases hx with rfl | rfl <;> rcases hy with rfl | rfl <;> rcases hz with rfl | rfl
  · exact n3
  · exact n1
  · exact n2
  · exact n0
  · rw [← dot_minus]; exact n0
  · rw [← dot_minus]; exact n2
  · rw [← dot_minus]; exact n1
  · rw [← dot_minus]; exact n3
end Go.Proofs.Ytofblakbfmjgkaa.Vx
