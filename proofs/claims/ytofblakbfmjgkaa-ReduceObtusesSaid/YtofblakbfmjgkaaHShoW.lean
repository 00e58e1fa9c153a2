/-
  Edges with a multiple of another added, as the document's answer does it. Nothing here is trusted.
-/
import Derived.Test.YtofblakbfmjgkaaHShoM
import Derived.Test.YtofblakbfmjgkaaHStpL
namespace Go.Proofs.Ytofblakbfmjgkaa.Vx
open Go
def rdB (a b : Int) : Bool := decide (0 < b) && (decide (b ≤ 1000000000) && (decide (-1000000000 ≤ a) && decide (a ≤ 1000000000)))
def rndN (a b : Int) : Int := W (W (2 * a) + b)
def rndD (b : Int) : Int := W (2 * b)
def tRnd (a b : Int) : Option Value := gn' (rndD b == 0) (gn' (rndD b == 0) (match Int.tmod (rndN a b) (rndD b) != 0 with
  | true => match decide (rndN a b < 0) with
    | true => some (vI (W (W (Int.tdiv (rndN a b) (rndD b)) - 1)))
    | false => some (vI (W (Int.tdiv (rndN a b) (rndD b))))
  | false => some (vI (W (Int.tdiv (rndN a b) (rndD b))))))
theorem tRnd_eq {a b : Int} (h : rdB a b = true) : tRnd a b = some (vI (rnd a b)) := by
  simp only [rdB, Bool.and_eq_true, decide_eq_true_eq] at h
  obtain ⟨h0, h1, h2, h3⟩ := h
  have eN : rndN a b = 2 * a + b := by unfold rndN; rw [W_in (n := 2 * a) (by omega)]; exact W_in (by omega)
  have eD : rndD b = 2 * b := W_in (by omega)
  unfold tRnd rnd
  rw [eN, eD, show (2 * b == 0) = false by simp; omega]
  have q := Int.emod_add_mul_ediv (2 * a + b) (2 * b)
  have q1 := Int.emod_nonneg (2 * a + b) (show 2 * b ≠ 0 by omega)
  have q2 := Int.emod_lt_of_pos (2 * a + b) (show 0 < 2 * b by omega)
  have hd := @Int.tdiv_eq_ediv (2 * a + b) (2 * b)
  have bound : -3000000000 ≤ (2 * a + b) / (2 * b) ∧ (2 * a + b) / (2 * b) ≤ 3000000000 := by
    constructor
    · exact (Int.le_ediv_iff_mul_le (by omega)).2 (by omega)
    · exact Int.ediv_le_of_le_mul (by omega) (by omega)
  simp only [gn']
  generalize (2 * a + b) / (2 * b) = k at *
  by_cases hz : Int.tmod (2 * a + b) (2 * b) = 0
  · rw [show (Int.tmod (2 * a + b) (2 * b) != 0) = false by simpa using hz]
    rw [if_pos (Or.inr (Int.dvd_of_tmod_eq_zero hz)), Int.add_zero] at hd
    rw [hd, W_in (n := k) (by omega)]
  · rw [show (Int.tmod (2 * a + b) (2 * b) != 0) = true by simpa using hz]
    by_cases hn : 2 * a + b < 0
    · rw [decide_eq_true hn]
      rw [if_neg (by
        rintro (h | h)
        · omega
        · exact hz (Int.tmod_eq_zero_of_dvd h)), Int.sign_eq_one_of_pos (by omega)] at hd
      rw [hd, W_in (n := k + 1) (by omega), Int.add_sub_cancel, W_in (n := k) (by omega)]
    · rw [decide_eq_false hn]
      rw [if_pos (Or.inl (by omega)), Int.add_zero] at hd
      rw [hd, W_in (n := k) (by omega)]
def ad01 (g : M3) (n : Int) : M3 := ⟨W (W (g.a + W (n * g.d)) + W (n * W (g.b + W (n * g.e)))), W (g.b + W (n * g.e)), W (g.c + W (n * g.f)), W (g.d + W (n * g.e)), g.e, g.f, W (g.g + W (n * g.h)), g.h, g.i⟩
def ad02 (g : M3) (n : Int) : M3 := ⟨W (W (g.a + W (n * g.g)) + W (n * W (g.c + W (n * g.i)))), W (g.b + W (n * g.h)), W (g.c + W (n * g.i)), W (g.d + W (n * g.f)), g.e, g.f, W (g.g + W (n * g.i)), g.h, g.i⟩
def ad10 (g : M3) (n : Int) : M3 := ⟨g.a, W (g.b + W (n * g.a)), g.c, W (g.d + W (n * g.a)), W (W (g.e + W (n * g.b)) + W (n * W (g.d + W (n * g.a)))), W (g.f + W (n * g.c)), g.g, W (g.h + W (n * g.g)), g.i⟩
def ad12 (g : M3) (n : Int) : M3 := ⟨g.a, W (g.b + W (n * g.c)), g.c, W (g.d + W (n * g.g)), W (W (g.e + W (n * g.h)) + W (n * W (g.f + W (n * g.i)))), W (g.f + W (n * g.i)), g.g, W (g.h + W (n * g.i)), g.i⟩
def ad20 (g : M3) (n : Int) : M3 := ⟨g.a, g.b, W (g.c + W (n * g.a)), g.d, g.e, W (g.f + W (n * g.d)), W (g.g + W (n * g.a)), W (g.h + W (n * g.b)), W (W (g.i + W (n * g.c)) + W (n * W (g.g + W (n * g.a))))⟩
def ad21 (g : M3) (n : Int) : M3 := ⟨g.a, g.b, W (g.c + W (n * g.b)), g.d, g.e, W (g.f + W (n * g.e)), W (g.g + W (n * g.d)), W (g.h + W (n * g.e)), W (W (g.i + W (n * g.f)) + W (n * W (g.h + W (n * g.e))))⟩
theorem W_mw (n x : Int) : W (n * W x) = W (n * x) := W_mulr n x
/-- No number wraps round. -/
theorem mat_w {m : G6} {k : Int} (h : m.SB k) (hk : k ≤ 9000000000000000000) : m.mat.w = m.mat := by
  unfold G6.SB at h
  refine M3.ext' ⟨?_, ?_, ?_, ?_, ?_, ?_, ?_, ?_, ?_⟩ <;> exact W_in (by simp only [G6.mat]; omega)
theorem em01_SB {m : G6} {n : Int} (h : m.SB 1000000) (hn : -1000000 ≤ n ∧ n ≤ 1000000) : (m.turn (em01 n)).SB 4000000000000000000 := by
  unfold G6.SB at h
  obtain ⟨a, b, c, d, e, f⟩ := h
  have p1 := bd_mul hn a
  have p2 := bd_mul hn b
  have p3 := bd_mul hn c
  have p4 := bd_mul hn d
  have p5 := bd_mul hn e
  have p6 := bd_mul hn f
  have q1 := bd_mul hn p1
  have q2 := bd_mul hn p2
  have q3 := bd_mul hn p3
  have k : ∀ x y : Int, (m.turn (em01 n)).SB 4000000000000000000 = (m.turn (em01 n)).SB 4000000000000000000 := fun _ _ => rfl
  clear k
  have e0 : (m.turn (em01 n)) = ⟨m.aa + 2 * (n * m.ab) + n * (n * m.bb), m.bb, m.cc, m.bc, m.ac + n * m.bc, m.ab + n * m.bb⟩ := by
    refine G6.ext' ⟨?_, ?_, ?_, ?_, ?_, ?_⟩ <;> (simp only [G6.turn, G6.dot, M3.c1, M3.c2, M3.c3, em01]; grind)
  rw [e0]
  unfold G6.SB
  simp only
  omega
theorem ad01_in {m : G6} {n : Int} (h : m.SB 1000000) (hn : -1000000 ≤ n ∧ n ≤ 1000000) : ad01 m.mat n = (m.turn (em01 n)).mat := by
  have e := mat_w (em01_SB h hn) (by omega)
  refine M3.ext' ⟨?_, ?_, ?_, ?_, ?_, ?_, ?_, ?_, ?_⟩
  · first
      | (simp only [ad01, G6.mat, G6.turn, G6.dot, M3.c1, M3.c2, M3.c3, em01]; simp; done)
      | (rw [← congrArg M3.a e]; simp only [ad01, M3.w, W_addl, W_addr, W_mulr]; congr 1; simp only [G6.mat, G6.turn, G6.dot, M3.c1, M3.c2, M3.c3, em01]; grind)
  · first
      | (simp only [ad01, G6.mat, G6.turn, G6.dot, M3.c1, M3.c2, M3.c3, em01]; simp; done)
      | (rw [← congrArg M3.b e]; simp only [ad01, M3.w, W_addl, W_addr, W_mulr]; congr 1; simp only [G6.mat, G6.turn, G6.dot, M3.c1, M3.c2, M3.c3, em01]; grind)
  · first
      | (simp only [ad01, G6.mat, G6.turn, G6.dot, M3.c1, M3.c2, M3.c3, em01]; simp; done)
      | (rw [← congrArg M3.c e]; simp only [ad01, M3.w, W_addl, W_addr, W_mulr]; congr 1; simp only [G6.mat, G6.turn, G6.dot, M3.c1, M3.c2, M3.c3, em01]; grind)
  · first
      | (simp only [ad01, G6.mat, G6.turn, G6.dot, M3.c1, M3.c2, M3.c3, em01]; simp; done)
      | (rw [← congrArg M3.d e]; simp only [ad01, M3.w, W_addl, W_addr, W_mulr]; congr 1; simp only [G6.mat, G6.turn, G6.dot, M3.c1, M3.c2, M3.c3, em01]; grind)
  · first
      | (simp only [ad01, G6.mat, G6.turn, G6.dot, M3.c1, M3.c2, M3.c3, em01]; simp; done)
      | (rw [← congrArg M3.e e]; simp only [ad01, M3.w, W_addl, W_addr, W_mulr]; congr 1; simp only [G6.mat, G6.turn, G6.dot, M3.c1, M3.c2, M3.c3, em01]; grind)
  · first
      | (simp only [ad01, G6.mat, G6.turn, G6.dot, M3.c1, M3.c2, M3.c3, em01]; simp; done)
      | (rw [← congrArg M3.f e]; simp only [ad01, M3.w, W_addl, W_addr, W_mulr]; congr 1; simp only [G6.mat, G6.turn, G6.dot, M3.c1, M3.c2, M3.c3, em01]; grind)
  · first
      | (simp only [ad01, G6.mat, G6.turn, G6.dot, M3.c1, M3.c2, M3.c3, em01]; simp; done)
      | (rw [← congrArg M3.g e]; simp only [ad01, M3.w, W_addl, W_addr, W_mulr]; congr 1; simp only [G6.mat, G6.turn, G6.dot, M3.c1, M3.c2, M3.c3, em01]; grind)
  · first
      | (simp only [ad01, G6.mat, G6.turn, G6.dot, M3.c1, M3.c2, M3.c3, em01]; simp; done)
      | (rw [← congrArg M3.h e]; simp only [ad01, M3.w, W_addl, W_addr, W_mulr]; congr 1; simp only [G6.mat, G6.turn, G6.dot, M3.c1, M3.c2, M3.c3, em01]; grind)
  · first
      | (simp only [ad01, G6.mat, G6.turn, G6.dot, M3.c1, M3.c2, M3.c3, em01]; simp; done)
      | (rw [← congrArg M3.i e]; simp only [ad01, M3.w, W_addl, W_addr, W_mulr]; congr 1; simp only [G6.mat, G6.turn, G6.dot, M3.c1, M3.c2, M3.c3, em01]; grind)
theorem em02_SB {m : G6} {n : Int} (h : m.SB 1000000) (hn : -1000000 ≤ n ∧ n ≤ 1000000) : (m.turn (em02 n)).SB 4000000000000000000 := by
  unfold G6.SB at h
  obtain ⟨a, b, c, d, e, f⟩ := h
  have p1 := bd_mul hn a
  have p2 := bd_mul hn b
  have p3 := bd_mul hn c
  have p4 := bd_mul hn d
  have p5 := bd_mul hn e
  have p6 := bd_mul hn f
  have q1 := bd_mul hn p1
  have q2 := bd_mul hn p2
  have q3 := bd_mul hn p3
  have k : ∀ x y : Int, (m.turn (em02 n)).SB 4000000000000000000 = (m.turn (em02 n)).SB 4000000000000000000 := fun _ _ => rfl
  clear k
  have e0 : (m.turn (em02 n)) = ⟨m.aa + 2 * (n * m.ac) + n * (n * m.cc), m.bb, m.cc, m.bc, m.ac + n * m.cc, m.ab + n * m.bc⟩ := by
    refine G6.ext' ⟨?_, ?_, ?_, ?_, ?_, ?_⟩ <;> (simp only [G6.turn, G6.dot, M3.c1, M3.c2, M3.c3, em02]; grind)
  rw [e0]
  unfold G6.SB
  simp only
  omega
theorem ad02_in {m : G6} {n : Int} (h : m.SB 1000000) (hn : -1000000 ≤ n ∧ n ≤ 1000000) : ad02 m.mat n = (m.turn (em02 n)).mat := by
  have e := mat_w (em02_SB h hn) (by omega)
  refine M3.ext' ⟨?_, ?_, ?_, ?_, ?_, ?_, ?_, ?_, ?_⟩
  · first
      | (simp only [ad02, G6.mat, G6.turn, G6.dot, M3.c1, M3.c2, M3.c3, em02]; simp; done)
      | (rw [← congrArg M3.a e]; simp only [ad02, M3.w, W_addl, W_addr, W_mulr]; congr 1; simp only [G6.mat, G6.turn, G6.dot, M3.c1, M3.c2, M3.c3, em02]; grind)
  · first
      | (simp only [ad02, G6.mat, G6.turn, G6.dot, M3.c1, M3.c2, M3.c3, em02]; simp; done)
      | (rw [← congrArg M3.b e]; simp only [ad02, M3.w, W_addl, W_addr, W_mulr]; congr 1; simp only [G6.mat, G6.turn, G6.dot, M3.c1, M3.c2, M3.c3, em02]; grind)
  · first
      | (simp only [ad02, G6.mat, G6.turn, G6.dot, M3.c1, M3.c2, M3.c3, em02]; simp; done)
      | (rw [← congrArg M3.c e]; simp only [ad02, M3.w, W_addl, W_addr, W_mulr]; congr 1; simp only [G6.mat, G6.turn, G6.dot, M3.c1, M3.c2, M3.c3, em02]; grind)
  · first
      | (simp only [ad02, G6.mat, G6.turn, G6.dot, M3.c1, M3.c2, M3.c3, em02]; simp; done)
      | (rw [← congrArg M3.d e]; simp only [ad02, M3.w, W_addl, W_addr, W_mulr]; congr 1; simp only [G6.mat, G6.turn, G6.dot, M3.c1, M3.c2, M3.c3, em02]; grind)
  · first
      | (simp only [ad02, G6.mat, G6.turn, G6.dot, M3.c1, M3.c2, M3.c3, em02]; simp; done)
      | (rw [← congrArg M3.e e]; simp only [ad02, M3.w, W_addl, W_addr, W_mulr]; congr 1; simp only [G6.mat, G6.turn, G6.dot, M3.c1, M3.c2, M3.c3, em02]; grind)
  · first
      | (simp only [ad02, G6.mat, G6.turn, G6.dot, M3.c1, M3.c2, M3.c3, em02]; simp; done)
      | (rw [← congrArg M3.f e]; simp only [ad02, M3.w, W_addl, W_addr, W_mulr]; congr 1; simp only [G6.mat, G6.turn, G6.dot, M3.c1, M3.c2, M3.c3, em02]; grind)
  · first
      | (simp only [ad02, G6.mat, G6.turn, G6.dot, M3.c1, M3.c2, M3.c3, em02]; simp; done)
      | (rw [← congrArg M3.g e]; simp only [ad02, M3.w, W_addl, W_addr, W_mulr]; congr 1; simp only [G6.mat, G6.turn, G6.dot, M3.c1, M3.c2, M3.c3, em02]; grind)
  · first
      | (simp only [ad02, G6.mat, G6.turn, G6.dot, M3.c1, M3.c2, M3.c3, em02]; simp; done)
      | (rw [← congrArg M3.h e]; simp only [ad02, M3.w, W_addl, W_addr, W_mulr]; congr 1; simp only [G6.mat, G6.turn, G6.dot, M3.c1, M3.c2, M3.c3, em02]; grind)
  · first
      | (simp only [ad02, G6.mat, G6.turn, G6.dot, M3.c1, M3.c2, M3.c3, em02]; simp; done)
      | (rw [← congrArg M3.i e]; simp only [ad02, M3.w, W_addl, W_addr, W_mulr]; congr 1; simp only [G6.mat, G6.turn, G6.dot, M3.c1, M3.c2, M3.c3, em02]; grind)
theorem em10_SB {m : G6} {n : Int} (h : m.SB 1000000) (hn : -1000000 ≤ n ∧ n ≤ 1000000) : (m.turn (em10 n)).SB 4000000000000000000 := by
  unfold G6.SB at h
  obtain ⟨a, b, c, d, e, f⟩ := h
  have p1 := bd_mul hn a
  have p2 := bd_mul hn b
  have p3 := bd_mul hn c
  have p4 := bd_mul hn d
  have p5 := bd_mul hn e
  have p6 := bd_mul hn f
  have q1 := bd_mul hn p1
  have q2 := bd_mul hn p2
  have q3 := bd_mul hn p3
  have k : ∀ x y : Int, (m.turn (em10 n)).SB 4000000000000000000 = (m.turn (em10 n)).SB 4000000000000000000 := fun _ _ => rfl
  clear k
  have e0 : (m.turn (em10 n)) = ⟨m.aa, m.bb + 2 * (n * m.ab) + n * (n * m.aa), m.cc, m.bc + n * m.ac, m.ac, m.ab + n * m.aa⟩ := by
    refine G6.ext' ⟨?_, ?_, ?_, ?_, ?_, ?_⟩ <;> (simp only [G6.turn, G6.dot, M3.c1, M3.c2, M3.c3, em10]; grind)
  rw [e0]
  unfold G6.SB
  simp only
  omega
theorem ad10_in {m : G6} {n : Int} (h : m.SB 1000000) (hn : -1000000 ≤ n ∧ n ≤ 1000000) : ad10 m.mat n = (m.turn (em10 n)).mat := by
  have e := mat_w (em10_SB h hn) (by omega)
  refine M3.ext' ⟨?_, ?_, ?_, ?_, ?_, ?_, ?_, ?_, ?_⟩
  · first
      | (simp only [ad10, G6.mat, G6.turn, G6.dot, M3.c1, M3.c2, M3.c3, em10]; simp; done)
      | (rw [← congrArg M3.a e]; simp only [ad10, M3.w, W_addl, W_addr, W_mulr]; congr 1; simp only [G6.mat, G6.turn, G6.dot, M3.c1, M3.c2, M3.c3, em10]; grind)
  · first
      | (simp only [ad10, G6.mat, G6.turn, G6.dot, M3.c1, M3.c2, M3.c3, em10]; simp; done)
      | (rw [← congrArg M3.b e]; simp only [ad10, M3.w, W_addl, W_addr, W_mulr]; congr 1; simp only [G6.mat, G6.turn, G6.dot, M3.c1, M3.c2, M3.c3, em10]; grind)
  · first
      | (simp only [ad10, G6.mat, G6.turn, G6.dot, M3.c1, M3.c2, M3.c3, em10]; simp; done)
      | (rw [← congrArg M3.c e]; simp only [ad10, M3.w, W_addl, W_addr, W_mulr]; congr 1; simp only [G6.mat, G6.turn, G6.dot, M3.c1, M3.c2, M3.c3, em10]; grind)
  · first
      | (simp only [ad10, G6.mat, G6.turn, G6.dot, M3.c1, M3.c2, M3.c3, em10]; simp; done)
      | (rw [← congrArg M3.d e]; simp only [ad10, M3.w, W_addl, W_addr, W_mulr]; congr 1; simp only [G6.mat, G6.turn, G6.dot, M3.c1, M3.c2, M3.c3, em10]; grind)
  · first
      | (simp only [ad10, G6.mat, G6.turn, G6.dot, M3.c1, M3.c2, M3.c3, em10]; simp; done)
      | (rw [← congrArg M3.e e]; simp only [ad10, M3.w, W_addl, W_addr, W_mulr]; congr 1; simp only [G6.mat, G6.turn, G6.dot, M3.c1, M3.c2, M3.c3, em10]; grind)
  · first
      | (simp only [ad10, G6.mat, G6.turn, G6.dot, M3.c1, M3.c2, M3.c3, em10]; simp; done)
      | (rw [← congrArg M3.f e]; simp only [ad10, M3.w, W_addl, W_addr, W_mulr]; congr 1; simp only [G6.mat, G6.turn, G6.dot, M3.c1, M3.c2, M3.c3, em10]; grind)
  · first
      | (simp only [ad10, G6.mat, G6.turn, G6.dot, M3.c1, M3.c2, M3.c3, em10]; simp; done)
      | (rw [← congrArg M3.g e]; simp only [ad10, M3.w, W_addl, W_addr, W_mulr]; congr 1; simp only [G6.mat, G6.turn, G6.dot, M3.c1, M3.c2, M3.c3, em10]; grind)
  · first
      | (simp only [ad10, G6.mat, G6.turn, G6.dot, M3.c1, M3.c2, M3.c3, em10]; simp; done)
      | (rw [← congrArg M3.h e]; simp only [ad10, M3.w, W_addl, W_addr, W_mulr]; congr 1; simp only [G6.mat, G6.turn, G6.dot, M3.c1, M3.c2, M3.c3, em10]; grind)
  · first
      | (simp only [ad10, G6.mat, G6.turn, G6.dot, M3.c1, M3.c2, M3.c3, em10]; simp; done)
      | (rw [← congrArg M3.i e]; simp only [ad10, M3.w, W_addl, W_addr, W_mulr]; congr 1; simp only [G6.mat, G6.turn, G6.dot, M3.c1, M3.c2, M3.c3, em10]; grind)
theorem em12_SB {m : G6} {n : Int} (h : m.SB 1000000) (hn : -1000000 ≤ n ∧ n ≤ 1000000) : (m.turn (em12 n)).SB 4000000000000000000 := by
  unfold G6.SB at h
  obtain ⟨a, b, c, d, e, f⟩ := h
  have p1 := bd_mul hn a
  have p2 := bd_mul hn b
  have p3 := bd_mul hn c
  have p4 := bd_mul hn d
  have p5 := bd_mul hn e
  have p6 := bd_mul hn f
  have q1 := bd_mul hn p1
  have q2 := bd_mul hn p2
  have q3 := bd_mul hn p3
  have k : ∀ x y : Int, (m.turn (em12 n)).SB 4000000000000000000 = (m.turn (em12 n)).SB 4000000000000000000 := fun _ _ => rfl
  clear k
  have e0 : (m.turn (em12 n)) = ⟨m.aa, m.bb + 2 * (n * m.bc) + n * (n * m.cc), m.cc, m.bc + n * m.cc, m.ac, m.ab + n * m.ac⟩ := by
    refine G6.ext' ⟨?_, ?_, ?_, ?_, ?_, ?_⟩ <;> (simp only [G6.turn, G6.dot, M3.c1, M3.c2, M3.c3, em12]; grind)
  rw [e0]
  unfold G6.SB
  simp only
  omega
theorem ad12_in {m : G6} {n : Int} (h : m.SB 1000000) (hn : -1000000 ≤ n ∧ n ≤ 1000000) : ad12 m.mat n = (m.turn (em12 n)).mat := by
  have e := mat_w (em12_SB h hn) (by omega)
  refine M3.ext' ⟨?_, ?_, ?_, ?_, ?_, ?_, ?_, ?_, ?_⟩
  · first
      | (simp only [ad12, G6.mat, G6.turn, G6.dot, M3.c1, M3.c2, M3.c3, em12]; simp; done)
      | (rw [← congrArg M3.a e]; simp only [ad12, M3.w, W_addl, W_addr, W_mulr]; congr 1; simp only [G6.mat, G6.turn, G6.dot, M3.c1, M3.c2, M3.c3, em12]; grind)
  · first
      | (simp only [ad12, G6.mat, G6.turn, G6.dot, M3.c1, M3.c2, M3.c3, em12]; simp; done)
      | (rw [← congrArg M3.b e]; simp only [ad12, M3.w, W_addl, W_addr, W_mulr]; congr 1; simp only [G6.mat, G6.turn, G6.dot, M3.c1, M3.c2, M3.c3, em12]; grind)
  · first
      | (simp only [ad12, G6.mat, G6.turn, G6.dot, M3.c1, M3.c2, M3.c3, em12]; simp; done)
      | (rw [← congrArg M3.c e]; simp only [ad12, M3.w, W_addl, W_addr, W_mulr]; congr 1; simp only [G6.mat, G6.turn, G6.dot, M3.c1, M3.c2, M3.c3, em12]; grind)
  · first
      | (simp only [ad12, G6.mat, G6.turn, G6.dot, M3.c1, M3.c2, M3.c3, em12]; simp; done)
      | (rw [← congrArg M3.d e]; simp only [ad12, M3.w, W_addl, W_addr, W_mulr]; congr 1; simp only [G6.mat, G6.turn, G6.dot, M3.c1, M3.c2, M3.c3, em12]; grind)
  · first
      | (simp only [ad12, G6.mat, G6.turn, G6.dot, M3.c1, M3.c2, M3.c3, em12]; simp; done)
      | (rw [← congrArg M3.e e]; simp only [ad12, M3.w, W_addl, W_addr, W_mulr]; congr 1; simp only [G6.mat, G6.turn, G6.dot, M3.c1, M3.c2, M3.c3, em12]; grind)
  · first
      | (simp only [ad12, G6.mat, G6.turn, G6.dot, M3.c1, M3.c2, M3.c3, em12]; simp; done)
      | (rw [← congrArg M3.f e]; simp only [ad12, M3.w, W_addl, W_addr, W_mulr]; congr 1; simp only [G6.mat, G6.turn, G6.dot, M3.c1, M3.c2, M3.c3, em12]; grind)
  · first
      | (simp only [ad12, G6.mat, G6.turn, G6.dot, M3.c1, M3.c2, M3.c3, em12]; simp; done)
      | (rw [← congrArg M3.g e]; simp only [ad12, M3.w, W_addl, W_addr, W_mulr]; congr 1; simp only [G6.mat, G6.turn, G6.dot, M3.c1, M3.c2, M3.c3, em12]; grind)
  · first
      | (simp only [ad12, G6.mat, G6.turn, G6.dot, M3.c1, M3.c2, M3.c3, em12]; simp; done)
      | (rw [← congrArg M3.h e]; simp only [ad12, M3.w, W_addl, W_addr, W_mulr]; congr 1; simp only [G6.mat, G6.turn, G6.dot, M3.c1, M3.c2, M3.c3, em12]; grind)
  · first
      | (simp only [ad12, G6.mat, G6.turn, G6.dot, M3.c1, M3.c2, M3.c3, em12]; simp; done)
      | (rw [← congrArg M3.i e]; simp only [ad12, M3.w, W_addl, W_addr, W_mulr]; congr 1; simp only [G6.mat, G6.turn, G6.dot, M3.c1, M3.c2, M3.c3, em12]; grind)
theorem em20_SB {m : G6} {n : Int} (h : m.SB 1000000) (hn : -1000000 ≤ n ∧ n ≤ 1000000) : (m.turn (em20 n)).SB 4000000000000000000 := by
  unfold G6.SB at h
  obtain ⟨a, b, c, d, e, f⟩ := h
  have p1 := bd_mul hn a
  have p2 := bd_mul hn b
  have p3 := bd_mul hn c
  have p4 := bd_mul hn d
  have p5 := bd_mul hn e
  have p6 := bd_mul hn f
  have q1 := bd_mul hn p1
  have q2 := bd_mul hn p2
  have q3 := bd_mul hn p3
  have k : ∀ x y : Int, (m.turn (em20 n)).SB 4000000000000000000 = (m.turn (em20 n)).SB 4000000000000000000 := fun _ _ => rfl
  clear k
  have e0 : (m.turn (em20 n)) = ⟨m.aa, m.bb, m.cc + 2 * (n * m.ac) + n * (n * m.aa), m.bc + n * m.ab, m.ac + n * m.aa, m.ab⟩ := by
    refine G6.ext' ⟨?_, ?_, ?_, ?_, ?_, ?_⟩ <;> (simp only [G6.turn, G6.dot, M3.c1, M3.c2, M3.c3, em20]; grind)
  rw [e0]
  unfold G6.SB
  simp only
  omega
theorem ad20_in {m : G6} {n : Int} (h : m.SB 1000000) (hn : -1000000 ≤ n ∧ n ≤ 1000000) : ad20 m.mat n = (m.turn (em20 n)).mat := by
  have e := mat_w (em20_SB h hn) (by omega)
  refine M3.ext' ⟨?_, ?_, ?_, ?_, ?_, ?_, ?_, ?_, ?_⟩
  · first
      | (simp only [ad20, G6.mat, G6.turn, G6.dot, M3.c1, M3.c2, M3.c3, em20]; simp; done)
      | (rw [← congrArg M3.a e]; simp only [ad20, M3.w, W_addl, W_addr, W_mulr]; congr 1; simp only [G6.mat, G6.turn, G6.dot, M3.c1, M3.c2, M3.c3, em20]; grind)
  · first
      | (simp only [ad20, G6.mat, G6.turn, G6.dot, M3.c1, M3.c2, M3.c3, em20]; simp; done)
      | (rw [← congrArg M3.b e]; simp only [ad20, M3.w, W_addl, W_addr, W_mulr]; congr 1; simp only [G6.mat, G6.turn, G6.dot, M3.c1, M3.c2, M3.c3, em20]; grind)
  · first
      | (simp only [ad20, G6.mat, G6.turn, G6.dot, M3.c1, M3.c2, M3.c3, em20]; simp; done)
      | (rw [← congrArg M3.c e]; simp only [ad20, M3.w, W_addl, W_addr, W_mulr]; congr 1; simp only [G6.mat, G6.turn, G6.dot, M3.c1, M3.c2, M3.c3, em20]; grind)
  · first
      | (simp only [ad20, G6.mat, G6.turn, G6.dot, M3.c1, M3.c2, M3.c3, em20]; simp; done)
      | (rw [← congrArg M3.d e]; simp only [ad20, M3.w, W_addl, W_addr, W_mulr]; congr 1; simp only [G6.mat, G6.turn, G6.dot, M3.c1, M3.c2, M3.c3, em20]; grind)
  · first
      | (simp only [ad20, G6.mat, G6.turn, G6.dot, M3.c1, M3.c2, M3.c3, em20]; simp; done)
      | (rw [← congrArg M3.e e]; simp only [ad20, M3.w, W_addl, W_addr, W_mulr]; congr 1; simp only [G6.mat, G6.turn, G6.dot, M3.c1, M3.c2, M3.c3, em20]; grind)
  · first
      | (simp only [ad20, G6.mat, G6.turn, G6.dot, M3.c1, M3.c2, M3.c3, em20]; simp; done)
      | (rw [← congrArg M3.f e]; simp only [ad20, M3.w, W_addl, W_addr, W_mulr]; congr 1; simp only [G6.mat, G6.turn, G6.dot, M3.c1, M3.c2, M3.c3, em20]; grind)
  · first
      | (simp only [ad20, G6.mat, G6.turn, G6.dot, M3.c1, M3.c2, M3.c3, em20]; simp; done)
      | (rw [← congrArg M3.g e]; simp only [ad20, M3.w, W_addl, W_addr, W_mulr]; congr 1; simp only [G6.mat, G6.turn, G6.dot, M3.c1, M3.c2, M3.c3, em20]; grind)
  · first
      | (simp only [ad20, G6.mat, G6.turn, G6.dot, M3.c1, M3.c2, M3.c3, em20]; simp; done)
      | (rw [← congrArg M3.h e]; simp only [ad20, M3.w, W_addl, W_addr, W_mulr]; congr 1; simp only [G6.mat, G6.turn, G6.dot, M3.c1, M3.c2, M3.c3, em20]; grind)
  · first
      | (simp only [ad20, G6.mat, G6.turn, G6.dot, M3.c1, M3.c2, M3.c3, em20]; simp; done)
      | (rw [← congrArg M3.i e]; simp only [ad20, M3.w, W_addl, W_addr, W_mulr]; congr 1; simp only [G6.mat, G6.turn, G6.dot, M3.c1, M3.c2, M3.c3, em20]; grind)
theorem em21_SB {m : G6} {n : Int} (h : m.SB 1000000) (hn : -1000000 ≤ n ∧ n ≤ 1000000) : (m.turn (em21 n)).SB 4000000000000000000 := by
  unfold G6.SB at h
  obtain ⟨a, b, c, d, e, f⟩ := h
  have p1 := bd_mul hn a
  have p2 := bd_mul hn b
  have p3 := bd_mul hn c
  have p4 := bd_mul hn d
  have p5 := bd_mul hn e
  have p6 := bd_mul hn f
  have q1 := bd_mul hn p1
  have q2 := bd_mul hn p2
  have q3 := bd_mul hn p3
  have k : ∀ x y : Int, (m.turn (em21 n)).SB 4000000000000000000 = (m.turn (em21 n)).SB 4000000000000000000 := fun _ _ => rfl
  clear k
  have e0 : (m.turn (em21 n)) = ⟨m.aa, m.bb, m.cc + 2 * (n * m.bc) + n * (n * m.bb), m.bc + n * m.bb, m.ac + n * m.ab, m.ab⟩ := by
    refine G6.ext' ⟨?_, ?_, ?_, ?_, ?_, ?_⟩ <;> (simp only [G6.turn, G6.dot, M3.c1, M3.c2, M3.c3, em21]; grind)
  rw [e0]
  unfold G6.SB
  simp only
  omega
theorem ad21_in {m : G6} {n : Int} (h : m.SB 1000000) (hn : -1000000 ≤ n ∧ n ≤ 1000000) : ad21 m.mat n = (m.turn (em21 n)).mat := by
  have e := mat_w (em21_SB h hn) (by omega)
  refine M3.ext' ⟨?_, ?_, ?_, ?_, ?_, ?_, ?_, ?_, ?_⟩
  · first
      | (simp only [ad21, G6.mat, G6.turn, G6.dot, M3.c1, M3.c2, M3.c3, em21]; simp; done)
      | (rw [← congrArg M3.a e]; simp only [ad21, M3.w, W_addl, W_addr, W_mulr]; congr 1; simp only [G6.mat, G6.turn, G6.dot, M3.c1, M3.c2, M3.c3, em21]; grind)
  · first
      | (simp only [ad21, G6.mat, G6.turn, G6.dot, M3.c1, M3.c2, M3.c3, em21]; simp; done)
      | (rw [← congrArg M3.b e]; simp only [ad21, M3.w, W_addl, W_addr, W_mulr]; congr 1; simp only [G6.mat, G6.turn, G6.dot, M3.c1, M3.c2, M3.c3, em21]; grind)
  · first
      | (simp only [ad21, G6.mat, G6.turn, G6.dot, M3.c1, M3.c2, M3.c3, em21]; simp; done)
      | (rw [← congrArg M3.c e]; simp only [ad21, M3.w, W_addl, W_addr, W_mulr]; congr 1; simp only [G6.mat, G6.turn, G6.dot, M3.c1, M3.c2, M3.c3, em21]; grind)
  · first
      | (simp only [ad21, G6.mat, G6.turn, G6.dot, M3.c1, M3.c2, M3.c3, em21]; simp; done)
      | (rw [← congrArg M3.d e]; simp only [ad21, M3.w, W_addl, W_addr, W_mulr]; congr 1; simp only [G6.mat, G6.turn, G6.dot, M3.c1, M3.c2, M3.c3, em21]; grind)
  · first
      | (simp only [ad21, G6.mat, G6.turn, G6.dot, M3.c1, M3.c2, M3.c3, em21]; simp; done)
      | (rw [← congrArg M3.e e]; simp only [ad21, M3.w, W_addl, W_addr, W_mulr]; congr 1; simp only [G6.mat, G6.turn, G6.dot, M3.c1, M3.c2, M3.c3, em21]; grind)
  · first
      | (simp only [ad21, G6.mat, G6.turn, G6.dot, M3.c1, M3.c2, M3.c3, em21]; simp; done)
      | (rw [← congrArg M3.f e]; simp only [ad21, M3.w, W_addl, W_addr, W_mulr]; congr 1; simp only [G6.mat, G6.turn, G6.dot, M3.c1, M3.c2, M3.c3, em21]; grind)
  · first
      | (simp only [ad21, G6.mat, G6.turn, G6.dot, M3.c1, M3.c2, M3.c3, em21]; simp; done)
      | (rw [← congrArg M3.g e]; simp only [ad21, M3.w, W_addl, W_addr, W_mulr]; congr 1; simp only [G6.mat, G6.turn, G6.dot, M3.c1, M3.c2, M3.c3, em21]; grind)
  · first
      | (simp only [ad21, G6.mat, G6.turn, G6.dot, M3.c1, M3.c2, M3.c3, em21]; simp; done)
      | (rw [← congrArg M3.h e]; simp only [ad21, M3.w, W_addl, W_addr, W_mulr]; congr 1; simp only [G6.mat, G6.turn, G6.dot, M3.c1, M3.c2, M3.c3, em21]; grind)
  · first
      | (simp only [ad21, G6.mat, G6.turn, G6.dot, M3.c1, M3.c2, M3.c3, em21]; simp; done)
      | (rw [← congrArg M3.i e]; simp only [ad21, M3.w, W_addl, W_addr, W_mulr]; congr 1; simp only [G6.mat, G6.turn, G6.dot, M3.c1, M3.c2, M3.c3, em21]; grind)
end Go.Proofs.Ytofblakbfmjgkaa.Vx
