/-
  Metrics out of matrices, and metrics told behind a change. No program in sight. Nothing here is trusted.
-/
import Derived.Test.YtofblakbfmjgkaaKai
import Derived.Test.YtofblakbfmjgkaaHSgM
namespace Go.Proofs.Ytofblakbfmjgkaa.Vx
open Go
/-- The metric of the edges that are a matrix's columns. -/
def gramG (b : M3) : G6 := ⟨b.a * b.a + b.d * b.d + b.g * b.g, b.b * b.b + b.e * b.e + b.h * b.h, b.c * b.c + b.f * b.f + b.i * b.i, b.b * b.c + b.e * b.f + b.h * b.i, b.a * b.c + b.d * b.f + b.g * b.i, b.a * b.b + b.d * b.e + b.g * b.h⟩
def oneG : G6 := ⟨1, 1, 1, 0, 0, 0⟩
theorem gram_turn (b : M3) : gramG b = oneG.turn b := by
  refine G6.ext' ⟨?_, ?_, ?_, ?_, ?_, ?_⟩ <;> (simp only [gramG, G6.turn, G6.dot, oneG, M3.c1, M3.c2, M3.c3]; grind)
theorem oneG_pos : oneG.Pos := pos_of_syl (by decide) (by decide) (by decide)
theorem gram_pos {b : M3} (h : b.det ≠ 0) : (gramG b).Pos := by rw [gram_turn]; exact oneG_pos.turn h
theorem gram_det (b : M3) : (gramG b).det = b.det * b.det := by rw [gram_turn, turn_det, show oneG.det = 1 from rfl]; grind
/-- A metric in range with squares above nought is one. -/
theorem ck_of {m : G6} (h : m.Bd) : m.ck = 0 := by
  obtain ⟨⟨a1, a2⟩, ⟨b1, b2⟩, ⟨c1, c2⟩, ⟨d1, d2⟩, ⟨e1, e2⟩, ⟨f1, f2⟩⟩ := h
  unfold G6.ck G6.T sqT dgT
  simp only [chainL, decide_eq_false (show ¬ m.aa < 1 by omega), decide_eq_false (show ¬ m.aa > 100000 by omega), decide_eq_false (show ¬ m.bb < 1 by omega), decide_eq_false (show ¬ m.bb > 100000 by omega), decide_eq_false (show ¬ m.cc < 1 by omega), decide_eq_false (show ¬ m.cc > 100000 by omega), decide_eq_false (show ¬ m.bc < -100000 by omega), decide_eq_false (show ¬ m.bc > 100000 by omega), decide_eq_false (show ¬ m.ac < -100000 by omega), decide_eq_false (show ¬ m.ac > 100000 by omega), decide_eq_false (show ¬ m.ab < -100000 by omega), decide_eq_false (show ¬ m.ab > 100000 by omega)]
  rfl
theorem mck_of {m : G6} (h : m.Bd) (hp : m.Pos) : m.mck = 0 := by
  unfold G6.mck
  rw [ck_of h]
  have h1 := hp.two
  have h2 := hp.det
  unfold G6.syl
  rw [decide_eq_true h1, decide_eq_true h2]; rfl
theorem mck_det {m : G6} (h : m.det = 0) : m.mck ≠ 0 := fun e => by
  have := (G6.mck_zero e).2.1.det
  omega
theorem M3.adj_mulm (m n : M3) : (m.mul n).adj = n.adj.mul m.adj := by
  refine M3.ext' ⟨?_, ?_, ?_, ?_, ?_, ?_, ?_, ?_, ?_⟩ <;> (simp only [M3.mul, M3.adj]; grind)
theorem M3.adj_T (m : M3) : m.T.adj = m.adj.T := by
  refine M3.ext' ⟨?_, ?_, ?_, ?_, ?_, ?_, ?_, ?_, ?_⟩ <;> (simp only [M3.T, M3.adj]; grind)
theorem bil_left (g p : M3) (u v : V3) : (p.mul (g.mul p.T)).bil u v = g.bil (M3.left u p) (M3.left v p) := by
  unfold M3.bil M3.mul M3.T M3.left; simp only; grind
theorem left_mul (u : V3) (m n : M3) : M3.left u (m.mul n) = M3.left (M3.left u m) n := by
  refine V3.ext' ⟨?_, ?_, ?_⟩ <;> (simp only [M3.left, M3.mul]; grind)
theorem left_smul (u : V3) (k : Int) : M3.left u (M3.one.smul k) = ⟨k * u.x, k * u.y, k * u.z⟩ := by
  refine V3.ext' ⟨?_, ?_, ?_⟩ <;> (simp only [M3.left, M3.one, M3.smul]; grind)
/-- Spacings don't hang on how the cell is told. -/
theorem adj_turn (m : G6) (p : M3) (i : V3) : (m.turn p).adj.dot (M3.left i p) (M3.left i p) = p.det * p.det * m.adj.dot i i := by
  rw [← adj_bil, mat_turn, M3.adj_mulm, M3.adj_mulm, M3.adj_T, M3.mul_assoc, bil_left, ← left_mul, M3.mul_adj, left_smul, ← adj_bil]
  unfold M3.bil; simp only; grind
end Go.Proofs.Ytofblakbfmjgkaa.Vx
