/-
  WholeCells: what it holds to holds (the part of the other cell). Nothing here is trusted.
-/
import Derived.Test.YtofblakbfmjgkaaHWceG
namespace Go.Proofs.Ytofblakbfmjgkaa
open Go Vx Go.RowKit
theorem l4_of {m : M3} (h : inB 4 m.l = true) : m.Bd 4 := by
  unfold inB M3.l at h
  unfold M3.Bd
  simp only [List.all_cons, List.all_nil, Bool.and_eq_true, Bool.and_true, decide_eq_true_eq] at h
  omega
theorem chg_spec (k : Int) : ((sgM k).mul shr3).ok = true ∧ ((sgM k).mul shr3).U ∧ ((sgM k).mul shr3).Bd 4 ∧ ((sgM k).mul shr3).inv.Bd 4 := by
  have h := sgM_c k
  simp only [cOk, Bool.and_eq_true, Bool.or_eq_true, beq_iff_eq] at h
  exact ⟨h.1, h.2.1.1, l4_of h.2.1.2, l4_of h.2.2⟩
def rOk (g : M3) : Bool := decide (((g.mul shr3).a.natAbs : Int) + (g.mul shr3).b.natAbs + (g.mul shr3).c.natAbs ≤ 4 ∧ ((g.mul shr3).d.natAbs : Int) + (g.mul shr3).e.natAbs + (g.mul shr3).f.natAbs ≤ 4 ∧ ((g.mul shr3).g.natAbs : Int) + (g.mul shr3).h.natAbs + (g.mul shr3).i.natAbs ≤ 4)
theorem sgT_r : sgT.all rOk = true := by decide +kernel
theorem sgM_r (k : Int) : rOk (sgM k) = true := getD_all sgT_r (by decide +kernel) _
theorem nab (a : Int) : -(a.natAbs : Int) ≤ a ∧ a ≤ (a.natAbs : Int) := by omega
theorem row_bd {a b c x y z : Int} (h : (a.natAbs : Int) + b.natAbs + c.natAbs ≤ 4) (hx : -128 ≤ x ∧ x ≤ 128) (hy : -128 ≤ y ∧ y ≤ 128) (hz : -128 ≤ z ∧ z ≤ 128) : -512 ≤ a * x + b * y + c * z ∧ a * x + b * y + c * z ≤ 512 := by
  have p := bd_mul (nab a) hx
  have q := bd_mul (nab b) hy
  have r := bd_mul (nab c) hz
  omega
theorem app_small (k : Int) {u : V3} (hu : u.Bd 128) : (((sgM k).mul shr3).app u).Bd 1000 := by
  have h := sgM_r k
  simp only [rOk, decide_eq_true_eq] at h
  obtain ⟨h1, h2, h3⟩ := hu
  have a := row_bd h.1 h1 h2 h3
  have b := row_bd h.2.1 h1 h2 h3
  have c := row_bd h.2.2 h1 h2 h3
  unfold V3.Bd M3.app
  simp only
  omega
theorem left_small {h : V3} {p : M3} (hh : h.Bd 5) (hp : p.Bd 4) : (M3.left h p).Bd 512 := by
  obtain ⟨h1, h2, h3⟩ := hh
  obtain ⟨a, b, c, d, e, f, g, h', i⟩ := hp
  have q : ∀ {x y : Int}, -5 ≤ x ∧ x ≤ 5 → -4 ≤ y ∧ y ≤ 4 → -20 ≤ x * y ∧ x * y ≤ 20 := fun r s => bd_mul r s
  have := q h1 a; have := q h2 d; have := q h3 g
  have := q h1 b; have := q h2 e; have := q h3 h'
  have := q h1 c; have := q h2 f; have := q h3 i
  unfold V3.Bd M3.left
  simp only
  omega
theorem adj_zero {m : G6} (hp : m.Pos) {h : V3} (e : m.adj.dot h h = 0) : h = V3.zero := by
  have d := dual_cs hp h h
  rw [e, Int.zero_mul] at d
  have hd := hp.det
  have s := sqn (h.pr h)
  have z : h.pr h * h.pr h = 0 := by
    rcases Int.lt_or_le 0 (h.pr h * h.pr h) with a | a
    · have := Int.mul_pos a hd; omega
    · omega
  have z1 : h.pr h = 0 := by
    rcases Int.mul_eq_zero.1 z with a | a <;> exact a
  unfold V3.pr at z1
  have a := sqn h.x; have b := sqn h.y; have c := sqn h.z
  refine V3.zero_iff.2 ⟨?_, ?_, ?_⟩
  · rcases Int.mul_eq_zero.1 (show h.x * h.x = 0 by omega) with a | a <;> exact a
  · rcases Int.mul_eq_zero.1 (show h.y * h.y = 0 by omega) with a | a <;> exact a
  · rcases Int.mul_eq_zero.1 (show h.z * h.z = 0 by omega) with a | a <;> exact a
theorem num_zero {m : G6} (h : m.mck = 0) {v : V3} (hv : v.Bd 512) : (m.spF v).num = 0 ↔ v = V3.zero := by
  obtain ⟨hb, hp, _⟩ := G6.mck_zero h
  have e : m.spE v = 0 := by unfold G6.spE; rw [V3.idx_iff.2 hv]; exact h
  have ls := low_spec (Pos.adj_nn hp v) (by have := adj_bound hb hv; omega) hp.det (by have := (sp_vals e).2.2; exact (lowB_iff.1 this).2.2.2)
  have es : m.spF v = low (m.adj.dot v v) m.det := by unfold G6.spF; rw [e]; rfl
  rw [es]
  constructor
  · intro z
    have c := ls.cross
    rw [z, Int.zero_mul] at c
    rcases Int.mul_eq_zero.1 c.symm with a | a
    · exact adj_zero hp a
    · have := ls.d0; omega
  · intro z
    have c := ls.cross
    rw [z, dot_zero, Int.zero_mul] at c
    rw [z, dot_zero]
    rcases Int.mul_eq_zero.1 c with a | a
    · exact a
    · have := hp.det; omega
end Go.Proofs.Ytofblakbfmjgkaa
