/-
  basis.Metric by the products of the edges. Nothing here is trusted.
-/
import Derived.Test.YtofblakbfmjgkaaKah
namespace Go.Proofs.Ytofblakbfmjgkaa.Vx
open Go
def tMetric7 (c : O3) (m : G6) : Option Value :=
  match m.ck != 0 with
  | true => some (pGE G6.zero m.ck)
  | false => match c.r.form != 0 with
    | true => some (pGE G6.zero c.r.form)
    | false => some (pGE (m.turn c.r.invF).w 0)
theorem cols_bd {p : M3} {k : Int} (h : p.Bd k) : p.c1.Bd k ∧ p.c2.Bd k ∧ p.c3.Bd k := by
  unfold M3.Bd at h
  unfold V3.Bd M3.c1 M3.c2 M3.c3
  simp only
  omega
theorem tMetric7_eq (c : O3) (m : G6) : tMetric7 c m = some (fMetric c m) := by
  unfold tMetric7 fMetric O3.metF O3.metE
  by_cases hm : m.ck = 0
  · rw [hm]
    by_cases hc : c.r.form = 0
    · obtain ⟨c1, c2⟩ := M3.form_zero.1 hc
      have hi := (M3.ok_iff.1 c1).inv c2
      have hb := G6.ck_zero hm
      obtain ⟨h1, h2, h3⟩ := cols_bd hi
      have a := dot_bound hb h1 h1
      have b := dot_bound hb h2 h2
      have c' := dot_bound hb h3 h3
      have d := dot_bound hb h2 h3
      have e := dot_bound hb h1 h3
      have f := dot_bound hb h1 h2
      have hw : (m.turn c.r.inv).w = m.turn c.r.inv := by
        refine G6.ext' ⟨?_, ?_, ?_, ?_, ?_, ?_⟩ <;> (simp only [G6.w, G6.turn]; exact W_in (by omega))
      rw [hc, invF_form hc, hw, ← turn_of, ← M3.mul_assoc]
      rfl
    · simp only [bne_self_eq_false, beq_self_eq_true, cond_true]
      rw [(bif_beq hc).1, (bif_beq hc).2]; rfl
  · rw [(bif_beq hm).1, (bif_beq hm).2]
    simp only [cond_false]
    rw [(bif_beq hm).1]; rfl
end Go.Proofs.Ytofblakbfmjgkaa.Vx
