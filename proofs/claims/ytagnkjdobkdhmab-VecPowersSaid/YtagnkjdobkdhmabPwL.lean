/-
  What the statement VecPowers finds. No program in sight. Nothing here is trusted.
-/
import Derived.Test.YtagnkjdobkdhmabPwT
namespace Go.Proofs.Ytagnkjdobkdhmab.Vx
open Go
def tm4 (m : M3) : M3 := ⟨Int.tmod m.a 4, Int.tmod m.b 4, Int.tmod m.c 4, Int.tmod m.d 4, Int.tmod m.e 4, Int.tmod m.f 4, Int.tmod m.g 4, Int.tmod m.h 4, Int.tmod m.i 4⟩
def vp3 (m p : M3) : Option Value := match p.form != 0 with
  | true => some (.bool true)
  | false => match (p.mulF m).mulE p.invF != 0 with
    | true => some (.bool true)
    | false => match ((p.mulF m).mulF p.invF).ck != 0 with
      | true => some (.bool true)
      | false => match ((p.mulF m).mulF p.invF).ordF == m.ordF with
        | true => some (.bool (((p.mulF m).mulF p.invF).ordE == m.ordE))
        | false => some (.bool false)
def vp2b (n e : Int) (K : Option Value) : Option Value := match e == 0 with
  | true => guardF [decide (n < 1), decide (n > 6), n == 5] K
  | false => K
def vp2 (n e : Int) (K : Option Value) : Option Value := match e != 0 with
  | true => match e != 9 with
    | true => some (.bool false)
    | false => vp2b n e K
  | false => vp2b n e K
def vp1 (m p : M3) : Option Value := match m.ordE == 3 with
  | true => some (.bool (m.ordF == 0))
  | false => onO (powI m M3.one m.ordF m.ordE 1) (vp2 m.ordF m.ordE (vp3 m p))
def tVecPowers (m p : M3) : Option Value := vp1 (tm4 m) (tm4 p)
theorem tm4_B3 (m : M3) : (tm4 m).B3 := by
  have h : ∀ x : Int, -3 ≤ Int.tmod x 4 ∧ Int.tmod x 4 ≤ 3 := fun x => by
    have := tmod_bd x 4 (by omega); omega
  exact ⟨h _, h _, h _, h _, h _, h _, h _, h _, h _⟩
theorem M3.B3.ok {m : M3} (h : m.B3) : m.ok = true := M3.ok_iff.2 (by unfold M3.B3 at h; unfold M3.Bd; omega)
theorem M3.U_conj {m p : M3} (hm : m.U) (hp : p.U) : ((p.mul m).mul p.inv).U := M3.U_mul (M3.U_mul hp hm) (by
  unfold M3.U; rw [M3.det_inv hp]; exact hp)
theorem vp3_true {m p : M3} (hm : m.B3) (hu : m.U) : vp3 m p = some (.bool true) := by
  unfold vp3
  by_cases h1 : p.form = 0
  · obtain ⟨po, pu⟩ := M3.form_zero.1 h1
    by_cases h2 : (p.mulF m).mulE p.invF = 0
    · by_cases h3 : ((p.mulF m).mulF p.invF).ck = 0
      · have e1 : p.mulF m = p.mul m := by unfold M3.mulF; rw [po, hm.ok]; rfl
        have e2 : p.invF = p.inv := by unfold M3.invF; rw [h1]; rfl
        have e3 : (p.mulF m).mulF p.invF = (p.mul m).mul p.inv := by
          unfold M3.mulE at h2
          unfold M3.mulF at *
          cases hc : (bif p.ok && m.ok then p.mul m else M3.zero).ok && p.invF.ok with
          | true => rw [po, hm.ok, e2]; rfl
          | false => rw [hc] at h2; cases h2
        have ok3 : ((p.mul m).mul p.inv).ok = true := by
          rw [e3] at h3
          unfold M3.ck at h3
          cases hc : ((p.mul m).mul p.inv).ok with
          | true => rfl
          | false => rw [hc] at h3; cases h3
        have f3 : ((p.mul m).mul p.inv).form = 0 := M3.form_zero.2 ⟨ok3, M3.U_conj hu pu⟩
        have o3 : ((p.mul m).mul p.inv).ordI = m.ordI := M3.ordI_conj (M3.inv_mul pu) (M3.mul_inv pu)
        have a1 : ((p.mul m).mul p.inv).ordF = m.ordF := by unfold M3.ordF; rw [f3, hm.form hu, o3]
        have a2 : ((p.mul m).mul p.inv).ordE = m.ordE := by unfold M3.ordE; rw [f3, hm.form hu, o3]
        rw [h1, h2, h3, e3, a1, a2]
        simp
      · rw [h1, h2, (bif_beq h3).2]; rfl
    · rw [h1, (bif_beq h2).2]; rfl
  · rw [(bif_beq h1).2]
theorem tVecPowers_true (m p : M3) : tVecPowers m p = some (.bool true) := by
  unfold tVecPowers vp1
  generalize tm4 p = p
  have hb := tm4_B3 m
  generalize tm4 m = m at *
  by_cases hu : m.U
  · have hf := hb.form hu
    have hp : powI m M3.one m.ordF m.ordE 1 = true := powI_iff.2 ⟨hb, hu, rfl, rfl, by omega, by omega, rfl⟩
    rw [vp3_true hb hu, onO_true hp]
    have eF : m.ordF = m.ordI := by unfold M3.ordF; rw [hf]; rfl
    by_cases h0 : m.ordI = 0
    · have eE : m.ordE = 9 := by unfold M3.ordE; rw [hf, h0]; rfl
      rw [eE]; rfl
    · have eE : m.ordE = 0 := by unfold M3.ordE; rw [hf, (bif_beq h0).1]; rfl
      obtain ⟨n, e1, _, hn⟩ := M3.ordI_spec h0
      rw [eE, eF, e1]
      rcases hn with rfl | rfl | rfl | rfl | rfl <;> rfl
  · have hf : m.form = 3 := by
      unfold M3.form
      rw [hb.ok]
      cases hc : unitB m.det with
      | true => exact absurd (unitB_iff.1 hc) hu
      | false => rfl
    have eE : m.ordE = 3 := by unfold M3.ordE; rw [hf]; rfl
    have eF : m.ordF = 0 := by unfold M3.ordF; rw [hf]; rfl
    rw [eE, eF]; rfl
end Go.Proofs.Ytagnkjdobkdhmab.Vx
