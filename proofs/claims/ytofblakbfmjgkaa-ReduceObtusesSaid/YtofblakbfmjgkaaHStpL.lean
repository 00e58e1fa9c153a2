/-
  The document's Step. Nothing here is trusted.
-/
import Derived.Test.YtofblakbfmjgkaaHStpE
namespace Go.Proofs.Ytofblakbfmjgkaa.Vx
open Go
theorem hit_eq {m : G6} (h : m.SB 1000000000000) {u v : Nat} {p : M3} (e : ents (laidL m) u v = (laidL (m.turn p)).map W) (hp : p ∈ [stp0, stp1, stp2, stp3, stp4, stp5]) : stpHit (laidL m) u v p = some (p3v (agI (laidL (m.turn p))) p.v (.bool true)) := by
  unfold stpHit
  rw [e, map_W (laid_small (turn_small h p hp)) (by omega)]
theorem tStp_eq {l : List Int} (h : lidB l = true) : tStp l = some (fStp l) := by
  unfold lidB at h
  rw [Bool.and_eq_true] at h
  obtain ⟨h1, h2⟩ := h
  have e := eqL_eq h1
  obtain ⟨m, hm⟩ : ∃ m, m = gOf l := ⟨_, rfl⟩
  rw [← hm] at e h2
  subst e
  have hb := G6.sbd_iff.1 h2
  unfold tStp fStp
  rw [gOf_laid]
  have q0 : nth (laidL m) 6 = m.bc := by simp [laidL, nth, G6.dot, e2v, e3v]
  have q1 : nth (laidL m) 2 = m.ac := by simp [laidL, nth, G6.dot, e1v, e3v]
  have q2 : nth (laidL m) 1 = m.ab := by simp [laidL, nth, G6.dot, e1v, e2v]
  have q3 : nth (laidL m) 3 = m.ad := by simp [laidL, nth, G6.dot, e1v, e4v, G6.ad]; omega
  have q4 : nth (laidL m) 7 = m.bd := by simp [laidL, nth, G6.dot, e2v, e4v, G6.bd]; omega
  have q5 : nth (laidL m) 11 = m.cd := by simp [laidL, nth, G6.dot, e3v, e4v, G6.cd]; omega
  rw [q0, q1, q2, q3, q4, q5, hit_eq hb (ents_eq0 m) (by simp), hit_eq hb (ents_eq1 m) (by simp), hit_eq hb (ents_eq2 m) (by simp), hit_eq hb (ents_eq3 m) (by simp), hit_eq hb (ents_eq4 m) (by simp), hit_eq hb (ents_eq5 m) (by simp)]
  have neg : ∀ x : Int, decide (x ≤ 0) = !decide (x > 0) := fun x => by
    by_cases h : x > 0
    · rw [decide_eq_true h, decide_eq_false (by omega)]; rfl
    · rw [decide_eq_false h, decide_eq_true (by omega)]; rfl
  rw [neg, neg, neg, neg, neg, neg]
  unfold G6.next G6.sharp
  cases h0 : decide (m.bc > 0) with
  | true => simp only [cond_true, Bool.not_true]; rw [h0]
  | false =>
    cases h1 : decide (m.ac > 0) with
    | true => simp only [cond_true, cond_false, Bool.not_true, Bool.not_false]; rw [h1]
    | false =>
      cases h2 : decide (m.ab > 0) with
      | true => simp only [cond_true, cond_false, Bool.not_true, Bool.not_false]; rw [h2]
      | false =>
        cases h3 : decide (m.ad > 0) with
        | true => simp only [cond_true, cond_false, Bool.not_true, Bool.not_false]; rw [h3]
        | false =>
          cases h4 : decide (m.bd > 0) with
          | true => simp only [cond_true, cond_false, Bool.not_true, Bool.not_false]; rw [h4]
          | false =>
            cases h5 : decide (m.cd > 0) with
            | true => simp only [cond_true, cond_false, Bool.not_true, Bool.not_false]; rw [h5]
            | false => simp only [cond_false, Bool.not_false]; rw [turn_one]; rfl
theorem lid_of {m : G6} (h : m.sbd = true) : lidB ((laidL m).map W) = true := by
  rw [map_W (laid_small (G6.sbd_iff.1 h)) (by omega)]
  unfold lidB
  rw [gOf_laid, eqL_refl, h]; rfl
def tDocStep (m : G6) : Option Value := match m.mck != 0 with
  | true => some (p4v G6.zero.v M3.zero.v (.bool false) (vI m.mck))
  | false => onO (lidB ((laidL m).map W)) (some (p4v (gOf (laidL (gOf ((laidL m).map W)).next)).v (gOf ((laidL m).map W)).sharp.2.v (.bool (decide ((gOf ((laidL m).map W)).sharp.1 > 0))) (vI 0)))
theorem tDocStep_eq (m : G6) : tDocStep m = some (fRStep m) := by
  rw [← tRStep_eq]
  unfold tDocStep tRStep
  by_cases h : m.mck = 0
  · obtain ⟨hb, hp, _⟩ := G6.mck_zero h
    have hs := hp.sbd hb.sq4
    rw [lid_of hs, map_W (laid_small (G6.sbd_iff.1 hs)) (by omega), gOf_laid, gOf_laid, hs, h]; rfl
  · rw [(bif_beq h).2]
def tReduceSteps (m : G6) : Option Value := andO [(stG m).eqB (stG m), (stP m).eqB (stP m), stB m == stB m, m.mck == m.mck]
theorem tReduceSteps_true (m : G6) : tReduceSteps m = some (.bool true) := andO_eq _ (by simp [G6.eqB_refl, M3.eqB_refl])
end Go.Proofs.Ytofblakbfmjgkaa.Vx
