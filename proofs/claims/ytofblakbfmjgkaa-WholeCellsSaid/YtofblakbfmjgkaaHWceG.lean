/-
  WholeCells: what it holds to holds (the part of reduce). Nothing here is trusted.
-/
import Derived.Test.YtofblakbfmjgkaaHTWcF
namespace Go.Proofs.Ytofblakbfmjgkaa
open Go Vx Go.RowKit
theorem fin_ck {m : G6} (h : m.mck = 0) (hq : m.sq4 ≤ 100000) : m.fin.1.mck = 0 := by
  obtain ⟨hb, hp, _⟩ := G6.mck_zero h
  have fs := fin_spec hp (by omega)
  have e := G6.Pos.entries fs.pos
  have := fs.le
  have := fs.nn
  exact mck_of (by unfold G6.Bd; omega) fs.pos
theorem obG_eq {m : G6} (h : m.mck = 0) : obG m = m.fin.1 := by unfold obG; rw [h]; rfl
theorem obN_eq {m : G6} (h : m.mck = 0) : obN m = m.fin.2.2 := by unfold obN; rw [h]; rfl
theorem obP_eq {m : G6} (h : m.mck = 0) : obP m = m.fin.2.1.w := by unfold obP; rw [h]; rfl
theorem gB {m n : G6} (h : m.mck = 0) (hq : m.sq4 ≤ 100000) (hn : n.mck = 0) (hs : shN n = shN m) : ∀ x ∈ L26 Rc m n, x = false := by
  obtain ⟨hb, hp, _⟩ := G6.mck_zero h
  have fs := fin_spec hp (by omega)
  have hf := fin_ck h hq
  have e1 : Rc.K m = 0 := h
  have e2 : Rc.K n = 0 := hn
  have e3 : Rc.K (Rc.G m) = 0 := by show (obG m).mck = 0; rw [obG_eq h]; exact hf
  have e4 : Rc.h m = Rc.h n := hs.symm
  have e5 : Rc.sB (Rc.G m) = false := by
    show stB (obG m) = false
    rw [obG_eq h]
    unfold stB
    rw [decide_eq_false fs.obt, Bool.and_false]
  have e6 : decide (Rc.N m < 0) = false := decide_eq_false (by show ¬ obN m < 0; rw [obN_eq h]; have := fs.nn; omega)
  intro x hx
  simp only [L26, List.mem_cons, List.not_mem_nil, or_false, e1, e2, e3, e4, e5, e6, bne_self_eq_false, or_self] at hx
  exact hx
theorem gE {m : G6} (h : m.mck = 0) : Rc.ns m (Rc.h m) = true := by
  refine nosB_to (fun x y z hx hy hz => ?_)
  obtain ⟨hb, hp, _⟩ := G6.mck_zero h
  have hv : (V3.mk x y z).Bd 1000 := by unfold V3.Bd; simp only; omega
  have hc : (V3.mk x y z).ckv = 0 := by unfold V3.ckv; rw [show (V3.mk x y z).in1 = true from V3.in1_iff.2 hv]; rfl
  have he : m.dotE ⟨x, y, z⟩ ⟨x, y, z⟩ = 0 := by unfold G6.dotE; rw [h, hc]; rfl
  refine ⟨he, fun hl => ?_⟩
  have hd : m.dotF ⟨x, y, z⟩ ⟨x, y, z⟩ = m.dot ⟨x, y, z⟩ ⟨x, y, z⟩ := by unfold G6.dotF; rw [he]; rfl
  rw [hd] at hl
  have hl : m.dot ⟨x, y, z⟩ ⟨x, y, z⟩ < shN m := hl
  have := (short_of h).2 ⟨x, y, z⟩
  by_cases h0 : V3.mk x y z = V3.zero
  · simpa [V3.zero] using h0
  · have := this h0; omega
theorem gD {m : G6} (h : m.mck = 0) (hq : m.sq4 ≤ 100000) : ∀ x ∈ L29 Rc m (Rc.G m), x = true := by
  obtain ⟨hb, hp, _⟩ := G6.mck_zero h
  have fs := fin_spec hp (by omega)
  have eG : Rc.G m = m.fin.1 := obG_eq h
  have en := G6.Pos.entries fs.pos
  have hl := fs.le
  have hn := fs.nn
  have hU : m.fin.2.1.U := by unfold M3.U; rw [fs.det]; unfold sgn2; split <;> omega
  have sh : m.fin.1.Short (shN m) := by rw [fs.turn]; exact (short_of h).turn hU
  have ob := obt_of fs.obt
  have s1 := sh.2 ⟨1, 0, 0⟩ (by simp [V3.zero])
  have s2 := sh.2 ⟨0, 1, 0⟩ (by simp [V3.zero])
  have s3 := sh.2 ⟨0, 0, 1⟩ (by simp [V3.zero])
  unfold G6.dot at s1 s2 s3
  unfold G6.Obt G6.ad G6.bd G6.cd at ob
  rw [eG]
  generalize m.fin.1 = g at *
  have hh : Rc.h m = shN m := rfl
  simp only [Int.mul_zero, Int.mul_one, Int.add_zero, Int.zero_add] at s1 s2 s3
  intro x hx
  simp only [L29, hh, List.mem_cons, List.not_mem_nil, or_false] at hx
  rcases hx with rfl | rfl | rfl | rfl | rfl | rfl | rfl | rfl | rfl <;> refine decide_eq_true ?_
  · omega
  · omega
  · omega
  · rw [W_in (n := 0 - g.aa) (by omega), W_in (n := 0 - g.aa - g.ab) (by omega), W_in (by omega)]; omega
  · rw [W_in (n := 0 - g.ab) (by omega), W_in (n := 0 - g.ab - g.bb) (by omega), W_in (by omega)]; omega
  · rw [W_in (n := 0 - g.ac) (by omega), W_in (n := 0 - g.ac - g.bc) (by omega), W_in (by omega)]; omega
  · omega
  · omega
  · omega
theorem g6_eqB {p q : G6} : p.eqB q = true ↔ p = q := by cases p; cases q; simp [G6.eqB]
theorem sq_one {d : Int} (h : d * d = 1) : d = 1 ∨ d = -1 := by
  rcases Int.lt_or_le d 2 with a | a
  · rcases Int.lt_or_le d (-1) with b | b
    · have := Int.mul_le_mul_of_nonneg_left (show (2 : Int) ≤ -d by omega) (show 0 ≤ -d by omega)
      rw [Int.neg_mul_neg] at this
      omega
    · have : d = -1 ∨ d = 0 ∨ d = 1 := by omega
      rcases this with rfl | rfl | rfl
      · exact Or.inr rfl
      · cases h
      · exact Or.inl rfl
  · have := Int.mul_le_mul_of_nonneg_left (show (2 : Int) ≤ d by omega) (show 0 ≤ d by omega)
    omega
theorem gC {m : G6} (h : m.mck = 0) (hq : m.sq4 ≤ 100000) : (Rc.ve (Rc.P m) != 0) = true ∧ (Rc.E m (Rc.P m) == 4) = true ∧ (Rc.ve (Rc.P m) == 4) = true ∨ (Rc.ve (Rc.P m) != 0) = false ∧ ∀ x ∈ L28 Rc m, x = false := by
  obtain ⟨hb, hp, _⟩ := G6.mck_zero h
  have fs := fin_spec hp (by omega)
  have eP : Rc.P m = m.fin.2.1.w := obP_eq h
  have eG : Rc.G m = m.fin.1 := obG_eq h
  rw [eP]
  have hsb : m.fin.1.sbd = true := fs.pos.sbd (by have := fs.le; have := fs.nn; omega)
  have hm := ends_metric fs hsb
  generalize hpp : m.fin.2.1.w = p at *
  cases ho : p.ok with
  | false =>
    have e1 : Rc.ve p = 4 := by show p.ck = 4; unfold M3.ck; rw [ho]; rfl
    have e2 : Rc.E m p = 4 := by show turE m p = 4; unfold turE M3.form; rw [ho, h]; rfl
    left
    rw [e1, e2]
    exact ⟨rfl, rfl, rfl⟩
  | true =>
    have e1 : Rc.ve p = 0 := by show p.ck = 0; unfold M3.ck; rw [ho]; rfl
    obtain ⟨h1, h2, h3⟩ := cols_bd (M3.ok_iff.1 ho)
    have a := dot_bound hb h1 h1
    have b := dot_bound hb h2 h2
    have c' := dot_bound hb h3 h3
    have d := dot_bound hb h2 h3
    have e := dot_bound hb h1 h3
    have f := dot_bound hb h1 h2
    have hw : (m.turn p).w = m.turn p := by
      refine G6.ext' ⟨?_, ?_, ?_, ?_, ?_, ?_⟩ <;> (simp only [G6.w, G6.turn]; exact W_in (by omega))
    rw [hw] at hm
    have hg : m.fin.1 = m.turn p := by
      have : m.fin.1.eqB (m.turn p) = true := by simpa using hm
      exact g6_eqB.1 this
    have hd : p.det * p.det = 1 := by
      have t := turn_det m p
      rw [← hg, ends_det fs] at t
      have dp := hp.det
      have : m.det * (p.det * p.det) = m.det * 1 := by omega
      exact Int.eq_of_mul_eq_mul_left (by omega) this
    have hU : p.U := sq_one hd
    have e2 : Rc.E m p = 0 := by show turE m p = 0; unfold turE; rw [h, M3.form_zero.2 ⟨ho, hU⟩]; rfl
    have e3 : Rc.T m p = m.fin.1 := by
      show turG m p = _
      unfold turG
      rw [show turE m p = 0 from e2, hg]; rfl
    have e4 : Rc.vd p = p.det := by show (bif p.ok then p.det else 0) = p.det; rw [ho]; rfl
    right
    refine ⟨by rw [e1]; rfl, fun x hx => ?_⟩
    simp only [L28, eP, e1, e2, e3, e4, hd, eG, List.mem_cons, List.not_mem_nil, or_false] at hx
    rcases hx with rfl | rfl | rfl | rfl
    · rfl
    · rfl
    · rw [g6_eqB.2 rfl]; rfl
    · rfl
end Go.Proofs.Ytofblakbfmjgkaa
