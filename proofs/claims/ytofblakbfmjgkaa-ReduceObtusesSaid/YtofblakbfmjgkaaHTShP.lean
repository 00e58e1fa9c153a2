/-
  The document's Shortest told. Nothing here is trusted.
-/
import Derived.Test.YtofblakbfmjgkaaHTSho
import Derived.Test.YtofblakbfmjgkaaHShoN
namespace Go.Proofs.Ytofblakbfmjgkaa
open Go Vx Go.RowKit
theorem qDrop {C : Cx} {c : Code} (h : InBody C c) (k : Nat) : InBody C (seqDrop k c) := h.sub (seqDrop_loops k c)
theorem qStm {C : Cx} {c : Code} (h : InBody C c) (k : Nat) : InBody C (stmt k c) := h.sub fun x hx => by
  refine seqDrop_loops k c x ?_
  unfold stmt at hx
  cases hc : seqDrop k c with
  | seq p q => rw [hc] at hx; simp only at hx; simp [loopsIn, hx]
  | _ => rw [hc] at hx; simp [loopsIn] at hx
theorem qForH {C : Cx} {c : Code} (h : InBody C c) : InBody C (forHead c) := h.sub fun x hx => by
  unfold forHead at hx
  split at hx
  · simp [loopsIn, hx]
  · simp [loopsIn] at hx
theorem qForB {C : Cx} {c : Code} (h : InBody C c) : InBody C (forBody c) := h.sub fun x hx => by
  unfold forBody at hx
  split at hx
  · simp [loopsIn, hx]
  · simp [loopsIn] at hx
theorem q_nextC {P : Program} {B : Nat} {x : Code} {st s2 s3 : St} {e : Exit} (h : CodeSem P B x st .normal s2) (hn : LoopSem P B x s2 e s3) : LoopSem P B x st e s3 := by
  intro Q w0 keep r0 a w hB hQ hr
  refine LoopsTo.round (h _ w0 keep r0 a w hB ?_ hr)
  intro a' w' hr'
  exact hn Q w0 keep r0 a' w' hB hQ hr'
theorem q_leaveC {P : Program} {B : Nat} {x : Code} {st s : St} {e : Exit} (h : CodeSem P B x st e s) (he : e ≠ .normal) : LoopSem P B x st e s := by
  intro Q w0 keep r0 a w hB hQ hr
  refine LoopsTo.round (h _ w0 keep r0 a w hB ?_ hr)
  intro a' w' hr'
  revert he hQ hr'
  cases e <;> intro he hQ hr' <;> first | exact absurd rfl he | exact hQ a' w' hr'
set_option maxRecDepth 100000 in
theorem qIn : InBody ((CCrn Try.prog).into 43 0) (shB Try.prog) := bodyOf_in (C := CCrn Try.prog) (f := 43) (B := 0) (k := 0) (fn := Try.f43) (b := shB Try.prog) Try.func43 shB_eq
theorem qX0 : InBody ((CCrn Try.prog).into 43 0) (hX0 Try.prog) := qForB (qStm qIn 3)
theorem qZ1 : InBody ((CCrn Try.prog).into 43 0) (hZ1 Try.prog) := (qDrop qX0 1).left
theorem qX2 : InBody ((CCrn Try.prog).into 43 0) (hX2 Try.prog) := doBlkB (qDrop qZ1 2)
theorem qY3 : InBody ((CCrn Try.prog).into 43 0) (hY3 Try.prog) := (qStm qX2 1).left
theorem qX4 : InBody ((CCrn Try.prog).into 43 0) (hX4 Try.prog) := qForB (qStm qY3 0)
theorem qX6 : InBody ((CCrn Try.prog).into 43 0) (hX6 Try.prog) := doBlkB (qDrop qY3 3)
theorem sj01 {m : G6} (h : Inv m) (t : Bool) : ∃ m' t', roundR ((CCrn Try.prog).into 43 0) 60 (hX4 Try.prog) [5, 6, 7, 8] [5, 6, 7] [.slot 5] [.slot 5] (w2 m.mat t 0 1) = some (.normal, w2 m'.mat t' 0 2) ∧ Vx.Next m t m' t' (-m.bb ≤ 2 * m.ab ∧ 2 * m.ab ≤ m.bb) := by
  obtain ⟨r1, r2, r3, r4, r5, r6, r7⟩ := st01 h t
  have hr : roundR ((CCrn Try.prog).into 43 0) 60 (hX4 Try.prog) [5, 6, 7, 8] [5, 6, 7] [.slot 5] [.slot 5] (w2 m.mat t 0 1) = gd (rdB m.ab m.bb) (match rnd m.ab m.bb != 0 with
    | true => match decide ((ad01 (ad01 m.mat (W (0 - rnd m.ab m.bb))) 0).a < m.aa) with
      | true => some (.normal, w2 (ad01 m.mat (W (0 - rnd m.ab m.bb))) true 0 2)
      | false => some (.normal, w2 m.mat t 0 2)
    | false => some (.normal, w2 m.mat t 0 2)) := shX401 m.mat t
  rw [r1, r2, r3, r4] at hr
  by_cases h0 : rnd m.ab m.bb = 0
  · rw [show (rnd m.ab m.bb != 0) = false by simpa using h0] at hr
    exact ⟨m, t, hr, r7 h0⟩
  · rw [show (rnd m.ab m.bb != 0) = true by simpa using h0] at hr
    by_cases hl : (m.turn (em01 (-(rnd m.ab m.bb)))).aa < m.aa
    · rw [show decide ((m.turn (em01 (-(rnd m.ab m.bb)))).mat.a < m.aa) = true from decide_eq_true hl] at hr
      exact ⟨(m.turn (em01 (-(rnd m.ab m.bb)))), true, hr, r5 hl⟩
    · rw [show decide ((m.turn (em01 (-(rnd m.ab m.bb)))).mat.a < m.aa) = false from decide_eq_false hl] at hr
      exact ⟨m, t, hr, r6 hl⟩
theorem sj02 {m : G6} (h : Inv m) (t : Bool) : ∃ m' t', roundR ((CCrn Try.prog).into 43 0) 60 (hX4 Try.prog) [5, 6, 7, 8] [5, 6, 7] [.slot 5] [.slot 5] (w2 m.mat t 0 2) = some (.normal, w2 m'.mat t' 0 3) ∧ Vx.Next m t m' t' (-m.cc ≤ 2 * m.ac ∧ 2 * m.ac ≤ m.cc) := by
  obtain ⟨r1, r2, r3, r4, r5, r6, r7⟩ := st02 h t
  have hr : roundR ((CCrn Try.prog).into 43 0) 60 (hX4 Try.prog) [5, 6, 7, 8] [5, 6, 7] [.slot 5] [.slot 5] (w2 m.mat t 0 2) = gd (rdB m.ac m.cc) (match rnd m.ac m.cc != 0 with
    | true => match decide ((ad02 (ad02 m.mat (W (0 - rnd m.ac m.cc))) 0).a < m.aa) with
      | true => some (.normal, w2 (ad02 m.mat (W (0 - rnd m.ac m.cc))) true 0 3)
      | false => some (.normal, w2 m.mat t 0 3)
    | false => some (.normal, w2 m.mat t 0 3)) := shX402 m.mat t
  rw [r1, r2, r3, r4] at hr
  by_cases h0 : rnd m.ac m.cc = 0
  · rw [show (rnd m.ac m.cc != 0) = false by simpa using h0] at hr
    exact ⟨m, t, hr, r7 h0⟩
  · rw [show (rnd m.ac m.cc != 0) = true by simpa using h0] at hr
    by_cases hl : (m.turn (em02 (-(rnd m.ac m.cc)))).aa < m.aa
    · rw [show decide ((m.turn (em02 (-(rnd m.ac m.cc)))).mat.a < m.aa) = true from decide_eq_true hl] at hr
      exact ⟨(m.turn (em02 (-(rnd m.ac m.cc)))), true, hr, r5 hl⟩
    · rw [show decide ((m.turn (em02 (-(rnd m.ac m.cc)))).mat.a < m.aa) = false from decide_eq_false hl] at hr
      exact ⟨m, t, hr, r6 hl⟩
theorem sk00 {m : G6} (h : Inv m) (t : Bool) : ∃ m' t', roundR ((CCrn Try.prog).into 43 0) 60 (hX6 Try.prog) [5, 6, 7, 10, 11, 12] [5, 6, 7] [.slot 5] [.slot 5] (w3 m.mat t 0 1 2 0) = some (.normal, w3 m'.mat t' 0 1 2 1) ∧ Vx.Next m t m' t' (m.aa ≤ m.dot ⟨1, -1, -1⟩ ⟨1, -1, -1⟩) := by
  obtain ⟨r1, r2, r3⟩ := sn0 h t (x := -1) (y := -1) (by decide) (by decide)
  have hr : roundR ((CCrn Try.prog).into 43 0) 60 (hX6 Try.prog) [5, 6, 7, 10, 11, 12] [5, 6, 7] [.slot 5] [.slot 5] (w3 m.mat t 0 1 2 0) = (match decide ((ad02 (ad01 m.mat (-1)) (-1)).a < m.aa) with
    | true => some (.normal, w3 (ad02 (ad01 m.mat (-1)) (-1)) true 0 1 2 1)
    | false => some (.normal, w3 m.mat t 0 1 2 1)) := shX600 m.mat t
  rw [r1] at hr
  by_cases hl : ((m.turn (em01 (-1))).turn (em02 (-1))).aa < m.aa
  · rw [show decide (((m.turn (em01 (-1))).turn (em02 (-1))).mat.a < m.aa) = true from decide_eq_true hl] at hr
    exact ⟨((m.turn (em01 (-1))).turn (em02 (-1))), true, hr, r2 hl⟩
  · rw [show decide (((m.turn (em01 (-1))).turn (em02 (-1))).mat.a < m.aa) = false from decide_eq_false hl] at hr
    exact ⟨m, t, hr, r3 hl⟩
theorem sk01 {m : G6} (h : Inv m) (t : Bool) : ∃ m' t', roundR ((CCrn Try.prog).into 43 0) 60 (hX6 Try.prog) [5, 6, 7, 10, 11, 12] [5, 6, 7] [.slot 5] [.slot 5] (w3 m.mat t 0 1 2 1) = some (.normal, w3 m'.mat t' 0 1 2 2) ∧ Vx.Next m t m' t' (m.aa ≤ m.dot ⟨1, 1, -1⟩ ⟨1, 1, -1⟩) := by
  obtain ⟨r1, r2, r3⟩ := sn0 h t (x := 1) (y := -1) (by decide) (by decide)
  have hr : roundR ((CCrn Try.prog).into 43 0) 60 (hX6 Try.prog) [5, 6, 7, 10, 11, 12] [5, 6, 7] [.slot 5] [.slot 5] (w3 m.mat t 0 1 2 1) = (match decide ((ad02 (ad01 m.mat (1)) (-1)).a < m.aa) with
    | true => some (.normal, w3 (ad02 (ad01 m.mat (1)) (-1)) true 0 1 2 2)
    | false => some (.normal, w3 m.mat t 0 1 2 2)) := shX601 m.mat t
  rw [r1] at hr
  by_cases hl : ((m.turn (em01 (1))).turn (em02 (-1))).aa < m.aa
  · rw [show decide (((m.turn (em01 (1))).turn (em02 (-1))).mat.a < m.aa) = true from decide_eq_true hl] at hr
    exact ⟨((m.turn (em01 (1))).turn (em02 (-1))), true, hr, r2 hl⟩
  · rw [show decide (((m.turn (em01 (1))).turn (em02 (-1))).mat.a < m.aa) = false from decide_eq_false hl] at hr
    exact ⟨m, t, hr, r3 hl⟩
theorem sk02 {m : G6} (h : Inv m) (t : Bool) : ∃ m' t', roundR ((CCrn Try.prog).into 43 0) 60 (hX6 Try.prog) [5, 6, 7, 10, 11, 12] [5, 6, 7] [.slot 5] [.slot 5] (w3 m.mat t 0 1 2 2) = some (.normal, w3 m'.mat t' 0 1 2 3) ∧ Vx.Next m t m' t' (m.aa ≤ m.dot ⟨1, -1, 1⟩ ⟨1, -1, 1⟩) := by
  obtain ⟨r1, r2, r3⟩ := sn0 h t (x := -1) (y := 1) (by decide) (by decide)
  have hr : roundR ((CCrn Try.prog).into 43 0) 60 (hX6 Try.prog) [5, 6, 7, 10, 11, 12] [5, 6, 7] [.slot 5] [.slot 5] (w3 m.mat t 0 1 2 2) = (match decide ((ad02 (ad01 m.mat (-1)) (1)).a < m.aa) with
    | true => some (.normal, w3 (ad02 (ad01 m.mat (-1)) (1)) true 0 1 2 3)
    | false => some (.normal, w3 m.mat t 0 1 2 3)) := shX602 m.mat t
  rw [r1] at hr
  by_cases hl : ((m.turn (em01 (-1))).turn (em02 (1))).aa < m.aa
  · rw [show decide (((m.turn (em01 (-1))).turn (em02 (1))).mat.a < m.aa) = true from decide_eq_true hl] at hr
    exact ⟨((m.turn (em01 (-1))).turn (em02 (1))), true, hr, r2 hl⟩
  · rw [show decide (((m.turn (em01 (-1))).turn (em02 (1))).mat.a < m.aa) = false from decide_eq_false hl] at hr
    exact ⟨m, t, hr, r3 hl⟩
theorem sk03 {m : G6} (h : Inv m) (t : Bool) : ∃ m' t', roundR ((CCrn Try.prog).into 43 0) 60 (hX6 Try.prog) [5, 6, 7, 10, 11, 12] [5, 6, 7] [.slot 5] [.slot 5] (w3 m.mat t 0 1 2 3) = some (.normal, w3 m'.mat t' 0 1 2 4) ∧ Vx.Next m t m' t' (m.aa ≤ m.dot ⟨1, 1, 1⟩ ⟨1, 1, 1⟩) := by
  obtain ⟨r1, r2, r3⟩ := sn0 h t (x := 1) (y := 1) (by decide) (by decide)
  have hr : roundR ((CCrn Try.prog).into 43 0) 60 (hX6 Try.prog) [5, 6, 7, 10, 11, 12] [5, 6, 7] [.slot 5] [.slot 5] (w3 m.mat t 0 1 2 3) = (match decide ((ad02 (ad01 m.mat (1)) (1)).a < m.aa) with
    | true => some (.normal, w3 (ad02 (ad01 m.mat (1)) (1)) true 0 1 2 4)
    | false => some (.normal, w3 m.mat t 0 1 2 4)) := shX603 m.mat t
  rw [r1] at hr
  by_cases hl : ((m.turn (em01 (1))).turn (em02 (1))).aa < m.aa
  · rw [show decide (((m.turn (em01 (1))).turn (em02 (1))).mat.a < m.aa) = true from decide_eq_true hl] at hr
    exact ⟨((m.turn (em01 (1))).turn (em02 (1))), true, hr, r2 hl⟩
  · rw [show decide (((m.turn (em01 (1))).turn (em02 (1))).mat.a < m.aa) = false from decide_eq_false hl] at hr
    exact ⟨m, t, hr, r3 hl⟩
set_option maxRecDepth 100000 in
theorem shI0 {m0 m : G6} {t : Bool} {S : Prop} (hi : Inv m) (ha : Acc m0 m t S) : ∃ m' t', Inv m' ∧ Acc m0 m' t' ((((((S ∧ (-m0.bb ≤ 2 * m0.ab ∧ 2 * m0.ab ≤ m0.bb)) ∧ (-m0.cc ≤ 2 * m0.ac ∧ 2 * m0.ac ≤ m0.cc)) ∧ (m0.aa ≤ m0.dot ⟨1, -1, -1⟩ ⟨1, -1, -1⟩)) ∧ (m0.aa ≤ m0.dot ⟨1, 1, -1⟩ ⟨1, 1, -1⟩)) ∧ (m0.aa ≤ m0.dot ⟨1, -1, 1⟩ ⟨1, -1, 1⟩)) ∧ (m0.aa ≤ m0.dot ⟨1, 1, 1⟩ ⟨1, 1, 1⟩)) ∧ CodeSem Try.prog 0 (hY3 Try.prog) (w1 m.mat t 0) .normal (w1 m'.mat t' 0) := by
  obtain ⟨mj1, tj1, rj1, nj1⟩ := sj01 hi t
  have hj1 := nj1.inv hi
  have aj1 := ha.next (T := fun m => (-m.bb ≤ 2 * m.ab ∧ 2 * m.ab ≤ m.bb)) nj1
  obtain ⟨mj2, tj2, rj2, nj2⟩ := sj02 hj1 tj1
  have hj2 := nj2.inv hj1
  have aj2 := aj1.next (T := fun m => (-m.cc ≤ 2 * m.ac ∧ 2 * m.ac ≤ m.cc)) nj2
  have l4 : LoopSem Try.prog 0 (hX4 Try.prog) (w2 m.mat t 0 0) (.exit 4) (w1 mj2.mat tj2 0) :=
    loop_next (C := CCrn Try.prog) okCrn (f := 43) (B := 0) qX4 (shX400 m.mat t) (StLike.refl _) (loop_next (C := CCrn Try.prog) okCrn (f := 43) (B := 0) qX4 rj1 (StLike.refl _) (loop_next (C := CCrn Try.prog) okCrn (f := 43) (B := 0) qX4 rj2 (StLike.refl _) (loop_leave (C := CCrn Try.prog) okCrn (f := 43) (B := 0) qX4 (shX403 mj2.mat tj2) (by simp))))
  obtain ⟨mn0, tn0, rn0, nn0⟩ := sk00 hj2 tj2
  have hn0 := nn0.inv hj2
  have an0 := aj2.next (T := fun m => (m.aa ≤ m.dot ⟨1, -1, -1⟩ ⟨1, -1, -1⟩)) nn0
  obtain ⟨mn1, tn1, rn1, nn1⟩ := sk01 hn0 tn0
  have hn1 := nn1.inv hn0
  have an1 := an0.next (T := fun m => (m.aa ≤ m.dot ⟨1, 1, -1⟩ ⟨1, 1, -1⟩)) nn1
  obtain ⟨mn2, tn2, rn2, nn2⟩ := sk02 hn1 tn1
  have hn2 := nn2.inv hn1
  have an2 := an1.next (T := fun m => (m.aa ≤ m.dot ⟨1, -1, 1⟩ ⟨1, -1, 1⟩)) nn2
  obtain ⟨mn3, tn3, rn3, nn3⟩ := sk03 hn2 tn2
  have hn3 := nn3.inv hn2
  have an3 := an2.next (T := fun m => (m.aa ≤ m.dot ⟨1, 1, 1⟩ ⟨1, 1, 1⟩)) nn3
  have l6 : LoopSem Try.prog 0 (hX6 Try.prog) (w3 mj2.mat tj2 0 1 2 0) (.exit 6) (w1 mn3.mat tn3 0) :=
    loop_next (C := CCrn Try.prog) okCrn (f := 43) (B := 0) qX6 rn0 (StLike.refl _) (loop_next (C := CCrn Try.prog) okCrn (f := 43) (B := 0) qX6 rn1 (StLike.refl _) (loop_next (C := CCrn Try.prog) okCrn (f := 43) (B := 0) qX6 rn2 (StLike.refl _) (loop_next (C := CCrn Try.prog) okCrn (f := 43) (B := 0) qX6 rn3 (StLike.refl _) (loop_leave (C := CCrn Try.prog) okCrn (f := 43) (B := 0) qX6 (shX604 mn3.mat tn3) (by simp)))))
  refine ⟨mn3, tn3, hn3, an3, ?_⟩
  refine stmt_rule (k := 0) shHas.2.2.2.2.2 (for_rule shFor4 (end_rule' (C := CCrn Try.prog) okCrn (f := 43) (B := 0) (qForH (qStm qY3 0)) (shH40 m.mat t)) l4) ?_
  refine seg_rule (C := CCrn Try.prog) okCrn (f := 43) (B := 0) (k := 2) (qDrop qY3 1) (shJ0 mj2.mat tj2) ?_
  rw [seqDrop_drop]
  exact blk_rule shBlk6 l6
theorem shB0 {m m' : G6} {t t' : Bool} (h : CodeSem Try.prog 0 (hY3 Try.prog) (w1 m.mat t 0) .normal (w1 m'.mat t' 0)) : CodeSem Try.prog 0 (hX2 Try.prog) (w1 m.mat t 0) .normal (w1 m'.mat t' 1) := by
  have hb : CodeSem Try.prog 0 (stmt 1 (hX2 Try.prog)) (w1 m.mat t 0) .normal (w1 m'.mat t' 0) := by rw [shX2b]; exact CodeSem.blockN h
  exact stmt_rule (k := 0) shHas.2.2.2.1 (end_rule' (C := CCrn Try.prog) okCrn (f := 43) (B := 0) (qStm qX2 0) (shX2a0 m.mat t)) (stmt_rule shHas.2.2.2.2.1 hb (end_rule' (C := CCrn Try.prog) okCrn (f := 43) (B := 0) (qDrop qX2 2) (shX2c0 m'.mat t')))
theorem sj10 {m : G6} (h : Inv m) (t : Bool) : ∃ m' t', roundR ((CCrn Try.prog).into 43 0) 60 (hX4 Try.prog) [5, 6, 7, 8] [5, 6, 7] [.slot 5] [.slot 5] (w2 m.mat t 1 0) = some (.normal, w2 m'.mat t' 1 1) ∧ Vx.Next m t m' t' (-m.aa ≤ 2 * m.ab ∧ 2 * m.ab ≤ m.aa) := by
  obtain ⟨r1, r2, r3, r4, r5, r6, r7⟩ := st10 h t
  have hr : roundR ((CCrn Try.prog).into 43 0) 60 (hX4 Try.prog) [5, 6, 7, 8] [5, 6, 7] [.slot 5] [.slot 5] (w2 m.mat t 1 0) = gd (rdB m.ab m.aa) (match rnd m.ab m.aa != 0 with
    | true => match decide ((ad10 (ad10 m.mat (W (0 - rnd m.ab m.aa))) 0).e < m.bb) with
      | true => some (.normal, w2 (ad10 m.mat (W (0 - rnd m.ab m.aa))) true 1 1)
      | false => some (.normal, w2 m.mat t 1 1)
    | false => some (.normal, w2 m.mat t 1 1)) := shX410 m.mat t
  rw [r1, r2, r3, r4] at hr
  by_cases h0 : rnd m.ab m.aa = 0
  · rw [show (rnd m.ab m.aa != 0) = false by simpa using h0] at hr
    exact ⟨m, t, hr, r7 h0⟩
  · rw [show (rnd m.ab m.aa != 0) = true by simpa using h0] at hr
    by_cases hl : (m.turn (em10 (-(rnd m.ab m.aa)))).bb < m.bb
    · rw [show decide ((m.turn (em10 (-(rnd m.ab m.aa)))).mat.e < m.bb) = true from decide_eq_true hl] at hr
      exact ⟨(m.turn (em10 (-(rnd m.ab m.aa)))), true, hr, r5 hl⟩
    · rw [show decide ((m.turn (em10 (-(rnd m.ab m.aa)))).mat.e < m.bb) = false from decide_eq_false hl] at hr
      exact ⟨m, t, hr, r6 hl⟩
theorem sj12 {m : G6} (h : Inv m) (t : Bool) : ∃ m' t', roundR ((CCrn Try.prog).into 43 0) 60 (hX4 Try.prog) [5, 6, 7, 8] [5, 6, 7] [.slot 5] [.slot 5] (w2 m.mat t 1 2) = some (.normal, w2 m'.mat t' 1 3) ∧ Vx.Next m t m' t' (-m.cc ≤ 2 * m.bc ∧ 2 * m.bc ≤ m.cc) := by
  obtain ⟨r1, r2, r3, r4, r5, r6, r7⟩ := st12 h t
  have hr : roundR ((CCrn Try.prog).into 43 0) 60 (hX4 Try.prog) [5, 6, 7, 8] [5, 6, 7] [.slot 5] [.slot 5] (w2 m.mat t 1 2) = gd (rdB m.bc m.cc) (match rnd m.bc m.cc != 0 with
    | true => match decide ((ad12 (ad12 m.mat (W (0 - rnd m.bc m.cc))) 0).e < m.bb) with
      | true => some (.normal, w2 (ad12 m.mat (W (0 - rnd m.bc m.cc))) true 1 3)
      | false => some (.normal, w2 m.mat t 1 3)
    | false => some (.normal, w2 m.mat t 1 3)) := shX412 m.mat t
  rw [r1, r2, r3, r4] at hr
  by_cases h0 : rnd m.bc m.cc = 0
  · rw [show (rnd m.bc m.cc != 0) = false by simpa using h0] at hr
    exact ⟨m, t, hr, r7 h0⟩
  · rw [show (rnd m.bc m.cc != 0) = true by simpa using h0] at hr
    by_cases hl : (m.turn (em12 (-(rnd m.bc m.cc)))).bb < m.bb
    · rw [show decide ((m.turn (em12 (-(rnd m.bc m.cc)))).mat.e < m.bb) = true from decide_eq_true hl] at hr
      exact ⟨(m.turn (em12 (-(rnd m.bc m.cc)))), true, hr, r5 hl⟩
    · rw [show decide ((m.turn (em12 (-(rnd m.bc m.cc)))).mat.e < m.bb) = false from decide_eq_false hl] at hr
      exact ⟨m, t, hr, r6 hl⟩
theorem sk10 {m : G6} (h : Inv m) (t : Bool) : ∃ m' t', roundR ((CCrn Try.prog).into 43 0) 60 (hX6 Try.prog) [5, 6, 7, 10, 11, 12] [5, 6, 7] [.slot 5] [.slot 5] (w3 m.mat t 1 2 0 0) = some (.normal, w3 m'.mat t' 1 2 0 1) ∧ Vx.Next m t m' t' True := by
  obtain ⟨r1, r2, r3⟩ := sn1 h t (x := -1) (y := -1) (by decide) (by decide)
  have hr : roundR ((CCrn Try.prog).into 43 0) 60 (hX6 Try.prog) [5, 6, 7, 10, 11, 12] [5, 6, 7] [.slot 5] [.slot 5] (w3 m.mat t 1 2 0 0) = (match decide ((ad10 (ad12 m.mat (-1)) (-1)).e < m.bb) with
    | true => some (.normal, w3 (ad10 (ad12 m.mat (-1)) (-1)) true 1 2 0 1)
    | false => some (.normal, w3 m.mat t 1 2 0 1)) := shX610 m.mat t
  rw [r1] at hr
  by_cases hl : ((m.turn (em12 (-1))).turn (em10 (-1))).bb < m.bb
  · rw [show decide (((m.turn (em12 (-1))).turn (em10 (-1))).mat.e < m.bb) = true from decide_eq_true hl] at hr
    exact ⟨((m.turn (em12 (-1))).turn (em10 (-1))), true, hr, r2 hl⟩
  · rw [show decide (((m.turn (em12 (-1))).turn (em10 (-1))).mat.e < m.bb) = false from decide_eq_false hl] at hr
    exact ⟨m, t, hr, r3 hl⟩
theorem sk11 {m : G6} (h : Inv m) (t : Bool) : ∃ m' t', roundR ((CCrn Try.prog).into 43 0) 60 (hX6 Try.prog) [5, 6, 7, 10, 11, 12] [5, 6, 7] [.slot 5] [.slot 5] (w3 m.mat t 1 2 0 1) = some (.normal, w3 m'.mat t' 1 2 0 2) ∧ Vx.Next m t m' t' True := by
  obtain ⟨r1, r2, r3⟩ := sn1 h t (x := 1) (y := -1) (by decide) (by decide)
  have hr : roundR ((CCrn Try.prog).into 43 0) 60 (hX6 Try.prog) [5, 6, 7, 10, 11, 12] [5, 6, 7] [.slot 5] [.slot 5] (w3 m.mat t 1 2 0 1) = (match decide ((ad10 (ad12 m.mat (1)) (-1)).e < m.bb) with
    | true => some (.normal, w3 (ad10 (ad12 m.mat (1)) (-1)) true 1 2 0 2)
    | false => some (.normal, w3 m.mat t 1 2 0 2)) := shX611 m.mat t
  rw [r1] at hr
  by_cases hl : ((m.turn (em12 (1))).turn (em10 (-1))).bb < m.bb
  · rw [show decide (((m.turn (em12 (1))).turn (em10 (-1))).mat.e < m.bb) = true from decide_eq_true hl] at hr
    exact ⟨((m.turn (em12 (1))).turn (em10 (-1))), true, hr, r2 hl⟩
  · rw [show decide (((m.turn (em12 (1))).turn (em10 (-1))).mat.e < m.bb) = false from decide_eq_false hl] at hr
    exact ⟨m, t, hr, r3 hl⟩
theorem sk12 {m : G6} (h : Inv m) (t : Bool) : ∃ m' t', roundR ((CCrn Try.prog).into 43 0) 60 (hX6 Try.prog) [5, 6, 7, 10, 11, 12] [5, 6, 7] [.slot 5] [.slot 5] (w3 m.mat t 1 2 0 2) = some (.normal, w3 m'.mat t' 1 2 0 3) ∧ Vx.Next m t m' t' True := by
  obtain ⟨r1, r2, r3⟩ := sn1 h t (x := -1) (y := 1) (by decide) (by decide)
  have hr : roundR ((CCrn Try.prog).into 43 0) 60 (hX6 Try.prog) [5, 6, 7, 10, 11, 12] [5, 6, 7] [.slot 5] [.slot 5] (w3 m.mat t 1 2 0 2) = (match decide ((ad10 (ad12 m.mat (-1)) (1)).e < m.bb) with
    | true => some (.normal, w3 (ad10 (ad12 m.mat (-1)) (1)) true 1 2 0 3)
    | false => some (.normal, w3 m.mat t 1 2 0 3)) := shX612 m.mat t
  rw [r1] at hr
  by_cases hl : ((m.turn (em12 (-1))).turn (em10 (1))).bb < m.bb
  · rw [show decide (((m.turn (em12 (-1))).turn (em10 (1))).mat.e < m.bb) = true from decide_eq_true hl] at hr
    exact ⟨((m.turn (em12 (-1))).turn (em10 (1))), true, hr, r2 hl⟩
  · rw [show decide (((m.turn (em12 (-1))).turn (em10 (1))).mat.e < m.bb) = false from decide_eq_false hl] at hr
    exact ⟨m, t, hr, r3 hl⟩
theorem sk13 {m : G6} (h : Inv m) (t : Bool) : ∃ m' t', roundR ((CCrn Try.prog).into 43 0) 60 (hX6 Try.prog) [5, 6, 7, 10, 11, 12] [5, 6, 7] [.slot 5] [.slot 5] (w3 m.mat t 1 2 0 3) = some (.normal, w3 m'.mat t' 1 2 0 4) ∧ Vx.Next m t m' t' True := by
  obtain ⟨r1, r2, r3⟩ := sn1 h t (x := 1) (y := 1) (by decide) (by decide)
  have hr : roundR ((CCrn Try.prog).into 43 0) 60 (hX6 Try.prog) [5, 6, 7, 10, 11, 12] [5, 6, 7] [.slot 5] [.slot 5] (w3 m.mat t 1 2 0 3) = (match decide ((ad10 (ad12 m.mat (1)) (1)).e < m.bb) with
    | true => some (.normal, w3 (ad10 (ad12 m.mat (1)) (1)) true 1 2 0 4)
    | false => some (.normal, w3 m.mat t 1 2 0 4)) := shX613 m.mat t
  rw [r1] at hr
  by_cases hl : ((m.turn (em12 (1))).turn (em10 (1))).bb < m.bb
  · rw [show decide (((m.turn (em12 (1))).turn (em10 (1))).mat.e < m.bb) = true from decide_eq_true hl] at hr
    exact ⟨((m.turn (em12 (1))).turn (em10 (1))), true, hr, r2 hl⟩
  · rw [show decide (((m.turn (em12 (1))).turn (em10 (1))).mat.e < m.bb) = false from decide_eq_false hl] at hr
    exact ⟨m, t, hr, r3 hl⟩
set_option maxRecDepth 100000 in
theorem shI1 {m0 m : G6} {t : Bool} {S : Prop} (hi : Inv m) (ha : Acc m0 m t S) : ∃ m' t', Inv m' ∧ Acc m0 m' t' ((((((S ∧ (-m0.aa ≤ 2 * m0.ab ∧ 2 * m0.ab ≤ m0.aa)) ∧ (-m0.cc ≤ 2 * m0.bc ∧ 2 * m0.bc ≤ m0.cc)) ∧ True) ∧ True) ∧ True) ∧ True) ∧ CodeSem Try.prog 0 (hY3 Try.prog) (w1 m.mat t 1) .normal (w1 m'.mat t' 1) := by
  obtain ⟨mj0, tj0, rj0, nj0⟩ := sj10 hi t
  have hj0 := nj0.inv hi
  have aj0 := ha.next (T := fun m => (-m.aa ≤ 2 * m.ab ∧ 2 * m.ab ≤ m.aa)) nj0
  obtain ⟨mj2, tj2, rj2, nj2⟩ := sj12 hj0 tj0
  have hj2 := nj2.inv hj0
  have aj2 := aj0.next (T := fun m => (-m.cc ≤ 2 * m.bc ∧ 2 * m.bc ≤ m.cc)) nj2
  have l4 : LoopSem Try.prog 0 (hX4 Try.prog) (w2 m.mat t 1 0) (.exit 4) (w1 mj2.mat tj2 1) :=
    loop_next (C := CCrn Try.prog) okCrn (f := 43) (B := 0) qX4 rj0 (StLike.refl _) (loop_next (C := CCrn Try.prog) okCrn (f := 43) (B := 0) qX4 (shX411 mj0.mat tj0) (StLike.refl _) (loop_next (C := CCrn Try.prog) okCrn (f := 43) (B := 0) qX4 rj2 (StLike.refl _) (loop_leave (C := CCrn Try.prog) okCrn (f := 43) (B := 0) qX4 (shX413 mj2.mat tj2) (by simp))))
  obtain ⟨mn0, tn0, rn0, nn0⟩ := sk10 hj2 tj2
  have hn0 := nn0.inv hj2
  have an0 := aj2.next (T := fun _ => True) nn0
  obtain ⟨mn1, tn1, rn1, nn1⟩ := sk11 hn0 tn0
  have hn1 := nn1.inv hn0
  have an1 := an0.next (T := fun _ => True) nn1
  obtain ⟨mn2, tn2, rn2, nn2⟩ := sk12 hn1 tn1
  have hn2 := nn2.inv hn1
  have an2 := an1.next (T := fun _ => True) nn2
  obtain ⟨mn3, tn3, rn3, nn3⟩ := sk13 hn2 tn2
  have hn3 := nn3.inv hn2
  have an3 := an2.next (T := fun _ => True) nn3
  have l6 : LoopSem Try.prog 0 (hX6 Try.prog) (w3 mj2.mat tj2 1 2 0 0) (.exit 6) (w1 mn3.mat tn3 1) :=
    loop_next (C := CCrn Try.prog) okCrn (f := 43) (B := 0) qX6 rn0 (StLike.refl _) (loop_next (C := CCrn Try.prog) okCrn (f := 43) (B := 0) qX6 rn1 (StLike.refl _) (loop_next (C := CCrn Try.prog) okCrn (f := 43) (B := 0) qX6 rn2 (StLike.refl _) (loop_next (C := CCrn Try.prog) okCrn (f := 43) (B := 0) qX6 rn3 (StLike.refl _) (loop_leave (C := CCrn Try.prog) okCrn (f := 43) (B := 0) qX6 (shX614 mn3.mat tn3) (by simp)))))
  refine ⟨mn3, tn3, hn3, an3, ?_⟩
  refine stmt_rule (k := 0) shHas.2.2.2.2.2 (for_rule shFor4 (end_rule' (C := CCrn Try.prog) okCrn (f := 43) (B := 0) (qForH (qStm qY3 0)) (shH41 m.mat t)) l4) ?_
  refine seg_rule (C := CCrn Try.prog) okCrn (f := 43) (B := 0) (k := 2) (qDrop qY3 1) (shJ1 mj2.mat tj2) ?_
  rw [seqDrop_drop]
  exact blk_rule shBlk6 l6
theorem shB1 {m m' : G6} {t t' : Bool} (h : CodeSem Try.prog 0 (hY3 Try.prog) (w1 m.mat t 1) .normal (w1 m'.mat t' 1)) : CodeSem Try.prog 0 (hX2 Try.prog) (w1 m.mat t 1) .normal (w1 m'.mat t' 2) := by
  have hb : CodeSem Try.prog 0 (stmt 1 (hX2 Try.prog)) (w1 m.mat t 1) .normal (w1 m'.mat t' 1) := by rw [shX2b]; exact CodeSem.blockN h
  exact stmt_rule (k := 0) shHas.2.2.2.1 (end_rule' (C := CCrn Try.prog) okCrn (f := 43) (B := 0) (qStm qX2 0) (shX2a1 m.mat t)) (stmt_rule shHas.2.2.2.2.1 hb (end_rule' (C := CCrn Try.prog) okCrn (f := 43) (B := 0) (qDrop qX2 2) (shX2c1 m'.mat t')))
theorem sj20 {m : G6} (h : Inv m) (t : Bool) : ∃ m' t', roundR ((CCrn Try.prog).into 43 0) 60 (hX4 Try.prog) [5, 6, 7, 8] [5, 6, 7] [.slot 5] [.slot 5] (w2 m.mat t 2 0) = some (.normal, w2 m'.mat t' 2 1) ∧ Vx.Next m t m' t' (-m.aa ≤ 2 * m.ac ∧ 2 * m.ac ≤ m.aa) := by
  obtain ⟨r1, r2, r3, r4, r5, r6, r7⟩ := st20 h t
  have hr : roundR ((CCrn Try.prog).into 43 0) 60 (hX4 Try.prog) [5, 6, 7, 8] [5, 6, 7] [.slot 5] [.slot 5] (w2 m.mat t 2 0) = gd (rdB m.ac m.aa) (match rnd m.ac m.aa != 0 with
    | true => match decide ((ad20 (ad20 m.mat (W (0 - rnd m.ac m.aa))) 0).i < m.cc) with
      | true => some (.normal, w2 (ad20 m.mat (W (0 - rnd m.ac m.aa))) true 2 1)
      | false => some (.normal, w2 m.mat t 2 1)
    | false => some (.normal, w2 m.mat t 2 1)) := shX420 m.mat t
  rw [r1, r2, r3, r4] at hr
  by_cases h0 : rnd m.ac m.aa = 0
  · rw [show (rnd m.ac m.aa != 0) = false by simpa using h0] at hr
    exact ⟨m, t, hr, r7 h0⟩
  · rw [show (rnd m.ac m.aa != 0) = true by simpa using h0] at hr
    by_cases hl : (m.turn (em20 (-(rnd m.ac m.aa)))).cc < m.cc
    · rw [show decide ((m.turn (em20 (-(rnd m.ac m.aa)))).mat.i < m.cc) = true from decide_eq_true hl] at hr
      exact ⟨(m.turn (em20 (-(rnd m.ac m.aa)))), true, hr, r5 hl⟩
    · rw [show decide ((m.turn (em20 (-(rnd m.ac m.aa)))).mat.i < m.cc) = false from decide_eq_false hl] at hr
      exact ⟨m, t, hr, r6 hl⟩
theorem sj21 {m : G6} (h : Inv m) (t : Bool) : ∃ m' t', roundR ((CCrn Try.prog).into 43 0) 60 (hX4 Try.prog) [5, 6, 7, 8] [5, 6, 7] [.slot 5] [.slot 5] (w2 m.mat t 2 1) = some (.normal, w2 m'.mat t' 2 2) ∧ Vx.Next m t m' t' (-m.bb ≤ 2 * m.bc ∧ 2 * m.bc ≤ m.bb) := by
  obtain ⟨r1, r2, r3, r4, r5, r6, r7⟩ := st21 h t
  have hr : roundR ((CCrn Try.prog).into 43 0) 60 (hX4 Try.prog) [5, 6, 7, 8] [5, 6, 7] [.slot 5] [.slot 5] (w2 m.mat t 2 1) = gd (rdB m.bc m.bb) (match rnd m.bc m.bb != 0 with
    | true => match decide ((ad21 (ad21 m.mat (W (0 - rnd m.bc m.bb))) 0).i < m.cc) with
      | true => some (.normal, w2 (ad21 m.mat (W (0 - rnd m.bc m.bb))) true 2 2)
      | false => some (.normal, w2 m.mat t 2 2)
    | false => some (.normal, w2 m.mat t 2 2)) := shX421 m.mat t
  rw [r1, r2, r3, r4] at hr
  by_cases h0 : rnd m.bc m.bb = 0
  · rw [show (rnd m.bc m.bb != 0) = false by simpa using h0] at hr
    exact ⟨m, t, hr, r7 h0⟩
  · rw [show (rnd m.bc m.bb != 0) = true by simpa using h0] at hr
    by_cases hl : (m.turn (em21 (-(rnd m.bc m.bb)))).cc < m.cc
    · rw [show decide ((m.turn (em21 (-(rnd m.bc m.bb)))).mat.i < m.cc) = true from decide_eq_true hl] at hr
      exact ⟨(m.turn (em21 (-(rnd m.bc m.bb)))), true, hr, r5 hl⟩
    · rw [show decide ((m.turn (em21 (-(rnd m.bc m.bb)))).mat.i < m.cc) = false from decide_eq_false hl] at hr
      exact ⟨m, t, hr, r6 hl⟩
theorem sk20 {m : G6} (h : Inv m) (t : Bool) : ∃ m' t', roundR ((CCrn Try.prog).into 43 0) 60 (hX6 Try.prog) [5, 6, 7, 10, 11, 12] [5, 6, 7] [.slot 5] [.slot 5] (w3 m.mat t 2 0 1 0) = some (.normal, w3 m'.mat t' 2 0 1 1) ∧ Vx.Next m t m' t' True := by
  obtain ⟨r1, r2, r3⟩ := sn2 h t (x := -1) (y := -1) (by decide) (by decide)
  have hr : roundR ((CCrn Try.prog).into 43 0) 60 (hX6 Try.prog) [5, 6, 7, 10, 11, 12] [5, 6, 7] [.slot 5] [.slot 5] (w3 m.mat t 2 0 1 0) = (match decide ((ad21 (ad20 m.mat (-1)) (-1)).i < m.cc) with
    | true => some (.normal, w3 (ad21 (ad20 m.mat (-1)) (-1)) true 2 0 1 1)
    | false => some (.normal, w3 m.mat t 2 0 1 1)) := shX620 m.mat t
  rw [r1] at hr
  by_cases hl : ((m.turn (em20 (-1))).turn (em21 (-1))).cc < m.cc
  · rw [show decide (((m.turn (em20 (-1))).turn (em21 (-1))).mat.i < m.cc) = true from decide_eq_true hl] at hr
    exact ⟨((m.turn (em20 (-1))).turn (em21 (-1))), true, hr, r2 hl⟩
  · rw [show decide (((m.turn (em20 (-1))).turn (em21 (-1))).mat.i < m.cc) = false from decide_eq_false hl] at hr
    exact ⟨m, t, hr, r3 hl⟩
theorem sk21 {m : G6} (h : Inv m) (t : Bool) : ∃ m' t', roundR ((CCrn Try.prog).into 43 0) 60 (hX6 Try.prog) [5, 6, 7, 10, 11, 12] [5, 6, 7] [.slot 5] [.slot 5] (w3 m.mat t 2 0 1 1) = some (.normal, w3 m'.mat t' 2 0 1 2) ∧ Vx.Next m t m' t' True := by
  obtain ⟨r1, r2, r3⟩ := sn2 h t (x := 1) (y := -1) (by decide) (by decide)
  have hr : roundR ((CCrn Try.prog).into 43 0) 60 (hX6 Try.prog) [5, 6, 7, 10, 11, 12] [5, 6, 7] [.slot 5] [.slot 5] (w3 m.mat t 2 0 1 1) = (match decide ((ad21 (ad20 m.mat (1)) (-1)).i < m.cc) with
    | true => some (.normal, w3 (ad21 (ad20 m.mat (1)) (-1)) true 2 0 1 2)
    | false => some (.normal, w3 m.mat t 2 0 1 2)) := shX621 m.mat t
  rw [r1] at hr
  by_cases hl : ((m.turn (em20 (1))).turn (em21 (-1))).cc < m.cc
  · rw [show decide (((m.turn (em20 (1))).turn (em21 (-1))).mat.i < m.cc) = true from decide_eq_true hl] at hr
    exact ⟨((m.turn (em20 (1))).turn (em21 (-1))), true, hr, r2 hl⟩
  · rw [show decide (((m.turn (em20 (1))).turn (em21 (-1))).mat.i < m.cc) = false from decide_eq_false hl] at hr
    exact ⟨m, t, hr, r3 hl⟩
theorem sk22 {m : G6} (h : Inv m) (t : Bool) : ∃ m' t', roundR ((CCrn Try.prog).into 43 0) 60 (hX6 Try.prog) [5, 6, 7, 10, 11, 12] [5, 6, 7] [.slot 5] [.slot 5] (w3 m.mat t 2 0 1 2) = some (.normal, w3 m'.mat t' 2 0 1 3) ∧ Vx.Next m t m' t' True := by
  obtain ⟨r1, r2, r3⟩ := sn2 h t (x := -1) (y := 1) (by decide) (by decide)
  have hr : roundR ((CCrn Try.prog).into 43 0) 60 (hX6 Try.prog) [5, 6, 7, 10, 11, 12] [5, 6, 7] [.slot 5] [.slot 5] (w3 m.mat t 2 0 1 2) = (match decide ((ad21 (ad20 m.mat (-1)) (1)).i < m.cc) with
    | true => some (.normal, w3 (ad21 (ad20 m.mat (-1)) (1)) true 2 0 1 3)
    | false => some (.normal, w3 m.mat t 2 0 1 3)) := shX622 m.mat t
  rw [r1] at hr
  by_cases hl : ((m.turn (em20 (-1))).turn (em21 (1))).cc < m.cc
  · rw [show decide (((m.turn (em20 (-1))).turn (em21 (1))).mat.i < m.cc) = true from decide_eq_true hl] at hr
    exact ⟨((m.turn (em20 (-1))).turn (em21 (1))), true, hr, r2 hl⟩
  · rw [show decide (((m.turn (em20 (-1))).turn (em21 (1))).mat.i < m.cc) = false from decide_eq_false hl] at hr
    exact ⟨m, t, hr, r3 hl⟩
theorem sk23 {m : G6} (h : Inv m) (t : Bool) : ∃ m' t', roundR ((CCrn Try.prog).into 43 0) 60 (hX6 Try.prog) [5, 6, 7, 10, 11, 12] [5, 6, 7] [.slot 5] [.slot 5] (w3 m.mat t 2 0 1 3) = some (.normal, w3 m'.mat t' 2 0 1 4) ∧ Vx.Next m t m' t' True := by
  obtain ⟨r1, r2, r3⟩ := sn2 h t (x := 1) (y := 1) (by decide) (by decide)
  have hr : roundR ((CCrn Try.prog).into 43 0) 60 (hX6 Try.prog) [5, 6, 7, 10, 11, 12] [5, 6, 7] [.slot 5] [.slot 5] (w3 m.mat t 2 0 1 3) = (match decide ((ad21 (ad20 m.mat (1)) (1)).i < m.cc) with
    | true => some (.normal, w3 (ad21 (ad20 m.mat (1)) (1)) true 2 0 1 4)
    | false => some (.normal, w3 m.mat t 2 0 1 4)) := shX623 m.mat t
  rw [r1] at hr
  by_cases hl : ((m.turn (em20 (1))).turn (em21 (1))).cc < m.cc
  · rw [show decide (((m.turn (em20 (1))).turn (em21 (1))).mat.i < m.cc) = true from decide_eq_true hl] at hr
    exact ⟨((m.turn (em20 (1))).turn (em21 (1))), true, hr, r2 hl⟩
  · rw [show decide (((m.turn (em20 (1))).turn (em21 (1))).mat.i < m.cc) = false from decide_eq_false hl] at hr
    exact ⟨m, t, hr, r3 hl⟩
set_option maxRecDepth 100000 in
theorem shI2 {m0 m : G6} {t : Bool} {S : Prop} (hi : Inv m) (ha : Acc m0 m t S) : ∃ m' t', Inv m' ∧ Acc m0 m' t' ((((((S ∧ (-m0.aa ≤ 2 * m0.ac ∧ 2 * m0.ac ≤ m0.aa)) ∧ (-m0.bb ≤ 2 * m0.bc ∧ 2 * m0.bc ≤ m0.bb)) ∧ True) ∧ True) ∧ True) ∧ True) ∧ CodeSem Try.prog 0 (hY3 Try.prog) (w1 m.mat t 2) .normal (w1 m'.mat t' 2) := by
  obtain ⟨mj0, tj0, rj0, nj0⟩ := sj20 hi t
  have hj0 := nj0.inv hi
  have aj0 := ha.next (T := fun m => (-m.aa ≤ 2 * m.ac ∧ 2 * m.ac ≤ m.aa)) nj0
  obtain ⟨mj1, tj1, rj1, nj1⟩ := sj21 hj0 tj0
  have hj1 := nj1.inv hj0
  have aj1 := aj0.next (T := fun m => (-m.bb ≤ 2 * m.bc ∧ 2 * m.bc ≤ m.bb)) nj1
  have l4 : LoopSem Try.prog 0 (hX4 Try.prog) (w2 m.mat t 2 0) (.exit 4) (w1 mj1.mat tj1 2) :=
    loop_next (C := CCrn Try.prog) okCrn (f := 43) (B := 0) qX4 rj0 (StLike.refl _) (loop_next (C := CCrn Try.prog) okCrn (f := 43) (B := 0) qX4 rj1 (StLike.refl _) (loop_next (C := CCrn Try.prog) okCrn (f := 43) (B := 0) qX4 (shX422 mj1.mat tj1) (StLike.refl _) (loop_leave (C := CCrn Try.prog) okCrn (f := 43) (B := 0) qX4 (shX423 mj1.mat tj1) (by simp))))
  obtain ⟨mn0, tn0, rn0, nn0⟩ := sk20 hj1 tj1
  have hn0 := nn0.inv hj1
  have an0 := aj1.next (T := fun _ => True) nn0
  obtain ⟨mn1, tn1, rn1, nn1⟩ := sk21 hn0 tn0
  have hn1 := nn1.inv hn0
  have an1 := an0.next (T := fun _ => True) nn1
  obtain ⟨mn2, tn2, rn2, nn2⟩ := sk22 hn1 tn1
  have hn2 := nn2.inv hn1
  have an2 := an1.next (T := fun _ => True) nn2
  obtain ⟨mn3, tn3, rn3, nn3⟩ := sk23 hn2 tn2
  have hn3 := nn3.inv hn2
  have an3 := an2.next (T := fun _ => True) nn3
  have l6 : LoopSem Try.prog 0 (hX6 Try.prog) (w3 mj1.mat tj1 2 0 1 0) (.exit 6) (w1 mn3.mat tn3 2) :=
    loop_next (C := CCrn Try.prog) okCrn (f := 43) (B := 0) qX6 rn0 (StLike.refl _) (loop_next (C := CCrn Try.prog) okCrn (f := 43) (B := 0) qX6 rn1 (StLike.refl _) (loop_next (C := CCrn Try.prog) okCrn (f := 43) (B := 0) qX6 rn2 (StLike.refl _) (loop_next (C := CCrn Try.prog) okCrn (f := 43) (B := 0) qX6 rn3 (StLike.refl _) (loop_leave (C := CCrn Try.prog) okCrn (f := 43) (B := 0) qX6 (shX624 mn3.mat tn3) (by simp)))))
  refine ⟨mn3, tn3, hn3, an3, ?_⟩
  refine stmt_rule (k := 0) shHas.2.2.2.2.2 (for_rule shFor4 (end_rule' (C := CCrn Try.prog) okCrn (f := 43) (B := 0) (qForH (qStm qY3 0)) (shH42 m.mat t)) l4) ?_
  refine seg_rule (C := CCrn Try.prog) okCrn (f := 43) (B := 0) (k := 2) (qDrop qY3 1) (shJ2 mj1.mat tj1) ?_
  rw [seqDrop_drop]
  exact blk_rule shBlk6 l6
theorem shB2 {m m' : G6} {t t' : Bool} (h : CodeSem Try.prog 0 (hY3 Try.prog) (w1 m.mat t 2) .normal (w1 m'.mat t' 2)) : CodeSem Try.prog 0 (hX2 Try.prog) (w1 m.mat t 2) .normal (w1 m'.mat t' 3) := by
  have hb : CodeSem Try.prog 0 (stmt 1 (hX2 Try.prog)) (w1 m.mat t 2) .normal (w1 m'.mat t' 2) := by rw [shX2b]; exact CodeSem.blockN h
  exact stmt_rule (k := 0) shHas.2.2.2.1 (end_rule' (C := CCrn Try.prog) okCrn (f := 43) (B := 0) (qStm qX2 0) (shX2a2 m.mat t)) (stmt_rule shHas.2.2.2.2.1 hb (end_rule' (C := CCrn Try.prog) okCrn (f := 43) (B := 0) (qDrop qX2 2) (shX2c2 m'.mat t')))
set_option maxRecDepth 100000 in
theorem shPass {m : G6} (t : Bool) (hi : Inv m) : ∃ m' t', Inv m' ∧ Acc m m' t' (Rdc m) ∧ CodeSem Try.prog 0 (hZ1 Try.prog) (w0 m.mat t) .normal (w0 m'.mat t') := by
  have a0 : Acc m m false True := Or.inl ⟨rfl, rfl, trivial⟩
  obtain ⟨m1, t1, h1, a1, c1⟩ := shI0 hi a0
  obtain ⟨m2, t2, h2, a2, c2⟩ := shI1 h1 a1
  obtain ⟨m3, t3, h3, a3, c3⟩ := shI2 h2 a2
  refine ⟨m3, t3, h3, ?_, ?_⟩
  · rcases a3 with ⟨e1, e2, hS⟩ | h
    · refine Or.inl ⟨e1, e2, ?_⟩
      obtain ⟨⟨⟨⟨⟨⟨⟨⟨⟨⟨⟨⟨⟨⟨⟨⟨⟨⟨_, q01⟩, q02⟩, p0⟩, p1⟩, p2⟩, p3⟩, q10⟩, q12⟩, _⟩, _⟩, _⟩, _⟩, q20⟩, q21⟩, _⟩, _⟩, _⟩, _⟩ := hS
      exact rdc_of q01 q02 q10 q12 q20 q21 p0 p1 p2 p3
    · exact Or.inr h
  · have l2 : LoopSem Try.prog 0 (hX2 Try.prog) (w1 m.mat false 0) (.exit 2) (w0 m3.mat t3) :=
      q_nextC (shB0 c1) (q_nextC (shB1 c2) (q_nextC (shB2 c3) (q_leaveC (stmt_out (k := 0) shHas.2.2.2.1 (end_rule' (C := CCrn Try.prog) okCrn (f := 43) (B := 0) (qStm qX2 0) (shX2e m3.mat t3)) (by simp)) (by simp))))
    refine seg_rule (C := CCrn Try.prog) okCrn (f := 43) (B := 0) (k := 2) qZ1 (shZ1 m.mat t) ?_
    exact blk_rule shBlk2 l2
theorem shLeave (m : G6) : LoopSem Try.prog 0 (hX0 Try.prog) (w0 m.mat false) (.exit 0) (s0 m.mat) :=
  q_leaveC (stmt_out (k := 0) shHas.2.2.1 (end_rule' (C := CCrn Try.prog) okCrn (f := 43) (B := 0) (qStm qX0 0) (shX0a m.mat false)) (by simp)) (by simp)
theorem shW : ∀ (k : Nat) (m : G6), Inv m → m.tr ≤ (k : Int) → ∃ m', Inv m' ∧ Red m m' ∧ Rdc m' ∧ LoopSem Try.prog 0 (hX0 Try.prog) (w0 m.mat true) (.exit 0) (s0 m'.mat) := by
  intro k
  induction k with
  | zero =>
    intro m hi hk
    have := hi.bd
    unfold G6.tr at hk
    omega
  | succ k ih =>
    intro m hi hk
    obtain ⟨m1, t1, h1, a1, c1⟩ := shPass true hi
    have body : CodeSem Try.prog 0 (hX0 Try.prog) (w0 m.mat true) .normal (w0 m1.mat t1) := by
      have hb : CodeSem Try.prog 0 (seqDrop 1 (hX0 Try.prog)) (w0 m.mat true) .normal (w0 m1.mat t1) := by rw [shX0b]; exact CodeSem.blockN c1
      exact stmt_rule (k := 0) (c := hX0 Try.prog) shHas.2.2.1 (end_rule' (C := CCrn Try.prog) okCrn (f := 43) (B := 0) (qStm qX0 0) (shX0a m.mat true)) hb
    rcases a1 with ⟨rfl, rfl, hS⟩ | ⟨rfl, hr, ht⟩
    · exact ⟨m1, h1, Red.refl _, hS, q_nextC body (shLeave m1)⟩
    · obtain ⟨m2, h2, r2, d2, l2⟩ := ih m1 h1 (by omega)
      exact ⟨m2, h2, hr.trans r2, d2, q_nextC body l2⟩
set_option maxRecDepth 100000 in
theorem shS (m : G6) : PlainSem Try.prog 43 [m.v] (fShortest m) := by
  have body : CodeSem Try.prog 0 (shB Try.prog) (enter Try.f43 [m.v] []) .ret (sR (shN m) m.mck) := by
    refine seg_rule (C := CCrn Try.prog) okCrn (f := 43) (B := 0) (k := 1) qIn (shE0 m) ?_
    have e1 := shE1 m
    by_cases h : m.mck = 0
    · obtain ⟨hb, hp, _⟩ := G6.mck_zero h
      rw [show (m.mck != 0) = false by rw [h]; rfl] at e1
      refine stmt_rule shHas.1 (end_rule' (C := CCrn Try.prog) okCrn (f := 43) (B := 0) (qStm qIn 1) e1) ?_
      refine seg_rule (C := CCrn Try.prog) okCrn (f := 43) (B := 0) (k := 1) (qDrop qIn 2) (shE2 m) ?_
      rw [seqDrop_drop]
      have hi : Inv m := ⟨hp, by unfold G6.Bd at hb; unfold G6.tr; omega⟩
      obtain ⟨m', h', ⟨p, hu, hm'⟩, hd, hl⟩ := shW m.tr.toNat m hi (by have := hi.bd; unfold G6.tr; omega)
      have ev : shN m = min2I (min2I m'.aa m'.bb) m'.cc := by
        refine G6.Short.unique (m := m) (short_of h) (G6.Short.back hu ?_)
        rw [← hm']
        exact rdc_short hd h'.pos
      rw [ev, h]
      exact stmt_rule shHas.2.1 (for_rule shFor (end_rule' (C := CCrn Try.prog) okCrn (f := 43) (B := 0) (qForH (qStm qIn 3)) (shHead m.mat)) hl) (end_rule' (C := CCrn Try.prog) okCrn (f := 43) (B := 0) (qDrop qIn 4) (shEnd m'.mat))
    · rw [show (m.mck != 0) = true from (bif_beq h).2] at e1
      have ev : shN m = 0 := by unfold shN; rw [(bif_beq h).1]; rfl
      rw [ev]
      exact stmt_out shHas.1 (end_rule' (C := CCrn Try.prog) okCrn (f := 43) (B := 0) (qStm qIn 1) e1) (by simp)
  have hm : MemSem Try.prog 43 [m.v] [] (fShortest m) [] := body_mem (f := 43) Try.func43 shB_eq (by kernel_rfl) body (shRet _ _)
  exact hm.plain (by intro x hx; simp only [List.mem_cons, List.not_mem_nil, or_false] at hx; rcases hx with rfl; rfl) rfl
def shF : List Int → Option (Bool × Value)
  | [a, b, c, d, e, f] => some (true, fShortest ⟨a, b, c, d, e, f⟩)
  | _ => none
def CCsh (P : Program) : Cx := (CCrn P).addD 43 [some 6] shF
theorem okCsh : CxOk (CCsh Try.prog) := Cx.addP_ok okCrn fun args v _ h _ => by
  split at h
  · rename_i l hu
    obtain ⟨rfl, hl⟩ := unpack_spec _ _ _ hu
    match l, hl, h with
    | [a, b, c, d, e, f], _, h =>
      simp only [shF, Option.some.injEq, Prod.mk.injEq, true_and] at h
      subst h
      exact shS _
  · cases h
def tReduceObtuses (m : G6) : Option Value := andO [(obG m).eqB (obG m), (obP m).eqB (obP m), obN m == obN m, m.mck == m.mck, shN m == shN m, m.mck == m.mck]
theorem tReduceObtuses_true (m : G6) : tReduceObtuses m = some (.bool true) := andO_eq _ (by simp [G6.eqB_refl, M3.eqB_refl])
end Go.Proofs.Ytofblakbfmjgkaa
