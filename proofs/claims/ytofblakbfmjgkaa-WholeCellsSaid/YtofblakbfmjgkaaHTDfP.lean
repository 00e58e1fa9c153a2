/-
  The document's Far told. Nothing here is trusted.
-/
import Derived.Test.YtofblakbfmjgkaaHTDf
namespace Go.Proofs.Ytofblakbfmjgkaa
open Go Vx Go.RowKit
theorem inDrop {C : Cx} {c : Code} (h : InBody C c) (k : Nat) : InBody C (seqDrop k c) := h.sub (seqDrop_loops k c)
theorem inStm {C : Cx} {c : Code} (h : InBody C c) (k : Nat) : InBody C (stmt k c) := h.sub fun x hx => by
  refine seqDrop_loops k c x ?_
  unfold stmt at hx
  cases hc : seqDrop k c with
  | seq p q => rw [hc] at hx; simp only at hx; simp [loopsIn, hx]
  | _ => rw [hc] at hx; simp [loopsIn] at hx
theorem inForH {C : Cx} {c : Code} (h : InBody C c) : InBody C (forHead c) := h.sub fun x hx => by
  unfold forHead at hx
  split at hx
  · simp [loopsIn, hx]
  · simp [loopsIn] at hx
theorem inForB {C : Cx} {c : Code} (h : InBody C c) : InBody C (forBody c) := h.sub fun x hx => by
  unfold forBody at hx
  split at hx
  · simp [loopsIn, hx]
  · simp [loopsIn] at hx
theorem inBlkB {C : Cx} {c : Code} (h : InBody C c) : InBody C (blkBody c) := h.sub fun x hx => by
  unfold blkBody at hx
  split at hx
  · simp [loopsIn, hx]
  · simp [loopsIn] at hx
theorem loop_nextC {P : Program} {B : Nat} {x : Code} {st s2 s3 : St} {e : Exit} (h : CodeSem P B x st .normal s2) (hn : LoopSem P B x s2 e s3) : LoopSem P B x st e s3 := by
  intro Q w0 keep r0 a w hB hQ hr
  refine LoopsTo.round (h _ w0 keep r0 a w hB ?_ hr)
  intro a' w' hr'
  exact hn Q w0 keep r0 a' w' hB hQ hr'
theorem loop_leaveC {P : Program} {B : Nat} {x : Code} {st s : St} {e : Exit} (h : CodeSem P B x st e s) (he : e ≠ .normal) : LoopSem P B x st e s := by
  intro Q w0 keep r0 a w hB hQ hr
  refine LoopsTo.round (h _ w0 keep r0 a w hB ?_ hr)
  intro a' w' hr'
  revert he hQ hr'
  cases e <;> intro he hQ hr' <;> first | exact absurd rfl he | exact hQ a' w' hr'
set_option maxRecDepth 100000 in
theorem dfIn : InBody ((CCfc Try.prog).into 29 0) (dfB Try.prog) := bodyOf_in (C := CCfc Try.prog) (f := 29) (B := 0) (k := 0) (fn := Try.f29) (b := dfB Try.prog) Try.func29 dfB_eq
theorem inX0 : InBody ((CCfc Try.prog).into 29 0) (dX0 Try.prog) := inForB (inStm dfIn 5)
theorem inY1 : InBody ((CCfc Try.prog).into 29 0) (dY1 Try.prog) := (inStm inX0 1).left
theorem inX2 : InBody ((CCfc Try.prog).into 29 0) (dX2 Try.prog) := inBlkB (inDrop inY1 2)
theorem inY3 : InBody ((CCfc Try.prog).into 29 0) (dY3 Try.prog) := (inStm inX2 1).left
theorem inX4 : InBody ((CCfc Try.prog).into 29 0) (dX4 Try.prog) := inBlkB (inDrop inY3 2)
theorem rng_M {M : Int} (h : modB M = true) : 0 < M ∧ M ≤ 1000 := modB_iff.1 h
theorem dfL4 (m : G6) (p d : P3) (hM : modB p.m = true) (x y : Int) : ∀ (k : Nat) (z b : Int), k = (p.m + 1 - z).toNat → -p.m ≤ z → LoopSem Try.prog 0 (dX4 Try.prog) (df3 m p d b x y z) (.exit 4) (df2 m p d (docZ (docIn (dW m) x y) p.m d.x.z k z b) x y) := by
  intro k
  obtain ⟨m0, m1⟩ := rng_M hM
  induction k with
  | zero =>
    intro z b hk hz
    have hr := dfX4 m p d b x y z
    rw [decide_eq_false (show ¬ z ≤ p.m by omega)] at hr
    exact loop_leave (C := CCfc Try.prog) okCfc (f := 29) (B := 0) inX4 hr (by simp)
  | succ k ih =>
    intro z b hk hz
    have hr := dfX4 m p d b x y z
    rw [decide_eq_true (show z ≤ p.m by omega), hM, W_in (n := z + 1) (by omega)] at hr
    have nx : ∀ b', LoopSem Try.prog 0 (dX4 Try.prog) (df3 m p d b' x y (z + 1)) (.exit 4) (df2 m p d (docZ (docIn (dW m) x y) p.m d.x.z k (z + 1) b') x y) := fun b' => ih (z + 1) b' (by omega) (by omega)
    simp only [docZ, docIn, updS]
    simp only [gd] at hr
    cases h1 : (z % p.m != d.x.z) with
    | true => rw [h1] at hr; exact loop_next (C := CCfc Try.prog) okCfc (f := 29) (B := 0) inX4 hr (StLike.refl _) (nx b)
    | false =>
      rw [h1] at hr
      cases h2 : decide (b < 0) with
      | true => rw [h2] at hr; exact loop_next (C := CCfc Try.prog) okCfc (f := 29) (B := 0) inX4 hr (StLike.refl _) (nx _)
      | false =>
        rw [h2] at hr
        cases h3 : decide (dW m x y z < b) with
        | true => rw [h3] at hr; exact loop_next (C := CCfc Try.prog) okCfc (f := 29) (B := 0) inX4 hr (StLike.refl _) (nx _)
        | false => rw [h3] at hr; exact loop_next (C := CCfc Try.prog) okCfc (f := 29) (B := 0) inX4 hr (StLike.refl _) (nx b)
theorem dfL2 (m : G6) (p d : P3) (hM : modB p.m = true) (x : Int) : ∀ (k : Nat) (y b : Int), k = (p.m + 1 - y).toNat → -p.m ≤ y → LoopSem Try.prog 0 (dX2 Try.prog) (df2 m p d b x y) (.exit 2) (df1 m p d (docZ (docMid (dW m) p.m d.x x) p.m d.x.y k y b) x) := by
  intro k
  obtain ⟨m0, m1⟩ := rng_M hM
  induction k with
  | zero =>
    intro y b hk hy
    have hr := dfX2a m p d b x y
    rw [decide_eq_false (show ¬ y ≤ p.m by omega)] at hr
    exact loop_leaveC (stmt_out (k := 0) dfHas.2.2.2.2.2.1 (end_rule' (C := CCfc Try.prog) okCfc (f := 29) (B := 0) (inStm inX2 0) hr) (by simp)) (by simp)
  | succ k ih =>
    intro y b hk hy
    have hr := dfX2a m p d b x y
    rw [decide_eq_true (show y ≤ p.m by omega)] at hr
    have fin : ∀ b', CodeSem Try.prog 0 (.block 3 (dY3 Try.prog)) (df2 m p d b x y) .normal (df2 m p d b' x y) → LoopSem Try.prog 0 (dX2 Try.prog) (df2 m p d b x y) (.exit 2) (df1 m p d (docZ (docMid (dW m) p.m d.x x) p.m d.x.y k (y + 1) b') x) := fun b' hb => by
      have hc := dfX2c m p d b' x y
      rw [W_in (n := y + 1) (by omega)] at hc
      rw [← dfX2b] at hb
      exact loop_nextC (stmt_rule (k := 0) dfHas.2.2.2.2.2.1 (end_rule' (C := CCfc Try.prog) okCfc (f := 29) (B := 0) (inStm inX2 0) hr) (stmt_rule dfHas.2.2.2.2.2.2.1 hb (end_rule' (C := CCfc Try.prog) okCfc (f := 29) (B := 0) (inDrop inX2 2) hc))) (ih (y + 1) b' (by omega) (by omega))
    have ha := dfY3a m p d b x y
    rw [hM] at ha
    simp only [gd] at ha
    simp only [docZ]
    cases h1 : (y % p.m != d.x.y) with
    | true =>
      rw [h1] at ha
      exact fin b (CodeSem.block (stmt_out (k := 0) dfHas.2.2.2.2.2.2.2 (end_rule' (C := CCfc Try.prog) okCfc (f := 29) (B := 0) (inStm inY3 0) ha) (by simp)))
    | false =>
      rw [h1] at ha
      have hb := dfY3b m p d b x y
      rw [W_in (n := 0 - p.m) (by omega), Int.zero_sub] at hb
      refine fin _ (CodeSem.blockN (stmt_rule (k := 0) dfHas.2.2.2.2.2.2.2 (end_rule' (C := CCfc Try.prog) okCfc (f := 29) (B := 0) (inStm inY3 0) ha) (seg_rule (C := CCfc Try.prog) okCfc (f := 29) (B := 0) (k := 1) (inDrop inY3 1) hb ?_)))
      rw [seqDrop_drop]
      exact blk_rule dfBlk4 (dfL4 m p d hM x y (2 * p.m + 1).toNat (-p.m) b (by omega) (by omega))
theorem dfL0 (m : G6) (p d : P3) (hM : modB p.m = true) : ∀ (k : Nat) (x b : Int), k = (p.m + 1 - x).toNat → -p.m ≤ x → LoopSem Try.prog 0 (dX0 Try.prog) (df1 m p d b x) (.exit 0) (df0 m p d (docZ (docOut (dW m) p.m d.x) p.m d.x.x k x b)) := by
  intro k
  obtain ⟨m0, m1⟩ := rng_M hM
  induction k with
  | zero =>
    intro x b hk hx
    have hr := dfX0a m p d b x
    rw [decide_eq_false (show ¬ x ≤ p.m by omega)] at hr
    exact loop_leaveC (stmt_out (k := 0) dfHas.2.2.1 (end_rule' (C := CCfc Try.prog) okCfc (f := 29) (B := 0) (inStm inX0 0) hr) (by simp)) (by simp)
  | succ k ih =>
    intro x b hk hx
    have hr := dfX0a m p d b x
    rw [decide_eq_true (show x ≤ p.m by omega)] at hr
    have fin : ∀ b', CodeSem Try.prog 0 (.block 1 (dY1 Try.prog)) (df1 m p d b x) .normal (df1 m p d b' x) → LoopSem Try.prog 0 (dX0 Try.prog) (df1 m p d b x) (.exit 0) (df0 m p d (docZ (docOut (dW m) p.m d.x) p.m d.x.x k (x + 1) b')) := fun b' hb => by
      have hc := dfX0c m p d b' x
      rw [W_in (n := x + 1) (by omega)] at hc
      rw [← dfX0b] at hb
      exact loop_nextC (stmt_rule (k := 0) dfHas.2.2.1 (end_rule' (C := CCfc Try.prog) okCfc (f := 29) (B := 0) (inStm inX0 0) hr) (stmt_rule dfHas.2.2.2.1 hb (end_rule' (C := CCfc Try.prog) okCfc (f := 29) (B := 0) (inDrop inX0 2) hc))) (ih (x + 1) b' (by omega) (by omega))
    have ha := dfY1a m p d b x
    rw [hM] at ha
    simp only [gd] at ha
    simp only [docZ]
    cases h1 : (x % p.m != d.x.x) with
    | true =>
      rw [h1] at ha
      exact fin b (CodeSem.block (stmt_out (k := 0) dfHas.2.2.2.2.1 (end_rule' (C := CCfc Try.prog) okCfc (f := 29) (B := 0) (inStm inY1 0) ha) (by simp)))
    | false =>
      rw [h1] at ha
      have hb := dfY1b m p d b x
      rw [W_in (n := 0 - p.m) (by omega), Int.zero_sub] at hb
      refine fin _ (CodeSem.blockN (stmt_rule (k := 0) dfHas.2.2.2.2.1 (end_rule' (C := CCfc Try.prog) okCfc (f := 29) (B := 0) (inStm inY1 0) ha) (seg_rule (C := CCfc Try.prog) okCfc (f := 29) (B := 0) (k := 1) (inDrop inY1 1) hb ?_)))
      rw [seqDrop_drop]
      exact blk_rule dfBlk2 (dfL2 m p d hM x (2 * p.m + 1).toNat (-p.m) b (by omega) (by omega))
def dfV (m : G6) (p q : P3) : Int := bif farE m p q == 0 then docFar (dW m) p.m (p.minX q) else 0
set_option maxRecDepth 100000 in
theorem dfS (m : G6) (p q : P3) : PlainSem Try.prog 29 [m.v, p.v, q.v] (p2 (vI (dfV m p q)) (vI (farE m p q))) := by
  have body : CodeSem Try.prog 0 (dfB Try.prog) (enter Try.f29 [m.v, p.v, q.v] []) .ret (dfR (dfV m p q) (farE m p q)) := by
    refine seg_rule (C := CCfc Try.prog) okCfc (f := 29) (B := 0) (k := 3) dfIn (dfE1 m p q) ?_
    have e3 := dfE3 m p (p.minF q) m.mck (p.minE q)
    by_cases h : farE m p q = 0
    · obtain ⟨h1, h2⟩ := farE_zero h
      rw [show (leastN m.mck (p.minE q) != 0) = false from (by show (farE m p q != 0) = false; rw [h]; rfl)] at e3
      refine stmt_rule dfHas.1 (end_rule' (C := CCfc Try.prog) okCfc (f := 29) (B := 0) (inStm dfIn 3) e3) ?_
      refine seg_rule (C := CCfc Try.prog) okCfc (f := 29) (B := 0) (k := 1) (inDrop dfIn 4) (dfE4 m p (p.minF q)) ?_
      rw [seqDrop_drop]
      have hM : modB p.m = true := by
        unfold P3.minE at h2
        cases hp : p.form with
        | false => rw [hp] at h2; cases h2
        | true => exact (form_rng hp).1
      obtain ⟨m0, m1⟩ := rng_M hM
      have hd := dfHead m p (p.minF q) (-1)
      rw [W_in (n := 0 - p.m) (by omega), Int.zero_sub] at hd
      refine stmt_rule dfHas.2.1 (for_rule dfFor (end_rule' (C := CCfc Try.prog) okCfc (f := 29) (B := 0) (inForH (inStm dfIn 5)) hd) (dfL0 m p (p.minF q) hM (2 * p.m + 1).toNat (-p.m) (-1) (by omega) (by omega))) ?_
      have e : p.minF q = ⟨p.m, p.minX q⟩ := by unfold P3.minF; rw [h2]; rfl
      have ev : dfV m p q = docZ (docOut (dW m) p.m (p.minF q).x) p.m (p.minF q).x.x (2 * p.m + 1).toNat (-p.m) (-1) := by unfold dfV docFar; rw [h, e]; rfl
      rw [ev, h]
      exact end_rule' (C := CCfc Try.prog) okCfc (f := 29) (B := 0) (inDrop dfIn 6) (dfEnd m p (p.minF q) _)
    · rw [show (leastN m.mck (p.minE q) != 0) = true from (bif_beq h).2] at e3
      have ev : dfV m p q = 0 := by unfold dfV; rw [(bif_beq h).1]; rfl
      rw [ev]
      exact stmt_out dfHas.1 (end_rule' (C := CCfc Try.prog) okCfc (f := 29) (B := 0) (inStm dfIn 3) e3) (by simp)
  have hm : MemSem Try.prog 29 [m.v, p.v, q.v] [] (p2 (vI (dfV m p q)) (vI (farE m p q))) [] := body_mem (f := 29) Try.func29 dfB_eq (by kernel_rfl) body (dfRet _ _)
  exact hm.plain (by intro x hx; simp only [List.mem_cons, List.not_mem_nil, or_false] at hx; rcases hx with rfl | rfl | rfl <;> rfl) rfl
def dfF : List Int → Option (Bool × Value)
  | [a0, a1, a2, a3, a4, a5, b0, b1, b2, b3, c0, c1, c2, c3] => some (true, p2 (vI (dfV ⟨a0, a1, a2, a3, a4, a5⟩ ⟨b0, ⟨b1, b2, b3⟩⟩ ⟨c0, ⟨c1, c2, c3⟩⟩)) (vI (farE ⟨a0, a1, a2, a3, a4, a5⟩ ⟨b0, ⟨b1, b2, b3⟩⟩ ⟨c0, ⟨c1, c2, c3⟩⟩)))
  | _ => none
def CCfd (P : Program) : Cx := (CCfc P).addD 29 [some 6, some 4, some 4] dfF
theorem okCfd : CxOk (CCfd Try.prog) := Cx.addP_ok okCfc fun args v _ h _ => by
  split at h
  · rename_i l hu
    obtain ⟨rfl, hl⟩ := unpack_spec _ _ _ hu
    match l, hl, h with
    | [a0, a1, a2, a3, a4, a5, b0, b1, b2, b3, c0, c1, c2, c3], _, h =>
      simp only [dfF, Option.some.injEq, Prod.mk.injEq, true_and] at h
      subst h
      exact dfS _ _ _
  · cases h
end Go.Proofs.Ytofblakbfmjgkaa
