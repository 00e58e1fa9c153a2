/-
  slices.Compact of indices, told. Nothing here is trusted.
-/
import Derived.Test.YtjpfnfckpgilgaaHTCo3
namespace Go.Proofs.Ytjpfnfckpgilgaa
open Go Vx Go.RowKit
/-! Neighbours that are alike, taken together -/
def cpF (p : V3) : List V3 → List V3
  | [] => []
  | x :: l => match x.eqB p with
    | true => cpF p l
    | false => x :: cpF x l
def cpct : List V3 → List V3
  | [] => []
  | x :: l => x :: cpF x l
theorem cpF_snoc (b : V3) : ∀ (l : List V3) (p : V3), cpF p (l ++ [b]) = cpF p l ++ (match b.eqB ((p :: l).getLast (by simp)) with
    | true => []
    | false => [b])
  | [], p => by
    simp only [List.nil_append, cpF, List.getLast_singleton]
  | x :: l, p => by
    simp only [List.cons_append, cpF]
    cases hx : x.eqB p with
    | true =>
      have := V3.eqB_iff.1 hx
      subst this
      simp only
      rw [cpF_snoc b l x]
      rw [List.getLast_cons (by simp : x :: l ≠ [])]
    | false =>
      simp only
      rw [cpF_snoc b l x, List.getLast_cons (by simp : x :: l ≠ [])]
      rfl
theorem cpct_snoc (b : V3) {l : List V3} (h : l ≠ []) : cpct (l ++ [b]) = cpct l ++ (match b.eqB (l.getLast h) with
    | true => []
    | false => [b]) := by
  cases l with
  | nil => exact absurd rfl h
  | cons x l => simp only [List.cons_append, cpct]; rw [cpF_snoc b l x]
theorem atV_get {Y : List V3} {i : Nat} (h : i < Y.length) : atV Y i = Y[i] := by unfold atV; rw [List.getElem?_eq_getElem h]; rfl
theorem cpct_step {Y : List V3} {i : Nat} (h0 : 0 < i) (hi : i < Y.length) : cpct (Y.take (i + 1)) = cpct (Y.take i) ++ (match (atV Y i).eqB (atV Y (i - 1)) with
    | true => []
    | false => [atV Y i]) := by
  have hne : Y.take i ≠ [] := fun h => by
    have := congrArg List.length h
    rw [List.length_take, List.length_nil] at this
    omega
  have hl : (Y.take i).getLast hne = atV Y (i - 1) := by
    rw [List.getLast_eq_getElem, atV_get (by omega)]
    simp [Nat.min_eq_left (Nat.le_of_lt hi)]
  rw [List.take_succ_eq_append_getElem hi, cpct_snoc _ hne, hl, atV_get hi]
theorem cpF_len : ∀ (l : List V3) (p : V3), (cpF p l).length ≤ l.length
  | [], _ => Nat.le_refl _
  | x :: l, p => by
    simp only [cpF]
    cases x.eqB p with
    | true => have := cpF_len l p; simp; omega
    | false => have := cpF_len l x; simp; omega
theorem cpct_len (l : List V3) : (cpct l).length ≤ l.length := by
  cases l with
  | nil => exact Nat.le_refl _
  | cons x l => have := cpF_len l x; simp [cpct]; omega
/-! The code -/
theorem cpO_eq : cpO Try.prog = .seq (cL (cpO Try.prog)) (.seq (.block 1 (cpI Try.prog)) (cR (cR (cpO Try.prog)))) := by kernel_rfl
theorem cpI_eq : cpI Try.prog = .seq (cL (cpI Try.prog)) (.cond (.tmp 25) (cpX Try.prog) .skip) := by kernel_rfl
theorem cpHas : hasStmt 1 (cpB Try.prog) = true ∧ hasStmt 2 (cpB Try.prog) = true ∧ hasStmt 1 (cpX Try.prog) = true := ⟨by kernel_rfl, by kernel_rfl, by kernel_rfl⟩
set_option maxRecDepth 100000 in
theorem cpInO : InBody ((CChk Try.prog).into 110 1) (forHead (stmt 2 (cpB Try.prog))) ∧ InBody ((CChk Try.prog).into 110 1) (cpO Try.prog) := for_in (C := CChk Try.prog) (f := 110) (B := 1) (id := 0) (k := 2) (fn := Try.f110) (b := cpB Try.prog) Try.func110 cpB_eq cpFor
theorem cpInI : InBody ((CChk Try.prog).into 110 1) (cpI Try.prog) := cpInO.2.right.left.left
theorem cpInX : InBody ((CChk Try.prog).into 110 1) (cpX Try.prog) := cpInI.right.left
theorem cpInXs (k : Nat) : InBody ((CChk Try.prog).into 110 1) (seqDrop k (cpX Try.prog)) := cpInX.sub (seqDrop_loops k _)
theorem cpInXf : InBody ((CChk Try.prog).into 110 1) (forHead (stmt 1 (cpX Try.prog))) ∧ InBody ((CChk Try.prog).into 110 1) (forBody (stmt 1 (cpX Try.prog))) := by
  have h0 : ∀ x ∈ loopsIn (stmt 1 (cpX Try.prog)), x ∈ loopsIn (cpX Try.prog) := fun x hx => by
    refine seqDrop_loops 1 _ x ?_
    unfold stmt at hx
    cases hc : seqDrop 1 (cpX Try.prog) with
    | seq p q => rw [hc] at hx; simp only at hx; simp [loopsIn, hx]
    | _ => rw [hc] at hx; simp [loopsIn] at hx
  have hs := cpForI
  unfold isFor at hs
  split at hs
  · rename_i x i y hst
    rw [hst] at h0 ⊢
    exact ⟨cpInX.sub fun z hz => h0 z (by simp only [forHead] at hz; simp [loopsIn, hz]), cpInX.sub fun z hz => h0 z (by simp only [forBody] at hz; simp [loopsIn, hz])⟩
  · cases hs
/-! The inner loop -/
theorem cpLeave {x : Code} {st s : St} {e : Exit} {mask mout : List Nat} {sp so : List From} (hin : InBody ((CChk Try.prog).into 110 1) x) (h : roundR ((CChk Try.prog).into 110 1) 40 x mask mout sp so st = some (.exit 2, s)) (he : e = .exit 2) : LoopSem Try.prog 1 x st e s := by
  subst he
  intro Q w0 keep r0 a w hB hQ hr
  obtain ⟨⟨e1, s1⟩, h3, h4⟩ := Ans.bind_some h
  refine LoopsTo.round ((exCode_sound okChk 40).1 110 1 x hin _ _ _ h3 _ w0 keep r0 a w hB ?_ hr)
  intro a' w' hr'
  obtain ⟨he, hs⟩ := clean_rel h4 hB hr'
  subst he
  exact hQ a' w' hs
theorem cpNext {x : Code} {st s s2 s3 : St} {e : Exit} {mask mout : List Nat} {sp so : List From} (hin : InBody ((CChk Try.prog).into 110 1) x) (h : roundR ((CChk Try.prog).into 110 1) 40 x mask mout sp so st = some (.normal, s)) (hl : StLike s s2) (hn : LoopSem Try.prog 1 x s2 e s3) : LoopSem Try.prog 1 x st e s3 := by
  intro Q w0 keep r0 a w hB hQ hr
  obtain ⟨⟨e1, s1⟩, h3, h4⟩ := Ans.bind_some h
  refine LoopsTo.round ((exCode_sound okChk 40).1 110 1 x hin _ _ _ h3 _ w0 keep r0 a w hB ?_ hr)
  intro a' w' hr'
  obtain ⟨he, hs⟩ := clean_rel h4 hB hr'
  subst he
  exact hn Q w0 keep r0 a' w' hB hQ (hs.like hl)
structure CpG where
  (Z : List V3) (k k2 : Nat)
def cpInv (n j : Nat) (Y : List V3) (g : CpG) : Prop := g.Z.length = n ∧ 1 ≤ g.k2 ∧ j + 1 + g.k2 ≤ n ∧ 1 ≤ g.k ∧ g.k ≤ j + g.k2 ∧ (∀ q, j + g.k2 ≤ q → atV g.Z q = atV Y q) ∧ g.Z.take g.k = cpct (Y.take (j + 1 + g.k2))
theorem take_set_snoc {Z : List V3} {k : Nat} (h : k < Z.length) (o : V3) : (Z.set k o).take (k + 1) = Z.take k ++ [o] := by
  rw [List.take_succ_eq_append_getElem (by simpa using h)]
  simp [List.take_set_of_le (Nat.le_refl k)]
theorem atV_set {Z : List V3} {k q : Nat} (h : k ≠ q) (o : V3) : atV (Z.set k o) q = atV Z q := by unfold atV; rw [List.getElem?_set_ne h]
set_option maxRecDepth 100000 in
theorem cpInner (n j : Nat) (Y : List V3) (hY : Y.length = n) (hn : n ≤ 1000) : ∀ g : CpG, cpInv n j Y g → ∃ (Z : List V3) (k : Nat), LoopSem Try.prog 1 (forBody (stmt 1 (cpX Try.prog))) (cp3 n g.Z j (n - (j + 1)) g.k g.k2) (.exit 2) (cp1 n Z (k : Int)) ∧ Z.length = n ∧ k < n ∧ Z.take k = cpct Y := by
  have key : ∀ (c : Nat) (g : CpG), n - (j + 1) - g.k2 ≤ c → cpInv n j Y g → ∃ (Z : List V3) (k : Nat), LoopSem Try.prog 1 (forBody (stmt 1 (cpX Try.prog))) (cp3 n g.Z j (n - (j + 1)) g.k g.k2) (.exit 2) (cp1 n Z (k : Int)) ∧ Z.length = n ∧ k < n ∧ Z.take k = cpct Y := by
    intro c
    induction c with
    | zero =>
      rintro ⟨Z, k, k2⟩ hc ⟨h1, h2, h3, h4, h5, h6, h7⟩
      simp only at hc h1 h2 h3 h4 h5 h6 h7
      refine ⟨Z, k, ?_, h1, by omega, by rw [h7, List.take_of_length_le (by omega)]⟩
      have hr := cpR n Z j (n - (j + 1)) k k2
      rw [show decide ((k2 : Int) < ((n - (j + 1) : Nat) : Int)) = false by simp; omega] at hr
      exact cpLeave cpInXf.2 hr rfl
    | succ c ih =>
      rintro ⟨Z, k, k2⟩ hc ⟨h1, h2, h3, h4, h5, h6, h7⟩
      simp only at hc h1 h2 h3 h4 h5 h6 h7
      by_cases hlt : k2 < n - (j + 1)
      · have hw : W ((k2 : Int) - 1) = ((k2 - 1 : Nat) : Int) := by rw [W_in (by omega)]; omega
        have hw2 : W ((k2 : Int) + 1) = ((k2 + 1 : Nat) : Int) := by rw [W_in (by omega)]; simp
        have hwk : W ((k : Int) + 1) = ((k + 1 : Nat) : Int) := by rw [W_in (by omega)]; simp
        have hr := cpR n Z j (n - (j + 1)) k k2
        rw [show decide ((k2 : Int) < ((n - (j + 1) : Nat) : Int)) = true by simp; omega, bd_ok' hlt, hw, bd_ok' (show k2 - 1 < n - (j + 1) by omega), Int.toNat_natCast, bd_ok' (show k < n by omega), hw2, hwk] at hr
        simp only [gd_true] at hr
        have e1 : atV Z (j + 1 + k2) = atV Y (j + 1 + k2) := h6 _ (by omega)
        have e2 : atV Z (j + 1 + (k2 - 1)) = atV Y (j + 1 + k2 - 1) := by rw [h6 _ (by omega)]; congr 1; omega
        have hs := cpct_step (Y := Y) (i := j + 1 + k2) (by omega) (by omega)
        rw [e1, e2] at hr
        cases hb : (atV Y (j + 1 + k2)).eqB (atV Y (j + 1 + k2 - 1)) with
        | true =>
          rw [hb] at hr hs
          simp only [Bool.not_true] at hr
          simp only [List.append_nil] at hs
          obtain ⟨Z', k', g1, g2⟩ := ih ⟨Z, k, k2 + 1⟩ (by simp only; omega) ⟨h1, by simp only; omega, by simp only; omega, h4, by simp only; omega, fun q hq => h6 q (by simp only at hq; omega), by simp only; rw [h7, ← hs]; congr 1⟩
          exact ⟨Z', k', cpNext (s2 := cp3 n Z j (n - (j + 1)) (k : Int) ((k2 + 1 : Nat) : Int)) cpInXf.2 hr (StLike.refl _) g1, g2⟩
        | false =>
          rw [hb] at hr hs
          simp only [Bool.not_false] at hr
          obtain ⟨Z', k', g1, g2⟩ := ih ⟨Z.set k (atV Y (j + 1 + k2)), k + 1, k2 + 1⟩ (by simp only; omega) ⟨by simpa using h1, by simp only; omega, by simp only; omega, by simp only; omega, by simp only; omega, fun q hq => by simp only at hq ⊢; rw [atV_set (by omega)]; exact h6 q (by omega), by simp only; rw [take_set_snoc (by omega), h7, ← hs]; congr 1⟩
          exact ⟨Z', k', cpNext (s2 := cp3 n (Z.set k (atV Y (j + 1 + k2))) j (n - (j + 1)) ((k + 1 : Nat) : Int) ((k2 + 1 : Nat) : Int)) cpInXf.2 hr ⟨rfl, .rows (stV_like Z _ (by omega) n h1.symm), trivial⟩ g1, g2⟩
      · refine ⟨Z, k, ?_, h1, by omega, by rw [h7, List.take_of_length_le (by omega)]⟩
        have hr := cpR n Z j (n - (j + 1)) k k2
        rw [show decide ((k2 : Int) < ((n - (j + 1) : Nat) : Int)) = false by simp; omega] at hr
        exact cpLeave cpInXf.2 hr rfl
  exact fun g hg => key _ g (Nat.le_refl _) hg
end Go.Proofs.Ytjpfnfckpgilgaa
