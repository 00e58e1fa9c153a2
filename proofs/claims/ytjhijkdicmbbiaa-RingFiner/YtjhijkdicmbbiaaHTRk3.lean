/-
  facetref15.DocReal as a contract. Nothing here is trusted.
-/
import Derived.Test.YtjhijkdicmbbiaaHTRk2
namespace Go.Proofs.Ytjhijkdicmbbiaa
open Go Vx Go.RowKit
/-- a less its conjugate, among the powers: after i coefficients. -/
def rpC (e : Nat) (c : Nat → Int) : Nat → (Nat → Int)
  | 0 => fun _ => 0
  | i + 1 => putG (putG (rpC e c i) i (rpC e c i i + c i)) (Rin.bkI e i) (putG (rpC e c i) i (rpC e c i i + c i) (Rin.bkI e i) + -1 * c i)
theorem ev_put (n : Nat) (g : Nat → Int) (j : Nat) (v : Int) (T : Nat → Int) (hj : j < n) : Rin.ev n (putG g j v) T = Rin.ev n g T + (v - g j) * T j := Rin.S_put n g j v T hj
theorem ev_rp {e : Nat} (he : 1 ≤ e) (c T : Nat → Int) : ∀ i, i ≤ 2 * e → Rin.ev (6 * e) (rpC e c i) T = Rin.ev i c T - Rin.ev i c (Rin.bk e T)
  | 0, _ => by
    show Rin.ev (6 * e) (fun _ => 0) T = 0 - 0
    exact Rin.S_zero fun _ _ => Int.zero_mul _
  | i + 1, h => by
    show Rin.ev (6 * e) (putG (putG (rpC e c i) i (rpC e c i i + c i)) (Rin.bkI e i) (putG (rpC e c i) i (rpC e c i i + c i) (Rin.bkI e i) + -1 * c i)) T = (Rin.ev i c T + c i * T i) - (Rin.ev i c (Rin.bk e T) + c i * T (Rin.bkI e i))
    rw [ev_put _ _ _ _ _ (Rin.bkI_lt he i), ev_put _ _ _ _ _ (by omega), ev_rp he c T i (by omega)]
    rw [show putG (rpC e c i) i (rpC e c i i + c i) (Rin.bkI e i) + -1 * c i - putG (rpC e c i) i (rpC e c i i + c i) (Rin.bkI e i) = -c i by omega, show rpC e c i i + c i - rpC e c i i = c i by omega, Int.neg_mul]
    omega
theorem rp_bd {e n : Nat} {c : Nat → Int} (hc : ∀ i, i < n → inRg (c i) = true) : ∀ i, i ≤ n → ∀ q, -(9007199254740992 * (i : Int)) ≤ rpC e c i q ∧ rpC e c i q ≤ 9007199254740992 * (i : Int)
  | 0, _, _ => by show -(9007199254740992 * ((0 : Nat) : Int)) ≤ (0 : Int) ∧ (0 : Int) ≤ 9007199254740992 * ((0 : Nat) : Int); omega
  | i + 1, h, q => by
    have ih := rp_bd (e := e) hc i (by omega)
    have hi := inRg_iff.1 (hc i (by omega))
    have mid : ∀ q, -(9007199254740992 * (i : Int)) - 4503599627370496 ≤ putG (rpC e c i) i (rpC e c i i + c i) q ∧ putG (rpC e c i) i (rpC e c i i + c i) q ≤ 9007199254740992 * (i : Int) + 4503599627370496 := fun q => by
      have a := ih q
      have b := ih i
      unfold putG
      split <;> omega
    have m1 := mid q
    have m2 := mid (Rin.bkI e i)
    show -(9007199254740992 * ((i + 1 : Nat) : Int)) ≤ putG (putG (rpC e c i) i (rpC e c i i + c i)) (Rin.bkI e i) (putG (rpC e c i) i (rpC e c i i + c i) (Rin.bkI e i) + -1 * c i) q ∧ putG (putG (rpC e c i) i (rpC e c i i + c i)) (Rin.bkI e i) (putG (rpC e c i) i (rpC e c i i + c i) (Rin.bkI e i) + -1 * c i) q ≤ 9007199254740992 * ((i + 1 : Nat) : Int)
    generalize putG (rpC e c i) i (rpC e c i i + c i) = G at *
    unfold putG
    split <;> omega
theorem rp_conj {e : Nat} (he : 1 ≤ e) (c : Nat → Int) : Rin.EqOn (2 * e) (cofE e (6 * e) (rpC e c (2 * e))) (fun q => c q - Rin.conjE e c q) := fun q hq => Rin.ev_eq (g := cofE e (6 * e) (rpC e c (2 * e))) (h := fun q => c q - Rin.conjE e c q) he (fun T hT => by
  rw [Rin.ev_cof _ hT he (by omega) (by omega), ev_rp he c T (2 * e) (Nat.le_refl _), Rin.ev_sub, Rin.ev_conj c hT he]) hq
theorem dr_eq : Try.f45.body = some (drB Try.prog) := by kernel_rfl
theorem drRet (n : Nat) (o : Bool) (c : Nat → Int) (t : Bool) (e : Int) : (retA Try.prog Try.f45 (.ret, drX n o c t e)).res = some (.tuple #[.bool t, vI e], [Ir o n c]) := by kernel_rfl
theorem drRetS (n : Nat) (o : Bool) (M : Int) (c : Nat → Int) : (retA Try.prog Try.f45 (.ret, stOf 77 [(1, pt 1), (2, .bool false), (3, vI 3)] [Ir o n c, .cells true 0 [vI M, SI 0 n]])).res = some (.tuple #[.bool false, vI 3], [Ir o n c, .cells true 0 [vI M, SI 0 n]]) := by kernel_rfl
theorem drTidy (n : Nat) (o : Bool) (M : Int) (c : Nat → Int) : (tidyA 1 [.fix 0] (.tuple #[.bool false, vI 3], [Ir o n c, .cells true 0 [vI M, SI 0 n]])).res = some (.tuple #[.bool false, vI 3], [Ir o n c]) := by kernel_rfl
theorem drFor : isFor 0 (stmt 3 (drB Try.prog)) = true := by kernel_rfl
theorem drFor2 : isFor 2 (stmt 6 (drB Try.prog)) = true := by kernel_rfl
theorem drHas : hasStmt 1 (drB Try.prog) = true ∧ hasStmt 3 (drB Try.prog) = true ∧ hasStmt 5 (drB Try.prog) = true ∧ hasStmt 6 (drB Try.prog) = true := ⟨by kernel_rfl, by kernel_rfl, by kernel_rfl, by kernel_rfl⟩
theorem drIn : InBody ((Cr116 Try.prog).into 45 1) (forHead (stmt 3 (drB Try.prog))) ∧ InBody ((Cr116 Try.prog).into 45 1) (drF Try.prog) := for_in (C := Cr116 Try.prog) (f := 45) (B := 1) (id := 0) (k := 3) (fn := Try.f45) (b := drB Try.prog) Try.func45 dr_eq drFor
theorem drIn2 : InBody ((Cr116 Try.prog).into 45 1) (forHead (stmt 6 (drB Try.prog))) ∧ InBody ((Cr116 Try.prog).into 45 1) (forBody (stmt 6 (drB Try.prog))) := for_in (C := Cr116 Try.prog) (f := 45) (B := 1) (id := 2) (k := 6) (fn := Try.f45) (b := drB Try.prog) Try.func45 dr_eq drFor2
theorem drBody0 : InBody ((Cr116 Try.prog).into 45 1) (drB Try.prog) := Or.inl ⟨Try.f45, drB Try.prog, Try.func45, dr_eq, fun _ hx => hx⟩
theorem neg_tmod {M : Int} {i : Nat} (h : fineB M = true) (hi : (i : Int) < M) : (W (M - (i : Int))).tmod M = ((Rin.bkI (M.toNat / 6) i : Nat) : Int) := by
  have hc := fine_cases h
  obtain ⟨s1, s2, s3, s4⟩ := six h
  rw [W_in (by omega), Rin.bkI_small (by omega), Int.tmod_eq_emod_of_nonneg (by omega)]
  by_cases h0 : i = 0
  · subst h0; simp
  · rw [if_neg h0, Int.emod_eq_of_lt (by omega) (by omega)]; omega
theorem dr_like {n K : Nat} {o : Bool} {M : Int} {c g : Nat → Int} {row : Nat → List Value} {i : Int} (h : ∀ q, row q = dRow g q) : StLike (drH n K o M c row i) (drH n K o M c (dRow g) i) := ⟨rfl, .refl _, .refl _, .rows fun q _ => h q, trivial⟩
theorem dr_likeV {n K : Nat} {o : Bool} {M : Int} {c g : Nat → Int} {row : Nat → List Value} {i v : Int} (h : ∀ q, row q = dRow g q) : StLike (stOf 77 [(1, pt 1), (2, .bool false), (3, vI 0), (4, SWb 2 K), (5, vI i), (6, vI v), (18, SI 0 n), (19, vI n), (20, vI i)] [Ir o n c, .cells true 0 [vI M, SI 0 n], Dr true K row]) (drHv n K o M c g i v) := ⟨rfl, .refl _, .refl _, .rows fun q _ => h q, trivial⟩
theorem drLoop (n : Nat) (o : Bool) (M : Int) (c : Nat → Int) (h : frmB M n c = true) : CodeSem Try.prog 1 (stmt 3 (drB Try.prog)) (drL n M.toNat o M c zD) .normal (drL n M.toNat o M c (dRow (rpC (M.toNat / 6) c n))) := by
  obtain ⟨f1, e1, r1⟩ := frm_fine h
  obtain ⟨s1, s2, s3, s4⟩ := six f1
  have hM := fine_cases f1
  have i1 := drIn.2
  have bd := rp_bd (e := M.toNat / 6) (n := n) (c := c) fun i hi => List.all_eq_true.1 r1 i (List.mem_range.2 hi)
  have hh := end_rule (C := Cr116 Try.prog) okr116 (f := 45) (B := 1) drIn.1 (drHead n M.toNat o M c (rpC (M.toNat / 6) c 0))
  have hr : ∀ i, i < n → CodeSem Try.prog 1 (drF Try.prog) (drH n M.toNat o M c (dRow (rpC (M.toNat / 6) c i)) (i : Int)) .normal (drH n M.toNat o M c (dRow (rpC (M.toNat / 6) c (i + 1))) ((i + 1 : Nat) : Int)) := fun i hi => by
    have rg := List.all_eq_true.1 r1 i (List.mem_range.2 hi)
    have rg' := inRg_iff.1 rg
    have b0 := bd i (by omega)
    have hk := Rin.bkI_lt s2 i
    obtain ⟨G, hG⟩ : ∃ G, rpC (M.toNat / 6) c i = G := ⟨_, rfl⟩
    obtain ⟨A, hA⟩ : ∃ A, Rin.bkI (M.toNat / 6) i = A := ⟨_, rfl⟩
    obtain ⟨J, hJ⟩ : ∃ J, putG G i (G i + c i) = J := ⟨_, rfl⟩
    have bG : ∀ q, -576460752303423488 ≤ G q ∧ G q ≤ 576460752303423488 := fun q => by have := b0 q; rw [hG] at this; omega
    have bJ : ∀ q, -1152921504606846976 ≤ J q ∧ J q ≤ 1152921504606846976 := fun q => by
      have a := bG q
      have b := bG i
      rw [← hJ]
      unfold putG
      split <;> omega
    have rA := drA n M.toNat o M c G i
    rw [show decide ((i : Int) < (n : Int)) = true by simp; omega] at rA
    have rI := drI n M.toNat o M c G i true
    have r6 := dr6 n M.toNat o M c G i
    rw [boundsI_ok (n := n) (i := (i : Int)) (by omega)] at r6
    simp only [gd_true, Int.toNat_natCast] at r6
    have r7 := dr7 n M.toNat o M c G i (c i)
    have t1 : okD (G i / 4503599627370496) (G i % 4503599627370496) = true := okD_iff.2 (by have := bG i; omega)
    have t2 : okD (c i / 4503599627370496) (c i % 4503599627370496) = true := okD_iff.2 (by omega)
    rw [boundsI_ok (n := M.toNat) (i := (i : Int)) (by omega)] at r7
    simp only [rules, Int.toNat_natCast, i64_rg rg, t1, t2, dd, Int.one_mul] at r7
    have r8 := dr8 n M.toNat o M c J i (c i)
    rw [neg_tmod f1 (by omega), hA] at r8
    rw [hA] at hk
    have t3 : okD (J A / 4503599627370496) (J A % 4503599627370496) = true := okD_iff.2 (by have := bJ A; omega)
    rw [show (M == 0) = false by simp; omega, boundsI_ok (n := M.toNat) (i := (A : Int)) (by omega)] at r8
    simp only [rules, Int.toNat_natCast, i64_rg rg, t3, t2, dd] at r8
    have r9 := dr9 n M.toNat o M c (rpC (M.toNat / 6) c (i + 1)) i
    rw [show W ((i : Int) + 1) = ((i + 1 : Nat) : Int) by rw [W_in (by omega)]; simp] at r9
    have c7 := (end_rule' (C := Cr116 Try.prog) okr116 (f := 45) (B := 1) i1.right.right.left.left.right.left r7).likes (dr_likeV (g := J) fun q => by rw [← hJ]; exact stR_d G i _ q)
    have c8 := (end_rule' (C := Cr116 Try.prog) okr116 (f := 45) (B := 1) i1.right.right.left.left.right.right r8).likes (dr_like (g := rpC (M.toNat / 6) c (i + 1)) fun q => by
      refine (stR_d J A _ q).trans ?_
      show dRow _ q = dRow (putG (putG (rpC (M.toNat / 6) c i) i (rpC (M.toNat / 6) c i i + c i)) (Rin.bkI (M.toNat / 6) i) (putG (rpC (M.toNat / 6) c i) i (rpC (M.toNat / 6) c i i + c i) (Rin.bkI (M.toNat / 6) i) + -1 * c i)) q
      rw [hG, hJ, hA])
    rw [hG, drCode]
    exact (end_rule' (C := Cr116 Try.prog) okr116 (f := 45) (B := 1) i1.left rA).seq ((end_rule' (C := Cr116 Try.prog) okr116 (f := 45) (B := 1) i1.right.left rI).seq ((CodeSem.blockN ((end_rule' (C := Cr116 Try.prog) okr116 (f := 45) (B := 1) i1.right.right.left.left.left r6).seq (c7.seq c8))).seq (end_rule' (C := Cr116 Try.prog) okr116 (f := 45) (B := 1) i1.right.right.right r9)))
  have hE : CodeSem Try.prog 1 (drF Try.prog) (drH n M.toNat o M c (dRow (rpC (M.toNat / 6) c n)) (n : Int)) (.exit 0) (drL n M.toNat o M c (dRow (rpC (M.toNat / 6) c n))) := by
    have rA := drA n M.toNat o M c (rpC (M.toNat / 6) c n) n
    rw [show decide ((n : Int) < (n : Int)) = false by simp] at rA
    rw [drCode]
    exact (end_rule' (C := Cr116 Try.prog) okr116 (f := 45) (B := 1) i1.left rA).seq ((end_rule' (C := Cr116 Try.prog) okr116 (f := 45) (B := 1) i1.right.left (drI n M.toNat o M c (rpC (M.toNat / 6) c n) n false)).out (by simp))
  have hl := run_loopC (P := Try.prog) (B := 1) (x := drF Try.prog) (e := .exit 0) (by simp) n (fun i => drH n M.toNat o M c (dRow (rpC (M.toNat / 6) c i)) (i : Int)) hr hE
  exact for_rule drFor hh hl
theorem dr_val {M : Int} {n : Nat} {c w : Nat → Int} (h : frmB M n c = true) (hw : ∀ q, q < M.toNat / 3 → w q = c q - Rin.conjE (M.toNat / 6) c q) : ((List.range (M.toNat / 3)).all fun i => !(w i != 0)) = rlV M c := by
  have _ := h
  unfold rlV eqC
  rw [Bool.eq_iff_iff, List.all_eq_true, List.all_eq_true]
  have key : ∀ i, i < M.toNat / 3 → ((!(w i != 0)) = true ↔ (c i == Rin.conjE (M.toNat / 6) c i) = true) := fun i hi => by
    rw [hw i hi]
    simp
    omega
  exact ⟨fun g i hi => (key i (List.mem_range.1 hi)).1 (g i hi), fun g i hi => (key i (List.mem_range.1 hi)).2 (g i hi)⟩
theorem drealN (M : Int) : MemSem Try.prog 45 [.agg #[vI M, .slice none 0 0]] [] (.tuple #[.bool false, vI 3]) [] := exT_ok okr116 Try.func45 (by kernel_rfl) (drN M)
theorem drealE0 (n : Nat) (o : Bool) (M : Int) (c : Nat → Int) (_ : True) (h0 : frmB M n c = false) : MemSem Try.prog 45 [.agg #[vI M, SI 0 n]] [Ir o n c] (.tuple #[.bool false, vI 3]) [Ir o n c] := by
  have p1 := drP1 n o M c
  simp only [rules] at p1
  rw [h0] at p1
  exact (body_mem (m := [Ir o n c]) (args := [.agg #[vI M, SI 0 n]]) (f := 45) Try.func45 dr_eq (by kernel_rfl) (seg_rule (C := Cr116 Try.prog) okr116 (f := 45) (B := 1) (k := 1) drBody0 (drP0 n o M c) (stmt_out drHas.1 (end_rule' (C := Cr116 Try.prog) okr116 (f := 45) (B := 1) (stmt_in Try.func45 dr_eq) p1) (by simp))) (drRetS n o M c)).tidy (drTidy n o M c)
theorem drealT (n : Nat) (o : Bool) (M : Int) (c : Nat → Int) (_ : True) (h0 : frmB M n c = true) : MemSem Try.prog 45 [.agg #[vI M, SI 0 n]] [Ir o n c] (.tuple #[.bool (rlV M c), vI 0]) [Ir o n c] := by
  obtain ⟨f1, e1, r1⟩ := frm_fine h0
  obtain ⟨s1, s2, s3, s4⟩ := six f1
  have hM := fine_cases f1
  have en : n = 2 * (M.toNat / 6) := by omega
  have p1 := drP1 n o M c
  simp only [rules] at p1
  rw [h0] at p1
  have p2 := drP2 n o M c
  rw [decide_eq_true (by omega : (0 : Int) ≤ M), decide_eq_true (Int.le_refl M), decide_eq_true (by omega : M * 16 ≤ 140737488355328), decide_eq_true (by omega : M ≤ 4611686018427387904)] at p2
  simp only [rules] at p2
  have bd := rp_bd (e := M.toNat / 6) (n := n) (c := c) (fun i hi => List.all_eq_true.1 r1 i (List.mem_range.2 hi)) n (Nat.le_refl n)
  have hok := okLs_on (n := M.toNat) (row := dRow (rpC (M.toNat / 6) c n)) (g := rpC (M.toNat / 6) c n) (fun _ _ => rfl) fun i _ => by have := bd i; omega
  have hcf := cof_on (e := M.toNat / 6) (K := M.toNat) (n := M.toNat) (row := dRow (rpC (M.toNat / 6) c n)) (g := rpC (M.toNat / 6) c n) (fun _ _ => rfl) fun i a b => by omega
  have hw : ∀ q, q < M.toNat / 3 → cofE (M.toNat / 6) M.toNat (rpC (M.toNat / 6) c n) q = c q - Rin.conjE (M.toNat / 6) c q := fun q hq => by
    have := rp_conj s2 c q (by omega)
    rw [← s4, ← en] at this
    exact this
  have hd : decide ((M.toNat : Int) ≤ M) = true := decide_eq_true (by omega)
  have p4 := drP4 n M.toNat o M c (rpC (M.toNat / 6) c n)
  simp only [rules] at p4
  rw [hcf, hok, f1, hd] at p4
  have p4e := drP4e n M.toNat o M c (rpC (M.toNat / 6) c n)
  simp only [rules] at p4e
  rw [hcf, hok, f1, hd] at p4e
  obtain ⟨w, hwe⟩ : ∃ w, cofE (M.toNat / 6) M.toNat (rpC (M.toNat / 6) c n) = w := ⟨_, rfl⟩
  rw [hwe] at p4 p4e hw
  have hv := dr_val h0 hw
  have fin : ∀ t, CodeSem Try.prog 1 (seqDrop 4 (drB Try.prog)) (drL n M.toNat o M c (dRow (rpC (M.toNat / 6) c n))) .ret (drX n o c t 0) → MemSem Try.prog 45 [.agg #[vI M, SI 0 n]] [Ir o n c] (.tuple #[.bool t, vI 0]) [Ir o n c] := fun t hs =>
    body_mem (m := [Ir o n c]) (args := [.agg #[vI M, SI 0 n]]) (f := 45) Try.func45 dr_eq (by kernel_rfl) (seg_rule (C := Cr116 Try.prog) okr116 (f := 45) (B := 1) (k := 1) drBody0 (drP0 n o M c) (stmt_rule drHas.1 (end_rule' (C := Cr116 Try.prog) okr116 (f := 45) (B := 1) (stmt_in Try.func45 dr_eq) p1) (seg_rule (C := Cr116 Try.prog) okr116 (f := 45) (B := 1) (k := 1) (bodyOf_in Try.func45 dr_eq) p2 (by rw [seqDrop_drop]; exact stmt_rule drHas.2.1 (drLoop n o M c h0) hs)))) (drRet n o c t 0)
  cases hA : allR (M.toNat / 3) w with
  | false =>
    rw [hA] at p4e
    have hf : rlV M c = false := by
      cases hx : rlV M c with
      | false => rfl
      | true =>
        rw [hx] at hv
        have : allR (M.toNat / 3) w = true := List.all_eq_true.2 fun i hi => by
          have := List.all_eq_true.1 hv i hi
          have e0 : w i = 0 := by simpa using this
          rw [e0]; rfl
        rw [hA] at this
        cases this
    rw [hf]
    exact fin false (seg_rule (C := Cr116 Try.prog) okr116 (f := 45) (B := 1) (k := 1) (bodyOf_in Try.func45 dr_eq) p4e (by rw [seqDrop_drop]; exact stmt_out drHas.2.2.1 (end_rule' (C := Cr116 Try.prog) okr116 (f := 45) (B := 1) (stmt_in Try.func45 dr_eq) (drP5e n o c)) (by simp)))
  | true =>
    rw [hA] at p4
    have hs := scan_loop (C := Cr116 Try.prog) okr116 (f := 45) (B := 1) (m := 60) drIn2.2 (n := M.toNat / 3) (by omega) (drV n (M.toNat / 3) o c w) (fun i => w i != 0) (fun _ => drX n o c false 0) 2 (drX n o c false 0) (fun i _ => by
      have r := drR2 n (M.toNat / 3) o c w i
      rw [r]
      cases decide ((i : Int) < ((M.toNat / 3 : Nat) : Int)) with
      | false => rfl
      | true =>
        cases boundsI (i : Int) (M.toNat / 3) with
        | false => rfl
        | true => rfl)
    have hh := end_rule' (C := Cr116 Try.prog) okr116 (f := 45) (B := 1) drIn2.1 (drHd2 n (M.toNat / 3) o M c w)
    have hsc := scan_all (n := M.toNat / 3) (p := fun i => w i != 0)
    rw [hv] at hsc
    have go : ∀ {t}, CodeSem Try.prog 1 (seqDrop 6 (drB Try.prog)) (drU n (M.toNat / 3) o M c w) .ret (drX n o c t 0) → MemSem Try.prog 45 [.agg #[vI M, SI 0 n]] [Ir o n c] (.tuple #[.bool t, vI 0]) [Ir o n c] := fun {t} h =>
      fin t (seg_rule (C := Cr116 Try.prog) okr116 (f := 45) (B := 1) (k := 1) (bodyOf_in Try.func45 dr_eq) p4 (by rw [seqDrop_drop]; exact stmt_rule drHas.2.2.1 (end_rule' (C := Cr116 Try.prog) okr116 (f := 45) (B := 1) (stmt_in Try.func45 dr_eq) (drP5 n (M.toNat / 3) o M c w)) h))
    cases hk : fst? (fun i => w i != 0) (M.toNat / 3) 0 with
    | none =>
      rw [hsc.1 hk]
      exact go (stmt_rule drHas.2.2.2 (for_rule drFor2 hh (hs.2 hk)) (end_rule (C := Cr116 Try.prog) okr116 (f := 45) (B := 1) (bodyOf_in Try.func45 dr_eq) (drEnd n o c)))
    | some k =>
      rw [hsc.2 k hk]
      exact go (stmt_out drHas.2.2.2 (for_ret drFor2 hh (hs.1 k hk)) (by simp))
def drealF : List Value → Mem → Option (Ans (Value × Mem))
  | [.agg a], mm => match a.toList, mm with
    | [.int .i64 _, .slice none 0 0], [] => some (.out (.tuple #[.bool false, vI 3], []))
    | [.int .i64 M, .slice (some ⟨0, 0, some 0⟩) N 1], [.rows own true 1 N2 row] => some (.br (true && (Nat.beq N N2 && okIs N row)) (.br (frmB M N (iOf row)) (.out (.tuple #[.bool (rlV M (iOf row)), vI 0], [.rows own true 1 N row])) (.out (.tuple #[.bool false, vI 3], [.rows own true 1 N row]))) .fail)
    | _, _ => none
  | _, _ => none
theorem drealF_ok {args : List Value} {m : Mem} {ans : Ans (Value × Mem)} {v : Value} {m' : Mem} (h : drealF args m = some ans) (hr : ans.res = some (v, m')) : MemSem Try.prog 45 args m v m' := by
  unfold drealF at h
  split at h
  · rename_i mm a
    split at h
    · rename_i M e1
      have ha : a = #[vI M, .slice none 0 0] := by apply Array.ext'; simpa [vI] using e1
      subst ha
      simp only [Option.some.injEq] at h
      subst h
      simp only [Ans.res, Option.some.injEq, Prod.mk.injEq] at hr
      obtain ⟨rfl, rfl⟩ := hr
      exact drealN M

    · rename_i M N own N2 row e1
      have ha : a = #[vI M, SI 0 N] := by apply Array.ext'; simpa [SI, vI] using e1
      subst ha
      simp only [Option.some.injEq] at h
      subst h
      rcases Ans.br_some hr with ⟨hc, g⟩ | ⟨_, g⟩ <;> clear hr
      rotate_left
      · simp [Ans.res] at g
      simp only [Bool.and_eq_true] at hc
      obtain ⟨cp, c1, c2⟩ := hc
      have e1 := Nat.eq_of_beq_eq_true c1
      subst e1
      have l1 : LikeL [.rows own true 1 N row] [Ir own N (iOf row)] := ⟨.rows (is_like c2), trivial⟩
      have b1 : Like (Ir own N (iOf row)) (.rows own true 1 N row) := .rows fun i hi => (is_like c2 i hi).symm
      rcases Ans.br_some g with ⟨h0, g0⟩ | ⟨h0, g0⟩ <;> clear g
      rotate_left
      · simp only [Ans.res, Option.some.injEq, Prod.mk.injEq] at g0
        obtain ⟨rfl, rfl⟩ := g0
        exact (MemSem.like (drealE0 N own M (iOf row)  cp h0) l1).likes ⟨b1, trivial⟩
      simp only [Ans.res, Option.some.injEq, Prod.mk.injEq] at g0
      obtain ⟨rfl, rfl⟩ := g0
      exact (MemSem.like (drealT N own M (iOf row)  cp h0) l1).likes ⟨b1, trivial⟩
    · cases h
  · cases h
def Cr45 (P : Program) : Cx := (Ck2 P).addM 45 drealF
theorem okr45 : CxOk (Cr45 Try.prog) := Cx.addM_ok okCk2 fun _ _ _ _ _ h hr => drealF_ok h hr
def Ck3 (P : Program) : Cx := (Cr45 P).lend 45
theorem okCk3 : CxOk (Ck3 Try.prog) := Cx.lend_ok okr45 _
end Go.Proofs.Ytjhijkdicmbbiaa
