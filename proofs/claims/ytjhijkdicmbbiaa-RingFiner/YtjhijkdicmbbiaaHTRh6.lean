/-
  facetref15.DocConj as a contract; DocTimes, told. Nothing here is trusted.
-/
import Derived.Test.YtjhijkdicmbbiaaHTRh5
namespace Go.Proofs.Ytjhijkdicmbbiaa
open Go Vx Go.RowKit
theorem doc_res {M : Int} {i : Nat} (h : fineB M = true) (hi : (i : Int) < M) : (W (M - (i : Int))).tmod M = ((Rin.bkI (M.toNat / 6) i : Nat) : Int) := by
  have hc := fine_cases h
  obtain ⟨s1, s2, s3, s4⟩ := six h
  rw [W_in (by omega), Rin.bkI_small (by omega), Int.tmod_eq_emod_of_nonneg (by omega)]
  by_cases h0 : i = 0
  · subst h0; simp
  · rw [if_neg h0, Int.emod_eq_of_lt (by omega) (by omega)]; omega
theorem dcFor : isFor 0 (stmt 3 (dcB Try.prog)) = true := by kernel_rfl
theorem dcHas : hasStmt 1 (dcB Try.prog) = true ∧ hasStmt 3 (dcB Try.prog) = true := ⟨by kernel_rfl, by kernel_rfl⟩
theorem dcIn : InBody ((Cg3 Try.prog).into 37 1) (forHead (stmt 3 (dcB Try.prog))) ∧ InBody ((Cg3 Try.prog).into 37 1) (forBody (stmt 3 (dcB Try.prog))) := for_in (C := Cg3 Try.prog) (f := 37) (B := 1) (id := 0) (k := 3) (fn := Try.f37) (b := dcB Try.prog) Try.func37 dc_eq dcFor
def rsY (N a b : Nat) (n : Nat) (o : Bool) (c f : Nat → Int) (m : Int) : St := stOf N [(a, pt 1), (b, vI 0)] [Ir o n c, .cells true 0 [vI m, SI 2 (m.toNat / 3)], .rows true true 1 (m.toNat / 3) (iRow f)]
theorem dcRet (n : Nat) (o : Bool) (c f : Nat → Int) (m : Int) : (retA Try.prog Try.f37 (.ret, rsY 40 2 3 n o c f m)).res = some (rgV m (SI 2 (m.toNat / 3)) 0, [Ir o n c, .cells true 0 [vI m, SI 2 (m.toNat / 3)], .rows true true 1 (m.toNat / 3) (iRow f)]) := by kernel_rfl
theorem dcRetF (n : Nat) (o : Bool) (c : Nat → Int) (e : Int) : (retA Try.prog Try.f37 (.ret, stOf 40 [(2, pt 1), (3, vI e)] [Ir o n c, .cells true 0 [vI 0, .slice none 0 0], .no])).res = some (rgE e, [Ir o n c, .cells true 0 [vI 0, .slice none 0 0], .no]) := by kernel_rfl
theorem dcRetE (n : Nat) (o : Bool) (c : Nat → Int) (e : Int) : (retA Try.prog Try.f37 (.ret, stOf 40 [(2, pt 1), (3, vI e)] [Ir o n c, .cells true 0 [vI 0, .slice none 0 0]])).res = some (rgE e, [Ir o n c, .cells true 0 [vI 0, .slice none 0 0]]) := by kernel_rfl
theorem dcE0 (n : Nat) (o : Bool) (M : Int) (c : Nat → Int) (h0 : frmB M n c = false) : MemSem Try.prog 37 [.agg #[vI M, SI 0 n]] [Ir o n c] (rgE 3) [Ir o n c] := by
  have body0 : InBody ((Cg3 Try.prog).into 37 1) (dcB Try.prog) := Or.inl ⟨Try.f37, dcB Try.prog, Try.func37, dc_eq, fun _ hx => hx⟩
  have p1 := dcP1 n o M c
  simp only [rules] at p1
  simp only [nots, h0] at p1
  exact (body_mem (m := [Ir o n c]) (args := [.agg #[vI M, SI 0 n]]) (f := 37) Try.func37 dc_eq (by kernel_rfl) (seg_rule (C := Cg3 Try.prog) okg3 (f := 37) (B := 1) (k := 1) body0 (dcP0 n o M c) (stmt_out dcHas.1 (end_rule' (C := Cg3 Try.prog) okg3 (f := 37) (B := 1) (stmt_in Try.func37 dc_eq) p1) (by simp))) (dcRetE n o c 3)).tidy (tmTidyE n o c 3)
theorem dcAll (n : Nat) (o : Bool) (M : Int) (c : Nat → Int) (h0 : frmB M n c = true) :
    (allR (M.toNat / 3) (Rin.conjE (M.toNat / 6) c) = true → MemSem Try.prog 37 [.agg #[vI M, SI 0 n]] [Ir o n c] (rgV M (SI 1 (M.toNat / 3)) 0) [Ir o n c, Ir true (M.toNat / 3) (Rin.conjE (M.toNat / 6) c)]) ∧
    (allR (M.toNat / 3) (Rin.conjE (M.toNat / 6) c) = false → MemSem Try.prog 37 [.agg #[vI M, SI 0 n]] [Ir o n c] (rgE 4) [Ir o n c]) := by
  have body0 : InBody ((Cg3 Try.prog).into 37 1) (dcB Try.prog) := Or.inl ⟨Try.f37, dcB Try.prog, Try.func37, dc_eq, fun _ hx => hx⟩
  obtain ⟨f1, e1, r1⟩ := frm_fine h0
  obtain ⟨s1, s2, s3, s4⟩ := six f1
  obtain ⟨d1, d2, d3, _⟩ := dm_ok f1
  have hc := fine_cases f1
  have en : n = 2 * (M.toNat / 6) := by omega
  have p1 := dcP1 n o M c
  simp only [rules] at p1
  simp only [nots, h0] at p1
  have p2 := dcP2 n o M c
  rw [d1] at p2
  have hh := end_rule (C := Cg3 Try.prog) okg3 (f := 37) (B := 1) dcIn.1 (dcHead n M.toNat o M c)
  have hr : ∀ i, i < n → ∃ s, roundR ((Cg3 Try.prog).into 37 1) 60 (forBody (stmt 3 (dcB Try.prog))) [1, 2, 3, 4, 15, 16, 17] [1, 2, 3, 4] spC spC (dcX n M.toNat o c M (dRow (Rin.tbP (M.toNat / 6) c i)) (i : Int)) = some (.normal, s) ∧ StLike s (dcX n M.toNat o c M (dRow (Rin.tbP (M.toNat / 6) c (i + 1))) ((i + 1 : Nat) : Int)) := fun i hi => by
    have r := dcR n M.toNat o M i c (Rin.tbP (M.toNat / 6) c i)
    have hb := Rin.bkI_lt s2 i
    rw [show decide ((i : Int) < (n : Int)) = true by simp; omega, boundsI_ok (n := n) (i := (i : Int)) (by omega), d2, doc_res f1 (by omega), boundsI_ok (n := M.toNat) (i := ((Rin.bkI (M.toNat / 6) i : Nat) : Int)) (by omega)] at r
    simp only [rules, Int.toNat_natCast, i64_rg (List.all_eq_true.1 r1 i (List.mem_range.2 hi))] at r
    refine ⟨_, r, ?_⟩
    rw [show W ((i : Int) + 1) = ((i + 1 : Nat) : Int) by rw [W_in (by omega)]; simp]
    exact ⟨rfl, .refl _, .refl _, .refl _, .rows fun q _ => stR_d (Rin.tbP (M.toNat / 6) c i) (Rin.bkI (M.toNat / 6) i) (c i) q, trivial⟩
  have hE := dcR n M.toNat o M n c (Rin.tbP (M.toNat / 6) c n)
  rw [show decide ((n : Int) < (n : Int)) = false by simp] at hE
  have hl := run_loop (C := Cg3 Try.prog) okg3 (f := 37) (B := 1) (m := 60) dcIn.2 (by simp) n (fun i => dcX n M.toNat o c M (dRow (Rin.tbP (M.toNat / 6) c i)) (i : Int)) hr hE
  have front : ∀ {s}, CodeSem Try.prog 1 (seqDrop 4 (dcB Try.prog)) (dcW n M.toNat o c M (dRow (Rin.tbP (M.toNat / 6) c n))) .ret s → CodeSem Try.prog 1 (dcB Try.prog) (enter Try.f37 [.agg #[vI M, SI 0 n]] [Ir o n c]) .ret s := fun hs =>
    seg_rule (C := Cg3 Try.prog) okg3 (f := 37) (B := 1) (k := 1) body0 (dcP0 n o M c) (stmt_rule dcHas.1 (end_rule' (C := Cg3 Try.prog) okg3 (f := 37) (B := 1) (stmt_in Try.func37 dc_eq) p1) (seg_rule (C := Cg3 Try.prog) okg3 (f := 37) (B := 1) (k := 1) (bodyOf_in Try.func37 dc_eq) p2 (by rw [seqDrop_drop]; exact stmt_rule dcHas.2 (for_rule dcFor hh hl) hs)))
  have hb := tbP_in (e := M.toNat / 6) n fun i hi => List.all_eq_true.1 r1 i (List.mem_range.2 hi)
  have hcf : cofE (M.toNat / 6) M.toNat (cut M.toNat (lOf M.toNat (dRow (Rin.tbP (M.toNat / 6) c n)))) = Rin.conjE (M.toNat / 6) c := by
    rw [cof_on (g := Rin.tbP (M.toNat / 6) c n) (fun _ _ => rfl) fun i a b => by omega]
    unfold Rin.conjE
    rw [← s4, ← en]
  have hok := okLs_on (n := M.toNat) (row := dRow (Rin.tbP (M.toNat / 6) c n)) (g := Rin.tbP (M.toNat / 6) c n) (fun _ _ => rfl) fun i _ => by have := hb i; omega
  have he := dcEnd n M.toNat o M c (Rin.tbP (M.toNat / 6) c n)
  simp only [rules, f1, hok, d3, hcf] at he
  refine ⟨fun hA => ?_, fun hA => ?_⟩
  · rw [hA] at he
    exact (body_mem (m := [Ir o n c]) (args := [.agg #[vI M, SI 0 n]]) (f := 37) Try.func37 dc_eq (by kernel_rfl) (front (end_rule (C := Cg3 Try.prog) okg3 (f := 37) (B := 1) (bodyOf_in Try.func37 dc_eq) he)) (dcRet n o c _ M)).tidy (tmTidy n o c _ M)
  · rw [hA] at he
    exact (body_mem (m := [Ir o n c]) (args := [.agg #[vI M, SI 0 n]]) (f := 37) Try.func37 dc_eq (by kernel_rfl) (front (end_rule (C := Cg3 Try.prog) okg3 (f := 37) (B := 1) (bodyOf_in Try.func37 dc_eq) he)) (dcRetF n o c 4)).tidy (tmTidyF n o c 4)
theorem dconjT (n : Nat) (o : Bool) (M : Int) (c : Nat → Int) (_ : True) (h0 : frmB M n c = true) (h1 : allR (M.toNat / 3) (Rin.conjE (M.toNat / 6) c) = true) : MemSem Try.prog 37 [.agg #[vI M, SI 0 n]] [Ir o n c] (rgV M (SI 1 (M.toNat / 3)) 0) [Ir o n c, Ir true (M.toNat / 3) (Rin.conjE (M.toNat / 6) c)] := (dcAll n o M c h0).1 h1
theorem dconjE0 (n : Nat) (o : Bool) (M : Int) (c : Nat → Int) (_ : True) (h0 : frmB M n c = false) : MemSem Try.prog 37 [.agg #[vI M, SI 0 n]] [Ir o n c] (rgE 3) [Ir o n c] := dcE0 n o M c h0
theorem dconjE1 (n : Nat) (o : Bool) (M : Int) (c : Nat → Int) (_ : True) (h0 : frmB M n c = true) (h1 : allR (M.toNat / 3) (Rin.conjE (M.toNat / 6) c) = false) : MemSem Try.prog 37 [.agg #[vI M, SI 0 n]] [Ir o n c] (rgE 4) [Ir o n c] := (dcAll n o M c h0).2 h1
def dconjF : List Value → Mem → Option (Ans (Value × Mem))
  | [.agg a], mm => match a.toList, mm with
    | [.int .i64 _, .slice none 0 0], [] => some (.out (rgE 3, []))
    | [.int .i64 M, .slice (some ⟨0, 0, some 0⟩) N 1], [.rows own true 1 N2 row] => some (.br (true && (Nat.beq N N2 && okIs N row)) (.br (frmB M N (iOf row)) (.br (allR (M.toNat / 3) (Rin.conjE (M.toNat / 6) (iOf row))) (.out (rgV M (SI 1 (M.toNat / 3)) 0, [.rows own true 1 N row, .rows true true 1 (M.toNat / 3) (iRow (Rin.conjE (M.toNat / 6) (iOf row)))])) (.out (rgE 4, [.rows own true 1 N row]))) (.out (rgE 3, [.rows own true 1 N row]))) .fail)
    | _, _ => none
  | _, _ => none
theorem dconjF_ok {args : List Value} {m : Mem} {ans : Ans (Value × Mem)} {v : Value} {m' : Mem} (h : dconjF args m = some ans) (hr : ans.res = some (v, m')) : MemSem Try.prog 37 args m v m' := by
  unfold dconjF at h
  split at h
  · rename_i mm a
    split at h
    · rename_i M e1
      have ha : a = #[vI M, .slice none 0 0] := by apply Array.ext'; simpa [vI] using e1
      subst ha
      simp only [Option.some.injEq] at h
      subst h
      simp only [Ans.res, Option.some.injEq, Prod.mk.injEq] at hr
      obtain ⟨rfl, rfl⟩ := hr
      exact exT_ok okg3 Try.func37 (by kernel_rfl) (dcN _)
    · rename_i M N own N2 row e1
      have ha : a = #[vI M, SI 0 N] := by apply Array.ext'; simpa [SI, vI] using e1
      subst ha
      simp only [Option.some.injEq] at h
      subst h
      rcases Ans.br_some hr with ⟨hc, g⟩ | ⟨_, g⟩ <;> clear hr
      rotate_left
      · simp [Ans.res] at g
      simp only [Bool.and_eq_true] at hc
      obtain ⟨cp, c1, c2⟩ := hc
      have e1 := Nat.eq_of_beq_eq_true c1
      subst e1
      have l1 : LikeL [.rows own true 1 N row] [Ir own N (iOf row)] := ⟨.rows (is_like c2), trivial⟩
      have b1 : Like (Ir own N (iOf row)) (.rows own true 1 N row) := .rows fun i hi => (is_like c2 i hi).symm
      rcases Ans.br_some g with ⟨h0, g0⟩ | ⟨h0, g0⟩ <;> clear g
      rotate_left
      · simp only [Ans.res, Option.some.injEq, Prod.mk.injEq] at g0
        obtain ⟨rfl, rfl⟩ := g0
        exact (MemSem.like (dconjE0 N own M (iOf row)  cp h0) l1).likes ⟨b1, trivial⟩
      rcases Ans.br_some g0 with ⟨h1, g1⟩ | ⟨h1, g1⟩ <;> clear g0
      rotate_left
      · simp only [Ans.res, Option.some.injEq, Prod.mk.injEq] at g1
        obtain ⟨rfl, rfl⟩ := g1
        exact (MemSem.like (dconjE1 N own M (iOf row)  cp h0 h1) l1).likes ⟨b1, trivial⟩
      simp only [Ans.res, Option.some.injEq, Prod.mk.injEq] at g1
      obtain ⟨rfl, rfl⟩ := g1
      exact (MemSem.like (dconjT N own M (iOf row)  cp h0 h1) l1).likes ⟨b1, .refl _, trivial⟩
    · cases h
  · cases h
def Cr37 (P : Program) : Cx := (Cg3 P).addM 37 dconjF
theorem okr37 : CxOk (Cr37 Try.prog) := Cx.addM_ok okg3 fun _ _ _ _ _ h hr => dconjF_ok h hr
def Cg4 (P : Program) : Cx := (Cr37 P).lend 37
theorem okCg4 : CxOk (Cg4 Try.prog) := Cx.lend_ok okr37 _
end Go.Proofs.Ytjhijkdicmbbiaa
