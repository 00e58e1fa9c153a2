/-
  facetlaw15.small and zero as contracts. Nothing here is trusted.
-/
import Derived.Test.YtjhijkdicmbbiaaHTRl1
namespace Go.Proofs.Ytjhijkdicmbbiaa
open Go Vx Go.RowKit
/-- The coefficients that small lays, after i of the list. -/
def smC (D : Nat) (c : Nat → Int) (i q : Nat) : Int := if q < i ∧ q < D then Int.tmod (W (c q)) 1000 else 0
theorem smC_bd (D : Nat) (c : Nat → Int) (i q : Nat) : -999 ≤ smC D c i q ∧ smC D c i q ≤ 999 := by
  unfold smC
  split
  · have a := Int.tmod_lt_of_pos (W (c q)) (b := 1000) (by omega)
    have b := Int.lt_tmod_of_pos (W (c q)) (b := 1000) (by omega)
    omega
  · omega
theorem sml_fine (k : Nat) : fineB (sml k) = true := by
  unfold sml
  have h : k % 4 = 0 ∨ k % 4 = 1 ∨ k % 4 = 2 ∨ k % 4 = 3 := by omega
  rcases h with h | h | h | h <;> rw [h] <;> decide
theorem Wd {M : Int} (h : fineB M = true) : W (M.tdiv 3) = ((M.toNat / 3 : Nat) : Int) := by
  have hc := fine_cases h
  rcases hc with h | h | h | h <;> subst h <;> decide
theorem mkOk {M : Int} (h : fineB M = true) : (decide ((0 : Int) ≤ ((M.toNat / 3 : Nat) : Int)) && (decide (((M.toNat / 3 : Nat) : Int) ≤ ((M.toNat / 3 : Nat) : Int)) && (decide (((M.toNat / 3 : Nat) : Int) * (8 : Int) ≤ (140737488355328 : Int)) && decide (((M.toNat / 3 : Nat) : Int) ≤ (4611686018427387904 : Int))))) = true := by
  have hc := fine_cases h
  rcases hc with h | h | h | h <;> subst h <;> decide
theorem stR_i (g : Nat → Int) (j : Nat) (v : Int) (q : Nat) : stR (iRow g) j [vI v] q = iRow (putG g j v) q := by
  unfold stR
  by_cases h : q = j
  · subst h
    rw [Nat.beq_refl]
    simp only [iRow, putG, if_true]
    rfl
  · rw [beq_ne h]
    simp only [iRow, putG, if_neg h]
theorem sl_eq : Try.f50.body = some (slB Try.prog) := by kernel_rfl
theorem slRet (n D : Nat) (o : Bool) (c : Nat → Int) (M : Int) (f : Nat → Int) : (retA Try.prog Try.f50 (.ret, stOf 38 [(4, pt 1)] [Sr o n c, .cells true 0 [vI M, SI 2 D], Ir true D f])).res = some (.agg #[vI M, SI 2 D], [Sr o n c, .cells true 0 [vI M, SI 2 D], Ir true D f]) := by kernel_rfl
theorem slTidy (n D : Nat) (o : Bool) (c : Nat → Int) (M : Int) (f : Nat → Int) : (tidyA 1 [.fix 0, .cell 1 1] (.agg #[vI M, SI 2 D], [Sr o n c, .cells true 0 [vI M, SI 2 D], Ir true D f])).res = some (.agg #[vI M, SI 1 D], [Sr o n c, Ir true D f]) := by kernel_rfl
theorem slRetN (D : Nat) (M : Int) (f : Nat → Int) : (retA Try.prog Try.f50 (.ret, stOf 38 [(4, pt 0)] [.cells true 0 [vI M, SI 1 D], Ir true D f])).res = some (.agg #[vI M, SI 1 D], [.cells true 0 [vI M, SI 1 D], Ir true D f]) := by kernel_rfl
theorem slTidyN (D : Nat) (M : Int) (f : Nat → Int) : (tidyA 0 [.cell 0 1] (.agg #[vI M, SI 1 D], [.cells true 0 [vI M, SI 1 D], Ir true D f])).res = some (.agg #[vI M, SI 0 D], [Ir true D f]) := by kernel_rfl
theorem slFor : isFor 0 (stmt 3 (slB Try.prog)) = true := by kernel_rfl
theorem slHas : hasStmt 3 (slB Try.prog) = true := by kernel_rfl
theorem slIn : InBody ((Ck3 Try.prog).into 50 1) (forHead (stmt 3 (slB Try.prog))) ∧ InBody ((Ck3 Try.prog).into 50 1) (forBody (stmt 3 (slB Try.prog))) := for_in (C := Ck3 Try.prog) (f := 50) (B := 1) (id := 0) (k := 3) (fn := Try.f50) (b := slB Try.prog) Try.func50 sl_eq slFor
theorem slSem (k : Nat) (hk : k < 256) (n : Nat) (hn : n ≤ 9223372036854775807) (o : Bool) (c : Nat → Int) : MemSem Try.prog 50 [.int .u8 (k : Int), SI 0 n] [Sr o n c] (.agg #[vI (sml k), SI 1 ((sml k).toNat / 3)]) [Sr o n c, Ir true ((sml k).toNat / 3) (smC ((sml k).toNat / 3) c n)] := by
  have body0 : InBody ((Ck3 Try.prog).into 50 1) (slB Try.prog) := Or.inl ⟨Try.f50, slB Try.prog, Try.func50, sl_eq, fun _ hx => hx⟩
  have pA := slA k hk n o c
  have hM := sml_fine k
  generalize sml k = M at *
  have hc := fine_cases hM
  have p2 := slP2 n o c M
  rw [Wd hM, mkOk hM] at p2
  simp only [gd_true, Int.toNat_natCast] at p2
  have hh := end_rule' (C := Ck3 Try.prog) okCk3 (f := 50) (B := 1) slIn.1 (slHead n (M.toNat / 3) o c M (fun _ => 0))
  have hr : ∀ i, i < n → ∃ s, roundR ((Ck3 Try.prog).into 50 1) 60 (forBody (stmt 3 (slB Try.prog))) [4, 5, 17, 18, 19] [4, 5] [.fix 0, .slot 4, .slot 5, .cell 2 1] [.fix 0, .slot 4, .slot 5, .cell 2 1] (slX n (M.toNat / 3) o c M (iRow (smC (M.toNat / 3) c i)) (i : Int)) = some (.normal, s) ∧ StLike s (slX n (M.toNat / 3) o c M (iRow (smC (M.toNat / 3) c (i + 1))) ((i + 1 : Nat) : Int)) := fun i hi => by
    have r := slR n (M.toNat / 3) o c M (smC (M.toNat / 3) c i) i
    have hw : W ((i : Int) + 1) = ((i + 1 : Nat) : Int) := by rw [W_id (by omega) (by omega)]; simp
    rw [show decide ((i : Int) < (n : Int)) = true by simp; omega, boundsI_ok (n := n) (i := (i : Int)) (by omega)] at r
    simp only [gd_true, Int.toNat_natCast] at r
    by_cases hd : i < M.toNat / 3
    · rw [show decide ((i : Int) < ((M.toNat / 3 : Nat) : Int)) = true by simp; omega, boundsI_ok (n := M.toNat / 3) (i := (i : Int)) (by omega)] at r
      refine ⟨_, r, ?_⟩
      rw [hw]
      refine ⟨rfl, .refl _, .refl _, .refl _, .rows fun q _ => ?_, trivial⟩
      refine (stR_i _ _ _ q).trans ?_
      refine congrArg (fun v => [vI v]) (?_ : putG (smC (M.toNat / 3) c i) i (Int.tmod (W (c i)) 1000) q = smC (M.toNat / 3) c (i + 1) q)
      unfold putG smC
      by_cases hq : q = i
      · subst hq; rw [if_pos rfl, if_pos ⟨by omega, hd⟩]
      · rw [if_neg hq]
        by_cases h2 : q < i ∧ q < M.toNat / 3
        · rw [if_pos h2, if_pos ⟨by omega, h2.2⟩]
        · rw [if_neg h2, if_neg (by omega)]
    · rw [show decide ((i : Int) < ((M.toNat / 3 : Nat) : Int)) = false by simp; omega] at r
      refine ⟨_, r, ?_⟩
      rw [hw]
      refine ⟨rfl, .refl _, .refl _, .refl _, .rows fun q _ => ?_, trivial⟩
      refine congrArg (fun v => [vI v]) (?_ : smC (M.toNat / 3) c i q = smC (M.toNat / 3) c (i + 1) q)
      unfold smC
      by_cases h2 : q < i ∧ q < M.toNat / 3
      · rw [if_pos h2, if_pos ⟨by omega, h2.2⟩]
      · rw [if_neg h2, if_neg (by omega)]
  have hE := slR n (M.toNat / 3) o c M (smC (M.toNat / 3) c n) n
  rw [show decide ((n : Int) < (n : Int)) = false by simp] at hE
  have hl := run_loop (C := Ck3 Try.prog) okCk3 (f := 50) (B := 1) (m := 60) slIn.2 (by simp) n (fun i => slX n (M.toNat / 3) o c M (iRow (smC (M.toNat / 3) c i)) (i : Int)) hr hE
  have h0 : smC (M.toNat / 3) c 0 = fun _ => 0 := by funext q; unfold smC; rw [if_neg (by omega)]
  rw [← h0] at p2 hh
  exact (body_mem (m := [Sr o n c]) (args := [.int .u8 (k : Int), SI 0 n]) (f := 50) Try.func50 sl_eq (by kernel_rfl) (seg_rule (C := Ck3 Try.prog) okCk3 (f := 50) (B := 1) (k := 2) body0 pA (seg_rule (C := Ck3 Try.prog) okCk3 (f := 50) (B := 1) (k := 1) (bodyOf_in Try.func50 sl_eq) p2 (by rw [seqDrop_drop]; exact stmt_rule slHas (for_rule slFor hh hl) (end_rule' (C := Ck3 Try.prog) okCk3 (f := 50) (B := 1) (bodyOf_in Try.func50 sl_eq) (slEnd n (M.toNat / 3) o c M (smC (M.toNat / 3) c n)))))) (slRet n (M.toNat / 3) o c M _)).tidy (slTidy n (M.toNat / 3) o c M _)
theorem slSemN (k : Nat) (hk : k < 256) : MemSem Try.prog 50 [.int .u8 (k : Int), .slice none 0 0] [] (.agg #[vI (sml k), SI 0 ((sml k).toNat / 3)]) [Ir true ((sml k).toNat / 3) fun _ => 0] := by
  have body0 : InBody ((Ck3 Try.prog).into 50 0) (slB Try.prog) := Or.inl ⟨Try.f50, slB Try.prog, Try.func50, sl_eq, fun _ hx => hx⟩
  have pA := slAN k hk
  have hM := sml_fine k
  generalize sml k = M at *
  have p2 := slWN M
  rw [Wd hM, mkOk hM] at p2
  simp only [gd_true, Int.toNat_natCast] at p2
  exact (body_mem (m := []) (args := [.int .u8 (k : Int), .slice none 0 0]) (f := 50) Try.func50 sl_eq (by kernel_rfl) (seg_rule (C := Ck3 Try.prog) okCk3 (f := 50) (B := 0) (k := 2) body0 pA (end_rule' (C := Ck3 Try.prog) okCk3 (f := 50) (B := 0) (bodyOf_in Try.func50 sl_eq) p2)) (slRetN (M.toNat / 3) M _)).tidy (slTidyN (M.toNat / 3) M _)
def isS : List Value → Bool
  | [.int .i16 _] => true
  | _ => false
def okSs (n : Nat) (row : Nat → List Value) : Bool := (List.range n).all fun i => isS (row i)
def sOf (row : Nat → List Value) (i : Nat) : Int := match row i with
  | [.int .i16 v] => v
  | _ => 0
theorem okSs_row (n : Nat) (c : Nat → Int) : okSs n (sRow c) = true := List.all_eq_true.2 fun _ _ => rfl
theorem sOf_row (c : Nat → Int) : sOf (sRow c) = c := rfl
theorem ss_like {n : Nat} {row : Nat → List Value} (h : okSs n row = true) : rowsLike n row (sRow (sOf row)) := by
  intro i hi
  have := List.all_eq_true.1 h i (List.mem_range.2 hi)
  unfold sRow sOf
  unfold isS at this
  split at this
  · rename_i v hx
    simp only [hx]
  · cases this
def smallF : List Value → Mem → Option (Ans (Value × Mem))
  | [.int .u8 m, .slice none 0 0], [] => some (.br (decide (0 ≤ m) && decide (m < 256)) (.out (.agg #[vI (sml m.toNat), SI 0 ((sml m.toNat).toNat / 3)], [.rows true true 1 ((sml m.toNat).toNat / 3) (iRow fun _ => 0)])) .fail)
  | [.int .u8 m, .slice (some ⟨0, 0, some 0⟩) N 1], [.rows own true 1 N2 row] => some (.br (Nat.beq N N2 && (okSs N row && (decide (N ≤ 9223372036854775807) && (decide (0 ≤ m) && decide (m < 256))))) (.out (.agg #[vI (sml m.toNat), SI 1 ((sml m.toNat).toNat / 3)], [.rows own true 1 N row, .rows true true 1 ((sml m.toNat).toNat / 3) (iRow (smC ((sml m.toNat).toNat / 3) (sOf row) N))])) .fail)
  | _, _ => none
theorem smallF_ok {args : List Value} {m : Mem} {ans : Ans (Value × Mem)} {v : Value} {m' : Mem} (h : smallF args m = some ans) (hr : ans.res = some (v, m')) : MemSem Try.prog 50 args m v m' := by
  unfold smallF at h
  split at h
  · rename_i m
    simp only [Option.some.injEq] at h
    subst h
    rcases Ans.br_some hr with ⟨hc, g⟩ | ⟨_, g⟩ <;> clear hr
    rotate_left
    · simp [Ans.res] at g
    simp only [Bool.and_eq_true, decide_eq_true_eq] at hc
    simp only [Ans.res, Option.some.injEq, Prod.mk.injEq] at g
    obtain ⟨rfl, rfl⟩ := g
    have := slSemN m.toNat (by omega)
    rw [show ((m.toNat : Nat) : Int) = m by omega] at this
    exact this
  · rename_i m N own N2 row
    simp only [Option.some.injEq] at h
    subst h
    rcases Ans.br_some hr with ⟨hc, g⟩ | ⟨_, g⟩ <;> clear hr
    rotate_left
    · simp [Ans.res] at g
    simp only [Bool.and_eq_true, decide_eq_true_eq] at hc
    obtain ⟨c1, c2, c3, c4, c5⟩ := hc
    have e1 := Nat.eq_of_beq_eq_true c1
    subst e1
    simp only [Ans.res, Option.some.injEq, Prod.mk.injEq] at g
    obtain ⟨rfl, rfl⟩ := g
    have := slSem m.toNat (by omega) N c3 own (sOf row)
    rw [show ((m.toNat : Nat) : Int) = m by omega] at this
    have l1 : LikeL [.rows own true 1 N row] [Sr own N (sOf row)] := ⟨.rows (ss_like c2), trivial⟩
    exact (MemSem.like this l1).likes ⟨.rows fun i hi => (ss_like c2 i hi).symm, .refl _, trivial⟩
  · cases h
def Cr50 (P : Program) : Cx := (Ck3 P).addM 50 smallF
theorem okr50 : CxOk (Cr50 Try.prog) := Cx.addM_ok okCk3 fun _ _ _ _ _ h hr => smallF_ok h hr
theorem zr_eq : Try.f53.body = some (zrB Try.prog) := by kernel_rfl
theorem zrRet (n : Nat) (o : Bool) (c : Nat → Int) (t : Bool) : (retA Try.prog Try.f53 (.ret, stOf 19 [(2, .bool t)] [Ir o n c])).res = some (.bool t, [Ir o n c]) := by kernel_rfl
theorem zrRetF (n : Nat) (o : Bool) (M : Int) (c : Nat → Int) : (retA Try.prog Try.f53 (.ret, zrS n o M c)).res = some (.bool false, [Ir o n c, .cells true 0 [vI M, SI 0 n]]) := by kernel_rfl
theorem zrTidy (n : Nat) (o : Bool) (M : Int) (c : Nat → Int) : (tidyA 1 [.fix 0] (.bool false, [Ir o n c, .cells true 0 [vI M, SI 0 n]])).res = some (.bool false, [Ir o n c]) := by kernel_rfl
theorem zrFor : isFor 0 (stmt 1 (zrB Try.prog)) = true := by kernel_rfl
theorem zrHas : hasStmt 1 (zrB Try.prog) = true := by kernel_rfl
theorem zrIn : InBody ((Ck3 Try.prog).into 53 1) (forHead (stmt 1 (zrB Try.prog))) ∧ InBody ((Ck3 Try.prog).into 53 1) (forBody (stmt 1 (zrB Try.prog))) := for_in (C := Ck3 Try.prog) (f := 53) (B := 1) (id := 0) (k := 1) (fn := Try.f53) (b := zrB Try.prog) Try.func53 zr_eq zrFor
def zrV (n : Nat) (c : Nat → Int) : Bool := ((List.range n).all fun i => !(c i != 0)) && decide ((n : Int) > 0)
theorem zrSem (n : Nat) (hn : n ≤ 1048576) (o : Bool) (M : Int) (c : Nat → Int) : MemSem Try.prog 53 [.agg #[vI M, SI 0 n]] [Ir o n c] (.bool (zrV n c)) [Ir o n c] := by
  have body0 : InBody ((Ck3 Try.prog).into 53 1) (zrB Try.prog) := Or.inl ⟨Try.f53, zrB Try.prog, Try.func53, zr_eq, fun _ hx => hx⟩
  have hs := scan_loop (C := Ck3 Try.prog) okCk3 (f := 53) (B := 1) (m := 60) zrIn.2 (n := n) (by omega) (zrH n o M c) (fun i => c i != 0) (fun _ => zrS n o M c) 0 (zrS n o M c) (fun i _ => by
    have r := zrR n o M c i
    rw [r]
    cases decide ((i : Int) < (n : Int)) with
    | false => rfl
    | true =>
      cases boundsI (i : Int) n with
      | false => rfl
      | true => rfl)
  have hh := end_rule' (C := Ck3 Try.prog) okCk3 (f := 53) (B := 1) zrIn.1 (zrHead n o M c)
  have hsc := scan_all (n := n) (p := fun i => c i != 0)
  unfold zrV
  cases hk : fst? (fun i => c i != 0) n 0 with
  | none =>
    rw [hsc.1 hk, Bool.true_and]
    exact body_mem (m := [Ir o n c]) (args := [.agg #[vI M, SI 0 n]]) (f := 53) Try.func53 zr_eq (by kernel_rfl) (seg_rule (C := Ck3 Try.prog) okCk3 (f := 53) (B := 1) (k := 1) body0 (zrP0 n o M c) (stmt_rule zrHas (for_rule zrFor hh (hs.2 hk)) (end_rule' (C := Ck3 Try.prog) okCk3 (f := 53) (B := 1) (bodyOf_in Try.func53 zr_eq) (zrEnd n o M c)))) (zrRet n o c _)
  | some k =>
    rw [hsc.2 k hk, Bool.false_and]
    exact (body_mem (m := [Ir o n c]) (args := [.agg #[vI M, SI 0 n]]) (f := 53) Try.func53 zr_eq (by kernel_rfl) (seg_rule (C := Ck3 Try.prog) okCk3 (f := 53) (B := 1) (k := 1) body0 (zrP0 n o M c) (stmt_out zrHas (for_ret zrFor hh (hs.1 k hk)) (by simp))) (zrRetF n o M c)).tidy (zrTidy n o M c)
def zeroF : List Value → Mem → Option (Ans (Value × Mem))
  | [.agg a], mm => match a.toList, mm with
    | [.int .i64 _, .slice (some ⟨0, 0, some 0⟩) N 1], [.rows own true 1 N2 row] => some (.br (Nat.beq N N2 && (okIs N row && decide (N ≤ 1048576))) (.out (.bool (zrV N (iOf row)), [.rows own true 1 N row])) .fail)
    | _, _ => none
  | _, _ => none
theorem zeroF_ok {args : List Value} {m : Mem} {ans : Ans (Value × Mem)} {v : Value} {m' : Mem} (h : zeroF args m = some ans) (hr : ans.res = some (v, m')) : MemSem Try.prog 53 args m v m' := by
  unfold zeroF at h
  split at h
  · rename_i mm a
    split at h
    · rename_i M N own N2 row e1
      have ha : a = #[vI M, SI 0 N] := by apply Array.ext'; simpa [SI, vI] using e1
      subst ha
      simp only [Option.some.injEq] at h
      subst h
      rcases Ans.br_some hr with ⟨hc, g⟩ | ⟨_, g⟩ <;> clear hr
      rotate_left
      · simp [Ans.res] at g
      simp only [Bool.and_eq_true, decide_eq_true_eq] at hc
      obtain ⟨c1, c2, c3⟩ := hc
      have e1 := Nat.eq_of_beq_eq_true c1
      subst e1
      simp only [Ans.res, Option.some.injEq, Prod.mk.injEq] at g
      obtain ⟨rfl, rfl⟩ := g
      have l1 : LikeL [.rows own true 1 N row] [Ir own N (iOf row)] := ⟨.rows (is_like c2), trivial⟩
      exact (MemSem.like (zrSem N c3 own M (iOf row)) l1).likes ⟨.rows fun i hi => (is_like c2 i hi).symm, trivial⟩
    · cases h
  · cases h
def Cr53 (P : Program) : Cx := (Cr50 P).addM 53 zeroF
theorem okr53 : CxOk (Cr53 Try.prog) := Cx.addM_ok okr50 fun _ _ _ _ _ h hr => zeroF_ok h hr
end Go.Proofs.Ytjhijkdicmbbiaa
