/-
  ring.turnedBack, ring.Conj, told. Nothing here is trusted.
-/
import Derived.Test.YtjhijkdicmbbiaaHTRh2
import Derived.Test.YtjhijkdicmbbiaaKaj
namespace Go.Proofs.Ytjhijkdicmbbiaa
open Go Vx Go.RowKit
def tbB (P : Program) : Code := bodyOf P 112
theorem tb_eq : Try.f112.body = some (tbB Try.prog) := by kernel_rfl
def tbS (n K : Nat) (o : Bool) (c : Nat → Int) (M : Int) (g : Nat → List Value) : St := stOf 28 [(1, pt 1), (3, SWb 2 K)] [Ir o n c, .cells true 0 [vI M, SI 0 n], .rows true true 2 K g]
def tbX (n K : Nat) (o : Bool) (c : Nat → Int) (M : Int) (g : Nat → List Value) (i : Int) : St := stOf 28 [(1, pt 1), (3, SWb 2 K), (10, SI 0 n), (11, vI n), (12, vI i)] [Ir o n c, .cells true 0 [vI M, SI 0 n], .rows true true 2 K g]
def tbZ (n K : Nat) (o : Bool) (c : Nat → Int) (g : Nat → List Value) : St := stOf 28 [(3, SWb 1 K)] [Ir o n c, .rows true true 2 K g]
def tbY (n K : Nat) (o : Bool) (c : Nat → Int) (g : Nat → List Value) : St := stOf 28 [(2, SWb 1 K)] [Ir o n c, .rows true true 2 K g]
theorem tbP0 (n : Nat) (o : Bool) (M : Int) (c : Nat → Int) : segR ((Cl0 Try.prog).into 112 1) 60 2 (tbB Try.prog) [1, 3] [.fix 0, .slot 1, .slot 3] (enter Try.f112 [.agg #[vI M, SI 0 n]] [Ir o n c]) = gd (decide ((0 : Int) ≤ M) && (decide (M ≤ M) && (decide (M * (16 : Int) ≤ (140737488355328 : Int)) && decide (M ≤ (4611686018427387904 : Int))))) (some (stOf 28 [(1, pt 1), (3, SWb 2 (Int.toNat M))] [.rows (o) true 1 (n) (iRow c), .cells true 0 [vI (M), SI 0 (n)], .rows true true 2 (Int.toNat M) zR])) := by kernel_rfl
theorem tbHead (n K : Nat) (o : Bool) (c : Nat → Int) (M : Int) : roundR ((Cl0 Try.prog).into 112 1) 60 (forHead (stmt 2 (tbB Try.prog))) [1, 3, 10, 11, 12] [1, 3, 10, 11, 12] [.fix 0, .slot 1, .slot 3] [.fix 0, .slot 1, .slot 3] (tbS n K o c M zR) = some ((.normal, stOf 28 [(1, pt 1), (3, SWb 2 (K)), (10, SI 0 (n)), (11, vI (↑n)), (12, vI ((0 : Int)))] [.rows (o) true 1 (n) (iRow c), .cells true 0 [vI (M), SI 0 (n)], .rows true true 2 (K) (zR)])) := by kernel_rfl
theorem tbR (n K : Nat) (o : Bool) (c g : Nat → Int) (M i : Int) : roundR ((Cl0 Try.prog).into 112 1) 60 (forBody (stmt 2 (tbB Try.prog))) [1, 3, 10, 11, 12] [3] [.fix 0, .slot 1, .slot 3] [.fix 0, .slot 3] (tbX n K o c M (wRow g) i) = (match decide (i < ↑n) with
  | true => gd (boundsI i n) (gd (fineB M) (gd (i64B (c (Int.toNat i))) (gd (boundsI (W ((0 : Int) - i) % M) K) (some ((.normal, stOf 28 [(1, pt 1), (3, SWb 2 (K)), (10, SI 0 (n)), (11, vI (↑n)), (12, vI (W (i + (1 : Int))))] [.rows (o) true 1 (n) (iRow c), .cells true 0 [vI (M), SI 0 (n)], .rows true true 2 (K) (stR (wRow g) (Int.toNat (W ((0 : Int) - i) % M)) (w2 (c (Int.toNat i))))]))))))
  | false => some ((.exit 0, stOf 28 [(3, SWb 1 (K))] [.rows (o) true 1 (n) (iRow c), .rows true true 2 (K) (wRow g)]))) := by kernel_rfl
theorem tbEnd (n K : Nat) (o : Bool) (c g : Nat → Int) : roundR ((Cl0 Try.prog).into 112 1) 60 (seqDrop 3 (tbB Try.prog)) [2] [2] [.fix 0, .slot 2] [.fix 0, .slot 2] (tbZ n K o c (wRow g)) = some ((.ret, stOf 28 [(2, SWb 1 (K))] [.rows (o) true 1 (n) (iRow c), .rows true true 2 (K) (wRow g)])) := by kernel_rfl
theorem tbRet (n K : Nat) (o : Bool) (c g : Nat → Int) : (retA Try.prog Try.f112 (.ret, tbY n K o c (wRow g))).res = some (SWb 1 K, [Ir o n c, .rows true true 2 K (wRow g)]) := by kernel_rfl
theorem tbFor : isFor 0 (stmt 2 (tbB Try.prog)) = true := by kernel_rfl
theorem tbHas : hasStmt 2 (tbB Try.prog) = true := by kernel_rfl
theorem tbIn : InBody ((Cl0 Try.prog).into 112 1) (forHead (stmt 2 (tbB Try.prog))) ∧ InBody ((Cl0 Try.prog).into 112 1) (forBody (stmt 2 (tbB Try.prog))) := for_in (C := Cl0 Try.prog) (f := 112) (B := 1) (id := 0) (k := 2) (fn := Try.f112) (b := tbB Try.prog) Try.func112 tb_eq tbFor
theorem neg_res {M : Int} {i : Nat} (h : fineB M = true) (hi : (i : Int) < M) : W (0 - (i : Int)) % M = ((Rin.bkI (M.toNat / 6) i : Nat) : Int) := by
  have hc := fine_cases h
  obtain ⟨s1, s2, s3, s4⟩ := six h
  rw [W_in (by omega), Rin.bkI_small (by omega)]
  by_cases h0 : i = 0
  · subst h0; simp
  · rw [if_neg h0]
    have : (0 - (i : Int)) % M = M - i := by
      rw [show (0 - (i : Int)) = (M - i) + M * (-1) by omega, Int.add_mul_emod_self_left, Int.emod_eq_of_lt (by omega) (by omega)]
    rw [this]; omega
def spB : List From := [.fix 0, .slot 1, .slot 3]
theorem tbSem (n : Nat) (o : Bool) (M : Int) (c : Nat → Int) (h : frmB M n c = true) : MemSem Try.prog 112 [.agg #[vI M, SI 0 n]] [Ir o n c] (SWb 1 M.toNat) [Ir o n c, .rows true true 2 M.toNat (wRow (Rin.tbP (M.toNat / 6) c n))] := by
  obtain ⟨f1, e1, r1⟩ := frm_fine h
  obtain ⟨s1, s2, s3, s4⟩ := six f1
  have hc := fine_cases f1
  have body0 : InBody ((Cl0 Try.prog).into 112 1) (tbB Try.prog) := Or.inl ⟨Try.f112, tbB Try.prog, Try.func112, tb_eq, fun _ hx => hx⟩
  have p0 := tbP0 n o M c
  rw [decide_eq_true (by omega : (0 : Int) ≤ M), decide_eq_true (Int.le_refl M), decide_eq_true (by omega : M * 16 ≤ 140737488355328), decide_eq_true (by omega : M ≤ 4611686018427387904)] at p0
  simp only [rules] at p0
  have hh := end_rule (C := Cl0 Try.prog) okl0 (f := 112) (B := 1) tbIn.1 (tbHead n M.toNat o c M)
  have hr : ∀ i, i < n → ∃ s, roundR ((Cl0 Try.prog).into 112 1) 60 (forBody (stmt 2 (tbB Try.prog))) [1, 3, 10, 11, 12] [3] spB [.fix 0, .slot 3] (tbX n M.toNat o c M (wRow (Rin.tbP (M.toNat / 6) c i)) (i : Int)) = some (.normal, s) ∧ StLike s (tbX n M.toNat o c M (wRow (Rin.tbP (M.toNat / 6) c (i + 1))) ((i + 1 : Nat) : Int)) := fun i hi => by
    have r := tbR n M.toNat o c (Rin.tbP (M.toNat / 6) c i) M i
    have hb := Rin.bkI_lt s2 i
    rw [show decide ((i : Int) < (n : Int)) = true by simp; omega, boundsI_ok (n := n) (i := (i : Int)) (by omega), f1, neg_res f1 (by omega), boundsI_ok (n := M.toNat) (i := ((Rin.bkI (M.toNat / 6) i : Nat) : Int)) (by omega)] at r
    simp only [gd_true, Int.toNat_natCast, i64_rg (List.all_eq_true.1 r1 i (List.mem_range.2 hi))] at r
    refine ⟨_, r, ?_⟩
    rw [show W ((i : Int) + 1) = ((i + 1 : Nat) : Int) by rw [W_in (by omega)]; simp]
    refine ⟨rfl, .refl _, .refl _, .rows fun q _ => ?_, trivial⟩
    rw [stR_w]
    rfl
  have hE := tbR n M.toNat o c (Rin.tbP (M.toNat / 6) c n) M n
  rw [show decide ((n : Int) < (n : Int)) = false by simp] at hE
  have hl := run_loop (C := Cl0 Try.prog) okl0 (f := 112) (B := 1) (m := 60) tbIn.2 (by simp) n (fun i => tbX n M.toNat o c M (wRow (Rin.tbP (M.toNat / 6) c i)) (i : Int)) hr hE
  exact body_mem (m := [Ir o n c]) (args := [.agg #[vI M, SI 0 n]]) (f := 112) Try.func112 tb_eq (by kernel_rfl) (seg_rule (C := Cl0 Try.prog) okl0 (f := 112) (B := 1) (k := 2) body0 p0 (stmt_rule tbHas (for_rule tbFor hh hl) (end_rule (C := Cl0 Try.prog) okl0 (f := 112) (B := 1) (bodyOf_in Try.func112 tb_eq) (tbEnd n M.toNat o c (Rin.tbP (M.toNat / 6) c n))))) (tbRet n M.toNat o c (Rin.tbP (M.toNat / 6) c n))
def tbF : List Value → Mem → Option (Ans (Value × Mem))
  | [.agg a], mm => match a.toList, mm with
    | [.int .i64 M, .slice (some ⟨0, 0, some 0⟩) N 1], [.rows own true 1 N2 row] => some (.br (Nat.beq N N2 && (okIs N row && frmB M N (iOf row))) (.out (SWb 1 M.toNat, [.rows own true 1 N row, .rows true true 2 M.toNat (wRow (Rin.tbP (M.toNat / 6) (iOf row) N))])) .fail)
    | _, _ => none
  | _, _ => none
theorem tbF_ok {args : List Value} {m : Mem} {ans : Ans (Value × Mem)} {v : Value} {m' : Mem} (h : tbF args m = some ans) (hr : ans.res = some (v, m')) : MemSem Try.prog 112 args m v m' := by
  unfold tbF at h
  split at h
  · rename_i mm a
    split at h
    · rename_i M N own N2 row e1
      have ha : a = #[vI M, SI 0 N] := by apply Array.ext'; simpa [SI, vI] using e1
      subst ha
      simp only [Option.some.injEq] at h
      subst h
      rcases Ans.br_some hr with ⟨hc, g⟩ | ⟨_, g⟩ <;> clear hr
      rotate_left
      · simp [Ans.res] at g
      simp only [Bool.and_eq_true] at hc
      obtain ⟨c1, c2, c3⟩ := hc
      have e1 := Nat.eq_of_beq_eq_true c1
      subst e1
      simp only [Ans.res, Option.some.injEq, Prod.mk.injEq] at g
      obtain ⟨rfl, rfl⟩ := g
      have l1 : LikeL [.rows own true 1 N row] [Ir own N (iOf row)] := ⟨.rows (is_like c2), trivial⟩
      exact (MemSem.like (tbSem N own M (iOf row) c3) l1).likes ⟨.rows fun i hi => (is_like c2 i hi).symm, .refl _, trivial⟩
    · cases h
  · cases h
def Cr112 (P : Program) : Cx := (Cl0 P).addM 112 tbF
theorem okr112 : CxOk (Cr112 Try.prog) := Cx.addM_ok okl0 fun _ _ _ _ _ h hr => tbF_ok h hr
def Cg1 (P : Program) : Cx := (Cr112 P).makes 112 []
theorem okg1 : CxOk (Cg1 Try.prog) := Cx.makes_ok okr112 _ _
theorem cjN (M : Int) : exT ((Cg1 Try.prog).at 36) 60 Try.f36 [.agg #[vI M, .slice none 0 0]] [] [] = some ((.tuple #[.agg #[vI ((0 : Int)), .slice none 0 0], vI ((3 : Int))], [])) := by kernel_rfl
theorem cjL (n : Nat) (o : Bool) (M : Int) (c : Nat → Int) : exT ((Cg1 Try.prog).at 36) 60 Try.f36 [.agg #[vI M, SI 0 n]] [Ir o n c] [.fix 0, .cell 2 1] = gd (Nat.ble (0 + n) n && true && true) (gd (Nat.beq n n && okIs n (shiftR 0 (iRow c))) ((match !frmB M n (iOf (shiftR 0 (iRow c))) with
  | true => some ((.tuple #[.agg #[vI ((0 : Int)), .slice none 0 0], vI ((3 : Int))], [.rows (o) true 1 (n) (iRow c), .no]))
  | false => gd (Nat.ble (0 + n) n && true && true) (gd (Nat.beq n n && (okIs n (shiftR 0 (iRow c)) && frmB M n (iOf (shiftR 0 (iRow c))))) (gd (fineB M && (Nat.beq (Int.toNat M) (Int.toNat M) && (okWs (Int.toNat M) (wRow (Rin.tbP (Int.toNat M / 6) (iOf (shiftR 0 (iRow c))) n)) && (decide (M ≤ (3 : Int) * ↑(Int.toNat M)) && decide (Int.toNat M ≤ 1048576))))) ((match allF (Int.toNat M / 3) (cofG (Int.toNat M) (Int.toNat M / 3) (gOf (wRow (Rin.tbP (Int.toNat M / 6) (iOf (shiftR 0 (iRow c))) n)))) with
  | true => some ((.tuple #[.agg #[vI (M), SI 1 (Int.toNat M / 3)], vI ((0 : Int))], [.rows (o) true 1 (n) (iRow c), .rows true true 1 (Int.toNat M / 3) (iRow fun i => nar (cofG (Int.toNat M) (Int.toNat M / 3) (gOf (wRow (Rin.tbP (Int.toNat M / 6) (iOf (shiftR 0 (iRow c))) n))) i))]))
  | false => some ((.tuple #[.agg #[vI ((0 : Int)), .slice none 0 0], vI ((4 : Int))], [.rows (o) true 1 (n) (iRow c), .no]))))))))) := by kernel_rfl
theorem cjE (n : Nat) (o : Bool) (M : Int) (c : Nat → Int) : exT ((Cg1 Try.prog).at 36) 60 Try.f36 [.agg #[vI M, SI 0 n]] [Ir o n c] [.fix 0] = gd (Nat.ble (0 + n) n && true && true) (gd (Nat.beq n n && okIs n (shiftR 0 (iRow c))) ((match !frmB M n (iOf (shiftR 0 (iRow c))) with
  | true => some ((.tuple #[.agg #[vI ((0 : Int)), .slice none 0 0], vI ((3 : Int))], [.rows (o) true 1 (n) (iRow c)]))
  | false => gd (Nat.ble (0 + n) n && true && true) (gd (Nat.beq n n && (okIs n (shiftR 0 (iRow c)) && frmB M n (iOf (shiftR 0 (iRow c))))) (gd (fineB M && (Nat.beq (Int.toNat M) (Int.toNat M) && (okWs (Int.toNat M) (wRow (Rin.tbP (Int.toNat M / 6) (iOf (shiftR 0 (iRow c))) n)) && (decide (M ≤ (3 : Int) * ↑(Int.toNat M)) && decide (Int.toNat M ≤ 1048576))))) ((match allF (Int.toNat M / 3) (cofG (Int.toNat M) (Int.toNat M / 3) (gOf (wRow (Rin.tbP (Int.toNat M / 6) (iOf (shiftR 0 (iRow c))) n)))) with
  | true => some ((.tuple #[.agg #[vI (M), unk], vI ((0 : Int))], [.rows (o) true 1 (n) (iRow c)]))
  | false => some ((.tuple #[.agg #[vI ((0 : Int)), .slice none 0 0], vI ((4 : Int))], [.rows (o) true 1 (n) (iRow c)]))))))))) := by kernel_rfl
end Go.Proofs.Ytjhijkdicmbbiaa
