/-
  ring.Conj as a contract; facetref15.DocRoot, DocInt, DocConj, told. Nothing here is trusted.
-/
import Derived.Test.YtjhijkdicmbbiaaHTRh3
namespace Go.Proofs.Ytjhijkdicmbbiaa
open Go Vx Go.RowKit
theorem nots : (!true) = false ∧ (!false) = true := ⟨rfl, rfl⟩
theorem tbP_in {e : Nat} {c : Nat → Int} : ∀ n, (∀ i, i < n → inRg (c i) = true) → ∀ q, -4503599627370496 ≤ Rin.tbP e c n q ∧ Rin.tbP e c n q ≤ 4503599627370496
  | 0, _, _ => by show -4503599627370496 ≤ (0 : Int) ∧ (0 : Int) ≤ 4503599627370496; omega
  | n + 1, h, q => by
    show -4503599627370496 ≤ putG (Rin.tbP e c n) (Rin.bkI e n) (c n) q ∧ putG (Rin.tbP e c n) (Rin.bkI e n) (c n) q ≤ 4503599627370496
    unfold putG
    by_cases hq : q = Rin.bkI e n
    · rw [if_pos hq]; exact inRg_iff.1 (h n (by omega))
    · rw [if_neg hq]; exact tbP_in n (fun i hi => h i (by omega)) q
theorem cj_told {n : Nat} {M : Int} {c : Nat → Int} (h : frmB M n c = true) : shQ M.toNat M (wRow (Rin.tbP (M.toNat / 6) c n)) = true ∧ allF (M.toNat / 3) (cofG M.toNat (M.toNat / 3) (gOf (wRow (Rin.tbP (M.toNat / 6) c n)))) = allR (M.toNat / 3) (Rin.conjE (M.toNat / 6) c) ∧ ∀ q, q < M.toNat / 3 → inRg (Rin.conjE (M.toNat / 6) c q) = true → nar (cofG M.toNat (M.toNat / 3) (gOf (wRow (Rin.tbP (M.toNat / 6) c n))) q) = Rin.conjE (M.toNat / 6) c q := by
  obtain ⟨f1, e1, r1⟩ := frm_fine h
  obtain ⟨s1, s2, s3, s4⟩ := six f1
  have hc := fine_cases f1
  have en : n = 2 * (M.toNat / 6) := by omega
  have hcf : cofE (M.toNat / 6) M.toNat (Rin.tbP (M.toNat / 6) c n) = Rin.conjE (M.toNat / 6) c := by unfold Rin.conjE; rw [← s4, ← en]
  have hb := tbP_in (e := M.toNat / 6) n fun i hi => List.all_eq_true.1 r1 i (List.mem_range.2 hi)
  have := told_end (n := M.toNat) (row := wRow (Rin.tbP (M.toNat / 6) c n)) (g := Rin.tbP (M.toNat / 6) c n) s1 f1 (by omega) (by omega) (fun _ _ => rfl) fun q _ => by
    have := cof_bound (e := M.toNat / 6) (n := M.toNat) (g := Rin.tbP (M.toNat / 6) c n) (B := 4503599627370496) (by omega) hb q
    unfold b127
    omega
  rw [hcf, ← s3] at this
  exact ⟨this.1, this.2.2.1, this.2.2.2⟩
theorem conjN (M : Int) : MemSem Try.prog 36 [.agg #[vI M, .slice none 0 0]] [] (rgE 3) [] := exT_ok okg1 Try.func36 (by kernel_rfl) (cjN M)
theorem conjT (n : Nat) (o : Bool) (M : Int) (c : Nat → Int) (_ : True) (h0 : frmB M n c = true) (h1 : allR (M.toNat / 3) (Rin.conjE (M.toNat / 6) c) = true) : MemSem Try.prog 36 [.agg #[vI M, SI 0 n]] [Ir o n c] (rgV M (SI 1 (M.toNat / 3)) 0) [Ir o n c, Ir true (M.toNat / 3) (Rin.conjE (M.toNat / 6) c)] := by
  have h := cjL n o M c
  obtain ⟨t1, t2, t3⟩ := cj_told h0
  unfold shQ at t1
  simp only [rules] at h t1
  simp only [rules, nots, h0, t1, t2, h1] at h
  refine (exT_ok okg1 Try.func36 (by kernel_rfl) h).likes ⟨.refl _, .rows fun q hq => ?_, trivial⟩
  show [vI (nar _)] = [vI _]
  rw [t3 q hq (List.all_eq_true.1 h1 q (List.mem_range.2 hq))]
theorem conjE0 (n : Nat) (o : Bool) (M : Int) (c : Nat → Int) (_ : True) (h0 : frmB M n c = false) : MemSem Try.prog 36 [.agg #[vI M, SI 0 n]] [Ir o n c] (rgE 3) [Ir o n c] := by
  have h := cjE n o M c
  simp only [rules] at h
  simp only [nots, h0] at h
  exact exT_ok okg1 Try.func36 (by kernel_rfl) h
theorem conjE1 (n : Nat) (o : Bool) (M : Int) (c : Nat → Int) (_ : True) (h0 : frmB M n c = true) (h1 : allR (M.toNat / 3) (Rin.conjE (M.toNat / 6) c) = false) : MemSem Try.prog 36 [.agg #[vI M, SI 0 n]] [Ir o n c] (rgE 4) [Ir o n c] := by
  have h := cjE n o M c
  obtain ⟨t1, t2, t3⟩ := cj_told h0
  unfold shQ at t1
  simp only [rules] at h t1
  simp only [rules, nots, h0, t1, t2, h1] at h
  exact exT_ok okg1 Try.func36 (by kernel_rfl) h
def conjF : List Value → Mem → Option (Ans (Value × Mem))
  | [.agg a], mm => match a.toList, mm with
    | [.int .i64 _, .slice none 0 0], [] => some (.out (rgE 3, []))
    | [.int .i64 M, .slice (some ⟨0, 0, some 0⟩) N 1], [.rows own true 1 N2 row] => some (.br (true && (Nat.beq N N2 && okIs N row)) (.br (frmB M N (iOf row)) (.br (allR (M.toNat / 3) (Rin.conjE (M.toNat / 6) (iOf row))) (.out (rgV M (SI 1 (M.toNat / 3)) 0, [.rows own true 1 N row, .rows true true 1 (M.toNat / 3) (iRow (Rin.conjE (M.toNat / 6) (iOf row)))])) (.out (rgE 4, [.rows own true 1 N row]))) (.out (rgE 3, [.rows own true 1 N row]))) .fail)
    | _, _ => none
  | _, _ => none
theorem conjF_ok {args : List Value} {m : Mem} {ans : Ans (Value × Mem)} {v : Value} {m' : Mem} (h : conjF args m = some ans) (hr : ans.res = some (v, m')) : MemSem Try.prog 36 args m v m' := by
  unfold conjF at h
  split at h
  · rename_i mm a
    split at h
    · rename_i M e1
      have ha : a = #[vI M, .slice none 0 0] := by apply Array.ext'; simpa [vI] using e1
      subst ha
      simp only [Option.some.injEq] at h
      subst h
      simp only [Ans.res, Option.some.injEq, Prod.mk.injEq] at hr
      obtain ⟨rfl, rfl⟩ := hr
      exact conjN M
    · rename_i M N own N2 row e1
      have ha : a = #[vI M, SI 0 N] := by apply Array.ext'; simpa [SI, vI] using e1
      subst ha
      simp only [Option.some.injEq] at h
      subst h
      rcases Ans.br_some hr with ⟨hc, g⟩ | ⟨_, g⟩ <;> clear hr
      rotate_left
      · simp [Ans.res] at g
      simp only [Bool.and_eq_true] at hc
      obtain ⟨cp, c1, c2⟩ := hc
      have e1 := Nat.eq_of_beq_eq_true c1
      subst e1
      have l1 : LikeL [.rows own true 1 N row] [Ir own N (iOf row)] := ⟨.rows (is_like c2), trivial⟩
      have b1 : Like (Ir own N (iOf row)) (.rows own true 1 N row) := .rows fun i hi => (is_like c2 i hi).symm
      rcases Ans.br_some g with ⟨h0, g0⟩ | ⟨h0, g0⟩ <;> clear g
      rotate_left
      · simp only [Ans.res, Option.some.injEq, Prod.mk.injEq] at g0
        obtain ⟨rfl, rfl⟩ := g0
        exact (MemSem.like (conjE0 N own M (iOf row)  cp h0) l1).likes ⟨b1, trivial⟩
      rcases Ans.br_some g0 with ⟨h1, g1⟩ | ⟨h1, g1⟩ <;> clear g0
      rotate_left
      · simp only [Ans.res, Option.some.injEq, Prod.mk.injEq] at g1
        obtain ⟨rfl, rfl⟩ := g1
        exact (MemSem.like (conjE1 N own M (iOf row)  cp h0 h1) l1).likes ⟨b1, trivial⟩
      simp only [Ans.res, Option.some.injEq, Prod.mk.injEq] at g1
      obtain ⟨rfl, rfl⟩ := g1
      exact (MemSem.like (conjT N own M (iOf row)  cp h0 h1) l1).likes ⟨b1, .refl _, trivial⟩
    · cases h
  · cases h
def Cr36 (P : Program) : Cx := (Cg1 P).addM 36 conjF
theorem okr36 : CxOk (Cr36 Try.prog) := Cx.addM_ok okg1 fun _ _ _ _ _ h hr => conjF_ok h hr
def Cg2 (P : Program) : Cx := (Cr36 P).lend 36
theorem okCg2 : CxOk (Cg2 Try.prog) := Cx.lend_ok okr36 _
theorem drT (j m : Int) : exT ((Cg2 Try.prog).at 33) 60 Try.f33 [vI j, vI m] [] [.cell 0 1] = (match !fineB m with
  | true => some ((.tuple #[.agg #[vI ((0 : Int)), .slice none 0 0], vI ((1 : Int))], [.no]))
  | false => gd (decide ((0 : Int) ≤ m) && (decide (m ≤ m) && (decide (m * (16 : Int) ≤ (140737488355328 : Int)) && decide (m ≤ (4611686018427387904 : Int))))) (gn (m == (0 : Int)) (gn (m == (0 : Int)) (gd (boundsI (Int.tmod (W (Int.tmod j m + m)) m) (Int.toNat m)) (gd (Nat.ble (0 + Int.toNat m) (Int.toNat m) && true) (gd (fineB m && (Nat.beq (Int.toNat m) (Int.toNat m) && (okLs (Int.toNat m) (shiftR 0 (stR zD (Int.toNat (Int.tmod (W (Int.tmod j m + m)) m)) [vI ((0 : Int)), vI ((1 : Int))])) && decide (↑(Int.toNat m) ≤ m)))) ((match allR (Int.toNat m / 3) (cofE (Int.toNat m / 6) (Int.toNat m) (cut (Int.toNat m) (lOf (Int.toNat m) (shiftR 0 (stR zD (Int.toNat (Int.tmod (W (Int.tmod j m + m)) m)) [vI ((0 : Int)), vI ((1 : Int))]))))) with
  | true => some ((.tuple #[.agg #[vI (m), SI 0 (Int.toNat m / 3)], vI ((0 : Int))], [.rows true true 1 (Int.toNat m / 3) (iRow (cofE (Int.toNat m / 6) (Int.toNat m) (cut (Int.toNat m) (lOf (Int.toNat m) (shiftR 0 (stR zD (Int.toNat (Int.tmod (W (Int.tmod j m + m)) m)) [vI ((0 : Int)), vI ((1 : Int))]))))))]))
  | false => some ((.tuple #[.agg #[vI ((0 : Int)), .slice none 0 0], vI ((4 : Int))], [.no])))))))))) := by kernel_rfl
theorem diT (n m : Int) : exT ((Cg2 Try.prog).at 35) 60 Try.f35 [vI n, vI m] [] [.cell 0 1] = (match !fineB m with
  | true => some ((.tuple #[.agg #[vI ((0 : Int)), .slice none 0 0], vI ((1 : Int))], [.no]))
  | false => (match decide (n < (-4503599627370496 : Int)) with
  | true => some ((.tuple #[.agg #[vI ((0 : Int)), .slice none 0 0], vI ((4 : Int))], [.no]))
  | false => (match decide (n > (4503599627370496 : Int)) with
  | true => some ((.tuple #[.agg #[vI ((0 : Int)), .slice none 0 0], vI ((4 : Int))], [.no]))
  | false => gd (i64B n) (gd (fineB m && (Nat.beq 1 1 && (okLs 1 (shiftR 0 (chop 2 0 [vI (n / (4503599627370496 : Int)), vI (n % (4503599627370496 : Int))])) && decide ((1 : Int) ≤ m)))) ((match allR (Int.toNat m / 3) (cofE (Int.toNat m / 6) (Int.toNat m) (cut 1 (lOf 1 (shiftR 0 (chop 2 0 [vI (n / (4503599627370496 : Int)), vI (n % (4503599627370496 : Int))]))))) with
  | true => some ((.tuple #[.agg #[vI (m), SI 0 (Int.toNat m / 3)], vI ((0 : Int))], [.rows true true 1 (Int.toNat m / 3) (iRow (cofE (Int.toNat m / 6) (Int.toNat m) (cut 1 (lOf 1 (shiftR 0 (chop 2 0 [vI (n / (4503599627370496 : Int)), vI (n % (4503599627370496 : Int))]))))))]))
  | false => some ((.tuple #[.agg #[vI ((0 : Int)), .slice none 0 0], vI ((4 : Int))], [.no])))))))) := by kernel_rfl
end Go.Proofs.Ytjhijkdicmbbiaa
