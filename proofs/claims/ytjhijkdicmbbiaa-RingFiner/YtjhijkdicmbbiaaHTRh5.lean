/-
  facetref15.DocRoot, DocInt as contracts; DocConj, told. Nothing here is trusted.
-/
import Derived.Test.YtjhijkdicmbbiaaHTRh4
namespace Go.Proofs.Ytjhijkdicmbbiaa
open Go Vx Go.RowKit
theorem dm_ok {m : Int} (h : fineB m = true) : (decide ((0 : Int) ≤ m) && (decide (m ≤ m) && (decide (m * (16 : Int) ≤ (140737488355328 : Int)) && decide (m ≤ (4611686018427387904 : Int))))) = true ∧ (m == 0) = false ∧ decide (((m.toNat : Nat) : Int) ≤ m) = true ∧ decide ((1 : Int) ≤ m) = true := by
  have hc := fine_cases h
  refine ⟨?_, by simp; omega, decide_eq_true (by omega), decide_eq_true (by omega)⟩
  rw [decide_eq_true (by omega : (0 : Int) ≤ m), decide_eq_true (Int.le_refl m), decide_eq_true (by omega : m * 16 ≤ 140737488355328), decide_eq_true (by omega : m ≤ 4611686018427387904)]
  rfl
theorem res2 {j m : Int} (h : fineB m = true) : (W (j.tmod m + m)).tmod m = j % m := by
  have hc := fine_cases h
  have h1 : j.tmod m = j % m ∨ (j.tmod m = j % m - m ∧ j % m ≠ 0) := by
    rw [Int.tmod_eq_emod]
    split
    · exact Or.inl (by omega)
    · refine Or.inr ⟨by rcases hc with h | h | h | h <;> subst h <;> rfl, ?_⟩
      rename_i h
      intro hz
      exact h (Or.inr (Int.dvd_of_emod_eq_zero hz))
  have h2 : 0 ≤ j % m ∧ j % m < m := ⟨Int.emod_nonneg _ (by omega), Int.emod_lt_of_pos _ (by omega)⟩
  rw [W_in (by omega), Int.tmod_eq_emod_of_nonneg (by omega)]
  rcases h1 with e | ⟨e, _⟩
  · rw [e, Int.add_emod_right, Int.emod_emod_of_dvd _ (Int.dvd_refl m)]
  · rw [e, Int.sub_add_cancel, Int.emod_emod_of_dvd _ (Int.dvd_refl m)]
theorem lOf_on {n : Nat} {row : Nat → List Value} {g : Nat → Int} (h : ∀ i, i < n → row i = dRow g i) {i : Nat} (hi : i < n) : lOf n row i = g i := by
  unfold lOf
  rw [if_pos hi, h i hi]
  show decD (g i / 4503599627370496) (g i % 4503599627370496) = g i
  unfold decD
  omega
theorem okLs_on {n : Nat} {row : Nat → List Value} {g : Nat → Int} (h : ∀ i, i < n → row i = dRow g i) (hf : ∀ i, i < n → -1298074214633706907132624082305024 ≤ g i ∧ g i ≤ 1298074214633706907132624082305024) : okLs n row = true := List.all_eq_true.2 fun i hi => by
  have hi := List.mem_range.1 hi
  rw [h i hi]
  show okL (g i / 4503599627370496) (g i % 4503599627370496) = true
  have := hf i hi
  unfold okL
  simp only [Bool.and_eq_true, decide_eq_true_eq]
  omega
theorem cof_on {e K n : Nat} {row : Nat → List Value} {g : Nat → Int} (h : ∀ i, i < n → row i = dRow g i) (hz : ∀ i, n ≤ i → i < K → g i = 0) : cofE e K (cut n (lOf n row)) = cofE e K g := cut_eq fun i hi => by
  unfold cut
  by_cases hin : i < n
  · rw [if_pos hin, lOf_on h hin]
  · rw [if_neg hin, hz i (by omega) hi]
theorem rootDF_ok {args : List Value} {m : Mem} {ans : Ans (Value × Mem)} {v : Value} {m' : Mem} (h : rootF args m = some ans) (hr : ans.res = some (v, m')) : MemSem Try.prog 33 args m v m' := by
  unfold rootF at h
  split at h
  · rename_i j m
    simp only [Option.some.injEq] at h
    subst h
    have ht := drT j m
    rcases Ans.br_some hr with ⟨hf, g⟩ | ⟨hf, g⟩ <;> clear hr <;> simp only [Ans.res, Option.some.injEq, Prod.mk.injEq] at g <;> obtain ⟨rfl, rfl⟩ := g
    · obtain ⟨s1, s2, s3, s4⟩ := six hf
      obtain ⟨d1, d2, d3, _⟩ := dm_ok hf
      have hc := fine_cases hf
      have h2 : 0 ≤ j % m ∧ j % m < m := ⟨Int.emod_nonneg _ (by omega), Int.emod_lt_of_pos _ (by omega)⟩
      have hrow : ∀ i, i < m.toNat → stR zD (j % m).toNat [vI 0, vI 1] i = dRow (unG (j % m).toNat 1) i := fun i _ => stR_d (fun _ => 0) (j % m).toNat 1 i
      have hu : ∀ i, -1298074214633706907132624082305024 ≤ unG (j % m).toNat 1 i ∧ unG (j % m).toNat 1 i ≤ 1298074214633706907132624082305024 := fun i => by
        unfold unG putG
        by_cases hi : i = (j % m).toNat
        · rw [if_pos hi]; omega
        · rw [if_neg hi]; show -1298074214633706907132624082305024 ≤ (0 : Int) ∧ (0 : Int) ≤ 1298074214633706907132624082305024; omega
      have e1 := cof_on (e := m.toNat / 6) (K := m.toNat) hrow fun i a b => by omega
      have e2 := okLs_on hrow fun i _ => hu i
      have hb := un_cof (m.toNat / 6) m.toNat (j % m).toNat
      have e3 : allR (m.toNat / 3) (cofE (m.toNat / 6) m.toNat (unG (j % m).toNat 1)) = true := List.all_eq_true.2 fun i _ => inRg_iff.2 (by have := hb i; omega)
      rw [d1, d2, res2 hf, boundsI_ok (n := m.toNat) (i := j % m) (by omega)] at ht
      simp only [rules, nots, hf, d3, e2] at ht
      rw [e1, e3] at ht
      exact exT_ok okCg2 Try.func33 (by kernel_rfl) ht
    · rw [hf] at ht
      exact exT_ok okCg2 Try.func33 (by kernel_rfl) ht
  · cases h
theorem chop_row (n : Int) : ∀ i, i < 1 → chop 2 0 [vI (n / 4503599627370496), vI (n % 4503599627370496)] i = dRow (unG 0 n) i := fun i hi => by
  have : i = 0 := by omega
  subst this
  rfl
theorem rg_tt {n : Int} (h : inRg n = true) : decide (n < -4503599627370496) = false ∧ decide (n > 4503599627370496) = false := by
  have := inRg_iff.1 h
  exact ⟨decide_eq_false (by omega), decide_eq_false (by omega)⟩
theorem rg_ff {n : Int} (h : inRg n = false) : decide (n < -4503599627370496) = true ∨ (decide (n < -4503599627370496) = false ∧ decide (n > 4503599627370496) = true) := by
  by_cases k : n < -4503599627370496
  · exact Or.inl (decide_eq_true k)
  · refine Or.inr ⟨decide_eq_false k, decide_eq_true ?_⟩
    cases hd : decide (n > 4503599627370496) with
    | true => exact of_decide_eq_true hd
    | false =>
      have := of_decide_eq_false hd
      rw [inRg_iff.2 (by omega)] at h
      cases h
theorem intDF_ok {args : List Value} {m : Mem} {ans : Ans (Value × Mem)} {v : Value} {m' : Mem} (h : intF args m = some ans) (hr : ans.res = some (v, m')) : MemSem Try.prog 35 args m v m' := by
  unfold intF at h
  split at h
  · rename_i n m
    simp only [Option.some.injEq] at h
    subst h
    have ht := diT n m
    rcases Ans.br_some hr with ⟨hn, g0⟩ | ⟨_, g0⟩ <;> clear hr
    rotate_left
    · simp [Ans.res] at g0
    rcases Ans.br_some g0 with ⟨hf, g1⟩ | ⟨hf, g⟩ <;> clear g0
    · obtain ⟨s1, s2, s3, s4⟩ := six hf
      obtain ⟨_, _, _, d4⟩ := dm_ok hf
      rcases Ans.br_some g1 with ⟨hg, g⟩ | ⟨hg, g⟩ <;> clear g1 <;> simp only [Ans.res, Option.some.injEq, Prod.mk.injEq] at g <;> obtain ⟨rfl, rfl⟩ := g
      · have hi := inRg_iff.1 hg
        have hrow := chop_row n
        have e1 := cof_on (e := m.toNat / 6) (K := m.toNat) (n := 1) hrow fun i a b => by unfold unG putG; rw [if_neg (by omega)]
        have e2 := okLs_on hrow fun i _ => by
          unfold unG putG
          by_cases h : i = 0
          · rw [if_pos h]; omega
          · rw [if_neg h]; show -1298074214633706907132624082305024 ≤ (0 : Int) ∧ (0 : Int) ≤ 1298074214633706907132624082305024; omega
        have e4 : ∀ q, q < m.toNat / 3 → cofE (m.toNat / 6) m.toNat (unG 0 n) q = unG 0 n q := fun q hq => by
          have key := cof_self (e := m.toNat / 6) (g := unG 0 n) (fun p hp => by unfold unG putG; rw [if_neg (by omega)]) (q := q) (by omega)
          rw [← s4] at key
          exact key
        have e3 : allR (m.toNat / 3) (cofE (m.toNat / 6) m.toNat (unG 0 n)) = true := List.all_eq_true.2 fun i hi2 => by
          rw [e4 i (List.mem_range.1 hi2)]
          unfold unG putG
          by_cases h : i = 0
          · rw [if_pos h]; exact hg
          · rw [if_neg h]; rfl
        simp only [rules, nots, hf, rg_tt hg, hn, d4, e2] at ht
        rw [e1, e3] at ht
        refine (exT_ok okCg2 Try.func35 (by kernel_rfl) ht).likes ⟨.rows fun q hq => ?_, trivial⟩
        show [vI _] = [vI _]
        rw [e4 q hq]
      · rcases rg_ff hg with hk | hk <;> simp only [nots, hf, hk] at ht <;> exact exT_ok okCg2 Try.func35 (by kernel_rfl) ht
    · simp only [Ans.res, Option.some.injEq, Prod.mk.injEq] at g
      obtain ⟨rfl, rfl⟩ := g
      rw [hf] at ht
      exact exT_ok okCg2 Try.func35 (by kernel_rfl) ht
  · cases h
def Cr33 (P : Program) : Cx := (Cg2 P).addF 33 rootF
theorem okr33 : CxOk (Cr33 Try.prog) := Cx.addF_ok okCg2 fun _ _ _ _ _ h hr => rootDF_ok h hr
def Cr35 (P : Program) : Cx := (Cr33 P).addF 35 intF
theorem okr35 : CxOk (Cr35 Try.prog) := Cx.addF_ok okr33 fun _ _ _ _ _ h hr => intDF_ok h hr
def Cg3 (P : Program) : Cx := (Cr35 P).makes 104 []
theorem okg3 : CxOk (Cg3 Try.prog) := Cx.makes_ok okr35 _ _
def dcB (P : Program) : Code := bodyOf P 37
theorem dc_eq : Try.f37.body = some (dcB Try.prog) := by kernel_rfl
def dcS (n : Nat) (o : Bool) (c : Nat → Int) (M : Int) : St := stOf 40 [(1, pt 1), (2, pt 2), (3, vI 0)] [Ir o n c, .cells true 0 [vI M, SI 0 n], .cells true 0 [vI 0, .slice none 0 0]]
def dcW (n K : Nat) (o : Bool) (c : Nat → Int) (M : Int) (g : Nat → List Value) : St := stOf 40 [(1, pt 1), (2, pt 2), (3, vI 0), (4, SWb 3 K)] [Ir o n c, .cells true 0 [vI M, SI 0 n], .cells true 0 [vI 0, .slice none 0 0], .rows true true 2 K g]
def dcX (n K : Nat) (o : Bool) (c : Nat → Int) (M : Int) (g : Nat → List Value) (i : Int) : St := stOf 40 [(1, pt 1), (2, pt 2), (3, vI 0), (4, SWb 3 K), (15, SI 0 n), (16, vI n), (17, vI i)] [Ir o n c, .cells true 0 [vI M, SI 0 n], .cells true 0 [vI 0, .slice none 0 0], .rows true true 2 K g]
def spC : List From := [.fix 0, .slot 1, .slot 2, .slot 4]
theorem dcP0 (n : Nat) (o : Bool) (M : Int) (c : Nat → Int) : segR ((Cg3 Try.prog).into 37 1) 60 1 (dcB Try.prog) [1, 2, 3] [.fix 0, .slot 1, .slot 2] (enter Try.f37 [.agg #[vI M, SI 0 n]] [Ir o n c]) = some (stOf 40 [(1, pt 1), (2, pt 2), (3, vI ((0 : Int)))] [.rows (o) true 1 (n) (iRow c), .cells true 0 [vI (M), SI 0 (n)], .cells true 0 [vI ((0 : Int)), .slice none 0 0]]) := by kernel_rfl
theorem dcP1 (n : Nat) (o : Bool) (M : Int) (c : Nat → Int) : roundR ((Cg3 Try.prog).into 37 1) 60 (stmt 1 (dcB Try.prog)) [1, 2, 3] [2, 3] [.fix 0, .slot 1, .slot 2] [.fix 0, .slot 2] (dcS n o c M) = gd (Nat.ble (0 + n) n && true && true) (gd (Nat.beq n n && okIs n (shiftR 0 (iRow c))) ((match !frmB M n (iOf (shiftR 0 (iRow c))) with
  | true => some ((.ret, stOf 40 [(2, pt 1), (3, vI ((3 : Int)))] [.rows (o) true 1 (n) (iRow c), .cells true 0 [vI ((0 : Int)), .slice none 0 0]]))
  | false => some ((.normal, stOf 40 [(1, pt 1), (2, pt 2), (3, vI ((0 : Int)))] [.rows (o) true 1 (n) (iRow c), .cells true 0 [vI (M), SI 0 (n)], .cells true 0 [vI ((0 : Int)), .slice none 0 0]]))))) := by kernel_rfl
theorem dcP2 (n : Nat) (o : Bool) (M : Int) (c : Nat → Int) : segR ((Cg3 Try.prog).into 37 1) 60 1 (seqDrop 2 (dcB Try.prog)) [1, 2, 3, 4] spC (dcS n o c M) = gd (decide ((0 : Int) ≤ M) && (decide (M ≤ M) && (decide (M * (16 : Int) ≤ (140737488355328 : Int)) && decide (M ≤ (4611686018427387904 : Int))))) (some (stOf 40 [(1, pt 1), (2, pt 2), (3, vI ((0 : Int))), (4, SWb 3 (Int.toNat M))] [.rows (o) true 1 (n) (iRow c), .cells true 0 [vI (M), SI 0 (n)], .cells true 0 [vI ((0 : Int)), .slice none 0 0], .rows true true 2 (Int.toNat M) zD])) := by kernel_rfl
theorem dcHead (n K : Nat) (o : Bool) (M : Int) (c : Nat → Int) : roundR ((Cg3 Try.prog).into 37 1) 60 (forHead (stmt 3 (dcB Try.prog))) [1, 2, 3, 4, 15, 16, 17] [1, 2, 3, 4, 15, 16, 17] spC spC (dcW n K o c M zD) = some ((.normal, stOf 40 [(1, pt 1), (2, pt 2), (3, vI ((0 : Int))), (4, SWb 3 (K)), (15, SI 0 (n)), (16, vI (↑n)), (17, vI ((0 : Int)))] [.rows (o) true 1 (n) (iRow c), .cells true 0 [vI (M), SI 0 (n)], .cells true 0 [vI ((0 : Int)), .slice none 0 0], .rows true true 2 (K) (zD)])) := by kernel_rfl
theorem dcR (n K : Nat) (o : Bool) (M i : Int) (c g : Nat → Int) : roundR ((Cg3 Try.prog).into 37 1) 60 (forBody (stmt 3 (dcB Try.prog))) [1, 2, 3, 4, 15, 16, 17] [1, 2, 3, 4] spC spC (dcX n K o c M (dRow g) i) = (match decide (i < ↑n) with
  | true => gd (boundsI i n) (gn (M == (0 : Int)) (gd (i64B (c (Int.toNat i))) (gd (boundsI (Int.tmod (W (M - i)) M) K) (some ((.normal, stOf 40 [(1, pt 1), (2, pt 2), (3, vI ((0 : Int))), (4, SWb 3 (K)), (15, SI 0 (n)), (16, vI (↑n)), (17, vI (W (i + (1 : Int))))] [.rows (o) true 1 (n) (iRow c), .cells true 0 [vI (M), SI 0 (n)], .cells true 0 [vI ((0 : Int)), .slice none 0 0], .rows true true 2 (K) (stR (dRow g) (Int.toNat (Int.tmod (W (M - i)) M)) [vI (c (Int.toNat i) / (4503599627370496 : Int)), vI (c (Int.toNat i) % (4503599627370496 : Int))])]))))))
  | false => some ((.exit 0, stOf 40 [(1, pt 1), (2, pt 2), (3, vI ((0 : Int))), (4, SWb 3 (K))] [.rows (o) true 1 (n) (iRow c), .cells true 0 [vI (M), SI 0 (n)], .cells true 0 [vI ((0 : Int)), .slice none 0 0], .rows true true 2 (K) (dRow g)]))) := by kernel_rfl
theorem dcEnd (n K : Nat) (o : Bool) (M : Int) (c g : Nat → Int) : roundR ((Cg3 Try.prog).into 37 1) 60 (seqDrop 4 (dcB Try.prog)) [2, 3] [2, 3] [.fix 0, .slot 2, .cell 2 1] [.fix 0, .slot 2, .cell 2 1] (dcW n K o c M (dRow g)) = gd (Nat.ble (0 + K) K && true) (gd (Nat.ble (0 + K) K && true) (gd (fineB M && (Nat.beq K K && (okLs K (shiftR 0 (shiftR 0 (dRow g))) && decide (↑K ≤ M)))) ((match allR (Int.toNat M / 3) (cofE (Int.toNat M / 6) (Int.toNat M) (cut K (lOf K (shiftR 0 (shiftR 0 (dRow g)))))) with
  | true => some ((.ret, stOf 40 [(2, pt 1), (3, vI ((0 : Int)))] [.rows (o) true 1 (n) (iRow c), .cells true 0 [vI (M), SI 2 (Int.toNat M / 3)], .rows true true 1 (Int.toNat M / 3) (iRow (cofE (Int.toNat M / 6) (Int.toNat M) (cut K (lOf K (shiftR 0 (shiftR 0 (dRow g)))))))]))
  | false => some ((.ret, stOf 40 [(2, pt 1), (3, vI ((4 : Int)))] [.rows (o) true 1 (n) (iRow c), .cells true 0 [vI ((0 : Int)), .slice none 0 0], .no])))))) := by kernel_rfl
theorem dcN (M : Int) : exT ((Cg3 Try.prog).at 37) 60 Try.f37 [.agg #[vI M, .slice none 0 0]] [] [] = some ((.tuple #[.agg #[vI ((0 : Int)), .slice none 0 0], vI ((3 : Int))], [])) := by kernel_rfl
end Go.Proofs.Ytjhijkdicmbbiaa
