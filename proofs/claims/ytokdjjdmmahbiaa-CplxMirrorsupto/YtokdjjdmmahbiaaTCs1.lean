/-
  facetlaw16.CplxSums by pieces. Nothing here is trusted.
-/
import Derived.Test.YtokdjjdmmahbiaaTCx3
namespace Go.Proofs.Ytokdjjdmmahbiaa
open Go Vx Go.RowKit
def lk (k : Nat) : Bool := Nat.ble (0 + k) k && true
theorem lk_true (k : Nat) : lk k = true := by unfold lk; simp [Nat.ble_eq]
def Cg1 (P : Program) : Cx := (Cn3 P).lend 81
theorem okg1 : CxOk (Cg1 Try.prog) := Cx.lend_ok okn3 _
def Cg2 (P : Program) : Cx := (Cg1 P).lend 82
theorem okg2 : CxOk (Cg2 Try.prog) := Cx.lend_ok okg1 _
def Cg (P : Program) : Cx := (Cg2 P).lend 83
theorem okg : CxOk (Cg Try.prog) := Cx.lend_ok okg2 _
def csB (P : Program) : Code := bodyOf P 14
theorem csB_eq : Try.f14.body = some (csB Try.prog) := by kernel_rfl
abbrev Ar (n : Nat) (l : List (Nat × Nat)) : Blk := .rows false true 2 n (u2Row l)
abbrev Lr (n : Nat) (l : List (Nat × Nat)) : Blk := .rows true true 1 n (cxRow l)
def SLa (n : Nat) : Value := .slice (some ⟨0, 0, some 0⟩) n 2
def SLl (n : Nat) : Value := .slice (some ⟨1, 0, some 0⟩) n 1
def tN (n : Nat) (row : Nat → List Value) : Bool := Nat.beq n n && (okUs n row && decide (n ≤ 1048576))
def tS (n : Nat) (row : Nat → List Value) : Bool := Nat.beq n n && (okCs n row && decide (n ≤ 4611686018427387904))
theorem tN_ok {n : Nat} (l : List (Nat × Nat)) (h : n ≤ 1048576) : tN n (u2Row l) = true := by unfold tN; rw [Nat.beq_refl, okUs_row]; simp; omega
theorem tS_ok {n : Nat} (l : List (Nat × Nat)) (h : n ≤ 4611686018427387904) : tS n (cxRow l) = true := by unfold tS; rw [Nat.beq_refl, okCs_row]; simp; omega
def z2 (z : Nat × Nat) : Value := aC .f64 z.1 z.2
def sumz (n : Nat) (row : Nat → List Value) : Nat × Nat := cfold (csOf n row) (0, 0)
/-- The list is there. -/
def csS1 (n : Nat) (l m : List (Nat × Nat)) (cut : Int) : St := stOf 48 [(1, vI cut), (5, SLl n)] [Ar n l, Lr n m]
theorem csP1 (n : Nat) (l : List (Nat × Nat)) (cut : Int) : segR ((Cg Try.prog).into 14 1) 60 3 (csB Try.prog) [1, 5] [.fix 0, .slot 5] (enter Try.f14 [SLa n, vI cut] [Ar n l]) =
    gd (lk n) (gd (tN n (u2Row l)) (match Nat.beq n 0 with
      | true => some (stOf 48 [(1, vI cut), (5, .slice none 0 0)] [Ar n l, .no])
      | false => some (csS1 n l (usOf n (u2Row l)) cut))) := by kernel_rfl
/-- The first sum, and it is the document's. -/
def csS2 (n : Nat) (l m : List (Nat × Nat)) (cut : Int) (z : Nat × Nat) : St := stOf 48 [(1, vI cut), (5, SLl n), (6, z2 z)] [Ar n l, Lr n m]
theorem csP2 (n : Nat) (l m : List (Nat × Nat)) (cut : Int) : segR ((Cg Try.prog).into 14 1) 60 1 (seqDrop 3 (csB Try.prog)) [1, 5, 6] [.fix 0, .slot 5] (csS1 n l m cut) =
    gd (lk n) (gd (tS n (cxRow m)) (some (csS2 n l m cut (sumz n (cxRow m))))) := by kernel_rfl
theorem csP3 (n : Nat) (l m : List (Nat × Nat)) (cut : Int) (z : Nat × Nat) : segR ((Cg Try.prog).into 14 1) 60 1 (seqDrop 4 (csB Try.prog)) [1, 5, 6] [.fix 0, .slot 5] (csS2 n l m cut z) =
    gd (lk n) (gd (tS n (cxRow m)) (gn (!(sameN z.1 (sumz n (cxRow m)).1 && sameN z.2 (sumz n (cxRow m)).2)) (some (csS2 n l m cut z)))) := by kernel_rfl
/-- A cut that is none. -/
theorem csP4o (n : Nat) (l m : List (Nat × Nat)) (cut : Int) (z : Nat × Nat) : roundR ((Cn3 Try.prog).into 14 1) 60 (stmt 5 (csB Try.prog)) [1, 5, 6] [4] [.fix 0, .slot 5] [.fix 0] (csS2 n l m cut z) =
    (match decide (cut < 0) with
    | true => some (.ret, stOf 48 [(4, .bool true)] [Ar n l])
    | false => match decide (cut > (n : Int)) with
      | true => some (.ret, stOf 48 [(4, .bool true)] [Ar n l])
      | false => some (.normal, csS2 n l m cut z)) := by kernel_rfl
/-- The sum of what is ahead of the cut. -/
def csS3 (n : Nat) (l m : List (Nat × Nat)) (cut : Int) (z t : Nat × Nat) : St := stOf 48 [(1, vI cut), (5, SLl n), (6, z2 z), (7, z2 t)] [Ar n l, Lr n m]
theorem csP5 (n : Nat) (l m : List (Nat × Nat)) (cut : Nat) (z : Nat × Nat) : segR ((Cg Try.prog).into 14 1) 60 1 (seqDrop 6 (csB Try.prog)) [1, 5, 6, 7] [.fix 0, .slot 5] (csS2 n l m (cut : Int) z) =
    gd (leI (cut : Int) n) (gd (Nat.ble (0 + cut) n && true) (gd (tS cut (cxRow m)) (some (csS3 n l m (cut : Int) z (sumz cut (cxRow m)))))) := by kernel_rfl
/-- In the loop over what is behind it. -/
def csH (n : Nat) (l m : List (Nat × Nat)) (j k : Nat) (z t : Nat × Nat) (i : Int) : St := stOf 48 [(6, z2 z), (7, z2 t), (35, .slice (some ⟨1, 0, some j⟩) k 1), (36, vI k), (37, vI i)] [Ar n l, Lr n m]
def csHe (n : Nat) (l : List (Nat × Nat)) (z t : Nat × Nat) (i : Int) : St := stOf 48 [(6, z2 z), (7, z2 t), (35, emp), (36, vI 0), (37, vI i)] [Ar n l, .no]
theorem csFor : isFor 0 (stmt 7 (csB Try.prog)) = true := by kernel_rfl
theorem csHas : hasStmt 7 (csB Try.prog) = true ∧ hasStmt 5 (csB Try.prog) = true := ⟨by kernel_rfl, by kernel_rfl⟩
theorem csHead (n : Nat) (l m : List (Nat × Nat)) (cut : Nat) (z t : Nat × Nat) : roundR ((Cn3 Try.prog).into 14 1) 60 (forHead (stmt 7 (csB Try.prog))) [6, 7, 35, 36, 37] [6, 7, 35, 36, 37] [.fix 0, .slot 35] [.fix 0, .slot 35] (csS3 n l m (cut : Int) z t) =
    gd (leI (cut : Int) n) (match decide ((cut : Int) < (n : Int)) with
      | true => some (.normal, csH n l m cut (n - cut) z t 0)
      | false => some (.normal, csHe n l z t 0)) := by kernel_rfl
def csX (n : Nat) (l : List (Nat × Nat)) (z t : Nat × Nat) : St := stOf 48 [(6, z2 z), (7, z2 t)] [Ar n l]
theorem csR0 (n : Nat) (l m : List (Nat × Nat)) (k : Nat) (z t : Nat × Nat) (i : Nat) : roundR ((Cn3 Try.prog).into 14 1) 60 (forBody (stmt 7 (csB Try.prog))) [6, 7, 35, 36, 37] [6, 7] [.fix 0, .slot 35] [.fix 0] (csH n l m 0 k z t (i : Int)) =
    (match decide ((i : Int) < (k : Int)) with
    | true => gd (boundsI i k) (some (.normal, csH n l m 0 k z (fadd .f64 t.1 (atU m i).1, fadd .f64 t.2 (atU m i).2) (W ((i : Int) + 1))))
    | false => some (.exit 0, csX n l z t)) := by kernel_rfl
theorem csR1 (n : Nat) (l m : List (Nat × Nat)) (c k : Nat) (z t : Nat × Nat) (i : Nat) : roundR ((Cn3 Try.prog).into 14 1) 60 (forBody (stmt 7 (csB Try.prog))) [6, 7, 35, 36, 37] [6, 7] [.fix 0, .slot 35] [.fix 0] (csH n l m (c + 1) k z t (i : Int)) =
    (match decide ((i : Int) < (k : Int)) with
    | true => gd (boundsI i k) (some (.normal, csH n l m (c + 1) k z (fadd .f64 t.1 (atU m (c + 1 + i)).1, fadd .f64 t.2 (atU m (c + 1 + i)).2) (W ((i : Int) + 1))))
    | false => some (.exit 0, csX n l z t)) := by kernel_rfl
theorem csRe (n : Nat) (l : List (Nat × Nat)) (z t : Nat × Nat) : roundR ((Cn3 Try.prog).into 14 1) 60 (forBody (stmt 7 (csB Try.prog))) [6, 7, 35, 36, 37] [6, 7] [.fix 0, .slot 35] [.fix 0] (csHe n l z t 0) = some (.exit 0, csX n l z t) := by kernel_rfl
theorem csEnd (n : Nat) (l : List (Nat × Nat)) (z t : Nat × Nat) : roundR ((Cn3 Try.prog).into 14 1) 60 (seqDrop 8 (csB Try.prog)) [4] [4] [.fix 0] [.fix 0] (csX n l z t) = some (.ret, stOf 48 [(4, .bool (sameN z.1 t.1 && sameN z.2 t.2))] [Ar n l]) := by kernel_rfl
theorem csRet (n : Nat) (l : List (Nat × Nat)) (b : Bool) : (retA Try.prog Try.f14 (.ret, stOf 48 [(4, .bool b)] [Ar n l])).res = some (.bool b, [Ar n l]) := by kernel_rfl
theorem csZ (cut : Int) : exT ((Cg Try.prog).at 14) 60 Try.f14 [.slice none 0 0, vI cut] [] [] = (match decide (cut < 0) with
    | true => some (.bool true, [])
    | false => match decide (cut > 0) with
      | true => some (.bool true, [])
      | false => gd (leI cut 0) (gd (leI cut 0) (some (.bool true, [])))) := by kernel_rfl
theorem csE (n : Nat) (l : List (Nat × Nat)) (cut : Int) : roundR ((Cg Try.prog).into 14 1) 60 (seqDrop 3 (csB Try.prog)) [4] [4] [.fix 0] [.fix 0] (stOf 48 [(1, vI cut), (5, .slice none 0 0)] [Ar n l, .no]) = (match decide (cut < 0) with
    | true => some (.ret, stOf 48 [(4, .bool true)] [Ar n l])
    | false => match decide (cut > 0) with
      | true => some (.ret, stOf 48 [(4, .bool true)] [Ar n l])
      | false => gd (leI cut 0) (gd (leI cut 0) (some (.ret, stOf 48 [(4, .bool true)] [Ar n l])))) := by kernel_rfl
set_option maxRecDepth 100000 in
theorem csIn : InBody ((Cn3 Try.prog).into 14 1) (forHead (stmt 7 (csB Try.prog))) ∧ InBody ((Cn3 Try.prog).into 14 1) (forBody (stmt 7 (csB Try.prog))) := for_in (C := Cn3 Try.prog) (f := 14) (B := 1) (id := 0) (k := 7) (fn := Try.f14) (b := csB Try.prog) Try.func14 csB_eq csFor
theorem csL0 (l m : List (Nat × Nat)) (n k : Nat) (hk : m.length = k) (hn : k ≤ 1048576) (z : Nat × Nat) : ∀ (c i : Nat) (t : Nat × Nat), i + c = k → LoopSem Try.prog 1 (forBody (stmt 7 (csB Try.prog))) (csH n l m 0 k z t (i : Int)) (.exit 0) (csX n l z (cfold (m.drop i) t)) := by
  intro c
  induction c with
  | zero =>
    intro i t hi
    have hr := csR0 n l m k z t i
    rw [show decide ((i : Int) < (k : Int)) = false by simp; omega] at hr
    rw [List.drop_eq_nil_of_le (by omega)]
    exact loop_leave (C := Cn3 Try.prog) okn3 (f := 14) (B := 1) csIn.2 hr (by simp)
  | succ c ih =>
    intro i t hi
    have hr := csR0 n l m k z t i
    rw [show decide ((i : Int) < (k : Int)) = true by simp; omega, bd_ok' (show i < k by omega), show W ((i : Int) + 1) = ((i + 1 : Nat) : Int) by rw [W_in (by omega)]; simp] at hr
    simp only [gd_true] at hr
    rw [drop_atU (show i < m.length by omega)]
    exact loop_next (C := Cn3 Try.prog) okn3 (f := 14) (B := 1) csIn.2 hr (StLike.refl _) (ih (i + 1) _ (by omega))
theorem csL1 (l m : List (Nat × Nat)) (n q k : Nat) (hk : m.length = q + 1 + k) (hn : m.length ≤ 1048576) (z : Nat × Nat) : ∀ (c i : Nat) (t : Nat × Nat), i + c = k → LoopSem Try.prog 1 (forBody (stmt 7 (csB Try.prog))) (csH n l m (q + 1) k z t (i : Int)) (.exit 0) (csX n l z (cfold (m.drop (q + 1 + i)) t)) := by
  intro c
  induction c with
  | zero =>
    intro i t hi
    have hr := csR1 n l m q k z t i
    rw [show decide ((i : Int) < (k : Int)) = false by simp; omega] at hr
    rw [List.drop_eq_nil_of_le (by omega)]
    exact loop_leave (C := Cn3 Try.prog) okn3 (f := 14) (B := 1) csIn.2 hr (by simp)
  | succ c ih =>
    intro i t hi
    have hr := csR1 n l m q k z t i
    rw [show decide ((i : Int) < (k : Int)) = true by simp; omega, bd_ok' (show i < k by omega), show W ((i : Int) + 1) = ((i + 1 : Nat) : Int) by rw [W_in (by omega)]; simp] at hr
    simp only [gd_true] at hr
    rw [drop_atU (show q + 1 + i < m.length by omega)]
    exact loop_next (C := Cn3 Try.prog) okn3 (f := 14) (B := 1) csIn.2 hr (StLike.refl _) (ih (i + 1) _ (by omega))
theorem csLoop (l : List (Nat × Nat)) (cut : Nat) (hn : l.length ≤ 1048576) (hc : cut ≤ l.length) (z : Nat × Nat) : CodeSem Try.prog 1 (stmt 7 (csB Try.prog)) (csS3 l.length l l (cut : Int) z (cfold (l.take cut) (0, 0))) .normal (csX l.length l z (cfold l (0, 0))) := by
  have hh := csHead l.length l l cut z (cfold (l.take cut) (0, 0))
  rw [show leI (cut : Int) l.length = true by unfold leI; simp; omega] at hh
  simp only [gd_true] at hh
  have hsum : cfold (l.drop cut) (cfold (l.take cut) (0, 0)) = cfold l (0, 0) := by rw [← cfold_append, List.take_append_drop]
  by_cases hcn : cut < l.length
  · rw [show decide ((cut : Int) < (l.length : Int)) = true by simpa using hcn] at hh
    refine for_rule csFor (end_rule (C := Cn3 Try.prog) okn3 (f := 14) (B := 1) csIn.1 hh) ?_
    rw [← hsum]
    cases cut with
    | zero => exact csL0 l l l.length l.length rfl hn z l.length 0 _ (by omega)
    | succ q => exact csL1 l l l.length q (l.length - (q + 1)) (by omega) hn z (l.length - (q + 1)) 0 _ (by omega)
  · rw [show decide ((cut : Int) < (l.length : Int)) = false by simpa using hcn] at hh
    refine for_rule csFor (end_rule (C := Cn3 Try.prog) okn3 (f := 14) (B := 1) csIn.1 hh) ?_
    rw [← hsum, List.drop_eq_nil_of_le (by omega)]
    exact loop_leave (C := Cn3 Try.prog) okn3 (f := 14) (B := 1) csIn.2 (csRe l.length l z _) (by simp)
theorem sumz_row {l : List (Nat × Nat)} {n : Nat} (h : l.length = n) : sumz n (cxRow l) = cfold l (0, 0) := by unfold sumz; rw [csOf_row h]
theorem sumz_take {l : List (Nat × Nat)} {n : Nat} (h : n ≤ l.length) : sumz n (cxRow l) = cfold (l.take n) (0, 0) := by
  unfold sumz
  congr 1
  apply List.ext_getElem?
  intro i
  unfold csOf
  rw [List.getElem?_map, List.getElem?_take]
  by_cases hi : i < n
  · rw [List.getElem?_range hi, if_pos hi]
    unfold cxRow atU
    simp [decC, aC, List.getElem?_eq_getElem (show i < l.length by omega)]
  · rw [List.getElem?_eq_none (by simp; omega), if_neg hi]; rfl
theorem csSem (l : List (Nat × Nat)) (cut : Int) (hn : l.length ≤ 1048576) : MemSem Try.prog 14 [SLa l.length, vI cut] [Ar l.length l] (.bool true) [Ar l.length l] := by
  have body0 : InBody ((Cg Try.prog).into 14 1) (csB Try.prog) := Or.inl ⟨Try.f14, csB Try.prog, Try.func14, csB_eq, fun _ hx => hx⟩
  have r1 := csP1 l.length l cut
  rw [lk_true, tN_ok l hn] at r1
  simp only [gd_true] at r1
  rw [usOf_row rfl] at r1
  have code : CodeSem Try.prog 1 (csB Try.prog) (enter Try.f14 [SLa l.length, vI cut] [Ar l.length l]) .ret (stOf 48 [(4, .bool true)] [Ar l.length l]) := by
    by_cases h0 : l.length = 0
    · rw [show Nat.beq l.length 0 = true by rw [h0]; rfl] at r1
      refine seg_rule (C := Cg Try.prog) okg (f := 14) (B := 1) (k := 3) body0 r1 ?_
      refine end_rule (C := Cg Try.prog) okg (f := 14) (B := 1) (bodyOf_in Try.func14 csB_eq) ((csE l.length l cut).trans ?_)
      by_cases c1 : cut < 0
      · rw [decide_eq_true c1]
      · rw [decide_eq_false c1]
        by_cases c2 : cut > 0
        · rw [decide_eq_true c2]
        · rw [decide_eq_false c2, show leI cut 0 = true by unfold leI; simp; omega]
          rfl
    · rw [show Nat.beq l.length 0 = false by cases hb : Nat.beq l.length 0 with | false => rfl | true => exact absurd (Nat.eq_of_beq_eq_true hb) h0] at r1
      refine seg_rule (C := Cg Try.prog) okg (f := 14) (B := 1) (k := 3) body0 r1 ?_
      have r2 := csP2 l.length l l cut
      rw [lk_true, tS_ok l (by omega), sumz_row rfl] at r2
      refine seg_rule (C := Cg Try.prog) okg (f := 14) (B := 1) (k := 1) (bodyOf_in Try.func14 csB_eq) r2 ?_
      rw [seqDrop_drop]
      have r3 := csP3 l.length l l cut (cfold l (0, 0))
      rw [lk_true, tS_ok l (by omega), sumz_row rfl, sameN_refl, sameN_refl] at r3
      refine seg_rule (C := Cg Try.prog) okg (f := 14) (B := 1) (k := 1) (bodyOf_in Try.func14 csB_eq) r3 ?_
      rw [seqDrop_drop]
      have r4 := csP4o l.length l l cut (cfold l (0, 0))
      by_cases c1 : cut < 0
      · rw [decide_eq_true c1] at r4
        exact stmt_out csHas.2 (end_rule' (C := Cn3 Try.prog) okn3 (f := 14) (B := 1) (stmt_in Try.func14 csB_eq) r4) (by simp)
      rw [decide_eq_false c1] at r4
      by_cases c2 : cut > (l.length : Int)
      · rw [decide_eq_true c2] at r4
        exact stmt_out csHas.2 (end_rule' (C := Cn3 Try.prog) okn3 (f := 14) (B := 1) (stmt_in Try.func14 csB_eq) r4) (by simp)
      rw [decide_eq_false c2] at r4
      refine stmt_rule csHas.2 (end_rule' (C := Cn3 Try.prog) okn3 (f := 14) (B := 1) (stmt_in Try.func14 csB_eq) r4) ?_
      obtain ⟨q, rfl⟩ : ∃ q : Nat, cut = q := ⟨cut.toNat, by omega⟩
      have hq : q ≤ l.length := by omega
      have r5 := csP5 l.length l l q (cfold l (0, 0))
      rw [show leI (q : Int) l.length = true by unfold leI; simp; omega, show (Nat.ble (0 + q) l.length && true) = true by simp [Nat.ble_eq]; omega, tS_ok l (by omega), sumz_take hq] at r5
      refine seg_rule (C := Cg Try.prog) okg (f := 14) (B := 1) (k := 1) (bodyOf_in Try.func14 csB_eq) r5 ?_
      rw [seqDrop_drop]
      refine stmt_rule csHas.1 (csLoop l q hn hq (cfold l (0, 0))) ?_
      have r6 := csEnd l.length l (cfold l (0, 0)) (cfold l (0, 0))
      rw [sameN_refl, sameN_refl] at r6
      exact end_rule (C := Cn3 Try.prog) okn3 (f := 14) (B := 1) (bodyOf_in Try.func14 csB_eq) r6
  exact body_mem (f := 14) Try.func14 csB_eq (by kernel_rfl) code (csRet l.length l true)
theorem csNil (cut : Int) : MemSem Try.prog 14 [.slice none 0 0, vI cut] [] (.bool true) [] := by
  refine exT_ok okg Try.func14 (by kernel_rfl) (n := 60) (sp := []) ((csZ cut).trans ?_)
  by_cases c1 : cut < 0
  · rw [decide_eq_true c1]
  · rw [decide_eq_false c1]
    by_cases c2 : cut > 0
    · rw [decide_eq_true c2]
    · rw [decide_eq_false c2, show leI cut 0 = true by unfold leI; simp; omega]
      rfl
end Go.Proofs.Ytokdjjdmmahbiaa
