/-
  orbit.Site, told. Nothing here is trusted.
-/
import Derived.Test.YtggdbakgiknogaaKan

namespace Go.Proofs.Ytggdbakgiknogaa
open Go Vx Go.RowKit
def siB (P : Program) : Code := bodyOf P 28
theorem siB_eq : Try.f28.body = some (siB Try.prog) := by kernel_rfl
/-- Where a place lies in a list. -/
def siL (p : P3) : List P3 → Nat → List Int → List Int
  | [], _, s => s
  | x :: l, i, s => siL p l (i + 1) (bif x.eqB p then s ++ [(i : Int)] else s)
def Csi (P : Program) : Cx := (Cix P).good 56 [true, false]
theorem oksi : CxOk (Csi Try.prog) := Cx.good_ok okix _ _
def siE (own : Bool) (n : Nat) (xs : List O3) (p : P3) (Y : List P3) : St := stOf 36 [(3, .pointer (some ⟨1, 0, none⟩)), (4, .slice none 0 0), (5, vI 0), (6, .slice (some ⟨2, 0, some 0⟩) n 4), (8, .slice none 0 0)] [.rows own true 12 n (opRow xs), .cells true 0 p.cells, .rows true true 4 n (ptRow Y)]
theorem siP1 (own : Bool) (n : Nat) (xs : List O3) (p : P3) : segR ((Csi Try.prog).into 28 1) 60 4 (siB Try.prog) [3, 4, 5, 6, 8] [.fix 0, .slot 3, .slot 6] (enter Try.f28 [.slice (some ⟨0, 0, some 0⟩) n 12, p.v] [.rows own true 12 n (opRow xs)]) =
    gd (lk n) (gd (oT n (opRow xs)) (gn (leastN (chkI (opsOf n (opRow xs))) p.ckP != 0) (some (siE own n xs p (imgs (opsOf n (opRow xs)) p))))) := by kernel_rfl
theorem siFor : isFor 0 (stmt 4 (siB Try.prog)) = true := by kernel_rfl
theorem siHas : hasStmt 2 (siB Try.prog) = true ∧ hasStmt 4 (siB Try.prog) = true := ⟨by kernel_rfl, by kernel_rfl⟩
/-- In the loop: none found yet; some. -/
def siHE (own : Bool) (n : Nat) (xs : List O3) (p : P3) (Y : List P3) (i : Int) : St := stOf 36 [(3, .pointer (some ⟨1, 0, none⟩)), (4, .slice none 0 0), (5, vI 0), (8, .slice none 0 0), (20, .slice (some ⟨2, 0, some 0⟩) n 4), (21, vI n), (22, vI i)] [.rows own true 12 n (opRow xs), .cells true 0 p.cells, .rows true true 4 n (ptRow Y), .no]
def siHR (own : Bool) (n : Nat) (xs : List O3) (p : P3) (Y : List P3) (k : Nat) (r : Nat → List Value) (i : Int) : St := stOf 36 [(3, .pointer (some ⟨1, 0, none⟩)), (4, .slice none 0 0), (5, vI 0), (8, .slice (some ⟨3, 0, some 0⟩) k 1), (20, .slice (some ⟨2, 0, some 0⟩) n 4), (21, vI n), (22, vI i)] [.rows own true 12 n (opRow xs), .cells true 0 p.cells, .rows true true 4 n (ptRow Y), .rows true true 1 k r]
theorem siHead (own : Bool) (n : Nat) (xs : List O3) (p : P3) (Y : List P3) : roundR ((Caw9 Try.prog).into 28 1) 60 (forHead (stmt 4 (siB Try.prog))) [3, 4, 5, 8, 20, 21, 22] [3, 4, 5, 8, 20, 21, 22] [.fix 0, .slot 3, .slot 20, .slot 8] [.fix 0, .slot 3, .slot 20, .slot 8] (siE own n xs p Y) = some (.normal, siHE own n xs p Y 0) := by kernel_rfl
def siXE (own : Bool) (n : Nat) (xs : List O3) : St := stOf 36 [(5, vI 0), (8, .slice none 0 0)] [.rows own true 12 n (opRow xs)]
def siXR (own : Bool) (n : Nat) (xs : List O3) (k : Nat) (r : Nat → List Value) : St := stOf 36 [(5, vI 0), (8, .slice (some ⟨1, 0, some 0⟩) k 1)] [.rows own true 12 n (opRow xs), .rows true true 1 k r]
theorem siRE (own : Bool) (n : Nat) (xs : List O3) (p : P3) (Y : List P3) (i : Nat) : roundR ((Caw9 Try.prog).into 28 1) 60 (forBody (stmt 4 (siB Try.prog))) [3, 4, 5, 8, 20, 21, 22] [5, 8] [.fix 0, .slot 3, .slot 20, .slot 8] [.fix 0] (siHE own n xs p Y (i : Int)) =
    (match decide ((i : Int) < (n : Int)) with
    | true => gd (boundsI i n) (match (atP Y i).eqB p with
      | true => some (.normal, siHR own n xs p Y 1 (chop 1 0 [vI (i : Int)]) (W ((i : Int) + 1)))
      | false => some (.normal, siHE own n xs p Y (W ((i : Int) + 1))))
    | false => some (.exit 0, siXE own n xs)) := by kernel_rfl
def siT (k : Nat) : Bool := Nat.beq k k && (decide ((k + 1) * 8 ≤ 2 ^ 47) && decide (k + 1 ≤ 2 ^ 62))
theorem siRR (own : Bool) (n : Nat) (xs : List O3) (p : P3) (Y : List P3) (k : Nat) (s : List Int) (i : Nat) : roundR ((Caw9 Try.prog).into 28 1) 60 (forBody (stmt 4 (siB Try.prog))) [3, 4, 5, 8, 20, 21, 22] [5, 8] [.fix 0, .slot 3, .slot 20, .slot 8] [.fix 0, .slot 8] (siHR own n xs p Y k (inRow s) (i : Int)) =
    (match decide ((i : Int) < (n : Int)) with
    | true => gd (boundsI i n) (match (atP Y i).eqB p with
      | true => gd (siT k) (some (.normal, siHR own n xs p Y (k + 1) (catR k (inRow s) (chop 1 0 [vI (i : Int)])) (W ((i : Int) + 1))))
      | false => some (.normal, siHR own n xs p Y k (inRow s) (W ((i : Int) + 1))))
    | false => some (.exit 0, siXR own n xs k (inRow s))) := by kernel_rfl
theorem siEnd (own : Bool) (n : Nat) (xs : List O3) (k : Nat) (r : Nat → List Value) : roundR ((Caw9 Try.prog).into 28 1) 60 (seqDrop 5 (siB Try.prog)) [4, 5] [4, 5] [.fix 0, .slot 4] [.fix 0, .slot 4] (siXR own n xs k r) = some (.ret, stOf 36 [(4, .slice (some ⟨1, 0, some 0⟩) k 1), (5, vI 0)] [.rows own true 12 n (opRow xs), .rows true true 1 k r]) := by kernel_rfl
theorem siRet (own : Bool) (n : Nat) (xs : List O3) (k : Nat) (r : Nat → List Value) : (retA Try.prog Try.f28 (.ret, stOf 36 [(4, .slice (some ⟨1, 0, some 0⟩) k 1), (5, vI 0)] [.rows own true 12 n (opRow xs), .rows true true 1 k r])).res = some (.tuple #[.slice (some ⟨1, 0, some 0⟩) k 1, vI 0], [.rows own true 12 n (opRow xs), .rows true true 1 k r]) := by kernel_rfl
/-- With an error. -/
def Csj (P : Program) : Cx := (Cix P).road 56 [true, true]
theorem oksj : CxOk (Csj Try.prog) := Cx.road_ok okix _ _
theorem siP1e (own : Bool) (n : Nat) (xs : List O3) (p : P3) : segR ((Csj Try.prog).into 28 1) 60 2 (siB Try.prog) [4, 5, 7] [.fix 0] (enter Try.f28 [.slice (some ⟨0, 0, some 0⟩) n 12, p.v] [.rows own true 12 n (opRow xs)]) =
    gd (lk n) (gd (oT n (opRow xs)) (gd (leastN (chkI (opsOf n (opRow xs))) p.ckP != 0) (some (stOf 36 [(4, .slice none 0 0), (5, vI 0), (7, vI (leastN (chkI (opsOf n (opRow xs))) p.ckP))] [.rows own true 12 n (opRow xs)])))) := by kernel_rfl
theorem siP2e (own : Bool) (n : Nat) (xs : List O3) (e : Int) : roundR ((Caw9 Try.prog).into 28 1) 60 (stmt 2 (siB Try.prog)) [4, 5] [4, 5] [.fix 0] [.fix 0] (stOf 36 [(4, .slice none 0 0), (5, vI 0), (7, vI e)] [.rows own true 12 n (opRow xs)]) =
    (match e != 0 with
    | true => some (.ret, stOf 36 [(4, .slice none 0 0), (5, vI e)] [.rows own true 12 n (opRow xs)])
    | false => some (.normal, stOf 36 [(4, .slice none 0 0), (5, vI 0)] [.rows own true 12 n (opRow xs)])) := by kernel_rfl
theorem siRetE (own : Bool) (n : Nat) (xs : List O3) (e : Int) : (retA Try.prog Try.f28 (.ret, stOf 36 [(4, .slice none 0 0), (5, vI e)] [.rows own true 12 n (opRow xs)])).res = some (nilE e, [.rows own true 12 n (opRow xs)]) := by kernel_rfl
theorem siZ (p : P3) : exT ((Ciz Try.prog).at 28) 60 Try.f28 [.slice none 0 0, p.v] [] [] = (match leastN 5 p.ckP != 0 with
    | true => some (nilE (leastN 5 p.ckP), [])
    | false => some (nilE 0, [])) := by kernel_rfl
set_option maxRecDepth 100000 in
theorem siIn : InBody ((Caw9 Try.prog).into 28 1) (forHead (stmt 4 (siB Try.prog))) ∧ InBody ((Caw9 Try.prog).into 28 1) (forBody (stmt 4 (siB Try.prog))) := for_in (C := Caw9 Try.prog) (f := 28) (B := 1) (id := 0) (k := 4) (fn := Try.f28) (b := siB Try.prog) Try.func28 siB_eq siFor
theorem siT_ok {k : Nat} (h : k ≤ 1000) : siT k = true := by unfold siT; rw [Nat.beq_refl]; simp; omega
theorem siLoopR (own : Bool) (n : Nat) (xs : List O3) (p : P3) (Y : List P3) (hY : Y.length = n) (hn : n ≤ 500) : ∀ (c i : Nat) (s : List Int), n - i ≤ c → i ≤ n → s.length ≤ i → LoopSem Try.prog 1 (forBody (stmt 4 (siB Try.prog))) (siHR own n xs p Y s.length (inRow s) (i : Int)) (.exit 0) (siXR own n xs (siL p (Y.drop i) i s).length (inRow (siL p (Y.drop i) i s))) := by
  intro c
  have out : ∀ (i : Nat) (s : List Int), i = n → LoopSem Try.prog 1 (forBody (stmt 4 (siB Try.prog))) (siHR own n xs p Y s.length (inRow s) (i : Int)) (.exit 0) (siXR own n xs (siL p (Y.drop i) i s).length (inRow (siL p (Y.drop i) i s))) := by
    intro i s hi
    have hr := siRR own n xs p Y s.length s i
    rw [show decide ((i : Int) < (n : Int)) = false by simp; omega] at hr
    rw [List.drop_eq_nil_of_le (by omega)]
    exact loop_leave (C := Caw9 Try.prog) okaw9 (f := 28) (B := 1) siIn.2 hr (by simp)
  induction c with
  | zero => intro i s h1 h2 _; exact out i s (by omega)
  | succ c ih =>
    intro i s h1 h2 h3
    by_cases hi : i < n
    · have hr := siRR own n xs p Y s.length s i
      rw [show decide ((i : Int) < (n : Int)) = true by simpa using hi, bd_ok' hi, show W ((i : Int) + 1) = ((i + 1 : Nat) : Int) by rw [W_in (by omega)]; simp, siT_ok (by omega)] at hr
      simp only [gd_true] at hr
      have hd : Y.drop i = atP Y i :: Y.drop (i + 1) := by rw [List.drop_eq_getElem_cons (by omega), atP_get (by omega)]
      rw [hd]
      simp only [siL]
      cases hb : (atP Y i).eqB p with
      | true =>
        rw [hb] at hr
        have := ih (i + 1) (s ++ [(i : Int)]) (by omega) (by omega) (by simp; omega)
        rw [show (s ++ [(i : Int)]).length = s.length + 1 by simp] at this
        exact loop_next (C := Caw9 Try.prog) okaw9 (f := 28) (B := 1) (s2 := siHR own n xs p Y (s.length + 1) (inRow (s ++ [(i : Int)])) ((i + 1 : Nat) : Int)) siIn.2 hr ⟨rfl, .refl _, .refl _, .refl _, .rows (in_snoc s (i : Int) rfl), trivial⟩ this
      | false =>
        rw [hb] at hr
        exact loop_next (C := Caw9 Try.prog) okaw9 (f := 28) (B := 1) siIn.2 hr (StLike.refl _) (ih (i + 1) s (by omega) (by omega) (by omega))
    · exact out i s (by omega)
theorem siLoopE (own : Bool) (n : Nat) (xs : List O3) (p : P3) (Y : List P3) (hY : Y.length = n) (hn : n ≤ 500) : ∀ (c i : Nat), n - i ≤ c → i ≤ n → p ∈ Y.drop i → LoopSem Try.prog 1 (forBody (stmt 4 (siB Try.prog))) (siHE own n xs p Y (i : Int)) (.exit 0) (siXR own n xs (siL p (Y.drop i) i []).length (inRow (siL p (Y.drop i) i []))) := by
  intro c
  induction c with
  | zero =>
    intro i h1 h2 h3
    rw [List.drop_eq_nil_of_le (by omega)] at h3
    cases h3
  | succ c ih =>
    intro i h1 h2 h3
    by_cases hi : i < n
    · have hd : Y.drop i = atP Y i :: Y.drop (i + 1) := by rw [List.drop_eq_getElem_cons (by omega), atP_get (by omega)]
      rw [hd] at h3 ⊢
      simp only [siL]
      cases hb : (atP Y i).eqB p with
      | true =>
        have hr := siRE own n xs p Y i
        rw [show decide ((i : Int) < (n : Int)) = true by simpa using hi, bd_ok' hi, show W ((i : Int) + 1) = ((i + 1 : Nat) : Int) by rw [W_in (by omega)]; simp, hb] at hr
        simp only [gd_true] at hr
        have := siLoopR own n xs p Y hY hn n (i + 1) [(i : Int)] (by omega) (by omega) (by simp)
        exact loop_next (C := Caw9 Try.prog) okaw9 (f := 28) (B := 1) (s2 := siHR own n xs p Y 1 (inRow [(i : Int)]) ((i + 1 : Nat) : Int)) siIn.2 hr ⟨rfl, .refl _, .refl _, .refl _, .rows (in_one (i : Int)), trivial⟩ this
      | false =>
        have hr := siRE own n xs p Y i
        rw [show decide ((i : Int) < (n : Int)) = true by simpa using hi, bd_ok' hi, show W ((i : Int) + 1) = ((i + 1 : Nat) : Int) by rw [W_in (by omega)]; simp, hb] at hr
        simp only [gd_true] at hr
        have hne : p ∈ Y.drop (i + 1) := by
          rcases List.mem_cons.1 h3 with e | h
          · rw [← e, P3.eqB_iff'.2 rfl] at hb; cases hb
          · exact h
        exact loop_next (C := Caw9 Try.prog) okaw9 (f := 28) (B := 1) siIn.2 hr (StLike.refl _) (ih (i + 1) (by omega) (by omega) hne)
    · exfalso
      rw [List.drop_eq_nil_of_le (by omega)] at h3
      cases h3
/-- The places of the maps that leave a place. -/
def sitL (X : List O3) (p : P3) : List Int := siL p (imgs X p) 0 []
theorem siS (own : Bool) (X : List O3) (p : P3) (h : leastN (chkI X) p.ckP = 0) : MemSem Try.prog 28 [.slice (some ⟨0, 0, some 0⟩) X.length 12, p.v] [.rows own true 12 X.length (opRow X)] (.tuple #[.slice (some ⟨1, 0, some 0⟩) (sitL X p).length 1, vI 0]) [.rows own true 12 X.length (opRow X), .rows true true 1 (sitL X p).length (inRow (sitL X p))] := by
  obtain ⟨h1, h2⟩ := leastN_zero.1 h
  obtain ⟨_, hX, hl⟩ := chk_grp h1
  have r1 := siP1 own X.length X p
  rw [lk_true, show oT X.length (opRow X) = true by unfold oT; rw [Nat.beq_refl, okOps_opRow]; rfl, opsOf_row rfl, show (leastN (chkI X) p.ckP != 0) = false by simpa using h] at r1
  have hloop := siLoopE own X.length X p (imgs X p) (imgs_len X p) (by omega) X.length 0 (by omega) (by omega) (by rw [List.drop_zero]; exact orb_self hX (ckP_zero h2))
  rw [List.drop_zero] at hloop
  have body0 : InBody ((Csi Try.prog).into 28 1) (siB Try.prog) := Or.inl ⟨Try.f28, siB Try.prog, Try.func28, siB_eq, fun _ hx => hx⟩
  exact body_mem (f := 28) Try.func28 siB_eq (by kernel_rfl) (seg_rule (C := Csi Try.prog) oksi (f := 28) (B := 1) (k := 4) body0 r1 (stmt_rule siHas.2 (for_rule siFor (end_rule (C := Caw9 Try.prog) okaw9 (f := 28) (B := 1) siIn.1 (siHead own X.length X p (imgs X p))) hloop) (end_rule (C := Caw9 Try.prog) okaw9 (f := 28) (B := 1) (bodyOf_in Try.func28 siB_eq) (siEnd own X.length X (sitL X p).length (inRow (sitL X p)))))) (siRet own X.length X (sitL X p).length (inRow (sitL X p)))
theorem siSe (own : Bool) (X : List O3) (p : P3) (h : leastN (chkI X) p.ckP ≠ 0) : MemSem Try.prog 28 [.slice (some ⟨0, 0, some 0⟩) X.length 12, p.v] [.rows own true 12 X.length (opRow X)] (nilE (leastN (chkI X) p.ckP)) [.rows own true 12 X.length (opRow X)] := by
  have hb : (leastN (chkI X) p.ckP != 0) = true := by simpa using h
  have r1 := siP1e own X.length X p
  rw [lk_true, show oT X.length (opRow X) = true by unfold oT; rw [Nat.beq_refl, okOps_opRow]; rfl, opsOf_row rfl, hb] at r1
  have r2 := siP2e own X.length X (leastN (chkI X) p.ckP)
  rw [hb] at r2
  have body0 : InBody ((Csj Try.prog).into 28 1) (siB Try.prog) := Or.inl ⟨Try.f28, siB Try.prog, Try.func28, siB_eq, fun _ hx => hx⟩
  exact body_mem (f := 28) Try.func28 siB_eq (by kernel_rfl) (seg_rule (C := Csj Try.prog) oksj (f := 28) (B := 1) (k := 2) body0 r1 (stmt_out siHas.1 (end_rule (C := Caw9 Try.prog) okaw9 (f := 28) (B := 1) (stmt_in Try.func28 siB_eq) r2) (by simp))) (siRetE own X.length X (leastN (chkI X) p.ckP))
def siF : List Value → Mem → Option (Ans (Value × Mem))
  | [.slice none 0 0, .agg co], [] => match ptCells co.toList with
    | some p => some (.out (nilE (leastN 5 p.ckP), []))
    | none => none
  | [.slice (some ⟨0, 0, some 0⟩) N 12, .agg co], [.rows own true 12 N2 row] => match ptCells co.toList with
    | some p => some (.br (Nat.beq N N2 && okOps N row) (.br (leastN (chkI (opsOf N row)) p.ckP != 0) (.out (nilE (leastN (chkI (opsOf N row)) p.ckP), [.rows own true 12 N (opRow (opsOf N row))])) (.out (.tuple #[.slice (some ⟨1, 0, some 0⟩) (sitL (opsOf N row) p).length 1, vI 0], [.rows own true 12 N (opRow (opsOf N row)), .rows true true 1 (sitL (opsOf N row) p).length (inRow (sitL (opsOf N row) p))]))) .fail)
    | none => none
  | _, _ => none
theorem siF_ok {args : List Value} {m : Mem} {ans : Ans (Value × Mem)} {v : Value} {m' : Mem} (h : siF args m = some ans) (hr : ans.res = some (v, m')) : MemSem Try.prog 28 args m v m' := by
  unfold siF at h
  split at h
  · rename_i co
    split at h
    rotate_left
    · cases h
    rename_i p hp
    simp only [Option.some.injEq] at h
    subst h
    simp only [Ans.res, Option.some.injEq, Prod.mk.injEq] at hr
    obtain ⟨rfl, rfl⟩ := hr
    have e1 : co = p.cells.toArray := by rw [← ptCells_spec hp]
    subst e1
    have hE := siZ p
    rw [show (leastN 5 p.ckP != 0) = true by simpa using five_ne p] at hE
    exact exT_ok okiz Try.func28 (by kernel_rfl) hE
  rotate_left
  · cases h
  rename_i N co own N2 row
  split at h
  rotate_left
  · cases h
  rename_i p hp
  simp only [Option.some.injEq] at h
  subst h
  rcases Ans.br_some hr with ⟨hc, hr1⟩ | ⟨_, hr1⟩
  rotate_left
  · simp [Ans.res] at hr1
  rw [Bool.and_eq_true] at hc
  obtain ⟨c1, c2⟩ := hc
  have c1 := beq_len c1
  subst c1
  have e1 : co = p.cells.toArray := by rw [← ptCells_spec hp]
  subst e1
  have hl := opsOf_length N row
  rcases Ans.br_some hr1 with ⟨hq, hr2⟩ | ⟨hq, hr2⟩
  · simp only [Ans.res, Option.some.injEq, Prod.mk.injEq] at hr2
    obtain ⟨rfl, rfl⟩ := hr2
    have := siSe own (opsOf N row) p (by simpa using hq)
    rw [hl] at this
    exact this.like ⟨.rows (ops_like c2), trivial⟩
  · simp only [Ans.res, Option.some.injEq, Prod.mk.injEq] at hr2
    obtain ⟨rfl, rfl⟩ := hr2
    have := siS own (opsOf N row) p (by simpa using hq)
    rw [hl] at this
    exact this.like ⟨.rows (ops_like c2), trivial⟩
end Go.Proofs.Ytggdbakgiknogaa


namespace Go.Proofs.Ytggdbakgiknogaa
open Go Vx Go.RowKit
def orcB (P : Program) : Code := bodyOf P 7
theorem ocB_eq : Try.f7.body = some (orcB Try.prog) := by kernel_rfl
def Caw8 (P : Program) : Cx := (Caw9 P).addF 28 siF
theorem okaw8 : CxOk (Caw8 Try.prog) := Cx.addF_ok okaw9 fun _ _ _ _ _ h hr => siF_ok h hr
/-- No error. -/
def Cog (P : Program) : Cx := ((((Caw8 P).makes 13 [true, false]).good 27 [true, false]).good 28 [true, false]).good 14 [true]
theorem okog : CxOk (Cog Try.prog) := Cx.good_ok (Cx.good_ok (Cx.good_ok (Cx.makes_ok okaw8 _ _) _ _) _ _) _ _
def ck1 {α : Type} (n : Nat) (xs : List O3) (x : Option α) : Option α := gd (lk n) (gd (oT n (opRow (X1 n xs))) (gd (chkI (X2 n xs) == 0) x))
def mk8 (a : Nat) : Bool := decide (0 ≤ (a : Int)) && (decide ((a : Int) ≤ (a : Int)) && (decide ((a : Int) * ((8 : Nat) : Int) ≤ 2 ^ 47) && decide ((a : Int) ≤ 2 ^ 62)))
def orcG (own : Bool) (n : Nat) (xs : List O3) (p : P3) (a : Nat) (A : List P3) (k : Nat) (s : List Int) (r : Nat → List Value) : St := stOf 179 [(0, .slice (some ⟨0, 0, some 0⟩) n 12), (3, .pointer (some ⟨1, 0, none⟩)), (4, .bool false), (5, .slice (some ⟨2, 0, some 0⟩) a 4), (7, .slice (some ⟨3, 0, some 0⟩) k 1), (9, .slice (some ⟨4, 0, some 0⟩) a 1)] [.rows own true 12 n (opRow xs), .cells true 0 p.cells, .rows true true 4 n (ptRow A), .rows true true 1 k (inRow s), .rows true true 1 a r]
theorem orcP1 (own : Bool) (n : Nat) (xs : List O3) (p : P3) : segR ((Cog Try.prog).into 7 1) 80 7 (orcB Try.prog) [0, 3, 4, 5, 7, 9] [.fix 0, .slot 3, .slot 5, .slot 7, .slot 9] (enter Try.f7 [.slice (some ⟨0, 0, some 0⟩) n 12, p.v] [.rows own true 12 n (opRow xs)]) =
    tw1 n xs (of1 n xs p (tw1 n xs (of1 n xs p (tw1 n xs (ck1 n xs (gn (!p.form) (gn (W (((orbL (X2 n xs) p).length : Int) * ((sitL (X2 n xs) p).length : Int)) != (n : Int)) (gd (mk8 (orbL (X2 n xs) p).length)
      (some (orcG own n xs p (orbL (X2 n xs) p).length (orbA (X2 n xs) p) (sitL (X2 n xs) p).length (sitL (X2 n xs) p) fun _ => [vI 0]))))))))))  := by kernel_rfl
/-! The maps, one by one -/
theorem orcFor1 : isFor 0 (stmt 7 (orcB Try.prog)) = true := by kernel_rfl
def orcO (P : Program) : Code := forBody (stmt 7 (orcB P))
def orcX (P : Program) : Code := cL (cL (cR (cR (orcO P))))
theorem ocO_eq : orcO Try.prog = .seq (cL (orcO Try.prog)) (.seq (.cond (.tmp 88) .skip (.exit 0)) (.seq (.block 1 (orcX Try.prog)) (cR (cR (cR (orcO Try.prog)))))) := by kernel_rfl
def orcH (own : Bool) (n : Nat) (xs : List O3) (p : P3) (a : Nat) (A : List P3) (k : Nat) (s : List Int) (r : Nat → List Value) (i : Int) : St := stOf 179 [(0, .slice (some ⟨0, 0, some 0⟩) n 12), (3, .pointer (some ⟨1, 0, none⟩)), (4, .bool false), (5, .slice (some ⟨2, 0, some 0⟩) a 4), (7, .slice (some ⟨3, 0, some 0⟩) k 1), (9, .slice (some ⟨4, 0, some 0⟩) a 1), (85, .slice (some ⟨0, 0, some 0⟩) n 12), (86, vI n), (87, vI i)] [.rows own true 12 n (opRow xs), .cells true 0 p.cells, .rows true true 4 n (ptRow A), .rows true true 1 k (inRow s), .rows true true 1 a r]
def orcHb (own : Bool) (n : Nat) (xs : List O3) (p : P3) (a : Nat) (A : List P3) (k : Nat) (s : List Int) (r : Nat → List Value) (i : Int) (t : Bool) : St := stOf 179 [(0, .slice (some ⟨0, 0, some 0⟩) n 12), (3, .pointer (some ⟨1, 0, none⟩)), (4, .bool false), (5, .slice (some ⟨2, 0, some 0⟩) a 4), (7, .slice (some ⟨3, 0, some 0⟩) k 1), (9, .slice (some ⟨4, 0, some 0⟩) a 1), (85, .slice (some ⟨0, 0, some 0⟩) n 12), (86, vI n), (87, vI i), (88, .bool t)] [.rows own true 12 n (opRow xs), .cells true 0 p.cells, .rows true true 4 n (ptRow A), .rows true true 1 k (inRow s), .rows true true 1 a r]
theorem orcHead (own : Bool) (n : Nat) (xs : List O3) (p : P3) (a : Nat) (A : List P3) (k : Nat) (s : List Int) (r : Nat → List Value) : roundR ((Caw8 Try.prog).into 7 1) 60 (forHead (stmt 7 (orcB Try.prog))) [0, 3, 4, 5, 7, 9, 85, 86, 87] [0, 3, 4, 5, 7, 9, 85, 86, 87] [.fix 0, .slot 3, .slot 5, .slot 7, .slot 9] [.fix 0, .slot 3, .slot 5, .slot 7, .slot 9] (orcG own n xs p a A k s r) = some (.normal, orcH own n xs p a A k s r 0) := by kernel_rfl
theorem orcA (own : Bool) (n : Nat) (xs : List O3) (p : P3) (a : Nat) (A : List P3) (k : Nat) (s : List Int) (r : Nat → List Value) (i : Int) : roundR ((Caw8 Try.prog).into 7 1) 60 (cL (orcO Try.prog)) [0, 3, 4, 5, 7, 9, 85, 86, 87, 88] [0, 3, 4, 5, 7, 9, 85, 86, 87, 88] [.fix 0, .slot 3, .slot 5, .slot 7, .slot 9] [.fix 0, .slot 3, .slot 5, .slot 7, .slot 9] (orcH own n xs p a A k s r i) = some (.normal, orcHb own n xs p a A k s r i (decide (i < (n : Int)))) := by kernel_rfl
/-- With where a map sends the place. -/
def orcQ (own : Bool) (n : Nat) (xs : List O3) (p : P3) (a : Nat) (A : List P3) (k : Nat) (s : List Int) (r : Nat → List Value) (i : Int) (q : P3) (e : Int) (fd : Bool) : St := stOf 179 [(0, .slice (some ⟨0, 0, some 0⟩) n 12), (3, .pointer (some ⟨1, 0, none⟩)), (4, .bool false), (5, .slice (some ⟨2, 0, some 0⟩) a 4), (7, .slice (some ⟨3, 0, some 0⟩) k 1), (9, .slice (some ⟨4, 0, some 0⟩) a 1), (12, .pointer (some ⟨5, 0, none⟩)), (13, vI e), (14, .bool fd), (85, .slice (some ⟨0, 0, some 0⟩) n 12), (86, vI n), (87, vI i)] [.rows own true 12 n (opRow xs), .cells true 0 p.cells, .rows true true 4 n (ptRow A), .rows true true 1 k (inRow s), .rows true true 1 a r, .cells true 0 q.cells]
theorem orcX0 (own : Bool) (n : Nat) (xs : List O3) (p : P3) (a : Nat) (A : List P3) (k : Nat) (s : List Int) (r : Nat → List Value) (i : Int) : segR ((Caw8 Try.prog).into 7 1) 60 3 (orcX Try.prog) [0, 3, 4, 5, 7, 9, 12, 13, 14, 85, 86, 87] [.fix 0, .slot 3, .slot 5, .slot 7, .slot 9, .slot 12] (orcHb own n xs p a A k s r i true) = gd (boundsI i n) (some (orcQ own n xs p a A k s r i ((atO xs i).appF p) ((atO xs i).appE p) false)) := by kernel_rfl
theorem orcFor2 : isFor 2 (stmt 3 (orcX Try.prog)) = true := by kernel_rfl
theorem orcHas : hasStmt 7 (orcB Try.prog) = true ∧ hasStmt 3 (orcX Try.prog) = true ∧ hasStmt 8 (orcB Try.prog) = true ∧ hasStmt 10 (orcB Try.prog) = true ∧ hasStmt 4 (orcB Try.prog) = true := ⟨by kernel_rfl, by kernel_rfl, by kernel_rfl, by kernel_rfl, by kernel_rfl⟩
def orcJ (own : Bool) (n : Nat) (xs : List O3) (p : P3) (a : Nat) (A : List P3) (k : Nat) (s : List Int) (r : Nat → List Value) (i : Int) (q : P3) (e : Int) (fd : Bool) (j : Int) : St := stOf 179 [(0, .slice (some ⟨0, 0, some 0⟩) n 12), (3, .pointer (some ⟨1, 0, none⟩)), (4, .bool false), (5, .slice (some ⟨2, 0, some 0⟩) a 4), (7, .slice (some ⟨3, 0, some 0⟩) k 1), (9, .slice (some ⟨4, 0, some 0⟩) a 1), (12, .pointer (some ⟨5, 0, none⟩)), (13, vI e), (14, .bool fd), (85, .slice (some ⟨0, 0, some 0⟩) n 12), (86, vI n), (87, vI i), (97, .slice (some ⟨2, 0, some 0⟩) a 4), (98, vI a), (99, vI j)] [.rows own true 12 n (opRow xs), .cells true 0 p.cells, .rows true true 4 n (ptRow A), .rows true true 1 k (inRow s), .rows true true 1 a r, .cells true 0 q.cells]
theorem orcHead2 (own : Bool) (n : Nat) (xs : List O3) (p : P3) (a : Nat) (A : List P3) (k : Nat) (s : List Int) (r : Nat → List Value) (i : Int) (q : P3) (e : Int) (fd : Bool) : roundR ((Caw8 Try.prog).into 7 1) 60 (forHead (stmt 3 (orcX Try.prog))) [0, 3, 4, 5, 7, 9, 12, 13, 14, 85, 86, 87, 97, 98, 99] [0, 3, 4, 5, 7, 9, 12, 13, 14, 85, 86, 87, 97, 98, 99] [.fix 0, .slot 3, .slot 5, .slot 7, .slot 9, .slot 12] [.fix 0, .slot 3, .slot 5, .slot 7, .slot 9, .slot 12] (orcQ own n xs p a A k s r i q e fd) = some (.normal, orcJ own n xs p a A k s r i q e fd 0) := by kernel_rfl
def atI (T : List Int) (j : Nat) : Int := (T[j]?).getD 0
theorem orcR2 (own : Bool) (n : Nat) (xs : List O3) (p : P3) (a : Nat) (A : List P3) (k : Nat) (s T : List Int) (i : Int) (q : P3) (e : Int) (fd : Bool) (j : Nat) : roundR ((Caw8 Try.prog).into 7 1) 60 (forBody (stmt 3 (orcX Try.prog))) [0, 3, 4, 5, 7, 9, 12, 13, 14, 85, 86, 87, 97, 98, 99] [0, 3, 4, 5, 7, 9, 12, 13, 14, 85, 86, 87] [.fix 0, .slot 3, .slot 5, .slot 7, .slot 9, .slot 12] [.fix 0, .slot 3, .slot 5, .slot 7, .slot 9, .slot 12] (orcJ own n xs p a A k s (inRow T) i q e fd (j : Int)) =
    (match decide ((j : Int) < (a : Int)) with
    | true => gd (boundsI j a) (match (atP A j).eqB q with
      | true => gd (boundsI j a) (gd (boundsI j a) (some (.normal, orcJ own n xs p a A k s (stI T (W (atI T j + 1)) (j : Int)) i q e true (W ((j : Int) + 1)))))
      | false => some (.normal, orcJ own n xs p a A k s (inRow T) i q e fd (W ((j : Int) + 1))))
    | false => some (.exit 2, orcQ own n xs p a A k s (inRow T) i q e fd)) := by kernel_rfl
def orcR (own : Bool) (n : Nat) (xs : List O3) (b : Bool) : St := stOf 179 [(4, .bool b)] [.rows own true 12 n (opRow xs)]
theorem orcX4 (own : Bool) (n : Nat) (xs : List O3) (p : P3) (a : Nat) (A : List P3) (k : Nat) (s T : List Int) (i : Int) (q : P3) : roundR ((Caw8 Try.prog).into 7 1) 60 (seqDrop 4 (orcX Try.prog)) [0, 3, 4, 5, 7, 9, 85, 86, 87] [0, 3, 4, 5, 7, 9, 85, 86, 87] [.fix 0, .slot 3, .slot 5, .slot 7, .slot 9] [.fix 0, .slot 3, .slot 5, .slot 7, .slot 9] (orcQ own n xs p a A k s (inRow T) i q 0 true) = some (.normal, orcH own n xs p a A k s (inRow T) i) := by kernel_rfl
theorem orcN (own : Bool) (n : Nat) (xs : List O3) (p : P3) (a : Nat) (A : List P3) (k : Nat) (s T : List Int) (i : Int) : roundR ((Caw8 Try.prog).into 7 1) 60 (cR (cR (cR (orcO Try.prog)))) [0, 3, 4, 5, 7, 9, 85, 86, 87] [0, 3, 4, 5, 7, 9, 85, 86, 87] [.fix 0, .slot 3, .slot 5, .slot 7, .slot 9] [.fix 0, .slot 3, .slot 5, .slot 7, .slot 9] (orcH own n xs p a A k s (inRow T) i) = some (.normal, orcH own n xs p a A k s (inRow T) (W (i + 1))) := by kernel_rfl
/-! The counts, one by one -/
theorem orcFor3 : isFor 4 (stmt 8 (orcB Try.prog)) = true := by kernel_rfl
def orcT (own : Bool) (n : Nat) (xs : List O3) (a : Nat) (A : List P3) (k : Nat) (s T : List Int) (i : Int) : St := stOf 179 [(0, .slice (some ⟨0, 0, some 0⟩) n 12), (4, .bool false), (5, .slice (some ⟨1, 0, some 0⟩) a 4), (7, .slice (some ⟨2, 0, some 0⟩) k 1), (121, .slice (some ⟨3, 0, some 0⟩) a 1), (122, vI a), (123, vI i)] [.rows own true 12 n (opRow xs), .rows true true 4 n (ptRow A), .rows true true 1 k (inRow s), .rows true true 1 a (inRow T)]
def orcU (own : Bool) (n : Nat) (xs : List O3) (k : Nat) (s : List Int) : St := stOf 179 [(0, .slice (some ⟨0, 0, some 0⟩) n 12), (4, .bool false), (7, .slice (some ⟨1, 0, some 0⟩) k 1)] [.rows own true 12 n (opRow xs), .rows true true 1 k (inRow s)]
theorem orcHead3 (own : Bool) (n : Nat) (xs : List O3) (p : P3) (a : Nat) (A : List P3) (k : Nat) (s T : List Int) (i : Int) : roundR ((Caw8 Try.prog).into 7 1) 60 (forHead (stmt 8 (orcB Try.prog))) [0, 4, 5, 7, 121, 122, 123] [0, 4, 5, 7, 121, 122, 123] [.fix 0, .slot 5, .slot 7, .slot 121] [.fix 0, .slot 5, .slot 7, .slot 121] (orcHb own n xs p a A k s (inRow T) i false) = some (.normal, orcT own n xs a A k s T 0) := by kernel_rfl
theorem orcR3 (own : Bool) (n : Nat) (xs : List O3) (a : Nat) (A : List P3) (k : Nat) (s T : List Int) (i : Nat) : roundR ((Caw8 Try.prog).into 7 1) 60 (forBody (stmt 8 (orcB Try.prog))) [0, 4, 5, 7, 121, 122, 123] [0, 4, 7] [.fix 0, .slot 5, .slot 7, .slot 121] [.fix 0, .slot 7] (orcT own n xs a A k s T (i : Int)) =
    (match decide ((i : Int) < (a : Int)) with
    | true => gd (boundsI i a) (match atI T i != (k : Int) with
      | true => some (.ret, orcU own n xs k s)
      | false => match decide ((i : Int) > 0) with
        | true => gd (boundsI (W ((i : Int) - 1)) a) (gd (boundsI i a) (match decide ((atP A (W ((i : Int) - 1)).toNat).ordV (atP A i) ≥ 0) with
          | true => some (.ret, orcU own n xs k s)
          | false => match (atP A (W ((i : Int) - 1)).toNat).ordE (atP A i) != 0 with
            | true => some (.ret, orcU own n xs k s)
            | false => some (.normal, orcT own n xs a A k s T (W ((i : Int) + 1)))))
        | false => some (.normal, orcT own n xs a A k s T (W ((i : Int) + 1))))
    | false => some (.exit 4, orcU own n xs k s)) := by kernel_rfl
/-! The maps that stay -/
theorem orcFor4 : isFor 6 (stmt 10 (orcB Try.prog)) = true := by kernel_rfl
def orcV (own : Bool) (n : Nat) (xs : List O3) (k : Nat) (s : List Int) : St := stOf 179 [(0, .slice (some ⟨0, 0, some 0⟩) n 12), (4, .bool false), (7, .slice (some ⟨1, 0, some 0⟩) k 1), (21, .slice none 0 0)] [.rows own true 12 n (opRow xs), .rows true true 1 k (inRow s)]
theorem orcP9 (own : Bool) (n : Nat) (xs : List O3) (k : Nat) (s : List Int) : segR ((Caw8 Try.prog).into 7 1) 60 1 (seqDrop 9 (orcB Try.prog)) [0, 4, 7, 21] [.fix 0, .slot 7] (orcU own n xs k s) = some (orcV own n xs k s) := by kernel_rfl
def orcW (own : Bool) (n : Nat) (xs : List O3) (k : Nat) (s : List Int) (i : Int) : St := stOf 179 [(0, .slice (some ⟨0, 0, some 0⟩) n 12), (4, .bool false), (21, .slice none 0 0), (154, .slice (some ⟨1, 0, some 0⟩) k 1), (155, vI k), (156, vI i)] [.rows own true 12 n (opRow xs), .rows true true 1 k (inRow s)]
def orcY (own : Bool) (n : Nat) (xs : List O3) (k : Nat) (s : List Int) (i : Int) (c : Nat) (r : Nat → List Value) : St := stOf 179 [(0, .slice (some ⟨0, 0, some 0⟩) n 12), (4, .bool false), (21, .slice (some ⟨2, 0, some 0⟩) c 12), (154, .slice (some ⟨1, 0, some 0⟩) k 1), (155, vI k), (156, vI i)] [.rows own true 12 n (opRow xs), .rows true true 1 k (inRow s), .rows true true 12 c r]
theorem orcHead4 (own : Bool) (n : Nat) (xs : List O3) (k : Nat) (s : List Int) : roundR ((Caw8 Try.prog).into 7 1) 60 (forHead (stmt 10 (orcB Try.prog))) [0, 4, 21, 154, 155, 156] [0, 4, 21, 154, 155, 156] [.fix 0, .slot 154] [.fix 0, .slot 154] (orcV own n xs k s) = some (.normal, orcW own n xs k s 0) := by kernel_rfl
def orcZ (own : Bool) (n : Nat) (xs : List O3) (c : Nat) (r : Nat → List Value) : St := stOf 179 [(4, .bool false), (21, .slice (some ⟨1, 0, some 0⟩) c 12)] [.rows own true 12 n (opRow xs), .rows true true 12 c r]
theorem orcR4 (own : Bool) (n : Nat) (xs : List O3) (k : Nat) (s : List Int) (i : Nat) : roundR ((Caw8 Try.prog).into 7 1) 60 (forBody (stmt 10 (orcB Try.prog))) [0, 4, 21, 154, 155, 156] [4, 21] [.fix 0, .slot 154, .slot 21] [.fix 0] (orcW own n xs k s (i : Int)) =
    (match decide ((i : Int) < (k : Int)) with
    | true => gd (boundsI i k) (match decide (atI s i < 0) with
      | true => some (.ret, stOf 179 [(4, .bool false), (21, .slice none 0 0)] [.rows own true 12 n (opRow xs)])
      | false => match decide (atI s i ≥ (n : Int)) with
        | true => some (.ret, stOf 179 [(4, .bool false), (21, .slice none 0 0)] [.rows own true 12 n (opRow xs)])
        | false => gd (boundsI (atI s i) n) (some (.normal, orcY own n xs k s (W ((i : Int) + 1)) 1 (chop 12 0 (atO xs (atI s i)).cells))))
    | false => some (.exit 6, stOf 179 [(4, .bool false), (21, .slice none 0 0)] [.rows own true 12 n (opRow xs)])) := by kernel_rfl
def r12 (c : Nat) : Bool := Nat.beq c c && (decide ((c + 1) * 96 ≤ 2 ^ 47) && decide (c + 1 ≤ 2 ^ 62))
theorem orcR5 (own : Bool) (n : Nat) (xs : List O3) (k : Nat) (s : List Int) (i c : Nat) (Z : List O3) : roundR ((Caw8 Try.prog).into 7 1) 60 (forBody (stmt 10 (orcB Try.prog))) [0, 4, 21, 154, 155, 156] [4, 21] [.fix 0, .slot 154, .slot 21] [.fix 0, .slot 21] (orcY own n xs k s (i : Int) c (opRow Z)) =
    (match decide ((i : Int) < (k : Int)) with
    | true => gd (boundsI i k) (match decide (atI s i < 0) with
      | true => some (.ret, orcZ own n xs c (opRow Z))
      | false => match decide (atI s i ≥ (n : Int)) with
        | true => some (.ret, orcZ own n xs c (opRow Z))
        | false => gd (boundsI (atI s i) n) (gd (r12 c) (some (.normal, orcY own n xs k s (W ((i : Int) + 1)) (c + 1) (catR c (opRow Z) (chop 12 0 (atO xs (atI s i)).cells))))))
    | false => some (.exit 6, orcZ own n xs c (opRow Z))) := by kernel_rfl
def Coh (P : Program) : Cx := (Caw8 P).looks 14 [true]
theorem okoh : CxOk (Coh Try.prog) := Cx.looks_ok okaw8 _ _
theorem orcEnd (own : Bool) (n : Nat) (xs : List O3) (c : Nat) (Z : List O3) : roundR ((Coh Try.prog).into 7 1) 60 (seqDrop 11 (orcB Try.prog)) [4] [4] [.fix 0] [.fix 0] (orcZ own n xs c (opRow Z)) = gd (lk c) (gd (oT c (opRow Z)) (some (.ret, orcR own n xs (chkI (opsOf c (opRow Z)) == 0)))) := by kernel_rfl
theorem orcRet (own : Bool) (n : Nat) (xs : List O3) : (retA Try.prog Try.f7 (.ret, orcR own n xs true)).res = some (.bool true, [.rows own true 12 n (opRow xs)]) := by kernel_rfl
/-! With an error -/
def Coe9 (P : Program) : Cx := (((Caw8 P).makes 13 [true, false]).road 27 [true, true]).road 28 [true, true]
theorem okoe9 : CxOk (Coe9 Try.prog) := Cx.road_ok (Cx.road_ok (Cx.makes_ok okaw8 _ _) _ _) _ _
def oe1 {α : Type} (n : Nat) (xs : List O3) (p : P3) (x : Option α) : Option α := gd (lk n) (gd (oT n (opRow (X1 n xs))) (gd (leastN (chkI (X2 n xs)) p.ckP != 0) x))
def orcS (own : Bool) (n : Nat) (xs : List O3) (p : P3) (e f : Int) : St := stOf 179 [(0, .slice (some ⟨0, 0, some 0⟩) n 12), (3, .pointer (some ⟨1, 0, none⟩)), (4, .bool false), (5, .slice none 0 0), (6, vI e), (7, .slice none 0 0), (8, vI f)] [.rows own true 12 n (opRow xs), .cells true 0 p.cells]
theorem orcP1e (own : Bool) (n : Nat) (xs : List O3) (p : P3) : segR ((Coe9 Try.prog).into 7 1) 80 4 (orcB Try.prog) [0, 3, 4, 5, 6, 7, 8] [.fix 0, .slot 3] (enter Try.f7 [.slice (some ⟨0, 0, some 0⟩) n 12, p.v] [.rows own true 12 n (opRow xs)]) =
    tw1 n xs (oe1 n xs p (tw1 n xs (oe1 n xs p (some (orcS own n xs p (leastN (chkI (X2 n xs)) p.ckP) (leastN (chkI (X2 n xs)) p.ckP)))))) := by kernel_rfl
def Cok (P : Program) : Cx := ((Caw8 P).makes 13 [true, false]).lend 14
theorem okok : CxOk (Cok Try.prog) := Cx.lend_ok (Cx.makes_ok okaw8 _ _) _
theorem orcP4e (own : Bool) (n : Nat) (xs : List O3) (p : P3) (e : Int) : roundR ((Cok Try.prog).into 7 1) 60 (stmt 4 (orcB Try.prog)) [4] [4] [.fix 0] [.fix 0] (orcS own n xs p e e) =
    tw1 n xs (gd (lk n) (gd (oT n (opRow (X1 n xs))) (match chkI (X2 n xs) != 0 with
      | true => match e != 0 with
        | true => match e == e with
          | true => some (.ret, orcR own n xs true)
          | false => some (.ret, orcR own n xs false)
        | false => some (.ret, orcR own n xs false)
      | false => match !p.form with
        | true => match e != 0 with
          | true => match e == e with
            | true => some (.ret, orcR own n xs true)
            | false => some (.ret, orcR own n xs false)
          | false => some (.ret, orcR own n xs false)
        | false => some (.normal, orcR own n xs false)))) := by kernel_rfl
/-- A list of nothing. -/
def Cqz (P : Program) : Cx := ((((Caw8 P).makes 13 [true]).lend 27).lend 28).lend 14
theorem okqz : CxOk (Cqz Try.prog) := Cx.lend_ok (Cx.lend_ok (Cx.lend_ok (Cx.makes_ok okaw8 _ _) _) _) _
def Cqy (P : Program) : Cx := ((((Caw8 P).makes 13 [true, true]).lend 27).lend 28).lend 14
theorem okqy : CxOk (Cqy Try.prog) := Cx.lend_ok (Cx.lend_ok (Cx.lend_ok (Cx.makes_ok okaw8 _ _) _) _) _
def orcZe (p : P3) (m : Mem) : Option (Value × Mem) := match leastN 5 p.ckP != 0 with
  | true => match leastN 5 p.ckP == leastN 5 p.ckP with
    | true => some (.bool true, m)
    | false => some (.bool false, m)
  | false => some (.bool false, m)
theorem orcZ0 (p : P3) : exT ((Cqz Try.prog).at 7) 80 Try.f7 [.slice none 0 0, p.v] [] [] = orcZe p [] := by kernel_rfl
theorem orcZ1 (own : Bool) (p : P3) : exT ((Cqy Try.prog).at 7) 80 Try.f7 [.slice (some ⟨0, 0, some 0⟩) 0 12, p.v] [.rows own true 12 0 (opRow [])] [.fix 0] = orcZe p [.rows own true 12 0 (opRow [])] := by kernel_rfl
end Go.Proofs.Ytggdbakgiknogaa


namespace Go.Proofs.Ytggdbakgiknogaa
open Go Vx Go.RowKit
/-! Counts raised where a place lies -/
theorem atI_set {T : List Int} {j r : Nat} {x : Int} (hj : j < T.length) : atI (T.set j x) r = if r = j then x else atI T r := by
  unfold atI
  by_cases h : r = j
  · subst h; rw [List.getElem?_set_self hj, if_pos rfl]; rfl
  · rw [List.getElem?_set_ne (fun e => h e.symm), if_neg h]
def incF (q : P3) (A : List P3) : Nat → Nat → List Int → List Int
  | 0, _, T => T
  | c + 1, j, T => incF q A c (j + 1) (bif (atP A j).eqB q then T.set j (atI T j + 1) else T)
def fdF (q : P3) (A : List P3) : Nat → Nat → Bool → Bool
  | 0, _, b => b
  | c + 1, j, b => fdF q A c (j + 1) (bif (atP A j).eqB q then true else b)
theorem incF_len (q : P3) (A : List P3) : ∀ (c j : Nat) (T : List Int), (incF q A c j T).length = T.length
  | 0, _, _ => rfl
  | c + 1, j, T => by
    simp only [incF]
    rw [incF_len q A c]
    cases (atP A j).eqB q <;> simp
theorem incF_at (q : P3) (A : List P3) : ∀ (c j : Nat) (T : List Int) (r : Nat), j + c ≤ T.length → atI (incF q A c j T) r = atI T r + (if j ≤ r ∧ r < j + c ∧ (atP A r).eqB q = true then 1 else 0)
  | 0, j, T, r, _ => by rw [if_neg (by omega)]; simp [incF]
  | c + 1, j, T, r, h => by
    simp only [incF]
    cases hb : (atP A j).eqB q with
    | true =>
      simp only [cond_true]
      rw [incF_at q A c (j + 1) _ r (by simp; omega), atI_set (by omega)]
      by_cases hr : r = j
      · subst hr
        rw [if_pos rfl, if_neg (by omega), if_pos ⟨Nat.le_refl _, by omega, hb⟩]
        omega
      · rw [if_neg hr]
        congr 1
        by_cases h2 : j + 1 ≤ r ∧ r < j + 1 + c ∧ (atP A r).eqB q = true
        · rw [if_pos h2, if_pos ⟨by omega, by omega, h2.2.2⟩]
        · rw [if_neg h2, if_neg (fun k => h2 ⟨by omega, by omega, k.2.2⟩)]
    | false =>
      simp only [cond_false]
      rw [incF_at q A c (j + 1) T r (by omega)]
      congr 1
      by_cases h2 : j + 1 ≤ r ∧ r < j + 1 + c ∧ (atP A r).eqB q = true
      · rw [if_pos h2, if_pos ⟨by omega, by omega, h2.2.2⟩]
      · rw [if_neg h2, if_neg (fun k => h2 ⟨by
          rcases Nat.lt_or_ge j r with hlt | hge
          · omega
          · have : r = j := by omega
            subst this
            rw [hb] at k
            exact absurd k.2.2 (by simp), by omega, k.2.2⟩)]
theorem fdF_true (q : P3) (A : List P3) : ∀ (c j : Nat), fdF q A c j true = true
  | 0, _ => rfl
  | c + 1, j => by
    simp only [fdF]
    cases (atP A j).eqB q <;> exact fdF_true q A c (j + 1)
theorem fdF_found (q : P3) (A : List P3) : ∀ (c j : Nat) (b : Bool), (∃ r, j ≤ r ∧ r < j + c ∧ atP A r = q) → fdF q A c j b = true
  | 0, j, b, ⟨r, h1, h2, _⟩ => by omega
  | c + 1, j, b, ⟨r, h1, h2, h3⟩ => by
    simp only [fdF]
    by_cases hr : r = j
    · subst hr
      rw [h3, P3.eqB_iff'.2 rfl]
      exact fdF_true q A c _
    · exact fdF_found q A c (j + 1) _ ⟨r, by omega, by omega, h3⟩
def cntF (A : List P3) (a : Nat) (p : P3) : List O3 → List Int → List Int
  | [], T => T
  | o :: l, T => cntF A a p l (incF (o.app p) A a 0 T)
theorem cntF_len (A : List P3) (a : Nat) (p : P3) : ∀ (l : List O3) (T : List Int), (cntF A a p l T).length = T.length
  | [], _ => rfl
  | o :: l, T => by simp only [cntF]; rw [cntF_len A a p l, incF_len]
theorem cntF_at (A : List P3) (a : Nat) (p : P3) : ∀ (l : List O3) (T : List Int) (r : Nat), a ≤ T.length → r < a → atI (cntF A a p l T) r = atI T r + ((l.filter fun o => (o.app p).eqB (atP A r)).length : Int)
  | [], T, r, _, _ => by simp [cntF]
  | o :: l, T, r, h, hr => by
    simp only [cntF]
    rw [cntF_at A a p l _ r (by rw [incF_len]; exact h) hr, incF_at (o.app p) A a 0 T r (by omega), List.filter_cons]
    by_cases hb : (o.app p).eqB (atP A r) = true
    · have hb2 : (atP A r).eqB (o.app p) = true := P3.eqB_iff'.2 (P3.eqB_iff'.1 hb).symm
      rw [if_pos ⟨by omega, by omega, hb2⟩, hb]
      simp only [if_true, List.length_cons]
      omega
    · have hb2 : ¬ (atP A r).eqB (o.app p) = true := fun k => hb (P3.eqB_iff'.2 (P3.eqB_iff'.1 k).symm)
      rw [if_neg (fun k => hb2 k.2.2), show (o.app p).eqB (atP A r) = false by simpa using hb]
      simp
/-! The loops -/
set_option maxRecDepth 100000 in
theorem orcIn1 : InBody ((Caw8 Try.prog).into 7 1) (forHead (stmt 7 (orcB Try.prog))) ∧ InBody ((Caw8 Try.prog).into 7 1) (orcO Try.prog) := for_in (C := Caw8 Try.prog) (f := 7) (B := 1) (id := 0) (k := 7) (fn := Try.f7) (b := orcB Try.prog) Try.func7 ocB_eq orcFor1
set_option maxRecDepth 100000 in
theorem orcIn3 : InBody ((Caw8 Try.prog).into 7 1) (forHead (stmt 8 (orcB Try.prog))) ∧ InBody ((Caw8 Try.prog).into 7 1) (forBody (stmt 8 (orcB Try.prog))) := for_in (C := Caw8 Try.prog) (f := 7) (B := 1) (id := 4) (k := 8) (fn := Try.f7) (b := orcB Try.prog) Try.func7 ocB_eq orcFor3
set_option maxRecDepth 100000 in
theorem orcIn4 : InBody ((Caw8 Try.prog).into 7 1) (forHead (stmt 10 (orcB Try.prog))) ∧ InBody ((Caw8 Try.prog).into 7 1) (forBody (stmt 10 (orcB Try.prog))) := for_in (C := Caw8 Try.prog) (f := 7) (B := 1) (id := 6) (k := 10) (fn := Try.f7) (b := orcB Try.prog) Try.func7 ocB_eq orcFor4
theorem orcInX : InBody ((Caw8 Try.prog).into 7 1) (orcX Try.prog) := orcIn1.2.right.right.left.left
theorem orcInXs (k : Nat) : InBody ((Caw8 Try.prog).into 7 1) (seqDrop k (orcX Try.prog)) := orcInX.sub (seqDrop_loops k _)
theorem orcInXf : InBody ((Caw8 Try.prog).into 7 1) (forHead (stmt 3 (orcX Try.prog))) ∧ InBody ((Caw8 Try.prog).into 7 1) (forBody (stmt 3 (orcX Try.prog))) := by
  have h0 : ∀ x ∈ loopsIn (stmt 3 (orcX Try.prog)), x ∈ loopsIn (orcX Try.prog) := fun x hx => by
    refine seqDrop_loops 3 _ x ?_
    unfold stmt at hx
    cases hc : seqDrop 3 (orcX Try.prog) with
    | seq p q => rw [hc] at hx; simp only at hx; simp [loopsIn, hx]
    | _ => rw [hc] at hx; simp [loopsIn] at hx
  have hs := orcFor2
  unfold isFor at hs
  split at hs
  · rename_i x i y hst
    rw [hst] at h0 ⊢
    exact ⟨orcInX.sub fun z hz => h0 z (by simp only [forHead] at hz; simp [loopsIn, hz]), orcInX.sub fun z hz => h0 z (by simp only [forBody] at hz; simp [loopsIn, hz])⟩
  · cases hs
theorem orcL2 (own : Bool) (n : Nat) (xs : List O3) (p : P3) (a : Nat) (A : List P3) (k : Nat) (s : List Int) (i : Int) (q : P3) (e : Int) (hn : a ≤ 500) : ∀ (c j : Nat) (T : List Int) (fd : Bool), a - j ≤ c → j ≤ a → T.length = a → (∀ r, j ≤ r → 0 ≤ atI T r ∧ atI T r ≤ 1000) → LoopSem Try.prog 1 (forBody (stmt 3 (orcX Try.prog))) (orcJ own n xs p a A k s (inRow T) i q e fd (j : Int)) (.exit 2) (orcQ own n xs p a A k s (inRow (incF q A (a - j) j T)) i q e (fdF q A (a - j) j fd)) := by
  intro c
  have out : ∀ (j : Nat) (T : List Int) (fd : Bool), j = a → LoopSem Try.prog 1 (forBody (stmt 3 (orcX Try.prog))) (orcJ own n xs p a A k s (inRow T) i q e fd (j : Int)) (.exit 2) (orcQ own n xs p a A k s (inRow (incF q A (a - j) j T)) i q e (fdF q A (a - j) j fd)) := by
    intro j T fd hj
    subst hj
    have hr := orcR2 own n xs p j A k s T i q e fd j
    rw [show decide ((j : Int) < (j : Int)) = false by simp] at hr
    rw [Nat.sub_self]
    exact loop_leave (C := Caw8 Try.prog) okaw8 (f := 7) (B := 1) orcInXf.2 hr (by simp)
  induction c with
  | zero => intro j T fd h1 h2 _ _; exact out j T fd (by omega)
  | succ c ih =>
    intro j T fd h1 h2 h3 h4
    by_cases hj : j < a
    · have hr := orcR2 own n xs p a A k s T i q e fd j
      have hb4 := h4 j (Nat.le_refl _)
      rw [show decide ((j : Int) < (a : Int)) = true by simpa using hj, bd_ok' hj, W_succ (by omega), W_in (by omega : (-9000000000000000000 ≤ atI T j + 1 ∧ atI T j + 1 ≤ 9000000000000000000))] at hr
      simp only [gd_true] at hr
      rw [show a - j = (a - (j + 1)) + 1 by omega]
      simp only [incF, fdF]
      cases hb : (atP A j).eqB q with
      | true =>
        rw [hb] at hr
        refine loop_next (C := Caw8 Try.prog) okaw8 (f := 7) (B := 1) (s2 := orcJ own n xs p a A k s (inRow (T.set j (atI T j + 1))) i q e true ((j + 1 : Nat) : Int)) orcInXf.2 hr ⟨rfl, .refl _, .refl _, .refl _, .refl _, .rows (stI_like T _ (by omega) a h3.symm), .refl _, trivial⟩ (ih (j + 1) (T.set j (atI T j + 1)) true (by omega) (by omega) (by simpa using h3) fun r hr => ?_)
        rw [atI_set (by omega), if_neg (by omega)]
        exact h4 r (by omega)
      | false =>
        rw [hb] at hr
        exact loop_next (C := Caw8 Try.prog) okaw8 (f := 7) (B := 1) orcInXf.2 hr (StLike.refl _) (ih (j + 1) T fd (by omega) (by omega) h3 fun r hr => h4 r (by omega))
    · exact out j T fd (by omega)
theorem t88 (own : Bool) (n : Nat) (xs : List O3) (p : P3) (a : Nat) (A : List P3) (k : Nat) (s : List Int) (r : Nat → List Value) (i : Int) (t : Bool) : (orcHb own n xs p a A k s r i t).tmps[88]? = some (.bool t) := rfl
theorem orcL1 (own : Bool) (xs : List O3) (p : P3) (a : Nat) (A : List P3) (k : Nat) (s : List Int) (hX : ∀ o ∈ xs, o.ck = 0) (hp : p.form = true) (hl : xs.length ≤ 192) (ha : a ≤ 500) (hin : ∀ o ∈ xs, ∃ r, r < a ∧ atP A r = o.app p) : ∀ (c i : Nat) (T : List Int), xs.length - i ≤ c → i ≤ xs.length → T.length = a → (∀ r, 0 ≤ atI T r ∧ atI T r ≤ (i : Int)) → LoopSem Try.prog 1 (orcO Try.prog) (orcH own xs.length xs p a A k s (inRow T) (i : Int)) (.exit 0) (orcHb own xs.length xs p a A k s (inRow (cntF A a p (xs.drop i) T)) (xs.length : Int) false) := by
  intro c
  have hA : ∀ (i : Nat) (T : List Int), CodeSem Try.prog 1 (cL (orcO Try.prog)) (orcH own xs.length xs p a A k s (inRow T) (i : Int)) .normal (orcHb own xs.length xs p a A k s (inRow T) (i : Int) (decide ((i : Int) < (xs.length : Int)))) := fun i T => end_rule (C := Caw8 Try.prog) okaw8 (f := 7) (B := 1) orcIn1.2.left (orcA own xs.length xs p a A k s (inRow T) (i : Int))
  have out : ∀ (i : Nat) (T : List Int), i = xs.length → LoopSem Try.prog 1 (orcO Try.prog) (orcH own xs.length xs p a A k s (inRow T) (i : Int)) (.exit 0) (orcHb own xs.length xs p a A k s (inRow (cntF A a p (xs.drop i) T)) (xs.length : Int) false) := by
    intro i T hi
    have h1 := hA i T
    rw [show decide ((i : Int) < (xs.length : Int)) = false by simp; omega] at h1
    rw [List.drop_eq_nil_of_le (by omega)]
    refine loop_leaveC ?_ (by simp)
    rw [ocO_eq]
    subst hi
    exact head_F h1 (t88 _ _ _ _ _ _ _ _ _ _ _)
  induction c with
  | zero => intro i T h1 h2 _ _; exact out i T (by omega)
  | succ c ih =>
    intro i T h1 h2 h3 h4
    by_cases hi : i < xs.length
    · have c1 := hA i T
      rw [show decide ((i : Int) < (xs.length : Int)) = true by simpa using hi] at c1
      have hmem := List.getElem_mem hi
      obtain ⟨e1, e2⟩ := O3.appF_of (hX _ hmem) hp
      have r2 := orcX0 own xs.length xs p a A k s (inRow T) (i : Int)
      rw [bd_ok' hi, gd_true, atO_nat hi, e1, e2] at r2
      have l2 := orcL2 own xs.length xs p a A k s (i : Int) (xs[i].app p) 0 ha a 0 T false (by omega) (by omega) h3 fun r _ => ⟨(h4 r).1, by have := (h4 r).2; omega⟩
      obtain ⟨r, hr1, hr2⟩ := hin _ hmem
      rw [Nat.sub_zero, fdF_found (xs[i].app p) A a 0 false ⟨r, by omega, by omega, hr2⟩] at l2
      have c5 : CodeSem Try.prog 1 (orcX Try.prog) (orcHb own xs.length xs p a A k s (inRow T) (i : Int) true) .normal (orcH own xs.length xs p a A k s (inRow (incF (xs[i].app p) A a 0 T)) (i : Int)) :=
        seg_rule (C := Caw8 Try.prog) okaw8 (f := 7) (B := 1) (k := 3) orcInX r2 (stmt_rule orcHas.2.1 (for_rule orcFor2 (end_rule (C := Caw8 Try.prog) okaw8 (f := 7) (B := 1) orcInXf.1 (orcHead2 own xs.length xs p a A k s (inRow T) (i : Int) (xs[i].app p) 0 false)) l2) (end_rule (C := Caw8 Try.prog) okaw8 (f := 7) (B := 1) (orcInXs 4) (orcX4 own xs.length xs p a A k s (incF (xs[i].app p) A a 0 T) (i : Int) (xs[i].app p))))
      have r6 := orcN own xs.length xs p a A k s (incF (xs[i].app p) A a 0 T) (i : Int)
      rw [W_succ (by omega)] at r6
      have c6 := end_rule (C := Caw8 Try.prog) okaw8 (f := 7) (B := 1) orcIn1.2.right.right.right r6
      have body : CodeSem Try.prog 1 (orcO Try.prog) (orcH own xs.length xs p a A k s (inRow T) (i : Int)) .normal (orcH own xs.length xs p a A k s (inRow (incF (xs[i].app p) A a 0 T)) ((i + 1 : Nat) : Int)) := by
        rw [ocO_eq]
        exact head_T c1 (t88 _ _ _ _ _ _ _ _ _ _ _) ((CodeSem.blockN c5).seq c6)
      rw [List.drop_eq_getElem_cons hi]
      simp only [cntF]
      refine loop_nextC body (ih (i + 1) _ (by omega) (by omega) (by rw [incF_len]; exact h3) fun r => ?_)
      rw [incF_at _ _ _ _ _ _ (by omega)]
      have := h4 r
      split <;> omega
    · exact out i T (by omega)
theorem orcL3 (own : Bool) (n : Nat) (xs : List O3) (a : Nat) (A : List P3) (k : Nat) (s T : List Int) (ha : a ≤ 500) (h1 : ∀ r, r < a → atI T r = (k : Int)) (h2 : ∀ r, r + 1 < a → (atP A r).ordV (atP A (r + 1)) < 0 ∧ (atP A r).ordE (atP A (r + 1)) = 0) : ∀ (c i : Nat), a - i ≤ c → i ≤ a → LoopSem Try.prog 1 (forBody (stmt 8 (orcB Try.prog))) (orcT own n xs a A k s T (i : Int)) (.exit 4) (orcU own n xs k s) := by
  intro c
  have out : ∀ i : Nat, i = a → LoopSem Try.prog 1 (forBody (stmt 8 (orcB Try.prog))) (orcT own n xs a A k s T (i : Int)) (.exit 4) (orcU own n xs k s) := by
    intro i hi
    have hr := orcR3 own n xs a A k s T i
    rw [show decide ((i : Int) < (a : Int)) = false by simp; omega] at hr
    exact loop_leave (C := Caw8 Try.prog) okaw8 (f := 7) (B := 1) orcIn3.2 hr (by simp)
  induction c with
  | zero => intro i h1 h2; exact out i (by omega)
  | succ c ih =>
    intro i k1 k2
    by_cases hi : i < a
    · have hr := orcR3 own n xs a A k s T i
      rw [show decide ((i : Int) < (a : Int)) = true by simpa using hi, bd_ok' hi, h1 i hi, show ((k : Int) != (k : Int)) = false by simp, W_succ (by omega)] at hr
      simp only [gd_true] at hr
      by_cases h0 : i = 0
      · subst h0
        rw [show decide (((0 : Nat) : Int) > 0) = false by simp] at hr
        exact loop_next (C := Caw8 Try.prog) okaw8 (f := 7) (B := 1) orcIn3.2 hr (StLike.refl _) (ih 1 (by omega) (by omega))
      · obtain ⟨j, rfl⟩ : ∃ j, i = j + 1 := ⟨i - 1, by omega⟩
        have hw : W (((j + 1 : Nat) : Int) - 1) = (j : Int) := by rw [W_in (by omega)]; omega
        obtain ⟨o1, o2⟩ := h2 j hi
        rw [show decide (((j + 1 : Nat) : Int) > 0) = true from decide_eq_true (by omega), hw, bd_ok' (show j < a by omega), Int.toNat_natCast, o2, show decide ((atP A j).ordV (atP A (j + 1)) ≥ 0) = false by simp; omega] at hr
        exact loop_next (C := Caw8 Try.prog) okaw8 (f := 7) (B := 1) orcIn3.2 hr (StLike.refl _) (ih (j + 1 + 1) (by omega) (by omega))
    · exact out i (by omega)
theorem r12_ok {c : Nat} (h : c ≤ 1000) : r12 c = true := by unfold r12; rw [Nat.beq_refl]; simp; omega
theorem atI_get {s : List Int} {i : Nat} (h : i < s.length) : atI s i = s[i] := by unfold atI; rw [List.getElem?_eq_getElem h]; rfl
theorem orcL5 (own : Bool) (xs : List O3) (s : List Int) (hl : s.length ≤ 500) (hs : ∀ x ∈ s, 0 ≤ x ∧ x < (xs.length : Int)) : ∀ (c i : Nat) (Z : List O3), s.length - i ≤ c → i ≤ s.length → Z.length ≤ i → LoopSem Try.prog 1 (forBody (stmt 10 (orcB Try.prog))) (orcY own xs.length xs s.length s (i : Int) Z.length (opRow Z)) (.exit 6) (orcZ own xs.length xs (Z ++ (s.drop i).map (atO xs)).length (opRow (Z ++ (s.drop i).map (atO xs)))) := by
  intro c
  have out : ∀ (i : Nat) (Z : List O3), i = s.length → LoopSem Try.prog 1 (forBody (stmt 10 (orcB Try.prog))) (orcY own xs.length xs s.length s (i : Int) Z.length (opRow Z)) (.exit 6) (orcZ own xs.length xs (Z ++ (s.drop i).map (atO xs)).length (opRow (Z ++ (s.drop i).map (atO xs)))) := by
    intro i Z hi
    have hr := orcR5 own xs.length xs s.length s i Z.length Z
    rw [show decide ((i : Int) < (s.length : Int)) = false by simp; omega] at hr
    rw [List.drop_eq_nil_of_le (by omega)]
    simp only [List.map_nil, List.append_nil]
    exact loop_leave (C := Caw8 Try.prog) okaw8 (f := 7) (B := 1) orcIn4.2 hr (by simp)
  induction c with
  | zero => intro i Z h1 h2 _; exact out i Z (by omega)
  | succ c ih =>
    intro i Z h1 h2 h3
    by_cases hi : i < s.length
    · have hr := orcR5 own xs.length xs s.length s i Z.length Z
      have hx := hs _ (List.getElem_mem hi)
      rw [show decide ((i : Int) < (s.length : Int)) = true by simpa using hi, bd_ok' hi, atI_get hi, show decide (s[i] < 0) = false by simp; omega, show decide (s[i] ≥ (xs.length : Int)) = false by simp; omega, show boundsI s[i] xs.length = true by simp [boundsI]; omega, r12_ok (by omega), W_succ (by omega)] at hr
      simp only [gd_true] at hr
      have := ih (i + 1) (Z ++ [atO xs s[i]]) (by omega) (by omega) (by simp; omega)
      rw [show (Z ++ [atO xs s[i]]).length = Z.length + 1 by simp] at this
      rw [List.drop_eq_getElem_cons hi]
      simp only [List.map_cons]
      rw [show Z ++ atO xs s[i] :: (s.drop (i + 1)).map (atO xs) = (Z ++ [atO xs s[i]]) ++ (s.drop (i + 1)).map (atO xs) by simp]
      exact loop_next (C := Caw8 Try.prog) okaw8 (f := 7) (B := 1) (s2 := orcY own xs.length xs s.length s ((i + 1 : Nat) : Int) (Z.length + 1) (opRow (Z ++ [atO xs s[i]]))) orcIn4.2 hr ⟨rfl, .refl _, .refl _, .rows fun j hj => catR_one Z _ j hj, trivial⟩ this
    · exact out i Z (by omega)
theorem orcL4 (own : Bool) (xs : List O3) (s : List Int) (h0 : s ≠ []) (hl : s.length ≤ 500) (hs : ∀ x ∈ s, 0 ≤ x ∧ x < (xs.length : Int)) : LoopSem Try.prog 1 (forBody (stmt 10 (orcB Try.prog))) (orcW own xs.length xs s.length s ((0 : Nat) : Int)) (.exit 6) (orcZ own xs.length xs (s.map (atO xs)).length (opRow (s.map (atO xs)))) := by
  have hpos : 0 < s.length := List.length_pos_iff.2 h0
  have hr := orcR4 own xs.length xs s.length s 0
  have hx := hs _ (List.getElem_mem hpos)
  rw [show decide (((0 : Nat) : Int) < (s.length : Int)) = true by simp; exact hpos, bd_ok' hpos, atI_get hpos, show decide (s[0] < 0) = false by simp; omega, show decide (s[0] ≥ (xs.length : Int)) = false by simp; omega, show boundsI s[0] xs.length = true by simp [boundsI]; omega, W_succ (by omega)] at hr
  simp only [gd_true] at hr
  have := orcL5 own xs s hl hs s.length 1 [atO xs s[0]] (by omega) (by omega) (by simp)
  have hd : s = s[0] :: s.drop 1 := by
    cases s with
    | nil => exact absurd rfl h0
    | cons x l => rfl
  have he : [atO xs s[0]] ++ (s.drop 1).map (atO xs) = s.map (atO xs) := by
    conv => rhs; rw [hd]
    rfl
  rw [he] at this
  exact loop_next (C := Caw8 Try.prog) okaw8 (f := 7) (B := 1) (s2 := orcY own xs.length xs s.length s ((0 + 1 : Nat) : Int) 1 (opRow [atO xs s[0]])) orcIn4.2 hr ⟨rfl, .refl _, .refl _, .rows fun j hj => by
    have : j = 0 := by omega
    subst this
    rfl, trivial⟩ this
/-! The maps that stay -/
theorem siL_map (X : List O3) (p : P3) : ∀ (l : List O3) (i : Nat) (s : List Int), X.drop i = l → (siL p (imgs l p) i s).map (atO X) = s.map (atO X) ++ l.filter fun o => fixB p o
  | [], i, s, _ => by simp [imgs, siL]
  | o :: l, i, s, h => by
    have hi : i < X.length := by
      rcases Nat.lt_or_ge i X.length with k | k
      · exact k
      · rw [List.drop_eq_nil_of_le k] at h; cases h
    have hd := List.drop_eq_getElem_cons hi
    rw [h] at hd
    simp only [List.cons.injEq] at hd
    obtain ⟨ho, hl⟩ := hd
    have ih := siL_map X p l (i + 1) (bif (o.app p).eqB p then s ++ [(i : Int)] else s) hl.symm
    show (siL p (imgs l p) (i + 1) (bif (o.app p).eqB p then s ++ [(i : Int)] else s)).map (atO X) = _
    rw [ih, List.filter_cons]
    unfold fixB
    cases hb : (o.app p).eqB p with
    | true =>
      simp only [cond_true, if_true, List.map_append, List.map_cons, List.map_nil, List.append_assoc, List.cons_append, List.nil_append]
      rw [atO_nat hi, ← ho]
    | false => simp
theorem siL_bds (p : P3) : ∀ (Y : List P3) (i : Nat) (s : List Int) (N : Nat), i + Y.length ≤ N → (∀ x ∈ s, 0 ≤ x ∧ x < (N : Int)) → ∀ x ∈ siL p Y i s, 0 ≤ x ∧ x < (N : Int)
  | [], _, _, _, _, h, x, hx => h x hx
  | y :: Y, i, s, N, hN, h, x, hx => by
    simp only [siL] at hx
    simp only [List.length_cons] at hN
    refine siL_bds p Y (i + 1) _ N (by omega) (fun z hz => ?_) x hx
    cases hb : y.eqB p with
    | true =>
      rw [hb] at hz
      simp only [cond_true, List.mem_append, List.mem_cons, List.not_mem_nil, or_false] at hz
      rcases hz with hz | rfl
      · exact h z hz
      · omega
    | false => rw [hb] at hz; exact h z hz
theorem sitL_map (X : List O3) (p : P3) : (sitL X p).map (atO X) = X.filter fun o => fixB p o := by
  have := siL_map X p X 0 [] (List.drop_zero)
  simpa [sitL] using this
theorem sitL_len (X : List O3) (p : P3) : (sitL X p).length = (X.filter fun o => fixB p o).length := by rw [← sitL_map, List.length_map]
theorem atP_orbA {X : List O3} {p : P3} {r : Nat} (hr : r < (orbL X p).length) : atP (orbA X p) r = (orbL X p)[r] := by
  have h := congrArg (fun l => l[r]?) (orbA_take X p)
  simp only [List.getElem?_take] at h
  rw [if_pos hr] at h
  unfold atP
  rw [h, List.getElem?_eq_getElem hr]
  rfl
/-! The whole -/
theorem mk8_ok {a : Nat} (h : a ≤ 1000) : mk8 a = true := by unfold mk8; simp; omega
theorem orc_good (own : Bool) (xs : List O3) (p : P3) (h0 : xs ≠ []) (hn : xs.length ≤ 1500000) (hp : leastN (chkI xs) p.ckP = 0) : CodeSem Try.prog 1 (orcB Try.prog) (enter Try.f7 [.slice (some ⟨0, 0, some 0⟩) xs.length 12, p.v] [.rows own true 12 xs.length (opRow xs)]) .ret (orcR own xs.length xs true) := by
  obtain ⟨hc, hp2⟩ := leastN_zero.1 hp
  have hpf := ckP_zero hp2
  obtain ⟨_, hX, hl⟩ := chk_grp hc
  have lp := orbL_len xs p
  have hcnt := orb_count hX hpf
  have hsl := sitL_len xs p
  rw [← hsl] at hcnt
  have hsle : (sitL xs p).length ≤ xs.length := by rw [hsl]; exact List.length_filter_le _ _
  have hmap := sitL_map xs p
  have hstay := stay_chk hc hpf
  have hbds : ∀ x ∈ sitL xs p, 0 ≤ x ∧ x < (xs.length : Int) := siL_bds p (imgs xs p) 0 [] xs.length (by rw [imgs_len]; omega) (fun _ h => by cases h)
  have hs0 : sitL xs p ≠ [] := fun e => by
    rw [e] at hcnt
    simp at hcnt
    exact h0 (List.length_eq_zero_iff.1 hcnt.symm)
  have hT : ∀ r, r < (orbL xs p).length → ((xs.filter fun o => (o.app p).eqB (atP (orbA xs p) r)).length : Int) = ((sitL xs p).length : Int) := fun r hr => by
    have hm : (orbL xs p)[r] ∈ orbL xs p := List.getElem_mem hr
    obtain ⟨o, ho, hoe⟩ := mem_orbL.1 hm
    rw [atP_orbA hr, ← hoe, orb_fib hX hpf ho, hsl]
  have hin : ∀ o ∈ xs, ∃ r, r < (orbL xs p).length ∧ atP (orbA xs p) r = o.app p := fun o ho => by
    have : o.app p ∈ orbL xs p := mem_orbL.2 ⟨o, ho, rfl⟩
    obtain ⟨r, hr, he⟩ := List.getElem_of_mem this
    exact ⟨r, hr, by rw [atP_orbA hr, he]⟩
  have hord : ∀ r, r + 1 < (orbL xs p).length → (atP (orbA xs p) r).ordV (atP (orbA xs p) (r + 1)) < 0 ∧ (atP (orbA xs p) r).ordE (atP (orbA xs p) (r + 1)) = 0 := fun r hr => by
    rw [atP_orbA (by omega : r < (orbL xs p).length), atP_orbA hr]
    have hst := orbL_strict xs p
    unfold StrictP at hst
    rw [List.pairwise_iff_getElem] at hst
    have m1 : (orbL xs p)[r] ∈ imgs xs p := by have : (orbL xs p)[r] ∈ orbL xs p := List.getElem_mem _; rw [mem_orbL, ← mem_imgs] at this; exact this
    have m2 : (orbL xs p)[r + 1] ∈ imgs xs p := by have : (orbL xs p)[r + 1] ∈ orbL xs p := List.getElem_mem _; rw [mem_orbL, ← mem_imgs] at this; exact this
    have f1 := imgs_form hpf m1
    have f2 := imgs_form hpf m2
    rw [ordV_key f1 f2 ((imgs_m m1).trans (imgs_m m2).symm)]
    refine ⟨hst r (r + 1) (by omega) hr (by omega), ?_⟩
    unfold P3.ordE
    rw [f1, f2]
    rfl
  have r1 := orcP1 own xs.length xs p
  have ck : ck1 (α := St) xs.length xs = fun x => x := by
    funext x
    unfold ck1
    rw [lk_true, oTok, X2_eq, hc]
    rfl
  have hw : (W (((orbL xs p).length : Int) * ((sitL xs p).length : Int)) != (xs.length : Int)) = false := by
    have : ((orbL xs p).length : Int) * ((sitL xs p).length : Int) = (xs.length : Int) := by rw [← hcnt]; simp
    rw [this, W_in (by omega)]
    simp
  rw [tw1_ok h0 hn, of1_ok hp, tw1_ok h0 hn, of1_ok hp, tw1_ok h0 hn, ck, X2_eq, hpf, hw, mk8_ok (by omega)] at r1
  refine seg_rule (C := Cog Try.prog) okog (f := 7) (B := 1) (k := 7) (Or.inl ⟨Try.f7, orcB Try.prog, Try.func7, ocB_eq, fun _ hx => hx⟩) r1 ?_
  have l1 := orcL1 own xs p (orbL xs p).length (orbA xs p) (sitL xs p).length (sitL xs p) hX.ck hpf hl (by omega) hin xs.length 0 (List.replicate (orbL xs p).length 0) (by omega) (by omega) (by simp) fun r => by
    have : atI (List.replicate (orbL xs p).length 0) r = 0 := by
      unfold atI
      rw [List.getElem?_replicate]
      split <;> rfl
    rw [this]
    omega
  rw [List.drop_zero] at l1
  have hz : rowsLike (orbL xs p).length (fun _ => [vI 0]) (inRow (List.replicate (orbL xs p).length 0)) := fun q hq => by
    rw [inRow_get (by simpa using hq)]
    simp
    rfl
  have h7 := end_rule (C := Caw8 Try.prog) okaw8 (f := 7) (B := 1) orcIn1.1 (orcHead own xs.length xs p (orbL xs p).length (orbA xs p) (sitL xs p).length (sitL xs p) (inRow (List.replicate (orbL xs p).length 0)))
  have hTT : ∀ r, r < (orbL xs p).length → atI (cntF (orbA xs p) (orbL xs p).length p xs (List.replicate (orbL xs p).length 0)) r = ((sitL xs p).length : Int) := fun r hr => by
    rw [cntF_at _ _ _ _ _ _ (by simp) hr, hT r hr]
    have : atI (List.replicate (orbL xs p).length 0) r = 0 := by
      unfold atI
      rw [List.getElem?_replicate]
      split <;> rfl
    omega
  have l3 := orcL3 own xs.length xs (orbL xs p).length (orbA xs p) (sitL xs p).length (sitL xs p) _ (by omega) hTT hord (orbL xs p).length 0 (by omega) (by omega)
  have l4 := orcL4 own xs (sitL xs p) hs0 (by omega) hbds
  rw [hmap] at l4
  have r11 := orcEnd own xs.length xs (xs.filter fun o => fixB p o).length (xs.filter fun o => fixB p o)
  rw [lk_true, oTok, opsOf_row rfl, hstay] at r11
  have h11 := end_rule (C := Coh Try.prog) okoh (f := 7) (B := 1) (bodyOf_in Try.func7 ocB_eq) r11
  have h10 := stmt_rule orcHas.2.2.2.1 (for_rule orcFor4 (end_rule (C := Caw8 Try.prog) okaw8 (f := 7) (B := 1) orcIn4.1 (orcHead4 own xs.length xs (sitL xs p).length (sitL xs p))) l4) h11
  have h9 : CodeSem Try.prog 1 (seqDrop 9 (orcB Try.prog)) (orcU own xs.length xs (sitL xs p).length (sitL xs p)) .ret (orcR own xs.length xs true) := seg_rule (C := Caw8 Try.prog) okaw8 (f := 7) (B := 1) (k := 1) (bodyOf_in Try.func7 ocB_eq) (orcP9 own xs.length xs (sitL xs p).length (sitL xs p)) (by rw [seqDrop_drop]; exact h10)
  have h8 := stmt_rule orcHas.2.2.1 (for_rule orcFor3 (end_rule (C := Caw8 Try.prog) okaw8 (f := 7) (B := 1) orcIn3.1 (orcHead3 own xs.length xs p (orbL xs p).length (orbA xs p) (sitL xs p).length (sitL xs p) (cntF (orbA xs p) (orbL xs p).length p xs (List.replicate (orbL xs p).length 0)) (xs.length : Int))) l3) h9
  exact (stmt_rule orcHas.1 (for_rule orcFor1 h7 l1) h8).like ⟨rfl, .refl _, .refl _, .refl _, .refl _, .rows hz, trivial⟩
theorem orc_err (own : Bool) (xs : List O3) (p : P3) (h0 : xs ≠ []) (hn : xs.length ≤ 1500000) (hp : leastN (chkI xs) p.ckP ≠ 0) : CodeSem Try.prog 1 (orcB Try.prog) (enter Try.f7 [.slice (some ⟨0, 0, some 0⟩) xs.length 12, p.v] [.rows own true 12 xs.length (opRow xs)]) .ret (orcR own xs.length xs true) := by
  have hb : (leastN (chkI xs) p.ckP != 0) = true := by simpa using hp
  have r1 := orcP1e own xs.length xs p
  have ho : oe1 (α := St) xs.length xs p = fun x => x := by
    funext x
    unfold oe1
    rw [lk_true, oTok, X2_eq, hb]
    rfl
  rw [tw1_ok h0 hn, ho, tw1_ok h0 hn, X2_eq] at r1
  have r4 := orcP4e own xs.length xs p (leastN (chkI xs) p.ckP)
  have r5 : roundR ((Cok Try.prog).into 7 1) 60 (stmt 4 (orcB Try.prog)) [4] [4] [.fix 0] [.fix 0] (orcS own xs.length xs p (leastN (chkI xs) p.ckP) (leastN (chkI xs) p.ckP)) = some (.ret, orcR own xs.length xs true) := by
    rw [r4, tw1_ok h0 hn, lk_true, oTok, X2_eq, hb, show (leastN (chkI xs) p.ckP == leastN (chkI xs) p.ckP) = true by simp]
    simp only [gd_true]
    by_cases hk : chkI xs = 0
    · rw [show (chkI xs != 0) = false by simpa using hk]
      have hf : p.form = false := by
        cases hf : p.form with
        | false => rfl
        | true => exact absurd (leastN_zero.2 ⟨hk, by unfold P3.ckP; rw [hf]; rfl⟩) hp
      rw [hf]
      rfl
    · rw [show (chkI xs != 0) = true by simpa using hk]
  exact seg_rule (C := Coe9 Try.prog) okoe9 (f := 7) (B := 1) (k := 4) (Or.inl ⟨Try.f7, orcB Try.prog, Try.func7, ocB_eq, fun _ hx => hx⟩) r1 (stmt_out orcHas.2.2.2.2 (end_rule (C := Cok Try.prog) okok (f := 7) (B := 1) (stmt_in Try.func7 ocB_eq) r5) (by simp))
theorem orcZe_true (p : P3) (m : Mem) : orcZe p m = some (.bool true, m) := by
  unfold orcZe
  rw [show (leastN 5 p.ckP != 0) = true by simpa using five_ne p, show (leastN 5 p.ckP == leastN 5 p.ckP) = true by simp]
theorem orc_sem (own : Bool) (xs : List O3) (p : P3) (hn : xs.length ≤ 1500000) : MemSem Try.prog 7 [.slice (some ⟨0, 0, some 0⟩) xs.length 12, p.v] [.rows own true 12 xs.length (opRow xs)] (.bool true) [.rows own true 12 xs.length (opRow xs)] := by
  by_cases h0 : xs = []
  · subst h0
    exact exT_ok okqy Try.func7 (by kernel_rfl) ((orcZ1 own p).trans (orcZe_true p _))
  · refine body_mem (f := 7) Try.func7 ocB_eq (by kernel_rfl) ?_ (orcRet own xs.length xs)
    by_cases hp : leastN (chkI xs) p.ckP = 0
    · exact orc_good own xs p h0 hn hp
    · exact orc_err own xs p h0 hn hp
theorem orbitCounts_nil (W : World) (p : P3) : Calls Try.prog 7 #[.slice none 0 0, p.v] W fun e W' => e = .returned (.bool true) ∧ Below W.heap.size W W' := by
  have h : PlainSem Try.prog 7 [.slice none 0 0, p.v] (.bool true) := (exT_ok okqz Try.func7 (by kernel_rfl) ((orcZ0 p).trans (orcZe_true p []))).plain (by intro x hx; simp only [List.mem_cons, List.not_mem_nil, or_false] at hx; rcases hx with rfl | rfl <;> rfl) rfl
  exact (h.2 W).mono fun _ _ hq => ⟨hq.1, hq.2.1⟩
theorem orbitCounts_walk {W : World} {a : Addr} {xs : List O3} {cap : Nat} (hn : xs.length ≤ 1048576) (ha : OpsAt W a xs) (hc : xs.length ≤ cap) (p : P3) : Calls Try.prog 7 #[.slice (some a) xs.length cap, p.v] W fun e W' => e = .returned (.bool true) ∧ Below W.heap.size W W' :=
  (orc_sem false xs p (by omega)).calls ha hc (more := [p.v]) (more' := [p.v]) ⟨(R_plain (r := _) (v := p.v) rfl).2 rfl, trivial⟩
end Go.Proofs.Ytggdbakgiknogaa
