/-
  facetref16.SameAll of equal lists; facetlaw16.CplxMemory by pieces. Nothing here is trusted.
-/
import Derived.Test.YtokdjjdmmahbiaaTCs1
namespace Go.Proofs.Ytokdjjdmmahbiaa
open Go Vx Go.RowKit
def saB (P : Program) : Code := bodyOf P 92
theorem saB_eq : Try.f92.body = some (saB Try.prog) := by kernel_rfl
abbrev Br (own : Bool) (n : Nat) (l : List (Nat × Nat)) : Blk := .rows own true 1 n (cxRow l)
def saA (n : Nat) : Value := .slice (some ⟨0, 0, some 0⟩) n 1
def saS0 (p q : Bool) (n : Nat) (a b : List (Nat × Nat)) : St := stOf 27 [(0, saA n), (1, SLl n), (4, .bool false)] [Br p n a, Br q n b]
theorem saP1 (p q : Bool) (n : Nat) (a b : List (Nat × Nat)) : segR ((CCc Try.prog).into 92 2) 60 2 (saB Try.prog) [0, 1, 4] [.fix 0, .fix 1] (enter Try.f92 [saA n, SLl n] [Br p n a, Br q n b]) = gn ((n : Int) != (n : Int)) (some (saS0 p q n a b)) := by kernel_rfl
theorem saFor : isFor 0 (stmt 2 (saB Try.prog)) = true := by kernel_rfl
theorem saHas : hasStmt 2 (saB Try.prog) = true := by kernel_rfl
def saH (p q : Bool) (n : Nat) (a b : List (Nat × Nat)) (i : Int) : St := stOf 27 [(0, saA n), (1, SLl n), (4, .bool false), (12, vI n), (13, vI i)] [Br p n a, Br q n b]
def saX (p q : Bool) (n : Nat) (a b : List (Nat × Nat)) (t : Bool) : St := stOf 27 [(4, .bool t)] [Br p n a, Br q n b]
theorem saHead (p q : Bool) (n : Nat) (a b : List (Nat × Nat)) : roundR ((CCc Try.prog).into 92 2) 60 (forHead (stmt 2 (saB Try.prog))) [0, 1, 4, 12, 13] [0, 1, 4, 12, 13] [.fix 0, .fix 1] [.fix 0, .fix 1] (saS0 p q n a b) = some (.normal, saH p q n a b 0) := by kernel_rfl
theorem saR (p q : Bool) (n : Nat) (a b : List (Nat × Nat)) (i : Nat) : roundR ((CCc Try.prog).into 92 2) 60 (forBody (stmt 2 (saB Try.prog))) [0, 1, 4, 12, 13] [4] [.fix 0, .fix 1] [.fix 0, .fix 1] (saH p q n a b (i : Int)) =
    (match decide ((i : Int) < (n : Int)) with
    | true => gd (boundsI i n) (gd (boundsI i n) (match !(sameN (atU a i).1 (atU b i).1 && sameN (atU a i).2 (atU b i).2) with
      | true => some (.ret, saX p q n a b false)
      | false => some (.normal, saH p q n a b (W ((i : Int) + 1)))))
    | false => some (.exit 0, saX p q n a b false)) := by kernel_rfl
theorem saEnd (p q : Bool) (n : Nat) (a b : List (Nat × Nat)) : roundR ((CCc Try.prog).into 92 2) 60 (seqDrop 3 (saB Try.prog)) [4] [4] [.fix 0, .fix 1] [.fix 0, .fix 1] (saX p q n a b false) = some (.ret, saX p q n a b true) := by kernel_rfl
theorem saRet (p q : Bool) (n : Nat) (a b : List (Nat × Nat)) : (retA Try.prog Try.f92 (.ret, saX p q n a b true)).res = some (.bool true, [Br p n a, Br q n b]) := by kernel_rfl
theorem saZ (p : Bool) (row : Nat → List Value) : exT ((CCc Try.prog).at 92) 60 Try.f92 [.slice (some ⟨0, 0, some 0⟩) 0 1, .slice none 0 0] [.rows p true 1 0 row] [.fix 0] = some (.bool true, [.rows p true 1 0 row]) := by kernel_rfl
set_option maxRecDepth 100000 in
theorem saIn : InBody ((CCc Try.prog).into 92 2) (forHead (stmt 2 (saB Try.prog))) ∧ InBody ((CCc Try.prog).into 92 2) (forBody (stmt 2 (saB Try.prog))) := for_in (C := CCc Try.prog) (f := 92) (B := 2) (id := 0) (k := 2) (fn := Try.f92) (b := saB Try.prog) Try.func92 saB_eq saFor
theorem saLoop (p q : Bool) (a b : List (Nat × Nat)) (n : Nat) (hn : n ≤ 1048576) (he : ∀ i, i < n → atU a i = atU b i) : ∀ (c i : Nat), i + c = n → LoopSem Try.prog 2 (forBody (stmt 2 (saB Try.prog))) (saH p q n a b (i : Int)) (.exit 0) (saX p q n a b false) := by
  intro c
  induction c with
  | zero =>
    intro i hi
    have hr := saR p q n a b i
    rw [show decide ((i : Int) < (n : Int)) = false by simp; omega] at hr
    exact loop_leave (C := CCc Try.prog) okCc (f := 92) (B := 2) saIn.2 hr (by simp)
  | succ c ih =>
    intro i hi
    have hr := saR p q n a b i
    rw [show decide ((i : Int) < (n : Int)) = true by simp; omega, bd_ok' (show i < n by omega), show W ((i : Int) + 1) = ((i + 1 : Nat) : Int) by rw [W_in (by omega)]; simp, he i (by omega), sameN_refl, sameN_refl] at hr
    simp only [gd_true] at hr
    exact loop_next (C := CCc Try.prog) okCc (f := 92) (B := 2) saIn.2 hr (StLike.refl _) (ih (i + 1) (by omega))
theorem saS (p q : Bool) (a b : List (Nat × Nat)) (n : Nat) (hn : n ≤ 1048576) (he : ∀ i, i < n → atU a i = atU b i) : MemSem Try.prog 92 [saA n, SLl n] [Br p n a, Br q n b] (.bool true) [Br p n a, Br q n b] := by
  have body0 : InBody ((CCc Try.prog).into 92 2) (saB Try.prog) := Or.inl ⟨Try.f92, saB Try.prog, Try.func92, saB_eq, fun _ hx => hx⟩
  have r1 := saP1 p q n a b
  rw [bne_self_eq_false] at r1
  exact body_mem (f := 92) Try.func92 saB_eq (by kernel_rfl) (seg_rule (C := CCc Try.prog) okCc (f := 92) (B := 2) (k := 2) body0 r1 (stmt_rule saHas (for_rule saFor (end_rule (C := CCc Try.prog) okCc (f := 92) (B := 2) saIn.1 (saHead p q n a b)) (saLoop p q a b n hn he n 0 (by omega))) (end_rule (C := CCc Try.prog) okCc (f := 92) (B := 2) (bodyOf_in Try.func92 saB_eq) (saEnd p q n a b)))) (saRet p q n a b)
def saF : List Value → Mem → Option (Ans (Value × Mem))
  | [.slice (some ⟨0, 0, some 0⟩) N 1, .slice none 0 0], [.rows own true 1 N2 row] => some (.br (Nat.beq N 0 && Nat.beq N2 0) (.out (.bool true, [.rows own true 1 0 row])) .fail)
  | [.slice (some ⟨0, 0, some 0⟩) N 1, .slice (some ⟨1, 0, some 0⟩) N1 1], [.rows own true 1 N2 row, .rows own2 true 1 N3 row2] => some (.br (Nat.beq N N1 && (Nat.beq N N2 && (Nat.beq N N3 && (okCs N row && (okCs N row2 && decide (N ≤ 1048576)))))) (.br (decide (csOf N row = csOf N row2)) (.out (.bool true, [.rows own true 1 N row, .rows own2 true 1 N row2])) .fail) .fail)
  | _, _ => none
theorem saF_ok {args : List Value} {m : Mem} {ans : Ans (Value × Mem)} {v : Value} {m' : Mem} (h : saF args m = some ans) (hr : ans.res = some (v, m')) : MemSem Try.prog 92 args m v m' := by
  unfold saF at h
  split at h
  · rename_i N own N2 row
    simp only [Option.some.injEq] at h
    subst h
    rcases Ans.br_some hr with ⟨hc, g⟩ | ⟨_, g⟩ <;> clear hr
    rotate_left
    · simp [Ans.res] at g
    rw [Bool.and_eq_true] at hc
    have e1 := Nat.eq_of_beq_eq_true hc.1
    have e2 := Nat.eq_of_beq_eq_true hc.2
    subst e1 e2
    simp only [Ans.res, Option.some.injEq, Prod.mk.injEq] at g
    obtain ⟨rfl, rfl⟩ := g
    exact exT_ok okCc Try.func92 (by kernel_rfl) (saZ own row)
  · rename_i N N1 own N2 row own2 N3 row2
    simp only [Option.some.injEq] at h
    subst h
    rcases Ans.br_some hr with ⟨hc, g⟩ | ⟨_, g⟩ <;> clear hr
    rotate_left
    · simp [Ans.res] at g
    rcases Ans.br_some g with ⟨he, g2⟩ | ⟨_, g2⟩ <;> clear g
    rotate_left
    · simp [Ans.res] at g2
    simp only [Bool.and_eq_true, decide_eq_true_eq] at hc
    obtain ⟨c1, c2, c3, c4, c5, c6⟩ := hc
    have e1 := Nat.eq_of_beq_eq_true c1
    have e2 := Nat.eq_of_beq_eq_true c2
    have e3 := Nat.eq_of_beq_eq_true c3
    subst e1 e2 e3
    simp only [Ans.res, Option.some.injEq, Prod.mk.injEq] at g2
    obtain ⟨rfl, rfl⟩ := g2
    have he' := of_decide_eq_true he
    have l1 : LikeL [.rows own true 1 N row, .rows own2 true 1 N row2] [Br own N (csOf N row), Br own2 N (csOf N row2)] := ⟨.rows (cs_like c4), .rows (cs_like c5), trivial⟩
    have l2 : LikeL [Br own N (csOf N row), Br own2 N (csOf N row2)] [.rows own true 1 N row, .rows own2 true 1 N row2] := ⟨.rows fun i hi => (cs_like c4 i hi).symm, .rows fun i hi => (cs_like c5 i hi).symm, trivial⟩
    have hs := saS own own2 (csOf N row) (csOf N row2) N c6 (fun i _ => by rw [he'])
    exact (MemSem.likeIn hs l1).likes l2
  · cases h
def Cm1 (P : Program) : Cx := (Cn3 P).addM 92 saF
theorem okm1 : CxOk (Cm1 Try.prog) := Cx.addM_ok okn3 fun _ _ _ _ _ h hr => saF_ok h hr
def Cm2 (P : Program) : Cx := (Cm1 P).lend 92
theorem okm2 : CxOk (Cm2 Try.prog) := Cx.lend_ok okm1 _
def Cm3 (P : Program) : Cx := (Cm2 P).lend 82
theorem okm3 : CxOk (Cm3 Try.prog) := Cx.lend_ok okm2 _
def Cm4 (P : Program) : Cx := (Cm3 P).lend 83
theorem okm4 : CxOk (Cm4 Try.prog) := Cx.lend_ok okm3 _
/-- The list is there. -/
def Cm (P : Program) : Cx := (Cm4 P).road 81 [true, false]
theorem okm : CxOk (Cm Try.prog) := Cx.road_ok okm4 _ _
/-- Without numbers. -/
def Cme (P : Program) : Cx := (Cm4 P).road 81 [true, true]
theorem okme : CxOk (Cme Try.prog) := Cx.road_ok okm4 _ _
def cmB (P : Program) : Code := bodyOf P 19
theorem cmB_eq : Try.f19.body = some (cmB Try.prog) := by kernel_rfl
def Cmz (P : Program) : Cx := (Cm4 P).lend 81
theorem okmz : CxOk (Cmz Try.prog) := Cx.lend_ok okm4 _
theorem cmZ : exT ((Cmz Try.prog).at 19) 60 Try.f19 [.slice none 0 0] [] [] = some (.bool true, []) := by kernel_rfl
theorem cmE (n : Nat) (l : List (Nat × Nat)) : roundR ((Cme Try.prog).into 19 1) 60 (cmB Try.prog) [2] [2] [.fix 0] [.fix 0] (enter Try.f19 [SLa n] [Ar n l]) = gd (lk n) (gd (tN n (u2Row l)) (gd (Nat.beq n 0) (gd (lk n) (gd (tN n (u2Row l)) (gd (Nat.beq n 0) (some (.ret, stOf 59 [(2, .bool true)] [Ar n l]))))))) := by kernel_rfl
def cmS1 (n : Nat) (l m : List (Nat × Nat)) : St := stOf 59 [(0, SLa n), (3, SLl n)] [Ar n l, Lr n m]
theorem cmP1 (n : Nat) (l : List (Nat × Nat)) : segR ((Cm Try.prog).into 19 1) 60 3 (cmB Try.prog) [0, 3] [.fix 0, .slot 3] (enter Try.f19 [SLa n] [Ar n l]) = gd (lk n) (gd (tN n (u2Row l)) (gn (Nat.beq n 0) (some (cmS1 n l (usOf n (u2Row l)))))) := by kernel_rfl
def SLf (n : Nat) : Value := .slice (some ⟨2, 0, some 0⟩) (n + 2) 1
def tA (n : Nat) : Bool := Nat.beq n n && (decide ((n + 2) * 16 ≤ 2 ^ 47) && decide (n + 2 ≤ 2 ^ 62))
def cmS2x (n : Nat) (l m k : List (Nat × Nat)) : St := stOf 59 [(3, SLl n), (4, SLf n)] [Ar n l, Lr n m, .rows true true 1 (n + 2) (catR n (cxRow k) (chop 1 0 [.complex .f64 4630967054332067840 0, .complex .f64 4631107791820423168 0]))]
def cmS2 (n : Nat) (l m f : List (Nat × Nat)) : St := stOf 59 [(3, SLl n), (4, SLf n)] [Ar n l, Lr n m, .rows true true 1 (n + 2) (cxRow f)]
theorem cmP2 (n : Nat) (l m : List (Nat × Nat)) : segR ((Cm Try.prog).into 19 1) 60 1 (seqDrop 3 (cmB Try.prog)) [3, 4] [.fix 0, .slot 3, .slot 4] (cmS1 n l m) = gd (lk n) (gd (tN n (u2Row l)) (gn (Nat.beq n 0) (gd (tA n) (some (cmS2x n l m (usOf n (u2Row l))))))) := by kernel_rfl
def cmS3 (n : Nat) (l m f : List (Nat × Nat)) (x y : Nat × Nat) : St := stOf 59 [(3, SLl n), (4, SLf n), (5, z2 x), (6, z2 y)] [Ar n l, Lr n m, .rows true true 1 (n + 2) (cxRow f)]
def tL (n : Nat) : Bool := Nat.ble (0 + n) (n + 2) && true
theorem cmP3 (n : Nat) (l m f : List (Nat × Nat)) : segR ((Cm Try.prog).into 19 1) 60 2 (seqDrop 4 (cmB Try.prog)) [3, 4, 5, 6] [.fix 0, .slot 3, .slot 4] (cmS2 n l m f) = gd (leI (n : Int) (n + 2)) (gd (tL n) (gd (tS n (cxRow f)) (gd (leI (n : Int) (n + 2)) (gd (tL n) (gd (tS n (cxRow f)) (some (cmS3 n l m f (sumz n (cxRow f)) (sumz n (cxRow f))))))))) := by kernel_rfl
def tAll (n : Nat) (r r2 : Nat → List Value) : Bool := Nat.beq n n && (Nat.beq n n && (Nat.beq n n && (okCs n r && (okCs n r2 && decide (n ≤ 1048576)))))
theorem cmP4 (n : Nat) (l m f : List (Nat × Nat)) (x y : Nat × Nat) : roundR ((Cm Try.prog).into 19 1) 60 (seqDrop 6 (cmB Try.prog)) [2] [2] [.fix 0] [.fix 0] (cmS3 n l m f x y) =
    gd (lk n) (gd (tS n (cxRow m)) (match (sameN x.1 (sumz n (cxRow m)).1 && sameN x.2 (sumz n (cxRow m)).2) with
    | true => (match (sameN x.1 y.1 && sameN x.2 y.2) with
      | true => gd (leI (n : Int) (n + 2)) (gd (Nat.ble (0 + n) (n + 2) && (Nat.ble (0 + n) n && true)) (gd (tAll n (cxRow f) (cxRow m)) (gd (decide (csOf n (cxRow f) = csOf n (cxRow m))) (gd (boundsI (n : Int) (n + 2)) (match (feq .f64 (atU f n).1 4630967054332067840 && feq .f64 (atU f n).2 0) with
        | true => gd (boundsI (W ((n : Int) + 1)) (n + 2)) (some (.ret, stOf 59 [(2, .bool (feq .f64 (atU f (W ((n : Int) + 1)).toNat).1 4631107791820423168 && feq .f64 (atU f (W ((n : Int) + 1)).toNat).2 0))] [Ar n l]))
        | false => some (.ret, stOf 59 [(2, .bool false)] [Ar n l]))))))
      | false => some (.ret, stOf 59 [(2, .bool false)] [Ar n l]))
    | false => some (.ret, stOf 59 [(2, .bool false)] [Ar n l]))) := by kernel_rfl
theorem cmRet (n : Nat) (l : List (Nat × Nat)) (b : Bool) : (retA Try.prog Try.f19 (.ret, stOf 59 [(2, .bool b)] [Ar n l])).res = some (.bool b, [Ar n l]) := by kernel_rfl
theorem tA_ok {n : Nat} (h : n ≤ 1048576) : tA n = true := by unfold tA; rw [Nat.beq_refl]; simp; omega
theorem tL_ok (n : Nat) : tL n = true := by unfold tL; simp [Nat.ble_eq]
def full (l : List (Nat × Nat)) : List (Nat × Nat) := l ++ [(4630967054332067840, 0), (4631107791820423168, 0)]
theorem full_soft (l : List (Nat × Nat)) : ∀ i, i < l.length + 2 → cxRow (full l) i = mapL soft (catR l.length (cxRow l) (chop 1 0 [.complex .f64 4630967054332067840 0, .complex .f64 4631107791820423168 0]) i) := by
  intro i hi
  unfold catR full
  by_cases h : i < l.length
  · rw [show Nat.blt i l.length = true by simpa [Nat.blt_eq] using h]
    unfold cxRow atU
    rw [List.getElem?_append_left h]
    rfl
  · rw [blt_ff h]
    obtain ⟨j, rfl⟩ : ∃ j, i = l.length + j := ⟨i - l.length, by omega⟩
    simp only [Nat.add_sub_cancel_left]
    unfold cxRow atU
    rw [List.getElem?_append_right (by omega), Nat.add_sub_cancel_left]
    match j, hi with
    | 0, _ => rfl
    | 1, _ => rfl
    | j + 2, hi => omega
theorem full_at (l : List (Nat × Nat)) {i : Nat} (h : i < l.length) : atU (full l) i = atU l i := by unfold full atU; rw [List.getElem?_append_left h]
theorem csOf_full (l : List (Nat × Nat)) : csOf l.length (cxRow (full l)) = l := by
  have e : csOf l.length (cxRow (full l)) = csOf l.length (cxRow l) := by
    unfold csOf
    refine List.map_congr_left fun i hi => ?_
    unfold cxRow
    rw [full_at l (List.mem_range.1 hi)]
  rw [e, csOf_row rfl]
theorem cmSem (l : List (Nat × Nat)) (hn : l.length ≤ 1048576) : MemSem Try.prog 19 [SLa l.length] [Ar l.length l] (.bool true) [Ar l.length l] := by
  by_cases h0 : l.length = 0
  · have r := cmE l.length l
    rw [lk_true, tN_ok l hn, show Nat.beq l.length 0 = true by rw [h0]; rfl] at r
    exact body_mem (f := 19) Try.func19 cmB_eq (by kernel_rfl) (end_rule (C := Cme Try.prog) okme (f := 19) (B := 1) (Or.inl ⟨Try.f19, cmB Try.prog, Try.func19, cmB_eq, fun _ hx => hx⟩) r) (cmRet l.length l true)
  have hb : Nat.beq l.length 0 = false := by cases hb : Nat.beq l.length 0 with | false => rfl | true => exact absurd (Nat.eq_of_beq_eq_true hb) h0
  have body0 : InBody ((Cm Try.prog).into 19 1) (cmB Try.prog) := Or.inl ⟨Try.f19, cmB Try.prog, Try.func19, cmB_eq, fun _ hx => hx⟩
  have r1 := cmP1 l.length l
  rw [lk_true, tN_ok l hn, hb, usOf_row rfl] at r1
  have r2 := cmP2 l.length l l
  rw [lk_true, tN_ok l hn, hb, usOf_row rfl, tA_ok hn] at r2
  have hsum : sumz l.length (cxRow (full l)) = cfold l (0, 0) := by unfold sumz; rw [csOf_full]
  have r3 := cmP3 l.length l l (full l)
  rw [show leI (l.length : Int) (l.length + 2) = true by unfold leI; simp; omega, tL_ok, tS_ok _ (by omega), hsum] at r3
  have r4 := cmP4 l.length l l (full l) (cfold l (0, 0)) (cfold l (0, 0))
  have hW : W ((l.length : Int) + 1) = ((l.length + 1 : Nat) : Int) := by rw [W_in (by omega)]; simp
  have a1 : atU (full l) l.length = (4630967054332067840, 0) := by unfold full atU; rw [List.getElem?_append_right (Nat.le_refl _), Nat.sub_self]; rfl
  have a2 : atU (full l) (l.length + 1) = (4631107791820423168, 0) := by unfold full atU; rw [List.getElem?_append_right (by omega), Nat.add_sub_cancel_left]; rfl
  have f1 : feq .f64 4630967054332067840 4630967054332067840 = true := by decide +kernel
  have f2 : feq .f64 4631107791820423168 4631107791820423168 = true := by decide +kernel
  have f3 : feq .f64 0 0 = true := by decide +kernel
  rw [lk_true, tS_ok l (by omega), sumz_row rfl, sameN_refl, sameN_refl, show leI (l.length : Int) (l.length + 2) = true by unfold leI; simp; omega, show (Nat.ble (0 + l.length) (l.length + 2) && (Nat.ble (0 + l.length) l.length && true)) = true by simp [Nat.ble_eq], show tAll l.length (cxRow (full l)) (cxRow l) = true by unfold tAll; rw [Nat.beq_refl, okCs_row, okCs_row]; simp; omega, show decide (csOf l.length (cxRow (full l)) = csOf l.length (cxRow l)) = true by rw [csOf_full, csOf_row rfl]; simp, bd_ok' (show l.length < l.length + 2 by omega), hW, bd_ok' (show l.length + 1 < l.length + 2 by omega), Int.toNat_natCast, a1, a2, f1, f2, f3] at r4
  refine body_mem (f := 19) Try.func19 cmB_eq (by kernel_rfl) (seg_rule (C := Cm Try.prog) okm (f := 19) (B := 1) (k := 3) body0 r1 ?_) (cmRet l.length l true)
  refine seg_rule (C := Cm Try.prog) okm (f := 19) (B := 1) (k := 1) (bodyOf_in Try.func19 cmB_eq) r2 ?_
  rw [seqDrop_drop]
  refine CodeSem.like (st2 := cmS2 l.length l l (full l)) ?_ ⟨rfl, .refl _, .refl _, .soft (full_soft l), trivial⟩
  refine seg_rule (C := Cm Try.prog) okm (f := 19) (B := 1) (k := 2) (bodyOf_in Try.func19 cmB_eq) r3 ?_
  rw [seqDrop_drop]
  exact end_rule (C := Cm Try.prog) okm (f := 19) (B := 1) (bodyOf_in Try.func19 cmB_eq) r4
theorem cmNil : MemSem Try.prog 19 [.slice none 0 0] [] (.bool true) [] := exT_ok okmz Try.func19 (by kernel_rfl) cmZ
end Go.Proofs.Ytokdjjdmmahbiaa
