/-
  facetlaw16.numbers, cplx.Sum and its reference. Nothing here is trusted.
-/
import Derived.Test.YtokdjjdmmahbiaaTCx1
import Derived.Test.YtokdjjdmmahbiaaRowF
import Derived.Test.YtokdjjdmmahbiaaScanF
namespace Go.Proofs.Ytokdjjdmmahbiaa
open Go Vx Go.RowKit
def cfold : List (Nat × Nat) → Nat × Nat → Nat × Nat
  | [], z => z
  | x :: l, z => cfold l (fadd .f64 z.1 x.1, fadd .f64 z.2 x.2)
theorem cfold_append : ∀ (l m : List (Nat × Nat)) (z : Nat × Nat), cfold (l ++ m) z = cfold m (cfold l z)
  | [], m, z => rfl
  | x :: l, m, z => by simp only [List.cons_append, cfold]; exact cfold_append l m _
theorem exc {P : Program} {f : FuncId} {args : List Value} {m m' : Mem} {v : Value} (h : MemSem P f args m v m') : MemSem P f args m (soft v) m' :=
  ⟨h.1, fun w0 keep r args' w ha hm => (h.2 w0 keep r args' w ha hm).mono fun _ _ ⟨v', r', e, h1, h2⟩ => ⟨v', r', e, R_soft h1, h2⟩⟩
theorem drop_atU {l : List (Nat × Nat)} {i : Nat} (h : i < l.length) : l.drop i = atU l i :: l.drop (i + 1) := by rw [List.drop_eq_getElem_cons h, atU_get h]

def nbB (P : Program) : Code := bodyOf P 81
theorem nbB_eq : Try.f81.body = some (nbB Try.prog) := by kernel_rfl
def nbS0 (own : Bool) (n : Nat) (l : List (Nat × Nat)) : St := stOf 19 [(0, .slice (some ⟨0, 0, some 0⟩) n 2), (3, .slice none 0 0)] [.rows own true 2 n (u2Row l)]
theorem nbP1 (own : Bool) (n : Nat) (l : List (Nat × Nat)) : segR ((CCc Try.prog).into 81 1) 60 2 (nbB Try.prog) [0, 3] [.fix 0] (enter Try.f81 [.slice (some ⟨0, 0, some 0⟩) n 2] [.rows own true 2 n (u2Row l)]) = some (nbS0 own n l) := by kernel_rfl
theorem nbFor : isFor 0 (stmt 2 (nbB Try.prog)) = true := by kernel_rfl
theorem nbHas : hasStmt 2 (nbB Try.prog) = true := by kernel_rfl
def nbHE (own : Bool) (n : Nat) (l : List (Nat × Nat)) (i : Int) : St := stOf 19 [(3, .slice none 0 0), (6, .slice (some ⟨0, 0, some 0⟩) n 2), (7, vI n), (8, vI i)] [.rows own true 2 n (u2Row l), .no]
def nbHR (own : Bool) (n : Nat) (l : List (Nat × Nat)) (k : Nat) (r : Nat → List Value) (i : Int) : St := stOf 19 [(3, .slice (some ⟨1, 0, some 0⟩) k 1), (6, .slice (some ⟨0, 0, some 0⟩) n 2), (7, vI n), (8, vI i)] [.rows own true 2 n (u2Row l), .rows true true 1 k r]
theorem nbHead (own : Bool) (n : Nat) (l : List (Nat × Nat)) : roundR ((CCc Try.prog).into 81 1) 60 (forHead (stmt 2 (nbB Try.prog))) [3, 6, 7, 8] [3, 6, 7, 8] [.fix 0, .slot 3] [.fix 0, .slot 3] (nbS0 own n l) = some (.normal, nbHE own n l 0) := by kernel_rfl
def nbXE (own : Bool) (n : Nat) (l : List (Nat × Nat)) : St := stOf 19 [(3, .slice none 0 0)] [.rows own true 2 n (u2Row l)]
def nbXR (own : Bool) (n : Nat) (l : List (Nat × Nat)) (k : Nat) (r : Nat → List Value) : St := stOf 19 [(3, .slice (some ⟨1, 0, some 0⟩) k 1)] [.rows own true 2 n (u2Row l), .rows true true 1 k r]
theorem nbRE (own : Bool) (n : Nat) (l : List (Nat × Nat)) (i : Nat) : roundR ((CCc Try.prog).into 81 1) 60 (forBody (stmt 2 (nbB Try.prog))) [3, 6, 7, 8] [3] [.fix 0, .slot 3] [.fix 0] (nbHE own n l (i : Int)) =
    (match decide ((i : Int) < (n : Int)) with
    | true => gd (boundsI i n) (some (.normal, nbHR own n l 1 (chop 1 0 [aC .f64 (atU l i).1 (atU l i).2]) (W ((i : Int) + 1))))
    | false => some (.exit 0, nbXE own n l)) := by kernel_rfl
def nbT (k : Nat) : Bool := Nat.beq k k && (decide ((k + 1) * 16 ≤ 2 ^ 47) && decide (k + 1 ≤ 2 ^ 62))
theorem nbRR (own : Bool) (n : Nat) (l : List (Nat × Nat)) (k : Nat) (y : List (Nat × Nat)) (i : Nat) : roundR ((CCc Try.prog).into 81 1) 60 (forBody (stmt 2 (nbB Try.prog))) [3, 6, 7, 8] [3] [.fix 0, .slot 3] [.fix 0, .slot 3] (nbHR own n l k (cxRow y) (i : Int)) =
    (match decide ((i : Int) < (n : Int)) with
    | true => gd (boundsI i n) (gd (nbT k) (some (.normal, nbHR own n l (k + 1) (catR k (cxRow y) (chop 1 0 [aC .f64 (atU l i).1 (atU l i).2])) (W ((i : Int) + 1)))))
    | false => some (.exit 0, nbXR own n l k (cxRow y))) := by kernel_rfl
set_option maxRecDepth 100000 in
theorem nbIn : InBody ((CCc Try.prog).into 81 1) (forHead (stmt 2 (nbB Try.prog))) ∧ InBody ((CCc Try.prog).into 81 1) (forBody (stmt 2 (nbB Try.prog))) := for_in (C := CCc Try.prog) (f := 81) (B := 1) (id := 0) (k := 2) (fn := Try.f81) (b := nbB Try.prog) Try.func81 nbB_eq nbFor
theorem nbEndE (own : Bool) (n : Nat) (l : List (Nat × Nat)) : roundR ((CCc Try.prog).into 81 1) 60 (seqDrop 3 (nbB Try.prog)) [2] [2] [.fix 0] [.fix 0] (nbXE own n l) = some (.ret, stOf 19 [(2, .slice none 0 0)] [.rows own true 2 n (u2Row l)]) := by kernel_rfl
theorem nbEndR (own : Bool) (n : Nat) (l : List (Nat × Nat)) (k : Nat) (r : Nat → List Value) : roundR ((CCc Try.prog).into 81 1) 60 (seqDrop 3 (nbB Try.prog)) [2] [2] [.fix 0, .slot 2] [.fix 0, .slot 2] (nbXR own n l k r) = some (.ret, stOf 19 [(2, .slice (some ⟨1, 0, some 0⟩) k 1)] [.rows own true 2 n (u2Row l), .rows true true 1 k r]) := by kernel_rfl
theorem nbRetE (own : Bool) (n : Nat) (l : List (Nat × Nat)) : (retA Try.prog Try.f81 (.ret, stOf 19 [(2, .slice none 0 0)] [.rows own true 2 n (u2Row l)])).res = some (.slice none 0 0, [.rows own true 2 n (u2Row l)]) := by kernel_rfl
theorem nbRetR (own : Bool) (n : Nat) (l : List (Nat × Nat)) (k : Nat) (r : Nat → List Value) : (retA Try.prog Try.f81 (.ret, stOf 19 [(2, .slice (some ⟨1, 0, some 0⟩) k 1)] [.rows own true 2 n (u2Row l), .rows true true 1 k r])).res = some (.slice (some ⟨1, 0, some 0⟩) k 1, [.rows own true 2 n (u2Row l), .rows true true 1 k r]) := by kernel_rfl
theorem nbZ : exT ((CCc Try.prog).at 81) 60 Try.f81 [.slice none 0 0] [] [] = some (.slice none 0 0, []) := by kernel_rfl
theorem nbT_ok {k : Nat} (h : k ≤ 2000000) : nbT k = true := by unfold nbT; rw [Nat.beq_refl]; simp; omega
theorem nbLoopR (own : Bool) (l : List (Nat × Nat)) (hn : l.length ≤ 1048576) : ∀ (c i : Nat) (y : List (Nat × Nat)), l.length - i ≤ c → i ≤ l.length → y.length ≤ i → LoopSem Try.prog 1 (forBody (stmt 2 (nbB Try.prog))) (nbHR own l.length l y.length (cxRow y) (i : Int)) (.exit 0) (nbXR own l.length l (y ++ l.drop i).length (cxRow (y ++ l.drop i))) := by
  intro c
  have out : ∀ (i : Nat) (y : List (Nat × Nat)), i = l.length → LoopSem Try.prog 1 (forBody (stmt 2 (nbB Try.prog))) (nbHR own l.length l y.length (cxRow y) (i : Int)) (.exit 0) (nbXR own l.length l (y ++ l.drop i).length (cxRow (y ++ l.drop i))) := by
    intro i y hi
    have hr := nbRR own l.length l y.length y i
    rw [show decide ((i : Int) < (l.length : Int)) = false by simp; omega] at hr
    rw [List.drop_eq_nil_of_le (by omega), List.append_nil]
    exact loop_leave (C := CCc Try.prog) okCc (f := 81) (B := 1) nbIn.2 hr (by simp)
  induction c with
  | zero => intro i y h1 h2 _; exact out i y (by omega)
  | succ c ih =>
    intro i y h1 h2 h3
    by_cases hi : i < l.length
    · have hr := nbRR own l.length l y.length y i
      rw [show decide ((i : Int) < (l.length : Int)) = true by simpa using hi, bd_ok' hi, show W ((i : Int) + 1) = ((i + 1 : Nat) : Int) by rw [W_in (by omega)]; simp, nbT_ok (by omega)] at hr
      simp only [gd_true] at hr
      have := ih (i + 1) (y ++ [atU l i]) (by omega) (by omega) (by simp; omega)
      rw [drop_atU hi]
      rw [show (y ++ [atU l i]).length = y.length + 1 by simp, List.append_assoc, List.singleton_append] at this
      exact loop_next (C := CCc Try.prog) okCc (f := 81) (B := 1) (s2 := nbHR own l.length l (y.length + 1) (cxRow (y ++ [atU l i])) ((i + 1 : Nat) : Int)) nbIn.2 hr ⟨rfl, .refl _, .rows (cx_snoc y (atU l i) rfl), trivial⟩ this
    · exact out i y (by omega)
theorem nbS (own : Bool) (l : List (Nat × Nat)) (hn : l.length ≤ 1048576) (h0 : 0 < l.length) : MemSem Try.prog 81 [.slice (some ⟨0, 0, some 0⟩) l.length 2] [.rows own true 2 l.length (u2Row l)] (.slice (some ⟨1, 0, some 0⟩) l.length 1) [.rows own true 2 l.length (u2Row l), .rows true true 1 l.length (cxRow l)] := by
  have r1 := nbRE own l.length l 0
  rw [show decide (((0 : Nat) : Int) < (l.length : Int)) = true by simpa using h0, bd_ok' h0, show W (((0 : Nat) : Int) + 1) = ((0 + 1 : Nat) : Int) by rw [W_in (by omega)]; simp] at r1
  simp only [gd_true] at r1
  have hl := nbLoopR own l hn l.length 1 [atU l 0] (by omega) (by omega) (by simp)
  have e1 : [atU l 0] ++ l.drop 1 = l := by
    have := drop_atU h0
    rw [List.drop_zero] at this
    exact this.symm
  rw [e1] at hl
  have hloop := loop_next (C := CCc Try.prog) okCc (f := 81) (B := 1) (s2 := nbHR own l.length l 1 (cxRow [atU l 0]) ((0 + 1 : Nat) : Int)) nbIn.2 r1 ⟨rfl, .refl _, .rows (cx_one (atU l 0)), trivial⟩ hl
  have body0 : InBody ((CCc Try.prog).into 81 1) (nbB Try.prog) := Or.inl ⟨Try.f81, nbB Try.prog, Try.func81, nbB_eq, fun _ hx => hx⟩
  exact body_mem (f := 81) Try.func81 nbB_eq (by kernel_rfl) (seg_rule (C := CCc Try.prog) okCc (f := 81) (B := 1) (k := 2) body0 (nbP1 own l.length l) (stmt_rule nbHas (for_rule nbFor (end_rule (C := CCc Try.prog) okCc (f := 81) (B := 1) nbIn.1 (nbHead own l.length l)) hloop) (end_rule (C := CCc Try.prog) okCc (f := 81) (B := 1) (bodyOf_in Try.func81 nbB_eq) (nbEndR own l.length l l.length (cxRow l))))) (nbRetR own l.length l l.length (cxRow l))
theorem nbSe (own : Bool) (l : List (Nat × Nat)) (h0 : l.length = 0) : MemSem Try.prog 81 [.slice (some ⟨0, 0, some 0⟩) l.length 2] [.rows own true 2 l.length (u2Row l)] (.slice none 0 0) [.rows own true 2 l.length (u2Row l)] := by
  have r1 := nbRE own l.length l 0
  rw [show decide (((0 : Nat) : Int) < (l.length : Int)) = false by rw [h0]; rfl] at r1
  have hloop := loop_leave (C := CCc Try.prog) okCc (f := 81) (B := 1) nbIn.2 r1 (by simp)
  have body0 : InBody ((CCc Try.prog).into 81 1) (nbB Try.prog) := Or.inl ⟨Try.f81, nbB Try.prog, Try.func81, nbB_eq, fun _ hx => hx⟩
  exact body_mem (f := 81) Try.func81 nbB_eq (by kernel_rfl) (seg_rule (C := CCc Try.prog) okCc (f := 81) (B := 1) (k := 2) body0 (nbP1 own l.length l) (stmt_rule nbHas (for_rule nbFor (end_rule (C := CCc Try.prog) okCc (f := 81) (B := 1) nbIn.1 (nbHead own l.length l)) hloop) (end_rule (C := CCc Try.prog) okCc (f := 81) (B := 1) (bodyOf_in Try.func81 nbB_eq) (nbEndE own l.length l)))) (nbRetE own l.length l)
def nbF : List Value → Mem → Option (Ans (Value × Mem))
  | [.slice none 0 0], [] => some (.out (.slice none 0 0, []))
  | [.slice (some ⟨0, 0, some 0⟩) N 2], [.rows own true 2 N2 row] => some (.br (Nat.beq N N2 && (okUs N row && decide (N ≤ 1048576))) (.br (Nat.beq N 0) (.out (.slice none 0 0, [.rows own true 2 N (u2Row (usOf N row))])) (.out (.slice (some ⟨1, 0, some 0⟩) N 1, [.rows own true 2 N (u2Row (usOf N row)), .rows true true 1 N (cxRow (usOf N row))]))) .fail)
  | _, _ => none
theorem MemSem.likeIn {P : Program} {f : FuncId} {args : List Value} {m m2 m' : Mem} {v : Value} (h : MemSem P f args m2 v m') (hl : LikeL m m2) : MemSem P f args m v m' :=
  ⟨h.1, fun w0 keep r args' w ha hm => h.2 w0 keep r args' w ha (hm.like hl)⟩
theorem nbF_ok {args : List Value} {m : Mem} {ans : Ans (Value × Mem)} {v : Value} {m' : Mem} (h : nbF args m = some ans) (hr : ans.res = some (v, m')) : MemSem Try.prog 81 args m v m' := by
  unfold nbF at h
  split at h
  · simp only [Option.some.injEq] at h
    subst h
    simp only [Ans.res, Option.some.injEq, Prod.mk.injEq] at hr
    obtain ⟨rfl, rfl⟩ := hr
    exact exT_ok okCc Try.func81 (by kernel_rfl) nbZ
  · rename_i N own N2 row
    simp only [Option.some.injEq] at h
    subst h
    rcases Ans.br_some hr with ⟨hc, g⟩ | ⟨_, g⟩ <;> clear hr
    rotate_left
    · simp [Ans.res] at g
    simp only [Bool.and_eq_true, decide_eq_true_eq] at hc
    obtain ⟨c1, c2, c3⟩ := hc
    have := Nat.eq_of_beq_eq_true c1
    subst this
    have hlen := usOf_length N row
    have hlike : LikeL [.rows own true 2 N row] [.rows own true 2 (usOf N row).length (u2Row (usOf N row))] := by rw [hlen]; exact ⟨.rows (us_like c2), trivial⟩
    rcases Ans.br_some g with ⟨h0, hr⟩ | ⟨h0, hr⟩
    · simp only [Ans.res, Option.some.injEq, Prod.mk.injEq] at hr
      obtain ⟨rfl, rfl⟩ := hr
      have hN := Nat.eq_of_beq_eq_true h0
      have := MemSem.likeIn (nbSe own (usOf N row) (by omega)) hlike
      rw [hlen] at this
      exact this
    · simp only [Ans.res, Option.some.injEq, Prod.mk.injEq] at hr
      obtain ⟨rfl, rfl⟩ := hr
      have hN : 0 < N := by
        rcases Nat.eq_zero_or_pos N with e | e
        · subst e; simp at h0
        · exact e
      have := MemSem.likeIn (nbS own (usOf N row) (by omega) (by omega)) hlike
      rw [hlen] at this
      exact this
  · cases h

def smB (P : Program) : Code := bodyOf P 82
theorem smB_eq : Try.f82.body = some (smB Try.prog) := by kernel_rfl
def smX0 (own : Bool) (n : Nat) (l : List (Nat × Nat)) : St := stOf 17 [(0, .slice (some ⟨0, 0, some 0⟩) n 1), (3, .complex .f64 0 0)] [.rows own true 1 n (cxRow l)]
def smS0 (own : Bool) (n : Nat) (l : List (Nat × Nat)) (z : Nat × Nat) : St := stOf 17 [(0, .slice (some ⟨0, 0, some 0⟩) n 1), (3, aC .f64 z.1 z.2)] [.rows own true 1 n (cxRow l)]
theorem smSoft (own : Bool) (n : Nat) (l : List (Nat × Nat)) : (⟨mapL soft (smX0 own n l).tmps, (smX0 own n l).mem⟩ : St) = smS0 own n l (0, 0) := by kernel_rfl
theorem smP1 (own : Bool) (n : Nat) (l : List (Nat × Nat)) : segR ((CCc Try.prog).into 82 1) 60 2 (smB Try.prog) [0, 3] [.fix 0] (enter Try.f82 [.slice (some ⟨0, 0, some 0⟩) n 1] [.rows own true 1 n (cxRow l)]) = some (smX0 own n l) := by kernel_rfl
theorem smFor : isFor 0 (stmt 2 (smB Try.prog)) = true := by kernel_rfl
theorem smHas : hasStmt 2 (smB Try.prog) = true := by kernel_rfl
def smH (own : Bool) (n : Nat) (l : List (Nat × Nat)) (z : Nat × Nat) (i : Int) : St := stOf 17 [(3, aC .f64 z.1 z.2), (6, .slice (some ⟨0, 0, some 0⟩) n 1), (7, vI n), (8, vI i)] [.rows own true 1 n (cxRow l)]
def smX (own : Bool) (n : Nat) (l : List (Nat × Nat)) (z : Nat × Nat) : St := stOf 17 [(3, aC .f64 z.1 z.2)] [.rows own true 1 n (cxRow l)]
theorem smHead (own : Bool) (n : Nat) (l : List (Nat × Nat)) (z : Nat × Nat) : roundR ((CCc Try.prog).into 82 1) 60 (forHead (stmt 2 (smB Try.prog))) [3, 6, 7, 8] [3, 6, 7, 8] [.fix 0] [.fix 0] (smS0 own n l z) = some (.normal, smH own n l z 0) := by kernel_rfl
theorem smR (own : Bool) (n : Nat) (l : List (Nat × Nat)) (z : Nat × Nat) (i : Nat) : roundR ((CCc Try.prog).into 82 1) 60 (forBody (stmt 2 (smB Try.prog))) [3, 6, 7, 8] [3] [.fix 0] [.fix 0] (smH own n l z (i : Int)) =
    (match decide ((i : Int) < (n : Int)) with
    | true => gd (boundsI i n) (some (.normal, smH own n l (fadd .f64 z.1 (atU l i).1, fadd .f64 z.2 (atU l i).2) (W ((i : Int) + 1))))
    | false => some (.exit 0, smX own n l z)) := by kernel_rfl
set_option maxRecDepth 100000 in
theorem smIn : InBody ((CCc Try.prog).into 82 1) (forHead (stmt 2 (smB Try.prog))) ∧ InBody ((CCc Try.prog).into 82 1) (forBody (stmt 2 (smB Try.prog))) := for_in (C := CCc Try.prog) (f := 82) (B := 1) (id := 0) (k := 2) (fn := Try.f82) (b := smB Try.prog) Try.func82 smB_eq smFor
theorem smEnd (own : Bool) (n : Nat) (l : List (Nat × Nat)) (z : Nat × Nat) : roundR ((CCc Try.prog).into 82 1) 60 (seqDrop 3 (smB Try.prog)) [2] [2] [.fix 0] [.fix 0] (smX own n l z) = some (.ret, stOf 17 [(2, aC .f64 z.1 z.2)] [.rows own true 1 n (cxRow l)]) := by kernel_rfl
theorem smRet (own : Bool) (n : Nat) (l : List (Nat × Nat)) (z : Nat × Nat) : (retA Try.prog Try.f82 (.ret, stOf 17 [(2, aC .f64 z.1 z.2)] [.rows own true 1 n (cxRow l)])).res = some (aC .f64 z.1 z.2, [.rows own true 1 n (cxRow l)]) := by kernel_rfl
theorem smZ : exT ((CCc Try.prog).at 82) 60 Try.f82 [.slice none 0 0] [] [] = some (.complex .f64 0 0, []) := by kernel_rfl
theorem smLoop (own : Bool) (l : List (Nat × Nat)) (hn : l.length ≤ 4611686018427387904) : ∀ (c i : Nat) (z : Nat × Nat), i + c = l.length → LoopSem Try.prog 1 (forBody (stmt 2 (smB Try.prog))) (smH own l.length l z (i : Int)) (.exit 0) (smX own l.length l (cfold (l.drop i) z)) := by
  intro c
  induction c with
  | zero =>
    intro i z hi
    have hr := smR own l.length l z i
    rw [show decide ((i : Int) < (l.length : Int)) = false by simp; omega] at hr
    rw [List.drop_eq_nil_of_le (by omega)]
    exact loop_leave (C := CCc Try.prog) okCc (f := 82) (B := 1) smIn.2 hr (by simp)
  | succ c ih =>
    intro i z hi
    have hr := smR own l.length l z i
    rw [show decide ((i : Int) < (l.length : Int)) = true by simp; omega, bd_ok' (show i < l.length by omega), show W ((i : Int) + 1) = ((i + 1 : Nat) : Int) by rw [W_in (by omega)]; simp] at hr
    simp only [gd_true] at hr
    rw [drop_atU (show i < l.length by omega)]
    exact loop_next (C := CCc Try.prog) okCc (f := 82) (B := 1) smIn.2 hr (StLike.refl _) (ih (i + 1) _ (by omega))
theorem smS (own : Bool) (l : List (Nat × Nat)) (hn : l.length ≤ 4611686018427387904) : MemSem Try.prog 82 [.slice (some ⟨0, 0, some 0⟩) l.length 1] [.rows own true 1 l.length (cxRow l)] (aC .f64 (cfold l (0, 0)).1 (cfold l (0, 0)).2) [.rows own true 1 l.length (cxRow l)] := by
  have hloop := smLoop own l hn l.length 0 (0, 0) (by omega)
  rw [List.drop_zero] at hloop
  have body0 : InBody ((CCc Try.prog).into 82 1) (smB Try.prog) := Or.inl ⟨Try.f82, smB Try.prog, Try.func82, smB_eq, fun _ hx => hx⟩
  have rest := stmt_rule smHas (for_rule smFor (end_rule (C := CCc Try.prog) okCc (f := 82) (B := 1) smIn.1 (smHead own l.length l (0, 0))) hloop) (end_rule (C := CCc Try.prog) okCc (f := 82) (B := 1) (bodyOf_in Try.func82 smB_eq) (smEnd own l.length l (cfold l (0, 0))))
  rw [← smSoft] at rest
  exact body_mem (f := 82) Try.func82 smB_eq (by kernel_rfl) (seg_rule (C := CCc Try.prog) okCc (f := 82) (B := 1) (k := 2) body0 (smP1 own l.length l) rest.soft) (smRet own l.length l (cfold l (0, 0)))
def smF : List Value → Mem → Option (Ans (Value × Mem))
  | [.slice none 0 0], [] => some (.out (aC .f64 0 0, []))
  | [.slice (some ⟨0, 0, some 0⟩) N 1], [.rows own true 1 N2 row] => some (.br (Nat.beq N N2 && (okCs N row && decide (N ≤ 4611686018427387904))) (.out (aC .f64 (cfold (csOf N row) (0, 0)).1 (cfold (csOf N row) (0, 0)).2, [.rows own true 1 N (cxRow (csOf N row))])) .fail)
  | _, _ => none
theorem smF_ok {args : List Value} {m : Mem} {ans : Ans (Value × Mem)} {v : Value} {m' : Mem} (h : smF args m = some ans) (hr : ans.res = some (v, m')) : MemSem Try.prog 82 args m v m' := by
  unfold smF at h
  split at h
  · simp only [Option.some.injEq] at h
    subst h
    simp only [Ans.res, Option.some.injEq, Prod.mk.injEq] at hr
    obtain ⟨rfl, rfl⟩ := hr
    exact exc (exT_ok okCc Try.func82 (by kernel_rfl) smZ)
  · rename_i N own N2 row
    simp only [Option.some.injEq] at h
    subst h
    rcases Ans.br_some hr with ⟨hc, g⟩ | ⟨_, g⟩ <;> clear hr
    rotate_left
    · simp [Ans.res] at g
    simp only [Bool.and_eq_true, decide_eq_true_eq] at hc
    obtain ⟨c1, c2, c3⟩ := hc
    have := Nat.eq_of_beq_eq_true c1
    subst this
    have hlen := csOf_length N row
    simp only [Ans.res, Option.some.injEq, Prod.mk.injEq] at g
    obtain ⟨rfl, rfl⟩ := g
    have := MemSem.likeIn (smS own (csOf N row) (by omega)) (m := [.rows own true 1 N row]) (by rw [hlen]; exact ⟨.rows (cs_like c2), trivial⟩)
    rw [hlen] at this
    exact this
  · cases h
def dmB (P : Program) : Code := bodyOf P 83
theorem dmB_eq : Try.f83.body = some (dmB Try.prog) := by kernel_rfl
def dmX0 (own : Bool) (n : Nat) (l : List (Nat × Nat)) : St := stOf 25 [(0, .slice (some ⟨0, 0, some 0⟩) n 1), (3, .float .f64 0), (4, .float .f64 0)] [.rows own true 1 n (cxRow l)]
def dmS0 (own : Bool) (n : Nat) (l : List (Nat × Nat)) (z : Nat × Nat) : St := stOf 25 [(0, .slice (some ⟨0, 0, some 0⟩) n 1), (3, aF .f64 z.1), (4, aF .f64 z.2)] [.rows own true 1 n (cxRow l)]
theorem dmSoft (own : Bool) (n : Nat) (l : List (Nat × Nat)) : (⟨mapL soft (dmX0 own n l).tmps, (dmX0 own n l).mem⟩ : St) = dmS0 own n l (0, 0) := by kernel_rfl
theorem dmP1 (own : Bool) (n : Nat) (l : List (Nat × Nat)) : segR ((CCc Try.prog).into 83 1) 60 2 (dmB Try.prog) [0, 3, 4] [.fix 0] (enter Try.f83 [.slice (some ⟨0, 0, some 0⟩) n 1] [.rows own true 1 n (cxRow l)]) = some (dmX0 own n l) := by kernel_rfl
theorem dmFor : isFor 0 (stmt 2 (dmB Try.prog)) = true := by kernel_rfl
theorem dmHas : hasStmt 2 (dmB Try.prog) = true := by kernel_rfl
def dmH (own : Bool) (n : Nat) (l : List (Nat × Nat)) (z : Nat × Nat) (i : Int) : St := stOf 25 [(3, aF .f64 z.1), (4, aF .f64 z.2), (7, .slice (some ⟨0, 0, some 0⟩) n 1), (8, vI n), (9, vI i)] [.rows own true 1 n (cxRow l)]
def dmX (own : Bool) (n : Nat) (l : List (Nat × Nat)) (z : Nat × Nat) : St := stOf 25 [(3, aF .f64 z.1), (4, aF .f64 z.2)] [.rows own true 1 n (cxRow l)]
theorem dmHead (own : Bool) (n : Nat) (l : List (Nat × Nat)) (z : Nat × Nat) : roundR ((CCc Try.prog).into 83 1) 60 (forHead (stmt 2 (dmB Try.prog))) [3, 4, 7, 8, 9] [3, 4, 7, 8, 9] [.fix 0] [.fix 0] (dmS0 own n l z) = some (.normal, dmH own n l z 0) := by kernel_rfl
theorem dmR (own : Bool) (n : Nat) (l : List (Nat × Nat)) (z : Nat × Nat) (i : Nat) : roundR ((CCc Try.prog).into 83 1) 60 (forBody (stmt 2 (dmB Try.prog))) [3, 4, 7, 8, 9] [3, 4] [.fix 0] [.fix 0] (dmH own n l z (i : Int)) =
    (match decide ((i : Int) < (n : Int)) with
    | true => gd (boundsI i n) (some (.normal, dmH own n l (fadd .f64 z.1 (atU l i).1, fadd .f64 z.2 (atU l i).2) (W ((i : Int) + 1))))
    | false => some (.exit 0, dmX own n l z)) := by kernel_rfl
set_option maxRecDepth 100000 in
theorem dmIn : InBody ((CCc Try.prog).into 83 1) (forHead (stmt 2 (dmB Try.prog))) ∧ InBody ((CCc Try.prog).into 83 1) (forBody (stmt 2 (dmB Try.prog))) := for_in (C := CCc Try.prog) (f := 83) (B := 1) (id := 0) (k := 2) (fn := Try.f83) (b := dmB Try.prog) Try.func83 dmB_eq dmFor
theorem dmEnd (own : Bool) (n : Nat) (l : List (Nat × Nat)) (z : Nat × Nat) : roundR ((CCc Try.prog).into 83 1) 60 (seqDrop 3 (dmB Try.prog)) [2] [2] [.fix 0] [.fix 0] (dmX own n l z) = some (.ret, stOf 25 [(2, aC .f64 z.1 z.2)] [.rows own true 1 n (cxRow l)]) := by kernel_rfl
theorem dmRet (own : Bool) (n : Nat) (l : List (Nat × Nat)) (z : Nat × Nat) : (retA Try.prog Try.f83 (.ret, stOf 25 [(2, aC .f64 z.1 z.2)] [.rows own true 1 n (cxRow l)])).res = some (aC .f64 z.1 z.2, [.rows own true 1 n (cxRow l)]) := by kernel_rfl
theorem dmZ : exT ((CCc Try.prog).at 83) 60 Try.f83 [.slice none 0 0] [] [] = some (aC .f64 0 0, []) := by kernel_rfl
theorem dmLoop (own : Bool) (l : List (Nat × Nat)) (hn : l.length ≤ 4611686018427387904) : ∀ (c i : Nat) (z : Nat × Nat), i + c = l.length → LoopSem Try.prog 1 (forBody (stmt 2 (dmB Try.prog))) (dmH own l.length l z (i : Int)) (.exit 0) (dmX own l.length l (cfold (l.drop i) z)) := by
  intro c
  induction c with
  | zero =>
    intro i z hi
    have hr := dmR own l.length l z i
    rw [show decide ((i : Int) < (l.length : Int)) = false by simp; omega] at hr
    rw [List.drop_eq_nil_of_le (by omega)]
    exact loop_leave (C := CCc Try.prog) okCc (f := 83) (B := 1) dmIn.2 hr (by simp)
  | succ c ih =>
    intro i z hi
    have hr := dmR own l.length l z i
    rw [show decide ((i : Int) < (l.length : Int)) = true by simp; omega, bd_ok' (show i < l.length by omega), show W ((i : Int) + 1) = ((i + 1 : Nat) : Int) by rw [W_in (by omega)]; simp] at hr
    simp only [gd_true] at hr
    rw [drop_atU (show i < l.length by omega)]
    exact loop_next (C := CCc Try.prog) okCc (f := 83) (B := 1) dmIn.2 hr (StLike.refl _) (ih (i + 1) _ (by omega))
theorem dmS (own : Bool) (l : List (Nat × Nat)) (hn : l.length ≤ 4611686018427387904) : MemSem Try.prog 83 [.slice (some ⟨0, 0, some 0⟩) l.length 1] [.rows own true 1 l.length (cxRow l)] (aC .f64 (cfold l (0, 0)).1 (cfold l (0, 0)).2) [.rows own true 1 l.length (cxRow l)] := by
  have hloop := dmLoop own l hn l.length 0 (0, 0) (by omega)
  rw [List.drop_zero] at hloop
  have body0 : InBody ((CCc Try.prog).into 83 1) (dmB Try.prog) := Or.inl ⟨Try.f83, dmB Try.prog, Try.func83, dmB_eq, fun _ hx => hx⟩
  have rest := stmt_rule dmHas (for_rule dmFor (end_rule (C := CCc Try.prog) okCc (f := 83) (B := 1) dmIn.1 (dmHead own l.length l (0, 0))) hloop) (end_rule (C := CCc Try.prog) okCc (f := 83) (B := 1) (bodyOf_in Try.func83 dmB_eq) (dmEnd own l.length l (cfold l (0, 0))))
  rw [← dmSoft] at rest
  exact body_mem (f := 83) Try.func83 dmB_eq (by kernel_rfl) (seg_rule (C := CCc Try.prog) okCc (f := 83) (B := 1) (k := 2) body0 (dmP1 own l.length l) rest.soft) (dmRet own l.length l (cfold l (0, 0)))
def dmF : List Value → Mem → Option (Ans (Value × Mem))
  | [.slice none 0 0], [] => some (.out (aC .f64 0 0, []))
  | [.slice (some ⟨0, 0, some 0⟩) N 1], [.rows own true 1 N2 row] => some (.br (Nat.beq N N2 && (okCs N row && decide (N ≤ 4611686018427387904))) (.out (aC .f64 (cfold (csOf N row) (0, 0)).1 (cfold (csOf N row) (0, 0)).2, [.rows own true 1 N (cxRow (csOf N row))])) .fail)
  | _, _ => none
theorem dmF_ok {args : List Value} {m : Mem} {ans : Ans (Value × Mem)} {v : Value} {m' : Mem} (h : dmF args m = some ans) (hr : ans.res = some (v, m')) : MemSem Try.prog 83 args m v m' := by
  unfold dmF at h
  split at h
  · simp only [Option.some.injEq] at h
    subst h
    simp only [Ans.res, Option.some.injEq, Prod.mk.injEq] at hr
    obtain ⟨rfl, rfl⟩ := hr
    exact (exT_ok okCc Try.func83 (by kernel_rfl) dmZ)
  · rename_i N own N2 row
    simp only [Option.some.injEq] at h
    subst h
    rcases Ans.br_some hr with ⟨hc, g⟩ | ⟨_, g⟩ <;> clear hr
    rotate_left
    · simp [Ans.res] at g
    simp only [Bool.and_eq_true, decide_eq_true_eq] at hc
    obtain ⟨c1, c2, c3⟩ := hc
    have := Nat.eq_of_beq_eq_true c1
    subst this
    have hlen := csOf_length N row
    simp only [Ans.res, Option.some.injEq, Prod.mk.injEq] at g
    obtain ⟨rfl, rfl⟩ := g
    have := MemSem.likeIn (dmS own (csOf N row) (by omega)) (m := [.rows own true 1 N row]) (by rw [hlen]; exact ⟨.rows (cs_like c2), trivial⟩)
    rw [hlen] at this
    exact this
  · cases h

def Cn1 (P : Program) : Cx := (CCc P).addM 81 nbF
theorem okn1 : CxOk (Cn1 Try.prog) := Cx.addM_ok okCc fun _ _ _ _ _ h hr => nbF_ok h hr
def Cn2 (P : Program) : Cx := (Cn1 P).addM 82 smF
theorem okn2 : CxOk (Cn2 Try.prog) := Cx.addM_ok okn1 fun _ _ _ _ _ h hr => smF_ok h hr
def Cn3 (P : Program) : Cx := (Cn2 P).addM 83 dmF
theorem okn3 : CxOk (Cn3 Try.prog) := Cx.addM_ok okn2 fun _ _ _ _ _ h hr => dmF_ok h hr
end Go.Proofs.Ytokdjjdmmahbiaa
