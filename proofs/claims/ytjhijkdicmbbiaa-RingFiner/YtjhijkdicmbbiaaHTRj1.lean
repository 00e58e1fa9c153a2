/-
  ring.Equal, facetref15.DocEqual, DocFiner as contracts. Nothing here is trusted.
-/
import Derived.Test.YtjhijkdicmbbiaaHTRj0
namespace Go.Proofs.Ytjhijkdicmbbiaa
open Go Vx Go.RowKit
def eqV (M1 M2 : Int) (c1 c2 : Nat → Int) : Bool := eqC ((mx M1 M2).toNat / 3) (fineG ((mx M1 M2).toNat / M1.toNat) c1) (fineG ((mx M1 M2).toNat / M2.toNat) c2)
theorem equNN (M1 M2 : Int) : MemSem Try.prog 40 [.agg #[vI M1, .slice none 0 0], .agg #[vI M2, .slice none 0 0]] [] (.tuple #[.bool false, vI 3]) [] := exT_ok okh1 Try.func40 (by kernel_rfl) (eqNN M1 M2)
theorem equNL (n2 : Nat) (o2 : Bool) (M1 M2 : Int) (c2 : Nat → Int) : MemSem Try.prog 40 [.agg #[vI M1, .slice none 0 0], .agg #[vI M2, SI 0 n2]] [Ir o2 n2 c2] (.tuple #[.bool false, vI 3]) [Ir o2 n2 c2] := by
  have h := eqNL n2 o2 M1 M2 c2
  simp only [rules] at h
  exact exT_ok okh1 Try.func40 (by kernel_rfl) h
theorem equLN (n2 : Nat) (o2 : Bool) (M1 M2 : Int) (c2 : Nat → Int) : MemSem Try.prog 40 [.agg #[vI M1, SI 0 n2], .agg #[vI M2, .slice none 0 0]] [Ir o2 n2 c2] (.tuple #[.bool false, vI 3]) [Ir o2 n2 c2] := by
  have h := eqLN n2 o2 M1 M2 c2
  simp only [rules] at h
  exact exT_ok okh1 Try.func40 (by kernel_rfl) h
theorem equT (n1 n2 : Nat) (o1 o2 : Bool) (M1 M2 : Int) (c1 c2 : Nat → Int) (_ : True) (h1 : frmB M1 n1 c1 = true) (h2 : frmB M2 n2 c2 = true) : MemSem Try.prog 40 [.agg #[vI M1, SI 0 n1], .agg #[vI M2, SI 1 n2]] [Ir o1 n1 c1, Ir o2 n2 c2] (.tuple #[.bool (eqV M1 M2 c1 c2), vI 0]) [Ir o1 n1 c1, Ir o2 n2 c2] := by
  have h := eqLL n1 n2 o1 o2 M1 M2 c1 c2
  simp only [rules] at h
  simp only [h1, h2, mx_small h1 h2, rules] at h
  exact exT_ok okh1 Try.func40 (by kernel_rfl) h
theorem equE0 (n1 n2 : Nat) (o1 o2 : Bool) (M1 M2 : Int) (c1 c2 : Nat → Int) (_ : True) (h1 : frmB M1 n1 c1 = false) : MemSem Try.prog 40 [.agg #[vI M1, SI 0 n1], .agg #[vI M2, SI 1 n2]] [Ir o1 n1 c1, Ir o2 n2 c2] (.tuple #[.bool false, vI 3]) [Ir o1 n1 c1, Ir o2 n2 c2] := by
  have h := eqLL n1 n2 o1 o2 M1 M2 c1 c2
  simp only [rules] at h
  rw [h1] at h
  exact exT_ok okh1 Try.func40 (by kernel_rfl) h
theorem equE1 (n1 n2 : Nat) (o1 o2 : Bool) (M1 M2 : Int) (c1 c2 : Nat → Int) (_ : True) (h1 : frmB M1 n1 c1 = true) (h2 : frmB M2 n2 c2 = false) : MemSem Try.prog 40 [.agg #[vI M1, SI 0 n1], .agg #[vI M2, SI 1 n2]] [Ir o1 n1 c1, Ir o2 n2 c2] (.tuple #[.bool false, vI 3]) [Ir o1 n1 c1, Ir o2 n2 c2] := by
  have h := eqLL n1 n2 o1 o2 M1 M2 c1 c2
  simp only [rules] at h
  rw [h1, h2] at h
  exact exT_ok okh1 Try.func40 (by kernel_rfl) h
def equF : List Value → Mem → Option (Ans (Value × Mem))
  | [.agg a, .agg b], mm => match a.toList, b.toList, mm with
    | [.int .i64 _, .slice none 0 0], [.int .i64 _, .slice none 0 0], [] => some (.out (.tuple #[.bool false, vI 3], []))
    | [.int .i64 _, .slice none 0 0], [.int .i64 _, .slice (some ⟨0, 0, some 0⟩) N 1], [.rows own true 1 N2 row] => some (.br (Nat.beq N N2 && okIs N row) (.out (.tuple #[.bool false, vI 3], [.rows own true 1 N row])) .fail)
    | [.int .i64 _, .slice (some ⟨0, 0, some 0⟩) N 1], [.int .i64 _, .slice none 0 0], [.rows own true 1 N2 row] => some (.br (Nat.beq N N2 && okIs N row) (.out (.tuple #[.bool false, vI 3], [.rows own true 1 N row])) .fail)
    | [.int .i64 M1, .slice (some ⟨0, 0, some 0⟩) N 1], [.int .i64 M2, .slice (some ⟨1, 0, some 0⟩) K 1], [.rows own true 1 N2 row, .rows own2 true 1 K2 row2] => some (.br (true && (Nat.beq N N2 && (okIs N row && (Nat.beq K K2 && okIs K row2)))) (.br (frmB M1 N (iOf row)) (.br (frmB M2 K (iOf row2)) (.out (.tuple #[.bool (eqV M1 M2 (iOf row) (iOf row2)), vI 0], [.rows own true 1 N row, .rows own2 true 1 K row2])) (.out (.tuple #[.bool false, vI 3], [.rows own true 1 N row, .rows own2 true 1 K row2]))) (.out (.tuple #[.bool false, vI 3], [.rows own true 1 N row, .rows own2 true 1 K row2]))) .fail)
    | _, _, _ => none
  | _, _ => none
theorem equF_ok {args : List Value} {m : Mem} {ans : Ans (Value × Mem)} {v : Value} {m' : Mem} (h : equF args m = some ans) (hr : ans.res = some (v, m')) : MemSem Try.prog 40 args m v m' := by
  unfold equF at h
  split at h
  · rename_i mm a b 
    split at h
    · rename_i M1 M2 e1 e2
      have ha : a = #[vI M1, .slice none 0 0] := by apply Array.ext'; simpa [vI] using e1
      have hb : b = #[vI M2, .slice none 0 0] := by apply Array.ext'; simpa [vI] using e2
      subst ha hb
      simp only [Option.some.injEq] at h
      subst h
      simp only [Ans.res, Option.some.injEq, Prod.mk.injEq] at hr
      obtain ⟨rfl, rfl⟩ := hr
      exact equNN M1 M2 
    · rename_i M1 M2 N own N2 row e1 e2
      have ha : a = #[vI M1, .slice none 0 0] := by apply Array.ext'; simpa [SI, vI] using e1
      have hb : b = #[vI M2, SI 0 N] := by apply Array.ext'; simpa [SI, vI] using e2
      subst ha hb
      simp only [Option.some.injEq] at h
      subst h
      rcases Ans.br_some hr with ⟨hc, g⟩ | ⟨_, g⟩ <;> clear hr
      rotate_left
      · simp [Ans.res] at g
      simp only [Bool.and_eq_true] at hc
      have e1 := Nat.eq_of_beq_eq_true hc.1
      subst e1
      simp only [Ans.res, Option.some.injEq, Prod.mk.injEq] at g
      obtain ⟨rfl, rfl⟩ := g
      have l1 : LikeL [.rows own true 1 N row] [Ir own N (iOf row)] := ⟨.rows (is_like hc.2), trivial⟩
      exact (MemSem.like (equNL N own M1 M2 (iOf row) ) l1).likes ⟨.rows fun i hi => (is_like hc.2 i hi).symm, trivial⟩
    · rename_i M1 N M2 own N2 row e1 e2
      have ha : a = #[vI M1, SI 0 N] := by apply Array.ext'; simpa [SI, vI] using e1
      have hb : b = #[vI M2, .slice none 0 0] := by apply Array.ext'; simpa [SI, vI] using e2
      subst ha hb
      simp only [Option.some.injEq] at h
      subst h
      rcases Ans.br_some hr with ⟨hc, g⟩ | ⟨_, g⟩ <;> clear hr
      rotate_left
      · simp [Ans.res] at g
      simp only [Bool.and_eq_true] at hc
      have e1 := Nat.eq_of_beq_eq_true hc.1
      subst e1
      simp only [Ans.res, Option.some.injEq, Prod.mk.injEq] at g
      obtain ⟨rfl, rfl⟩ := g
      have l1 : LikeL [.rows own true 1 N row] [Ir own N (iOf row)] := ⟨.rows (is_like hc.2), trivial⟩
      exact (MemSem.like (equLN N own M1 M2 (iOf row) ) l1).likes ⟨.rows fun i hi => (is_like hc.2 i hi).symm, trivial⟩
    · rename_i M1 N M2 K own N2 row own2 K2 row2 e1 e2
      have ha : a = #[vI M1, SI 0 N] := by apply Array.ext'; simpa [SI, vI] using e1
      have hb : b = #[vI M2, SI 1 K] := by apply Array.ext'; simpa [SI, vI] using e2
      subst ha hb
      simp only [Option.some.injEq] at h
      subst h
      rcases Ans.br_some hr with ⟨hc, g⟩ | ⟨_, g⟩ <;> clear hr
      rotate_left
      · simp [Ans.res] at g
      simp only [Bool.and_eq_true] at hc
      obtain ⟨cp, c1, c2, c3, c4⟩ := hc
      have e1 := Nat.eq_of_beq_eq_true c1
      have e2 := Nat.eq_of_beq_eq_true c3
      subst e1 e2
      have l1 : LikeL [.rows own true 1 N row, .rows own2 true 1 K row2] [Ir own N (iOf row), Ir own2 K (iOf row2)] := ⟨.rows (is_like c2), .rows (is_like c4), trivial⟩
      have b1 : Like (Ir own N (iOf row)) (.rows own true 1 N row) := .rows fun i hi => (is_like c2 i hi).symm
      have b2 : Like (Ir own2 K (iOf row2)) (.rows own2 true 1 K row2) := .rows fun i hi => (is_like c4 i hi).symm
      rcases Ans.br_some g with ⟨h0, g0⟩ | ⟨h0, g0⟩ <;> clear g
      rotate_left
      · simp only [Ans.res, Option.some.injEq, Prod.mk.injEq] at g0
        obtain ⟨rfl, rfl⟩ := g0
        exact (MemSem.like (equE0 N K own own2 M1 M2 (iOf row) (iOf row2)  cp h0) l1).likes ⟨b1, b2, trivial⟩
      rcases Ans.br_some g0 with ⟨h1, g1⟩ | ⟨h1, g1⟩ <;> clear g0
      rotate_left
      · simp only [Ans.res, Option.some.injEq, Prod.mk.injEq] at g1
        obtain ⟨rfl, rfl⟩ := g1
        exact (MemSem.like (equE1 N K own own2 M1 M2 (iOf row) (iOf row2)  cp h0 h1) l1).likes ⟨b1, b2, trivial⟩
      simp only [Ans.res, Option.some.injEq, Prod.mk.injEq] at g1
      obtain ⟨rfl, rfl⟩ := g1
      exact (MemSem.like (equT N K own own2 M1 M2 (iOf row) (iOf row2)  cp h0 h1) l1).likes ⟨b1, b2, trivial⟩
    · cases h
  · cases h
def Cr40 (P : Program) : Cx := (Ch1 P).addM 40 equF
theorem okr40 : CxOk (Cr40 Try.prog) := Cx.addM_ok okh1 fun _ _ _ _ _ h hr => equF_ok h hr
def Ch2 (P : Program) : Cx := (Cr40 P).lend 40
theorem okCh2 : CxOk (Ch2 Try.prog) := Cx.lend_ok okr40 _
theorem de_eq : Try.f41.body = some (deB Try.prog) := by kernel_rfl
theorem deRet (n1 n2 : Nat) (o1 o2 : Bool) (c1 c2 : Nat → Int) (t : Bool) (e : Int) : (retA Try.prog Try.f41 (.ret, deX n1 n2 o1 o2 c1 c2 t e)).res = some (.tuple #[.bool t, vI e], [Ir o1 n1 c1, Ir o2 n2 c2]) := by kernel_rfl
theorem deFor : isFor 0 (stmt 4 (deB Try.prog)) = true := by kernel_rfl
theorem deHas : hasStmt 1 (deB Try.prog) = true ∧ hasStmt 4 (deB Try.prog) = true := ⟨by kernel_rfl, by kernel_rfl⟩
theorem deIn : InBody ((Ch0 Try.prog).into 41 2) (forHead (stmt 4 (deB Try.prog))) ∧ InBody ((Ch0 Try.prog).into 41 2) (forBody (stmt 4 (deB Try.prog))) := for_in (C := Ch0 Try.prog) (f := 41) (B := 2) (id := 0) (k := 4) (fn := Try.f41) (b := deB Try.prog) Try.func41 de_eq deFor
theorem d_ne (a b : Int) : (!(a / 4503599627370496 == b / 4503599627370496 && (a % 4503599627370496 == b % 4503599627370496 && true))) = (a != b) := by
  by_cases h : a = b
  · subst h; simp
  · rw [show (a != b) = true by simpa using h]
    by_cases h1 : a / 4503599627370496 = b / 4503599627370496
    · have h2 : a % 4503599627370496 ≠ b % 4503599627370496 := by omega
      simp [h1, h2]
    · simp [h1]
theorem deBody0 : InBody ((Ch0 Try.prog).into 41 2) (deB Try.prog) := Or.inl ⟨Try.f41, deB Try.prog, Try.func41, de_eq, fun _ hx => hx⟩
theorem eqC_on {n : Nat} {a b c d : Nat → Int} (h : ∀ q, q < n → a q = c q) (k : ∀ q, q < n → b q = d q) : eqC n a b = eqC n c d := by
  unfold eqC
  rw [Bool.eq_iff_iff, List.all_eq_true, List.all_eq_true]
  exact ⟨fun g i hi => by rw [← h i (List.mem_range.1 hi), ← k i (List.mem_range.1 hi)]; exact g i hi, fun g i hi => by rw [h i (List.mem_range.1 hi), k i (List.mem_range.1 hi)]; exact g i hi⟩
theorem nk {M1 M2 : Int} {n1 n2 : Nat} {c1 c2 : Nat → Int} (h1 : frmB M1 n1 c1 = true) (h2 : frmB M2 n2 c2 = true) : n1 * ((mx M1 M2).toNat / M1.toNat) = ((mx M1 M2).toNat / 3) ∧ n2 * ((mx M1 M2).toNat / M2.toNat) = ((mx M1 M2).toNat / 3) := by
  obtain ⟨f1, _, _⟩ := frm_fine h1
  obtain ⟨f2, _, _⟩ := frm_fine h2
  obtain ⟨fm, _, _⟩ := mx_ok f1 f2
  obtain ⟨s1, s2, s3, s4⟩ := six fm
  obtain ⟨w1, w2, w3, w4, _, _, w7, w8⟩ := kk h1 h2
  have e1 : n1 * ((mx M1 M2).toNat / M1.toNat) = 2 * (((mx M1 M2).toNat / M1.toNat) * w1) := by rw [w3, Nat.mul_assoc, Nat.mul_comm w1]
  have e2 : n2 * ((mx M1 M2).toNat / M2.toNat) = 2 * (((mx M1 M2).toNat / M2.toNat) * w2) := by rw [w4, Nat.mul_assoc, Nat.mul_comm w2]
  rw [e1, e2, ← w7, ← w8]
  omega
theorem eq_fine {M1 M2 : Int} {n1 n2 : Nat} {c1 c2 : Nat → Int} (h1 : frmB M1 n1 c1 = true) (h2 : frmB M2 n2 c2 = true) : eqC (mx M1 M2).toNat (fineP ((mx M1 M2).toNat / M1.toNat) c1 n1) (fineP ((mx M1 M2).toNat / M2.toNat) c2 n2) = eqV M1 M2 c1 c2 := by
  obtain ⟨f1, _, _⟩ := frm_fine h1
  obtain ⟨f2, _, _⟩ := frm_fine h2
  obtain ⟨⟨_, a2⟩, _, b2⟩ := mx_mul f1 f2
  obtain ⟨g1, g2⟩ := nk h1 h2
  unfold eqV
  rw [← eqC_on (n := ((mx M1 M2).toNat / 3)) (a := fineP ((mx M1 M2).toNat / M1.toNat) c1 n1) (b := fineP ((mx M1 M2).toNat / M2.toNat) c2 n2) (fun q hq => fineP_all _ n1 a2 c1 q (by omega)) fun q hq => fineP_all _ n2 b2 c2 q (by omega)]
  unfold eqC
  rw [Bool.eq_iff_iff, List.all_eq_true, List.all_eq_true]
  refine ⟨fun g i hi => g i (List.mem_range.2 (by have := List.mem_range.1 hi; omega)), fun g i hi => ?_⟩
  by_cases hd : i < ((mx M1 M2).toNat / 3)
  · exact g i (List.mem_range.2 hd)
  · rw [fineP_zero a2 c1 (by omega), fineP_zero b2 c2 (by omega)]; rfl
theorem deErr (n1 n2 : Nat) (o1 o2 : Bool) (M1 M2 : Int) (c1 c2 : Nat → Int) (h : frmB M1 n1 c1 = false ∨ (frmB M1 n1 c1 = true ∧ frmB M2 n2 c2 = false)) : MemSem Try.prog 41 [.agg #[vI M1, SI 0 n1], .agg #[vI M2, SI 1 n2]] [Ir o1 n1 c1, Ir o2 n2 c2] (.tuple #[.bool false, vI 3]) [Ir o1 n1 c1, Ir o2 n2 c2] := by
  have p1 := deP1 n1 n2 o1 o2 M1 M2 c1 c2
  simp only [rules] at p1
  have p1' : roundR ((Ch0 Try.prog).into 41 2) 60 (stmt 1 (deB Try.prog)) [2, 3, 4, 5] [4, 5] [.fix 0, .fix 1, .slot 2, .slot 3] [.fix 0, .fix 1] (deS n1 n2 o1 o2 M1 M2 c1 c2) = some (.ret, deX n1 n2 o1 o2 c1 c2 false 3) := by
    rcases h with h | ⟨h, k⟩
    · rw [h] at p1; exact p1
    · rw [h, k] at p1; exact p1
  exact body_mem (m := [Ir o1 n1 c1, Ir o2 n2 c2]) (args := [.agg #[vI M1, SI 0 n1], .agg #[vI M2, SI 1 n2]]) (f := 41) Try.func41 de_eq (by kernel_rfl) (seg_rule (C := Ch0 Try.prog) okh0 (f := 41) (B := 2) (k := 1) deBody0 (deP0 n1 n2 o1 o2 M1 M2 c1 c2) (stmt_out deHas.1 (end_rule' (C := Ch0 Try.prog) okh0 (f := 41) (B := 2) (stmt_in Try.func41 de_eq) p1') (by simp))) (deRet n1 n2 o1 o2 c1 c2 false 3)
theorem dequT (n1 n2 : Nat) (o1 o2 : Bool) (M1 M2 : Int) (c1 c2 : Nat → Int) (_ : True) (h1 : frmB M1 n1 c1 = true) (h2 : frmB M2 n2 c2 = true) : MemSem Try.prog 41 [.agg #[vI M1, SI 0 n1], .agg #[vI M2, SI 1 n2]] [Ir o1 n1 c1, Ir o2 n2 c2] (.tuple #[.bool (eqV M1 M2 c1 c2), vI 0]) [Ir o1 n1 c1, Ir o2 n2 c2] := by
  obtain ⟨f1, _, _⟩ := frm_fine h1
  obtain ⟨f2, _, _⟩ := frm_fine h2
  obtain ⟨fm, q1, q2⟩ := mx_ok f1 f2
  have hm := fine_cases fm
  have p1 := deP1 n1 n2 o1 o2 M1 M2 c1 c2
  simp only [rules] at p1
  rw [h1, h2] at p1
  have p2 := deP2 n1 n2 o1 o2 M1 M2 c1 c2
  rw [show (if M2 > M1 then M2 else M1) = mx M1 M2 from rfl] at p2
  simp only [rules] at p2
  simp only [fm, q1, q2, h1, h2, rules] at p2
  have hs := scan_loop (C := Ch0 Try.prog) okh0 (f := 41) (B := 2) (m := 60) deIn.2 (n := (mx M1 M2).toNat) (by omega) (deH n1 n2 (mx M1 M2).toNat o1 o2 c1 c2 (dRow (fineP ((mx M1 M2).toNat / M1.toNat) c1 n1)) (dRow (fineP ((mx M1 M2).toNat / M2.toNat) c2 n2))) (fun i => fineP ((mx M1 M2).toNat / M1.toNat) c1 n1 i != fineP ((mx M1 M2).toNat / M2.toNat) c2 n2 i) (fun _ => deX n1 n2 o1 o2 c1 c2 false 0) 0 (deX n1 n2 o1 o2 c1 c2 false 0) (fun i _ => by
    have r := deR n1 n2 (mx M1 M2).toNat o1 o2 c1 c2 (fineP ((mx M1 M2).toNat / M1.toNat) c1 n1) (fineP ((mx M1 M2).toNat / M2.toNat) c2 n2) i
    rw [d_ne] at r
    rw [r]
    cases decide ((i : Int) < ((mx M1 M2).toNat : Int)) with
    | false => rfl
    | true =>
      cases boundsI (i : Int) (mx M1 M2).toNat with
      | false => rfl
      | true => rfl)
  have hh := end_rule (C := Ch0 Try.prog) okh0 (f := 41) (B := 2) deIn.1 (deHead n1 n2 (mx M1 M2).toNat o1 o2 c1 c2 (fineP ((mx M1 M2).toNat / M1.toNat) c1 n1) (fineP ((mx M1 M2).toNat / M2.toNat) c2 n2))
  have hsc := scan_all (n := (mx M1 M2).toNat) (p := fun i => fineP ((mx M1 M2).toNat / M1.toNat) c1 n1 i != fineP ((mx M1 M2).toNat / M2.toNat) c2 n2 i)
  rw [eqC_not, eq_fine h1 h2] at hsc
  have fin : ∀ t, CodeSem Try.prog 2 (seqDrop 4 (deB Try.prog)) (deT n1 n2 (mx M1 M2).toNat o1 o2 c1 c2 (dRow (fineP ((mx M1 M2).toNat / M1.toNat) c1 n1)) (dRow (fineP ((mx M1 M2).toNat / M2.toNat) c2 n2))) .ret (deX n1 n2 o1 o2 c1 c2 t 0) → MemSem Try.prog 41 [.agg #[vI M1, SI 0 n1], .agg #[vI M2, SI 1 n2]] [Ir o1 n1 c1, Ir o2 n2 c2] (.tuple #[.bool t, vI 0]) [Ir o1 n1 c1, Ir o2 n2 c2] := fun t h =>
    body_mem (m := [Ir o1 n1 c1, Ir o2 n2 c2]) (args := [.agg #[vI M1, SI 0 n1], .agg #[vI M2, SI 1 n2]]) (f := 41) Try.func41 de_eq (by kernel_rfl) (seg_rule (C := Ch0 Try.prog) okh0 (f := 41) (B := 2) (k := 1) deBody0 (deP0 n1 n2 o1 o2 M1 M2 c1 c2) (stmt_rule deHas.1 (end_rule' (C := Ch0 Try.prog) okh0 (f := 41) (B := 2) (stmt_in Try.func41 de_eq) p1) (seg_rule (C := Ch0 Try.prog) okh0 (f := 41) (B := 2) (k := 2) (bodyOf_in Try.func41 de_eq) p2 (by rw [seqDrop_drop]; exact h)))) (deRet n1 n2 o1 o2 c1 c2 t 0)
  cases hk : fst? (fun i => fineP ((mx M1 M2).toNat / M1.toNat) c1 n1 i != fineP ((mx M1 M2).toNat / M2.toNat) c2 n2 i) (mx M1 M2).toNat 0 with
  | none =>
    rw [hsc.1 hk]
    exact fin true (stmt_rule deHas.2 (for_rule deFor hh (hs.2 hk)) (end_rule (C := Ch0 Try.prog) okh0 (f := 41) (B := 2) (bodyOf_in Try.func41 de_eq) (deEnd n1 n2 o1 o2 c1 c2)))
  | some k =>
    rw [hsc.2 k hk]
    exact fin false (stmt_out deHas.2 (for_ret deFor hh (hs.1 k hk)) (by simp))
theorem dequNN (M1 M2 : Int) : MemSem Try.prog 41 [.agg #[vI M1, .slice none 0 0], .agg #[vI M2, .slice none 0 0]] [] (.tuple #[.bool false, vI 3]) [] := exT_ok okh1 Try.func41 (by kernel_rfl) (deNN M1 M2)
theorem dequNL (n2 : Nat) (o2 : Bool) (M1 M2 : Int) (c2 : Nat → Int) : MemSem Try.prog 41 [.agg #[vI M1, .slice none 0 0], .agg #[vI M2, SI 0 n2]] [Ir o2 n2 c2] (.tuple #[.bool false, vI 3]) [Ir o2 n2 c2] := exT_ok okh1 Try.func41 (by kernel_rfl) (deNL n2 o2 M1 M2 c2)
theorem dequLN (n2 : Nat) (o2 : Bool) (M1 M2 : Int) (c2 : Nat → Int) : MemSem Try.prog 41 [.agg #[vI M1, SI 0 n2], .agg #[vI M2, .slice none 0 0]] [Ir o2 n2 c2] (.tuple #[.bool false, vI 3]) [Ir o2 n2 c2] := by
  have h := deLN n2 o2 M1 M2 c2
  simp only [rules] at h
  cases hf : frmB M1 n2 c2 <;> rw [hf] at h <;> exact exT_ok okh1 Try.func41 (by kernel_rfl) h
theorem dequE0 (n1 n2 : Nat) (o1 o2 : Bool) (M1 M2 : Int) (c1 c2 : Nat → Int) (_ : True) (h1 : frmB M1 n1 c1 = false) : MemSem Try.prog 41 [.agg #[vI M1, SI 0 n1], .agg #[vI M2, SI 1 n2]] [Ir o1 n1 c1, Ir o2 n2 c2] (.tuple #[.bool false, vI 3]) [Ir o1 n1 c1, Ir o2 n2 c2] := deErr n1 n2 o1 o2 M1 M2 c1 c2 (Or.inl h1)
theorem dequE1 (n1 n2 : Nat) (o1 o2 : Bool) (M1 M2 : Int) (c1 c2 : Nat → Int) (_ : True) (h1 : frmB M1 n1 c1 = true) (h2 : frmB M2 n2 c2 = false) : MemSem Try.prog 41 [.agg #[vI M1, SI 0 n1], .agg #[vI M2, SI 1 n2]] [Ir o1 n1 c1, Ir o2 n2 c2] (.tuple #[.bool false, vI 3]) [Ir o1 n1 c1, Ir o2 n2 c2] := deErr n1 n2 o1 o2 M1 M2 c1 c2 (Or.inr ⟨h1, h2⟩)
def dequF : List Value → Mem → Option (Ans (Value × Mem))
  | [.agg a, .agg b], mm => match a.toList, b.toList, mm with
    | [.int .i64 _, .slice none 0 0], [.int .i64 _, .slice none 0 0], [] => some (.out (.tuple #[.bool false, vI 3], []))
    | [.int .i64 _, .slice none 0 0], [.int .i64 _, .slice (some ⟨0, 0, some 0⟩) N 1], [.rows own true 1 N2 row] => some (.br (Nat.beq N N2 && okIs N row) (.out (.tuple #[.bool false, vI 3], [.rows own true 1 N row])) .fail)
    | [.int .i64 _, .slice (some ⟨0, 0, some 0⟩) N 1], [.int .i64 _, .slice none 0 0], [.rows own true 1 N2 row] => some (.br (Nat.beq N N2 && okIs N row) (.out (.tuple #[.bool false, vI 3], [.rows own true 1 N row])) .fail)
    | [.int .i64 M1, .slice (some ⟨0, 0, some 0⟩) N 1], [.int .i64 M2, .slice (some ⟨1, 0, some 0⟩) K 1], [.rows own true 1 N2 row, .rows own2 true 1 K2 row2] => some (.br (true && (Nat.beq N N2 && (okIs N row && (Nat.beq K K2 && okIs K row2)))) (.br (frmB M1 N (iOf row)) (.br (frmB M2 K (iOf row2)) (.out (.tuple #[.bool (eqV M1 M2 (iOf row) (iOf row2)), vI 0], [.rows own true 1 N row, .rows own2 true 1 K row2])) (.out (.tuple #[.bool false, vI 3], [.rows own true 1 N row, .rows own2 true 1 K row2]))) (.out (.tuple #[.bool false, vI 3], [.rows own true 1 N row, .rows own2 true 1 K row2]))) .fail)
    | _, _, _ => none
  | _, _ => none
theorem dequF_ok {args : List Value} {m : Mem} {ans : Ans (Value × Mem)} {v : Value} {m' : Mem} (h : dequF args m = some ans) (hr : ans.res = some (v, m')) : MemSem Try.prog 41 args m v m' := by
  unfold dequF at h
  split at h
  · rename_i mm a b 
    split at h
    · rename_i M1 M2 e1 e2
      have ha : a = #[vI M1, .slice none 0 0] := by apply Array.ext'; simpa [vI] using e1
      have hb : b = #[vI M2, .slice none 0 0] := by apply Array.ext'; simpa [vI] using e2
      subst ha hb
      simp only [Option.some.injEq] at h
      subst h
      simp only [Ans.res, Option.some.injEq, Prod.mk.injEq] at hr
      obtain ⟨rfl, rfl⟩ := hr
      exact dequNN M1 M2 
    · rename_i M1 M2 N own N2 row e1 e2
      have ha : a = #[vI M1, .slice none 0 0] := by apply Array.ext'; simpa [SI, vI] using e1
      have hb : b = #[vI M2, SI 0 N] := by apply Array.ext'; simpa [SI, vI] using e2
      subst ha hb
      simp only [Option.some.injEq] at h
      subst h
      rcases Ans.br_some hr with ⟨hc, g⟩ | ⟨_, g⟩ <;> clear hr
      rotate_left
      · simp [Ans.res] at g
      simp only [Bool.and_eq_true] at hc
      have e1 := Nat.eq_of_beq_eq_true hc.1
      subst e1
      simp only [Ans.res, Option.some.injEq, Prod.mk.injEq] at g
      obtain ⟨rfl, rfl⟩ := g
      have l1 : LikeL [.rows own true 1 N row] [Ir own N (iOf row)] := ⟨.rows (is_like hc.2), trivial⟩
      exact (MemSem.like (dequNL N own M1 M2 (iOf row) ) l1).likes ⟨.rows fun i hi => (is_like hc.2 i hi).symm, trivial⟩
    · rename_i M1 N M2 own N2 row e1 e2
      have ha : a = #[vI M1, SI 0 N] := by apply Array.ext'; simpa [SI, vI] using e1
      have hb : b = #[vI M2, .slice none 0 0] := by apply Array.ext'; simpa [SI, vI] using e2
      subst ha hb
      simp only [Option.some.injEq] at h
      subst h
      rcases Ans.br_some hr with ⟨hc, g⟩ | ⟨_, g⟩ <;> clear hr
      rotate_left
      · simp [Ans.res] at g
      simp only [Bool.and_eq_true] at hc
      have e1 := Nat.eq_of_beq_eq_true hc.1
      subst e1
      simp only [Ans.res, Option.some.injEq, Prod.mk.injEq] at g
      obtain ⟨rfl, rfl⟩ := g
      have l1 : LikeL [.rows own true 1 N row] [Ir own N (iOf row)] := ⟨.rows (is_like hc.2), trivial⟩
      exact (MemSem.like (dequLN N own M1 M2 (iOf row) ) l1).likes ⟨.rows fun i hi => (is_like hc.2 i hi).symm, trivial⟩
    · rename_i M1 N M2 K own N2 row own2 K2 row2 e1 e2
      have ha : a = #[vI M1, SI 0 N] := by apply Array.ext'; simpa [SI, vI] using e1
      have hb : b = #[vI M2, SI 1 K] := by apply Array.ext'; simpa [SI, vI] using e2
      subst ha hb
      simp only [Option.some.injEq] at h
      subst h
      rcases Ans.br_some hr with ⟨hc, g⟩ | ⟨_, g⟩ <;> clear hr
      rotate_left
      · simp [Ans.res] at g
      simp only [Bool.and_eq_true] at hc
      obtain ⟨cp, c1, c2, c3, c4⟩ := hc
      have e1 := Nat.eq_of_beq_eq_true c1
      have e2 := Nat.eq_of_beq_eq_true c3
      subst e1 e2
      have l1 : LikeL [.rows own true 1 N row, .rows own2 true 1 K row2] [Ir own N (iOf row), Ir own2 K (iOf row2)] := ⟨.rows (is_like c2), .rows (is_like c4), trivial⟩
      have b1 : Like (Ir own N (iOf row)) (.rows own true 1 N row) := .rows fun i hi => (is_like c2 i hi).symm
      have b2 : Like (Ir own2 K (iOf row2)) (.rows own2 true 1 K row2) := .rows fun i hi => (is_like c4 i hi).symm
      rcases Ans.br_some g with ⟨h0, g0⟩ | ⟨h0, g0⟩ <;> clear g
      rotate_left
      · simp only [Ans.res, Option.some.injEq, Prod.mk.injEq] at g0
        obtain ⟨rfl, rfl⟩ := g0
        exact (MemSem.like (dequE0 N K own own2 M1 M2 (iOf row) (iOf row2)  cp h0) l1).likes ⟨b1, b2, trivial⟩
      rcases Ans.br_some g0 with ⟨h1, g1⟩ | ⟨h1, g1⟩ <;> clear g0
      rotate_left
      · simp only [Ans.res, Option.some.injEq, Prod.mk.injEq] at g1
        obtain ⟨rfl, rfl⟩ := g1
        exact (MemSem.like (dequE1 N K own own2 M1 M2 (iOf row) (iOf row2)  cp h0 h1) l1).likes ⟨b1, b2, trivial⟩
      simp only [Ans.res, Option.some.injEq, Prod.mk.injEq] at g1
      obtain ⟨rfl, rfl⟩ := g1
      exact (MemSem.like (dequT N K own own2 M1 M2 (iOf row) (iOf row2)  cp h0 h1) l1).likes ⟨b1, b2, trivial⟩
    · cases h
  · cases h
def Cr41 (P : Program) : Cx := (Ch2 P).addM 41 dequF
theorem okr41 : CxOk (Cr41 Try.prog) := Cx.addM_ok okCh2 fun _ _ _ _ _ h hr => dequF_ok h hr
def Ch3 (P : Program) : Cx := (Cr41 P).lend 41
theorem okCh3 : CxOk (Ch3 Try.prog) := Cx.lend_ok okr41 _
theorem tm_ne {m M : Int} (hM : fineB M = true) (hm : fineB m = true) : (m.tmod M != 0) = !(m % M == 0) ∧ (M == 0) = false := by
  have hm := fine_cases hm
  have hM := fine_cases hM
  refine ⟨?_, by simp; omega⟩
  rw [Int.tmod_eq_emod_of_nonneg (by omega)]
  rfl
theorem df1 (own : Bool) (n : Nat) (c : Nat → Int) (M m : Int) (h : fineB m = false) : MemSem Try.prog 43 [.agg #[vI M, SI 0 n], vI m] [Ir own n c] (rgV 0 (.slice none 0 0) 1) [Ir own n c] := by
  have t := dfE n own M m c
  rw [h] at t
  exact exT_ok okh0 Try.func43 (by kernel_rfl) t
theorem df2 (own : Bool) (n : Nat) (c : Nat → Int) (M m : Int) (h : fineB m = true) (h2 : frmB M n c = false) : MemSem Try.prog 43 [.agg #[vI M, SI 0 n], vI m] [Ir own n c] (rgV 0 (.slice none 0 0) 3) [Ir own n c] := by
  have t := dfE n own M m c
  simp only [rules] at t
  simp only [nots, h, h2] at t
  exact exT_ok okh0 Try.func43 (by kernel_rfl) t
theorem df3 (own : Bool) (n : Nat) (c : Nat → Int) (M m : Int) (h : fineB m = true) (h2 : frmB M n c = true) (h3 : (m % M == 0) = false) : MemSem Try.prog 43 [.agg #[vI M, SI 0 n], vI m] [Ir own n c] (rgV 0 (.slice none 0 0) 1) [Ir own n c] := by
  have t := dfE n own M m c
  obtain ⟨e1, e2⟩ := tm_ne (frm_fine h2).1 h
  simp only [rules] at t
  simp only [rules, nots, h, h2, e1, e2, h3] at t
  exact exT_ok okh0 Try.func43 (by kernel_rfl) t
theorem df4 (own : Bool) (n : Nat) (c : Nat → Int) (M m : Int) (h : fineB m = true) (h2 : frmB M n c = true) (h3 : (m % M == 0) = true) : MemSem Try.prog 43 [.agg #[vI M, SI 0 n], vI m] [Ir own n c] (rgV m (SI 1 (m.toNat / 3)) 0) [Ir own n c, Ir true (m.toNat / 3) (fineG (m.toNat / M.toNat) c)] := by
  have t := dfL n own M m c
  obtain ⟨f1, f2, f3⟩ := frm_fine h2
  obtain ⟨e1, e2⟩ := tm_ne f1 h
  obtain ⟨s1, s2, s3, s4⟩ := six h
  have hM := fine_cases f1
  have hm := fine_cases h
  have hmk : m.toNat = M.toNat * (m.toNat / M.toNat) ∧ 1 ≤ m.toNat / M.toNat := by
    simp only [beq_iff_eq] at h3
    rcases hM with a | a | a | a <;> rcases hm with b | b | b | b <;> subst a b <;> revert h3 <;> decide
  have hd : n * (m.toNat / M.toNat) = m.toNat / 3 := by
    have e : M.toNat = 3 * n := by omega
    have := hmk.1
    rw [e, Nat.mul_assoc] at this
    rw [e]
    omega
  have hg := fineP_rg (k := m.toNat / M.toNat) (n := n) f3
  have hok := okLs_on (n := m.toNat) (row := dRow (fineP (m.toNat / M.toNat) c n)) (g := fineP (m.toNat / M.toNat) c n) (fun _ _ => rfl) fun i _ => by have := hg i; omega
  have hcf := cof_on (e := m.toNat / 6) (K := m.toNat) (n := m.toNat) (row := dRow (fineP (m.toNat / M.toNat) c n)) (g := fineP (m.toNat / M.toNat) c n) (fun _ _ => rfl) fun i a b => by omega
  have hq : ∀ q, q < m.toNat / 3 → cofE (m.toNat / 6) m.toNat (fineP (m.toNat / M.toNat) c n) q = fineG (m.toNat / M.toNat) c q := fun q hq => by
    have key := cof_self (e := m.toNat / 6) (g := fineP (m.toNat / M.toNat) c n) (fun p hp => fineP_zero hmk.2 c (by omega)) (q := q) (by omega)
    rw [← s4] at key
    rw [key]
    exact fineP_all _ n hmk.2 c q (by omega)
  have hall : allR (m.toNat / 3) (cofE (m.toNat / 6) m.toNat (fineP (m.toNat / M.toNat) c n)) = true := List.all_eq_true.2 fun i hi => by
    have hi := List.mem_range.1 hi
    rw [hq i hi]
    exact rg_fine f3 ((Nat.div_lt_iff_lt_mul (by omega)).2 (by omega))
  obtain ⟨_, _, d3, _⟩ := dm_ok h
  simp only [rules] at t
  simp only [rules, nots, h, h2, e1, e2, h3, hok, d3, hcf, hall] at t
  refine (exT_ok okh0 Try.func43 (by kernel_rfl) t).likes ⟨.refl _, .rows fun q hq' => ?_, trivial⟩
  show [vI _] = [vI _]
  rw [hq q hq']
theorem dfinF_ok {args : List Value} {m : Mem} {ans : Ans (Value × Mem)} {v : Value} {m' : Mem} (h : finerF args m = some ans) (hr : ans.res = some (v, m')) : MemSem Try.prog 43 args m v m' := by
  unfold finerF at h
  split at h
  · rename_i mm a m
    split at h
    · rename_i k e1
      have ha : a = #[.int .i64 k, .slice none 0 0] := by apply Array.ext'; simpa using e1
      subst ha
      simp only [Option.some.injEq] at h
      subst h
      have ht := dfN k m
      rcases Ans.br_some hr with ⟨hf, g⟩ | ⟨hf, g⟩ <;> clear hr <;> simp only [Ans.res, Option.some.injEq, Prod.mk.injEq] at g <;> obtain ⟨rfl, rfl⟩ := g <;> rw [hf] at ht <;> exact exT_ok okh0 Try.func43 (by kernel_rfl) ht
    · rename_i M N own N2 row e1
      have ha : a = #[.int .i64 M, SI 0 N] := by apply Array.ext'; simpa [SI] using e1
      subst ha
      simp only [Option.some.injEq] at h
      subst h
      rcases Ans.br_some hr with ⟨hc, g⟩ | ⟨_, g⟩ <;> clear hr
      rotate_left
      · simp [Ans.res] at g
      simp only [Bool.and_eq_true] at hc
      obtain ⟨c1, c2⟩ := hc
      have e1 := Nat.eq_of_beq_eq_true c1
      subst e1
      have l1 : LikeL [.rows own true 1 N row] [Ir own N (iOf row)] := ⟨.rows (is_like c2), trivial⟩
      have l2 : LikeL [Ir own N (iOf row)] [.rows own true 1 N row] := ⟨.rows fun i hi => (is_like c2 i hi).symm, trivial⟩
      rcases Ans.br_some g with ⟨h1, g1⟩ | ⟨h1, g1⟩ <;> clear g
      · rcases Ans.br_some g1 with ⟨h2, g2⟩ | ⟨h2, g2⟩ <;> clear g1
        · rcases Ans.br_some g2 with ⟨h3, g3⟩ | ⟨h3, g3⟩ <;> clear g2 <;> simp only [Ans.res, Option.some.injEq, Prod.mk.injEq] at g3 <;> obtain ⟨rfl, rfl⟩ := g3
          · exact (MemSem.like (df4 own N (iOf row) M m h1 h2 h3) l1).likes ⟨.rows fun i hi => (is_like c2 i hi).symm, .refl _, trivial⟩
          · exact (MemSem.like (df3 own N (iOf row) M m h1 h2 h3) l1).likes l2
        · simp only [Ans.res, Option.some.injEq, Prod.mk.injEq] at g2
          obtain ⟨rfl, rfl⟩ := g2
          exact (MemSem.like (df2 own N (iOf row) M m h1 h2) l1).likes l2
      · simp only [Ans.res, Option.some.injEq, Prod.mk.injEq] at g1
        obtain ⟨rfl, rfl⟩ := g1
        exact (MemSem.like (df1 own N (iOf row) M m h1) l1).likes l2
    · cases h
  · cases h
def Cr43 (P : Program) : Cx := (Ch3 P).addM 43 finerF
theorem okr43 : CxOk (Cr43 Try.prog) := Cx.addM_ok okCh3 fun _ _ _ _ _ h hr => dfinF_ok h hr
def Ch4 (P : Program) : Cx := (Cr43 P).lend 43
theorem okh4 : CxOk (Ch4 Try.prog) := Cx.lend_ok okr43 _
end Go.Proofs.Ytjhijkdicmbbiaa
