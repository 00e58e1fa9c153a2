/-
  ring.Real and facetref15.DocReal as contracts. Nothing here is trusted.
-/
import Derived.Test.YtjhijkdicmbbiaaHTRk1
namespace Go.Proofs.Ytjhijkdicmbbiaa
open Go Vx Go.RowKit
/-- Is the number its own conjugate? -/
def rlV (M : Int) (c : Nat → Int) : Bool := eqC (M.toNat / 3) c (Rin.conjE (M.toNat / 6) c)
theorem ne_small {a b : Int} (ha : b127 a) (hb : b127 b) : (hiW a == hiW b && (loW a == loW b && true)) = (a == b) := by
  by_cases h : a = b
  · subst h; simp
  · rw [show (a == b) = false by simpa using h]
    cases h1 : hiW a == hiW b with
    | false => rfl
    | true =>
      cases h2 : loW a == loW b with
      | false => rfl
      | true =>
        exfalso
        apply h
        have e1 := dec_hl a
        have e2 := dec_hl b
        rw [beq_iff_eq.1 h1, beq_iff_eq.1 h2, e2] at e1
        unfold b127 at ha hb
        omega
theorem re_conj {n : Nat} {M : Int} {c : Nat → Int} (h : frmB M n c = true) : eqW n c (gOf (wRow (redN (M.toNat / 3) M.toNat (gOf (wRow (Rin.tbP (M.toNat / 6) c n))) (M.toNat - M.toNat / 3)))) = rlV M c := by
  obtain ⟨f1, e1, r1⟩ := frm_fine h
  obtain ⟨s1, s2, s3, s4⟩ := six f1
  have en : n = 2 * (M.toNat / 6) := by omega
  have hcf : cofE (M.toNat / 6) M.toNat (Rin.tbP (M.toNat / 6) c n) = Rin.conjE (M.toNat / 6) c := by unfold Rin.conjE; rw [← s4, ← en]
  have hb := tbP_in (e := M.toNat / 6) n fun i hi => List.all_eq_true.1 r1 i (List.mem_range.2 hi)
  have key : ∀ q, q < n → neW c (gOf (wRow (redN (M.toNat / 3) M.toNat (gOf (wRow (Rin.tbP (M.toNat / 6) c n))) (M.toNat - M.toNat / 3)))) q = (c q != Rin.conjE (M.toNat / 6) c q) := fun q hq => by
    obtain ⟨R, hR⟩ : ∃ R, redN (M.toNat / 3) M.toNat (gOf (wRow (Rin.tbP (M.toNat / 6) c n))) (M.toNat - M.toNat / 3) = R := ⟨_, rfl⟩
    have w1 : wid (R q) = wid (Rin.conjE (M.toNat / 6) c q) := by
      rw [← hR, s3, redN_cof _ s2 (by omega) (by omega) (by omega), ← hcf]
      exact wid_cof (fun i _ => gOf_row _ i) q
    have w2 : wid (gOf (wRow R) q) = wid (Rin.conjE (M.toNat / 6) c q) := (gOf_row R q).trans w1
    obtain ⟨g1, g2⟩ := wV_congr w2
    unfold neW
    rw [hR, g1, g2, ne_small]
    · rfl
    · have := inRg_iff.1 (List.all_eq_true.1 r1 q (List.mem_range.2 hq)); unfold b127; omega
    · rw [← hcf]
      have := cof_bound (e := M.toNat / 6) (n := M.toNat) (g := Rin.tbP (M.toNat / 6) c n) (B := 4503599627370496) (by omega) hb q
      unfold b127; omega
  unfold eqW rlV
  rw [show M.toNat / 3 = n by omega, ← eqC_not]
  rw [Bool.eq_iff_iff, List.all_eq_true, List.all_eq_true]
  exact ⟨fun g i hi => by rw [← key i (List.mem_range.1 hi), show n = M.toNat / 3 by omega]; exact (show n = M.toNat / 3 by omega) ▸ g i hi, fun g i hi => by
    have k := key i (List.mem_range.1 hi)
    rw [show M.toNat / 3 = n by omega] at k
    rw [k]; exact g i hi⟩
theorem realN (M : Int) : MemSem Try.prog 44 [.agg #[vI M, .slice none 0 0]] [] (.tuple #[.bool false, vI 3]) [] := exT_ok okr116 Try.func44 (by kernel_rfl) (rlN M)
theorem realE0 (n : Nat) (o : Bool) (M : Int) (c : Nat → Int) (_ : True) (h0 : frmB M n c = false) : MemSem Try.prog 44 [.agg #[vI M, SI 0 n]] [Ir o n c] (.tuple #[.bool false, vI 3]) [Ir o n c] := by
  have h := rlL n o M c
  simp only [rules] at h
  simp only [nots, h0] at h
  exact exT_ok okk1 Try.func44 (by kernel_rfl) h
theorem realT (n : Nat) (o : Bool) (M : Int) (c : Nat → Int) (_ : True) (h0 : frmB M n c = true) : MemSem Try.prog 44 [.agg #[vI M, SI 0 n]] [Ir o n c] (.tuple #[.bool (rlV M c), vI 0]) [Ir o n c] := by
  have h := rlL n o M c
  obtain ⟨f1, e1, r1⟩ := frm_fine h0
  have hc := fine_cases f1
  have e2 : M.toNat / 3 = n := by omega
  have t2 : Nat.ble (0 + M.toNat / 3) M.toNat = true := by rw [Nat.ble_eq]; omega
  have t3 : Nat.beq (M.toNat / 3) n = true := by rw [Nat.beq_eq]; exact e2
  have t4 : decide (n ≤ 1048576) = true := decide_eq_true (by omega)
  have t5 : decide (M ≤ 3 * (M.toNat : Int)) = true := decide_eq_true (by omega)
  have t6 : decide (M.toNat ≤ 1048576) = true := decide_eq_true (by omega)
  simp only [rules] at h
  simp only [rules, nots, h0, f1, t5, t6, t2, t3, t4, r1, okWs_row, re_conj h0] at h
  exact exT_ok okk1 Try.func44 (by kernel_rfl) h
def realF : List Value → Mem → Option (Ans (Value × Mem))
  | [.agg a], mm => match a.toList, mm with
    | [.int .i64 _, .slice none 0 0], [] => some (.out (.tuple #[.bool false, vI 3], []))
    | [.int .i64 M, .slice (some ⟨0, 0, some 0⟩) N 1], [.rows own true 1 N2 row] => some (.br (true && (Nat.beq N N2 && okIs N row)) (.br (frmB M N (iOf row)) (.out (.tuple #[.bool (rlV M (iOf row)), vI 0], [.rows own true 1 N row])) (.out (.tuple #[.bool false, vI 3], [.rows own true 1 N row]))) .fail)
    | _, _ => none
  | _, _ => none
theorem realF_ok {args : List Value} {m : Mem} {ans : Ans (Value × Mem)} {v : Value} {m' : Mem} (h : realF args m = some ans) (hr : ans.res = some (v, m')) : MemSem Try.prog 44 args m v m' := by
  unfold realF at h
  split at h
  · rename_i mm a
    split at h
    · rename_i M e1
      have ha : a = #[vI M, .slice none 0 0] := by apply Array.ext'; simpa [vI] using e1
      subst ha
      simp only [Option.some.injEq] at h
      subst h
      simp only [Ans.res, Option.some.injEq, Prod.mk.injEq] at hr
      obtain ⟨rfl, rfl⟩ := hr
      exact realN M

    · rename_i M N own N2 row e1
      have ha : a = #[vI M, SI 0 N] := by apply Array.ext'; simpa [SI, vI] using e1
      subst ha
      simp only [Option.some.injEq] at h
      subst h
      rcases Ans.br_some hr with ⟨hc, g⟩ | ⟨_, g⟩ <;> clear hr
      rotate_left
      · simp [Ans.res] at g
      simp only [Bool.and_eq_true] at hc
      obtain ⟨cp, c1, c2⟩ := hc
      have e1 := Nat.eq_of_beq_eq_true c1
      subst e1
      have l1 : LikeL [.rows own true 1 N row] [Ir own N (iOf row)] := ⟨.rows (is_like c2), trivial⟩
      have b1 : Like (Ir own N (iOf row)) (.rows own true 1 N row) := .rows fun i hi => (is_like c2 i hi).symm
      rcases Ans.br_some g with ⟨h0, g0⟩ | ⟨h0, g0⟩ <;> clear g
      rotate_left
      · simp only [Ans.res, Option.some.injEq, Prod.mk.injEq] at g0
        obtain ⟨rfl, rfl⟩ := g0
        exact (MemSem.like (realE0 N own M (iOf row)  cp h0) l1).likes ⟨b1, trivial⟩
      simp only [Ans.res, Option.some.injEq, Prod.mk.injEq] at g0
      obtain ⟨rfl, rfl⟩ := g0
      exact (MemSem.like (realT N own M (iOf row)  cp h0) l1).likes ⟨b1, trivial⟩
    · cases h
  · cases h
def Cr44 (P : Program) : Cx := (Ck1 P).addM 44 realF
theorem okr44 : CxOk (Cr44 Try.prog) := Cx.addM_ok okk1 fun _ _ _ _ _ h hr => realF_ok h hr
def Ck2 (P : Program) : Cx := (Cr44 P).lend 44
theorem okCk2 : CxOk (Ck2 Try.prog) := Cx.lend_ok okr44 _
end Go.Proofs.Ytjhijkdicmbbiaa
