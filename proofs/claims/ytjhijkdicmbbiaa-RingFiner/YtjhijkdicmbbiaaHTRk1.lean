/-
  slices.EqualFunc as a contract; ring.Real, a run. Nothing here is trusted.
-/
import Derived.Test.YtjhijkdicmbbiaaHTRk0
namespace Go.Proofs.Ytjhijkdicmbbiaa
open Go Vx Go.RowKit
theorem ef_eq : Try.f115.body = some (efB Try.prog) := by kernel_rfl
theorem efRet (n K : Nat) (o o2 : Bool) (c g : Nat → Int) (t : Bool) : (retA Try.prog Try.f115 (.ret, efX n K o o2 c g t)).res = some (.bool t, [Ir o n c, .rows o2 true 2 K (wRow g)]) := by kernel_rfl
theorem efFor : isFor 0 (stmt 2 (efB Try.prog)) = true := by kernel_rfl
theorem efHas : hasStmt 1 (efB Try.prog) = true ∧ hasStmt 2 (efB Try.prog) = true := ⟨by kernel_rfl, by kernel_rfl⟩
theorem efIn : InBody ((Cr116 Try.prog).into 115 2) (forHead (stmt 2 (efB Try.prog))) ∧ InBody ((Cr116 Try.prog).into 115 2) (forBody (stmt 2 (efB Try.prog))) := for_in (C := Cr116 Try.prog) (f := 115) (B := 2) (id := 0) (k := 2) (fn := Try.f115) (b := efB Try.prog) Try.func115 ef_eq efFor
def neW (c g : Nat → Int) (i : Nat) : Bool := !(hiW (c i) == hiW (g i) && (loW (c i) == loW (g i) && true))
def eqW (n : Nat) (c g : Nat → Int) : Bool := (List.range n).all fun i => !neW c g i
theorem efSem (n K : Nat) (o o2 : Bool) (c g : Nat → Int) (hn : n ≤ 1048576) (hc : allR n c = true) : MemSem Try.prog 115 [SI 0 n, SWb 1 n, fnQ] [Ir o n c, .rows o2 true 2 K (wRow g)] (.bool (eqW n c g)) [Ir o n c, .rows o2 true 2 K (wRow g)] := by
  have body0 : InBody ((Cr116 Try.prog).into 115 2) (efB Try.prog) := Or.inl ⟨Try.f115, efB Try.prog, Try.func115, ef_eq, fun _ hx => hx⟩
  have fin : ∀ t, CodeSem Try.prog 2 (seqDrop 1 (efB Try.prog)) (efS n n K o o2 c g) .ret (efX n K o o2 c g t) → MemSem Try.prog 115 [SI 0 n, SWb 1 n, fnQ] [Ir o n c, .rows o2 true 2 K (wRow g)] (.bool t) [Ir o n c, .rows o2 true 2 K (wRow g)] := fun t h =>
    body_mem (m := [Ir o n c, .rows o2 true 2 K (wRow g)]) (args := [SI 0 n, SWb 1 n, fnQ]) (f := 115) Try.func115 ef_eq (by kernel_rfl) (seg_rule (C := Cr116 Try.prog) okr116 (f := 115) (B := 2) (k := 1) body0 (efP0 n n K o o2 c g) h) (efRet n K o o2 c g t)
  have r1 := efP1 n K o o2 c g
  rw [show ((n : Int) != (n : Int)) = false by simp] at r1
  have hs := scan_loop (C := Cr116 Try.prog) okr116 (f := 115) (B := 2) (m := 60) efIn.2 (n := n) (by omega) (efH n n K o o2 c g) (neW c g) (fun _ => efX n K o o2 c g false) 0 (efX n K o o2 c g false) (fun i _ => by
    have r := efR n n K o o2 c g i
    rw [r]
    by_cases hi : i < n
    · have h1 := i64_rg (List.all_eq_true.1 hc i (List.mem_range.2 hi))
      rw [show (Int.toNat (i : Int)) = i from Int.toNat_natCast i, boundsI_ok (n := n) (i := (i : Int)) (by omega), h1]
      rfl
    · simp only [show decide ((i : Int) < (n : Int)) = false by simp; omega]
      rfl)
  have hh := end_rule (C := Cr116 Try.prog) okr116 (f := 115) (B := 2) efIn.1 (efHead n n K o o2 c g)
  have c1' := fun {e s} (h : CodeSem Try.prog 2 (seqDrop 2 (efB Try.prog)) (efS n n K o o2 c g) e s) => stmt_rule efHas.1 (end_rule' (C := Cr116 Try.prog) okr116 (f := 115) (B := 2) (stmt_in Try.func115 ef_eq) r1) h
  have hsc := scan_all (n := n) (p := neW c g)
  unfold eqW
  cases hk : fst? (neW c g) n 0 with
  | none =>
    rw [hsc.1 hk]
    exact fin true (c1' (stmt_rule efHas.2 (for_rule efFor hh (hs.2 hk)) (end_rule (C := Cr116 Try.prog) okr116 (f := 115) (B := 2) (bodyOf_in Try.func115 ef_eq) (efEnd n K o o2 c g))))
  | some k =>
    rw [hsc.2 k hk]
    exact fin false (c1' (stmt_out efHas.2 (for_ret efFor hh (hs.1 k hk)) (by simp)))
def efF : List Value → Mem → Option (Ans (Value × Mem))
  | [.slice (some ⟨0, 0, some 0⟩) N 1, .slice (some ⟨1, 0, some 0⟩) D 2, .func (.func 116) f cs], [.rows own true 1 N2 row, .rows own2 true 2 K row2] => match f.toList, cs.toList with
    | [], [] => some (.br (Nat.beq N N2 && (okIs N row && (Nat.beq D N && (okWs K row2 && (allR N (iOf row) && decide (N ≤ 1048576)))))) (.out (.bool (eqW N (iOf row) (gOf row2)), [.rows own true 1 N row, .rows own2 true 2 K row2])) .fail)
    | _, _ => none
  | _, _ => none
theorem efF_ok {args : List Value} {m : Mem} {ans : Ans (Value × Mem)} {v : Value} {m' : Mem} (h : efF args m = some ans) (hr : ans.res = some (v, m')) : MemSem Try.prog 115 args m v m' := by
  unfold efF at h
  split at h
  · rename_i N D f cs own N2 row own2 K row2
    split at h
    · rename_i e1 e2
      have hf : f = #[] := by apply Array.ext'; simpa using e1
      have hcs : cs = #[] := by apply Array.ext'; simpa using e2
      subst hf hcs
      simp only [Option.some.injEq] at h
      subst h
      rcases Ans.br_some hr with ⟨hc, g⟩ | ⟨_, g⟩ <;> clear hr
      rotate_left
      · simp [Ans.res] at g
      simp only [Bool.and_eq_true, decide_eq_true_eq] at hc
      obtain ⟨c1, c2, c3, c4, c5, c6⟩ := hc
      have e1 := Nat.eq_of_beq_eq_true c1
      have e2 := Nat.eq_of_beq_eq_true c3
      subst e1 e2
      simp only [Ans.res, Option.some.injEq, Prod.mk.injEq] at g
      obtain ⟨rfl, rfl⟩ := g
      have l1 : LikeL [.rows own true 1 D row, .rows own2 true 2 K row2] [Ir own D (iOf row), .rows own2 true 2 K (wRow (gOf row2))] := ⟨.rows (is_like c2), .rows (ws_like c4), trivial⟩
      exact (MemSem.like (efSem D K own own2 (iOf row) (gOf row2) c6 c5) l1).likes ⟨.rows fun i hi => (is_like c2 i hi).symm, .rows fun i hi => (ws_like c4 i hi).symm, trivial⟩
    · cases h
  · cases h
def Cr115 (P : Program) : Cx := (Cr116 P).addM 115 efF
theorem okr115 : CxOk (Cr115 Try.prog) := Cx.addM_ok okr116 fun _ _ _ _ _ h hr => efF_ok h hr
def Ck1 (P : Program) : Cx := (Cr115 P).lend 115
theorem okk1 : CxOk (Ck1 Try.prog) := Cx.lend_ok okr115 _
theorem rlL (n : Nat) (o : Bool) (M : Int) (c : Nat → Int) : exT ((Ck1 Try.prog).at 44) 60 Try.f44 [.agg #[vI M, SI 0 n]] [Ir o n c] [.fix 0] = gd (Nat.ble (0 + n) n && true && true) (gd (Nat.beq n n && okIs n (shiftR 0 (iRow c))) ((match !frmB M n (iOf (shiftR 0 (iRow c))) with
  | true => some ((.tuple #[.bool false, vI ((3 : Int))], [.rows (o) true 1 (n) (iRow c)]))
  | false => gd (Nat.ble (0 + n) n && true && true) (gd (Nat.beq n n && (okIs n (shiftR 0 (iRow c)) && frmB M n (iOf (shiftR 0 (iRow c))))) (gd (fineB M && (Nat.beq (Int.toNat M) (Int.toNat M) && (okWs (Int.toNat M) (wRow (Rin.tbP (Int.toNat M / 6) (iOf (shiftR 0 (iRow c))) n)) && (decide (M ≤ (3 : Int) * ↑(Int.toNat M)) && decide (Int.toNat M ≤ 1048576))))) (gd (Nat.ble (0 + n) n && (Nat.ble (0 + Int.toNat M / 3) (Int.toNat M) && true)) (gd (Nat.beq n n && (okIs n (shiftR 0 (iRow c)) && (Nat.beq (Int.toNat M / 3) n && (okWs (Int.toNat M / 3) (shiftR 0 (wRow (redN (Int.toNat M / 3) (Int.toNat M) (gOf (wRow (Rin.tbP (Int.toNat M / 6) (iOf (shiftR 0 (iRow c))) n))) (Int.toNat M - Int.toNat M / 3)))) && (allR n (iOf (shiftR 0 (iRow c))) && decide (n ≤ 1048576)))))) (some ((.tuple #[.bool (eqW n (iOf (shiftR 0 (iRow c))) (gOf (shiftR 0 (wRow (redN (Int.toNat M / 3) (Int.toNat M) (gOf (wRow (Rin.tbP (Int.toNat M / 6) (iOf (shiftR 0 (iRow c))) n))) (Int.toNat M - Int.toNat M / 3)))))), vI ((0 : Int))], [.rows (o) true 1 (n) (iRow c)])))))))))) := by kernel_rfl
end Go.Proofs.Ytjhijkdicmbbiaa
