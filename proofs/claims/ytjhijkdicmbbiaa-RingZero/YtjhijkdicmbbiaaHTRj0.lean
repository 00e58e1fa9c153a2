/-
  slices.Equal of whole numbers, ring.Equal, facetref15.DocEqual, DocFiner. Nothing here is trusted.
-/
import Derived.Test.YtjhijkdicmbbiaaHTRi0
namespace Go.Proofs.Ytjhijkdicmbbiaa
open Go Vx Go.RowKit
def Ch0 (P : Program) : Cx := ((Cg7 P).lend 102).makes 102 []
theorem okh0 : CxOk (Ch0 Try.prog) := Cx.makes_ok (Cx.lend_ok okCg7 _) _ _
def esB (P : Program) : Code := bodyOf P 113
def esS (n1 n2 : Nat) (o1 o2 : Bool) (c1 c2 : Nat → Int) : St := stOf 26 [(0, SI 0 n1), (1, SI 1 n2), (4, .bool false)] [Ir o1 n1 c1, Ir o2 n2 c2]
def esH (n1 n2 : Nat) (o1 o2 : Bool) (c1 c2 : Nat → Int) (i : Int) : St := stOf 26 [(0, SI 0 n1), (1, SI 1 n2), (4, .bool false), (12, vI n1), (13, vI i)] [Ir o1 n1 c1, Ir o2 n2 c2]
def esX (n1 n2 : Nat) (o1 o2 : Bool) (c1 c2 : Nat → Int) (t : Bool) : St := stOf 26 [(4, .bool t)] [Ir o1 n1 c1, Ir o2 n2 c2]
theorem esP0 (n1 n2 : Nat) (o1 o2 : Bool) (c1 c2 : Nat → Int) : segR ((Ch0 Try.prog).into 113 2) 60 1 (esB Try.prog) [0, 1, 4] [.fix 0, .fix 1] (enter Try.f113 [SI 0 n1, SI 1 n2] [Ir o1 n1 c1, Ir o2 n2 c2]) = some (stOf 26 [(0, SI 0 (n1)), (1, SI 1 (n2)), (4, .bool false)] [.rows (o1) true 1 (n1) (iRow c1), .rows (o2) true 1 (n2) (iRow c2)]) := by kernel_rfl
theorem esP1 (n1 n2 : Nat) (o1 o2 : Bool) (c1 c2 : Nat → Int) : roundR ((Ch0 Try.prog).into 113 2) 60 (stmt 1 (esB Try.prog)) [0, 1, 4] [4] [.fix 0, .fix 1] [.fix 0, .fix 1] (esS n1 n2 o1 o2 c1 c2) = (match ((↑n1 : Int) != (↑n2 : Int)) with
  | true => some ((.ret, stOf 26 [(4, .bool false)] [.rows (o1) true 1 (n1) (iRow c1), .rows (o2) true 1 (n2) (iRow c2)]))
  | false => some ((.normal, stOf 26 [(0, SI 0 (n1)), (1, SI 1 (n2)), (4, .bool false)] [.rows (o1) true 1 (n1) (iRow c1), .rows (o2) true 1 (n2) (iRow c2)]))) := by kernel_rfl
theorem esHead (n1 n2 : Nat) (o1 o2 : Bool) (c1 c2 : Nat → Int) : roundR ((Ch0 Try.prog).into 113 2) 60 (forHead (stmt 2 (esB Try.prog))) [0, 1, 4, 12, 13] [0, 1, 4, 12, 13] [.fix 0, .fix 1] [.fix 0, .fix 1] (esS n1 n2 o1 o2 c1 c2) = some ((.normal, stOf 26 [(0, SI 0 (n1)), (1, SI 1 (n2)), (4, .bool false), (12, vI (↑n1)), (13, vI ((0 : Int)))] [.rows (o1) true 1 (n1) (iRow c1), .rows (o2) true 1 (n2) (iRow c2)])) := by kernel_rfl
theorem esR (n : Nat) (o1 o2 : Bool) (c1 c2 : Nat → Int) (i : Nat) : roundR ((Ch0 Try.prog).into 113 2) 60 (forBody (stmt 2 (esB Try.prog))) [0, 1, 4, 12, 13] [4] [.fix 0, .fix 1] [.fix 0, .fix 1] (esH n n o1 o2 c1 c2 (i : Int)) = (match decide ((↑i : Int) < (↑n : Int)) with
  | true => gd (boundsI (↑i) n) (gd (boundsI (↑i) n) ((match c1 (Int.toNat ↑i) != c2 (Int.toNat ↑i) with
  | true => some ((.ret, stOf 26 [(4, .bool false)] [.rows (o1) true 1 (n) (iRow c1), .rows (o2) true 1 (n) (iRow c2)]))
  | false => some ((.normal, stOf 26 [(0, SI 0 (n)), (1, SI 1 (n)), (4, .bool false), (12, vI (↑n)), (13, vI (W (↑i + (1 : Int))))] [.rows (o1) true 1 (n) (iRow c1), .rows (o2) true 1 (n) (iRow c2)])))))
  | false => some ((.exit 0, stOf 26 [(4, .bool false)] [.rows (o1) true 1 (n) (iRow c1), .rows (o2) true 1 (n) (iRow c2)]))) := by kernel_rfl
theorem esEnd (n1 n2 : Nat) (o1 o2 : Bool) (c1 c2 : Nat → Int) : roundR ((Ch0 Try.prog).into 113 2) 60 (seqDrop 3 (esB Try.prog)) [4] [4] [.fix 0, .fix 1] [.fix 0, .fix 1] (esX n1 n2 o1 o2 c1 c2 false) = some ((.ret, stOf 26 [(4, .bool true)] [.rows (o1) true 1 (n1) (iRow c1), .rows (o2) true 1 (n2) (iRow c2)])) := by kernel_rfl
def deB (P : Program) : Code := bodyOf P 41
def deS (n1 n2 : Nat) (o1 o2 : Bool) (M1 M2 : Int) (c1 c2 : Nat → Int) : St := stOf 44 [(2, pt 2), (3, pt 3), (4, .bool false), (5, vI 0)] [Ir o1 n1 c1, Ir o2 n2 c2, .cells true 0 [vI M1, SI 0 n1], .cells true 0 [vI M2, SI 1 n2]]
theorem deP0 (n1 n2 : Nat) (o1 o2 : Bool) (M1 M2 : Int) (c1 c2 : Nat → Int) : segR ((Ch0 Try.prog).into 41 2) 60 1 (deB Try.prog) [2, 3, 4, 5] [.fix 0, .fix 1, .slot 2, .slot 3] (enter Try.f41 [.agg #[vI M1, SI 0 n1], .agg #[vI M2, SI 1 n2]] [Ir o1 n1 c1, Ir o2 n2 c2]) = some (stOf 44 [(2, pt 2), (3, pt 3), (4, .bool false), (5, vI ((0 : Int)))] [.rows (o1) true 1 (n1) (iRow c1), .rows (o2) true 1 (n2) (iRow c2), .cells true 0 [vI (M1), SI 0 (n1)], .cells true 0 [vI (M2), SI 1 (n2)]]) := by kernel_rfl
theorem deP1 (n1 n2 : Nat) (o1 o2 : Bool) (M1 M2 : Int) (c1 c2 : Nat → Int) : roundR ((Ch0 Try.prog).into 41 2) 60 (stmt 1 (deB Try.prog)) [2, 3, 4, 5] [4, 5] [.fix 0, .fix 1, .slot 2, .slot 3] [.fix 0, .fix 1] (deS n1 n2 o1 o2 M1 M2 c1 c2) = gd (Nat.ble (0 + n1) n1 && true && true) (gd (Nat.beq n1 n1 && okIs n1 (shiftR 0 (iRow c1))) ((match !frmB M1 n1 (iOf (shiftR 0 (iRow c1))) with
  | true => some ((.ret, stOf 44 [(4, .bool false), (5, vI ((3 : Int)))] [.rows (o1) true 1 (n1) (iRow c1), .rows (o2) true 1 (n2) (iRow c2)]))
  | false => gd (Nat.ble (0 + n2) n2 && true && true) (gd (Nat.beq n2 n2 && okIs n2 (shiftR 0 (iRow c2))) ((match !frmB M2 n2 (iOf (shiftR 0 (iRow c2))) with
  | true => some ((.ret, stOf 44 [(4, .bool false), (5, vI ((3 : Int)))] [.rows (o1) true 1 (n1) (iRow c1), .rows (o2) true 1 (n2) (iRow c2)]))
  | false => some ((.normal, stOf 44 [(2, pt 2), (3, pt 3), (4, .bool false), (5, vI ((0 : Int)))] [.rows (o1) true 1 (n1) (iRow c1), .rows (o2) true 1 (n2) (iRow c2), .cells true 0 [vI (M1), SI 0 (n1)], .cells true 0 [vI (M2), SI 1 (n2)]])))))))) := by kernel_rfl
theorem deP2 (n1 n2 : Nat) (o1 o2 : Bool) (M1 M2 : Int) (c1 c2 : Nat → Int) : segR ((Ch0 Try.prog).into 41 2) 60 2 (seqDrop 2 (deB Try.prog)) [4, 5, 7, 8] [.fix 0, .fix 1, .slot 7, .slot 8] (deS n1 n2 o1 o2 M1 M2 c1 c2) = gd (Nat.ble (0 + n1) n1 && true && true) (gd (Nat.ble (0 + n1) n1 && true && true) (gd (Nat.ble (0 + n1) n1 && true && true) (gd (Nat.beq n1 n1 && (okIs n1 (shiftR 0 (shiftR 0 (shiftR 0 (iRow c1)))) && (fineB (if M2 > M1 then M2 else M1) && (frmB M1 n1 (iOf (shiftR 0 (shiftR 0 (shiftR 0 (iRow c1))))) && (if M2 > M1 then M2 else M1) % M1 == (0 : Int))))) (gd (Nat.ble (0 + n2) n2 && true && true) (gd (Nat.ble (0 + n2) n2 && true && true) (gd (Nat.ble (0 + n2) n2 && true && true) (gd (Nat.beq n2 n2 && (okIs n2 (shiftR 0 (shiftR 0 (shiftR 0 (iRow c2)))) && (fineB (if M2 > M1 then M2 else M1) && (frmB M2 n2 (iOf (shiftR 0 (shiftR 0 (shiftR 0 (iRow c2))))) && (if M2 > M1 then M2 else M1) % M2 == (0 : Int))))) (some (stOf 44 [(4, .bool false), (5, vI ((0 : Int))), (7, SWb 2 (Int.toNat (if M2 > M1 then M2 else M1))), (8, SWb 3 (Int.toNat (if M2 > M1 then M2 else M1)))] [.rows (o1) true 1 (n1) (iRow c1), .rows (o2) true 1 (n2) (iRow c2), .rows true true 2 (Int.toNat (if M2 > M1 then M2 else M1)) (dRow (fineP (Int.toNat (if M2 > M1 then M2 else M1) / Int.toNat M1) (iOf (shiftR 0 (shiftR 0 (shiftR 0 (iRow c1))))) n1)), .rows true true 2 (Int.toNat (if M2 > M1 then M2 else M1)) (dRow (fineP (Int.toNat (if M2 > M1 then M2 else M1) / Int.toNat M2) (iOf (shiftR 0 (shiftR 0 (shiftR 0 (iRow c2))))) n2))]))))))))) := by kernel_rfl
def deT (n1 n2 K : Nat) (o1 o2 : Bool) (c1 c2 : Nat → Int) (f g : Nat → List Value) : St := stOf 44 [(4, .bool false), (5, vI 0), (7, SWb 2 K), (8, SWb 3 K)] [Ir o1 n1 c1, Ir o2 n2 c2, Dr true K f, Dr true K g]
def deH (n1 n2 K : Nat) (o1 o2 : Bool) (c1 c2 : Nat → Int) (f g : Nat → List Value) (i : Int) : St := stOf 44 [(4, .bool false), (5, vI 0), (7, SWb 2 K), (8, SWb 3 K), (30, vI K), (31, vI i)] [Ir o1 n1 c1, Ir o2 n2 c2, Dr true K f, Dr true K g]
theorem deHead (n1 n2 K : Nat) (o1 o2 : Bool) (c1 c2 f g : Nat → Int) : roundR ((Ch0 Try.prog).into 41 2) 60 (forHead (stmt 4 (deB Try.prog))) [4, 5, 7, 8, 30, 31] [4, 5, 7, 8, 30, 31] [.fix 0, .fix 1, .slot 7, .slot 8] [.fix 0, .fix 1, .slot 7, .slot 8] (deT n1 n2 K o1 o2 c1 c2 (dRow f) (dRow g)) = some ((.normal, stOf 44 [(4, .bool false), (5, vI ((0 : Int))), (7, SWb 2 (K)), (8, SWb 3 (K)), (30, vI (↑K)), (31, vI ((0 : Int)))] [.rows (o1) true 1 (n1) (iRow c1), .rows (o2) true 1 (n2) (iRow c2), .rows true true 2 (K) (dRow f), .rows true true 2 (K) (dRow g)])) := by kernel_rfl
theorem deR (n1 n2 K : Nat) (o1 o2 : Bool) (c1 c2 f g : Nat → Int) (i : Nat) : roundR ((Ch0 Try.prog).into 41 2) 60 (forBody (stmt 4 (deB Try.prog))) [4, 5, 7, 8, 30, 31] [4, 5] [.fix 0, .fix 1, .slot 7, .slot 8] [.fix 0, .fix 1] (deH n1 n2 K o1 o2 c1 c2 (dRow f) (dRow g) (i : Int)) = (match decide ((↑i : Int) < (↑K : Int)) with
  | true => gd (boundsI (↑i) K) (gd (boundsI (↑i) K) ((match !(f (Int.toNat ↑i) / (4503599627370496 : Int) == g (Int.toNat ↑i) / (4503599627370496 : Int) && (f (Int.toNat ↑i) % (4503599627370496 : Int) == g (Int.toNat ↑i) % (4503599627370496 : Int) && true)) with
  | true => some ((.ret, stOf 44 [(4, .bool false), (5, vI ((0 : Int)))] [.rows (o1) true 1 (n1) (iRow c1), .rows (o2) true 1 (n2) (iRow c2)]))
  | false => some ((.normal, stOf 44 [(4, .bool false), (5, vI ((0 : Int))), (7, SWb 2 (K)), (8, SWb 3 (K)), (30, vI (↑K)), (31, vI (W (↑i + (1 : Int))))] [.rows (o1) true 1 (n1) (iRow c1), .rows (o2) true 1 (n2) (iRow c2), .rows true true 2 (K) (dRow f), .rows true true 2 (K) (dRow g)])))))
  | false => some ((.exit 0, stOf 44 [(4, .bool false), (5, vI ((0 : Int)))] [.rows (o1) true 1 (n1) (iRow c1), .rows (o2) true 1 (n2) (iRow c2)]))) := by kernel_rfl
def deX (n1 n2 : Nat) (o1 o2 : Bool) (c1 c2 : Nat → Int) (t : Bool) (e : Int) : St := stOf 44 [(4, .bool t), (5, vI e)] [Ir o1 n1 c1, Ir o2 n2 c2]
theorem deEnd (n1 n2 : Nat) (o1 o2 : Bool) (c1 c2 : Nat → Int) : roundR ((Ch0 Try.prog).into 41 2) 60 (seqDrop 5 (deB Try.prog)) [4, 5] [4, 5] [.fix 0, .fix 1] [.fix 0, .fix 1] (deX n1 n2 o1 o2 c1 c2 false 0) = some ((.ret, stOf 44 [(4, .bool true), (5, vI ((0 : Int)))] [.rows (o1) true 1 (n1) (iRow c1), .rows (o2) true 1 (n2) (iRow c2)])) := by kernel_rfl
theorem es_eq : Try.f113.body = some (esB Try.prog) := by kernel_rfl
theorem esRet (n1 n2 : Nat) (o1 o2 : Bool) (c1 c2 : Nat → Int) (t : Bool) : (retA Try.prog Try.f113 (.ret, esX n1 n2 o1 o2 c1 c2 t)).res = some (.bool t, [Ir o1 n1 c1, Ir o2 n2 c2]) := by kernel_rfl
theorem esFor : isFor 0 (stmt 2 (esB Try.prog)) = true := by kernel_rfl
theorem esHas : hasStmt 1 (esB Try.prog) = true ∧ hasStmt 2 (esB Try.prog) = true := ⟨by kernel_rfl, by kernel_rfl⟩
theorem esIn : InBody ((Ch0 Try.prog).into 113 2) (forHead (stmt 2 (esB Try.prog))) ∧ InBody ((Ch0 Try.prog).into 113 2) (forBody (stmt 2 (esB Try.prog))) := for_in (C := Ch0 Try.prog) (f := 113) (B := 2) (id := 0) (k := 2) (fn := Try.f113) (b := esB Try.prog) Try.func113 es_eq esFor
/-- A scan for the first that differs tells whether all are alike. -/
theorem scan_all {n : Nat} {p : Nat → Bool} : (fst? p n 0 = none → ((List.range n).all fun i => !p i) = true) ∧ (∀ k, fst? p n 0 = some k → ((List.range n).all fun i => !p i) = false) := by
  refine ⟨fun h => ?_, fun k h => ?_⟩
  · have hall := fst?_none h
    exact List.all_eq_true.2 fun i hi => by
      have := hall i (by omega) (by simpa using hi)
      simpa using this
  · obtain ⟨_, a, b, _⟩ := fst?_some h
    cases hq : ((List.range n).all fun i => !p i) with
    | false => rfl
    | true =>
      have := List.all_eq_true.1 hq k (List.mem_range.2 (by omega))
      rw [b] at this
      cases this
theorem eqC_not (n : Nat) (c1 c2 : Nat → Int) : ((List.range n).all fun i => !(c1 i != c2 i)) = eqC n c1 c2 := by
  unfold eqC
  congr 1
  funext i
  simp [bne]
theorem esSem (n : Nat) (o1 o2 : Bool) (c1 c2 : Nat → Int) (hn : n ≤ 4611686018427387904) : MemSem Try.prog 113 [SI 0 n, SI 1 n] [Ir o1 n c1, Ir o2 n c2] (.bool (eqC n c1 c2)) [Ir o1 n c1, Ir o2 n c2] := by
  have body0 : InBody ((Ch0 Try.prog).into 113 2) (esB Try.prog) := Or.inl ⟨Try.f113, esB Try.prog, Try.func113, es_eq, fun _ hx => hx⟩
  have fin : ∀ t, CodeSem Try.prog 2 (seqDrop 1 (esB Try.prog)) (esS n n o1 o2 c1 c2) .ret (esX n n o1 o2 c1 c2 t) → MemSem Try.prog 113 [SI 0 n, SI 1 n] [Ir o1 n c1, Ir o2 n c2] (.bool t) [Ir o1 n c1, Ir o2 n c2] := fun t h =>
    body_mem (m := [Ir o1 n c1, Ir o2 n c2]) (args := [SI 0 n, SI 1 n]) (f := 113) Try.func113 es_eq (by kernel_rfl) (seg_rule (C := Ch0 Try.prog) okh0 (f := 113) (B := 2) (k := 1) body0 (esP0 n n o1 o2 c1 c2) h) (esRet n n o1 o2 c1 c2 t)
  have r1 := esP1 n n o1 o2 c1 c2
  rw [show ((n : Int) != (n : Int)) = false by simp] at r1
  have hs := scan_loop (C := Ch0 Try.prog) okh0 (f := 113) (B := 2) (m := 60) esIn.2 (n := n) (by omega) (esH n n o1 o2 c1 c2) (fun i => c1 i != c2 i) (fun _ => esX n n o1 o2 c1 c2 false) 0 (esX n n o1 o2 c1 c2 false) (fun i _ => by
    have r := esR n o1 o2 c1 c2 i
    rw [r]
    cases decide ((i : Int) < (n : Int)) with
    | false => rfl
    | true =>
      cases boundsI (i : Int) n with
      | false => rfl
      | true => rfl)
  have hh := end_rule (C := Ch0 Try.prog) okh0 (f := 113) (B := 2) esIn.1 (esHead n n o1 o2 c1 c2)
  have c1' := fun {e s} (h : CodeSem Try.prog 2 (seqDrop 2 (esB Try.prog)) (esS n n o1 o2 c1 c2) e s) => stmt_rule esHas.1 (end_rule' (C := Ch0 Try.prog) okh0 (f := 113) (B := 2) (stmt_in Try.func113 es_eq) r1) h
  have hsc := scan_all (n := n) (p := fun i => c1 i != c2 i)
  rw [eqC_not] at hsc
  cases hk : fst? (fun i => c1 i != c2 i) n 0 with
  | none =>
    rw [hsc.1 hk]
    exact fin true (c1' (stmt_rule esHas.2 (for_rule esFor hh (hs.2 hk)) (end_rule (C := Ch0 Try.prog) okh0 (f := 113) (B := 2) (bodyOf_in Try.func113 es_eq) (esEnd n n o1 o2 c1 c2))))
  | some k =>
    rw [hsc.2 k hk]
    exact fin false (c1' (stmt_out esHas.2 (for_ret esFor hh (hs.1 k hk)) (by simp)))
def esF : List Value → Mem → Option (Ans (Value × Mem))
  | [.slice (some ⟨0, 0, some 0⟩) N 1, .slice (some ⟨1, 0, some 0⟩) K 1], [.rows own true 1 N2 row, .rows own2 true 1 K2 row2] => some (.br (Nat.beq N N2 && (okIs N row && (Nat.beq K N && (Nat.beq K2 N && (okIs N row2 && decide (N ≤ 4611686018427387904)))))) (.out (.bool (eqC N (iOf row) (iOf row2)), [.rows own true 1 N row, .rows own2 true 1 N row2])) .fail)
  | _, _ => none
theorem esF_ok {args : List Value} {m : Mem} {ans : Ans (Value × Mem)} {v : Value} {m' : Mem} (h : esF args m = some ans) (hr : ans.res = some (v, m')) : MemSem Try.prog 113 args m v m' := by
  unfold esF at h
  split at h
  · rename_i N K own N2 row own2 K2 row2
    simp only [Option.some.injEq] at h
    subst h
    rcases Ans.br_some hr with ⟨hc, g⟩ | ⟨_, g⟩ <;> clear hr
    rotate_left
    · simp [Ans.res] at g
    simp only [Bool.and_eq_true, decide_eq_true_eq] at hc
    obtain ⟨c1, c2, c3, c4, c5, c6⟩ := hc
    have e1 := Nat.eq_of_beq_eq_true c1
    have e2 := Nat.eq_of_beq_eq_true c3
    have e3 := Nat.eq_of_beq_eq_true c4
    subst e1 e2 e3
    simp only [Ans.res, Option.some.injEq, Prod.mk.injEq] at g
    obtain ⟨rfl, rfl⟩ := g
    have l1 : LikeL [.rows own true 1 K2 row, .rows own2 true 1 K2 row2] [Ir own K2 (iOf row), Ir own2 K2 (iOf row2)] := ⟨.rows (is_like c2), .rows (is_like c5), trivial⟩
    exact (MemSem.like (esSem _ own own2 (iOf row) (iOf row2) c6) l1).likes ⟨.rows fun i hi => (is_like c2 i hi).symm, .rows fun i hi => (is_like c5 i hi).symm, trivial⟩
  · cases h
def Cr113 (P : Program) : Cx := (Ch0 P).addM 113 esF
theorem okr113 : CxOk (Cr113 Try.prog) := Cx.addM_ok okh0 fun _ _ _ _ _ h hr => esF_ok h hr
def Ch1 (P : Program) : Cx := (Cr113 P).lend 113
theorem okh1 : CxOk (Ch1 Try.prog) := Cx.lend_ok okr113 _
theorem eqNN (M1 M2 : Int) : exT ((Ch1 Try.prog).at 40) 60 Try.f40 [.agg #[vI M1, .slice none 0 0], .agg #[vI M2, .slice none 0 0]] [] [] = some ((.tuple #[.bool false, vI ((3 : Int))], [])) := by kernel_rfl
theorem eqNL (n2 : Nat) (o2 : Bool) (M1 M2 : Int) (c2 : Nat → Int) : exT ((Ch1 Try.prog).at 40) 60 Try.f40 [.agg #[vI M1, .slice none 0 0], .agg #[vI M2, SI 0 n2]] [Ir o2 n2 c2] [.fix 0] = gd (Nat.ble (0 + n2) n2 && true && true) (gd (Nat.beq n2 n2 && okIs n2 (shiftR 0 (iRow c2))) (some ((.tuple #[.bool false, vI ((3 : Int))], [.rows (o2) true 1 (n2) (iRow c2)])))) := by kernel_rfl
theorem eqLN (n2 : Nat) (o2 : Bool) (M1 M2 : Int) (c2 : Nat → Int) : exT ((Ch1 Try.prog).at 40) 60 Try.f40 [.agg #[vI M1, SI 0 n2], .agg #[vI M2, .slice none 0 0]] [Ir o2 n2 c2] [.fix 0] = gd (Nat.ble (0 + n2) n2 && true && true) (gd (Nat.beq n2 n2 && okIs n2 (shiftR 0 (iRow c2))) (some ((.tuple #[.bool false, vI ((3 : Int))], [.rows (o2) true 1 (n2) (iRow c2)])))) := by kernel_rfl
theorem eqLL (n1 n2 : Nat) (o1 o2 : Bool) (M1 M2 : Int) (c1 c2 : Nat → Int) : exT ((Ch1 Try.prog).at 40) 60 Try.f40 [.agg #[vI M1, SI 0 n1], .agg #[vI M2, SI 1 n2]] [Ir o1 n1 c1, Ir o2 n2 c2] [.fix 0, .fix 1] = gd (Nat.ble (0 + n1) n1 && true && (Nat.ble (0 + n2) n2 && true && true)) (gd (Nat.beq n1 n1 && (okIs n1 (shiftR 0 (iRow c1)) && (Nat.beq n2 n2 && okIs n2 (shiftR 0 (iRow c2))))) ((match frmB M1 n1 (iOf (shiftR 0 (iRow c1))) with
  | true => (match frmB M2 n2 (iOf (shiftR 0 (iRow c2))) with
  | true => gd (Nat.ble (0 + Int.toNat (mx M1 M2) / 3) (Int.toNat (mx M1 M2) / 3) && (Nat.ble (0 + Int.toNat (mx M1 M2) / 3) (Int.toNat (mx M1 M2) / 3) && true)) (gd (Nat.beq (Int.toNat (mx M1 M2) / 3) (Int.toNat (mx M1 M2) / 3) && (okIs (Int.toNat (mx M1 M2) / 3) (shiftR 0 (iRow (fineG (Int.toNat (mx M1 M2) / Int.toNat M1) (iOf (shiftR 0 (iRow c1)))))) && (Nat.beq (Int.toNat (mx M1 M2) / 3) (Int.toNat (mx M1 M2) / 3) && (Nat.beq (Int.toNat (mx M1 M2) / 3) (Int.toNat (mx M1 M2) / 3) && (okIs (Int.toNat (mx M1 M2) / 3) (shiftR 0 (iRow (fineG (Int.toNat (mx M1 M2) / Int.toNat M2) (iOf (shiftR 0 (iRow c2)))))) && decide (Int.toNat (mx M1 M2) / 3 ≤ 4611686018427387904)))))) (some ((.tuple #[.bool (eqC (Int.toNat (mx M1 M2) / 3) (iOf (shiftR 0 (iRow (fineG (Int.toNat (mx M1 M2) / Int.toNat M1) (iOf (shiftR 0 (iRow c1))))))) (iOf (shiftR 0 (iRow (fineG (Int.toNat (mx M1 M2) / Int.toNat M2) (iOf (shiftR 0 (iRow c2)))))))), vI ((0 : Int))], [.rows (o1) true 1 (n1) (iRow c1), .rows (o2) true 1 (n2) (iRow c2)]))))
  | false => some ((.tuple #[.bool false, vI ((3 : Int))], [.rows (o1) true 1 (n1) (iRow c1), .rows (o2) true 1 (n2) (iRow c2)])))
  | false => some ((.tuple #[.bool false, vI ((3 : Int))], [.rows (o1) true 1 (n1) (iRow c1), .rows (o2) true 1 (n2) (iRow c2)]))))) := by kernel_rfl
theorem deNN (M1 M2 : Int) : exT ((Ch1 Try.prog).at 41) 60 Try.f41 [.agg #[vI M1, .slice none 0 0], .agg #[vI M2, .slice none 0 0]] [] [] = some ((.tuple #[.bool false, vI ((3 : Int))], [])) := by kernel_rfl
theorem deNL (n2 : Nat) (o2 : Bool) (M1 M2 : Int) (c2 : Nat → Int) : exT ((Ch1 Try.prog).at 41) 60 Try.f41 [.agg #[vI M1, .slice none 0 0], .agg #[vI M2, SI 0 n2]] [Ir o2 n2 c2] [.fix 0] = some ((.tuple #[.bool false, vI ((3 : Int))], [.rows (o2) true 1 (n2) (iRow c2)])) := by kernel_rfl
theorem deLN (n2 : Nat) (o2 : Bool) (M1 M2 : Int) (c2 : Nat → Int) : exT ((Ch1 Try.prog).at 41) 60 Try.f41 [.agg #[vI M1, SI 0 n2], .agg #[vI M2, .slice none 0 0]] [Ir o2 n2 c2] [.fix 0] = gd (Nat.ble (0 + n2) n2 && true && true) (gd (Nat.beq n2 n2 && okIs n2 (shiftR 0 (iRow c2))) ((match !frmB M1 n2 (iOf (shiftR 0 (iRow c2))) with
  | true => some ((.tuple #[.bool false, vI ((3 : Int))], [.rows (o2) true 1 (n2) (iRow c2)]))
  | false => some ((.tuple #[.bool false, vI ((3 : Int))], [.rows (o2) true 1 (n2) (iRow c2)]))))) := by kernel_rfl
theorem dfL (n : Nat) (o : Bool) (M m : Int) (c : Nat → Int) : exT ((Ch0 Try.prog).at 43) 60 Try.f43 [.agg #[vI M, SI 0 n], vI m] [Ir o n c] [.fix 0, .cell 2 1] = (match !fineB m with
  | true => some ((.tuple #[.agg #[vI ((0 : Int)), .slice none 0 0], vI ((1 : Int))], [.rows (o) true 1 (n) (iRow c), .no]))
  | false => gd (Nat.ble (0 + n) n && true && true) (gd (Nat.beq n n && okIs n (shiftR 0 (iRow c))) ((match frmB M n (iOf (shiftR 0 (iRow c))) with
  | true => gn (M == (0 : Int)) ((match Int.tmod m M != (0 : Int) with
  | true => some ((.tuple #[.agg #[vI ((0 : Int)), .slice none 0 0], vI ((1 : Int))], [.rows (o) true 1 (n) (iRow c), .no]))
  | false => gd (Nat.ble (0 + n) n && true && true) (gd (Nat.beq n n && okIs n (shiftR 0 (iRow c))) ((match !frmB M n (iOf (shiftR 0 (iRow c))) with
  | true => some ((.tuple #[.agg #[vI ((0 : Int)), .slice none 0 0], vI ((3 : Int))], [.rows (o) true 1 (n) (iRow c), .no]))
  | false => gd (Nat.ble (0 + n) n && true && true) (gd (Nat.ble (0 + n) n && true && true) (gd (Nat.ble (0 + n) n && true && true) (gd (Nat.beq n n && (okIs n (shiftR 0 (shiftR 0 (shiftR 0 (iRow c)))) && (fineB m && (frmB M n (iOf (shiftR 0 (shiftR 0 (shiftR 0 (iRow c))))) && m % M == (0 : Int))))) (gd (Nat.ble (0 + Int.toNat m) (Int.toNat m) && true) (gd (Nat.ble (0 + Int.toNat m) (Int.toNat m) && true) (gd (fineB m && (Nat.beq (Int.toNat m) (Int.toNat m) && (okLs (Int.toNat m) (shiftR 0 (shiftR 0 (dRow (fineP (Int.toNat m / Int.toNat M) (iOf (shiftR 0 (shiftR 0 (shiftR 0 (iRow c))))) n)))) && decide (↑(Int.toNat m) ≤ m)))) ((match allR (Int.toNat m / 3) (cofE (Int.toNat m / 6) (Int.toNat m) (cut (Int.toNat m) (lOf (Int.toNat m) (shiftR 0 (shiftR 0 (dRow (fineP (Int.toNat m / Int.toNat M) (iOf (shiftR 0 (shiftR 0 (shiftR 0 (iRow c))))) n))))))) with
  | true => some ((.tuple #[.agg #[vI (m), SI 1 (Int.toNat m / 3)], vI ((0 : Int))], [.rows (o) true 1 (n) (iRow c), .rows true true 1 (Int.toNat m / 3) (iRow (cofE (Int.toNat m / 6) (Int.toNat m) (cut (Int.toNat m) (lOf (Int.toNat m) (shiftR 0 (shiftR 0 (dRow (fineP (Int.toNat m / Int.toNat M) (iOf (shiftR 0 (shiftR 0 (shiftR 0 (iRow c))))) n))))))))]))
  | false => some ((.tuple #[.agg #[vI ((0 : Int)), .slice none 0 0], vI ((4 : Int))], [.rows (o) true 1 (n) (iRow c), .no])))))))))))))))
  | false => gd (Nat.ble (0 + n) n && true && true) (gd (Nat.beq n n && okIs n (shiftR 0 (iRow c))) ((match !frmB M n (iOf (shiftR 0 (iRow c))) with
  | true => some ((.tuple #[.agg #[vI ((0 : Int)), .slice none 0 0], vI ((3 : Int))], [.rows (o) true 1 (n) (iRow c), .no]))
  | false => gd (Nat.ble (0 + n) n && true && true) (gd (Nat.ble (0 + n) n && true && true) (gd (Nat.ble (0 + n) n && true && true) (gd (Nat.beq n n && (okIs n (shiftR 0 (shiftR 0 (shiftR 0 (iRow c)))) && (fineB m && (frmB M n (iOf (shiftR 0 (shiftR 0 (shiftR 0 (iRow c))))) && m % M == (0 : Int))))) (gd (Nat.ble (0 + Int.toNat m) (Int.toNat m) && true) (gd (Nat.ble (0 + Int.toNat m) (Int.toNat m) && true) (gd (fineB m && (Nat.beq (Int.toNat m) (Int.toNat m) && (okLs (Int.toNat m) (shiftR 0 (shiftR 0 (dRow (fineP (Int.toNat m / Int.toNat M) (iOf (shiftR 0 (shiftR 0 (shiftR 0 (iRow c))))) n)))) && decide (↑(Int.toNat m) ≤ m)))) ((match allR (Int.toNat m / 3) (cofE (Int.toNat m / 6) (Int.toNat m) (cut (Int.toNat m) (lOf (Int.toNat m) (shiftR 0 (shiftR 0 (dRow (fineP (Int.toNat m / Int.toNat M) (iOf (shiftR 0 (shiftR 0 (shiftR 0 (iRow c))))) n))))))) with
  | true => some ((.tuple #[.agg #[vI (m), SI 1 (Int.toNat m / 3)], vI ((0 : Int))], [.rows (o) true 1 (n) (iRow c), .rows true true 1 (Int.toNat m / 3) (iRow (cofE (Int.toNat m / 6) (Int.toNat m) (cut (Int.toNat m) (lOf (Int.toNat m) (shiftR 0 (shiftR 0 (dRow (fineP (Int.toNat m / Int.toNat M) (iOf (shiftR 0 (shiftR 0 (shiftR 0 (iRow c))))) n))))))))]))
  | false => some ((.tuple #[.agg #[vI ((0 : Int)), .slice none 0 0], vI ((4 : Int))], [.rows (o) true 1 (n) (iRow c), .no]))))))))))))))))) := by kernel_rfl
theorem dfE (n : Nat) (o : Bool) (M m : Int) (c : Nat → Int) : exT ((Ch0 Try.prog).at 43) 60 Try.f43 [.agg #[vI M, SI 0 n], vI m] [Ir o n c] [.fix 0] = (match !fineB m with
  | true => some ((.tuple #[.agg #[vI ((0 : Int)), .slice none 0 0], vI ((1 : Int))], [.rows (o) true 1 (n) (iRow c)]))
  | false => gd (Nat.ble (0 + n) n && true && true) (gd (Nat.beq n n && okIs n (shiftR 0 (iRow c))) ((match frmB M n (iOf (shiftR 0 (iRow c))) with
  | true => gn (M == (0 : Int)) ((match Int.tmod m M != (0 : Int) with
  | true => some ((.tuple #[.agg #[vI ((0 : Int)), .slice none 0 0], vI ((1 : Int))], [.rows (o) true 1 (n) (iRow c)]))
  | false => gd (Nat.ble (0 + n) n && true && true) (gd (Nat.beq n n && okIs n (shiftR 0 (iRow c))) ((match !frmB M n (iOf (shiftR 0 (iRow c))) with
  | true => some ((.tuple #[.agg #[vI ((0 : Int)), .slice none 0 0], vI ((3 : Int))], [.rows (o) true 1 (n) (iRow c)]))
  | false => gd (Nat.ble (0 + n) n && true && true) (gd (Nat.ble (0 + n) n && true && true) (gd (Nat.ble (0 + n) n && true && true) (gd (Nat.beq n n && (okIs n (shiftR 0 (shiftR 0 (shiftR 0 (iRow c)))) && (fineB m && (frmB M n (iOf (shiftR 0 (shiftR 0 (shiftR 0 (iRow c))))) && m % M == (0 : Int))))) (gd (Nat.ble (0 + Int.toNat m) (Int.toNat m) && true) (gd (Nat.ble (0 + Int.toNat m) (Int.toNat m) && true) (gd (fineB m && (Nat.beq (Int.toNat m) (Int.toNat m) && (okLs (Int.toNat m) (shiftR 0 (shiftR 0 (dRow (fineP (Int.toNat m / Int.toNat M) (iOf (shiftR 0 (shiftR 0 (shiftR 0 (iRow c))))) n)))) && decide (↑(Int.toNat m) ≤ m)))) ((match allR (Int.toNat m / 3) (cofE (Int.toNat m / 6) (Int.toNat m) (cut (Int.toNat m) (lOf (Int.toNat m) (shiftR 0 (shiftR 0 (dRow (fineP (Int.toNat m / Int.toNat M) (iOf (shiftR 0 (shiftR 0 (shiftR 0 (iRow c))))) n))))))) with
  | true => some ((.tuple #[.agg #[vI (m), unk], vI ((0 : Int))], [.rows (o) true 1 (n) (iRow c)]))
  | false => some ((.tuple #[.agg #[vI ((0 : Int)), .slice none 0 0], vI ((4 : Int))], [.rows (o) true 1 (n) (iRow c)])))))))))))))))
  | false => gd (Nat.ble (0 + n) n && true && true) (gd (Nat.beq n n && okIs n (shiftR 0 (iRow c))) ((match !frmB M n (iOf (shiftR 0 (iRow c))) with
  | true => some ((.tuple #[.agg #[vI ((0 : Int)), .slice none 0 0], vI ((3 : Int))], [.rows (o) true 1 (n) (iRow c)]))
  | false => gd (Nat.ble (0 + n) n && true && true) (gd (Nat.ble (0 + n) n && true && true) (gd (Nat.ble (0 + n) n && true && true) (gd (Nat.beq n n && (okIs n (shiftR 0 (shiftR 0 (shiftR 0 (iRow c)))) && (fineB m && (frmB M n (iOf (shiftR 0 (shiftR 0 (shiftR 0 (iRow c))))) && m % M == (0 : Int))))) (gd (Nat.ble (0 + Int.toNat m) (Int.toNat m) && true) (gd (Nat.ble (0 + Int.toNat m) (Int.toNat m) && true) (gd (fineB m && (Nat.beq (Int.toNat m) (Int.toNat m) && (okLs (Int.toNat m) (shiftR 0 (shiftR 0 (dRow (fineP (Int.toNat m / Int.toNat M) (iOf (shiftR 0 (shiftR 0 (shiftR 0 (iRow c))))) n)))) && decide (↑(Int.toNat m) ≤ m)))) ((match allR (Int.toNat m / 3) (cofE (Int.toNat m / 6) (Int.toNat m) (cut (Int.toNat m) (lOf (Int.toNat m) (shiftR 0 (shiftR 0 (dRow (fineP (Int.toNat m / Int.toNat M) (iOf (shiftR 0 (shiftR 0 (shiftR 0 (iRow c))))) n))))))) with
  | true => some ((.tuple #[.agg #[vI (m), unk], vI ((0 : Int))], [.rows (o) true 1 (n) (iRow c)]))
  | false => some ((.tuple #[.agg #[vI ((0 : Int)), .slice none 0 0], vI ((4 : Int))], [.rows (o) true 1 (n) (iRow c)]))))))))))))))))) := by kernel_rfl
theorem dfN (M m : Int) : exT ((Ch0 Try.prog).at 43) 60 Try.f43 [.agg #[vI M, .slice none 0 0], vI m] [] [] = (match !fineB m with
  | true => some ((.tuple #[.agg #[vI ((0 : Int)), .slice none 0 0], vI ((1 : Int))], []))
  | false => some ((.tuple #[.agg #[vI ((0 : Int)), .slice none 0 0], vI ((3 : Int))], []))) := by kernel_rfl
end Go.Proofs.Ytjhijkdicmbbiaa
