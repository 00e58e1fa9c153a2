/-
  RingOnes by pieces. Nothing here is trusted.
-/
import Derived.Test.YtjhijkdicmbbiaaHTRh7
namespace Go.Proofs.Ytjhijkdicmbbiaa
open Go Vx Go.RowKit
def onB (P : Program) : Code := bodyOf P 5
theorem on_eq : Try.f5.body = some (onB Try.prog) := by kernel_rfl
def onZ (m : Mem) (b : Nat) : St := stOf 109 [(7, pt b), (8, .bool false)] m
def CoA (P : Program) : Cx := ((((Cg6 P).makes 32 [false]).makes 33 [false]).makes 34 [true, false]).makes 35 [true, false]
theorem okCoA : CxOk (CoA Try.prog) := (Cx.makes_ok (Cx.makes_ok (Cx.makes_ok (Cx.makes_ok okCg6 _ _) _ _) _ _) _ _)
theorem onAN (j m n M : Int) : segR ((CoA Try.prog).into 5 0) 60 6 (onB Try.prog) [7, 8] [.slot 7] (enter Try.f5 [vI j, vI m, vI n, .agg #[vI M, .slice none 0 0]] []) = gn (fineB m) (gn (fineB m) (gd (i64B n) (gn (fineB m) (gd (i64B n) (gn (fineB m) (some (stOf 109 [(7, pt 0), (8, .bool false)] [.cells true 0 [vI (M), .slice none 0 0]]))))))) := by kernel_rfl
theorem onAL (j m n M : Int) (N : Nat) (o : Bool) (c : Nat → Int) : segR ((CoA Try.prog).into 5 1) 60 6 (onB Try.prog) [7, 8] [.fix 0, .slot 7] (enter Try.f5 [vI j, vI m, vI n, .agg #[vI M, SI 0 N]] [Ir o N c]) = gn (fineB m) (gn (fineB m) (gd (i64B n) (gn (fineB m) (gd (i64B n) (gn (fineB m) (some (stOf 109 [(7, pt 1), (8, .bool false)] [.rows (o) true 1 (N) (iRow c), .cells true 0 [vI (M), SI 0 (N)]]))))))) := by kernel_rfl
def CoB (P : Program) : Cx := ((((Cg6 P).makes 32 [true]).makes 33 [true]).makes 34 [true, true, false]).makes 35 [true, true, false]
theorem okCoB : CxOk (CoB Try.prog) := (Cx.makes_ok (Cx.makes_ok (Cx.makes_ok (Cx.makes_ok okCg6 _ _) _ _) _ _) _ _)
theorem onBN (j m n M : Int) : segR ((CoB Try.prog).into 5 0) 60 6 (onB Try.prog) [7, 8] [.slot 7] (enter Try.f5 [vI j, vI m, vI n, .agg #[vI M, .slice none 0 0]] []) = gd (fineB m) (gd (fineB m) (gd (i64B n) (gd (fineB m) (gn (inRg n) (gd (i64B n) (gd (fineB m) (gn (inRg n) (gd (Nat.ble (0 + Int.toNat m / 3) (Int.toNat m / 3) && true && (Nat.ble (0 + Int.toNat m / 3) (Int.toNat m / 3) && true && true)) (gd (Nat.beq (Int.toNat m / 3) (Int.toNat m / 3) && (okIs (Int.toNat m / 3) (shiftR 0 (iRow (rootC j m))) && (Nat.beq (Int.toNat m / 3) (Int.toNat m / 3) && (okIs (Int.toNat m / 3) (shiftR 0 (iRow (rootC j m))) && decide (Int.toNat m / 3 ≤ 4611686018427387904))))) (gn (!smV m m (Int.toNat m / 3) (Int.toNat m / 3) (iOf (shiftR 0 (iRow (rootC j m)))) (iOf (shiftR 0 (iRow (rootC j m))))) (some (stOf 109 [(7, pt 0), (8, .bool false)] [.cells true 0 [vI (M), .slice none 0 0]])))))))))))) := by kernel_rfl
theorem onBL (j m n M : Int) (N : Nat) (o : Bool) (c : Nat → Int) : segR ((CoB Try.prog).into 5 1) 60 6 (onB Try.prog) [7, 8] [.fix 0, .slot 7] (enter Try.f5 [vI j, vI m, vI n, .agg #[vI M, SI 0 N]] [Ir o N c]) = gd (fineB m) (gd (fineB m) (gd (i64B n) (gd (fineB m) (gn (inRg n) (gd (i64B n) (gd (fineB m) (gn (inRg n) (gd (Nat.ble (0 + Int.toNat m / 3) (Int.toNat m / 3) && true && (Nat.ble (0 + Int.toNat m / 3) (Int.toNat m / 3) && true && true)) (gd (Nat.beq (Int.toNat m / 3) (Int.toNat m / 3) && (okIs (Int.toNat m / 3) (shiftR 0 (iRow (rootC j m))) && (Nat.beq (Int.toNat m / 3) (Int.toNat m / 3) && (okIs (Int.toNat m / 3) (shiftR 0 (iRow (rootC j m))) && decide (Int.toNat m / 3 ≤ 4611686018427387904))))) (gn (!smV m m (Int.toNat m / 3) (Int.toNat m / 3) (iOf (shiftR 0 (iRow (rootC j m)))) (iOf (shiftR 0 (iRow (rootC j m))))) (some (stOf 109 [(7, pt 1), (8, .bool false)] [.rows (o) true 1 (N) (iRow c), .cells true 0 [vI (M), SI 0 (N)]])))))))))))) := by kernel_rfl
def CoC (P : Program) : Cx := ((((Cg6 P).makes 32 [true]).makes 33 [true]).makes 34 [true, true, true]).makes 35 [true, true, true]
theorem okCoC : CxOk (CoC Try.prog) := (Cx.makes_ok (Cx.makes_ok (Cx.makes_ok (Cx.makes_ok okCg6 _ _) _ _) _ _) _ _)
theorem onCN (j m n M : Int) : segR ((CoC Try.prog).into 5 0) 60 6 (onB Try.prog) [7, 8] [.slot 7] (enter Try.f5 [vI j, vI m, vI n, .agg #[vI M, .slice none 0 0]] []) = gd (fineB m) (gd (fineB m) (gd (i64B n) (gd (fineB m) (gd (inRg n) (gd (i64B n) (gd (fineB m) (gd (inRg n) (gd (Nat.ble (0 + Int.toNat m / 3) (Int.toNat m / 3) && true && (Nat.ble (0 + Int.toNat m / 3) (Int.toNat m / 3) && true && true)) (gd (Nat.beq (Int.toNat m / 3) (Int.toNat m / 3) && (okIs (Int.toNat m / 3) (shiftR 0 (iRow (rootC j m))) && (Nat.beq (Int.toNat m / 3) (Int.toNat m / 3) && (okIs (Int.toNat m / 3) (shiftR 0 (iRow (rootC j m))) && decide (Int.toNat m / 3 ≤ 4611686018427387904))))) (gn (!smV m m (Int.toNat m / 3) (Int.toNat m / 3) (iOf (shiftR 0 (iRow (rootC j m)))) (iOf (shiftR 0 (iRow (rootC j m))))) (gd (Nat.ble (0 + Int.toNat m / 3) (Int.toNat m / 3) && true && (Nat.ble (0 + Int.toNat m / 3) (Int.toNat m / 3) && true && true)) (gd (Nat.beq (Int.toNat m / 3) (Int.toNat m / 3) && (okIs (Int.toNat m / 3) (shiftR 0 (iRow (unG 0 n))) && (Nat.beq (Int.toNat m / 3) (Int.toNat m / 3) && (okIs (Int.toNat m / 3) (shiftR 0 (iRow (unG 0 n))) && decide (Int.toNat m / 3 ≤ 4611686018427387904))))) (gn (!smV m m (Int.toNat m / 3) (Int.toNat m / 3) (iOf (shiftR 0 (iRow (unG 0 n)))) (iOf (shiftR 0 (iRow (unG 0 n))))) (some (stOf 109 [(7, pt 0), (8, .bool false)] [.cells true 0 [vI (M), .slice none 0 0]]))))))))))))))) := by kernel_rfl
theorem onCL (j m n M : Int) (N : Nat) (o : Bool) (c : Nat → Int) : segR ((CoC Try.prog).into 5 1) 60 6 (onB Try.prog) [7, 8] [.fix 0, .slot 7] (enter Try.f5 [vI j, vI m, vI n, .agg #[vI M, SI 0 N]] [Ir o N c]) = gd (fineB m) (gd (fineB m) (gd (i64B n) (gd (fineB m) (gd (inRg n) (gd (i64B n) (gd (fineB m) (gd (inRg n) (gd (Nat.ble (0 + Int.toNat m / 3) (Int.toNat m / 3) && true && (Nat.ble (0 + Int.toNat m / 3) (Int.toNat m / 3) && true && true)) (gd (Nat.beq (Int.toNat m / 3) (Int.toNat m / 3) && (okIs (Int.toNat m / 3) (shiftR 0 (iRow (rootC j m))) && (Nat.beq (Int.toNat m / 3) (Int.toNat m / 3) && (okIs (Int.toNat m / 3) (shiftR 0 (iRow (rootC j m))) && decide (Int.toNat m / 3 ≤ 4611686018427387904))))) (gn (!smV m m (Int.toNat m / 3) (Int.toNat m / 3) (iOf (shiftR 0 (iRow (rootC j m)))) (iOf (shiftR 0 (iRow (rootC j m))))) (gd (Nat.ble (0 + Int.toNat m / 3) (Int.toNat m / 3) && true && (Nat.ble (0 + Int.toNat m / 3) (Int.toNat m / 3) && true && true)) (gd (Nat.beq (Int.toNat m / 3) (Int.toNat m / 3) && (okIs (Int.toNat m / 3) (shiftR 0 (iRow (unG 0 n))) && (Nat.beq (Int.toNat m / 3) (Int.toNat m / 3) && (okIs (Int.toNat m / 3) (shiftR 0 (iRow (unG 0 n))) && decide (Int.toNat m / 3 ≤ 4611686018427387904))))) (gn (!smV m m (Int.toNat m / 3) (Int.toNat m / 3) (iOf (shiftR 0 (iRow (unG 0 n)))) (iOf (shiftR 0 (iRow (unG 0 n))))) (some (stOf 109 [(7, pt 1), (8, .bool false)] [.rows (o) true 1 (N) (iRow c), .cells true 0 [vI (M), SI 0 (N)]]))))))))))))))) := by kernel_rfl
def CoD (P : Program) : Cx := (((((Cg6 P).makes 23 []).makes 36 []).makes 37 []).makes 38 []).makes 39 []
theorem okCoD : CxOk (CoD Try.prog) := (Cx.makes_ok (Cx.makes_ok (Cx.makes_ok (Cx.makes_ok (Cx.makes_ok okCg6 _ _) _ _) _ _) _ _) _ _)
theorem onDN (M : Int) : roundR ((CoD Try.prog).into 5 0) 60 (seqDrop 6 (onB Try.prog)) [8] [8] [] [] (onZ [.cells true 0 [vI M, .slice none 0 0]] 0) = some ((.ret, stOf 109 [(8, .bool true)] [])) := by kernel_rfl
theorem onD0 (M : Int) (o : Bool) (c : Nat → Int) : roundR ((CoD Try.prog).into 5 1) 60 (seqDrop 6 (onB Try.prog)) [8] [8] [.fix 0] [.fix 0] (onZ [Ir o 0 c, .cells true 0 [vI M, SI 0 0]] 1) = (match frmB M 0 (iOf (shiftR 0 (shiftR 0 (iRow c)))) with
  | true => (match allR (Int.toNat M / 3) (Rin.conjE (Int.toNat M / 6) (iOf (shiftR 0 (shiftR 0 (iRow c))))) with
  | true => (match frmB M 0 (iOf (shiftR 0 (shiftR 0 (iRow c)))) with
  | true => (match (0 : Int) != M with
  | true => some ((.ret, stOf 109 [(8, .bool false)] [.rows (o) true 1 0 (iRow c)]))
  | false => (match (0 : Int) != ↑(Int.toNat M / 3) with
  | true => some ((.ret, stOf 109 [(8, .bool false)] [.rows (o) true 1 0 (iRow c)]))
  | false => some ((.ret, stOf 109 [(8, .bool false)] [.rows (o) true 1 0 (iRow c)]))))
  | false => (match (0 : Int) != M with
  | true => some ((.ret, stOf 109 [(8, .bool false)] [.rows (o) true 1 0 (iRow c)]))
  | false => (match (0 : Int) != ↑(Int.toNat M / 3) with
  | true => some ((.ret, stOf 109 [(8, .bool false)] [.rows (o) true 1 0 (iRow c)]))
  | false => some ((.ret, stOf 109 [(8, .bool false)] [.rows (o) true 1 0 (iRow c)])))))
  | false => (match frmB M 0 (iOf (shiftR 0 (shiftR 0 (iRow c)))) with
  | true => some ((.ret, stOf 109 [(8, .bool false)] [.rows (o) true 1 0 (iRow c)]))
  | false => some ((.ret, stOf 109 [(8, .bool false)] [.rows (o) true 1 0 (iRow c)]))))
  | false => (match frmB M 0 (iOf (shiftR 0 (shiftR 0 (iRow c)))) with
  | true => (match (0 : Int) != M with
  | true => some ((.ret, stOf 109 [(8, .bool false)] [.rows (o) true 1 0 (iRow c)]))
  | false => (match (0 : Int) != ↑(Int.toNat M / 3) with
  | true => some ((.ret, stOf 109 [(8, .bool false)] [.rows (o) true 1 0 (iRow c)]))
  | false => some ((.ret, stOf 109 [(8, .bool false)] [.rows (o) true 1 0 (iRow c)]))))
  | false => some ((.ret, stOf 109 [(8, .bool true)] [.rows (o) true 1 0 (iRow c)])))) := by kernel_rfl
def CoE (P : Program) : Cx := (((((Cg6 P).makes 23 []).makes 36 [true, true, false]).makes 37 [true, true, false]).makes 38 [true, true, false]).makes 39 [true, true, false]
theorem okCoE : CxOk (CoE Try.prog) := (Cx.makes_ok (Cx.makes_ok (Cx.makes_ok (Cx.makes_ok (Cx.makes_ok okCg6 _ _) _ _) _ _) _ _) _ _)
theorem onEL (M : Int) (k : Nat) (o : Bool) (c : Nat → Int) : roundR ((CoE Try.prog).into 5 1) 60 (seqDrop 6 (onB Try.prog)) [8] [8] [.fix 0] [.fix 0] (onZ [Ir o (k + 1) c, .cells true 0 [vI M, SI 0 (k + 1)]] 1) = gd (Nat.ble (0 + (k + 1)) (k + 1) && true && true) (gd (Nat.ble (0 + (k + 1)) (k + 1) && true && true) (gd (Nat.beq (k + 1) (k + 1) && okIs (k + 1) (shiftR 0 (shiftR 0 (iRow c)))) (gd (decide ((k + 1) * 8 ≤ 140737488355328) && decide (k + 1 ≤ 4611686018427387904)) (gd (Nat.ble (0 + (k + 1)) (k + 1) && true && true) (gd (Nat.ble (0 + (k + 1)) (k + 1) && true && true) (gd (true && (Nat.beq (k + 1) (k + 1) && okIs (k + 1) (shiftR 0 (shiftR 0 (iRow (iOf (shiftR 0 (shiftR 0 (iRow c))))))))) (gn (frmB M (k + 1) (iOf (shiftR 0 (shiftR 0 (iRow (iOf (shiftR 0 (shiftR 0 (iRow c))))))))) (gd (Nat.ble (0 + (k + 1)) (k + 1) && true && true) (gd (Nat.ble (0 + (k + 1)) (k + 1) && true && true) (gd (true && (Nat.beq (k + 1) (k + 1) && okIs (k + 1) (shiftR 0 (shiftR 0 (iRow c))))) (gn (frmB M (k + 1) (iOf (shiftR 0 (shiftR 0 (iRow c))))) (gd (Nat.ble (0 + (k + 1)) (k + 1) && true && true) (gd (Nat.ble (0 + (k + 1)) (k + 1) && true && true) (gd (Nat.beq (k + 1) (k + 1) && okIs (k + 1) (shiftR 0 (shiftR 0 (iRow c)))) (gd (decide ((k + 1) * 8 ≤ 140737488355328) && decide (k + 1 ≤ 4611686018427387904)) (gd (Nat.ble (0 + (k + 1)) (k + 1) && true && true) (gd (Nat.ble (0 + (k + 1)) (k + 1) && true && true) (gd (Nat.beq (k + 1) (k + 1) && okIs (k + 1) (shiftR 0 (shiftR 0 (iRow (iOf (shiftR 0 (shiftR 0 (iRow c)))))))) (gn (frmB M (k + 1) (iOf (shiftR 0 (shiftR 0 (iRow (iOf (shiftR 0 (shiftR 0 (iRow c))))))))) (gd (Nat.ble (0 + (k + 1)) (k + 1) && true && true) (gd (Nat.ble (0 + (k + 1)) (k + 1) && true && true) (gd (true && (Nat.beq (k + 1) (k + 1) && okIs (k + 1) (shiftR 0 (shiftR 0 (iRow c))))) (gn (frmB M (k + 1) (iOf (shiftR 0 (shiftR 0 (iRow c))))) (some ((.ret, stOf 109 [(8, .bool true)] [.rows (o) true 1 (k + 1) (iRow c)])))))))))))))))))))))))))) := by kernel_rfl
def CoF (P : Program) : Cx := (((((Cg6 P).makes 23 []).makes 36 [true, true, true, false]).makes 37 [true, true, true, false]).makes 38 [true, true, true]).makes 39 [true, true, true]
theorem okCoF : CxOk (CoF Try.prog) := (Cx.makes_ok (Cx.makes_ok (Cx.makes_ok (Cx.makes_ok (Cx.makes_ok okCg6 _ _) _ _) _ _) _ _) _ _)
theorem onFL (M : Int) (k : Nat) (o : Bool) (c : Nat → Int) : roundR ((CoF Try.prog).into 5 1) 60 (seqDrop 6 (onB Try.prog)) [8] [8] [.fix 0] [.fix 0] (onZ [Ir o (k + 1) c, .cells true 0 [vI M, SI 0 (k + 1)]] 1) = gd (Nat.ble (0 + (k + 1)) (k + 1) && true && true) (gd (Nat.ble (0 + (k + 1)) (k + 1) && true && true) (gd (Nat.beq (k + 1) (k + 1) && okIs (k + 1) (shiftR 0 (shiftR 0 (iRow c)))) (gd (decide ((k + 1) * 8 ≤ 140737488355328) && decide (k + 1 ≤ 4611686018427387904)) (gd (Nat.ble (0 + (k + 1)) (k + 1) && true && true) (gd (Nat.ble (0 + (k + 1)) (k + 1) && true && true) (gd (true && (Nat.beq (k + 1) (k + 1) && okIs (k + 1) (shiftR 0 (shiftR 0 (iRow (iOf (shiftR 0 (shiftR 0 (iRow c))))))))) (gd (frmB M (k + 1) (iOf (shiftR 0 (shiftR 0 (iRow (iOf (shiftR 0 (shiftR 0 (iRow c))))))))) (gn (allR (Int.toNat M / 3) (Rin.conjE (Int.toNat M / 6) (iOf (shiftR 0 (shiftR 0 (iRow (iOf (shiftR 0 (shiftR 0 (iRow c)))))))))) (gd (Nat.ble (0 + (k + 1)) (k + 1) && true && true) (gd (Nat.ble (0 + (k + 1)) (k + 1) && true && true) (gd (true && (Nat.beq (k + 1) (k + 1) && okIs (k + 1) (shiftR 0 (shiftR 0 (iRow c))))) (gd (frmB M (k + 1) (iOf (shiftR 0 (shiftR 0 (iRow c))))) (gn (allR (Int.toNat M / 3) (Rin.conjE (Int.toNat M / 6) (iOf (shiftR 0 (shiftR 0 (iRow c)))))) (gd (Nat.ble (0 + (k + 1)) (k + 1) && true && true) (gd (Nat.ble (0 + (k + 1)) (k + 1) && true && true) (gd (Nat.beq (k + 1) (k + 1) && okIs (k + 1) (shiftR 0 (shiftR 0 (iRow c)))) (gd (decide ((k + 1) * 8 ≤ 140737488355328) && decide (k + 1 ≤ 4611686018427387904)) (gd (Nat.ble (0 + (k + 1)) (k + 1) && true && true) (gd (Nat.ble (0 + (k + 1)) (k + 1) && true && true) (gd (Nat.beq (k + 1) (k + 1) && okIs (k + 1) (shiftR 0 (shiftR 0 (iRow (iOf (shiftR 0 (shiftR 0 (iRow c)))))))) (gd (frmB M (k + 1) (iOf (shiftR 0 (shiftR 0 (iRow (iOf (shiftR 0 (shiftR 0 (iRow c))))))))) (gd (Nat.ble (0 + (k + 1)) (k + 1) && true && true) (gd (Nat.ble (0 + (k + 1)) (k + 1) && true && true) (gd (true && (Nat.beq (k + 1) (k + 1) && okIs (k + 1) (shiftR 0 (shiftR 0 (iRow c))))) (gd (frmB M (k + 1) (iOf (shiftR 0 (shiftR 0 (iRow c))))) (gd (Nat.ble (0 + Int.toNat M / 3) (Int.toNat M / 3) && true && (Nat.ble (0 + Int.toNat M / 3) (Int.toNat M / 3) && true && true)) (gd (Nat.beq (Int.toNat M / 3) (Int.toNat M / 3) && (okIs (Int.toNat M / 3) (shiftR 0 (iRow (timesC (-1 : Int) (iOf (shiftR 0 (shiftR 0 (iRow (iOf (shiftR 0 (shiftR 0 (iRow c))))))))))) && (Nat.beq (Int.toNat M / 3) (Int.toNat M / 3) && (okIs (Int.toNat M / 3) (shiftR 0 (iRow (timesC (-1 : Int) (iOf (shiftR 0 (shiftR 0 (iRow c))))))) && decide (Int.toNat M / 3 ≤ 4611686018427387904))))) ((match smV M M (Int.toNat M / 3) (Int.toNat M / 3) (iOf (shiftR 0 (iRow (timesC (-1 : Int) (iOf (shiftR 0 (shiftR 0 (iRow (iOf (shiftR 0 (shiftR 0 (iRow c)))))))))))) (iOf (shiftR 0 (iRow (timesC (-1 : Int) (iOf (shiftR 0 (shiftR 0 (iRow c)))))))) with
  | true => some ((.ret, stOf 109 [(8, .bool true)] [.rows (o) true 1 (k + 1) (iRow c)]))
  | false => some ((.ret, stOf 109 [(8, .bool false)] [.rows (o) true 1 (k + 1) (iRow c)]))))))))))))))))))))))))))))))) := by kernel_rfl
def CoG (P : Program) : Cx := (((((Cg6 P).makes 23 []).makes 36 [true, true, true, true]).makes 37 [true, true, true, true]).makes 38 [true, true, true]).makes 39 [true, true, true]
theorem okCoG : CxOk (CoG Try.prog) := (Cx.makes_ok (Cx.makes_ok (Cx.makes_ok (Cx.makes_ok (Cx.makes_ok okCg6 _ _) _ _) _ _) _ _) _ _)
theorem onGL (M : Int) (k : Nat) (o : Bool) (c : Nat → Int) : roundR ((CoG Try.prog).into 5 1) 60 (seqDrop 6 (onB Try.prog)) [8] [8] [.fix 0] [.fix 0] (onZ [Ir o (k + 1) c, .cells true 0 [vI M, SI 0 (k + 1)]] 1) = gd (Nat.ble (0 + (k + 1)) (k + 1) && true && true) (gd (Nat.ble (0 + (k + 1)) (k + 1) && true && true) (gd (Nat.beq (k + 1) (k + 1) && okIs (k + 1) (shiftR 0 (shiftR 0 (iRow c)))) (gd (decide ((k + 1) * 8 ≤ 140737488355328) && decide (k + 1 ≤ 4611686018427387904)) (gd (Nat.ble (0 + (k + 1)) (k + 1) && true && true) (gd (Nat.ble (0 + (k + 1)) (k + 1) && true && true) (gd (true && (Nat.beq (k + 1) (k + 1) && okIs (k + 1) (shiftR 0 (shiftR 0 (iRow (iOf (shiftR 0 (shiftR 0 (iRow c))))))))) (gd (frmB M (k + 1) (iOf (shiftR 0 (shiftR 0 (iRow (iOf (shiftR 0 (shiftR 0 (iRow c))))))))) (gd (allR (Int.toNat M / 3) (Rin.conjE (Int.toNat M / 6) (iOf (shiftR 0 (shiftR 0 (iRow (iOf (shiftR 0 (shiftR 0 (iRow c)))))))))) (gd (Nat.ble (0 + (k + 1)) (k + 1) && true && true) (gd (Nat.ble (0 + (k + 1)) (k + 1) && true && true) (gd (true && (Nat.beq (k + 1) (k + 1) && okIs (k + 1) (shiftR 0 (shiftR 0 (iRow c))))) (gd (frmB M (k + 1) (iOf (shiftR 0 (shiftR 0 (iRow c))))) (gd (allR (Int.toNat M / 3) (Rin.conjE (Int.toNat M / 6) (iOf (shiftR 0 (shiftR 0 (iRow c)))))) (gd (Nat.ble (0 + (k + 1)) (k + 1) && true && true) (gd (Nat.ble (0 + (k + 1)) (k + 1) && true && true) (gd (Nat.beq (k + 1) (k + 1) && okIs (k + 1) (shiftR 0 (shiftR 0 (iRow c)))) (gd (decide ((k + 1) * 8 ≤ 140737488355328) && decide (k + 1 ≤ 4611686018427387904)) (gd (Nat.ble (0 + (k + 1)) (k + 1) && true && true) (gd (Nat.ble (0 + (k + 1)) (k + 1) && true && true) (gd (Nat.beq (k + 1) (k + 1) && okIs (k + 1) (shiftR 0 (shiftR 0 (iRow (iOf (shiftR 0 (shiftR 0 (iRow c)))))))) (gd (frmB M (k + 1) (iOf (shiftR 0 (shiftR 0 (iRow (iOf (shiftR 0 (shiftR 0 (iRow c))))))))) (gd (Nat.ble (0 + (k + 1)) (k + 1) && true && true) (gd (Nat.ble (0 + (k + 1)) (k + 1) && true && true) (gd (true && (Nat.beq (k + 1) (k + 1) && okIs (k + 1) (shiftR 0 (shiftR 0 (iRow c))))) (gd (frmB M (k + 1) (iOf (shiftR 0 (shiftR 0 (iRow c))))) (gd (Nat.ble (0 + Int.toNat M / 3) (Int.toNat M / 3) && true && (Nat.ble (0 + Int.toNat M / 3) (Int.toNat M / 3) && true && true)) (gd (Nat.beq (Int.toNat M / 3) (Int.toNat M / 3) && (okIs (Int.toNat M / 3) (shiftR 0 (iRow (Rin.conjE (Int.toNat M / 6) (iOf (shiftR 0 (shiftR 0 (iRow (iOf (shiftR 0 (shiftR 0 (iRow c))))))))))) && (Nat.beq (Int.toNat M / 3) (Int.toNat M / 3) && (okIs (Int.toNat M / 3) (shiftR 0 (iRow (Rin.conjE (Int.toNat M / 6) (iOf (shiftR 0 (shiftR 0 (iRow c))))))) && decide (Int.toNat M / 3 ≤ 4611686018427387904))))) ((match smV M M (Int.toNat M / 3) (Int.toNat M / 3) (iOf (shiftR 0 (iRow (Rin.conjE (Int.toNat M / 6) (iOf (shiftR 0 (shiftR 0 (iRow (iOf (shiftR 0 (shiftR 0 (iRow c)))))))))))) (iOf (shiftR 0 (iRow (Rin.conjE (Int.toNat M / 6) (iOf (shiftR 0 (shiftR 0 (iRow c)))))))) with
  | true => gd (Nat.ble (0 + Int.toNat M / 3) (Int.toNat M / 3) && true && (Nat.ble (0 + Int.toNat M / 3) (Int.toNat M / 3) && true && true)) (gd (Nat.beq (Int.toNat M / 3) (Int.toNat M / 3) && (okIs (Int.toNat M / 3) (shiftR 0 (iRow (timesC (-1 : Int) (iOf (shiftR 0 (shiftR 0 (iRow (iOf (shiftR 0 (shiftR 0 (iRow c))))))))))) && (Nat.beq (Int.toNat M / 3) (Int.toNat M / 3) && (okIs (Int.toNat M / 3) (shiftR 0 (iRow (timesC (-1 : Int) (iOf (shiftR 0 (shiftR 0 (iRow c))))))) && decide (Int.toNat M / 3 ≤ 4611686018427387904))))) ((match smV M M (Int.toNat M / 3) (Int.toNat M / 3) (iOf (shiftR 0 (iRow (timesC (-1 : Int) (iOf (shiftR 0 (shiftR 0 (iRow (iOf (shiftR 0 (shiftR 0 (iRow c)))))))))))) (iOf (shiftR 0 (iRow (timesC (-1 : Int) (iOf (shiftR 0 (shiftR 0 (iRow c)))))))) with
  | true => some ((.ret, stOf 109 [(8, .bool true)] [.rows (o) true 1 (k + 1) (iRow c)]))
  | false => some ((.ret, stOf 109 [(8, .bool false)] [.rows (o) true 1 (k + 1) (iRow c)])))))
  | false => some ((.ret, stOf 109 [(8, .bool false)] [.rows (o) true 1 (k + 1) (iRow c)]))))))))))))))))))))))))))))))) := by kernel_rfl
theorem onRet (N : Nat) (o : Bool) (c : Nat → Int) : (retA Try.prog Try.f5 (.ret, stOf 109 [(8, .bool true)] [Ir o N c])).res = some (.bool true, [Ir o N c]) := by kernel_rfl
theorem onRetN : (retA Try.prog Try.f5 (.ret, stOf 109 [(8, .bool true)] [])).res = some (.bool true, []) := by kernel_rfl
theorem smV_self (M : Int) (n : Nat) (a : Nat → Int) : smV M M n n a a = true := smV_on fun _ _ => rfl
theorem onHead (j m n M : Int) (hn : i64B n = true) : segR ((CoA Try.prog).into 5 0) 60 6 (onB Try.prog) [7, 8] [.slot 7] (enter Try.f5 [vI j, vI m, vI n, .agg #[vI M, .slice none 0 0]] []) = some (onZ [.cells true 0 [vI M, .slice none 0 0]] 0) ∨ segR ((CoB Try.prog).into 5 0) 60 6 (onB Try.prog) [7, 8] [.slot 7] (enter Try.f5 [vI j, vI m, vI n, .agg #[vI M, .slice none 0 0]] []) = some (onZ [.cells true 0 [vI M, .slice none 0 0]] 0) ∨ segR ((CoC Try.prog).into 5 0) 60 6 (onB Try.prog) [7, 8] [.slot 7] (enter Try.f5 [vI j, vI m, vI n, .agg #[vI M, .slice none 0 0]] []) = some (onZ [.cells true 0 [vI M, .slice none 0 0]] 0) := by
  cases hf : fineB m with
  | false =>
    refine Or.inl ?_
    have h := onAN j m n M
    simp only [rules, hn, hf] at h
    exact h
  | true =>
    have hc := fine_cases hf
    have hd : decide (m.toNat / 3 ≤ 4611686018427387904) = true := decide_eq_true (by omega)
    cases hg : inRg n with
    | false =>
      refine Or.inr (Or.inl ?_)
      have h := onBN j m n M
      simp only [rules, nots, hn, hf, hg, hd, smV_self] at h
      exact h
    | true =>
      refine Or.inr (Or.inr ?_)
      have h := onCN j m n M
      simp only [rules, nots, hn, hf, hg, hd, smV_self] at h
      exact h
theorem onHeadL (j m n M : Int) (N : Nat) (o : Bool) (c : Nat → Int) (hn : i64B n = true) : segR ((CoA Try.prog).into 5 1) 60 6 (onB Try.prog) [7, 8] [.fix 0, .slot 7] (enter Try.f5 [vI j, vI m, vI n, .agg #[vI M, SI 0 N]] [Ir o N c]) = some (onZ [Ir o N c, .cells true 0 [vI M, SI 0 N]] 1) ∨ segR ((CoB Try.prog).into 5 1) 60 6 (onB Try.prog) [7, 8] [.fix 0, .slot 7] (enter Try.f5 [vI j, vI m, vI n, .agg #[vI M, SI 0 N]] [Ir o N c]) = some (onZ [Ir o N c, .cells true 0 [vI M, SI 0 N]] 1) ∨ segR ((CoC Try.prog).into 5 1) 60 6 (onB Try.prog) [7, 8] [.fix 0, .slot 7] (enter Try.f5 [vI j, vI m, vI n, .agg #[vI M, SI 0 N]] [Ir o N c]) = some (onZ [Ir o N c, .cells true 0 [vI M, SI 0 N]] 1) := by
  cases hf : fineB m with
  | false =>
    refine Or.inl ?_
    have h := onAL j m n M N o c
    simp only [rules, hn, hf] at h
    exact h
  | true =>
    have hc := fine_cases hf
    have hd : decide (m.toNat / 3 ≤ 4611686018427387904) = true := decide_eq_true (by omega)
    cases hg : inRg n with
    | false =>
      refine Or.inr (Or.inl ?_)
      have h := onBL j m n M N o c
      simp only [rules, nots, hn, hf, hg, hd, smV_self] at h
      exact h
    | true =>
      refine Or.inr (Or.inr ?_)
      have h := onCL j m n M N o c
      simp only [rules, nots, hn, hf, hg, hd, smV_self] at h
      exact h
theorem onNil (j m n M : Int) (hn : i64B n = true) : MemSem Try.prog 5 [vI j, vI m, vI n, .agg #[vI M, .slice none 0 0]] [] (.bool true) [] := by
  have t := onDN M
  have tl := fun (h : CodeSem Try.prog 0 (seqDrop 6 (onB Try.prog)) (onZ [.cells true 0 [vI M, .slice none 0 0]] 0) .ret (stOf 109 [(8, .bool true)] [])) (hs : ∀ {s}, CodeSem Try.prog 0 (seqDrop 6 (onB Try.prog)) (onZ [.cells true 0 [vI M, .slice none 0 0]] 0) .ret s → CodeSem Try.prog 0 (onB Try.prog) (enter Try.f5 [vI j, vI m, vI n, .agg #[vI M, .slice none 0 0]] []) .ret s) => body_mem (m := []) (args := [vI j, vI m, vI n, .agg #[vI M, .slice none 0 0]]) (f := 5) Try.func5 on_eq (by kernel_rfl) (hs h) onRetN
  refine tl (end_rule (C := CoD Try.prog) okCoD (f := 5) (B := 0) (bodyOf_in Try.func5 on_eq) t) fun hs => ?_
  rcases onHead j m n M hn with h | h | h
  · exact seg_rule (C := CoA Try.prog) okCoA (f := 5) (B := 0) (k := 6) (Or.inl ⟨Try.f5, onB Try.prog, Try.func5, on_eq, fun _ hx => hx⟩) h hs
  · exact seg_rule (C := CoB Try.prog) okCoB (f := 5) (B := 0) (k := 6) (Or.inl ⟨Try.f5, onB Try.prog, Try.func5, on_eq, fun _ hx => hx⟩) h hs
  · exact seg_rule (C := CoC Try.prog) okCoC (f := 5) (B := 0) (k := 6) (Or.inl ⟨Try.f5, onB Try.prog, Try.func5, on_eq, fun _ hx => hx⟩) h hs
theorem onTail (M : Int) (N : Nat) (hN : N ≤ 1048576) (o : Bool) (c : Nat → Int) : CodeSem Try.prog 1 (seqDrop 6 (onB Try.prog)) (onZ [Ir o N c, .cells true 0 [vI M, SI 0 N]] 1) .ret (stOf 109 [(8, .bool true)] [Ir o N c]) := by
  match N, hN with
  | 0, _ =>
    have h := onD0 M o c
    simp only [rules] at h
    exact end_rule (C := CoD Try.prog) okCoD (f := 5) (B := 1) (bodyOf_in Try.func5 on_eq) h
  | k + 1, hk =>
    cases h0 : frmB M (k + 1) c with
    | false =>
      have h := onEL M k o c
      simp only [rules, And.intro (szOk hk) h0] at h
      exact end_rule (C := CoE Try.prog) okCoE (f := 5) (B := 1) (bodyOf_in Try.func5 on_eq) h
    | true =>
      have hc := fine_cases (frm_fine h0).1
      have hd : decide (M.toNat / 3 ≤ 4611686018427387904) = true := decide_eq_true (by omega)
      cases h1 : allR (M.toNat / 3) (Rin.conjE (M.toNat / 6) c) with
      | false =>
        have h := onFL M k o c
        simp only [rules, And.intro (szOk hk) (And.intro h0 (And.intro h1 hd)), smV_self] at h
        exact end_rule (C := CoF Try.prog) okCoF (f := 5) (B := 1) (bodyOf_in Try.func5 on_eq) h
      | true =>
        have h := onGL M k o c
        simp only [rules, And.intro (szOk hk) (And.intro h0 (And.intro h1 hd)), smV_self] at h
        exact end_rule (C := CoG Try.prog) okCoG (f := 5) (B := 1) (bodyOf_in Try.func5 on_eq) h
theorem onList (N : Nat) (hN : N ≤ 1048576) (o : Bool) (j m n M : Int) (c : Nat → Int) (hn : i64B n = true) : MemSem Try.prog 5 [vI j, vI m, vI n, .agg #[vI M, SI 0 N]] [Ir o N c] (.bool true) [Ir o N c] := by
  have tl := fun (hs : ∀ {s}, CodeSem Try.prog 1 (seqDrop 6 (onB Try.prog)) (onZ [Ir o N c, .cells true 0 [vI M, SI 0 N]] 1) .ret s → CodeSem Try.prog 1 (onB Try.prog) (enter Try.f5 [vI j, vI m, vI n, .agg #[vI M, SI 0 N]] [Ir o N c]) .ret s) => body_mem (m := [Ir o N c]) (args := [vI j, vI m, vI n, .agg #[vI M, SI 0 N]]) (f := 5) Try.func5 on_eq (by kernel_rfl) (hs (onTail M N hN o c)) (onRet N o c)
  refine tl fun hs => ?_
  rcases onHeadL j m n M N o c hn with h | h | h
  · exact seg_rule (C := CoA Try.prog) okCoA (f := 5) (B := 1) (k := 6) (Or.inl ⟨Try.f5, onB Try.prog, Try.func5, on_eq, fun _ hx => hx⟩) h hs
  · exact seg_rule (C := CoB Try.prog) okCoB (f := 5) (B := 1) (k := 6) (Or.inl ⟨Try.f5, onB Try.prog, Try.func5, on_eq, fun _ hx => hx⟩) h hs
  · exact seg_rule (C := CoC Try.prog) okCoC (f := 5) (B := 1) (k := 6) (Or.inl ⟨Try.f5, onB Try.prog, Try.func5, on_eq, fun _ hx => hx⟩) h hs
end Go.Proofs.Ytjhijkdicmbbiaa
