/-
  The document's Far, run piece by piece. Nothing here is trusted.
-/
import Derived.Test.YtofblakbfmjgkaaHTFr3
import Derived.Test.YtofblakbfmjgkaaHFarD
namespace Go.Proofs.Ytofblakbfmjgkaa
open Go Vx Go.RowKit
def pC4 (p : P3) : List Value := [.int .i64 p.m, .int .i64 p.x.x, .int .i64 p.x.y, .int .i64 p.x.z]
def dfB (P : Program) : Code := bodyOf P 29
theorem dfB_eq : Try.f29.body = some (dfB Try.prog) := by kernel_rfl
def dX0 (P : Program) : Code := forBody (stmt 5 (dfB P))
def dY1 (P : Program) : Code := cL (stmt 1 (dX0 P))
def dX2 (P : Program) : Code := blkBody (seqDrop 2 (dY1 P))
def dY3 (P : Program) : Code := cL (stmt 1 (dX2 P))
def dX4 (P : Program) : Code := blkBody (seqDrop 2 (dY3 P))
def dfM (m : G6) (p d : P3) : Mem := [.cells true 0 (G6.cells m), .cells true 0 (pC4 p), .cells true 0 (pC4 d)]
def dfP : List (Nat × Value) := [obPt 3 0, obPt 4 1, obPt 9 2]
def dfA (m : G6) (p d : P3) (e : Int) : St := stOf 100 [obPt 3 0, obPt 4 1, (8, vI e), obPt 9 2, (10, vI 0)] (dfM m p d)
def df0 (m : G6) (p d : P3) (b : Int) : St := stOf 100 (dfP ++ [(11, vI b)]) (dfM m p d)
def df1 (m : G6) (p d : P3) (b x : Int) : St := stOf 100 (dfP ++ [(11, vI b), (12, vI x)]) (dfM m p d)
def df2 (m : G6) (p d : P3) (b x y : Int) : St := stOf 100 (dfP ++ [(11, vI b), (12, vI x), (13, vI y)]) (dfM m p d)
def df3 (m : G6) (p d : P3) (b x y z : Int) : St := stOf 100 (dfP ++ [(11, vI b), (12, vI x), (13, vI y), (14, vI z)]) (dfM m p d)
def dfR (v e : Int) : St := stOf 100 [(6, vI v), (7, vI e)] []
def dW (m : G6) (x y z : Int) : Int := W (m.mat.bil ⟨x, y, z⟩ ⟨x, y, z⟩)
theorem dfE1 (m : G6) (p q : P3) : segR ((CCfc Try.prog).into 29 0) 60 3 (dfB Try.prog) [3, 4, 8, 9, 10] [.slot 3, .slot 4, .slot 9] (enter Try.f29 [m.v, p.v, q.v] []) = some (stOf 100 [obPt 3 0, obPt 4 1, (8, vI m.mck), obPt 9 2, (10, vI (p.minE q))] (dfM m p (p.minF q))) := by kernel_rfl
theorem dfE3 (m : G6) (p d : P3) (a e : Int) : roundR ((CCfc Try.prog).into 29 0) 60 (stmt 3 (dfB Try.prog)) [3, 4, 9] [6, 7] [.slot 3, .slot 4, .slot 9] [] (stOf 100 [obPt 3 0, obPt 4 1, (8, vI a), obPt 9 2, (10, vI e)] (dfM m p d)) = (match leastN a e != 0 with
  | true => some (.ret, dfR 0 (leastN a e))
  | false => some (.normal, stOf 100 dfP (dfM m p d))) := by kernel_rfl
theorem dfE4 (m : G6) (p d : P3) : segR ((CCfc Try.prog).into 29 0) 60 1 (seqDrop 4 (dfB Try.prog)) [3, 4, 9, 11] [.slot 3, .slot 4, .slot 9] (stOf 100 dfP (dfM m p d)) = some (df0 m p d (-1)) := by kernel_rfl
theorem dfFor : isFor 0 (stmt 5 (dfB Try.prog)) = true := by kernel_rfl
theorem dfHead (m : G6) (p d : P3) (b : Int) : roundR ((CCfc Try.prog).into 29 0) 60 (forHead (stmt 5 (dfB Try.prog))) [3, 4, 9, 11, 12] [3] [.slot 3, .slot 4, .slot 9] [] (df0 m p d b) = some (.normal, df1 m p d b (W (0 - p.m))) := by kernel_rfl
theorem dfX0a (m : G6) (p d : P3) (b x : Int) : roundR ((CCfc Try.prog).into 29 0) 60 (stmt 0 (dX0 Try.prog)) [3, 4, 9, 11, 12] [3, 4, 9, 11] [.slot 3, .slot 4, .slot 9] [.slot 3, .slot 4, .slot 9] (df1 m p d b x) = (match decide (x ≤ p.m) with
  | true => some (.normal, df1 m p d b x)
  | false => some (.exit 0, df0 m p d b)) := by kernel_rfl
theorem dfX0b : stmt 1 (dX0 Try.prog) = .block 1 (dY1 Try.prog) := by kernel_rfl
theorem dfX0c (m : G6) (p d : P3) (b x : Int) : roundR ((CCfc Try.prog).into 29 0) 60 (seqDrop 2 (dX0 Try.prog)) [3, 4, 9, 11, 12] [3] [.slot 3, .slot 4, .slot 9] [] (df1 m p d b x) = some (.normal, df1 m p d b (W (x + 1))) := by kernel_rfl
theorem dfY1a (m : G6) (p d : P3) (b x : Int) : roundR ((CCfc Try.prog).into 29 0) 60 (stmt 0 (dY1 Try.prog)) [3, 4, 9, 11, 12] [3, 4, 9, 11, 12] [.slot 3, .slot 4, .slot 9] [.slot 3, .slot 4, .slot 9] (df1 m p d b x) = gd (modB p.m) (match x % p.m != d.x.x with
  | true => some (.exit 1, df1 m p d b x)
  | false => some (.normal, df1 m p d b x)) := by kernel_rfl
theorem dfY1b (m : G6) (p d : P3) (b x : Int) : segR ((CCfc Try.prog).into 29 0) 60 1 (seqDrop 1 (dY1 Try.prog)) [3, 4, 9, 11, 12, 13] [.slot 3, .slot 4, .slot 9] (df1 m p d b x) = some (df2 m p d b x (W (0 - p.m))) := by kernel_rfl
theorem dfBlk2 : isBlk 2 (seqDrop 2 (dY1 Try.prog)) = true := by kernel_rfl
theorem dfX2a (m : G6) (p d : P3) (b x y : Int) : roundR ((CCfc Try.prog).into 29 0) 60 (stmt 0 (dX2 Try.prog)) [3, 4, 9, 11, 12, 13] [3, 4, 9, 11, 12] [.slot 3, .slot 4, .slot 9] [.slot 3, .slot 4, .slot 9] (df2 m p d b x y) = (match decide (y ≤ p.m) with
  | true => some (.normal, df2 m p d b x y)
  | false => some (.exit 2, df1 m p d b x)) := by kernel_rfl
theorem dfX2b : stmt 1 (dX2 Try.prog) = .block 3 (dY3 Try.prog) := by kernel_rfl
theorem dfX2c (m : G6) (p d : P3) (b x y : Int) : roundR ((CCfc Try.prog).into 29 0) 60 (seqDrop 2 (dX2 Try.prog)) [3, 4, 9, 11, 12, 13] [3] [.slot 3, .slot 4, .slot 9] [] (df2 m p d b x y) = some (.normal, df2 m p d b x (W (y + 1))) := by kernel_rfl
theorem dfY3a (m : G6) (p d : P3) (b x y : Int) : roundR ((CCfc Try.prog).into 29 0) 60 (stmt 0 (dY3 Try.prog)) [3, 4, 9, 11, 12, 13] [3, 4, 9, 11, 12, 13] [.slot 3, .slot 4, .slot 9] [.slot 3, .slot 4, .slot 9] (df2 m p d b x y) = gd (modB p.m) (match y % p.m != d.x.y with
  | true => some (.exit 3, df2 m p d b x y)
  | false => some (.normal, df2 m p d b x y)) := by kernel_rfl
theorem dfY3b (m : G6) (p d : P3) (b x y : Int) : segR ((CCfc Try.prog).into 29 0) 60 1 (seqDrop 1 (dY3 Try.prog)) [3, 4, 9, 11, 12, 13, 14] [.slot 3, .slot 4, .slot 9] (df2 m p d b x y) = some (df3 m p d b x y (W (0 - p.m))) := by kernel_rfl
theorem dfBlk4 : isBlk 4 (seqDrop 2 (dY3 Try.prog)) = true := by kernel_rfl
theorem dfX4 (m : G6) (p d : P3) (b x y z : Int) : roundR ((CCfc Try.prog).into 29 0) 60 (dX4 Try.prog) [3, 4, 9, 11, 12, 13, 14] [3, 4, 9, 11, 12, 13] [.slot 3, .slot 4, .slot 9] [.slot 3, .slot 4, .slot 9] (df3 m p d b x y z) = (match decide (z ≤ p.m) with
  | true => gd (modB p.m) (match z % p.m != d.x.z with
    | true => some (.normal, df3 m p d b x y (W (z + 1)))
    | false => match decide (b < 0) with
      | true => some (.normal, df3 m p d (dW m x y z) x y (W (z + 1)))
      | false => match decide (dW m x y z < b) with
        | true => some (.normal, df3 m p d (dW m x y z) x y (W (z + 1)))
        | false => some (.normal, df3 m p d b x y (W (z + 1))))
  | false => some (.exit 4, df2 m p d b x y)) := by kernel_rfl
theorem dfEnd (m : G6) (p d : P3) (b : Int) : roundR ((CCfc Try.prog).into 29 0) 60 (seqDrop 6 (dfB Try.prog)) [3] [6, 7] [] [] (df0 m p d b) = some (.ret, dfR b 0) := by kernel_rfl
theorem dfRet (v e : Int) : (retA Try.prog Try.f29 (.ret, dfR v e)).res = some (p2 (vI v) (vI e), []) := by kernel_rfl
theorem dfHas : hasStmt 3 (dfB Try.prog) = true ∧ hasStmt 5 (dfB Try.prog) = true ∧ hasStmt 0 (dX0 Try.prog) = true ∧ hasStmt 1 (dX0 Try.prog) = true ∧ hasStmt 0 (dY1 Try.prog) = true ∧ hasStmt 0 (dX2 Try.prog) = true ∧ hasStmt 1 (dX2 Try.prog) = true ∧ hasStmt 0 (dY3 Try.prog) = true := ⟨by kernel_rfl, by kernel_rfl, by kernel_rfl, by kernel_rfl, by kernel_rfl, by kernel_rfl, by kernel_rfl, by kernel_rfl⟩
end Go.Proofs.Ytofblakbfmjgkaa
