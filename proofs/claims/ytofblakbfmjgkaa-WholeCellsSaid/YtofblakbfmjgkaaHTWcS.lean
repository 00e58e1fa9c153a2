/-
  facettop.shorter told, where no vector is. Nothing here is trusted.
-/
import Derived.Test.YtofblakbfmjgkaaHTWcB
import Derived.Test.YtofblakbfmjgkaaHTDfP
namespace Go.Proofs.Ytofblakbfmjgkaa
open Go Vx Go.RowKit
def hrB (P : Program) : Code := bodyOf P 59
theorem hrB_eq : Try.f59.body = some (hrB Try.prog) := by kernel_rfl
def hX0 (P : Program) : Code := forBody (stmt 1 (hrB P))
def hY1 (P : Program) : Code := cL (stmt 1 (hX0 P))
def hX2 (P : Program) : Code := blkBody (seqDrop 1 (hY1 P))
def hY3 (P : Program) : Code := cL (stmt 1 (hX2 P))
def hX4 (P : Program) : Code := blkBody (seqDrop 1 (hY3 P))
def hM (m : G6) : Mem := [.cells true 0 (G6.cells m)]
def h0 (m : G6) (n : Int) : St := stOf 54 [(1, vI n), obPt 2 0] (hM m)
def h1 (m : G6) (n x : Int) : St := stOf 54 [(1, vI n), obPt 2 0, (5, vI x)] (hM m)
def h2 (m : G6) (n x y : Int) : St := stOf 54 [(1, vI n), obPt 2 0, (5, vI x), (6, vI y)] (hM m)
def h3 (m : G6) (n x y z : Int) : St := stOf 54 [(1, vI n), obPt 2 0, (5, vI x), (6, vI y), (7, vI z)] (hM m)
theorem hE0 (m : G6) (n : Int) : segR ((Cwd2 Try.prog).into 59 0) 60 1 (hrB Try.prog) [1, 2] [.slot 2] (enter Try.f59 [m.v, vI n] []) = some (h0 m n) := by kernel_rfl
theorem hFor : isFor 0 (stmt 1 (hrB Try.prog)) = true := by kernel_rfl
theorem hHead (m : G6) (n : Int) : roundR ((Cwd2 Try.prog).into 59 0) 60 (forHead (stmt 1 (hrB Try.prog))) [1, 2, 5] [2] [.slot 2] [] (h0 m n) = some (.normal, h1 m n (-3)) := by kernel_rfl
theorem hX0a (m : G6) (n x : Int) : roundR ((Cwd2 Try.prog).into 59 0) 60 (stmt 0 (hX0 Try.prog)) [1, 2, 5] [1, 2] [.slot 2] [.slot 2] (h1 m n x) = (match decide (x ≤ 3) with
  | true => some (.normal, h1 m n x)
  | false => some (.exit 0, h0 m n)) := by kernel_rfl
theorem hX0b : stmt 1 (hX0 Try.prog) = .block 1 (hY1 Try.prog) := by kernel_rfl
theorem hX0c (m : G6) (n x : Int) : roundR ((Cwd2 Try.prog).into 59 0) 60 (seqDrop 2 (hX0 Try.prog)) [1, 2, 5] [2] [.slot 2] [] (h1 m n x) = some (.normal, h1 m n (W (x + 1))) := by kernel_rfl
theorem hY1b (m : G6) (n x : Int) : segR ((Cwd2 Try.prog).into 59 0) 60 1 (hY1 Try.prog) [1, 2, 5, 6] [.slot 2] (h1 m n x) = some (h2 m n x (-3)) := by kernel_rfl
theorem hBlk2 : isBlk 2 (seqDrop 1 (hY1 Try.prog)) = true := by kernel_rfl
theorem hX2a (m : G6) (n x y : Int) : roundR ((Cwd2 Try.prog).into 59 0) 60 (stmt 0 (hX2 Try.prog)) [1, 2, 5, 6] [1, 2, 5] [.slot 2] [.slot 2] (h2 m n x y) = (match decide (y ≤ 3) with
  | true => some (.normal, h2 m n x y)
  | false => some (.exit 2, h1 m n x)) := by kernel_rfl
theorem hX2b : stmt 1 (hX2 Try.prog) = .block 3 (hY3 Try.prog) := by kernel_rfl
theorem hX2c (m : G6) (n x y : Int) : roundR ((Cwd2 Try.prog).into 59 0) 60 (seqDrop 2 (hX2 Try.prog)) [1, 2, 5, 6] [2] [.slot 2] [] (h2 m n x y) = some (.normal, h2 m n x (W (y + 1))) := by kernel_rfl
theorem hY3b (m : G6) (n x y : Int) : segR ((Cwd2 Try.prog).into 59 0) 60 1 (hY3 Try.prog) [1, 2, 5, 6, 7] [.slot 2] (h2 m n x y) = some (h3 m n x y (-3)) := by kernel_rfl
theorem hBlk4 : isBlk 4 (seqDrop 1 (hY3 Try.prog)) = true := by kernel_rfl
def hIn4 (e d n x y z : Int) (a b : Option (Exit × St)) : Option (Exit × St) := match e != 0 with
  | true => a
  | false => match decide (d < n) with
    | true => match x != 0 with
      | true => a
      | false => match y != 0 with
        | true => a
        | false => match z != 0 with
          | true => a
          | false => b
    | false => b
theorem hX4r (m : G6) (n x y z : Int) : roundR ((Cwd2 Try.prog).into 59 0) 60 (hX4 Try.prog) [1, 2, 5, 6, 7] [1, 2, 5, 6] [.slot 2] [.slot 2] (h3 m n x y z) = (match decide (z ≤ 3) with
  | true => hIn4 (m.dotE ⟨x, y, z⟩ ⟨x, y, z⟩) (m.dotF ⟨x, y, z⟩ ⟨x, y, z⟩) n x y z (some (.ret, h2 m n x y)) (some (.normal, h3 m n x y (W (z + 1))))
  | false => some (.exit 4, h2 m n x y)) := by kernel_rfl
theorem hEnd (m : G6) (n : Int) : roundR ((Cwd2 Try.prog).into 59 0) 60 (seqDrop 2 (hrB Try.prog)) [2] [4] [] [] (h0 m n) = some (.ret, stOf 54 [(4, .bool true)] []) := by kernel_rfl
theorem hRet : (retA Try.prog Try.f59 (.ret, stOf 54 [(4, .bool true)] [])).res = some (.bool true, []) := by kernel_rfl
theorem hHas : hasStmt 1 (hrB Try.prog) = true ∧ hasStmt 0 (hX0 Try.prog) = true ∧ hasStmt 1 (hX0 Try.prog) = true ∧ hasStmt 0 (hX2 Try.prog) = true ∧ hasStmt 1 (hX2 Try.prog) = true := ⟨by kernel_rfl, by kernel_rfl, by kernel_rfl, by kernel_rfl, by kernel_rfl⟩
end Go.Proofs.Ytofblakbfmjgkaa
