/-
  cell.Far told. Nothing here is trusted.
-/
import Derived.Test.YtofblakbfmjgkaaHTFr0
import Derived.Test.YtofblakbfmjgkaaHTSt9c
namespace Go.Proofs.Ytofblakbfmjgkaa
open Go Vx Go.RowKit
def fx10 (P : Program) : Code := (loopsOf P 28 10).headD .skip
theorem fx10_eq : loopsOf Try.prog 28 10 = [fx10 Try.prog] := by kernel_rfl
def iC (l : List Int) : Blk := .cells true 1 (l.map (.int .i64))
def frM (m : G6) (M : Int) (v : V3) (xs : List Int) : Mem := [.cells true 0 (G6.cells m), .cells true 0 [.int .i64 M, .int .i64 v.x, .int .i64 v.y, .int .i64 v.z], iC xs]
def frI (m : G6) (M : Int) (v : V3) (xs ys : List Int) (nx ny : Nat) (l x i : Int) : St := stOf 85 [obPt 3 0, obPt 8 1, (10, vI l), (12, vI x), (43, .slice (some ⟨2, 0, none⟩) nx 1), (44, vI nx), (45, vI i), (54, .slice (some ⟨3, 0, none⟩) ny 1), (55, vI ny), (56, vI 0)] (frM m M v xs ++ [iC ys])
def frO (m : G6) (M : Int) (v : V3) (xs : List Int) (nx : Nat) (l i : Int) : St := stOf 85 [obPt 3 0, obPt 8 1, (10, vI l), (43, .slice (some ⟨2, 0, none⟩) nx 1), (44, vI nx), (45, vI i)] (frM m M v xs)
def zfK (m : G6) (M : Int) (v : V3) (x y l : Int) (k : Int → Option (Exit × St)) : Option (Exit × St) := match v.z == 0 with
  | true => k (min2I (min2I (min2I l (sW m x y (W (0 - M)))) (sW m x y 0)) (sW m x y M))
  | false => k (min2I (min2I l (sW m x y (W (v.z - M)))) (sW m x y v.z))
def yfK (m : G6) (M : Int) (v : V3) (x : Int) (K : Int → Option (Exit × St)) : List Int → Int → Option (Exit × St)
  | [], l => K l
  | y :: ys, l => zfK m M v x y l fun l => yfK m M v x K ys l
theorem frR22 (m : G6) (M : Int) (v : V3) (x0 x1 y0 y1 l x i : Int) : roundR ((CCfa Try.prog).into 28 0) 80 (.loop (fx10 Try.prog)) [3, 8, 10, 12, 43, 44, 45, 54, 55, 56] [3, 8, 10, 43, 44, 45] [.slot 3, .slot 8, .slot 43, .slot 54] [.slot 3, .slot 8, .slot 43] (frI m M v [x0, x1] [y0, y1] 2 2 l x i) =
  yfK m M v x (fun l => some (.exit 2, frO m M v [x0, x1] 2 l i)) [y0, y1] l := by kernel_rfl
theorem frR23 (m : G6) (M : Int) (v : V3) (x0 x1 y0 y1 y2 l x i : Int) : roundR ((CCfa Try.prog).into 28 0) 80 (.loop (fx10 Try.prog)) [3, 8, 10, 12, 43, 44, 45, 54, 55, 56] [3, 8, 10, 43, 44, 45] [.slot 3, .slot 8, .slot 43, .slot 54] [.slot 3, .slot 8, .slot 43] (frI m M v [x0, x1] [y0, y1, y2] 2 3 l x i) =
  yfK m M v x (fun l => some (.exit 2, frO m M v [x0, x1] 2 l i)) [y0, y1, y2] l := by kernel_rfl
theorem frR32 (m : G6) (M : Int) (v : V3) (x0 x1 x2 y0 y1 l x i : Int) : roundR ((CCfa Try.prog).into 28 0) 80 (.loop (fx10 Try.prog)) [3, 8, 10, 12, 43, 44, 45, 54, 55, 56] [3, 8, 10, 43, 44, 45] [.slot 3, .slot 8, .slot 43, .slot 54] [.slot 3, .slot 8, .slot 43] (frI m M v [x0, x1, x2] [y0, y1] 3 2 l x i) =
  yfK m M v x (fun l => some (.exit 2, frO m M v [x0, x1, x2] 3 l i)) [y0, y1] l := by kernel_rfl
theorem frR33 (m : G6) (M : Int) (v : V3) (x0 x1 x2 y0 y1 y2 l x i : Int) : roundR ((CCfa Try.prog).into 28 0) 80 (.loop (fx10 Try.prog)) [3, 8, 10, 12, 43, 44, 45, 54, 55, 56] [3, 8, 10, 43, 44, 45] [.slot 3, .slot 8, .slot 43, .slot 54] [.slot 3, .slot 8, .slot 43] (frI m M v [x0, x1, x2] [y0, y1, y2] 3 3 l x i) =
  yfK m M v x (fun l => some (.exit 2, frO m M v [x0, x1, x2] 3 l i)) [y0, y1, y2] l := by kernel_rfl
end Go.Proofs.Ytofblakbfmjgkaa
