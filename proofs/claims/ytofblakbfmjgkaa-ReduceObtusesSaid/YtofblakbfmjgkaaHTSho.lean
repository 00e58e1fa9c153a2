/-
  The document's Shortest, run piece by piece. Nothing here is trusted.
-/
import Derived.Test.YtofblakbfmjgkaaHTRnd
namespace Go.Proofs.Ytofblakbfmjgkaa
open Go Vx Go.RowKit
def shB (P : Program) : Code := bodyOf P 43
theorem shB_eq : Try.f43.body = some (shB Try.prog) := by kernel_rfl
def hX0 (P : Program) : Code := forBody (stmt 3 (shB P))
def hZ1 (P : Program) : Code := cL (seqDrop 1 (hX0 P))
def hX2 (P : Program) : Code := blkBody (seqDrop 2 (hZ1 P))
def hY3 (P : Program) : Code := cL (stmt 1 (hX2 P))
def hX4 (P : Program) : Code := forBody (stmt 0 (hY3 P))
def hX6 (P : Program) : Code := blkBody (seqDrop 3 (hY3 P))
def sM (g : M3) : Mem := [.cells true 0 g.cells]
def s0 (g : M3) : St := stOf 126 [obPt 5 0] (sM g)
def w0 (g : M3) (t : Bool) : St := stOf 126 [obPt 5 0, (6, .bool t)] (sM g)
def w1 (g : M3) (t : Bool) (i : Int) : St := stOf 126 [obPt 5 0, (6, .bool t), (7, vI i)] (sM g)
def w2 (g : M3) (t : Bool) (i j : Int) : St := stOf 126 [obPt 5 0, (6, .bool t), (7, vI i), (8, vI j)] (sM g)
def w3 (g : M3) (t : Bool) (i j k n : Int) : St := stOf 126 [obPt 5 0, (6, .bool t), (7, vI i), (10, vI j), (11, vI k), (12, vI n)] (sM g)
def sR (v e : Int) : St := stOf 126 [(2, vI v), (3, vI e)] []
def sA (m : G6) : St := stOf 126 [obPt 1 0] [.cells true 0 (G6.cells m)]
theorem shE0 (m : G6) : segR ((CCrn Try.prog).into 43 0) 60 1 (shB Try.prog) [1] [.slot 1] (enter Try.f43 [m.v] []) = some (sA m) := by kernel_rfl
theorem shE1 (m : G6) : roundR ((CCrn Try.prog).into 43 0) 60 (stmt 1 (shB Try.prog)) [1] [2, 3] [.slot 1] [] (sA m) = (match m.mck != 0 with
  | true => some (.ret, sR 0 m.mck)
  | false => some (.normal, sA m)) := by kernel_rfl
theorem shE2 (m : G6) : segR ((CCrn Try.prog).into 43 0) 60 1 (seqDrop 2 (shB Try.prog)) [5] [.slot 5] (sA m) = some (s0 m.mat) := by kernel_rfl
theorem shFor : isFor 0 (stmt 3 (shB Try.prog)) = true := by kernel_rfl
theorem shHead (g : M3) : roundR ((CCrn Try.prog).into 43 0) 60 (forHead (stmt 3 (shB Try.prog))) [5, 6] [5] [.slot 5] [.slot 5] (s0 g) = some (.normal, w0 g true) := by kernel_rfl
theorem shX0a (g : M3) (t : Bool) : roundR ((CCrn Try.prog).into 43 0) 60 (stmt 0 (hX0 Try.prog)) [5, 6] [5] [.slot 5] [.slot 5] (w0 g t) = (match t with
  | true => some (.normal, w0 g t)
  | false => some (.exit 0, s0 g)) := by kernel_rfl
theorem shX0b : seqDrop 1 (hX0 Try.prog) = .block 1 (hZ1 Try.prog) := by kernel_rfl
theorem shZ1 (g : M3) (t : Bool) : segR ((CCrn Try.prog).into 43 0) 60 2 (hZ1 Try.prog) [5, 6, 7] [.slot 5] (w0 g t) = some (w1 g false 0) := by kernel_rfl
theorem shBlk2 : isBlk 2 (seqDrop 2 (hZ1 Try.prog)) = true := by kernel_rfl
theorem shX2b : stmt 1 (hX2 Try.prog) = .block 3 (hY3 Try.prog) := by kernel_rfl
theorem shX2e (g : M3) (t : Bool) : roundR ((CCrn Try.prog).into 43 0) 60 (stmt 0 (hX2 Try.prog)) [5, 6, 7] [5, 6] [.slot 5] [.slot 5] (w1 g t 3) = some (.exit 2, w0 g t) := by kernel_rfl
theorem shFor4 : isFor 4 (stmt 0 (hY3 Try.prog)) = true := by kernel_rfl
theorem shBlk6 : isBlk 6 (seqDrop 3 (hY3 Try.prog)) = true := by kernel_rfl
theorem shEnd (g : M3) : roundR ((CCrn Try.prog).into 43 0) 60 (seqDrop 4 (shB Try.prog)) [5] [2, 3] [.slot 5] [] (s0 g) = some (.ret, sR (min2I (min2I g.a g.e) g.i) 0) := by kernel_rfl
theorem shRet (v e : Int) : (retA Try.prog Try.f43 (.ret, sR v e)).res = some (p2 (vI v) (vI e), []) := by kernel_rfl
theorem shHas : hasStmt 1 (shB Try.prog) = true ∧ hasStmt 3 (shB Try.prog) = true ∧ hasStmt 0 (hX0 Try.prog) = true ∧ hasStmt 0 (hX2 Try.prog) = true ∧ hasStmt 1 (hX2 Try.prog) = true ∧ hasStmt 0 (hY3 Try.prog) = true := ⟨by kernel_rfl, by kernel_rfl, by kernel_rfl, by kernel_rfl, by kernel_rfl, by kernel_rfl⟩
theorem shX2a0 (g : M3) (t : Bool) : roundR ((CCrn Try.prog).into 43 0) 60 (stmt 0 (hX2 Try.prog)) [5, 6, 7] [5, 6] [.slot 5] [.slot 5] (w1 g t 0) = some (.normal, w1 g t 0) := by kernel_rfl
theorem shX2c0 (g : M3) (t : Bool) : roundR ((CCrn Try.prog).into 43 0) 60 (seqDrop 2 (hX2 Try.prog)) [5, 6, 7] [5] [.slot 5] [.slot 5] (w1 g t 0) = some (.normal, w1 g t 1) := by kernel_rfl
theorem shH40 (g : M3) (t : Bool) : roundR ((CCrn Try.prog).into 43 0) 60 (forHead (stmt 0 (hY3 Try.prog))) [5, 6, 7, 8] [5] [.slot 5] [.slot 5] (w1 g t 0) = some (.normal, w2 g t 0 0) := by kernel_rfl
theorem shJ0 (g : M3) (t : Bool) : segR ((CCrn Try.prog).into 43 0) 60 2 (seqDrop 1 (hY3 Try.prog)) [5, 6, 7, 10, 11, 12] [.slot 5] (w1 g t 0) = some (w3 g t 0 1 2 0) := by kernel_rfl
theorem shX403 (g : M3) (t : Bool) : roundR ((CCrn Try.prog).into 43 0) 60 (hX4 Try.prog) [5, 6, 7, 8] [5, 6, 7] [.slot 5] [.slot 5] (w2 g t 0 3) = some (.exit 4, w1 g t 0) := by kernel_rfl
theorem shX400 (g : M3) (t : Bool) : roundR ((CCrn Try.prog).into 43 0) 60 (hX4 Try.prog) [5, 6, 7, 8] [5, 6, 7] [.slot 5] [.slot 5] (w2 g t 0 0) = some (.normal, w2 g t 0 1) := by kernel_rfl
theorem shX604 (g : M3) (t : Bool) : roundR ((CCrn Try.prog).into 43 0) 60 (hX6 Try.prog) [5, 6, 7, 10, 11, 12] [5, 6, 7] [.slot 5] [.slot 5] (w3 g t 0 1 2 4) = some (.exit 6, w1 g t 0) := by kernel_rfl
theorem shX401 (g : M3) (t : Bool) : roundR ((CCrn Try.prog).into 43 0) 60 (hX4 Try.prog) [5, 6, 7, 8] [5, 6, 7] [.slot 5] [.slot 5] (w2 g t 0 1) = gd (rdB g.b g.e) (match (rnd g.b g.e) != 0 with
  | true => match decide ((ad01 (ad01 g (W (0 - (rnd g.b g.e)))) 0).a < g.a) with
    | true => some (.normal, w2 (ad01 g (W (0 - (rnd g.b g.e)))) true 0 2)
    | false => some (.normal, w2 g t 0 2)
  | false => some (.normal, w2 g t 0 2)) := by kernel_rfl
theorem shX402 (g : M3) (t : Bool) : roundR ((CCrn Try.prog).into 43 0) 60 (hX4 Try.prog) [5, 6, 7, 8] [5, 6, 7] [.slot 5] [.slot 5] (w2 g t 0 2) = gd (rdB g.c g.i) (match (rnd g.c g.i) != 0 with
  | true => match decide ((ad02 (ad02 g (W (0 - (rnd g.c g.i)))) 0).a < g.a) with
    | true => some (.normal, w2 (ad02 g (W (0 - (rnd g.c g.i)))) true 0 3)
    | false => some (.normal, w2 g t 0 3)
  | false => some (.normal, w2 g t 0 3)) := by kernel_rfl
theorem shX600 (g : M3) (t : Bool) : roundR ((CCrn Try.prog).into 43 0) 60 (hX6 Try.prog) [5, 6, 7, 10, 11, 12] [5, 6, 7] [.slot 5] [.slot 5] (w3 g t 0 1 2 0) = (match decide ((ad02 (ad01 g (-1)) (-1)).a < g.a) with
  | true => some (.normal, w3 (ad02 (ad01 g (-1)) (-1)) true 0 1 2 1)
  | false => some (.normal, w3 g t 0 1 2 1)) := by kernel_rfl
theorem shX601 (g : M3) (t : Bool) : roundR ((CCrn Try.prog).into 43 0) 60 (hX6 Try.prog) [5, 6, 7, 10, 11, 12] [5, 6, 7] [.slot 5] [.slot 5] (w3 g t 0 1 2 1) = (match decide ((ad02 (ad01 g (1)) (-1)).a < g.a) with
  | true => some (.normal, w3 (ad02 (ad01 g (1)) (-1)) true 0 1 2 2)
  | false => some (.normal, w3 g t 0 1 2 2)) := by kernel_rfl
theorem shX602 (g : M3) (t : Bool) : roundR ((CCrn Try.prog).into 43 0) 60 (hX6 Try.prog) [5, 6, 7, 10, 11, 12] [5, 6, 7] [.slot 5] [.slot 5] (w3 g t 0 1 2 2) = (match decide ((ad02 (ad01 g (-1)) (1)).a < g.a) with
  | true => some (.normal, w3 (ad02 (ad01 g (-1)) (1)) true 0 1 2 3)
  | false => some (.normal, w3 g t 0 1 2 3)) := by kernel_rfl
theorem shX603 (g : M3) (t : Bool) : roundR ((CCrn Try.prog).into 43 0) 60 (hX6 Try.prog) [5, 6, 7, 10, 11, 12] [5, 6, 7] [.slot 5] [.slot 5] (w3 g t 0 1 2 3) = (match decide ((ad02 (ad01 g (1)) (1)).a < g.a) with
  | true => some (.normal, w3 (ad02 (ad01 g (1)) (1)) true 0 1 2 4)
  | false => some (.normal, w3 g t 0 1 2 4)) := by kernel_rfl
theorem shX2a1 (g : M3) (t : Bool) : roundR ((CCrn Try.prog).into 43 0) 60 (stmt 0 (hX2 Try.prog)) [5, 6, 7] [5, 6] [.slot 5] [.slot 5] (w1 g t 1) = some (.normal, w1 g t 1) := by kernel_rfl
theorem shX2c1 (g : M3) (t : Bool) : roundR ((CCrn Try.prog).into 43 0) 60 (seqDrop 2 (hX2 Try.prog)) [5, 6, 7] [5] [.slot 5] [.slot 5] (w1 g t 1) = some (.normal, w1 g t 2) := by kernel_rfl
theorem shH41 (g : M3) (t : Bool) : roundR ((CCrn Try.prog).into 43 0) 60 (forHead (stmt 0 (hY3 Try.prog))) [5, 6, 7, 8] [5] [.slot 5] [.slot 5] (w1 g t 1) = some (.normal, w2 g t 1 0) := by kernel_rfl
theorem shJ1 (g : M3) (t : Bool) : segR ((CCrn Try.prog).into 43 0) 60 2 (seqDrop 1 (hY3 Try.prog)) [5, 6, 7, 10, 11, 12] [.slot 5] (w1 g t 1) = some (w3 g t 1 2 0 0) := by kernel_rfl
theorem shX413 (g : M3) (t : Bool) : roundR ((CCrn Try.prog).into 43 0) 60 (hX4 Try.prog) [5, 6, 7, 8] [5, 6, 7] [.slot 5] [.slot 5] (w2 g t 1 3) = some (.exit 4, w1 g t 1) := by kernel_rfl
theorem shX411 (g : M3) (t : Bool) : roundR ((CCrn Try.prog).into 43 0) 60 (hX4 Try.prog) [5, 6, 7, 8] [5, 6, 7] [.slot 5] [.slot 5] (w2 g t 1 1) = some (.normal, w2 g t 1 2) := by kernel_rfl
theorem shX614 (g : M3) (t : Bool) : roundR ((CCrn Try.prog).into 43 0) 60 (hX6 Try.prog) [5, 6, 7, 10, 11, 12] [5, 6, 7] [.slot 5] [.slot 5] (w3 g t 1 2 0 4) = some (.exit 6, w1 g t 1) := by kernel_rfl
theorem shX410 (g : M3) (t : Bool) : roundR ((CCrn Try.prog).into 43 0) 60 (hX4 Try.prog) [5, 6, 7, 8] [5, 6, 7] [.slot 5] [.slot 5] (w2 g t 1 0) = gd (rdB g.d g.a) (match (rnd g.d g.a) != 0 with
  | true => match decide ((ad10 (ad10 g (W (0 - (rnd g.d g.a)))) 0).e < g.e) with
    | true => some (.normal, w2 (ad10 g (W (0 - (rnd g.d g.a)))) true 1 1)
    | false => some (.normal, w2 g t 1 1)
  | false => some (.normal, w2 g t 1 1)) := by kernel_rfl
theorem shX412 (g : M3) (t : Bool) : roundR ((CCrn Try.prog).into 43 0) 60 (hX4 Try.prog) [5, 6, 7, 8] [5, 6, 7] [.slot 5] [.slot 5] (w2 g t 1 2) = gd (rdB g.f g.i) (match (rnd g.f g.i) != 0 with
  | true => match decide ((ad12 (ad12 g (W (0 - (rnd g.f g.i)))) 0).e < g.e) with
    | true => some (.normal, w2 (ad12 g (W (0 - (rnd g.f g.i)))) true 1 3)
    | false => some (.normal, w2 g t 1 3)
  | false => some (.normal, w2 g t 1 3)) := by kernel_rfl
theorem shX610 (g : M3) (t : Bool) : roundR ((CCrn Try.prog).into 43 0) 60 (hX6 Try.prog) [5, 6, 7, 10, 11, 12] [5, 6, 7] [.slot 5] [.slot 5] (w3 g t 1 2 0 0) = (match decide ((ad10 (ad12 g (-1)) (-1)).e < g.e) with
  | true => some (.normal, w3 (ad10 (ad12 g (-1)) (-1)) true 1 2 0 1)
  | false => some (.normal, w3 g t 1 2 0 1)) := by kernel_rfl
theorem shX611 (g : M3) (t : Bool) : roundR ((CCrn Try.prog).into 43 0) 60 (hX6 Try.prog) [5, 6, 7, 10, 11, 12] [5, 6, 7] [.slot 5] [.slot 5] (w3 g t 1 2 0 1) = (match decide ((ad10 (ad12 g (1)) (-1)).e < g.e) with
  | true => some (.normal, w3 (ad10 (ad12 g (1)) (-1)) true 1 2 0 2)
  | false => some (.normal, w3 g t 1 2 0 2)) := by kernel_rfl
theorem shX612 (g : M3) (t : Bool) : roundR ((CCrn Try.prog).into 43 0) 60 (hX6 Try.prog) [5, 6, 7, 10, 11, 12] [5, 6, 7] [.slot 5] [.slot 5] (w3 g t 1 2 0 2) = (match decide ((ad10 (ad12 g (-1)) (1)).e < g.e) with
  | true => some (.normal, w3 (ad10 (ad12 g (-1)) (1)) true 1 2 0 3)
  | false => some (.normal, w3 g t 1 2 0 3)) := by kernel_rfl
theorem shX613 (g : M3) (t : Bool) : roundR ((CCrn Try.prog).into 43 0) 60 (hX6 Try.prog) [5, 6, 7, 10, 11, 12] [5, 6, 7] [.slot 5] [.slot 5] (w3 g t 1 2 0 3) = (match decide ((ad10 (ad12 g (1)) (1)).e < g.e) with
  | true => some (.normal, w3 (ad10 (ad12 g (1)) (1)) true 1 2 0 4)
  | false => some (.normal, w3 g t 1 2 0 4)) := by kernel_rfl
theorem shX2a2 (g : M3) (t : Bool) : roundR ((CCrn Try.prog).into 43 0) 60 (stmt 0 (hX2 Try.prog)) [5, 6, 7] [5, 6] [.slot 5] [.slot 5] (w1 g t 2) = some (.normal, w1 g t 2) := by kernel_rfl
theorem shX2c2 (g : M3) (t : Bool) : roundR ((CCrn Try.prog).into 43 0) 60 (seqDrop 2 (hX2 Try.prog)) [5, 6, 7] [5] [.slot 5] [.slot 5] (w1 g t 2) = some (.normal, w1 g t 3) := by kernel_rfl
theorem shH42 (g : M3) (t : Bool) : roundR ((CCrn Try.prog).into 43 0) 60 (forHead (stmt 0 (hY3 Try.prog))) [5, 6, 7, 8] [5] [.slot 5] [.slot 5] (w1 g t 2) = some (.normal, w2 g t 2 0) := by kernel_rfl
theorem shJ2 (g : M3) (t : Bool) : segR ((CCrn Try.prog).into 43 0) 60 2 (seqDrop 1 (hY3 Try.prog)) [5, 6, 7, 10, 11, 12] [.slot 5] (w1 g t 2) = some (w3 g t 2 0 1 0) := by kernel_rfl
theorem shX423 (g : M3) (t : Bool) : roundR ((CCrn Try.prog).into 43 0) 60 (hX4 Try.prog) [5, 6, 7, 8] [5, 6, 7] [.slot 5] [.slot 5] (w2 g t 2 3) = some (.exit 4, w1 g t 2) := by kernel_rfl
theorem shX422 (g : M3) (t : Bool) : roundR ((CCrn Try.prog).into 43 0) 60 (hX4 Try.prog) [5, 6, 7, 8] [5, 6, 7] [.slot 5] [.slot 5] (w2 g t 2 2) = some (.normal, w2 g t 2 3) := by kernel_rfl
theorem shX624 (g : M3) (t : Bool) : roundR ((CCrn Try.prog).into 43 0) 60 (hX6 Try.prog) [5, 6, 7, 10, 11, 12] [5, 6, 7] [.slot 5] [.slot 5] (w3 g t 2 0 1 4) = some (.exit 6, w1 g t 2) := by kernel_rfl
theorem shX420 (g : M3) (t : Bool) : roundR ((CCrn Try.prog).into 43 0) 60 (hX4 Try.prog) [5, 6, 7, 8] [5, 6, 7] [.slot 5] [.slot 5] (w2 g t 2 0) = gd (rdB g.g g.a) (match (rnd g.g g.a) != 0 with
  | true => match decide ((ad20 (ad20 g (W (0 - (rnd g.g g.a)))) 0).i < g.i) with
    | true => some (.normal, w2 (ad20 g (W (0 - (rnd g.g g.a)))) true 2 1)
    | false => some (.normal, w2 g t 2 1)
  | false => some (.normal, w2 g t 2 1)) := by kernel_rfl
theorem shX421 (g : M3) (t : Bool) : roundR ((CCrn Try.prog).into 43 0) 60 (hX4 Try.prog) [5, 6, 7, 8] [5, 6, 7] [.slot 5] [.slot 5] (w2 g t 2 1) = gd (rdB g.h g.e) (match (rnd g.h g.e) != 0 with
  | true => match decide ((ad21 (ad21 g (W (0 - (rnd g.h g.e)))) 0).i < g.i) with
    | true => some (.normal, w2 (ad21 g (W (0 - (rnd g.h g.e)))) true 2 2)
    | false => some (.normal, w2 g t 2 2)
  | false => some (.normal, w2 g t 2 2)) := by kernel_rfl
theorem shX620 (g : M3) (t : Bool) : roundR ((CCrn Try.prog).into 43 0) 60 (hX6 Try.prog) [5, 6, 7, 10, 11, 12] [5, 6, 7] [.slot 5] [.slot 5] (w3 g t 2 0 1 0) = (match decide ((ad21 (ad20 g (-1)) (-1)).i < g.i) with
  | true => some (.normal, w3 (ad21 (ad20 g (-1)) (-1)) true 2 0 1 1)
  | false => some (.normal, w3 g t 2 0 1 1)) := by kernel_rfl
theorem shX621 (g : M3) (t : Bool) : roundR ((CCrn Try.prog).into 43 0) 60 (hX6 Try.prog) [5, 6, 7, 10, 11, 12] [5, 6, 7] [.slot 5] [.slot 5] (w3 g t 2 0 1 1) = (match decide ((ad21 (ad20 g (1)) (-1)).i < g.i) with
  | true => some (.normal, w3 (ad21 (ad20 g (1)) (-1)) true 2 0 1 2)
  | false => some (.normal, w3 g t 2 0 1 2)) := by kernel_rfl
theorem shX622 (g : M3) (t : Bool) : roundR ((CCrn Try.prog).into 43 0) 60 (hX6 Try.prog) [5, 6, 7, 10, 11, 12] [5, 6, 7] [.slot 5] [.slot 5] (w3 g t 2 0 1 2) = (match decide ((ad21 (ad20 g (-1)) (1)).i < g.i) with
  | true => some (.normal, w3 (ad21 (ad20 g (-1)) (1)) true 2 0 1 3)
  | false => some (.normal, w3 g t 2 0 1 3)) := by kernel_rfl
theorem shX623 (g : M3) (t : Bool) : roundR ((CCrn Try.prog).into 43 0) 60 (hX6 Try.prog) [5, 6, 7, 10, 11, 12] [5, 6, 7] [.slot 5] [.slot 5] (w3 g t 2 0 1 3) = (match decide ((ad21 (ad20 g (1)) (1)).i < g.i) with
  | true => some (.normal, w3 (ad21 (ad20 g (1)) (1)) true 2 0 1 4)
  | false => some (.normal, w3 g t 2 0 1 4)) := by kernel_rfl
end Go.Proofs.Ytofblakbfmjgkaa
