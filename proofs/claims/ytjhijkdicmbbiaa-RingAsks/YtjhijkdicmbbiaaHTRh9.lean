/-
  facetref15.DocMul. Nothing here is trusted.
-/
import Derived.Test.YtjhijkdicmbbiaaHTRh7
namespace Go.Proofs.Ytjhijkdicmbbiaa
open Go Vx Go.RowKit
def dmB (P : Program) : Code := bodyOf P 29
def dmM (n1 n2 : Nat) (o1 o2 : Bool) (M1 M2 : Int) (c1 c2 : Nat → Int) : Mem := [Ir o1 n1 c1, Ir o2 n2 c2, .cells true 0 [vI M1, SI 0 n1], .cells true 0 [vI M2, SI 1 n2], .cells true 0 [vI 0, .slice none 0 0]]
def dmS (n1 n2 : Nat) (o1 o2 : Bool) (M1 M2 : Int) (c1 c2 : Nat → Int) : St := stOf 78 [(2, pt 2), (3, pt 3), (4, pt 4), (5, vI 0)] (dmM n1 n2 o1 o2 M1 M2 c1 c2)
def spd : List From := [.fix 0, .fix 1, .slot 2, .slot 3, .slot 4]
def spe : List From := [.fix 0, .fix 1, .slot 2, .slot 3, .slot 4, .slot 7]
theorem dmP0 (n1 n2 : Nat) (o1 o2 : Bool) (M1 M2 : Int) (c1 c2 : Nat → Int) : segR ((Cg6 Try.prog).into 29 2) 60 1 (dmB Try.prog) [2, 3, 4, 5] spd (enter Try.f29 [.agg #[vI M1, SI 0 n1], .agg #[vI M2, SI 1 n2]] [Ir o1 n1 c1, Ir o2 n2 c2]) = some (stOf 78 [(2, pt 2), (3, pt 3), (4, pt 4), (5, vI ((0 : Int)))] [.rows (o1) true 1 (n1) (iRow c1), .rows (o2) true 1 (n2) (iRow c2), .cells true 0 [vI (M1), SI 0 (n1)], .cells true 0 [vI (M2), SI 1 (n2)], .cells true 0 [vI ((0 : Int)), .slice none 0 0]]) := by kernel_rfl
theorem dmP1 (n1 n2 : Nat) (o1 o2 : Bool) (M1 M2 : Int) (c1 c2 : Nat → Int) : roundR ((Cg6 Try.prog).into 29 2) 60 (stmt 1 (dmB Try.prog)) [2, 3, 4, 5] [4, 5] spd [.fix 0, .fix 1, .slot 4] (dmS n1 n2 o1 o2 M1 M2 c1 c2) = gd (Nat.ble (0 + n1) n1 && true && true) (gd (Nat.beq n1 n1 && okIs n1 (shiftR 0 (iRow c1))) ((match !frmB M1 n1 (iOf (shiftR 0 (iRow c1))) with
  | true => some ((.ret, stOf 78 [(4, pt 2), (5, vI ((3 : Int)))] [.rows (o1) true 1 (n1) (iRow c1), .rows (o2) true 1 (n2) (iRow c2), .cells true 0 [vI ((0 : Int)), .slice none 0 0]]))
  | false => gd (Nat.ble (0 + n2) n2 && true && true) (gd (Nat.beq n2 n2 && okIs n2 (shiftR 0 (iRow c2))) ((match !frmB M2 n2 (iOf (shiftR 0 (iRow c2))) with
  | true => some ((.ret, stOf 78 [(4, pt 2), (5, vI ((3 : Int)))] [.rows (o1) true 1 (n1) (iRow c1), .rows (o2) true 1 (n2) (iRow c2), .cells true 0 [vI ((0 : Int)), .slice none 0 0]]))
  | false => some ((.normal, stOf 78 [(2, pt 2), (3, pt 3), (4, pt 4), (5, vI ((0 : Int)))] [.rows (o1) true 1 (n1) (iRow c1), .rows (o2) true 1 (n2) (iRow c2), .cells true 0 [vI (M1), SI 0 (n1)], .cells true 0 [vI (M2), SI 1 (n2)], .cells true 0 [vI ((0 : Int)), .slice none 0 0]])))))))) := by kernel_rfl
theorem dmP2 (n1 n2 : Nat) (o1 o2 : Bool) (M1 M2 : Int) (c1 c2 : Nat → Int) : segR ((Cg6 Try.prog).into 29 2) 60 2 (seqDrop 2 (dmB Try.prog)) [2, 3, 4, 5, 6, 7] spe (dmS n1 n2 o1 o2 M1 M2 c1 c2) = gd (decide ((0 : Int) ≤ if M2 > M1 then M2 else M1) && (decide ((if M2 > M1 then M2 else M1) ≤ if M2 > M1 then M2 else M1) && (decide ((if M2 > M1 then M2 else M1) * (16 : Int) ≤ (140737488355328 : Int)) && decide ((if M2 > M1 then M2 else M1) ≤ (4611686018427387904 : Int))))) (some (stOf 78 [(2, pt 2), (3, pt 3), (4, pt 4), (5, vI ((0 : Int))), (6, vI (if M2 > M1 then M2 else M1)), (7, SWb 5 (Int.toNat (if M2 > M1 then M2 else M1)))] [.rows (o1) true 1 (n1) (iRow c1), .rows (o2) true 1 (n2) (iRow c2), .cells true 0 [vI (M1), SI 0 (n1)], .cells true 0 [vI (M2), SI 1 (n2)], .cells true 0 [vI ((0 : Int)), .slice none 0 0], .rows true true 2 (Int.toNat (if M2 > M1 then M2 else M1)) zD])) := by kernel_rfl
def dmW (n1 n2 K : Nat) (o1 o2 : Bool) (M1 M2 m : Int) (c1 c2 : Nat → Int) (g : Nat → List Value) : St := stOf 78 [(2, pt 2), (3, pt 3), (4, pt 4), (5, vI 0), (6, vI m), (7, SWb 5 K)] (dmM n1 n2 o1 o2 M1 M2 c1 c2 ++ [.rows true true 2 K g])
def dmX (n1 n2 K : Nat) (o1 o2 : Bool) (M1 M2 m i : Int) (c1 c2 : Nat → Int) (g : Nat → List Value) : St := stOf 78 [(2, pt 2), (3, pt 3), (4, pt 4), (5, vI 0), (6, vI m), (7, SWb 5 K), (30, SI 0 n1), (31, vI n1), (32, vI i)] (dmM n1 n2 o1 o2 M1 M2 c1 c2 ++ [.rows true true 2 K g])
def dm33 (n1 n2 K : Nat) (o1 o2 : Bool) (M1 M2 m i : Int) (c1 c2 : Nat → Int) (g : Nat → List Value) (t : Bool) : St := stOf 78 [(2, pt 2), (3, pt 3), (4, pt 4), (5, vI 0), (6, vI m), (7, SWb 5 K), (30, SI 0 n1), (31, vI n1), (32, vI i), (33, .bool t)] (dmM n1 n2 o1 o2 M1 M2 c1 c2 ++ [.rows true true 2 K g])
def dmY (n1 n2 K : Nat) (o1 o2 : Bool) (M1 M2 m i x : Int) (c1 c2 : Nat → Int) (g : Nat → List Value) : St := stOf 78 [(2, pt 2), (3, pt 3), (4, pt 4), (5, vI 0), (6, vI m), (7, SWb 5 K), (8, vI i), (9, vI x), (30, SI 0 n1), (31, vI n1), (32, vI i)] (dmM n1 n2 o1 o2 M1 M2 c1 c2 ++ [.rows true true 2 K g])
def dmJ (n1 n2 K : Nat) (o1 o2 : Bool) (M1 M2 m i x j : Int) (c1 c2 : Nat → Int) (g : Nat → List Value) : St := stOf 78 [(2, pt 2), (3, pt 3), (4, pt 4), (5, vI 0), (6, vI m), (7, SWb 5 K), (8, vI i), (9, vI x), (30, SI 0 n1), (31, vI n1), (32, vI i), (38, SI 1 n2), (39, vI n2), (40, vI j)] (dmM n1 n2 o1 o2 M1 M2 c1 c2 ++ [.rows true true 2 K g])
def dmZ (n1 n2 K : Nat) (o1 o2 : Bool) (m : Int) (c1 c2 : Nat → Int) (g : Nat → List Value) : St := stOf 78 [(4, pt 2), (5, vI 0), (6, vI m), (7, SWb 3 K)] [Ir o1 n1 c1, Ir o2 n2 c2, .cells true 0 [vI 0, .slice none 0 0], .rows true true 2 K g]
def dmF1 (P : Program) : Code := forBody (stmt 4 (dmB P))
def dmK (P : Program) : Code := cL (cL (cR (cR (dmF1 P))))
def dmF2 (P : Program) : Code := cR (dmK P)
theorem dmHead (n1 n2 K : Nat) (o1 o2 : Bool) (M1 M2 m : Int) (c1 c2 : Nat → Int) : roundR ((Cg6 Try.prog).into 29 2) 60 (forHead (stmt 4 (dmB Try.prog))) [2, 3, 4, 5, 6, 7, 30, 31, 32] [2, 3, 4, 5, 6, 7, 30, 31, 32] spe spe (dmW n1 n2 K o1 o2 M1 M2 m c1 c2 zD) = some ((.normal, stOf 78 [(2, pt 2), (3, pt 3), (4, pt 4), (5, vI ((0 : Int))), (6, vI (m)), (7, SWb 5 (K)), (30, SI 0 (n1)), (31, vI (↑n1)), (32, vI ((0 : Int)))] [.rows (o1) true 1 (n1) (iRow c1), .rows (o2) true 1 (n2) (iRow c2), .cells true 0 [vI (M1), SI 0 (n1)], .cells true 0 [vI (M2), SI 1 (n2)], .cells true 0 [vI ((0 : Int)), .slice none 0 0], .rows true true 2 (K) (zD)])) := by kernel_rfl
theorem dm6 (n1 n2 K : Nat) (o1 o2 : Bool) (M1 M2 m i : Int) (c1 c2 g : Nat → Int) : roundR ((Cg6 Try.prog).into 29 2) 60 (cL (dmF1 Try.prog)) [2, 3, 4, 5, 6, 7, 30, 31, 32, 33] [2, 3, 4, 5, 6, 7, 30, 31, 32, 33] spe spe (dmX n1 n2 K o1 o2 M1 M2 m i c1 c2 (dRow g)) = some ((.normal, stOf 78 [(2, pt 2), (3, pt 3), (4, pt 4), (5, vI ((0 : Int))), (6, vI (m)), (7, SWb 5 (K)), (30, SI 0 (n1)), (31, vI (↑n1)), (32, vI (i)), (33, .bool (decide (i < ↑n1)))] [.rows (o1) true 1 (n1) (iRow c1), .rows (o2) true 1 (n2) (iRow c2), .cells true 0 [vI (M1), SI 0 (n1)], .cells true 0 [vI (M2), SI 1 (n2)], .cells true 0 [vI ((0 : Int)), .slice none 0 0], .rows true true 2 (K) (dRow g)])) := by kernel_rfl
theorem dmAT (n1 n2 K : Nat) (o1 o2 : Bool) (M1 M2 m i : Int) (c1 c2 g : Nat → Int) : roundR ((Cg6 Try.prog).into 29 2) 60 (cL (cR (dmF1 Try.prog))) [2, 3, 4, 5, 6, 7, 30, 31, 32] [2, 3, 4, 5, 6, 7, 30, 31, 32] spe spe (dm33 n1 n2 K o1 o2 M1 M2 m i c1 c2 (dRow g) true) = some ((.normal, stOf 78 [(2, pt 2), (3, pt 3), (4, pt 4), (5, vI ((0 : Int))), (6, vI (m)), (7, SWb 5 (K)), (30, SI 0 (n1)), (31, vI (↑n1)), (32, vI (i))] [.rows (o1) true 1 (n1) (iRow c1), .rows (o2) true 1 (n2) (iRow c2), .cells true 0 [vI (M1), SI 0 (n1)], .cells true 0 [vI (M2), SI 1 (n2)], .cells true 0 [vI ((0 : Int)), .slice none 0 0], .rows true true 2 (K) (dRow g)])) := by kernel_rfl
theorem dmAF (n1 n2 K : Nat) (o1 o2 : Bool) (M1 M2 m i : Int) (c1 c2 g : Nat → Int) : roundR ((Cg6 Try.prog).into 29 2) 60 (cL (cR (dmF1 Try.prog))) [4, 5, 6, 7] [4, 5, 6, 7] [.fix 0, .fix 1, .slot 4, .slot 7] [.fix 0, .fix 1, .slot 4, .slot 7] (dm33 n1 n2 K o1 o2 M1 M2 m i c1 c2 (dRow g) false) = some ((.exit 0, stOf 78 [(4, pt 2), (5, vI ((0 : Int))), (6, vI (m)), (7, SWb 3 (K))] [.rows (o1) true 1 (n1) (iRow c1), .rows (o2) true 1 (n2) (iRow c2), .cells true 0 [vI ((0 : Int)), .slice none 0 0], .rows true true 2 (K) (dRow g)])) := by kernel_rfl
theorem dm7 (n1 n2 K : Nat) (o1 o2 : Bool) (M1 M2 m i : Int) (c1 c2 g : Nat → Int) : roundR ((Cg6 Try.prog).into 29 2) 60 (cL (dmK Try.prog)) [2, 3, 4, 5, 6, 7, 8, 9, 30, 31, 32] [2, 3, 4, 5, 6, 7, 8, 9, 30, 31, 32] spe spe (dmX n1 n2 K o1 o2 M1 M2 m i c1 c2 (dRow g)) = gd (boundsI i n1) (some ((.normal, stOf 78 [(2, pt 2), (3, pt 3), (4, pt 4), (5, vI ((0 : Int))), (6, vI (m)), (7, SWb 5 (K)), (8, vI (i)), (9, vI (c1 (Int.toNat i))), (30, SI 0 (n1)), (31, vI (↑n1)), (32, vI (i))] [.rows (o1) true 1 (n1) (iRow c1), .rows (o2) true 1 (n2) (iRow c2), .cells true 0 [vI (M1), SI 0 (n1)], .cells true 0 [vI (M2), SI 1 (n2)], .cells true 0 [vI ((0 : Int)), .slice none 0 0], .rows true true 2 (K) (dRow g)]))) := by kernel_rfl
theorem dmH2 (n1 n2 K : Nat) (o1 o2 : Bool) (M1 M2 m i x : Int) (c1 c2 g : Nat → Int) : roundR ((Cg6 Try.prog).into 29 2) 60 (forHead (dmF2 Try.prog)) [2, 3, 4, 5, 6, 7, 8, 9, 30, 31, 32, 38, 39, 40] [2, 3, 4, 5, 6, 7, 8, 9, 30, 31, 32, 38, 39, 40] spe spe (dmY n1 n2 K o1 o2 M1 M2 m i x c1 c2 (dRow g)) = some ((.normal, stOf 78 [(2, pt 2), (3, pt 3), (4, pt 4), (5, vI ((0 : Int))), (6, vI (m)), (7, SWb 5 (K)), (8, vI (i)), (9, vI (x)), (30, SI 0 (n1)), (31, vI (↑n1)), (32, vI (i)), (38, SI 1 (n2)), (39, vI (↑n2)), (40, vI ((0 : Int)))] [.rows (o1) true 1 (n1) (iRow c1), .rows (o2) true 1 (n2) (iRow c2), .cells true 0 [vI (M1), SI 0 (n1)], .cells true 0 [vI (M2), SI 1 (n2)], .cells true 0 [vI ((0 : Int)), .slice none 0 0], .rows true true 2 (K) (dRow g)])) := by kernel_rfl
theorem dmR2 (n1 n2 K : Nat) (o1 o2 : Bool) (M1 M2 m i x j : Int) (c1 c2 g : Nat → Int) : roundR ((Cg6 Try.prog).into 29 2) 60 (forBody (dmF2 Try.prog)) [2, 3, 4, 5, 6, 7, 8, 9, 30, 31, 32, 38, 39, 40] [2, 3, 4, 5, 6, 7, 30, 31, 32] spe spe (dmJ n1 n2 K o1 o2 M1 M2 m i x j c1 c2 (dRow g)) = (match decide (j < ↑n2) with
  | true => gd (boundsI j n2) (gn (M1 == (0 : Int)) (gn (M2 == (0 : Int)) (gn (m == (0 : Int)) (gd (boundsI (Int.tmod (W (W (i * W (Int.tdiv m M1)) + W (j * W (Int.tdiv m M2)))) m) K) (gd (inRg x && in53 (c2 (Int.toNat j))) (gd (okD (g (Int.toNat (Int.tmod (W (W (i * W (Int.tdiv m M1)) + W (j * W (Int.tdiv m M2)))) m)) / (4503599627370496 : Int)) (g (Int.toNat (Int.tmod (W (W (i * W (Int.tdiv m M1)) + W (j * W (Int.tdiv m M2)))) m)) % (4503599627370496 : Int)) && (okD (x * c2 (Int.toNat j) / (4503599627370496 : Int)) (x * c2 (Int.toNat j) % (4503599627370496 : Int)) && ((1 : Int) == (1 : Int) || (1 : Int) == (-1 : Int)))) (gd (boundsI (Int.tmod (W (W (i * W (Int.tdiv m M1)) + W (j * W (Int.tdiv m M2)))) m) K) (some ((.normal, stOf 78 [(2, pt 2), (3, pt 3), (4, pt 4), (5, vI ((0 : Int))), (6, vI (m)), (7, SWb 5 (K)), (8, vI (i)), (9, vI (x)), (30, SI 0 (n1)), (31, vI (↑n1)), (32, vI (i)), (38, SI 1 (n2)), (39, vI (↑n2)), (40, vI (W (j + (1 : Int))))] [.rows (o1) true 1 (n1) (iRow c1), .rows (o2) true 1 (n2) (iRow c2), .cells true 0 [vI (M1), SI 0 (n1)], .cells true 0 [vI (M2), SI 1 (n2)], .cells true 0 [vI ((0 : Int)), .slice none 0 0], .rows true true 2 (K) (stR (dRow g) (Int.toNat (Int.tmod (W (W (i * W (Int.tdiv m M1)) + W (j * W (Int.tdiv m M2)))) m)) [vI ((decD (g (Int.toNat (Int.tmod (W (W (i * W (Int.tdiv m M1)) + W (j * W (Int.tdiv m M2)))) m)) / (4503599627370496 : Int)) (g (Int.toNat (Int.tmod (W (W (i * W (Int.tdiv m M1)) + W (j * W (Int.tdiv m M2)))) m)) % (4503599627370496 : Int)) + (1 : Int) * decD (x * c2 (Int.toNat j) / (4503599627370496 : Int)) (x * c2 (Int.toNat j) % (4503599627370496 : Int))) / (4503599627370496 : Int)), vI ((decD (g (Int.toNat (Int.tmod (W (W (i * W (Int.tdiv m M1)) + W (j * W (Int.tdiv m M2)))) m)) / (4503599627370496 : Int)) (g (Int.toNat (Int.tmod (W (W (i * W (Int.tdiv m M1)) + W (j * W (Int.tdiv m M2)))) m)) % (4503599627370496 : Int)) + (1 : Int) * decD (x * c2 (Int.toNat j) / (4503599627370496 : Int)) (x * c2 (Int.toNat j) % (4503599627370496 : Int))) % (4503599627370496 : Int))])]))))))))))
  | false => some ((.exit 2, stOf 78 [(2, pt 2), (3, pt 3), (4, pt 4), (5, vI ((0 : Int))), (6, vI (m)), (7, SWb 5 (K)), (30, SI 0 (n1)), (31, vI (↑n1)), (32, vI (i))] [.rows (o1) true 1 (n1) (iRow c1), .rows (o2) true 1 (n2) (iRow c2), .cells true 0 [vI (M1), SI 0 (n1)], .cells true 0 [vI (M2), SI 1 (n2)], .cells true 0 [vI ((0 : Int)), .slice none 0 0], .rows true true 2 (K) (dRow g)]))) := by kernel_rfl
theorem dm13 (n1 n2 K : Nat) (o1 o2 : Bool) (M1 M2 m i : Int) (c1 c2 g : Nat → Int) : roundR ((Cg6 Try.prog).into 29 2) 60 (cR (cR (cR (dmF1 Try.prog)))) [2, 3, 4, 5, 6, 7, 30, 31, 32] [2, 3, 4, 5, 6, 7, 30, 31, 32] spe spe (dmX n1 n2 K o1 o2 M1 M2 m i c1 c2 (dRow g)) = some ((.normal, stOf 78 [(2, pt 2), (3, pt 3), (4, pt 4), (5, vI ((0 : Int))), (6, vI (m)), (7, SWb 5 (K)), (30, SI 0 (n1)), (31, vI (↑n1)), (32, vI (W (i + (1 : Int))))] [.rows (o1) true 1 (n1) (iRow c1), .rows (o2) true 1 (n2) (iRow c2), .cells true 0 [vI (M1), SI 0 (n1)], .cells true 0 [vI (M2), SI 1 (n2)], .cells true 0 [vI ((0 : Int)), .slice none 0 0], .rows true true 2 (K) (dRow g)])) := by kernel_rfl
theorem dmEnd (n1 n2 K : Nat) (o1 o2 : Bool) (m : Int) (c1 c2 g : Nat → Int) : roundR ((Cg6 Try.prog).into 29 2) 60 (seqDrop 5 (dmB Try.prog)) [4, 5] [4, 5] [.fix 0, .fix 1, .slot 4, .cell 2 1] [.fix 0, .fix 1, .slot 4, .cell 2 1] (dmZ n1 n2 K o1 o2 m c1 c2 (dRow g)) = gd (Nat.ble (0 + K) K && true) (gd (Nat.ble (0 + K) K && true) (gd (fineB m && (Nat.beq K K && (okLs K (shiftR 0 (shiftR 0 (dRow g))) && decide (↑K ≤ m)))) ((match allR (Int.toNat m / 3) (cofE (Int.toNat m / 6) (Int.toNat m) (cut K (lOf K (shiftR 0 (shiftR 0 (dRow g)))))) with
  | true => some ((.ret, stOf 78 [(4, pt 2), (5, vI ((0 : Int)))] [.rows (o1) true 1 (n1) (iRow c1), .rows (o2) true 1 (n2) (iRow c2), .cells true 0 [vI (m), SI 3 (Int.toNat m / 3)], .rows true true 1 (Int.toNat m / 3) (iRow (cofE (Int.toNat m / 6) (Int.toNat m) (cut K (lOf K (shiftR 0 (shiftR 0 (dRow g)))))))]))
  | false => some ((.ret, stOf 78 [(4, pt 2), (5, vI ((4 : Int)))] [.rows (o1) true 1 (n1) (iRow c1), .rows (o2) true 1 (n2) (iRow c2), .cells true 0 [vI ((0 : Int)), .slice none 0 0], .no])))))) := by kernel_rfl
theorem dmNN (M1 M2 : Int) : exT ((Cg6 Try.prog).at 29) 60 Try.f29 [.agg #[vI M1, .slice none 0 0], .agg #[vI M2, .slice none 0 0]] [] [] = some ((.tuple #[.agg #[vI ((0 : Int)), .slice none 0 0], vI ((3 : Int))], [])) := by kernel_rfl
theorem dmNL (n2 : Nat) (o2 : Bool) (M1 M2 : Int) (c2 : Nat → Int) : exT ((Cg6 Try.prog).at 29) 60 Try.f29 [.agg #[vI M1, .slice none 0 0], .agg #[vI M2, SI 0 n2]] [Ir o2 n2 c2] [.fix 0] = some ((.tuple #[.agg #[vI ((0 : Int)), .slice none 0 0], vI ((3 : Int))], [.rows (o2) true 1 (n2) (iRow c2)])) := by kernel_rfl
theorem dmLN (n2 : Nat) (o2 : Bool) (M1 M2 : Int) (c2 : Nat → Int) : exT ((Cg6 Try.prog).at 29) 60 Try.f29 [.agg #[vI M1, SI 0 n2], .agg #[vI M2, .slice none 0 0]] [Ir o2 n2 c2] [.fix 0] = gd (Nat.ble (0 + n2) n2 && true && true) (gd (Nat.beq n2 n2 && okIs n2 (shiftR 0 (iRow c2))) ((match !frmB M1 n2 (iOf (shiftR 0 (iRow c2))) with
  | true => some ((.tuple #[.agg #[vI ((0 : Int)), .slice none 0 0], vI ((3 : Int))], [.rows (o2) true 1 (n2) (iRow c2)]))
  | false => some ((.tuple #[.agg #[vI ((0 : Int)), .slice none 0 0], vI ((3 : Int))], [.rows (o2) true 1 (n2) (iRow c2)]))))) := by kernel_rfl
theorem dm_eq : Try.f29.body = some (dmB Try.prog) := by kernel_rfl
theorem dmCode : dmF1 Try.prog = .seq (cL (dmF1 Try.prog)) (.seq (cL (cR (dmF1 Try.prog))) (.seq (.block 1 (.seq (cL (dmK Try.prog)) (dmF2 Try.prog))) (cR (cR (cR (dmF1 Try.prog)))))) := by kernel_rfl
theorem dmFor1 : isFor 0 (stmt 4 (dmB Try.prog)) = true := by kernel_rfl
theorem dmFor2 : isFor 2 (dmF2 Try.prog) = true := by kernel_rfl
theorem dmHas : hasStmt 1 (dmB Try.prog) = true ∧ hasStmt 4 (dmB Try.prog) = true := ⟨by kernel_rfl, by kernel_rfl⟩
def psI (k1 k2 K i j : Nat) : Nat := (i * k1 + j * k2) % K
def dmI (g : Nat → Int) (x : Int) (b : Nat → Int) (k1 k2 K i : Nat) : Nat → (Nat → Int)
  | 0 => g
  | j + 1 => putG (dmI g x b k1 k2 K i j) (psI k1 k2 K i j) (dmI g x b k1 k2 K i j (psI k1 k2 K i j) + x * b j)
def dmO (a b : Nat → Int) (k1 k2 K n2 : Nat) : Nat → (Nat → Int)
  | 0 => fun _ => 0
  | i + 1 => dmI (dmO a b k1 k2 K n2 i) (a i) b k1 k2 K i n2
theorem dmI_free (g : Nat → Int) (x : Int) (b : Nat → Int) (k1 k2 K i : Nat) (q : Nat) : ∀ j, (∀ t, t < j → psI k1 k2 K i t ≠ q) → dmI g x b k1 k2 K i j q = g q
  | 0, _ => rfl
  | j + 1, h => by
    show putG (dmI g x b k1 k2 K i j) (psI k1 k2 K i j) _ q = g q
    unfold putG
    rw [if_neg (fun e => h j (by omega) e.symm)]
    exact dmI_free g x b k1 k2 K i q j fun t ht => h t (by omega)
theorem dmI_bd {g : Nat → Int} {x P : Int} {b : Nat → Int} {k1 k2 K i n2 : Nat} (hP : 0 ≤ P) (hx : ∀ j, j < n2 → -P ≤ x * b j ∧ x * b j ≤ P) (inj : ∀ j t, j < n2 → t < j → psI k1 k2 K i t ≠ psI k1 k2 K i j) : ∀ j, j ≤ n2 → ∀ q, g q - P ≤ dmI g x b k1 k2 K i j q ∧ dmI g x b k1 k2 K i j q ≤ g q + P
  | 0, _, q => by show g q - P ≤ g q ∧ g q ≤ g q + P; omega
  | j + 1, hj, q => by
    show g q - P ≤ putG (dmI g x b k1 k2 K i j) (psI k1 k2 K i j) _ q ∧ putG (dmI g x b k1 k2 K i j) (psI k1 k2 K i j) _ q ≤ g q + P
    unfold putG
    by_cases h : q = psI k1 k2 K i j
    · rw [if_pos h, ← h, dmI_free g x b k1 k2 K i q j fun t ht => by rw [h]; exact inj j t (by omega) ht]
      have := hx j (by omega)
      omega
    · rw [if_neg h]; exact dmI_bd hP hx inj j (by omega) q
theorem dmO_bd {a b : Nat → Int} {P : Int} {k1 k2 K n1 n2 : Nat} (hP : 0 ≤ P) (hx : ∀ i j, i < n1 → j < n2 → -P ≤ a i * b j ∧ a i * b j ≤ P) (inj : ∀ i j t, i < n1 → j < n2 → t < j → psI k1 k2 K i t ≠ psI k1 k2 K i j) : ∀ i, i ≤ n1 → ∀ q, -(P * (i : Int)) ≤ dmO a b k1 k2 K n2 i q ∧ dmO a b k1 k2 K n2 i q ≤ P * (i : Int)
  | 0, _, q => by show -(P * 0) ≤ (0 : Int) ∧ (0 : Int) ≤ P * 0; omega
  | i + 1, hi, q => by
    have a1 := dmO_bd hP hx inj i (by omega) q
    have b1 := dmI_bd (g := dmO a b k1 k2 K n2 i) hP (fun j hj => hx i j (by omega) hj) (fun j t hj ht => inj i j t (by omega) hj ht) n2 (Nat.le_refl _) q
    have e : P * ((i + 1 : Nat) : Int) = P * (i : Int) + P := by rw [Int.natCast_succ, Int.mul_add, Int.mul_one]
    rw [e]
    show _ ≤ dmI _ _ _ _ _ _ _ _ q ∧ dmI _ _ _ _ _ _ _ _ q ≤ _
    omega
theorem ev_dmI {g T : Nat → Int} {x : Int} {b : Nat → Int} {k1 k2 K i : Nat} (hK : 0 < K) (hT : ∀ n, T (n % K) = T n) : ∀ j, Rin.ev K (dmI g x b k1 k2 K i j) T = Rin.ev K g T + x * Rin.S j (fun t => b t * T (i * k1 + t * k2))
  | 0 => by show _ = _ + x * 0; rw [Int.mul_zero, Int.add_zero]; rfl
  | j + 1 => by
    show Rin.S K (fun q => putG (dmI g x b k1 k2 K i j) (psI k1 k2 K i j) _ q * T q) = _
    rw [Rin.S_put _ _ _ _ _ (show psI k1 k2 K i j < K from Nat.mod_lt _ hK)]
    have ih : Rin.S K (fun q => dmI g x b k1 k2 K i j q * T q) = _ := ev_dmI (g := g) (x := x) (b := b) (k1 := k1) (k2 := k2) (i := i) hK hT j
    rw [ih, show T (psI k1 k2 K i j) = T (i * k1 + j * k2) from hT _]
    show _ = Rin.ev K g T + x * (Rin.S j (fun t => b t * T (i * k1 + t * k2)) + b j * T (i * k1 + j * k2))
    rw [Int.mul_add]
    generalize dmI g x b k1 k2 K i j (psI k1 k2 K i j) = z
    rw [show z + x * b j - z = x * b j by omega, Int.mul_assoc]
    omega
theorem ev_dmO {a b T : Nat → Int} {k1 k2 K n2 : Nat} (hK : 0 < K) (hT : ∀ n, T (n % K) = T n) : ∀ i, Rin.ev K (dmO a b k1 k2 K n2 i) T = Rin.S i (fun p => a p * Rin.S n2 (fun t => b t * T (p * k1 + t * k2)))
  | 0 => Rin.S_zero fun _ _ => Int.zero_mul _
  | i + 1 => by
    show Rin.ev K (dmI (dmO a b k1 k2 K n2 i) (a i) b k1 k2 K i n2) T = _
    rw [ev_dmI hK hT, ev_dmO hK hT i]
    rfl
theorem kk {M1 M2 : Int} {n1 n2 : Nat} {c1 c2 : Nat → Int} (h1 : frmB M1 n1 c1 = true) (h2 : frmB M2 n2 c2 = true) : ∃ e1 e2 : Nat, n1 = 2 * e1 ∧ n2 = 2 * e2 ∧ 1 ≤ e1 ∧ 1 ≤ e2 ∧ (mx M1 M2).toNat / 6 = (mx M1 M2).toNat / M1.toNat * e1 ∧ (mx M1 M2).toNat / 6 = (mx M1 M2).toNat / M2.toNat * e2 := by
  obtain ⟨f1, q1, _⟩ := frm_fine h1
  obtain ⟨f2, q2, _⟩ := frm_fine h2
  refine ⟨M1.toNat / 6, M2.toNat / 6, ?_⟩
  rcases fine_cases f1 with a | a | a | a <;> rcases fine_cases f2 with b | b | b | b <;> subst a b <;> refine ⟨by omega, by omega, ?_⟩ <;> decide
theorem dm_mul {M1 M2 : Int} {n1 n2 : Nat} {c1 c2 : Nat → Int} (h1 : frmB M1 n1 c1 = true) (h2 : frmB M2 n2 c2 = true) {q : Nat} (hq : q < (mx M1 M2).toNat / 3) : cofE ((mx M1 M2).toNat / 6) (mx M1 M2).toNat (dmO c1 c2 ((mx M1 M2).toNat / M1.toNat) ((mx M1 M2).toNat / M2.toNat) (mx M1 M2).toNat n2 n1) q = mulC M1 M2 c1 c2 q := by
  obtain ⟨f1, _, _⟩ := frm_fine h1
  obtain ⟨f2, _, _⟩ := frm_fine h2
  obtain ⟨fm, _, _⟩ := mx_ok f1 f2
  obtain ⟨s1, s2, s3, s4⟩ := six fm
  obtain ⟨⟨_, a2⟩, _, b2⟩ := mx_mul f1 f2
  obtain ⟨e1, e2, n1e, n2e, g1, g2, k1e, k2e⟩ := kk h1 h2
  have hm : mulC M1 M2 c1 c2 = Rin.mulE ((mx M1 M2).toNat / 6) (fineG ((mx M1 M2).toNat / M1.toNat) c1) (fineG ((mx M1 M2).toNat / M2.toNat) c2) := by
    unfold mulC Rin.mulE
    rw [s3]
  rw [hm]
  refine Rin.ev_eq s2 (fun T hT => ?_) (by omega : q < 2 * ((mx M1 M2).toNat / 6))
  have hTm : ∀ n, T (n % (mx M1 M2).toNat) = T n := fun n => by
    have := hT.mod n
    rw [← s4] at this
    exact this
  rw [Rin.ev_cof _ hT s2 (by omega) (by omega), ev_dmO (by omega) hTm, Rin.ev_mul' _ _ hT s2]
  generalize (mx M1 M2).toNat / M1.toNat = k1 at *
  generalize (mx M1 M2).toNat / M2.toNat = k2 at *
  generalize (mx M1 M2).toNat / 6 = e at *
  have o1 : ∀ U : Nat → Int, Rin.ev (2 * e) (fineG k1 c1) U = Rin.S n1 fun i => c1 i * U (i * k1) := fun U => by
    rw [k1e, Rin.ev_fine a2, ← n1e]; rfl
  have o2 : ∀ U : Nat → Int, Rin.ev (2 * e) (fineG k2 c2) U = Rin.S n2 fun j => c2 j * U (j * k2) := fun U => by
    rw [k2e, Rin.ev_fine b2, ← n2e]; rfl
  rw [o1]
  exact Rin.S_congr fun p _ => by rw [o2]
theorem dd (v : Int) : decD (v / 4503599627370496) (v % 4503599627370496) = v := by unfold decD; omega
theorem tdq {m M : Int} (hM : fineB M = true) (hm : fineB m = true) : W (m.tdiv M) = ((m.toNat / M.toNat : Nat) : Int) := by
  rcases fine_cases hM with a | a | a | a <;> rcases fine_cases hm with b | b | b | b <;> subst a b <;> decide
theorem dmIn : InBody ((Cg6 Try.prog).into 29 2) (forHead (stmt 4 (dmB Try.prog))) ∧ InBody ((Cg6 Try.prog).into 29 2) (dmF1 Try.prog) := for_in (C := Cg6 Try.prog) (f := 29) (B := 2) (id := 0) (k := 4) (fn := Try.f29) (b := dmB Try.prog) Try.func29 dm_eq dmFor1
theorem dmIn2 : InBody ((Cg6 Try.prog).into 29 2) (forHead (dmF2 Try.prog)) ∧ InBody ((Cg6 Try.prog).into 29 2) (forBody (dmF2 Try.prog)) := forHead_in dmFor2 dmIn.2.right.right.left.left.right
theorem ps_inj {m : Int} (hm : fineB m = true) {k2 n2 : Nat} (hk : 1 ≤ k2) (hn : n2 * k2 ≤ m.toNat) (A : Nat) {j t : Nat} (hj : j < n2) (ht : t < j) : (A + t * k2) % m.toNat ≠ (A + j * k2) % m.toNat := by
  have h1 : t * k2 < j * k2 := (Nat.mul_lt_mul_right (by omega)).2 ht
  have h2 : j * k2 < n2 * k2 := (Nat.mul_lt_mul_right (by omega)).2 hj
  generalize t * k2 = u at *
  generalize j * k2 = v at *
  have hK : m.toNat = 24 ∨ m.toNat = 48 ∨ m.toNat = 96 ∨ m.toNat = 192 := by have := fine_cases hm; omega
  generalize m.toNat = K at *
  rcases hK with a | a | a | a <;> subst a <;> omega
theorem dmInner (n1 n2 : Nat) (o1 o2 : Bool) (M1 M2 m : Int) (c1 c2 g : Nat → Int) (x : Int) (i : Nat) (f1 : fineB M1 = true) (f2 : fineB M2 = true) (fm : fineB m = true) (hi : i ≤ 64) (hn2 : n2 ≤ 64) (hk1 : m.toNat / M1.toNat ≤ 8) (hk2 : m.toNat / M2.toNat ≤ 8) (hx : inRg x = true) (hc : ∀ j, j < n2 → inRg (c2 j) = true)
    (hb : ∀ j, j ≤ n2 → ∀ q, -1298074214633706907132624082305024 ≤ dmI g x c2 (m.toNat / M1.toNat) (m.toNat / M2.toNat) m.toNat i j q ∧ dmI g x c2 (m.toNat / M1.toNat) (m.toNat / M2.toNat) m.toNat i j q ≤ 1298074214633706907132624082305024) :
    CodeSem Try.prog 2 (dmF2 Try.prog) (dmY n1 n2 m.toNat o1 o2 M1 M2 m i x c1 c2 (dRow g)) .normal (dmX n1 n2 m.toNat o1 o2 M1 M2 m i c1 c2 (dRow (dmI g x c2 (m.toNat / M1.toNat) (m.toNat / M2.toNat) m.toNat i n2))) := by
  have hm := fine_cases fm
  have hM1 := fine_cases f1
  have hM2 := fine_cases f2
  have hh := end_rule (C := Cg6 Try.prog) okCg6 (f := 29) (B := 2) dmIn2.1 (dmH2 n1 n2 m.toNat o1 o2 M1 M2 m i x c1 c2 g)
  have hr : ∀ j, j < n2 → ∃ s, roundR ((Cg6 Try.prog).into 29 2) 60 (forBody (dmF2 Try.prog)) [2, 3, 4, 5, 6, 7, 8, 9, 30, 31, 32, 38, 39, 40] [2, 3, 4, 5, 6, 7, 30, 31, 32] spe spe (dmJ n1 n2 m.toNat o1 o2 M1 M2 m i x j c1 c2 (dRow (dmI g x c2 (m.toNat / M1.toNat) (m.toNat / M2.toNat) m.toNat i j))) = some (.normal, s) ∧ StLike s (dmJ n1 n2 m.toNat o1 o2 M1 M2 m i x ((j + 1 : Nat) : Int) c1 c2 (dRow (dmI g x c2 (m.toNat / M1.toNat) (m.toNat / M2.toNat) m.toNat i (j + 1)))) := fun j hj => by
    have r := dmR2 n1 n2 m.toNat o1 o2 M1 M2 m i x j c1 c2 (dmI g x c2 (m.toNat / M1.toNat) (m.toNat / M2.toNat) m.toNat i j)
    have b1 : i * (m.toNat / M1.toNat) ≤ 64 * 8 := Nat.mul_le_mul hi hk1
    have b2 : j * (m.toNat / M2.toNat) ≤ 64 * 8 := Nat.mul_le_mul (by omega) hk2
    have ea : (W (W ((i : Int) * W (m.tdiv M1)) + W ((j : Int) * W (m.tdiv M2)))).tmod m = ((psI (m.toNat / M1.toNat) (m.toNat / M2.toNat) m.toNat i j : Nat) : Int) := by
      rw [tdq f1 fm, tdq f2 fm, ← Int.natCast_mul, ← Int.natCast_mul, W_in (n := ((i * (m.toNat / M1.toNat) : Nat) : Int)) (by omega), W_in (n := ((j * (m.toNat / M2.toNat) : Nat) : Int)) (by omega), ← Int.natCast_add, W_in (by omega), Int.tmod_eq_emod_of_nonneg (by omega)]
      unfold psI
      rw [Int.natCast_emod, show ((m.toNat : Nat) : Int) = m by omega]
    have hlt : psI (m.toNat / M1.toNat) (m.toNat / M2.toNat) m.toNat i j < m.toNat := Nat.mod_lt _ (by omega)
    have hv := hb j (by omega) (psI (m.toNat / M1.toNat) (m.toNat / M2.toNat) m.toNat i j)
    have hxc := abs_mul (inRg_iff.1 hx) (inRg_iff.1 (hc j hj))
    have h53 : in53 (c2 j) = true := in53_iff.2 (by have := inRg_iff.1 (hc j hj); omega)
    rw [ea] at r
    obtain ⟨A, hA⟩ : ∃ A, psI (m.toNat / M1.toNat) (m.toNat / M2.toNat) m.toNat i j = A := ⟨_, rfl⟩
    rw [hA] at r hlt hv
    have t1 : okD (dmI g x c2 (m.toNat / M1.toNat) (m.toNat / M2.toNat) m.toNat i j A / 4503599627370496) (dmI g x c2 (m.toNat / M1.toNat) (m.toNat / M2.toNat) m.toNat i j A % 4503599627370496) = true := okD_iff.2 (by omega)
    have t2 : okD (x * c2 j / 4503599627370496) (x * c2 j % 4503599627370496) = true := okD_iff.2 (by omega)
    rw [show decide ((j : Int) < (n2 : Int)) = true by simp; omega, boundsI_ok (n := n2) (i := (j : Int)) (by omega), show (M1 == 0) = false by simp; omega, show (M2 == 0) = false by simp; omega, show (m == 0) = false by simp; omega, boundsI_ok (n := m.toNat) (i := (A : Int)) (by omega)] at r
    simp only [rules, Int.toNat_natCast, hx, h53, t1, t2, dd, Int.one_mul] at r
    refine ⟨_, r, ?_⟩
    rw [show W ((j : Int) + 1) = ((j + 1 : Nat) : Int) by rw [W_in (by omega)]; simp]
    refine ⟨rfl, .refl _, .refl _, .refl _, .refl _, .refl _, .rows fun q _ => ?_, trivial⟩
    exact (stR_d _ _ _ q).trans (by rw [show A = psI (m.toNat / M1.toNat) (m.toNat / M2.toNat) m.toNat i j from hA.symm]; rfl)
  have hE := dmR2 n1 n2 m.toNat o1 o2 M1 M2 m i x n2 c1 c2 (dmI g x c2 (m.toNat / M1.toNat) (m.toNat / M2.toNat) m.toNat i n2)
  rw [show decide ((n2 : Int) < (n2 : Int)) = false by simp] at hE
  have hl := run_loop (C := Cg6 Try.prog) okCg6 (f := 29) (B := 2) (m := 60) dmIn2.2 (by simp) n2 (fun j => dmJ n1 n2 m.toNat o1 o2 M1 M2 m i x j c1 c2 (dRow (dmI g x c2 (m.toNat / M1.toNat) (m.toNat / M2.toNat) m.toNat i j))) hr hE
  exact for_rule dmFor2 hh hl
end Go.Proofs.Ytjhijkdicmbbiaa
