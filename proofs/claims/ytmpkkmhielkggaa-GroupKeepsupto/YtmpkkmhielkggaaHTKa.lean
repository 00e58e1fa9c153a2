/-
  facetlaw05.GroupKeeps, piece by piece: the runs. Nothing here is trusted.
-/
import Derived.Test.YtmpkkmhielkggaaHTBa
import Derived.Test.YtmpkkmhielkggaaHVyJ
namespace Go.Proofs.Ytmpkkmhielkggaa
open Go Vx
def tO : O3 := ⟨⟨0, -1, 0, 1, 0, 0, 0, 0, 1⟩, ⟨0, 0, 6⟩⟩
def mO : O3 := ⟨⟨-1, 0, 0, 0, -1, 0, 0, 0, -1⟩, ⟨0, 0, 0⟩⟩
def kpB (P : Program) : Code := bodyOf P 6
theorem kpB_eq : Try.f6.body = some (kpB Try.prog) := by kernel_rfl
def twR : Nat → List Value := chop 12 0 (tO.cells ++ mO.cells)
def kp1 (own : Bool) (n : Nat) (xs : List O3) (l : Nat) (r : Nat → List Value) : St := stOf 165 [(0, .slice (some ⟨0, 0, some 0⟩) n 12), (2, .bool false), (3, .slice (some ⟨1, 0, some 0⟩) l 12), (4, .slice (some ⟨1, 0, some 0⟩) n 12)] [.rows own true 12 n (opRow xs), .rows true true 12 l r]
theorem kpP1 (own : Bool) (n : Nat) (xs : List O3) : segR ((Cqa Try.prog).into 6 1) 60 4 (kpB Try.prog) [0, 2, 3, 4] [.fix 0, .slot 3] (enter Try.f6 [.slice (some ⟨0, 0, some 0⟩) n 12] [.rows own true 12 n (opRow xs)]) =
    gd (lk n) (gd (twT n (opRow xs)) (gn (Nat.beq n 0) (gd (Nat.beq n n && room12 (n + 2)) (gd (leI (n : Int) (n + 2)) (some (kp1 own n xs (n + 2) (catR n (opRow (opsOf n (opRow xs))) twR))))))) := by kernel_rfl
/-- Close and DocClose, with no error; with one. -/
def Cka (P : Program) : Cx := ((Cpb P).good 12 [true, true]).good 25 [true, true]
theorem okka : CxOk (Cka Try.prog) := Cx.good_ok (Cx.good_ok okpb _ _) _ _
def Ckb (P : Program) : Cx := ((Cpb P).road 12 [true, false]).road 25 [true, false]
theorem okkb : CxOk (Ckb Try.prog) := Cx.road_ok (Cx.road_ok okpb _ _) _ _
def lkn (n l : Nat) : Bool := Nat.ble (0 + n) l && true
def kpA (own : Bool) (n : Nat) (xs : List O3) (l : Nat) (F : List O3) (k : Nat) (G : List O3) : St := stOf 165 [(0, .slice (some ⟨0, 0, some 0⟩) n 12), (2, .bool false), (3, .slice (some ⟨1, 0, some 0⟩) l 12), (4, .slice (some ⟨1, 0, some 0⟩) n 12), (5, .slice (some ⟨2, 0, some 0⟩) k 12), (6, vI 0), (7, .slice (some ⟨3, 0, some 0⟩) k 12), (9, .slice (some ⟨4, 0, some 0⟩) k 12), (10, vI 0)] [.rows own true 12 n (opRow xs), .rows true true 12 l (opRow F), .rows true true 12 k (opRow G), .rows true true 12 k (opRow G), .rows true true 12 k (opRow G)]
def kpN (own : Bool) (n : Nat) (xs : List O3) (l : Nat) (F : List O3) (e f : Int) : St := stOf 165 [(0, .slice (some ⟨0, 0, some 0⟩) n 12), (2, .bool false), (3, .slice (some ⟨1, 0, some 0⟩) l 12), (4, .slice (some ⟨1, 0, some 0⟩) n 12), (5, .slice none 0 0), (6, vI e), (7, .slice none 0 0), (9, .slice none 0 0), (10, vI f)] [.rows own true 12 n (opRow xs), .rows true true 12 l (opRow F)]
def kpG (own : Bool) (n : Nat) (xs : List O3) (l : Nat) (F : List O3) (k k2 : Nat) (G H : List O3) : St := stOf 165 [(0, .slice (some ⟨0, 0, some 0⟩) n 12), (2, .bool false), (3, .slice (some ⟨1, 0, some 0⟩) l 12), (4, .slice (some ⟨1, 0, some 0⟩) n 12), (5, .slice (some ⟨2, 0, some 0⟩) k 12), (6, vI 0), (7, .slice (some ⟨3, 0, some 0⟩) k 12), (9, .slice (some ⟨4, 0, some 0⟩) k2 12), (10, vI 0)] [.rows own true 12 n (opRow xs), .rows true true 12 l (opRow F), .rows true true 12 k (opRow G), .rows true true 12 k (opRow G), .rows true true 12 k2 (opRow H)]
theorem kpP2 (own : Bool) (n : Nat) (xs : List O3) (l : Nat) (F : List O3) : segR ((Cka Try.prog).into 6 1) 60 3 (seqDrop 4 (kpB Try.prog)) [0, 2, 3, 4, 5, 6, 7, 9, 10] [.fix 0, .slot 3, .slot 5, .slot 7, .slot 9] (kp1 own n xs l (opRow F)) =
    gd (lkn n l) (gd (oT n (opRow F)) (gd (clsOk (opsOf n (opRow F))) (gd (lkn n l) (gd (oT n (opRow F)) (gd (clsOk (opsOf n (opRow F))) (gd (lk n) (gd (dcT n (opRow xs)) (gd (clsOk (opsOf n (opRow xs)))
      (some (kpG own n xs l F (clsG (opsOf n (opRow F))).length (clsG (opsOf n (opRow xs))).length (clsG (opsOf n (opRow F))) (clsG (opsOf n (opRow xs)))))))))))))  := by kernel_rfl
theorem kpP2n (own : Bool) (n : Nat) (xs : List O3) (l : Nat) (F : List O3) : segR ((Ckb Try.prog).into 6 1) 60 3 (seqDrop 4 (kpB Try.prog)) [0, 2, 3, 4, 5, 6, 7, 9, 10] [.fix 0, .slot 3] (kp1 own n xs l (opRow F)) =
    gd (lkn n l) (gd (oT n (opRow F)) (gn (clsOk (opsOf n (opRow F))) (gd (lkn n l) (gd (oT n (opRow F)) (gn (clsOk (opsOf n (opRow F))) (gd (lk n) (gd (dcT n (opRow xs)) (gn (clsOk (opsOf n (opRow xs)))
      (some (kpN own n xs l F (clsErr (opsOf n (opRow F))) (clsErr (opsOf n (opRow xs))))))))))))) := by kernel_rfl
/-- Same as yes; Check and DocCheck as they answer. -/
def Ckc (P : Program) : Cx := (((Cpb P).looksG 19 [true]).looks 14 [true]).looks 21 [true]
theorem okkc : CxOk (Ckc Try.prog) := Cx.looks_ok (Cx.looks_ok (Cx.looksG_ok okpb _ _) _ _) _ _
def kpA2 (own : Bool) (n : Nat) (xs : List O3) (l : Nat) (r : Nat → List Value) (k : Nat) (G : List O3) : St := stOf 165 [(2, .bool false), (4, .slice (some ⟨1, 0, some 0⟩) n 12), (5, .slice (some ⟨2, 0, some 0⟩) k 12), (7, .slice (some ⟨3, 0, some 0⟩) k 12), (9, .slice (some ⟨4, 0, some 0⟩) k 12)] [.rows own true 12 n (opRow xs), .rows true true 12 l r, .rows true true 12 k (opRow G), .rows true true 12 k (opRow G), .rows true true 12 k (opRow G)]
def kpN2 (own : Bool) (n : Nat) (xs : List O3) (l : Nat) (r : Nat → List Value) : St := stOf 165 [(2, .bool false), (4, .slice (some ⟨1, 0, some 0⟩) n 12), (5, .slice none 0 0), (7, .slice none 0 0), (9, .slice none 0 0)] [.rows own true 12 n (opRow xs), .rows true true 12 l r]
def kpS (k : Nat) (G : List O3) (x : Option St) : Option St := gd (lk2 k k) (gd (ssT k k (opRow G) (opRow G)) (gd (sameB (opsOf k (opRow G)) (opsOf k (opRow G))) x))
theorem kpP3 (own : Bool) (n : Nat) (xs : List O3) (l : Nat) (F : List O3) (k : Nat) (G : List O3) : segR ((Ckc Try.prog).into 6 1) 90 1 (seqDrop 7 (kpB Try.prog)) [2, 4, 5, 7, 9] [.fix 0, .slot 4, .slot 5, .slot 7, .slot 9] (kpA own n xs l F k G) =
    kpS k G (kpS k G (gd (lkn n l) (gd (oT n (opRow F)) (gd (lk n) (gd (pT n (opRow xs)) (match chkI (opsOf n (opRow F)) != chkI (opsOf n (opRow xs)) with
      | true => none
      | false => gd (Nat.ble (0 + n) l && (Nat.ble (0 + n) n && true)) (gd (ssT n n (opRow F) (opRow xs)) (gd (sameB (opsOf n (opRow F)) (opsOf n (opRow xs))) (gd (boundsI (n : Int) l) (match !((atO F (n : Int)).eqB tO) with
        | true => none
        | false => gd (boundsI (W ((n : Int) + 1)) l) (match !((atO F (W ((n : Int) + 1))).eqB mO) with
          | true => none
          | false => some (kpA2 own n xs l (opRow F) k G)))))))))))) := by kernel_rfl
theorem kpP3n (own : Bool) (n : Nat) (xs : List O3) (l : Nat) (F : List O3) (e f : Int) : segR ((Ckc Try.prog).into 6 1) 90 1 (seqDrop 7 (kpB Try.prog)) [2, 4, 5, 7, 9] [.fix 0, .slot 4] (kpN own n xs l F e f) =
    (match e != f with
    | true => none
    | false => gd (lkn n l) (gd (oT n (opRow F)) (gd (lk n) (gd (pT n (opRow xs)) (match chkI (opsOf n (opRow F)) != chkI (opsOf n (opRow xs)) with
      | true => none
      | false => gd (Nat.ble (0 + n) l && (Nat.ble (0 + n) n && true)) (gd (ssT n n (opRow F) (opRow xs)) (gd (sameB (opsOf n (opRow F)) (opsOf n (opRow xs))) (gd (boundsI (n : Int) l) (match !((atO F (n : Int)).eqB tO) with
        | true => none
        | false => gd (boundsI (W ((n : Int) + 1)) l) (match !((atO F (W ((n : Int) + 1))).eqB mO) with
          | true => none
          | false => some (kpN2 own n xs l (opRow F)))))))))))) := by kernel_rfl
def stR (Y : List O3) (o : O3) (i : Int) : Nat → List Value := fun q => match Nat.beq q i.toNat with
  | true => setMany (opRow Y i.toNat) 0 o.cells
  | false => opRow Y q
theorem kpFor1 : isFor 0 (stmt 8 (kpB Try.prog)) = true := by kernel_rfl
theorem kpFor2 : isFor 2 (stmt 12 (kpB Try.prog)) = true := by kernel_rfl
theorem kpHas : hasStmt 8 (kpB Try.prog) = true ∧ hasStmt 12 (kpB Try.prog) = true := ⟨by kernel_rfl, by kernel_rfl⟩
def kpALH (own : Bool) (n : Nat) (xs : List O3) (k : Nat) (G : List O3) (l : Nat) (r : Nat → List Value) (i : Int) : St := stOf 165 [(2, .bool false), (4, .slice (some ⟨1, 0, some 0⟩) n 12), (5, .slice (some ⟨2, 0, some 0⟩) k 12), (7, .slice (some ⟨3, 0, some 0⟩) k 12), (9, .slice (some ⟨4, 0, some 0⟩) k 12), (90, vI n), (91, vI i)] [.rows own true 12 n (opRow xs), .rows true true 12 l r, .rows true true 12 k (opRow G), .rows true true 12 k (opRow G), .rows true true 12 k (opRow G)]
theorem kpALR (own : Bool) (n : Nat) (xs : List O3) (k : Nat) (G : List O3) (l : Nat) (Y : List O3) (i : Int) : roundR ((Cpb Try.prog).into 6 1) 60 (forBody (stmt 8 (kpB Try.prog))) [2, 4, 5, 7, 9, 90, 91] [2, 4, 5, 7, 9] [.fix 0, .slot 4, .slot 5, .slot 7, .slot 9] [.fix 0, .slot 4, .slot 5, .slot 7, .slot 9] (kpALH own n xs k G l (opRow Y) i) =
    (match decide (i < (n : Int)) with
    | true => match boundsI i n with
      | true => some (.normal, kpALH own n xs k G l (stR Y tO i) (W (i + 1)))
      | false => none
    | false => some (.exit 0, kpA2 own n xs l (opRow Y) k G)) := by kernel_rfl
theorem kpAL0 (own : Bool) (n : Nat) (xs : List O3) (k : Nat) (G : List O3) (l : Nat) (r : Nat → List Value) : roundR ((Cpb Try.prog).into 6 1) 60 (forHead (stmt 8 (kpB Try.prog))) [2, 4, 5, 7, 9, 90, 91] [2, 4, 5, 7, 9, 90, 91] [.fix 0, .slot 4, .slot 5, .slot 7, .slot 9] [.fix 0, .slot 4, .slot 5, .slot 7, .slot 9] (kpA2 own n xs l r k G) = some (.normal, kpALH own n xs k G l r 0) := by kernel_rfl
def kpNLH (own : Bool) (n : Nat) (xs : List O3) (l : Nat) (r : Nat → List Value) (i : Int) : St := stOf 165 [(2, .bool false), (4, .slice (some ⟨1, 0, some 0⟩) n 12), (5, .slice none 0 0), (7, .slice none 0 0), (9, .slice none 0 0), (90, vI n), (91, vI i)] [.rows own true 12 n (opRow xs), .rows true true 12 l r]
theorem kpNLR (own : Bool) (n : Nat) (xs : List O3) (l : Nat) (Y : List O3) (i : Int) : roundR ((Cpb Try.prog).into 6 1) 60 (forBody (stmt 8 (kpB Try.prog))) [2, 4, 5, 7, 9, 90, 91] [2, 4, 5, 7, 9] [.fix 0, .slot 4] [.fix 0, .slot 4] (kpNLH own n xs l (opRow Y) i) =
    (match decide (i < (n : Int)) with
    | true => match boundsI i n with
      | true => some (.normal, kpNLH own n xs l (stR Y tO i) (W (i + 1)))
      | false => none
    | false => some (.exit 0, kpN2 own n xs l (opRow Y))) := by kernel_rfl
theorem kpNL0 (own : Bool) (n : Nat) (xs : List O3) (l : Nat) (r : Nat → List Value) : roundR ((Cpb Try.prog).into 6 1) 60 (forHead (stmt 8 (kpB Try.prog))) [2, 4, 5, 7, 9, 90, 91] [2, 4, 5, 7, 9, 90, 91] [.fix 0, .slot 4] [.fix 0, .slot 4] (kpN2 own n xs l r) = some (.normal, kpNLH own n xs l r 0) := by kernel_rfl
/-- Twin of a list with maps, Close and DocClose, with no error; with one. -/
def Ckd (P : Program) : Cx := (((Cpb P).good 13 [true, false]).good 12 [true, true]).good 25 [true, true]
theorem okkd : CxOk (Ckd Try.prog) := Cx.good_ok (Cx.good_ok (Cx.good_ok okpb _ _) _ _) _ _
def Cke (P : Program) : Cx := (((Cpb P).good 13 [true, false]).road 12 [true, false]).road 25 [true, false]
theorem okke : CxOk (Cke Try.prog) := Cx.road_ok (Cx.road_ok (Cx.good_ok okpb _ _) _ _) _ _
def kpA3 (own : Bool) (n : Nat) (xs : List O3) (k : Nat) (G : List O3) (j j2 : Nat) (H I : List O3) : St := stOf 165 [(2, .bool false), (5, .slice (some ⟨1, 0, some 0⟩) k 12), (6, vI 0), (7, .slice (some ⟨2, 0, some 0⟩) k 12), (9, .slice (some ⟨3, 0, some 0⟩) k 12), (10, vI 0), (12, .slice (some ⟨4, 0, some 0⟩) j 12), (13, .slice (some ⟨5, 0, some 0⟩) j2 12)] [.rows own true 12 n (opRow xs), .rows true true 12 k (opRow G), .rows true true 12 k (opRow G), .rows true true 12 k (opRow G), .rows true true 12 j (opRow H), .rows true true 12 j2 (opRow I)]
def kpN3 (own : Bool) (n : Nat) (xs : List O3) (j j2 : Nat) (H I : List O3) : St := stOf 165 [(2, .bool false), (5, .slice none 0 0), (6, vI 0), (7, .slice none 0 0), (9, .slice none 0 0), (10, vI 0), (12, .slice (some ⟨1, 0, some 0⟩) j 12), (13, .slice (some ⟨2, 0, some 0⟩) j2 12)] [.rows own true 12 n (opRow xs), .rows true true 12 j (opRow H), .rows true true 12 j2 (opRow I)]
def kpN3e (own : Bool) (n : Nat) (xs : List O3) (e f : Int) : St := stOf 165 [(2, .bool false), (5, .slice none 0 0), (6, vI e), (7, .slice none 0 0), (9, .slice none 0 0), (10, vI f), (12, .slice none 0 0), (13, .slice none 0 0)] [.rows own true 12 n (opRow xs)]
def kpT5 (n l : Nat) (Y : List O3) (x : Option St) : Option St := gd (lkn n l) (gd (oT n (opRow Y)) (gd (clsOk (opsOf n (opRow Y))) (gd (lkn n l) (gd (twT n (opRow Y)) (gn (Nat.beq n 0) (gd (lk n) (gd (dcT n (opRow (opsOf n (opRow Y)))) (gd (clsOk (opsOf n (opRow (opsOf n (opRow Y))))) x))))))))
theorem kpP5 (own : Bool) (n : Nat) (xs : List O3) (l : Nat) (Y : List O3) (k : Nat) (G : List O3) : segR ((Ckd Try.prog).into 6 1) 60 2 (seqDrop 9 (kpB Try.prog)) [2, 5, 6, 7, 9, 10, 12, 13] [.fix 0, .slot 5, .slot 7, .slot 9, .slot 12, .slot 13] (kpA2 own n xs l (opRow Y) k G) =
    kpT5 n l Y (some (kpA3 own n xs k G (clsG (opsOf n (opRow Y))).length (clsG (opsOf n (opRow (opsOf n (opRow Y))))).length (clsG (opsOf n (opRow Y))) (clsG (opsOf n (opRow (opsOf n (opRow Y))))))) := by kernel_rfl
theorem kpP5n (own : Bool) (n : Nat) (xs : List O3) (l : Nat) (Y : List O3) : segR ((Ckd Try.prog).into 6 1) 60 2 (seqDrop 9 (kpB Try.prog)) [2, 5, 6, 7, 9, 10, 12, 13] [.fix 0, .slot 12, .slot 13] (kpN2 own n xs l (opRow Y)) =
    kpT5 n l Y (some (kpN3 own n xs (clsG (opsOf n (opRow Y))).length (clsG (opsOf n (opRow (opsOf n (opRow Y))))).length (clsG (opsOf n (opRow Y))) (clsG (opsOf n (opRow (opsOf n (opRow Y))))))) := by kernel_rfl
theorem kpP5e (own : Bool) (n : Nat) (xs : List O3) (l : Nat) (Y : List O3) : segR ((Cke Try.prog).into 6 1) 60 2 (seqDrop 9 (kpB Try.prog)) [2, 5, 6, 7, 9, 10, 12, 13] [.fix 0] (kpN2 own n xs l (opRow Y)) =
    gd (lkn n l) (gd (oT n (opRow Y)) (gn (clsOk (opsOf n (opRow Y))) (gd (lkn n l) (gd (twT n (opRow Y)) (gn (Nat.beq n 0) (gd (lk n) (gd (dcT n (opRow (opsOf n (opRow Y)))) (gn (clsOk (opsOf n (opRow (opsOf n (opRow Y)))))
      (some (kpN3e own n xs (clsErr (opsOf n (opRow Y))) (clsErr (opsOf n (opRow (opsOf n (opRow Y))))))))))))))) := by kernel_rfl
/-- Same as yes. -/
def Ckf (P : Program) : Cx := (Cpb P).looksG 19 [true]
theorem okkf : CxOk (Ckf Try.prog) := Cx.looksG_ok okpb _ _
def kpS2 (j j2 : Nat) (H I : List O3) (x : Option St) : Option St := gd (lk2 j j2) (gd (ssT j j2 (opRow H) (opRow I)) (gd (sameB (opsOf j (opRow H)) (opsOf j2 (opRow I))) x))
def kpA4 (own : Bool) (n : Nat) (xs : List O3) (k : Nat) (r : Nat → List Value) (G : List O3) : St := stOf 165 [(2, .bool false), (5, .slice (some ⟨1, 0, some 0⟩) k 12), (7, .slice (some ⟨2, 0, some 0⟩) k 12), (9, .slice (some ⟨3, 0, some 0⟩) k 12)] [.rows own true 12 n (opRow xs), .rows true true 12 k r, .rows true true 12 k (opRow G), .rows true true 12 k (opRow G)]
def kpN4 (own : Bool) (n : Nat) (xs : List O3) : St := stOf 165 [(2, .bool false), (5, .slice none 0 0), (7, .slice none 0 0), (9, .slice none 0 0)] [.rows own true 12 n (opRow xs)]
theorem kpP6 (own : Bool) (n : Nat) (xs : List O3) (k : Nat) (G : List O3) (j j2 : Nat) (H I : List O3) : segR ((Ckf Try.prog).into 6 1) 60 1 (seqDrop 11 (kpB Try.prog)) [2, 5, 7, 9] [.fix 0, .slot 5, .slot 7, .slot 9] (kpA3 own n xs k G j j2 H I) =
    kpS2 j j2 H I (kpS2 k k G G (some (kpA4 own n xs k (opRow G) G))) := by kernel_rfl
theorem kpP6n (own : Bool) (n : Nat) (xs : List O3) (j j2 : Nat) (H I : List O3) : segR ((Ckf Try.prog).into 6 1) 60 1 (seqDrop 11 (kpB Try.prog)) [2, 5, 7, 9] [.fix 0] (kpN3 own n xs j j2 H I) =
    kpS2 j j2 H I (some (kpN4 own n xs)) := by kernel_rfl
theorem kpP6e (own : Bool) (n : Nat) (xs : List O3) (e f : Int) : segR ((Ckf Try.prog).into 6 1) 60 1 (seqDrop 11 (kpB Try.prog)) [2, 5, 7, 9] [.fix 0] (kpN3e own n xs e f) =
    (match e != f with
    | true => none
    | false => some (kpN4 own n xs)) := by kernel_rfl
def kpMLH (own : Bool) (n : Nat) (xs : List O3) (k : Nat) (r : Nat → List Value) (G : List O3) (i : Int) : St := stOf 165 [(2, .bool false), (5, .slice (some ⟨1, 0, some 0⟩) k 12), (7, .slice (some ⟨2, 0, some 0⟩) k 12), (9, .slice (some ⟨3, 0, some 0⟩) k 12), (126, vI k), (127, vI i)] [.rows own true 12 n (opRow xs), .rows true true 12 k r, .rows true true 12 k (opRow G), .rows true true 12 k (opRow G)]
theorem kpMLR (own : Bool) (n : Nat) (xs : List O3) (k : Nat) (Y G : List O3) (i : Int) : roundR ((Cpb Try.prog).into 6 1) 60 (forBody (stmt 12 (kpB Try.prog))) [2, 5, 7, 9, 126, 127] [2, 5, 7, 9] [.fix 0, .slot 5, .slot 7, .slot 9] [.fix 0, .slot 5, .slot 7, .slot 9] (kpMLH own n xs k (opRow Y) G i) =
    (match decide (i < (k : Int)) with
    | true => match boundsI i k with
      | true => some (.normal, kpMLH own n xs k (stR Y mO i) G (W (i + 1)))
      | false => none
    | false => some (.exit 2, kpA4 own n xs k (opRow Y) G)) := by kernel_rfl
theorem kpML0 (own : Bool) (n : Nat) (xs : List O3) (k : Nat) (r : Nat → List Value) (G : List O3) : roundR ((Cpb Try.prog).into 6 1) 60 (forHead (stmt 12 (kpB Try.prog))) [2, 5, 7, 9, 126, 127] [2, 5, 7, 9, 126, 127] [.fix 0, .slot 5, .slot 7, .slot 9] [.fix 0, .slot 5, .slot 7, .slot 9] (kpA4 own n xs k r G) = some (.normal, kpMLH own n xs k r G 0) := by kernel_rfl
/-- The lists appended to. -/
def kpA5 (own : Bool) (n : Nat) (xs : List O3) (l : Nat) (r : Nat → List Value) (k : Nat) (G : List O3) : St := stOf 165 [(2, .bool false), (5, .slice (some ⟨1, 0, some 0⟩) l 12), (7, .slice (some ⟨2, 0, some 0⟩) k 12), (9, .slice (some ⟨3, 0, some 0⟩) k 12)] [.rows own true 12 n (opRow xs), .rows true true 12 l r, .rows true true 12 k (opRow G), .rows true true 12 k (opRow G)]
theorem kpP13 (own : Bool) (n : Nat) (xs : List O3) (k : Nat) (Y G : List O3) : segR ((Cpb Try.prog).into 6 1) 60 1 (seqDrop 13 (kpB Try.prog)) [2, 5, 7, 9] [.fix 0, .slot 5, .slot 7, .slot 9] (kpA4 own n xs k (opRow Y) G) =
    gd (Nat.beq k k && room12 (k + 1)) (some (kpA5 own n xs (k + 1) (catR k (opRow Y) (chop 12 0 tO.cells)) k G)) := by kernel_rfl
def kpA6 (own : Bool) (n : Nat) (xs : List O3) (l : Nat) (Y : List O3) (l2 : Nat) (r : Nat → List Value) : St := stOf 165 [(2, .bool false), (5, .slice (some ⟨1, 0, some 0⟩) l 12), (7, .slice (some ⟨2, 0, some 0⟩) l2 12)] [.rows own true 12 n (opRow xs), .rows true true 12 l (opRow Y), .rows true true 12 l2 r]
theorem kpP14 (own : Bool) (n : Nat) (xs : List O3) (l : Nat) (Y : List O3) (k : Nat) (G : List O3) : segR ((Ckf Try.prog).into 6 1) 60 2 (seqDrop 14 (kpB Try.prog)) [2, 5, 7] [.fix 0, .slot 5, .slot 7] (kpA5 own n xs l (opRow Y) k G) =
    kpS2 k k G G (gd (Nat.beq k k && room12 (k + 1)) (some (kpA6 own n xs l Y (k + 1) (catR k (opRow G) (chop 12 0 mO.cells))))) := by kernel_rfl
def kpLast (l : Nat) : Int := W ((l : Int) - 1)
theorem kpP16 (own : Bool) (n : Nat) (xs : List O3) (l : Nat) (Y : List O3) (l2 : Nat) (Z : List O3) : roundR ((Cpb Try.prog).into 6 1) 60 (seqDrop 16 (kpB Try.prog)) [2] [2] [.fix 0] [.fix 0] (kpA6 own n xs l Y l2 (opRow Z)) =
    gd (boundsI (kpLast l) l) (match (atO Y (kpLast l)).eqB tO with
      | true => gd (boundsI (kpLast l2) l2) (some (.ret, stOf 165 [(2, .bool ((atO Z (kpLast l2)).eqB mO))] [.rows own true 12 n (opRow xs)]))
      | false => some (.ret, stOf 165 [(2, .bool false)] [.rows own true 12 n (opRow xs)])) := by kernel_rfl
theorem kpP12n (own : Bool) (n : Nat) (xs : List O3) : roundR ((Ckf Try.prog).into 6 1) 60 (seqDrop 12 (kpB Try.prog)) [2] [2] [.fix 0] [.fix 0] (kpN4 own n xs) = some (.ret, stOf 165 [(2, .bool true)] [.rows own true 12 n (opRow xs)]) := by kernel_rfl
theorem kpRet (own : Bool) (n : Nat) (xs : List O3) : (retA Try.prog Try.f6 (.ret, stOf 165 [(2, .bool true)] [.rows own true 12 n (opRow xs)])).res = some (.bool true, [.rows own true 12 n (opRow xs)]) := by kernel_rfl
/-- A list of nothing. -/
def Ckz (P : Program) : Cx := ((((((Cpb P).good 13 [true]).good 12 [true, true]).good 25 [true, true]).looksG 19 [true]).looks 14 [true]).looks 21 [true]
theorem okkz : CxOk (Ckz Try.prog) := Cx.looks_ok (Cx.looks_ok (Cx.looksG_ok (Cx.good_ok (Cx.good_ok (Cx.good_ok okpb _ _) _ _) _ _) _ _) _ _) _ _
theorem kpZ0 : exT ((Ckz Try.prog).at 6) 120 Try.f6 [.slice none 0 0] [] [] = some (.bool true, []) := by kernel_rfl
theorem kpZ1 (own : Bool) : exT ((Ckz Try.prog).at 6) 120 Try.f6 [.slice (some ⟨0, 0, some 0⟩) 0 12] [.rows own true 12 0 (opRow [])] [.fix 0] = some (.bool true, [.rows own true 12 0 (opRow [])]) := by kernel_rfl
end Go.Proofs.Ytmpkkmhielkggaa
