/-
  facetlaw11.awake, told; facetlaw11.CellMaps, run. Nothing here is trusted.
-/
import Derived.Test.YtjpfnfckpgilgaaHTKp
import Derived.Test.YtjpfnfckpgilgaaKal
namespace Go.Proofs.Ytjpfnfckpgilgaa
open Go Vx Go.RowKit

def Cma (P : Program) : Cx := ((Ckp P).addI 46).addI 122
theorem okma : CxOk (Cma Try.prog) := Cx.addI_ok (Cx.addI_ok okkp (by kernel_rfl)) (by kernel_rfl)
theorem cawE : exFun ((Cma Try.prog).at 12) 400 Try.f12 (pack [] []) = some (.bool true) := by kernel_rfl
def Fcaw : List Int → Option Value
  | [] => some (.bool true)
  | _ => none
def Cmb (P : Program) : Cx := (Cma P).add 12 [] Fcaw
theorem okmb : CxOk (Cmb Try.prog) := Cx.add_ok okma (n := 400) Try.func12 (by kernel_rfl) fun l v hl h => by
  match l, hl, h with
  | [], _, hh => rw [cawE]; exact hh
def Cmt (P : Program) (p : List Bool) : Cx := (Cmb P).makes 14 p
theorem okmt (p : List Bool) : CxOk (Cmt Try.prog p) := Cx.makes_ok okmb _ _
def cmB (P : Program) : Code := bodyOf P 3
theorem cmB_eq : Try.f3.body = some (cmB Try.prog) := by kernel_rfl
def cm3 (own : Bool) (n : Nat) (xs : List O3) (g : G6) (u v : V3) (s : Bool) (e : Int) : St := stOf 136 [(1, .slice (some ⟨0, 0, some 0⟩) n 12), (4, .pointer (some ⟨1, 0, none⟩)), (6, .pointer (some ⟨2, 0, none⟩)), (7, .pointer (some ⟨3, 0, none⟩)), (8, .bool false), (9, .bool s), (10, vI e)] [.rows own true 12 n (opRow xs), .cells true 0 g.cells, .cells true 0 u.cells, .cells true 0 v.cells]
def cm7 (own : Bool) (n : Nat) (xs : List O3) (g : G6) (u v : V3) (s : Bool) (uv uu : Int) : St := stOf 136 [(1, .slice (some ⟨0, 0, some 0⟩) n 12), (4, .pointer (some ⟨1, 0, none⟩)), (6, .pointer (some ⟨2, 0, none⟩)), (7, .pointer (some ⟨3, 0, none⟩)), (8, .bool false), (9, .bool s), (11, vI uv), (13, vI uu), (15, .bool true)] [.rows own true 12 n (opRow xs), .cells true 0 g.cells, .cells true 0 u.cells, .cells true 0 v.cells]
def cmH (own : Bool) (n : Nat) (xs : List O3) (g : G6) (u v : V3) (s : Bool) (uv uu : Int) (a : Bool) (i : Int) : St := stOf 136 [(4, .pointer (some ⟨1, 0, none⟩)), (6, .pointer (some ⟨2, 0, none⟩)), (7, .pointer (some ⟨3, 0, none⟩)), (8, .bool false), (9, .bool s), (11, vI uv), (13, vI uu), (15, .bool a), (65, .slice (some ⟨0, 0, some 0⟩) n 12), (66, vI n), (67, vI i)] [.rows own true 12 n (opRow xs), .cells true 0 g.cells, .cells true 0 u.cells, .cells true 0 v.cells]
def cmZ (own : Bool) (n : Nat) (xs : List O3) (s a : Bool) : St := stOf 136 [(8, .bool false), (9, .bool s), (15, .bool a)] [.rows own true 12 n (opRow xs)]
def cmQ (own : Bool) (n : Nat) (xs : List O3) (b : Bool) : St := stOf 136 [(8, .bool b)] [.rows own true 12 n (opRow xs)]
theorem cmP (own : Bool) (n : Nat) (xs : List O3) (g : G6) (u v : V3) : segR ((Cmt Try.prog [true, false]).into 3 1) 60 3 (cmB Try.prog) [1, 4, 6, 7, 8, 9, 10] [.fix 0, .slot 4, .slot 6, .slot 7] (enter Try.f3 [g.v, .slice (some ⟨0, 0, some 0⟩) n 12, u.v, v.v] [.rows own true 12 n (opRow xs)]) =
    gd (lk n) (gd (twT n (opRow xs)) (gn (Nat.beq n 0) (gd (lk n) (gd (oT n (opRow (opsOf n (opRow xs)))) (some (cm3 own n xs g u v (kpI (opsOf n (opRow (opsOf n (opRow xs)))) g) (kpe (opsOf n (opRow (opsOf n (opRow xs)))) g))))))) := by kernel_rfl
theorem cmPz (own : Bool) (n : Nat) (xs : List O3) (g : G6) (u v : V3) : segR ((Cmt Try.prog [true, true]).into 3 1) 60 3 (cmB Try.prog) [1, 4, 6, 7, 8, 9, 10] [.fix 0, .slot 4, .slot 6, .slot 7] (enter Try.f3 [g.v, .slice (some ⟨0, 0, some 0⟩) n 12, u.v, v.v] [.rows own true 12 n (opRow xs)]) =
    gd (lk n) (gd (twT n (opRow xs)) (gd (Nat.beq n 0) (some (cm3 own n xs g u v false (leastN g.mck 5))))) := by kernel_rfl
theorem cm3r (own : Bool) (n : Nat) (xs : List O3) (g : G6) (u v : V3) (s : Bool) (e : Int) : roundR ((Cmb Try.prog).into 3 1) 60 (stmt 3 (cmB Try.prog)) [1, 4, 6, 7, 8, 9, 10] [8] [.fix 0, .slot 4, .slot 6, .slot 7] [.fix 0] (cm3 own n xs g u v s e) =
    (match e != 0 with
    | true => some (.ret, cmQ own n xs true)
    | false => match !u.fewB with
      | true => some (.ret, cmQ own n xs true)
      | false => match !v.fewB with
        | true => some (.ret, cmQ own n xs true)
        | false => some (.normal, cm3 own n xs g u v s e)) := by kernel_rfl
theorem cmHas : hasStmt 3 (cmB Try.prog) = true ∧ hasStmt 8 (cmB Try.prog) = true := ⟨by kernel_rfl, by kernel_rfl⟩
theorem cm4 (own : Bool) (n : Nat) (xs : List O3) (g : G6) (u v : V3) (s : Bool) (e : Int) : segR ((Cmb Try.prog).into 3 1) 60 4 (seqDrop 4 (cmB Try.prog)) [1, 4, 6, 7, 8, 9, 11, 13, 15] [.fix 0, .slot 4, .slot 6, .slot 7] (cm3 own n xs g u v s e) = gn (g.dotE u v != 0) (gn (g.dotE u u != 0) (some (cm7 own n xs g u v s (g.dotF u v) (g.dotF u u)))) := by kernel_rfl
theorem cmFor : isFor 0 (stmt 8 (cmB Try.prog)) = true := by kernel_rfl
theorem cmHd (own : Bool) (n : Nat) (xs : List O3) (g : G6) (u v : V3) (s : Bool) (uv uu : Int) : roundR ((Cmb Try.prog).into 3 1) 60 (forHead (stmt 8 (cmB Try.prog))) [4, 6, 7, 8, 9, 11, 13, 15, 65, 66, 67] [4, 6, 7, 8, 9, 11, 13, 15, 65, 66, 67] [.fix 0, .slot 4, .slot 6, .slot 7] [.fix 0, .slot 4, .slot 6, .slot 7] (cm7 own n xs g u v s uv uu) = some (.normal, cmH own n xs g u v s uv uu true 0) := by kernel_rfl
theorem cmR (own : Bool) (n : Nat) (xs : List O3) (g : G6) (u v : V3) (s : Bool) (uv uu : Int) (a : Bool) (i : Nat) : roundR ((Cmb Try.prog).into 3 1) 60 (forBody (stmt 8 (cmB Try.prog))) [4, 6, 7, 8, 9, 11, 13, 15, 65, 66, 67] [8, 9, 15] [.fix 0, .slot 4, .slot 6, .slot 7] [.fix 0] (cmH own n xs g u v s uv uu a (i : Int)) =
    (match decide ((i : Int) < (n : Int)) with
    | true => gd (boundsI (i : Int) n) (match (bif (atO xs (i : Int)).r.ok && u.ok then 0 else 4 : Int) != 0 with
      | true => some (.ret, cmZ own n xs s a)
      | false => match (bif (atO xs (i : Int)).r.ok && v.ok then 0 else 4 : Int) != 0 with
        | true => some (.ret, cmZ own n xs s a)
        | false => match !((atO xs (i : Int)).r.appF u).in1 with
          | true => some (.normal, cmH own n xs g u v s uv uu a (W ((i : Int) + 1)))
          | false => match !((atO xs (i : Int)).r.appF v).in1 with
            | true => some (.normal, cmH own n xs g u v s uv uu a (W ((i : Int) + 1)))
            | false => match g.dotE ((atO xs (i : Int)).r.appF u) ((atO xs (i : Int)).r.appF v) != 0 with
              | true => some (.ret, cmZ own n xs s a)
              | false => match g.dotE ((atO xs (i : Int)).r.appF u) ((atO xs (i : Int)).r.appF u) != 0 with
                | true => some (.ret, cmZ own n xs s a)
                | false => match a with
                  | true => (match g.dotF ((atO xs (i : Int)).r.appF u) ((atO xs (i : Int)).r.appF v) == uv with
                    | true => some (.normal, cmH own n xs g u v s uv uu (g.dotF ((atO xs (i : Int)).r.appF u) ((atO xs (i : Int)).r.appF u) == uu) (W ((i : Int) + 1)))
                    | false => some (.normal, cmH own n xs g u v s uv uu false (W ((i : Int) + 1))))
                  | false => some (.normal, cmH own n xs g u v s uv uu false (W ((i : Int) + 1))))
    | false => some (.exit 0, cmZ own n xs s a)) := by kernel_rfl
theorem cmEnd (own : Bool) (n : Nat) (xs : List O3) (s a : Bool) : roundR ((Cmb Try.prog).into 3 1) 60 (seqDrop 9 (cmB Try.prog)) [8] [8] [.fix 0] [.fix 0] (cmZ own n xs s a) = (match a with
    | true => some (.ret, cmQ own n xs true)
    | false => some (.ret, cmQ own n xs (!s))) := by kernel_rfl
theorem cmRet (own : Bool) (n : Nat) (xs : List O3) : (retA Try.prog Try.f3 (.ret, cmQ own n xs true)).res = some (.bool true, [.rows own true 12 n (opRow xs)]) := by kernel_rfl
/-! Nothing handed in -/
def cm30 (g : G6) (u v : V3) (e : Int) : St := stOf 136 [(1, .slice none 0 0), (4, .pointer (some ⟨0, 0, none⟩)), (6, .pointer (some ⟨1, 0, none⟩)), (7, .pointer (some ⟨2, 0, none⟩)), (8, .bool false), (9, .bool false), (10, vI e)] [.cells true 0 g.cells, .cells true 0 u.cells, .cells true 0 v.cells]
theorem cmP0 (g : G6) (u v : V3) : segR ((Cmt Try.prog []).into 3 0) 60 3 (cmB Try.prog) [1, 4, 6, 7, 8, 9, 10] [.slot 4, .slot 6, .slot 7] (enter Try.f3 [g.v, .slice none 0 0, u.v, v.v] []) = some (cm30 g u v (leastN g.mck 5)) := by kernel_rfl
theorem cm3r0 (g : G6) (u v : V3) (e : Int) : roundR ((Cmb Try.prog).into 3 0) 60 (stmt 3 (cmB Try.prog)) [1, 4, 6, 7, 8, 9, 10] [8] [.slot 4, .slot 6, .slot 7] [] (cm30 g u v e) =
    (match e != 0 with
    | true => some (.ret, stOf 136 [(8, .bool true)] [])
    | false => match !u.fewB with
      | true => some (.ret, stOf 136 [(8, .bool true)] [])
      | false => match !v.fewB with
        | true => some (.ret, stOf 136 [(8, .bool true)] [])
        | false => some (.normal, cm30 g u v e)) := by kernel_rfl
theorem cmRet0 : (retA Try.prog Try.f3 (.ret, stOf 136 [(8, .bool true)] [])).res = some (.bool true, []) := by kernel_rfl
end Go.Proofs.Ytjpfnfckpgilgaa
