/-
  CellDual, run piece by piece. Nothing here is trusted.
-/
import Derived.Test.YtofblakbfmjgkaaKai
import Derived.Test.YtofblakbfmjgkaaHCelD
namespace Go.Proofs.Ytofblakbfmjgkaa
open Go Vx Go.RowKit
structure RD where
  (s : G6 → V3 → Q2) (e : G6 → V3 → Int) (d f : G6 → V3 → V3 → Int) (c g : Q2 → Q2 → Int) (w : V3 → Bool)
def Rd : RD := ⟨G6.spF, G6.spE, G6.dotF, G6.dotE, Q2.cmpF, Q2.cmpE, V3.fewB⟩
def Cy0 (_ : RD) (P : Program) : Cx := CCf P
theorem oky0 : CxOk (Cy0 Rd Try.prog) := okCf
def Fy_26 (R : RD) : List Int → Option Value
  | [a0, a1, a2, a3, a4, a5, b0, b1, b2] => some (p2 (R.s ⟨a0, a1, a2, a3, a4, a5⟩ ⟨b0, b1, b2⟩).v (vI (R.e ⟨a0, a1, a2, a3, a4, a5⟩ ⟨b0, b1, b2⟩)))
  | _ => none
def Cy1 (R : RD) (P : Program) : Cx := (Cy0 R P).add 26 [some 6, some 3] (Fy_26 R)
theorem oky1 : CxOk (Cy1 Rd Try.prog) := Cx.dup_ok oky0 fun l v hl h => by
  match l, hl, h with
  | [a0, a1, a2, a3, a4, a5, b0, b1, b2], _, hh =>
    have hh : some _ = some v := hh
    rw [← Option.some.inj hh]
    rfl
def Fy_24 (R : RD) : List Int → Option Value
  | [a0, a1, a2, a3, a4, a5, b0, b1, b2, c0, c1, c2] => some (p2 (vI (R.d ⟨a0, a1, a2, a3, a4, a5⟩ ⟨b0, b1, b2⟩ ⟨c0, c1, c2⟩)) (vI (R.f ⟨a0, a1, a2, a3, a4, a5⟩ ⟨b0, b1, b2⟩ ⟨c0, c1, c2⟩)))
  | _ => none
def Cy2 (R : RD) (P : Program) : Cx := (Cy1 R P).add 24 [some 6, some 3, some 3] (Fy_24 R)
theorem oky2 : CxOk (Cy2 Rd Try.prog) := Cx.dup_ok oky1 fun l v hl h => by
  match l, hl, h with
  | [a0, a1, a2, a3, a4, a5, b0, b1, b2, c0, c1, c2], _, hh =>
    have hh : some _ = some v := hh
    rw [← Option.some.inj hh]
    rfl
def Fy_30 (R : RD) : List Int → Option Value
  | [a0, a1, b0, b1] => some (p2 (vI (R.c ⟨a0, a1⟩ ⟨b0, b1⟩)) (vI (R.g ⟨a0, a1⟩ ⟨b0, b1⟩)))
  | _ => none
def Cy3 (R : RD) (P : Program) : Cx := (Cy2 R P).add 30 [some 2, some 2] (Fy_30 R)
theorem oky3 : CxOk (Cy3 Rd Try.prog) := Cx.dup_ok oky2 fun l v hl h => by
  match l, hl, h with
  | [a0, a1, b0, b1], _, hh =>
    have hh : some _ = some v := hh
    rw [← Option.some.inj hh]
    rfl
def Fy_33 (R : RD) : List Int → Option Value
  | [a0, a1, a2] => some (.bool (R.w ⟨a0, a1, a2⟩))
  | _ => none
def Cy4 (R : RD) (P : Program) : Cx := (Cy3 R P).add 33 [some 3] (Fy_33 R)
theorem oky4 : CxOk (Cy4 Rd Try.prog) := Cx.dup_ok oky3 fun l v hl h => by
  match l, hl, h with
  | [a0, a1, a2], _, hh =>
    have hh : some _ = some v := hh
    rw [← Option.some.inj hh]
    rfl
def Cy (R : RD) (P : Program) : Cx := Cy4 R P
theorem oky : CxOk (Cy Rd Try.prog) := oky4
def Q2.cells (q : Q2) : List Value := [.int .i64 q.num, .int .i64 q.den]
def duB (P : Program) : Code := bodyOf P 8
theorem duB_eq : Try.f8.body = some (duB Try.prog) := by kernel_rfl
def duP : List (Nat × Value) := [obPt 3 0, obPt 4 1, obPt 5 2]
def duM (m : G6) (h u : V3) (s : Q2) : Mem := [.cells true 0 (G6.cells m), .cells true 0 h.cells, .cells true 0 u.cells, .cells true 0 (Q2.cells s)]
def du3 (m : G6) (h u : V3) (s : Q2) (e : Int) : St := stOf 212 (duP ++ [obPt 7 3, (8, vI e)]) (duM m h u s)
def du6 (m : G6) (h u : V3) (s : Q2) (uu f hu : Int) : St := stOf 212 (duP ++ [obPt 7 3, (9, vI uu), (10, vI f), (11, vI hu)]) (duM m h u s)
def du7 (m : G6) (h u : V3) (s : Q2) (uu hu : Int) : St := stOf 212 (duP ++ [obPt 7 3, (9, vI uu), (11, vI hu)]) (duM m h u s)
def du7c (m : G6) (h u : V3) (s : Q2) (uu hu : Int) (b : Bool) : St := stOf 212 (duP ++ [obPt 7 3, (9, vI uu), (11, vI hu), (97, .bool b)]) (duM m h u s)
def duA (m : G6) (h u : V3) (s : Q2) (x y : Int) : St := stOf 212 (duP ++ [obPt 7 3, (12, vI x), (13, vI y)]) (duM m h u s)
def duL (m : G6) (h u : V3) (s : Q2) (x y a b : Int) : St := stOf 212 (duP ++ [obPt 7 3, (12, vI x), (13, vI y), (14, vI a), (15, vI b)]) (duM m h u s)
def duC (m : G6) (h u : V3) (s : Q2) (c g : Int) : St := stOf 212 (duP ++ [obPt 7 3, (16, vI c), (17, vI g)]) (duM m h u s)
def du8 (m : G6) (h u : V3) (s : Q2) : St := stOf 212 (duP ++ [obPt 7 3]) (duM m h u s)
def du11 (s t n : Q2) (e g : Int) (fo : Q2) (ha : Int) : St := stOf 212 [obPt 7 0, (8, vI e), (10, vI g), obPt 18 1, obPt 19 2, obPt 20 3, (21, vI ha)] [.cells true 0 (Q2.cells s), .cells true 0 (Q2.cells t), .cells true 0 (Q2.cells n), .cells true 0 (Q2.cells fo)]
def duRet (b : Bool) : St := stOf 212 [(6, .bool b)] []
theorem duE1 (R : RD) (m : G6) (h u : V3) : segR ((Cy R Try.prog).into 8 0) 60 3 (duB Try.prog) [3, 4, 5, 7, 8] [.slot 3, .slot 4, .slot 5, .slot 7] (enter Try.f8 [m.v, h.v, u.v] []) = some (du3 m h u (R.s m h) (R.e m h)) := by kernel_rfl
def duT (R : RD) (h u : V3) (e : Int) : Option (Exit × St) := match e != 0 with
  | true => some (.ret, duRet true)
  | false => match !(R.w u) with
    | true => some (.ret, duRet true)
    | false => some (.ret, duRet (!(R.w h)))
theorem duE3 (R : RD) (m : G6) (h u : V3) (s : Q2) (e : Int) : roundR ((Cy R Try.prog).into 8 0) 60 (stmt 3 (duB Try.prog)) [3, 4, 5, 7] [6] [.slot 3, .slot 4, .slot 5, .slot 7] [] (du3 m h u s e) =
  (match e != 0 with
  | true => duT R h u e
  | false => match !(R.w u) with
    | true => duT R h u e
    | false => match !(R.w h) with
      | true => duT R h u e
      | false => some (.normal, du8 m h u s)) := by kernel_rfl
theorem duE4 (R : RD) (m : G6) (h u : V3) (s : Q2) : segR ((Cy R Try.prog).into 8 0) 60 2 (seqDrop 4 (duB Try.prog)) [3, 4, 5, 7, 9, 10, 11] [.slot 3, .slot 4, .slot 5, .slot 7] (du8 m h u s) = some (du6 m h u s (R.d m u u) (R.f m u u) (dotR h.x h.y h.z u.x u.y u.z)) := by kernel_rfl
theorem duE6 (R : RD) (m : G6) (h u : V3) (s : Q2) (uu f hu : Int) : roundR ((Cy R Try.prog).into 8 0) 60 (stmt 6 (duB Try.prog)) [3, 4, 5, 7, 9, 11] [6] [.slot 3, .slot 4, .slot 5, .slot 7] [] (du6 m h u s uu f hu) =
  (match f != 0 with
  | true => some (.ret, duRet false)
  | false => match decide (s.num < 0) with
    | true => some (.ret, duRet false)
    | false => match decide (s.den < 1) with
      | true => some (.ret, duRet false)
      | false => some (.normal, du7 m h u s uu hu)) := by kernel_rfl
theorem duE7 (R : RD) (m : G6) (h u : V3) (s : Q2) (uu hu : Int) : roundR ((Cy R Try.prog).into 8 0) 60 (cL (stmt 7 (duB Try.prog))) [3, 4, 5, 7, 9, 11, 97] [6] [.slot 3, .slot 4, .slot 5, .slot 7] [] (du7 m h u s uu hu) =
  (match decide (uu > 0) with
  | true => some (.normal, du7c m h u s uu hu (hu != 0))
  | false => some (.normal, du7c m h u s uu hu false)) := by kernel_rfl
def duX (P : Program) : Code := cL (cR (stmt 7 (duB P)))
theorem duX_eq : stmt 7 (duB Try.prog) = .seq (cL (stmt 7 (duB Try.prog))) (.cond (.tmp 97) (duX Try.prog) .skip) := by kernel_rfl
theorem duA0 (R : RD) (m : G6) (h u : V3) (s : Q2) (uu hu : Int) : segR ((Cy R Try.prog).into 8 0) 60 1 (duX Try.prog) [3, 4, 5, 7, 12, 13] [.slot 3, .slot 4, .slot 5, .slot 7] (du7c m h u s uu hu true) = some (duA m h u s (W (hu * hu)) uu) := by kernel_rfl
theorem duAFor : isFor 0 (stmt 1 (duX Try.prog)) = true := by kernel_rfl
theorem duAH (R : RD) (m : G6) (h u : V3) (s : Q2) (x y : Int) : roundR ((Cy R Try.prog).into 8 0) 60 (forHead (stmt 1 (duX Try.prog))) [3, 4, 5, 7, 12, 13, 14, 15] [6] [.slot 3, .slot 4, .slot 5, .slot 7] [] (duA m h u s x y) = some (.normal, duL m h u s x y x y) := by kernel_rfl
theorem duAR (R : RD) (m : G6) (h u : V3) (s : Q2) (x y a b : Int) : roundR ((Cy R Try.prog).into 8 0) 60 (forBody (stmt 1 (duX Try.prog))) [3, 4, 5, 7, 12, 13, 14, 15] [3, 4, 5, 7, 12, 13] [.slot 3, .slot 4, .slot 5, .slot 7] [.slot 3, .slot 4, .slot 5, .slot 7] (duL m h u s x y a b) =
  (match b == 0 with
  | true => gn (a == 0) (gn (a == 0) (some (.exit 0, duA m h u s (W (x.tdiv a)) (W (y.tdiv a)))))
  | false => gn (b == 0) (some (.normal, duL m h u s x y b (Int.tmod a b)))) := by kernel_rfl
theorem duA2 (R : RD) (m : G6) (h u : V3) (s : Q2) (x y : Int) : segR ((Cy R Try.prog).into 8 0) 60 1 (seqDrop 2 (duX Try.prog)) [3, 4, 5, 7, 16, 17] [.slot 3, .slot 4, .slot 5, .slot 7] (duA m h u s x y) = some (duC m h u s (R.c s ⟨x, y⟩) (R.g s ⟨x, y⟩)) := by kernel_rfl
theorem duA3 (R : RD) (m : G6) (h u : V3) (s : Q2) (c e : Int) : roundR ((Cy R Try.prog).into 8 0) 60 (seqDrop 3 (duX Try.prog)) [3, 4, 5, 7] [6] [.slot 3, .slot 4, .slot 5, .slot 7] [] (duC m h u s c e) =
  (match e != 0 with
  | true => some (.ret, duRet false)
  | false => match decide (c < 0) with
    | true => some (.ret, duRet false)
    | false => some (.normal, du8 m h u s)) := by kernel_rfl
theorem duE8 (R : RD) (m : G6) (h u : V3) (s : Q2) : segR ((Cy R Try.prog).into 8 0) 60 3 (seqDrop 8 (duB Try.prog)) [7, 8, 10, 18, 19, 20, 21] [.slot 7, .slot 18, .slot 19, .slot 20] (du8 m h u s) =
  some (du11 s (R.s m ⟨W (2 * h.x), W (2 * h.y), W (2 * h.z)⟩) (R.s m ⟨W (0 - h.x), W (0 - h.y), W (0 - h.z)⟩) (R.e m ⟨W (2 * h.x), W (2 * h.y), W (2 * h.z)⟩) (R.e m ⟨W (0 - h.x), W (0 - h.y), W (0 - h.z)⟩) ⟨W (4 * s.num), s.den⟩ s.den) := by kernel_rfl
def hs1 (n dd h : Int) (k : Int → Int → Int → Option (Exit × St)) : Option (Exit × St) := match Int.tmod h 2 == 0 with
  | true => match decide (n > 0) with
    | true => k (W (n.tdiv 2)) (W (dd.tdiv 2)) (W (h.tdiv 2))
    | false => k n dd h
  | false => k n dd h
theorem duE11 (R : RD) (s t n : Q2) (e g : Int) (fo : Q2) (ha : Int) : roundR ((Cy R Try.prog).into 8 0) 60 (stmt 11 (duB Try.prog)) [7, 8, 10, 18, 19, 20, 21] [6] [.slot 7, .slot 18, .slot 19, .slot 20] [] (du11 s t n e g fo ha) =
  hs1 fo.num fo.den ha (fun a b c => hs1 a b c (fun a b c => some (.normal, du11 s t n e g ⟨a, b⟩ c))) := by kernel_rfl
theorem duE12 (R : RD) (s t n : Q2) (e g : Int) (fo : Q2) (ha : Int) : roundR ((Cy R Try.prog).into 8 0) 60 (seqDrop 12 (duB Try.prog)) [6] [6] [] [] (du11 s t n e g fo ha) =
  (match e == 0 with
  | true => match g == 0 with
    | true => match n.eqB s with
      | true => some (.ret, duRet (t.eqB fo))
      | false => some (.ret, duRet false)
    | false => some (.ret, duRet false)
  | false => some (.ret, duRet false)) := by kernel_rfl
theorem duRetA (b : Bool) : (retA Try.prog Try.f8 (.ret, duRet b)).res = some (.bool b, []) := by kernel_rfl
theorem duHas : hasStmt 3 (duB Try.prog) = true ∧ hasStmt 6 (duB Try.prog) = true ∧ hasStmt 7 (duB Try.prog) = true ∧ hasStmt 11 (duB Try.prog) = true ∧ hasStmt 1 (duX Try.prog) = true := ⟨by kernel_rfl, by kernel_rfl, by kernel_rfl, by kernel_rfl, by kernel_rfl⟩
end Go.Proofs.Ytofblakbfmjgkaa
