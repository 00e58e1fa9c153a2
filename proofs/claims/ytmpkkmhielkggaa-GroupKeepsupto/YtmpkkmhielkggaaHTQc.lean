/-
  facetlaw05.GroupLeast, run. Nothing here is trusted.
-/
import Derived.Test.YtmpkkmhielkggaaHTQb
import Derived.Test.YtmpkkmhielkggaaKaq
namespace Go.Proofs.Ytmpkkmhielkggaa
open Go Vx
def gn {α : Type} (b : Bool) (x : Option α) : Option α := match b with
  | true => none
  | false => x
theorem gn_false {α : Type} (x : Option α) : gn false x = x := rfl
/-- So many rows are lent. -/
def lk (k : Nat) : Bool := Nat.ble (0 + k) k && true
theorem lk_true (k : Nat) : lk k = true := by unfold lk; rw [Nat.zero_add, Nat.ble_self_eq_true k]; rfl
def lk2 (k l : Nat) : Bool := Nat.ble (0 + k) k && (Nat.ble (0 + l) l && true)
theorem lk2_true (k l : Nat) : lk2 k l = true := by unfold lk2; rw [Nat.zero_add, Nat.zero_add, Nat.ble_self_eq_true k, Nat.ble_self_eq_true l]; rfl
def ansR (own : Bool) (n : Nat) (X : List O3) (b : Bool) : Option (Value × Mem) := some (.bool b, [.rows own true 12 n (opRow X)])
def bI (k : Nat) (row : Nat → List Value) : Bool := Nat.beq k k && (okOps k row && decide (k ≤ 4611686018427387904))
theorem bI_ok {k : Nat} {X : List O3} (h : k ≤ 4611686018427387904) : bI k (opRow X) = true := by unfold bI; rw [Nat.beq_refl, okOps_opRow]; simpa using h
def idxI (sd : Int) (k : Nat) : Int := Int.tmod (W (Int.tmod sd (k : Int) + (k : Int))) (k : Int)
/-- The end: the lists again, against the group. -/
def glEnd (own : Bool) (n : Nat) (X : List O3) (R C : Nat) (A B : List O3) (k : Nat) (G : List O3) : Option (Value × Mem) :=
  match W ((R : Int) * (C : Int)) == (k : Int) with
  | true => gd (lk2 A.length k) (gd (ssT A.length k (opRow A) (opRow G)) (gd (sameB (opsOf A.length (opRow A)) (opsOf k (opRow G))) (gd (lk2 B.length k) (gd (ssT B.length k (opRow B) (opRow G)) (gd (sameB (opsOf B.length (opRow B)) (opsOf k (opRow G))) (ansR own n X true))))))
  | false => ansR own n X false
def glTurn (own : Bool) (n : Nat) (X : List O3) (R C : Nat) (A : List O3) (k : Nat) (G : List O3) (sd : Int) : Option (Value × Mem) :=
  match decide ((n : Int) < 192) with
  | true => gn ((k : Int) == 0) (gn ((k : Int) == 0) (gd (boundsI (idxI sd k) k) (gd (Nat.beq n n && room12 (n + 1)) (gd (lk (n + 1)) (gd (oT (n + 1) (catR n (opRow X.reverse) (chop 12 0 (atO G (idxI sd k)).cells))) (gd (clsOk (opsOf (n + 1) (catR n (opRow X.reverse) (chop 12 0 (atO G (idxI sd k)).cells)))) (glEnd own n X R C A (clsG (opsOf (n + 1) (catR n (opRow X.reverse) (chop 12 0 (atO G (idxI sd k)).cells)))) k G)))))))
  | false => gd (lk n) (gd (oT n (opRow X.reverse)) (gd (clsOk (opsOf n (opRow X.reverse))) (glEnd own n X R C A (clsG (opsOf n (opRow X.reverse))) k G)))
def glAgain (own : Bool) (n : Nat) (X : List O3) (k : Nat) (G : List O3) (sd : Int) : Option (Value × Mem) :=
  gd (lk k) (gd (bI k (opRow G)) (gn (chkI (opsOf k (opRow G)) != 0) (gd (lk k) (gd (bI k (opRow G)) (gn (chkI (opsOf k (opRow G)) != 0) (gd (lk k) (gd (twT k (opRow G)) (gn (Nat.beq k 0) (gd (lk k) (gd (oT k (opRow (opsOf k (opRow G)))) (gd (clsOk (opsOf k (opRow (opsOf k (opRow G)))))
    (gd (Nat.beq n n && (okOps n (opRow X) && (decide (W ((n : Int) - 1) = (n : Int) - 1) && (decide (1 ≤ n) && decide (n ≤ 1048576)))))
      (glTurn own n (opsOf n (opRow X)) (rotsT (opsOf k (opRow G))).length (cens (opsOf k (opRow G))).length (clsG (opsOf k (opRow (opsOf k (opRow G))))) k G sd)))))))))))))
def glT1 (n : Nat) (X Z : List O3) (k : Nat) (G : List O3) : Bool := Nat.beq n n && (okOps n (opRow X) && (Nat.beq n n && (okOps n (opRow Z) && (Nat.beq k k && (okOps k (opRow G) && (Nat.beq n n && (decide ((n : Int) = (n : Int)) && (decide ((n : Int) ≤ 4611686018427387904) && (decide (k ≤ 4611686018427387904) && allF (opsOf k (opRow G)) (opsOf n (opRow X)))))))))))
def glT2 (n : Nat) (X Z : List O3) (k : Nat) (G : List O3) : Bool := Nat.beq n n && (okOps n (opRow X) && (Nat.beq n n && (okOps n (opRow Z) && (Nat.beq k k && (okOps k (opRow G) && (Nat.beq k k && (decide ((k : Int) = (k : Int)) && (decide ((k : Int) ≤ 4611686018427387904) && ordG (opsOf k (opRow G))))))))))
def glMid (own : Bool) (n : Nat) (X Z : List O3) (k : Nat) (G : List O3) (sd : Int) : Option (Value × Mem) :=
  gd (lk k) (gd (oT k (opRow G)) (gd (chkI (opsOf k (opRow G)) == 0) (match decide ((k : Int) > 192) with
    | true => ansR own n X false
    | false => match decide ((k : Int) < 1) with
      | true => ansR own n X false
      | false => gd (glT1 n X Z k G) (gd (glT2 n (opsOf n (opRow X)) (opsOf n (opRow Z)) k (opsOf k (opRow G))) (glAgain own n (opsOf n (opRow (opsOf n (opRow X)))) k (opsOf k (opRow (opsOf k (opRow G)))) sd)))))
theorem glE1 (own : Bool) (n : Nat) (xs : List O3) (sd : Int) : exT ((Cqc Try.prog).at 3) 80 Try.f3 [.slice (some ⟨0, 0, some 0⟩) n 12, vI sd] [.rows own true 12 n (opRow xs)] [.fix 0] =
    gd (lk n) (gd (twT n (opRow xs)) (gn (Nat.beq n 0) (gd (lk n) (gd (oT n (opRow (opsOf n (opRow xs)))) (gd (clsOk (opsOf n (opRow (opsOf n (opRow xs)))))
      (glMid own n xs (opsOf n (opRow xs)) (clsG (opsOf n (opRow (opsOf n (opRow xs))))).length (clsG (opsOf n (opRow (opsOf n (opRow xs))))) sd)))))) := by kernel_rfl
/-- Close answers an error. -/
def Cqd (P : Program) : Cx := (((Cpb P).good 13 [true, false]).road 12 [true, false]).good 14 [true]
theorem okqd : CxOk (Cqd Try.prog) := Cx.good_ok (Cx.road_ok (Cx.good_ok okpb _ _) _ _) _ _
theorem glE2 (own : Bool) (n : Nat) (xs : List O3) (sd : Int) : exT ((Cqd Try.prog).at 3) 80 Try.f3 [.slice (some ⟨0, 0, some 0⟩) n 12, vI sd] [.rows own true 12 n (opRow xs)] [.fix 0] =
    gd (lk n) (gd (twT n (opRow xs)) (gn (Nat.beq n 0) (gd (lk n) (gd (oT n (opRow (opsOf n (opRow xs)))) (gn (clsOk (opsOf n (opRow (opsOf n (opRow xs)))))
      (match clsErr (opsOf n (opRow (opsOf n (opRow xs)))) != 0 with
      | true => match clsErr (opsOf n (opRow (opsOf n (opRow xs)))) == 2 with
        | true => ansR own n xs true
        | false => match clsErr (opsOf n (opRow (opsOf n (opRow xs)))) == 3 with
          | true => ansR own n xs true
          | false => match clsErr (opsOf n (opRow (opsOf n (opRow xs)))) == 4 with
            | true => ansR own n xs true
            | false => ansR own n xs (clsErr (opsOf n (opRow (opsOf n (opRow xs)))) == 5)
      | false => none)))))) := by kernel_rfl
/-- A list of nothing. -/
def Cqe (P : Program) : Cx := (((((((Cpb P).good 13 [true]).good 12 [true, true]).good 14 [true]).good 15 [true]).good 17 [true, false]).good 18 [true, false]).good 19 [true]
theorem okqe : CxOk (Cqe Try.prog) := Cx.good_ok (Cx.good_ok (Cx.good_ok (Cx.good_ok (Cx.good_ok (Cx.good_ok (Cx.good_ok okpb _ _) _ _) _ _) _ _) _ _) _ _) _ _
def glZ (sd : Int) : List O3 := opsOf 1 (chop 12 0 (atO [O3.one] (idxI sd 1)).cells)
theorem glE3 (sd : Int) : exT ((Cqe Try.prog).at 3) 80 Try.f3 [.slice none 0 0, vI sd] [] [] =
    gd (boundsI (idxI sd 1) 1) (gd (clsOk (glZ sd)) (gd (lk2 (clsG (glZ sd)).length 1) (gd (ssT (clsG (glZ sd)).length 1 (opRow (clsG (glZ sd))) (opRow [O3.one])) (gd (sameB (opsOf (clsG (glZ sd)).length (opRow (clsG (glZ sd)))) [O3.one]) (some (.bool true, [])))))) := by kernel_rfl
theorem glE4 (own : Bool) (sd : Int) : exT ((Cqe Try.prog).at 3) 80 Try.f3 [.slice (some ⟨0, 0, some 0⟩) 0 12, vI sd] [.rows own true 12 0 (opRow [])] [.fix 0] =
    gd (boundsI (idxI sd 1) 1) (gd (clsOk (glZ sd)) (gd (lk2 (clsG (glZ sd)).length 1) (gd (ssT (clsG (glZ sd)).length 1 (opRow (clsG (glZ sd))) (opRow [O3.one])) (gd (sameB (opsOf (clsG (glZ sd)).length (opRow (clsG (glZ sd)))) [O3.one]) (some (.bool true, [.rows own true 12 0 (opRow [])])))))) := by kernel_rfl
end Go.Proofs.Ytmpkkmhielkggaa
