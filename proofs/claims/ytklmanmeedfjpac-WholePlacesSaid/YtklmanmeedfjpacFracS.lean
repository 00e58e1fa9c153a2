/-
  The functions of layer 2 (frac) and of the document's answer for it, as the executor finds them. Nothing here is trusted.
-/
import Derived.Test.YtklmanmeedfjpacChain
namespace Go.Proofs.Ytklmanmeedfjpac.Vx
open Go

def eq3 (a b c d e f : Int) : Bool := (a == d) && ((b == e) && ((c == f) && true))
/-- Two places. -/
def eqP (a b c d e f g h : Int) : Bool := (a == e) && (eq3 b c d f g h && true)
def md (n m : Int) : Int := match decide (Int.tmod n m < 0) with
  | true => W (Int.tmod n m + m)
  | false => Int.tmod n m
def mdO (n m : Int) : Option Value := match m == 0 with
  | true => none
  | false => match decide (Int.tmod n m < 0) with
    | true => some (.int .i64 (W (Int.tmod n m + m)))
    | false => some (.int .i64 (Int.tmod n m))
theorem mdO_eq (n m : Int) (h : (!(m == 0)) = true) : mdO n m = some (.int .i64 (md n m)) := by
  unfold mdO md
  have : (m == 0) = false := by simpa using h
  rw [this]
  cases decide (Int.tmod n m < 0) <;> rfl
def FMod : List Int → Option (Bool × Value)
  | [n, m] => some (!(m == 0), .int .i64 (md n m))
  | _ => none

/-- Add, Neg, Sub, Times of one part. -/
def add1 (a b : Int) : Int := md (W (md a 24 + md b 24)) 24
def neg1 (a : Int) : Int := md (W (0 - md a 24)) 24
def times1 (n a : Int) : Int := md (W (md n 24 * md a 24)) 24
def FAdd : List Int → Option Value
  | [a, b, c, d, e, f] => some (mkVec [add1 a d, add1 b e, add1 c f])
  | _ => none
def FNeg : List Int → Option Value
  | [a, b, c] => some (mkVec [neg1 a, neg1 b, neg1 c])
  | _ => none
def FSub : List Int → Option Value
  | [a, b, c, d, e, f] => some (mkVec [add1 a (neg1 d), add1 b (neg1 e), add1 c (neg1 f)])
  | _ => none
def FTimes : List Int → Option Value
  | [n, a, b, c] => some (mkVec [times1 n a, times1 n b, times1 n c])
  | _ => none

def isF (m : Int) : Bool := (m == 24) || ((m == 48) || ((m == 96) || (m == 192)))
def isFO (m : Int) : Option Value := match m == 24 with
  | true => some (.bool true)
  | false => match m == 48 with
    | true => some (.bool true)
    | false => match m == 96 with
      | true => some (.bool true)
      | false => some (.bool (m == 192))
theorem isFO_eq (m : Int) : isFO m = some (.bool (isF m)) := by
  unfold isFO isF
  cases m == 24 <;> cases m == 48 <;> cases m == 96 <;> rfl
def FFine : List Int → Option Value
  | [m] => some (.bool (isF m))
  | _ => none
theorem isF_cases {m : Int} (h : isF m = true) : m = 24 ∨ m = 48 ∨ m = 96 ∨ m = 192 := by
  simpa [isF] using h

/-- Where a number that is divided by is not 0. -/
def nz (m : Int) (k : Option Value) : Option Value := match m == 0 with
  | true => none
  | false => k
def nzn (m : Int) (k : Option Value) : Option Value := match !(m == 0) with
  | true => k
  | false => none
theorem nz_eq {m : Int} (h : isF m = true) (k : Option Value) : nz m k = k := by
  rcases isF_cases h with rfl | rfl | rfl | rfl <;> rfl
theorem nzn_eq {m : Int} (h : isF m = true) (k : Option Value) : nzn m k = k := by
  rcases isF_cases h with rfl | rfl | rfl | rfl <;> rfl
def nz3 (m : Int) (k : Option Value) : Option Value := nzn m (nzn m (nzn m k))
theorem nz3_eq {m : Int} (h : isF m = true) (k : Option Value) : nz3 m k = k := by
  unfold nz3; rw [nzn_eq h, nzn_eq h, nzn_eq h]

/-- Form. -/
def formB (m x y z : Int) : Bool := isF m && eq3 x y z (md x m) (md y m) (md z m)
def formO (m x y z : Int) : Option Value := match isF m with
  | true => nz3 m (some (.bool (eq3 x y z (md x m) (md y m) (md z m))))
  | false => some (.bool false)
theorem formO_eq (m x y z : Int) : formO m x y z = some (.bool (formB m x y z)) := by
  unfold formO formB
  cases h : isF m with
  | true => simp only [nz3_eq h, Bool.true_and]
  | false => rfl
def FForm : List Int → Option Value
  | [m, x, y, z] => some (.bool (formB m x y z))
  | _ => none
theorem form_isF {m x y z : Int} (h : formB m x y z = true) : isF m = true := by
  unfold formB at h
  rw [Bool.and_eq_true] at h
  exact h.1

def mkPe (l : List Int) : Value := .tuple #[.agg #[.int .i64 (nth l 0), .int .i64 (nth l 1), .int .i64 (nth l 2), .int .i64 (nth l 3)], .int .i64 (nth l 4)]

/-- Place. -/
def placeR (m x y z : Int) : List Int := chainL [(!(isF m), [0, 0, 0, 0, 1])] [m, md x m, md y m, md z m, 0]
def placeO (m x y z : Int) : Option Value := match !(isF m) with
  | true => some (mkPe [0, 0, 0, 0, 1])
  | false => nz3 m (some (mkPe [m, md x m, md y m, md z m, 0]))
theorem placeO_eq (m x y z : Int) : placeO m x y z = some (mkPe (placeR m x y z)) := by
  unfold placeO placeR
  cases h : isF m with
  | true => simp only [nz3_eq h, chainL, Bool.not_true]
  | false => rfl
def FPlace : List Int → Option Value
  | [m, x, y, z] => some (mkPe (placeR m x y z))
  | _ => none

/-- Finer, and the document's. -/
def finL (m x y z n : Int) : List Int := [n, W (x * W (Int.tdiv n m)), W (y * W (Int.tdiv n m)), W (z * W (Int.tdiv n m)), 0]
def dfinL (m x y z n : Int) : List Int := [n, W (W (Int.tdiv n m) * x), W (W (Int.tdiv n m) * y), W (W (Int.tdiv n m) * z), 0]
def finR (m x y z n : Int) : List Int := chainL [(!(isF n), [0, 0, 0, 0, 1]), (!(formB m x y z), [0, 0, 0, 0, 3]), (Int.tmod n m != 0, [0, 0, 0, 0, 1])] (finL m x y z n)
def finO (m x y z n : Int) : Option Value := match !(isF n) with
  | true => some (mkPe [0, 0, 0, 0, 1])
  | false => match !(formB m x y z) with
    | true => some (mkPe [0, 0, 0, 0, 3])
    | false => nz m (match Int.tmod n m != 0 with
      | true => some (mkPe [0, 0, 0, 0, 1])
      | false => nz m (nz m (nz m (some (mkPe (finL m x y z n))))))
theorem finO_eq (m x y z n : Int) : finO m x y z n = some (mkPe (finR m x y z n)) := by
  unfold finO finR
  cases isF n with
  | false => rfl
  | true =>
    cases h : formB m x y z with
    | false => rfl
    | true =>
      simp only [nz_eq (form_isF h), chainL, Bool.not_true]
      cases Int.tmod n m != 0 <;> rfl
def FFiner : List Int → Option Value
  | [m, x, y, z, n] => some (mkPe (finR m x y z n))
  | _ => none
def dfinR (m x y z n : Int) : List Int := chainL [(!(isF n) || (formB m x y z && Int.tmod n m != 0), [0, 0, 0, 0, 1]), (!(formB m x y z), [0, 0, 0, 0, 3])] (dfinL m x y z n)
def dfinNext (m x y z n : Int) : Option Value := match !(formB m x y z) with
  | true => some (mkPe [0, 0, 0, 0, 3])
  | false => nz m (some (mkPe (dfinL m x y z n)))
def dfinO (m x y z n : Int) : Option Value := match !(isF n) with
  | true => some (mkPe [0, 0, 0, 0, 1])
  | false => match formB m x y z with
    | true => nz m (match Int.tmod n m != 0 with
      | true => some (mkPe [0, 0, 0, 0, 1])
      | false => dfinNext m x y z n)
    | false => dfinNext m x y z n
theorem dfinO_eq (m x y z n : Int) : dfinO m x y z n = some (mkPe (dfinR m x y z n)) := by
  unfold dfinO dfinR dfinNext
  cases isF n with
  | false => rfl
  | true =>
    cases h : formB m x y z with
    | false => rfl
    | true =>
      simp only [nz_eq (form_isF h), chainL, Bool.not_true, Bool.true_and, Bool.false_or]
      cases Int.tmod n m != 0 <;> rfl
def FDFiner : List Int → Option Value
  | [m, x, y, z, n] => some (mkPe (dfinR m x y z n))
  | _ => none

/-- Shift, Opposite, Minus, and the document's. -/
def sh1 (m x t : Int) : Int := md (W (x + W (md t 24 * W (Int.tdiv m 24)))) m
def dsh1 (m x t : Int) : Int := md (W (md x m + md (md (W (md (W (Int.tdiv m 24)) m * md (md t 24) m)) m) m)) m
def err5T (m x y z : Int) : List (Bool × List Int) := [(!(formB m x y z), [0, 0, 0, 0, 3])]
def shiftR (m x y z t u v : Int) : List Int := chainL (err5T m x y z) [m, sh1 m x t, sh1 m y u, sh1 m z v, 0]
def shiftO (m x y z t u v : Int) : Option Value := match !(formB m x y z) with
  | true => some (mkPe [0, 0, 0, 0, 3])
  | false => nz3 m (some (mkPe [m, sh1 m x t, sh1 m y u, sh1 m z v, 0]))
theorem shiftO_eq (m x y z t u v : Int) : shiftO m x y z t u v = some (mkPe (shiftR m x y z t u v)) := by
  unfold shiftO shiftR err5T
  cases h : formB m x y z with
  | false => rfl
  | true => simp only [nz3_eq (form_isF h), chainL, Bool.not_true]
def FShift : List Int → Option Value
  | [m, x, y, z, t, u, v] => some (mkPe (shiftR m x y z t u v))
  | _ => none
def dshiftR (m x y z t u v : Int) : List Int := chainL (err5T m x y z) [m, dsh1 m x t, dsh1 m y u, dsh1 m z v, 0]
def nz13 (m : Int) (k : Option Value) : Option Value := nzn m (nz3 m (nz3 m (nz3 m (nz3 m (nz3 m k)))))
theorem nz13_eq {m : Int} (h : isF m = true) (k : Option Value) : nz13 m k = k := by
  unfold nz13; rw [nz3_eq h, nz3_eq h, nz3_eq h, nz3_eq h, nz3_eq h, nzn_eq h]
def dshiftO (m x y z t u v : Int) : Option Value := match !(formB m x y z) with
  | true => some (mkPe [0, 0, 0, 0, 3])
  | false => nz13 m (some (mkPe [m, dsh1 m x t, dsh1 m y u, dsh1 m z v, 0]))
theorem dshiftO_eq (m x y z t u v : Int) : dshiftO m x y z t u v = some (mkPe (dshiftR m x y z t u v)) := by
  unfold dshiftO dshiftR err5T
  cases h : formB m x y z with
  | false => rfl
  | true => simp only [nz13_eq (form_isF h), chainL, Bool.not_true]
def FDShift : List Int → Option Value
  | [m, x, y, z, t, u, v] => some (mkPe (dshiftR m x y z t u v))
  | _ => none

def op1 (m x : Int) : Int := md (W (0 - md x m)) m
def oppR (m x y z : Int) : List Int := chainL (err5T m x y z) [m, op1 m x, op1 m y, op1 m z, 0]
def oppO (m x y z : Int) : Option Value := match !(formB m x y z) with
  | true => some (mkPe [0, 0, 0, 0, 3])
  | false => nz3 m (nz3 m (some (mkPe [m, op1 m x, op1 m y, op1 m z, 0])))
theorem oppO_eq (m x y z : Int) : oppO m x y z = some (mkPe (oppR m x y z)) := by
  unfold oppO oppR err5T
  cases h : formB m x y z with
  | false => rfl
  | true => simp only [nz3_eq (form_isF h), chainL, Bool.not_true]
def FOpp : List Int → Option Value
  | [m, x, y, z] => some (mkPe (oppR m x y z))
  | _ => none

def minL (m x y z a b c : Int) : List Int := [m, md (W (x - a)) m, md (W (y - b)) m, md (W (z - c)) m, 0]
def minusR (m x y z n a b c : Int) : List Int := chainL [(!(formB m x y z) || !(formB n a b c), [0, 0, 0, 0, 3]), (m != n, [0, 0, 0, 0, 6])] (minL m x y z a b c)
def minusO (m x y z n a b c : Int) : Option Value := match !(formB m x y z) with
  | true => some (mkPe [0, 0, 0, 0, 3])
  | false => match !(formB n a b c) with
    | true => some (mkPe [0, 0, 0, 0, 3])
    | false => match m != n with
      | true => some (mkPe [0, 0, 0, 0, 6])
      | false => nz3 m (some (mkPe (minL m x y z a b c)))
theorem minusO_eq (m x y z n a b c : Int) : minusO m x y z n a b c = some (mkPe (minusR m x y z n a b c)) := by
  unfold minusO minusR
  cases h : formB m x y z with
  | false => rfl
  | true =>
    cases formB n a b c with
    | false => rfl
    | true =>
      simp only [nz3_eq (form_isF h), chainL, Bool.not_true, Bool.or_self]
      cases m != n <;> rfl
def FMinus : List Int → Option Value
  | [m, x, y, z, n, a, b, c] => some (mkPe (minusR m x y z n a b c))
  | _ => none
def dmn1 (m x a : Int) : Int := md (W (md x m + md (md (W (0 - md a m)) m) m)) m
def dminL (m x y z a b c : Int) : List Int := [m, dmn1 m x a, dmn1 m y b, dmn1 m z c, 0]
def dminusR (m x y z n a b c : Int) : List Int := chainL [(!(formB m x y z) || !(formB n a b c), [0, 0, 0, 0, 3]), (m != n, [0, 0, 0, 0, 6])] (dminL m x y z a b c)
def nz15 (m : Int) (k : Option Value) : Option Value := nz3 m (nz3 m (nz3 m (nz3 m (nz3 m k))))
theorem nz15_eq {m : Int} (h : isF m = true) (k : Option Value) : nz15 m k = k := by
  unfold nz15; rw [nz3_eq h, nz3_eq h, nz3_eq h, nz3_eq h, nz3_eq h]
def dminusO (m x y z n a b c : Int) : Option Value := match !(formB m x y z) with
  | true => some (mkPe [0, 0, 0, 0, 3])
  | false => match !(formB n a b c) with
    | true => some (mkPe [0, 0, 0, 0, 3])
    | false => match m != n with
      | true => some (mkPe [0, 0, 0, 0, 6])
      | false => nz15 m (some (mkPe (dminL m x y z a b c)))
theorem dminusO_eq (m x y z n a b c : Int) : dminusO m x y z n a b c = some (mkPe (dminusR m x y z n a b c)) := by
  unfold dminusO dminusR
  cases h : formB m x y z with
  | false => rfl
  | true =>
    cases formB n a b c with
    | false => rfl
    | true =>
      simp only [nz15_eq (form_isF h), chainL, Bool.not_true, Bool.or_self]
      cases m != n <;> rfl
def FDMinus : List Int → Option Value
  | [m, x, y, z, n, a, b, c] => some (mkPe (dminusR m x y z n a b c))
  | _ => none

/-- cmp.Compare, Order, and the document's. -/
def F50 : List Int → Option Value
  | [_] => some (.bool false)
  | _ => none
def cmpT (a b : Int) : List (Bool × List Int) := [(decide (a < b), [-1]), (decide (a > b), [1])]
def cmpR (a b : Int) : Int := nth (chainL (cmpT a b) [0]) 0
def F47 : List Int → Option Value
  | [a, b] => some (mk1 (chainL (cmpT a b) [0]))
  | _ => none
def ordT (m x y z n a b c : Int) : List (Bool × List Int) :=
  [(cmpR (W (x * n)) (W (a * m)) != 0, [cmpR (W (x * n)) (W (a * m)), 0]), (cmpR (W (y * n)) (W (b * m)) != 0, [cmpR (W (y * n)) (W (b * m)), 0]), (cmpR (W (z * n)) (W (c * m)) != 0, [cmpR (W (z * n)) (W (c * m)), 0])]
def ordR (m x y z n a b c : Int) : List Int := chainL ((!(formB m x y z) || !(formB n a b c), [0, 3]) :: ordT m x y z n a b c) [0, 0]
def ordO (m x y z n a b c : Int) : Option Value := match !(formB m x y z) with
  | true => some (mkIe [0, 3])
  | false => match !(formB n a b c) with
    | true => some (mkIe [0, 3])
    | false => chainO mkIe (ordT m x y z n a b c) [0, 0]
theorem ordO_eq (m x y z n a b c : Int) : ordO m x y z n a b c = some (mkIe (ordR m x y z n a b c)) := by
  unfold ordO ordR
  cases formB m x y z with
  | false => rfl
  | true =>
    cases formB n a b c with
    | false => rfl
    | true => simp only [Bool.not_true]; rw [chain_eq]; rfl
def FOrd : List Int → Option Value
  | [m, x, y, z, n, a, b, c] => some (mkIe (ordR m x y z n a b c))
  | _ => none
def dcT : List Int → List Int → List (Bool × List Int)
  | a :: l, b :: m => (decide (a < b), [-1]) :: (decide (a > b), [1]) :: dcT l m
  | _, _ => []
def FDComp : List Int → Option Value
  | [a, b, c, d, e, f] => some (mk1 (chainL (dcT [a, b, c] [d, e, f]) [0]))
  | _ => none
def k1 (m x : Int) : Int := W (W (Int.tdiv 192 m) * x)
def dordV (m x y z n a b c : Int) : Int := nth (chainL (dcT [k1 m x, k1 m y, k1 m z] [k1 n a, k1 n b, k1 n c]) [0]) 0
def dordR (m x y z n a b c : Int) : List Int := chainL [(!(formB m x y z) || !(formB n a b c), [0, 3])] [dordV m x y z n a b c, 0]
def dordO (m x y z n a b c : Int) : Option Value := match !(formB m x y z) with
  | true => some (mkIe [0, 3])
  | false => match !(formB n a b c) with
    | true => some (mkIe [0, 3])
    | false => nz m (nz n (some (mkIe [dordV m x y z n a b c, 0])))
theorem dordO_eq (m x y z n a b c : Int) : dordO m x y z n a b c = some (mkIe (dordR m x y z n a b c)) := by
  unfold dordO dordR
  cases h : formB m x y z with
  | false => rfl
  | true =>
    cases h' : formB n a b c with
    | false => rfl
    | true => simp only [nz_eq (form_isF h), nz_eq (form_isF h')]; rfl
def FDOrd : List Int → Option Value
  | [m, x, y, z, n, a, b, c] => some (mkIe (dordR m x y z n a b c))
  | _ => none
def FAwake : List Int → Option Value
  | [] => some (.bool true)
  | _ => none

end Go.Proofs.Ytklmanmeedfjpac.Vx
