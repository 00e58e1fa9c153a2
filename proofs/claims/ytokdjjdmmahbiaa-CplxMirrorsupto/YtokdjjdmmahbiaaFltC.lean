/-
  What doubles stand for: numbers n 2^e, infinities; sums and products of them, rounded. Nothing here is trusted.
-/
import Derived.Test.YtokdjjdmmahbiaaFltM
namespace Go.Proofs.Ytokdjjdmmahbiaa.Vx
open Go Ieee

abbrev F64 : Format := FloatKind.f64.format
theorem sw64 : F64.signWeight = 9223372036854775808 := by decide
theorem ir64 : F64.infRung = 9218868437227405312 := by decide
theorem bi64 : F64.binade = 4503599627370496 := by decide
theorem lp64 : F64.leastPlace = -1074 := by decide
theorem fb64 : F64.fractionBits = 52 := rfl

inductive Cl where
  | fin (n e : Int)
  | inf (s : Bool)
  | nan
def sg (s : Bool) (m : Nat) : Int := if s then -(m : Int) else m
def clsD : Datum → Cl
  | .number s m e => .fin (sg s m) e
  | .infinity s => .inf s
  | .nan _ _ => .nan
def cls (x : Nat) : Cl := clsD (F64.read x)
/-- A rung's magnitude and place. -/
def magR (r : Nat) : Nat := if r < 4503599627370496 then r else 4503599627370496 + r % 4503599627370496
def plR (r : Nat) : Int := if r < 4503599627370496 then -1074 else -1074 + (r / 4503599627370496 - 1 : Nat)
theorem read_fin {x : Nat} (h : x % 9223372036854775808 < 9218868437227405312) : F64.read x = .number (x / 9223372036854775808 % 2 == 1) (magR (x % 9223372036854775808)) (plR (x % 9223372036854775808)) := by
  unfold Format.read magR plR
  simp only [sw64, bi64, ir64, lp64]
  split
  · rfl
  · rfl
theorem read_inf {x : Nat} (h : x % 9223372036854775808 = 9218868437227405312) : F64.read x = .infinity (x / 9223372036854775808 % 2 == 1) := by
  unfold Format.read
  simp only [sw64, bi64, ir64]
  rw [if_neg (by omega), if_neg (by omega), if_pos h]
theorem read_nan {x : Nat} (h : 9218868437227405312 < x % 9223372036854775808) : F64.read x = .nan (x / 9223372036854775808 % 2 == 1) (x % 9223372036854775808 - 9218868437227405312) := by
  unfold Format.read
  simp only [sw64, bi64, ir64]
  rw [if_neg (by omega), if_neg (by omega), if_neg (by omega)]
theorem cls_fin {x : Nat} {n e : Int} (h : cls x = .fin n e) : x % 9223372036854775808 < 9218868437227405312 ∧ n = sg (x / 9223372036854775808 % 2 == 1) (magR (x % 9223372036854775808)) ∧ e = plR (x % 9223372036854775808) := by
  unfold cls at h
  rcases Nat.lt_trichotomy (x % 9223372036854775808) 9218868437227405312 with h1 | h1 | h1
  · rw [read_fin h1] at h
    simp only [clsD, Cl.fin.injEq] at h
    exact ⟨h1, h.1.symm, h.2.symm⟩
  · rw [read_inf h1] at h; cases h
  · rw [read_nan h1] at h; cases h
theorem fin_cls {x : Nat} (h : x % 9223372036854775808 < 9218868437227405312) : cls x = .fin (sg (x / 9223372036854775808 % 2 == 1) (magR (x % 9223372036854775808))) (plR (x % 9223372036854775808)) := by
  unfold cls
  rw [read_fin h]
  rfl
/-- The rung to which a magnitude is rounded. -/
def rungOf (mag : Nat) (place : Int) : Nat :=
  if mag = 0 then 0 else
  let last := max (place + mag.log2 - 52) (-1074)
  min ((last - -1074).toNat * 4503599627370496 + Toward.even.cut false (mag <<< (place - last).toNat) (last - place).toNat) 9218868437227405312
theorem nearest_eq (s : Bool) (mag : Nat) (p : Int) : F64.nearest s mag p = F64.word s (rungOf mag p) := by
  unfold Format.nearest rungOf
  by_cases h : mag = 0
  · rw [if_pos h, if_pos h]
  · rw [if_neg h, if_neg h]
    simp only [bi64, ir64, lp64, fb64]
    rfl
theorem rungOf_le (mag : Nat) (p : Int) : rungOf mag p ≤ 9218868437227405312 := by
  unfold rungOf
  split
  · omega
  · exact Nat.min_le_right _ _
def negC : Cl → Cl
  | .fin n e => .fin (-n) e
  | .inf s => .inf (!s)
  | .nan => .nan
def clsR (r : Nat) : Cl := if r < 9218868437227405312 then .fin (magR r) (plR r) else .inf false
def sgC (s : Bool) (c : Cl) : Cl := if s then negC c else c
theorem cls_word (s : Bool) {r : Nat} (h : r ≤ 9218868437227405312) : cls (F64.word s r) = sgC s (clsR r) := by
  have hw : F64.word s r % 9223372036854775808 = r ∧ (F64.word s r / 9223372036854775808 % 2 == 1) = s := by
    unfold Format.word
    rw [sw64]
    cases s
    · refine ⟨Nat.mod_eq_of_lt (by simp; omega), ?_⟩
      simp only [Bool.false_eq_true, if_false]
      rw [Nat.div_eq_of_lt (by omega)]
      rfl
    · simp only [if_true]
      refine ⟨by omega, ?_⟩
      rw [show (9223372036854775808 + r) / 9223372036854775808 = 1 by omega]
      rfl
  unfold clsR
  by_cases hr : r < 9218868437227405312
  · rw [fin_cls (by rw [hw.1]; exact hr), hw.1, hw.2, if_pos hr]
    cases s <;> simp [sgC, sg, negC]
  · have he : r = 9218868437227405312 := by omega
    unfold cls
    rw [read_inf (by rw [hw.1]; exact he), hw.2, if_neg hr]
    cases s <;> rfl
/-- n 2^p, rounded. -/
def roundc (n p : Int) : Cl := sgC (decide (n < 0)) (clsR (rungOf n.natAbs p))
theorem cls_nearest (s : Bool) (mag : Nat) (p : Int) : cls (F64.nearest s mag p) = sgC s (clsR (rungOf mag p)) := by rw [nearest_eq, cls_word s (rungOf_le _ _)]
theorem sgC_zero (s : Bool) (p : Int) : sgC s (clsR (rungOf 0 p)) = .fin 0 (-1074) := by
  have : rungOf 0 p = 0 := by unfold rungOf; rw [if_pos rfl]
  rw [this]
  cases s <;> rfl
theorem roundc_sg (s : Bool) (mag : Nat) (p : Int) : sgC s (clsR (rungOf mag p)) = roundc (sg s mag) p := by
  unfold roundc
  rcases Nat.eq_zero_or_pos mag with rfl | h
  · rw [show (sg s 0).natAbs = 0 by cases s <;> rfl, sgC_zero, sgC_zero]
  · cases s
    · rw [show decide (sg false mag < 0) = false by unfold sg; simp, show (sg false mag).natAbs = mag by unfold sg; simp]
    · rw [show decide (sg true mag < 0) = true by unfold sg; simp; omega, show (sg true mag).natAbs = mag by unfold sg; simp]
theorem negC_negC (c : Cl) : negC (negC c) = c := by cases c <;> simp [negC]
theorem roundc_neg (n p : Int) : roundc (-n) p = negC (roundc n p) := by
  rcases Int.lt_trichotomy n 0 with h | rfl | h
  · unfold roundc
    rw [decide_eq_true h, decide_eq_false (by omega), Int.natAbs_neg]
    simp [sgC, negC_negC]
  · rfl
  · unfold roundc
    rw [decide_eq_true (by omega : -n < 0), decide_eq_false (by omega : ¬ n < 0), Int.natAbs_neg]
    simp [sgC]
theorem sg_mul (s t : Bool) (m n : Nat) : sg (s ^^ t) (m * n) = sg s m * sg t n := by
  cases s <;> cases t <;> simp [sg, Int.neg_mul, Int.mul_neg]
theorem cls_mul {x y : Nat} {n e m f : Int} (hx : cls x = .fin n e) (hy : cls y = .fin m f) : cls (fmul .f64 x y) = roundc (n * m) (e + f) := by
  obtain ⟨h1, rfl, rfl⟩ := cls_fin hx
  obtain ⟨h2, rfl, rfl⟩ := cls_fin hy
  unfold fmul Format.mul
  rw [read_fin h1, read_fin h2]
  simp only [Datum.product, Option.map_some, Option.getD_some, Format.write]
  rw [cls_nearest, roundc_sg, sg_mul]
theorem signed_eq (s : Bool) (m k : Nat) : signed s m k = sg s m * ((2 ^ k : Nat) : Int) := by
  unfold signed sg
  rw [Nat.shiftLeft_eq]
  cases s <;> simp [Int.neg_mul]
def addC (n e m f : Int) : Cl := roundc (n * ((2 ^ (e - min e f).toNat : Nat) : Int) + m * ((2 ^ (f - min e f).toNat : Nat) : Int)) (min e f)
theorem cls_add {x y : Nat} {n e m f : Int} (hx : cls x = .fin n e) (hy : cls y = .fin m f) : cls (fadd .f64 x y) = addC n e m f := by
  obtain ⟨h1, rfl, rfl⟩ := cls_fin hx
  obtain ⟨h2, rfl, rfl⟩ := cls_fin hy
  unfold fadd Format.add addC
  rw [read_fin h1, read_fin h2]
  simp only [Datum.sum, Option.map_some, Option.getD_some, Format.write]
  rw [cls_nearest, signed_eq, signed_eq]
  generalize sg _ _ * _ + sg _ _ * _ = t
  by_cases h : t = 0
  · subst h
    unfold roundc
    rw [Int.natAbs_zero, sgC_zero, sgC_zero]
  · rw [if_neg h]
    rfl
theorem read_fneg (x : Nat) : F64.read (fneg .f64 x) = (F64.read x).opposite := by
  have h1 : fneg .f64 x % 9223372036854775808 = x % 9223372036854775808 := by have := fneg_mod .f64 x; rw [show FloatKind.f64.format.signWeight = 9223372036854775808 from sw64] at this; exact this
  have h2 : (fneg .f64 x / 9223372036854775808 % 2 == 1) = !(x / 9223372036854775808 % 2 == 1) := by
    unfold fneg Op.negFloat
    show ((x ^^^ 2 ^ 63) / 2 ^ 63 % 2 == 1) = !(x / 2 ^ 63 % 2 == 1)
    have e1 : ∀ y : Nat, (y / 2 ^ 63 % 2 == 1) = y.testBit 63 := fun y => by rw [Nat.testBit_eq_decide_div_mod_eq]; rfl
    rw [e1, e1, Nat.testBit_xor, Nat.testBit_two_pow_self]
    cases x.testBit 63 <;> rfl
  rcases Nat.lt_trichotomy (x % 9223372036854775808) 9218868437227405312 with h | h | h
  · rw [read_fin h, read_fin (by rw [h1]; exact h), h1, h2]; rfl
  · rw [read_inf h, read_inf (by rw [h1]; exact h), h2]; rfl
  · rw [read_nan h, read_nan (by rw [h1]; exact h), h1, h2]; rfl
theorem cls_neg (x : Nat) : cls (fneg .f64 x) = negC (cls x) := by
  unfold cls
  rw [read_fneg]
  cases F64.read x with
  | number s m e => cases s <;> simp [Datum.opposite, clsD, negC, sg]
  | infinity s => rfl
  | nan s t => rfl
theorem fsub_eq (x y : Nat) : fsub .f64 x y = fadd .f64 x (fneg .f64 y) := by
  unfold fsub fadd Format.sub Format.add
  rw [read_fneg]
theorem cls_sub {x y : Nat} {n e m f : Int} (hx : cls x = .fin n e) (hy : cls y = .fin m f) : cls (fsub .f64 x y) = addC n e (-m) f := by
  rw [fsub_eq]
  exact cls_add hx (by rw [cls_neg, hy]; rfl)
theorem addC_neg (n e m f : Int) : addC (-n) e (-m) f = negC (addC n e m f) := by
  unfold addC
  rw [← roundc_neg]
  congr 1
  rw [Int.neg_mul, Int.neg_mul, ← Int.neg_add]
theorem addC_comm (n e m f : Int) : addC n e m f = addC m f n e := by
  unfold addC
  rw [Int.min_comm f e, Int.add_comm]
/-! ## Whatever stands there -/
def mulCl : Cl → Cl → Cl
  | .fin n e, .fin m f => roundc (n * m) (e + f)
  | .inf s, .inf t => .inf (s ^^ t)
  | .inf s, .fin m _ => if m = 0 then .nan else .inf (s ^^ decide (m < 0))
  | .fin m _, .inf s => if m = 0 then .nan else .inf (s ^^ decide (m < 0))
  | _, _ => .nan
def addCl : Cl → Cl → Cl
  | .fin n e, .fin m f => addC n e m f
  | .inf s, .inf t => if s = t then .inf s else .nan
  | .inf s, .fin _ _ => .inf s
  | .fin _ _, .inf s => .inf s
  | _, _ => .nan
theorem cls_qn : cls (qn .f64) = .nan := by kernel_rfl
theorem cls_infw (s : Bool) : cls (F64.word s F64.infRung) = .inf s := by cases s <;> kernel_rfl
theorem cls_addA (x y : Nat) : cls (fadd .f64 x y) = addCl (cls x) (cls y) := by
  cases hx : F64.read x with
  | nan s t =>
    have e : cls x = .nan := by unfold cls; rw [hx]; rfl
    have : fadd .f64 x y = qn .f64 := by unfold fadd Format.add; rw [hx, sum_nan_l]; rfl
    rw [this, cls_qn, e]
    cases cls y <;> rfl
  | infinity s =>
    have e : cls x = .inf s := by unfold cls; rw [hx]; rfl
    cases hy : F64.read y with
    | nan u t =>
      have e2 : cls y = .nan := by unfold cls; rw [hy]; rfl
      have : fadd .f64 x y = qn .f64 := by unfold fadd Format.add; rw [hy, sum_nan_r]; rfl
      rw [this, cls_qn, e, e2]; rfl
    | infinity t =>
      have e2 : cls y = .inf t := by unfold cls; rw [hy]; rfl
      rw [e, e2]
      unfold fadd Format.add
      rw [hx, hy]
      simp only [Datum.sum, addCl]
      by_cases h : s = t
      · rw [if_pos h, if_pos h]
        exact cls_infw s
      · rw [if_neg h, if_neg h]
        exact cls_qn
    | number t m f =>
      have e2 : cls y = .fin (sg t m) f := by unfold cls; rw [hy]; rfl
      rw [e, e2]
      unfold fadd Format.add
      rw [hx, hy]
      exact cls_infw s
  | number s n e0 =>
    have e : cls x = .fin (sg s n) e0 := by unfold cls; rw [hx]; rfl
    cases hy : F64.read y with
    | nan u t =>
      have e2 : cls y = .nan := by unfold cls; rw [hy]; rfl
      have : fadd .f64 x y = qn .f64 := by unfold fadd Format.add; rw [hy, sum_nan_r]; rfl
      rw [this, cls_qn, e, e2]; rfl
    | infinity t =>
      have e2 : cls y = .inf t := by unfold cls; rw [hy]; rfl
      rw [e, e2]
      unfold fadd Format.add
      rw [hx, hy]
      exact cls_infw t
    | number t m f =>
      have e2 : cls y = .fin (sg t m) f := by unfold cls; rw [hy]; rfl
      rw [e, e2, cls_add e e2]
      rfl
theorem sg_zero (s : Bool) (m : Nat) : sg s m = 0 ↔ m = 0 := by cases s <;> simp [sg]
theorem sg_lt {s : Bool} {m : Nat} (h : m ≠ 0) : decide (sg s m < 0) = s := by
  cases s
  · simp [sg]
  · simp [sg]; omega
theorem cls_mulA (x y : Nat) : cls (fmul .f64 x y) = mulCl (cls x) (cls y) := by
  cases hx : F64.read x with
  | nan s t =>
    have e : cls x = .nan := by unfold cls; rw [hx]; rfl
    have : fmul .f64 x y = qn .f64 := by unfold fmul Format.mul; rw [hx, product_nan_l]; rfl
    rw [this, cls_qn, e]
    cases cls y <;> rfl
  | infinity s =>
    have e : cls x = .inf s := by unfold cls; rw [hx]; rfl
    cases hy : F64.read y with
    | nan u t =>
      have e2 : cls y = .nan := by unfold cls; rw [hy]; rfl
      have : fmul .f64 x y = qn .f64 := by unfold fmul Format.mul; rw [hy, product_nan_r]; rfl
      rw [this, cls_qn, e, e2]; rfl
    | infinity t =>
      have e2 : cls y = .inf t := by unfold cls; rw [hy]; rfl
      rw [e, e2]
      unfold fmul Format.mul
      rw [hx, hy]
      exact cls_infw _
    | number t m f =>
      have e2 : cls y = .fin (sg t m) f := by unfold cls; rw [hy]; rfl
      rw [e, e2]
      unfold fmul Format.mul
      rw [hx, hy]
      simp only [Datum.product, mulCl]
      by_cases h : m = 0
      · rw [if_pos h, if_pos ((sg_zero t m).2 h)]
        exact cls_qn
      · rw [if_neg h, if_neg (fun hc => h ((sg_zero t m).1 hc)), sg_lt h]
        exact cls_infw _
  | number s n e0 =>
    have e : cls x = .fin (sg s n) e0 := by unfold cls; rw [hx]; rfl
    cases hy : F64.read y with
    | nan u t =>
      have e2 : cls y = .nan := by unfold cls; rw [hy]; rfl
      have : fmul .f64 x y = qn .f64 := by unfold fmul Format.mul; rw [hy, product_nan_r]; rfl
      rw [this, cls_qn, e, e2]; rfl
    | infinity t =>
      have e2 : cls y = .inf t := by unfold cls; rw [hy]; rfl
      rw [e, e2]
      unfold fmul Format.mul
      rw [hx, hy]
      simp only [Datum.product, mulCl]
      by_cases h : n = 0
      · rw [if_pos h, if_pos ((sg_zero s n).2 h)]
        exact cls_qn
      · rw [if_neg h, if_neg (fun hc => h ((sg_zero s n).1 hc)), sg_lt h]
        exact cls_infw _
    | number t m f =>
      have e2 : cls y = .fin (sg t m) f := by unfold cls; rw [hy]; rfl
      rw [e, e2, cls_mul e e2]
      rfl
theorem cls_subA (x y : Nat) : cls (fsub .f64 x y) = addCl (cls x) (negC (cls y)) := by rw [fsub_eq, cls_addA, cls_neg]
theorem addCl_neg (a b : Cl) : addCl (negC a) (negC b) = negC (addCl a b) := by
  cases a <;> cases b <;> simp only [addCl, negC]
  · exact addC_neg _ _ _ _
  · rename_i s t
    cases s <;> cases t <;> rfl
theorem addCl_comm (a b : Cl) : addCl a b = addCl b a := by
  cases a <;> cases b <;> simp only [addCl]
  · exact addC_comm _ _ _ _
  · rename_i s t
    by_cases h : s = t
    · subst h; rfl
    · rw [if_neg h, if_neg (fun e => h e.symm)]
theorem mulCl_comm (a b : Cl) : mulCl a b = mulCl b a := by
  cases a <;> cases b <;> simp only [mulCl]
  · rw [Int.mul_comm, Int.add_comm]
  · rw [Bool.xor_comm]
theorem mulCl_negL (a b : Cl) : mulCl (negC a) b = negC (mulCl a b) := by
  cases a with
  | fin n e => cases b with
    | fin m f =>
      show roundc (-n * m) (e + f) = negC (roundc (n * m) (e + f))
      rw [Int.neg_mul, roundc_neg]
    | inf s =>
      simp only [mulCl, negC]
      by_cases h : n = 0
      · subst h; rfl
      · rw [if_neg (by omega), if_neg h]
        simp only
        congr 1
        rcases Int.lt_or_gt_of_ne h with h1 | h1
        · rw [decide_eq_true h1, decide_eq_false (by omega : ¬ -n < 0)]; cases s <;> rfl
        · rw [decide_eq_false (by omega : ¬ n < 0), decide_eq_true (by omega : -n < 0)]; cases s <;> rfl
    | nan => rfl
  | inf s => cases b with
    | fin m f =>
      simp only [mulCl, negC]
      by_cases h : m = 0
      · subst h; rfl
      · rw [if_neg h, if_neg h]
        simp only
        congr 1
        cases s <;> simp
    | inf t => simp only [mulCl, negC]; congr 1; cases s <;> cases t <;> rfl
    | nan => rfl
  | nan => cases b <;> rfl
theorem mulCl_negR (a b : Cl) : mulCl a (negC b) = negC (mulCl a b) := by rw [mulCl_comm, mulCl_negL, mulCl_comm]
/-- Equal by ==, or both NaNs. -/
def eqN (x y : Nat) : Bool := feq .f64 x y || (isNaNb .f64 x && isNaNb .f64 y)
theorem feq_cls {x y : Nat} {n e : Int} (hx : cls x = .fin n e) (hy : cls y = .fin n e) : feq .f64 x y = true := by
  obtain ⟨h1, e1, e2⟩ := cls_fin hx
  obtain ⟨h2, e3, e4⟩ := cls_fin hy
  unfold feq Format.order
  rw [show FloatKind.f64.format.read x = _ from read_fin h1, show FloatKind.f64.format.read y = _ from read_fin h2]
  simp only [Datum.order, signed_eq]
  rw [← e1, ← e2, ← e3, ← e4]
  simp [compare, compareOfLessAndEq]
theorem isNaN_cls {x : Nat} (h : cls x = .nan) : isNaNb .f64 x = true := by
  unfold cls at h
  unfold isNaNb FloatKind.decode
  cases hr : F64.read x with
  | nan s t => rfl
  | number s m e => rw [hr] at h; cases h
  | infinity s => rw [hr] at h; cases h
theorem eqN_cls {x y : Nat} (h : cls x = cls y) : eqN x y = true := by
  unfold eqN
  cases hx : cls x with
  | fin n e => rw [feq_cls hx (by rw [← h]; exact hx)]; rfl
  | nan => rw [isNaN_cls hx, isNaN_cls (by rw [← h]; exact hx)]; simp
  | inf s =>
    have key : ∀ z, cls z = .inf s → F64.read z = .infinity s := fun z hz => by
      unfold cls at hz
      cases hr : F64.read z with
      | nan u t => rw [hr] at hz; cases hz
      | number u m e => rw [hr] at hz; cases hz
      | infinity u => rw [hr] at hz; simp only [clsD, Cl.inf.injEq] at hz; rw [hz]
    have : feq .f64 x y = true := by
      unfold feq Format.order
      rw [show FloatKind.f64.format.read x = _ from key x hx, show FloatKind.f64.format.read y = _ from key y (by rw [← h]; exact hx)]
      cases s <;> rfl
    rw [this]; rfl

/-! ## Exactly -/
theorem cut_exact (m k : Nat) : Toward.even.cut false (m * 2 ^ k) k = m := by
  have hk : 0 < 2 ^ k := Nat.two_pow_pos k
  rcases Nat.eq_zero_or_pos m with rfl | hm
  · unfold Toward.cut
    simp
  · have hl : min k ((m * 2 ^ k).log2 + 2) = k := by
      have : k ≤ (m * 2 ^ k).log2 := by
        rw [Nat.le_log2 (by have := Nat.mul_pos hm hk; omega)]
        exact Nat.le_mul_of_pos_left _ hm
      omega
    unfold Toward.cut
    simp only [hl, Nat.shiftLeft_eq, Nat.one_mul]
    rw [Nat.mul_div_cancel _ hk, Nat.mul_mod_left]
    simp
theorem rung_exact {r : Nat} (h : r < 9218868437227405312) (k : Nat) : rungOf (magR r * 2 ^ k) (plR r - k) = r := by
  have hk : 0 < 2 ^ k := Nat.two_pow_pos k
  unfold magR plR
  by_cases hr : r < 4503599627370496
  · rw [if_pos hr, if_pos hr]
    rcases Nat.eq_zero_or_pos r with rfl | h0
    · rw [Nat.zero_mul]; unfold rungOf; rw [if_pos rfl]
    · have hm : r * 2 ^ k ≠ 0 := by have := Nat.mul_pos h0 hk; omega
      have hlog : (r * 2 ^ k).log2 < 52 + k := by
        rw [Nat.log2_lt hm, Nat.pow_add]
        exact Nat.mul_lt_mul_of_pos_right hr hk
      unfold rungOf
      rw [if_neg hm]
      simp only
      have hlast : max ((-1074 : Int) - k + ((r * 2 ^ k).log2 : Nat) - 52) (-1074) = -1074 := by omega
      rw [hlast]
      have e1 : ((-1074 : Int) - k - -1074).toNat = 0 := by omega
      have e2 : ((-1074 : Int) - (-1074 - k)).toNat = k := by omega
      rw [e1, e2, Nat.shiftLeft_zero, cut_exact]
      have e3 : ((-1074 : Int) - -1074).toNat = 0 := by omega
      rw [e3]
      omega
  · rw [if_neg hr, if_neg hr]
    have hm : (4503599627370496 + r % 4503599627370496) * 2 ^ k ≠ 0 := by have := Nat.mul_pos (show 0 < 4503599627370496 + r % 4503599627370496 by omega) hk; omega
    have hlog : ((4503599627370496 + r % 4503599627370496) * 2 ^ k).log2 = 52 + k := by
      rw [Nat.log2_eq_iff hm, Nat.pow_add, show 52 + k + 1 = 53 + k by omega, Nat.pow_add]
      exact ⟨Nat.mul_le_mul_right _ (by omega), Nat.mul_lt_mul_of_pos_right (by omega) hk⟩
    unfold rungOf
    rw [if_neg hm]
    simp only [hlog]
    have hlast : max ((-1074 : Int) + (r / 4503599627370496 - 1 : Nat) - k + ((52 + k : Nat) : Int) - 52) (-1074) = -1074 + (r / 4503599627370496 - 1 : Nat) := by omega
    rw [hlast]
    have e1 : ((-1074 : Int) + (r / 4503599627370496 - 1 : Nat) - k - (-1074 + (r / 4503599627370496 - 1 : Nat))).toNat = 0 := by omega
    have e2 : ((-1074 : Int) + (r / 4503599627370496 - 1 : Nat) - (-1074 + (r / 4503599627370496 - 1 : Nat) - k)).toNat = k := by omega
    rw [e1, e2, Nat.shiftLeft_zero, cut_exact]
    have e3 : ((-1074 : Int) + (r / 4503599627370496 - 1 : Nat) - -1074).toNat = r / 4503599627370496 - 1 := by omega
    rw [e3]
    omega
theorem roundc_exact {x : Nat} {n e : Int} (hx : cls x = .fin n e) (k : Nat) : roundc (n * ((2 ^ k : Nat) : Int)) (e - k) = .fin n e := by
  obtain ⟨h1, rfl, rfl⟩ := cls_fin hx
  generalize (x / 9223372036854775808 % 2 == 1) = s
  generalize x % 9223372036854775808 = r at h1
  have e1 : sg s (magR r) * ((2 ^ k : Nat) : Int) = sg s (magR r * 2 ^ k) := by cases s <;> simp [sg, Int.neg_mul]
  rw [e1, ← roundc_sg, rung_exact h1]
  unfold clsR
  rw [if_pos h1]
  cases s <;> simp [sgC, negC, sg]
theorem fin_ge {x : Nat} {n e : Int} (hx : cls x = .fin n e) : -1074 ≤ e := by
  obtain ⟨_, _, rfl⟩ := cls_fin hx
  unfold plR
  split <;> omega
theorem cls_zero : cls 0 = .fin 0 (-1074) := by kernel_rfl
theorem cls_one : cls 4607182418800017408 = .fin 4503599627370496 (-52) := by kernel_rfl
theorem roundc_zero (p : Int) : roundc 0 p = .fin 0 (-1074) := sgC_zero _ _
theorem mul_one {x : Nat} {n e : Int} (hx : cls x = .fin n e) : mulCl (.fin n e) (.fin 4503599627370496 (-52)) = .fin n e := by
  have := roundc_exact hx 52
  simp only [mulCl]
  exact this
theorem mul_zero (n e f : Int) : mulCl (.fin n e) (.fin 0 f) = .fin 0 (-1074) := by
  simp only [mulCl]
  rw [Int.mul_zero, roundc_zero]
theorem add_zero {x : Nat} {n e : Int} (hx : cls x = .fin n e) : addCl (.fin n e) (.fin 0 (-1074)) = .fin n e := by
  have hge := fin_ge hx
  have := roundc_exact hx (e + 1074).toNat
  simp only [addCl, addC]
  rw [show min e (-1074) = -1074 by omega, Int.zero_mul, Int.add_zero, show e - -1074 = e + 1074 by omega]
  rw [show e - ((e + 1074).toNat : Int) = -1074 by omega] at this
  exact this
theorem fin_addL {a b : Cl} {n e : Int} (h : addCl a b = .fin n e) : (∃ m f, a = .fin m f) ∧ ∃ m f, b = .fin m f := by
  cases a <;> cases b <;> simp only [addCl, reduceCtorEq] at h
  · exact ⟨⟨_, _, rfl⟩, _, _, rfl⟩
  · split at h <;> cases h
end Go.Proofs.Ytokdjjdmmahbiaa.Vx
