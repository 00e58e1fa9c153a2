/-
  Floats whose NaNs are one another's: operations, and what the machine does of them. Nothing here is trusted.
-/
import Derived.Orders
import Derived.Below
import Derived.KernelRfl
import Derived.ChangeKeysEq
import Derived.Laws.StructEq

namespace Go.Proofs.Ytjhijkdicmbbiaa.Vx
open Go Go.RowKit

def isNaNb (k : FloatKind) (b : Nat) : Bool := (k.decode b).isNaN
def qn : FloatKind → Nat
  | .f32 => 2143289344
  | .f64 => 9221120237041090561
def fadd (k : FloatKind) (a b : Nat) : Nat := (k.format.add a b).getD (qn k)
def fsub (k : FloatKind) (a b : Nat) : Nat := (k.format.sub a b).getD (qn k)
def fmul (k : FloatKind) (a b : Nat) : Nat := (k.format.mul a b).getD (qn k)
def fdiv (k : FloatKind) (a b : Nat) : Nat := (k.format.div a b).getD (qn k)
def fsqrt (a : Nat) : Nat := (FloatKind.f64.format.sqrt a).getD (qn .f64)
def fneg (k : FloatKind) (b : Nat) : Nat := Op.negFloat k b
def feq (k : FloatKind) (a b : Nat) : Bool := k.format.order a b == some .eq
def flt (k : FloatKind) (a b : Nat) : Bool := k.format.order a b == some .lt
def fgt (k : FloatKind) (a b : Nat) : Bool := k.format.order a b == some .gt
def fmaxO (k : FloatKind) (a b : Nat) : Option Ordering → Nat
  | none => qn k
  | some .lt => b
  | some .gt => a
  | some .eq => match (k.decode a).neg with
    | true => b
    | false => a
def fminO (k : FloatKind) (a b : Nat) : Option Ordering → Nat
  | none => qn k
  | some .lt => a
  | some .gt => b
  | some .eq => match (k.decode a).neg with
    | true => a
    | false => b
def fmax (k : FloatKind) (a b : Nat) : Nat := fmaxO k a b (k.format.order a b)
def fmin (k : FloatKind) (a b : Nat) : Nat := fminO k a b (k.format.order a b)
def kEq : FloatKind → FloatKind → Bool
  | .f32, .f32 | .f64, .f64 => true
  | _, _ => false
def fcvD (d : FloatKind) : Ieee.Datum → Nat
  | .nan _ _ => qn d
  | .infinity s => d.encode (.infinity s)
  | .number s m e => d.encode (.number s m e)
def ovfD (d : FloatKind) : Ieee.Datum → Bool
  | .nan _ _ => false
  | .infinity _ => false
  | .number s m e => (d.decode (d.encode (.number s m e))).isInfinity
def fcv (s d : FloatKind) (b : Nat) : Nat := match kEq s d with
  | true => b
  | false => fcvD d (s.decode b)
def ovf (s d : FloatKind) (b : Nat) : Bool := match kEq s d with
  | true => false
  | false => ovfD d (s.decode b)

/-- A float, any NaN of its kind if it is one; a complex number likewise. -/
def aF (k : FloatKind) (b : Nat) : Value := .iface 0 (.float k b)
def aC (k : FloatKind) (a b : Nat) : Value := .iface 0 (.complex k a b)
def fl? : Value → Option (FloatKind × Nat)
  | .float k b => some (k, b)
  | .iface _ (.float k b) => some (k, b)
  | _ => none
def cx? : Value → Option (FloatKind × Nat × Nat)
  | .complex k a b => some (k, a, b)
  | .iface _ (.complex k a b) => some (k, a, b)
  | _ => none

def fltBinF (op : BinOp) (k : FloatKind) (a b : Nat) : Option Value := match op with
  | .add => some (aF k (fadd k a b))
  | .sub => some (aF k (fsub k a b))
  | .mul => some (aF k (fmul k a b))
  | .quo => some (aF k (fdiv k a b))
  | .eql => some (.bool (feq k a b))
  | .neq => some (.bool (!feq k a b))
  | .lss => some (.bool (flt k a b))
  | .leq => some (.bool (flt k a b || feq k a b))
  | .gtr => some (.bool (fgt k a b))
  | .geq => some (.bool (fgt k a b || feq k a b))
  | _ => none
def fltBinC (op : BinOp) (k : FloatKind) (a b c d : Nat) : Option Value := match op with
  | .add => some (aC k (fadd k a c) (fadd k b d))
  | .sub => some (aC k (fsub k a c) (fsub k b d))
  | .eql => some (.bool (feq k a c && feq k b d))
  | .neq => some (.bool !(feq k a c && feq k b d))
  | _ => none
def fltBin (op : BinOp) (x y : Value) : Option Value := match fl? x with
  | some (k, a) => match fl? y with
    | some (k', b) => match kEq k k' with
      | true => fltBinF op k a b
      | false => none
    | none => none
  | none => match cx? x with
    | some (k, a, b) => match cx? y with
      | some (k', c, d) => match kEq k k' with
        | true => fltBinC op k a b c d
        | false => none
      | none => none
    | none => none
def fltNeg (x : Value) : Option Value := match fl? x with
  | some (k, a) => some (aF k (fneg k a))
  | none => match cx? x with
    | some (k, a, b) => some (aC k (fneg k a) (fneg k b))
    | none => none
def fltB (b : Builtin) (args : List Value) : Option Value := match b with
  | .real => match args with
    | [x] => match cx? x with
      | some (k, a, _) => some (aF k a)
      | none => none
    | _ => none
  | .imag => match args with
    | [x] => match cx? x with
      | some (k, _, b) => some (aF k b)
      | none => none
    | _ => none
  | .complex => match args with
    | [x, y] => match fl? x with
      | some (k, a) => match fl? y with
        | some (k', b) => match kEq k k' with
          | true => some (aC k a b)
          | false => none
        | none => none
      | none => none
    | _ => none
  | .max => match args with
    | [x, y] => match fl? x with
      | some (k, a) => match fl? y with
        | some (k', b) => match kEq k k' with
          | true => some (aF k (fmax k a b))
          | false => none
        | none => none
      | none => none
    | _ => none
  | .min => match args with
    | [x, y] => match fl? x with
      | some (k, a) => match fl? y with
        | some (k', b) => match kEq k k' with
          | true => some (aF k (fmin k a b))
          | false => none
        | none => none
      | none => none
    | _ => none
  | _ => none

def simF (k : FloatKind) (b b' : Nat) : Prop := b' = b ∨ (isNaNb k b = true ∧ isNaNb k b' = true)
theorem simF.refl (k : FloatKind) (b : Nat) : simF k b b := Or.inl rfl
theorem nan_read {k : FloatKind} {b : Nat} (h : isNaNb k b = true) : ∃ s t, k.format.read b = .nan s t := by
  unfold isNaNb FloatKind.decode Ieee.Datum.isNaN at h
  split at h
  · rename_i s t hd; exact ⟨s, t, hd⟩
  · cases h
theorem kEq_eq {k k' : FloatKind} (h : kEq k k' = true) : k = k' := by cases k <;> cases k' <;> first | rfl | cases h
theorem sum_nan_l (s : Bool) (t : Nat) (y : Ieee.Datum) : (Ieee.Datum.nan s t).sum y = none := by cases y <;> rfl
theorem sum_nan_r (s : Bool) (t : Nat) (y : Ieee.Datum) : y.sum (Ieee.Datum.nan s t) = none := by cases y <;> rfl
theorem product_nan_l (s : Bool) (t : Nat) (y : Ieee.Datum) : (Ieee.Datum.nan s t).product y = none := by cases y <;> rfl
theorem product_nan_r (s : Bool) (t : Nat) (y : Ieee.Datum) : y.product (Ieee.Datum.nan s t) = none := by cases y <;> rfl
theorem quotient_nan_l (n : Nat) (s : Bool) (t : Nat) (y : Ieee.Datum) : (Ieee.Datum.nan s t).quotient n y = none := by cases y <;> rfl
theorem quotient_nan_r (n : Nat) (s : Bool) (t : Nat) (y : Ieee.Datum) : y.quotient n (Ieee.Datum.nan s t) = none := by cases y <;> rfl
theorem order_nan_l (s : Bool) (t : Nat) (y : Ieee.Datum) : (Ieee.Datum.nan s t).order y = none := by cases y <;> rfl
theorem order_nan_r (s : Bool) (t : Nat) (y : Ieee.Datum) : y.order (Ieee.Datum.nan s t) = none := by cases y <;> rfl

section
variable {k : FloatKind} {a b a' b' : Nat}
theorem sim_two {α : Type} {f : Nat → Nat → Option α} (hl : ∀ x y, isNaNb k x = true → f x y = none) (hr : ∀ x y, isNaNb k y = true → f x y = none) (ha : simF k a a') (hb : simF k b b') : f a' b' = f a b := by
  rcases ha with rfl | ⟨h1, h2⟩
  · rcases hb with rfl | ⟨h1, h2⟩
    · rfl
    · rw [hr _ _ h1, hr _ _ h2]
  · rw [hl _ _ h1, hl _ _ h2]
theorem add_nl (x y : Nat) (h : isNaNb k x = true) : k.format.add x y = none := by obtain ⟨s, t, h⟩ := nan_read h; unfold Ieee.Format.add; rw [h, sum_nan_l]; rfl
theorem add_nr (x y : Nat) (h : isNaNb k y = true) : k.format.add x y = none := by obtain ⟨s, t, h⟩ := nan_read h; unfold Ieee.Format.add; rw [h, sum_nan_r]; rfl
theorem sub_nl (x y : Nat) (h : isNaNb k x = true) : k.format.sub x y = none := by obtain ⟨s, t, h⟩ := nan_read h; unfold Ieee.Format.sub; rw [h, sum_nan_l]; rfl
theorem sub_nr (x y : Nat) (h : isNaNb k y = true) : k.format.sub x y = none := by obtain ⟨s, t, h⟩ := nan_read h; unfold Ieee.Format.sub; rw [h]; simp only [Ieee.Datum.opposite]; rw [sum_nan_r]; rfl
theorem mul_nl (x y : Nat) (h : isNaNb k x = true) : k.format.mul x y = none := by obtain ⟨s, t, h⟩ := nan_read h; unfold Ieee.Format.mul; rw [h, product_nan_l]; rfl
theorem mul_nr (x y : Nat) (h : isNaNb k y = true) : k.format.mul x y = none := by obtain ⟨s, t, h⟩ := nan_read h; unfold Ieee.Format.mul; rw [h, product_nan_r]; rfl
theorem div_nl (x y : Nat) (h : isNaNb k x = true) : k.format.div x y = none := by obtain ⟨s, t, h⟩ := nan_read h; unfold Ieee.Format.div; rw [h, quotient_nan_l]; rfl
theorem div_nr (x y : Nat) (h : isNaNb k y = true) : k.format.div x y = none := by obtain ⟨s, t, h⟩ := nan_read h; unfold Ieee.Format.div; rw [h, quotient_nan_r]; rfl
theorem order_nl (x y : Nat) (h : isNaNb k x = true) : k.format.order x y = none := by obtain ⟨s, t, h⟩ := nan_read h; unfold Ieee.Format.order; rw [h, order_nan_l]
theorem order_nr (x y : Nat) (h : isNaNb k y = true) : k.format.order x y = none := by obtain ⟨s, t, h⟩ := nan_read h; unfold Ieee.Format.order; rw [h, order_nan_r]
theorem add_sim (ha : simF k a a') (hb : simF k b b') : k.format.add a' b' = k.format.add a b := sim_two add_nl add_nr ha hb
theorem sub_sim (ha : simF k a a') (hb : simF k b b') : k.format.sub a' b' = k.format.sub a b := sim_two sub_nl sub_nr ha hb
theorem mul_sim (ha : simF k a a') (hb : simF k b b') : k.format.mul a' b' = k.format.mul a b := sim_two mul_nl mul_nr ha hb
theorem div_sim (ha : simF k a a') (hb : simF k b b') : k.format.div a' b' = k.format.div a b := sim_two div_nl div_nr ha hb
theorem order_sim (ha : simF k a a') (hb : simF k b b') : k.format.order a' b' = k.format.order a b := sim_two order_nl order_nr ha hb
theorem sqrt_nl {x : Nat} (h : isNaNb .f64 x = true) : FloatKind.f64.format.sqrt x = none := by obtain ⟨s, t, h⟩ := nan_read h; unfold Ieee.Format.sqrt; rw [h]; rfl
theorem sqrt_sim (ha : simF .f64 a a') : FloatKind.f64.format.sqrt a' = FloatKind.f64.format.sqrt a := by
  rcases ha with rfl | ⟨h1, h2⟩
  · rfl
  · rw [sqrt_nl h1, sqrt_nl h2]
theorem isNaN_rung {k : FloatKind} {b : Nat} (h : k.format.infRung < b % k.format.signWeight) : isNaNb k b = true := by
  unfold isNaNb FloatKind.decode Ieee.Format.read
  simp only
  rw [if_neg, if_neg (by omega), if_neg (by omega)]
  · rfl
  · have : k.format.binade ≤ k.format.infRung := by cases k <;> decide
    omega
theorem rung_isNaN {k : FloatKind} {b : Nat} (h : isNaNb k b = true) : k.format.infRung < b % k.format.signWeight := by
  unfold isNaNb FloatKind.decode Ieee.Format.read at h
  simp only at h
  split at h
  · cases h
  · split at h
    · cases h
    · split at h
      · cases h
      · omega
theorem qn_nan (k : FloatKind) : isNaNb k (qn k) = true := by cases k <;> decide +kernel
theorem sw_eq (k : FloatKind) : k.format.signWeight = 2 ^ (k.format.exponentBits + k.format.fractionBits) := rfl
theorem fneg_mod (k : FloatKind) (b : Nat) : fneg k b % k.format.signWeight = b % k.format.signWeight := by
  unfold fneg Op.negFloat
  rw [sw_eq, Nat.xor_mod_two_pow, Nat.mod_self, Nat.xor_zero]
theorem fneg_nan (h : isNaNb k a = true) : isNaNb k (fneg k a) = true := isNaN_rung (by rw [fneg_mod]; exact rung_isNaN h)
theorem fneg_sim (h : simF k a a') : simF k (fneg k a) (fneg k a') := by
  rcases h with rfl | ⟨h1, h2⟩
  · exact Or.inl rfl
  · exact Or.inr ⟨fneg_nan h1, fneg_nan h2⟩
theorem cut_nan {q : Question} {k : FloatKind} (h : (∃ x y, q = .nanBits k x y) ∨ (∃ x, q = .nanConv k x) ∨ ∃ m x y, q = .nanMinMax k m x y) (t : Nat) : isNaNb k (q.cut t) = true := by
  refine isNaN_rung ?_
  have e32 : FloatKind.f32.format.signWeight = 2147483648 := by decide
  have i32 : FloatKind.f32.format.infRung = 2139095040 := by decide
  have e64 : FloatKind.f64.format.signWeight = 9223372036854775808 := by decide
  have i64 : FloatKind.f64.format.infRung = 9218868437227405312 := by decide
  have h23 : t / 2 % (2 ^ 23 - 1) < 2 ^ 23 - 1 := Nat.mod_lt _ (by decide)
  have h52 : t / 2 % (2 ^ 52 - 1) < 2 ^ 52 - 1 := Nat.mod_lt _ (by decide)
  rcases Nat.mod_two_eq_zero_or_one t with h2 | h2 <;> rcases h with ⟨x, y, rfl⟩ | ⟨x, rfl⟩ | ⟨m, x, y, rfl⟩ <;> cases k <;> simp only [Question.cut, e32, i32, e64, i64, h2] <;> generalize t / 2 % (2 ^ 23 - 1) = r at * <;> generalize t / 2 % (2 ^ 52 - 1) = q at * <;> omega
end

/-- An answer, up to NaNs. -/
def RV : Value → Value → Prop
  | .iface _ (.float k b), v' => ∃ b', v' = .float k b' ∧ simF k b b'
  | .iface _ (.complex k a b), v' => ∃ a' b', v' = .complex k a' b' ∧ simF k a a' ∧ simF k b b'
  | v, v' => v' = v
/-- A run that only draws. -/
def Draws (P : Program) (s : Sem Value) (w : World) (v : Value) : Prop := ∃ v' w', s.run P w = .ok v' w' ∧ RV v v' ∧ Below w.heap.size w w' ∧ w.drawn ≤ w'.drawn
theorem choose_run (P : Program) (q : Question) (w : World) (hq : q.forced = false) : ∃ t w', (choose q).run P w = .ok (q.cut t) w' ∧ Below w.heap.size w w' ∧ w.drawn ≤ w'.drawn :=
  ⟨w.tape w.drawn q, { w with drawn := w.drawn + 1 }, by simp [choose, Sem.run, hq], ⟨rfl, rfl, rfl, Nat.le_refl _, fun _ _ => rfl⟩, Nat.le_succ _⟩
section
variable {P : Program} {w : World} {k : FloatKind} {a b a' b' : Nat}
theorem Draws.pure {v v' : Value} (h : RV v v') : Draws P (Pure.pure v') w v := ⟨v', w, rfl, h, Below.refl _ _, Nat.le_refl _⟩
theorem Draws.nan (q : Question) (hq : q.forced = false) (h : (∃ x y, q = .nanBits k x y) ∨ (∃ x, q = .nanConv k x) ∨ ∃ m x y, q = .nanMinMax k m x y) {n : Nat} (hn : isNaNb k n = true) : Draws P (do Pure.pure (.float k (← choose q))) w (aF k n) := by
  obtain ⟨t, w', h1, h2, h3⟩ := choose_run P q w hq
  exact ⟨.float k (q.cut t), w', by rw [Sem.run_bind, h1]; rfl, ⟨_, rfl, Or.inr ⟨hn, cut_nan h t⟩⟩, h2, h3⟩
/-- A rounded answer, or a NaN drawn. -/
theorem floatArith_run {op : BinOp} {v : Value} (hop : op = .add ∨ op = .sub ∨ op = .mul ∨ op = .quo) (h : fltBinF op k a b = some v) (ha : simF k a a') (hb : simF k b b') : Draws P (Op.floatArith op k a' b') w v := by
  rcases hop with rfl | rfl | rfl | rfl <;> simp only [fltBinF, Option.some.injEq] at h <;> subst h <;> unfold Op.floatArith
  · unfold fadd
    rw [← add_sim ha hb]
    simp only [pure_bind]
    cases k.format.add a' b' with
    | some r => exact Draws.pure ⟨r, rfl, simF.refl _ _⟩
    | none => exact Draws.nan _ rfl (Or.inl ⟨_, _, rfl⟩) (qn_nan k)
  · unfold fsub
    rw [← sub_sim ha hb]
    simp only [pure_bind]
    cases k.format.sub a' b' with
    | some r => exact Draws.pure ⟨r, rfl, simF.refl _ _⟩
    | none => exact Draws.nan _ rfl (Or.inl ⟨_, _, rfl⟩) (qn_nan k)
  · unfold fmul
    rw [← mul_sim ha hb]
    simp only [pure_bind]
    cases k.format.mul a' b' with
    | some r => exact Draws.pure ⟨r, rfl, simF.refl _ _⟩
    | none => exact Draws.nan _ rfl (Or.inl ⟨_, _, rfl⟩) (qn_nan k)
  · unfold fdiv
    rw [← div_sim ha hb]
    simp only [pure_bind]
    cases k.format.div a' b' with
    | some r => exact Draws.pure ⟨r, rfl, simF.refl _ _⟩
    | none => exact Draws.nan _ rfl (Or.inl ⟨_, _, rfl⟩) (qn_nan k)
theorem floatCmp_run {op : BinOp} {q : Bool} (h : fltBinF op k a b = some (.bool q)) (ha : simF k a a') (hb : simF k b b') : Op.floatCmp op k a' b' = Pure.pure (.bool q) := by
  unfold Op.floatCmp
  rw [order_sim ha hb]
  cases op <;> simp only [fltBinF, Option.some.injEq, Value.bool.injEq, reduceCtorEq, aF] at h <;> subst h <;> rfl
theorem RV_bool {q : Bool} : RV (.bool q) (.bool q) := rfl
theorem binOpF_run {op : BinOp} {t : TypeId} {v : Value} (h : fltBinF op k a b = some v) (ha : simF k a a') (hb : simF k b b') : Draws P (binOp op t (.float k a') (.float k b')) w v := by
  have hcmp : ∀ q, v = .bool q → (Op.floatCmp op k a' b') = Pure.pure (.bool q) := fun q e => floatCmp_run (by rw [h, e]) ha hb
  cases op
  case add => exact (by simpa [binOp] using floatArith_run (Or.inl rfl) h ha hb)
  case sub => exact (by simpa [binOp] using floatArith_run (Or.inr (Or.inl rfl)) h ha hb)
  case mul => exact (by simpa [binOp] using floatArith_run (Or.inr (Or.inr (Or.inl rfl))) h ha hb)
  case quo => exact (by simpa [binOp] using floatArith_run (Or.inr (Or.inr (Or.inr rfl))) h ha hb)
  case eql => simp only [fltBinF, Option.some.injEq] at h; subst h; simp only [binOp, ne_eq, not_true, if_false]; rw [hcmp _ rfl]; exact Draws.pure RV_bool
  case neq => simp only [fltBinF, Option.some.injEq] at h; subst h; simp only [binOp, ne_eq, not_true, if_false]; rw [hcmp _ rfl]; exact Draws.pure RV_bool
  case lss => simp only [fltBinF, Option.some.injEq] at h; subst h; simp only [binOp, ne_eq, not_true, if_false]; rw [hcmp _ rfl]; exact Draws.pure RV_bool
  case leq => simp only [fltBinF, Option.some.injEq] at h; subst h; simp only [binOp, ne_eq, not_true, if_false]; rw [hcmp _ rfl]; exact Draws.pure RV_bool
  case gtr => simp only [fltBinF, Option.some.injEq] at h; subst h; simp only [binOp, ne_eq, not_true, if_false]; rw [hcmp _ rfl]; exact Draws.pure RV_bool
  case geq => simp only [fltBinF, Option.some.injEq] at h; subst h; simp only [binOp, ne_eq, not_true, if_false]; rw [hcmp _ rfl]; exact Draws.pure RV_bool
  all_goals simp [fltBinF] at h
/-- The parts of a complex number. -/
theorem arith_part {op : BinOp} {n : Nat} (hop : op = .add ∨ op = .sub ∨ op = .mul ∨ op = .quo) (h : fltBinF op k a b = some (aF k n)) (ha : simF k a a') (hb : simF k b b') : ∃ n' w', (Op.Complex.arith op k a' b').run P w = .ok n' w' ∧ simF k n n' ∧ Below w.heap.size w w' ∧ w.drawn ≤ w'.drawn := by
  obtain ⟨v', w', h1, ⟨n', rfl, h2⟩, h3, h4⟩ := floatArith_run (P := P) (w := w) hop h ha hb
  exact ⟨n', w', by unfold Op.Complex.arith; rw [Sem.run_bind, h1]; rfl, h2, h3, h4⟩
theorem cmp_part (ha : simF k a a') (hb : simF k b b') : (Op.Complex.cmp .eql k a' b').run P w = .ok (feq k a b) w := by
  unfold Op.Complex.cmp
  rw [floatCmp_run (q := feq k a b) rfl ha hb]
  rfl
theorem binOpC_run {op : BinOp} {t : TypeId} {v : Value} {c d c' d' : Nat} (h : fltBinC op k a b c d = some v) (ha : simF k a a') (hb : simF k b b') (hc : simF k c c') (hd : simF k d d') : Draws P (binOp op t (.complex k a' b') (.complex k c' d')) w v := by
  cases op
  case add =>
    simp only [fltBinC, Option.some.injEq] at h
    subst h
    simp only [binOp, ne_eq, not_true, if_false, Op.complexOp]
    obtain ⟨n1, w1, g1, g2, g3, g4⟩ := arith_part (P := P) (w := w) (Or.inl rfl) (by rfl) ha hc
    obtain ⟨n2, w2, k1, k2, k3, k4⟩ := arith_part (P := P) (w := w1) (Or.inl rfl) (by rfl) hb hd
    exact ⟨.complex k n1 n2, w2, by simp only [Sem.run_bind, g1, Result.andThen_ok, k1, Sem.run_pure], ⟨n1, n2, rfl, g2, k2⟩, g3.trans (k3.mono g3.size), Nat.le_trans g4 k4⟩
  case sub =>
    simp only [fltBinC, Option.some.injEq] at h
    subst h
    simp only [binOp, ne_eq, not_true, if_false, Op.complexOp]
    obtain ⟨n1, w1, g1, g2, g3, g4⟩ := arith_part (P := P) (w := w) (Or.inr (Or.inl rfl)) (by rfl) ha hc
    obtain ⟨n2, w2, k1, k2, k3, k4⟩ := arith_part (P := P) (w := w1) (Or.inr (Or.inl rfl)) (by rfl) hb hd
    exact ⟨.complex k n1 n2, w2, by simp only [Sem.run_bind, g1, Result.andThen_ok, k1, Sem.run_pure], ⟨n1, n2, rfl, g2, k2⟩, g3.trans (k3.mono g3.size), Nat.le_trans g4 k4⟩
  case eql =>
    simp only [fltBinC, Option.some.injEq] at h
    subst h
    refine ⟨_, w, ?_, RV_bool, Below.refl _ _, Nat.le_refl _⟩
    simp only [binOp, ne_eq, not_true, if_false, Op.complexOp, Sem.run_bind, cmp_part ha hc, Result.andThen_ok]
    cases feq k a c <;> simp [cmp_part hb hd]
  case neq =>
    simp only [fltBinC, Option.some.injEq] at h
    subst h
    refine ⟨_, w, ?_, RV_bool, Below.refl _ _, Nat.le_refl _⟩
    simp only [binOp, ne_eq, not_true, if_false, Op.complexOp, Sem.run_bind, cmp_part ha hc, Result.andThen_ok]
    cases feq k a c <;> simp [cmp_part hb hd]
  all_goals simp [fltBinC] at h
theorem max_run (ha : simF k a a') (hb : simF k b b') : Draws P (Builtin.max2 (.float k a') (.float k b')) w (aF k (fmax k a b)) := by
  unfold Builtin.max2 fmax
  have ho := order_sim ha hb
  simp only
  rw [ho]
  rcases ha with rfl | ⟨h1, h2⟩
  · rcases hb with rfl | ⟨h1, h2⟩
    · cases hq : k.format.order a' b' with
      | none => exact Draws.nan _ rfl (Or.inr (Or.inr ⟨_, _, _, rfl⟩)) (qn_nan k)
      | some o =>
        cases o with
        | lt => exact Draws.pure ⟨b', rfl, simF.refl _ _⟩
        | gt => exact Draws.pure ⟨a', rfl, simF.refl _ _⟩
        | eq =>
          simp only [fmaxO]
          cases (k.decode a').neg with
          | true => exact Draws.pure ⟨b', rfl, simF.refl _ _⟩
          | false => exact Draws.pure ⟨a', rfl, simF.refl _ _⟩
    · rw [order_nr _ _ h1]
      exact Draws.nan _ rfl (Or.inr (Or.inr ⟨_, _, _, rfl⟩)) (qn_nan k)
  · rw [order_nl _ _ h1]
    exact Draws.nan _ rfl (Or.inr (Or.inr ⟨_, _, _, rfl⟩)) (qn_nan k)
theorem min_run (ha : simF k a a') (hb : simF k b b') : Draws P (Builtin.min2 (.float k a') (.float k b')) w (aF k (fmin k a b)) := by
  unfold Builtin.min2 fmin
  have ho := order_sim ha hb
  simp only
  rw [ho]
  rcases ha with rfl | ⟨h1, h2⟩
  · rcases hb with rfl | ⟨h1, h2⟩
    · cases hq : k.format.order a' b' with
      | none => exact Draws.nan _ rfl (Or.inr (Or.inr ⟨_, _, _, rfl⟩)) (qn_nan k)
      | some o =>
        cases o with
        | lt => exact Draws.pure ⟨a', rfl, simF.refl _ _⟩
        | gt => exact Draws.pure ⟨b', rfl, simF.refl _ _⟩
        | eq =>
          simp only [fminO]
          cases (k.decode a').neg with
          | true => exact Draws.pure ⟨a', rfl, simF.refl _ _⟩
          | false => exact Draws.pure ⟨b', rfl, simF.refl _ _⟩
    · rw [order_nr _ _ h1]
      exact Draws.nan _ rfl (Or.inr (Or.inr ⟨_, _, _, rfl⟩)) (qn_nan k)
  · rw [order_nl _ _ h1]
    exact Draws.nan _ rfl (Or.inr (Or.inr ⟨_, _, _, rfl⟩)) (qn_nan k)
theorem conv_run {s d : FloatKind} (hn : ovf s d a = false) (ha : simF s a a') : Draws P (Conv.floatToFloat s a' d) w (aF d (fcv s d a)) := by
  unfold Conv.floatToFloat
  by_cases hsd : s = d
  · subst hsd
    rw [if_pos rfl]
    have hk : kEq s s = true := by cases s <;> rfl
    refine Draws.pure ⟨a', rfl, ?_⟩
    unfold fcv
    rw [hk]
    exact ha
  · rw [if_neg hsd]
    have hk : kEq s d = false := by cases hq : kEq s d with | false => rfl | true => exact absurd (kEq_eq hq) hsd
    unfold ovf at hn
    rw [hk] at hn
    simp only at hn
    unfold fcv
    rw [hk]
    simp only
    rcases ha with rfl | ⟨h1, h2⟩
    · cases hq : s.decode a' with
      | nan u t => exact Draws.nan _ rfl (Or.inr (Or.inl ⟨_, rfl⟩)) (qn_nan d)
      | infinity u => exact Draws.pure ⟨_, rfl, simF.refl _ _⟩
      | number u m e =>
        rw [hq] at hn
        simp only [ovfD] at hn
        simp only [hn]
        exact Draws.pure ⟨_, rfl, simF.refl _ _⟩
    · obtain ⟨s1, t1, e1⟩ := nan_read h1
      obtain ⟨s2, t2, e2⟩ := nan_read h2
      have e1' : s.decode a = .nan s1 t1 := e1
      have e2' : s.decode a' = .nan s2 t2 := e2
      rw [e1', e2']
      exact Draws.nan _ rfl (Or.inr (Or.inl ⟨_, rfl⟩)) (qn_nan d)
theorem sqrt_run (ha : simF .f64 a a') : Draws P (Extern.MathSqrt.sqrt #[.float .f64 a']) w (aF .f64 (fsqrt a)) := by
  have key : Extern.MathSqrt.sqrt #[.float .f64 a'] = (match FloatKind.f64.format.sqrt a' with
    | some r => (Pure.pure (.float .f64 r) : Sem Value)
    | none => do Pure.pure (.float .f64 (← choose (.nanBits .f64 a' a')))) := rfl
  rw [key]
  unfold fsqrt
  rw [← sqrt_sim ha]
  cases FloatKind.f64.format.sqrt a' with
  | some r => exact Draws.pure ⟨r, rfl, simF.refl _ _⟩
  | none => exact Draws.nan _ rfl (Or.inl ⟨_, _, rfl⟩) (qn_nan .f64)
end
end Go.Proofs.Ytjhijkdicmbbiaa.Vx


namespace Go.Proofs.Ytjhijkdicmbbiaa.Vx
open Go Go.RowKit

inductive Ans (α : Type) where
  | out (a : α)
  | br (b : Bool) (t f : Ans α)
  | fail
def Ans.bind {α β : Type} : Ans α → (α → Ans β) → Ans β
  | .out a, k => k a
  | .br b t f, k => .br b (t.bind k) (f.bind k)
  | .fail, _ => .fail
def Ans.res {α : Type} : Ans α → Option α
  | .out a => some a
  | .br b t f => match b with
    | true => t.res
    | false => f.res
  | .fail => none
/-- What a program answers that only computes and looks at the program's own text. -/
def val? {α : Type} (P : Program) : Sem α → Option α
  | .pure a => some a
  | .program k => val? P (k P)
  | _ => none

/-- A slot of which nothing is told. -/
def unk : Value := .iface 0 .nilFunc
/-- A slice without elements, somewhere. -/
def emp : Value := .iface 1 .nilFunc
/-- Values without addresses: cells, rows of cells, tuples. -/
def plain0 : Value → Bool
  | .bool _ | .int .. | .float .. | .complex .. | .string _ | .nilFunc | .nilIface => true
  | .pointer none | .map none | .chan none | .slice none _ _ => true
  | .func (.func _) f c => match f.toList, c.toList with
    | [], [] => true
    | _, _ => false
  | _ => false
/-- No address, floats up to NaNs too. -/
def nad0 : Value → Bool
  | .iface _ (.float _ _) => true
  | .iface _ (.complex _ _ _) => true
  | v => plain0 v
def allL (p : Value → Bool) : List Value → Bool
  | [] => true
  | x :: xs => match p x with
    | true => allL p xs
    | false => false
def plain1 : Value → Bool
  | .agg cs => allL plain0 cs.toList
  | v => plain0 v
def plain : Value → Bool
  | .tuple vs => allL plain1 vs.toList
  | v => plain1 v

inductive Blk where
  /-- a place kept for a block -/
  | no
  /-- a block that was given away -/
  | gone
  /-- cells; 'own': made here; 'esz': the size of an element where it is a slice's row, else 0 -/
  | cells (own : Bool) (esz : Nat) (c : List Value)
  /-- so many rows of so many cells; 'pl': no cell is an address -/
  | rows (own pl : Bool) (esz n : Nat) (row : Nat → List Value)
  /-- rows that were appended to: no element is written, more may be appended -/
  | grow (pl : Bool) (esz n : Nat) (row : Nat → List Value)
  /-- rows as they were ahead of an append: they still read so -/
  | view (pl : Bool) (esz n : Nat) (row : Nat → List Value)
  /-- a walk through a string -/
  | iter (s : ByteArray) (pos : Nat)
  /-- a map whose keys are so many integers; its values: integers, or (u) empty structs -/
  | mp (u : Bool) (n : Nat) (es : List (List Int × Int))
abbrev Mem := List Blk
structure St where
  tmps : List Value
  mem : Mem

def ev (tm : List Value) : Operand → Value
  | .tmp t => (tm[t]?).getD undef
  | .const v => match plain v with
    | true => v
    | false => unk
  | .global _ => unk
  | .func f => .func (.func f) #[] #[]
def okOpnd (tm : List Value) (x : Operand) : Bool := plain (ev tm x)
def allO (p : Operand → Bool) : List Operand → Bool
  | [] => true
  | x :: xs => match p x with
    | true => allO p xs
    | false => false

def putL (l : List Value) (dst : Option Tmp) (v : Value) : List Value :=
  match dst with
  | some d => l.set d v
  | none => l
def St.put (st : St) (dst : Option Tmp) (v : Value) : St := ⟨putL st.tmps dst v, st.mem⟩

/-- A worldless operation over operands without addresses. -/
def opVal (P : Program) (tm : List Value) (o : Oper) : Option Value :=
  match allO (okOpnd tm) o.op.operands.toList with
  | true => match val? P (execOp (ev tm) o) with
    | some (.value v) => match plain v with
      | true => some v
      | false => none
    | _ => none
  | false => none

def setMany : List Value → Nat → List Value → List Value
  | cells, _, [] => cells
  | cells, off, v :: vs => setMany (cells.set off v) (off + 1) vs

/-- May it lie in a cell? -/
def scalar : Value → Bool
  | .agg _ | .tuple _ => false
  | .iface _ .nilFunc => false
  | _ => true

def isAggT (P : Program) (t : TypeId) : Option Bool :=
  match P.underlying t with
  | some (.struct _) | some (.array _ _) => some true
  | some _ => some false
  | none => none

/-- Equality of two values cell by cell. -/
def andAll : List (Option Bool) → Option Bool
  | [] => some true
  | none :: _ => none
  | some b :: rest => match andAll rest with
    | some r => some (b && r)
    | none => none
def mkV (P : Program) (t : TypeId) (cs : List Value) : Option Value :=
  match isAggT P t, cs with
  | some true, cs => some (.agg cs.toArray)
  | some false, [v] => some v
  | _, _ => none
def eqCells (P : Program) : Nat → TypeId → List Value → List Value → Option Bool
  | 0, _, _, _ => none
  | d + 1, t, xs, ys =>
    match P.underlying t with
    | some .bool => match xs, ys with
      | [.bool a], [.bool b] => some (a == b)
      | _, _ => none
    | some (.int _) => match xs, ys with
      | [.int k a], [.int k' b] => if k = k' then some (a == b) else none
      | _, _ => none
    | some (.array n e) => match P.info? e with
      | some i => if n * i.size ≤ xs.length ∧ n * i.size ≤ ys.length then andAll ((List.range n).map fun j => eqCells P d e ((xs.drop (j * i.size)).take i.size) ((ys.drop (j * i.size)).take i.size)) else none
      | none => none
    | some (.struct fs) => if P.stoodInHeld t then none else
        andAll (fs.toList.map fun f => match P.info? f.type with
          | some i => if f.name == "_" then none else if f.offset + i.size ≤ xs.length ∧ f.offset + i.size ≤ ys.length then eqCells P d f.type ((xs.drop f.offset).take i.size) ((ys.drop f.offset).take i.size) else none
          | none => none)
    | _ => none
def eqOk (P : Program) (t : TypeId) : Bool := !P.eqGuardType P.depth t && (match isAggT P t with | some true => true | _ => false)

/-- A composite literal. -/
def fillL (size : Nat) : List Value → List (Nat × Value) → Option (List Value)
  | cells, [] => some cells
  | cells, (i, v) :: rest => if v.cells.size = size ∧ i * size + size ≤ cells.length then fillL size (setMany cells (i * size) v.cells.toList) rest else none
def fillF (P : Program) (fs : Array Field) : List Value → List (Nat × Value) → Option (List Value)
  | cells, [] => some cells
  | cells, (i, v) :: rest => match fs[i]? with
    | some f => match P.info? f.type with
      | some j => if v.cells.size = j.size ∧ f.offset + j.size ≤ cells.length then fillF P fs (setMany cells f.offset v.cells.toList) rest else none
      | none => none
    | none => none
def buildV (P : Program) (t : TypeId) (parts : List (Nat × Value)) : Option Value :=
  match P.info? t, P.underlying t with
  | some i, some (.array _ e) => match i.zero, P.info? e with
    | some z, some j => match allL plain0 z.cells.toList with
      | true => match fillL j.size z.cells.toList parts with
        | some l => some (.agg l.toArray)
        | none => none
      | false => none
    | _, _ => none
  | some i, some (.struct fs) => match i.zero with
    | some z => match allL plain0 z.cells.toList && fs.toList.all (fun f => (P.info? f.type).isSome) with
      | true => match fillF P fs z.cells.toList parts with
        | some l => some (.agg l.toArray)
        | none => none
      | false => none
    | _ => none
  | _, _ => none
def partsOk : List (Nat × Value) → Bool
  | [] => true
  | x :: xs => match allL scalar x.2.cells.toList with
    | true => partsOk xs
    | false => false
def repl (n : Nat) (z : List Value) : List Value := match n with
  | 0 => []
  | n + 1 => z ++ repl n z
def buildS (P : Program) (t : TypeId) (len : Nat) (parts : List (Nat × Value)) : Option (Nat × List Value) :=
  match P.underlying t with
  | some (.slice e) => match P.info? e with
    | some j => match j.zero with
      | some z => match allL plain0 z.cells.toList && (Nat.blt 0 j.size && (Nat.beq z.cells.size j.size && (Nat.ble 0 len && Nat.ble (len * j.size) (2 ^ 24)))) with
        | true => match fillL j.size (repl len z.cells.toList) parts with
          | some l => some (j.size, l)
          | none => none
        | false => none
      | none => none
    | none => none
  | _ => none

inductive Eff where
  | val (v : Value)
  | read (b : Nat) (g : Blk → Ans Value)
  | make (k : Blk) (v : Nat → Value)
  | upd (b : Nat) (g : Blk → Ans (Value × Blk))
  | all (g : Mem → Ans (Value × Mem))

/-- The cells of a block at an address: so many. -/
def Blk.at (k : Blk) (a : Addr) (n : Nat) : Option (List Value) :=
  match k with
  | .cells _ _ c => match a.spot with
    | none => match Nat.blt 0 n && Nat.ble (a.off + n) c.length with
      | true => some ((c.drop a.off).take n)
      | false => none
    | some _ => none
  | .rows _ _ esz _ row | .grow _ esz _ row | .view _ esz _ row => match a.spot with
    | some i => match Nat.blt 0 n && Nat.ble (a.off + n) esz with
      | true => some (((row i).drop a.off).take n)
      | false => none
    | none => none
  | _ => none
/-- The value of a type that cells are. -/
def partV (P : Program) (t : TypeId) (l : List Value) : Ans Value :=
  match isAggT P t with
  | some true => .out (.agg l.toArray)
  | some false => match l with
    | [v] => match scalar v with
      | true => .out v
      | false => .fail
    | _ => .fail
  | none => .fail
def loadB (P : Program) (t : TypeId) (a : Addr) (k : Blk) : Ans Value :=
  match P.info? t with
  | some i => match k.at a i.size with
    | some l => partV P t l
    | none => .fail
  | none => .fail
def storeB (P : Program) (t : TypeId) (a : Addr) (v : Value) (k : Blk) : Ans (Value × Blk) :=
  match P.info? t with
  | some i => match Nat.beq v.cells.size i.size && allL scalar v.cells.toList with
    | true => match Nat.beq i.size 0, k with
      | true, .cells own esz c => .out (undef, .cells own esz c)
      | false, .cells own esz c => match a.spot with
        | none => match own && (Nat.blt 0 i.size && Nat.ble (a.off + i.size) c.length) with
          | true => .out (undef, .cells own esz (setMany c a.off v.cells.toList))
          | false => .fail
        | some _ => .fail
      | false, .rows own pl esz n row => match a.spot with
        | some j => match own && (Nat.blt 0 i.size && (Nat.ble (a.off + i.size) esz && (!pl || allL nad0 v.cells.toList))) with
          | true => .out (undef, .rows own pl esz n fun q => match Nat.beq q j with
            | true => setMany (row j) a.off v.cells.toList
            | false => row q)
          | false => .fail
        | none => .fail
      | _, _ => .fail
    | false => .fail
  | none => .fail

/-- An address, so many elements on. -/
def Addr.onto (a : Addr) (size : Nat) (i : Nat) : Addr := match a.spot with
  | none => ⟨a.block, a.off + i * size, none⟩
  | some j => match j with
    | 0 => ⟨a.block, a.off, some i⟩
    | j => ⟨a.block, a.off, some (j + i)⟩

/-- Types without addresses. -/
def plainT (P : Program) : Nat → TypeId → Bool
  | 0, _ => false
  | d + 1, t => match P.underlying t with
    | some .bool | some (.int _) | some .string => true
    | some (.array _ e) => plainT P d e
    | some (.struct fs) => fs.toList.all fun f => plainT P d f.type
    | some (.tuple ts) => ts.toList.all fun t => plainT P d t
    | _ => false
def plainF (P : Program) : Nat → TypeId → Bool
  | 0, _ => false
  | d + 1, t => match P.underlying t with
    | some .bool | some (.int _) | some (.float _) | some (.complex _) | some .string => true
    | some (.array _ e) => plainF P d e
    | some (.struct fs) => fs.toList.all fun f => plainF P d f.type
    | some (.tuple ts) => ts.toList.all fun t => plainF P d t
    | _ => false
/-- A call of a function without a body. -/
def isExt (P : Program) (x : Operand) : Bool := match x with
  | .func f => match P.funcs[f]? with
    | some fn => match fn.body with
      | none => true
      | some _ => false
    | none => false
  | _ => false
/-- Is this a call that memory has no part in? -/
def plainCall (P : Program) (o : Oper) (c : Call) : Bool := c.argTypes.toList.all (plainT P 8) && plainT P 8 o.type

/-- 0: touches no memory · 1: reads a block · 2: makes one · 3: turns one · 4: anything. -/
def memClass (P : Program) (o : Oper) : Nat :=
  match o.op with
  | .load .. | .lookup .. => 1
  | .box .. | .alloc _ | .buildSlice .. | .makeSlice .. | .makeMap .. => 2
  | .range _ _ => 2
  | .store .. | .next .. | .mapUpdate .. => 3
  | .call c => match c.callee with
    | .value x => match isExt P x with
      | true => 0
      | false => match plainCall P o c with
        | true => 0
        | false => 4
    | .builtin b => match b with
      | .append | .copy => 4
      | .clear => 3
      | _ => 0
    | _ => 4
  | .move _ | .assign _ | .pick .. | .indexAddr .. | .fieldAddr .. | .build .. | .binOp .. | .unOp .. | .field .. | .index .. | .extract .. | .nilCheck _ => 0
  | .convert t .. => match P.underlying t with
    | some (.slice _) => 1
    | _ => 0
  | .slice t .. => match P.underlying t with
    | some (.array _ _) => 1
    | _ => 0
  | _ => 4

structure CallsX where
  pl : FuncId → List Value → Ans Value
  mm : FuncId → List Value → Mem → Ans (Value × Mem)
  keys : TypeId → Option Nat := fun _ => none
  rd : FuncId → Nat := fun _ => 0
  ext : FuncId → Nat := fun _ => 0

/-- What functions without a body answer: 1 Float64bits, 2 Float64frombits, 3 Float32bits, 4 Float32frombits, 5 sqrt, 6 Add64, 7 Sub64. -/
def extA (e : Nat) (args : List Value) : Ans Value := match e with
  | 1 => match args with
    | [.float .f64 b] => .out (.int .u64 b)
    | [.iface _ (.float .f64 b)] => .br (isNaNb .f64 b) .fail (.out (.int .u64 b))
    | _ => .fail
  | 2 => match args with
    | [.int .u64 n] => .out (.float .f64 n.toNat)
    | _ => .fail
  | 3 => match args with
    | [.float .f32 b] => .out (.int .u32 b)
    | [.iface _ (.float .f32 b)] => .br (isNaNb .f32 b) .fail (.out (.int .u32 b))
    | _ => .fail
  | 4 => match args with
    | [.int .u32 n] => .out (.float .f32 n.toNat)
    | _ => .fail
  | 5 => match args with
    | [x] => match fl? x with
      | some (.f64, a) => .out (aF .f64 (fsqrt a))
      | _ => .fail
    | _ => .fail
  | 6 => match args with
    | [.int .u64 x, .int .u64 y, .int .u64 c] => .br (decide (c.toNat ≤ 1)) (.out (.tuple #[.int .u64 (Int.ofNat ((x.toNat + y.toNat + c.toNat) % 2 ^ 64)), .int .u64 (Int.ofNat ((x.toNat + y.toNat + c.toNat) / 2 ^ 64))])) .fail
    | _ => .fail
  | 7 => match args with
    | [.int .u64 x, .int .u64 y, .int .u64 c] => .br (decide (c.toNat ≤ 1)) (.out (.tuple #[.int .u64 (Int.ofNat ((x.toNat + 2 ^ 64 - y.toNat - c.toNat) % 2 ^ 64)), .int .u64 (Int.ofNat (if x.toNat < y.toNat + c.toNat then 1 else 0))])) .fail
    | _ => .fail
  | _ => .fail

def boundsI (i : Int) (n : Nat) : Bool := decide (0 ≤ i) && decide (i < (n : Int))
def leI (i : Int) (n : Nat) : Bool := decide (0 ≤ i) && decide (i ≤ (n : Int))

def sliceHi (tm : List Value) (hi : Option Operand) (n : Nat) : Ans Nat :=
  match hi with
  | none => .out n
  | some x => match ev tm x with
    | .int _ i => .br (leI i n) (.out i.toNat) .fail
    | _ => .fail

/-- Rows behind rows. -/
def catR (n : Nat) (f g : Nat → List Value) : Nat → List Value := fun i => match Nat.blt i n with
  | true => f i
  | false => g (i - n)
/-- The rows that cells are. -/
def chop (e off : Nat) (c : List Value) : Nat → List Value := fun i => (c.drop (off + i * e)).take e
/-- The rows that are appended: so many elements of e cells from an address on; is none an address? -/
def srcRows (m : Mem) (e k : Nat) (a : Addr) : Option (Bool × (Nat → List Value)) := match m[a.block]? with
  | some (.cells _ _ c) => match a.spot with
    | none => match Nat.ble (a.off + k * e) c.length && allL scalar c with
      | true => some (allL nad0 c, chop e a.off c)
      | false => none
    | some _ => none
  | some (.rows _ true e' _ row) | some (.grow true e' _ row) | some (.view true e' _ row) => match a.spot with
    | some j => match Nat.beq a.off 0 && Nat.beq e' e with
      | true => some (true, match j with
        | 0 => row
        | j => fun i => row (j + i))
      | false => none
    | none => none
  | _ => none
/-- The rows of a slice that is appended to, if it is the whole of a block of its own (the first answer). -/
def oldRows (m : Mem) (e n : Nat) (a : Addr) : Option (Bool × Bool × (Nat → List Value)) := match Nat.beq a.off 0, m[a.block]? with
  | true, some (.cells true e' c) => match a.spot with
    | none => match Nat.beq e' e with
      | true => some (Nat.beq (n * e) c.length, allL nad0 c, chop e 0 c)
      | false => none
    | some _ => none
  | true, some (.rows true pl e' n' row) | true, some (.grow pl e' n' row) => match a.spot with
    | some 0 => match Nat.beq e' e with
      | true => some (Nat.beq n n', pl, row)
      | false => none
    | _ => none
  | _, _ => none
/-- What becomes of the block that was appended to. -/
def passed : Option Blk → Blk
  | some (.rows _ pl e n row) | some (.grow pl e n row) => .view pl e n row
  | _ => .gone
/-- What is appended: how many, is none an address, the rows. -/
def newRows (P : Program) (u : TypeId) (m : Mem) (e : Nat) : Value → Option (Nat × Bool × (Nat → List Value))
  | .slice none 0 0 => match P.underlying u with
    | some (.slice _) => some (0, true, fun _ => [])
    | _ => none
  | .iface 1 .nilFunc => match P.underlying u with
    | some (.slice _) => some (0, true, fun _ => [])
    | _ => none
  | .slice (some a) k _ => match P.underlying u with
    | some (.slice _) => match srcRows m e k a with
      | some (pl, g) => some (k, pl, g)
      | none => none
    | _ => none
  | .string s => match P.underlying u, Nat.beq e 1 with
    | some .string, true => some (s.size, true, fun i => [.int .u8 ((s.data.toList[i]?).getD 0).toNat])
    | _, _ => none
  | _ => none
/-- The function that is called: it bears nothing. -/
def calleeFn (tm : List Value) (x : Operand) : Option FuncId := match ev tm x with
  | .func (.func f) fr cp => match fr.toList, cp.toList with
    | [], [] => some f
    | _, _ => none
  | _ => none
/-- clear: so many rows from one on. -/
def clearB (e : Nat) (z : List Value) (j n : Nat) : Blk → Ans (Value × Blk)
  | .rows true pl e2 n2 row => match Nat.beq e2 e && (Nat.beq z.length e && (Nat.blt 0 e && allL plain0 z)) with
    | true => .br (Nat.blt 0 n && Nat.ble (j + n) n2) (.out (undef, .rows true pl e2 n2 fun q => match Nat.ble j q && Nat.blt q (j + n) with
      | true => z
      | false => row q)) .fail
    | false => .fail
  | _ => .fail
/-- append. -/
def appendA (P : Program) (t u : TypeId) (s x : Value) (m : Mem) : Ans (Value × Mem) :=
  match P.underlying t with
  | some (.slice el) => match P.info? el with
    | some j => match j.zero with
      | some z => match Nat.blt 0 j.size && (Nat.beq z.cells.size j.size && Nat.ble j.bytes (2 ^ 20)) with
        | true => match newRows P u m j.size x with
          | some (k, pl, g) => .br (Nat.beq k 0) (match s with
              | .slice none 0 0 => .out (.slice none 0 0, m)
              | .slice (some a) n e => .out (.slice (some a) n e, m)
              | _ => .fail) (match s with
            | .slice none 0 0 => .br (decide (k * j.bytes ≤ 2 ^ 47) && decide (k ≤ 2 ^ 62)) (.out (.slice (some ⟨m.length, 0, some 0⟩) k j.size, m ++ [.rows true pl j.size k g])) .fail
            | .slice (some a) n _ => match oldRows m j.size n a with
              | some (t, pl', f) => .br (t && (decide ((n + k) * j.bytes ≤ 2 ^ 47) && decide (n + k ≤ 2 ^ 62))) (.out (.slice (some ⟨m.length, 0, some 0⟩) (n + k) j.size, m.set a.block (passed m[a.block]?) ++ [.grow (pl' && pl) j.size (n + k) (catR n f g)])) .fail
              | none => .fail
            | _ => .fail)
          | none => .fail
        | false => .fail
      | none => .fail
    | none => .fail
  | _ => .fail
/-- Bytes as a string. -/
def u8At : List Value → Option UInt8
  | [.int .u8 x] => some (UInt8.ofNat x.toNat)
  | _ => none
def u8Is (l : List Value) : Bool := match u8At l with
  | some _ => true
  | none => false
def bytesR (n : Nat) (row : Nat → List Value) : List UInt8 := (List.range n).map fun i => (u8At (row i)).getD 0
def allU8 (n : Nat) (row : Nat → List Value) : Bool := (List.range n).all fun i => u8Is (row i)
def bytesL : List Value → Option (List UInt8)
  | [] => some []
  | v :: l => match u8At [v], bytesL l with
    | some b, some r => some (b :: r)
    | _, _ => none
def bytesB (n : Nat) (a : Addr) (k : Blk) : Ans Value := match k with
  | .cells _ _ c => match a.spot with
    | none => match Nat.ble (a.off + n) c.length, bytesL ((c.drop a.off).take n) with
      | true, some l => .out (.string ⟨l.toArray⟩)
      | _, _ => .fail
    | some _ => .fail
  | .rows _ _ e _ row | .grow _ e _ row | .view _ e _ row => match a.spot with
    | some j => match Nat.beq a.off 0 && Nat.beq e 1 with
      | true => .br (allU8 n fun i => row (j + i)) (.out (.string ⟨(bytesR n fun i => row (j + i)).toArray⟩)) .fail
      | false => .fail
    | none => .fail
  | _ => .fail

def ints64 : Nat → List Value → Option (List Int)
  | 0, [] => some []
  | n + 1, .int .i64 x :: vs => match ints64 n vs with
    | some l => some (x :: l)
    | none => none
  | _, _ => none
/-- Are a map's values empty structs, or integers? -/
def elemU (P : Program) (et : TypeId) : Option Bool := match P.info? et with
  | some i => match i.zero with
    | some (.agg c) => match c.toList with
      | [] => some true
      | _ => none
    | some (.int .i64 x) => match x with
      | .ofNat 0 => some false
      | _ => none
    | _ => none
  | none => none
def valU (u : Bool) (x : Int) : Value := match u with
  | true => .agg #[]
  | false => .int .i64 x
def ofU (u : Bool) (v : Value) : Option Int := match u, v with
  | true, .agg c => match c.toList with
    | [] => some 0
    | _ => none
  | false, .int .i64 x => some x
  | _, _ => none
def mHas (k : List Int) : List (List Int × Int) → Bool
  | [] => false
  | e :: l => match decide (e.1 = k) with
    | true => true
    | false => mHas k l
def mGet (k : List Int) : List (List Int × Int) → Int
  | [] => 0
  | e :: l => match decide (e.1 = k) with
    | true => e.2
    | false => mGet k l
def mPut (k : List Int) (v : Int) : List (List Int × Int) → List (List Int × Int)
  | [] => [(k, v)]
  | e :: l => match decide (e.1 = k) with
    | true => (k, v) :: l
    | false => e :: mPut k v l
def lookB (u : Bool) (n : Nat) (key : List Int) (ok : Bool) (k : Blk) : Ans Value := match k with
  | .mp u' n' es => match decide (u' = u) && Nat.beq n' n with
    | true => match ok with
      | true => .out (.tuple #[valU u (mGet key es), .bool (mHas key es)])
      | false => .out (valU u (mGet key es))
    | false => .fail
  | _ => .fail
def updB (u : Bool) (n : Nat) (key : List Int) (v : Int) (k : Blk) : Ans (Value × Blk) := match k with
  | .mp u' n' es => match decide (u' = u) && Nat.beq n' n with
    | true => .out (undef, .mp u n (mPut key v es))
    | false => .fail
  | _ => .fail
def resvOk (tm : List Value) : Option Operand → Bool
  | none => true
  | some x => match ev tm x with
    | .int _ _ => true
    | _ => false

/-- Floats and functions without a body: an answer without memory. -/
def fltOf (P : Program) (cs : CallsX) (tm : List Value) (o : Oper) : Option (Ans Value) := match o.op with
  | .binOp op _ x y _ => match fltBin op (ev tm x) (ev tm y) with
    | some v => some (.out v)
    | none => none
  | .unOp .neg _ x => match fltNeg (ev tm x) with
    | some v => some (.out v)
    | none => none
  | .convert s d x => match fl? (ev tm x) with
    | some (k, b) => match P.underlying s, P.underlying d with
      | some _, some (.float k') => some (.br (ovf k k' b) .fail (.out (aF k' (fcv k k' b))))
      | _, _ => none
    | none => none
  | .call c => match c.callee with
    | .builtin b => match fltB b (c.args.toList.map (ev tm)) with
      | some v => some (.out v)
      | none => none
    | .value (.func f) => match isExt P (.func f) with
      | true => some (extA (cs.ext f) (c.args.toList.map (ev tm)))
      | false => none
    | _ => none
  | _ => none

/-- What an operation does, floats aside. -/
def effOf0 (P : Program) (cs : CallsX) (tm : List Value) (o : Oper) : Ans Eff :=
  match o.op with
  | .move x | .assign x => .out (.val (ev tm x))
  | .nilCheck x => match ev tm x with
    | .pointer (some a) => .out (.val (.pointer (some a)))
    | _ => .fail
  | .pick c a b => match ev tm c with
    | .bool q => .br q (.out (.val (ev tm a))) (.out (.val (ev tm b)))
    | _ => .fail
  | .box _ x => match ev tm x with
    | .tuple _ => .fail
    | v => match allL scalar v.cells.toList with
      | true => .out (.make (.cells true 0 v.cells.toList) fun p => .pointer (some ⟨p, 0, none⟩))
      | false => .fail
  | .alloc t => match P.info? t with
    | some i => match i.zero with
      | some z => match allL plain0 z.cells.toList with
        | true => .out (.make (.cells true 0 z.cells.toList) fun p => .pointer (some ⟨p, 0, none⟩))
        | false => .fail
      | none => .fail
    | none => .fail
  | .buildSlice t len parts => match partsOk (parts.toList.map fun p => (p.1, ev tm p.2)) with
    | true => match buildS P t len (parts.toList.map fun p => (p.1, ev tm p.2)) with
      | some (sz, l) => match Nat.blt 1 sz with
        | true => .out (.make (.rows true (allL nad0 l) sz len (chop sz 0 l)) fun p => .slice (some ⟨p, 0, some 0⟩) len sz)
        | false => .out (.make (.cells true sz l) fun p => .slice (some ⟨p, 0, none⟩) len sz)
      | none => .fail
    | false => .fail
  | .load t x => match ev tm x with
    | .pointer (some a) => .out (.read a.block (loadB P t a))
    | _ => .fail
  | .store t x y => match ev tm x with
    | .pointer (some a) => .out (.upd a.block (storeB P t a (ev tm y)))
    | _ => .fail
  | .indexAddr t x ix => match ev tm x, ev tm ix, P.underlying t with
    | .pointer (some a), .int _ i, some (.array len e) => match P.info? e with
      | some j => match a.spot with
        | none => .br (boundsI i len) (.out (.val (.pointer (some ⟨a.block, a.off + i.toNat * j.size, none⟩)))) .fail
        | some q => .br (boundsI i len) (.out (.val (.pointer (some ⟨a.block, a.off + i.toNat * j.size, some q⟩)))) .fail
      | none => .fail
    | .slice (some a) len c, .int _ i, some (.slice e) => match P.info? e with
      | some j => match Nat.beq j.size c with
        | true => .br (boundsI i len) (.out (.val (.pointer (some (Addr.onto a j.size i.toNat))))) .fail
        | false => .fail
      | none => .fail
    | _, _, _ => .fail
  | .fieldAddr t x n => match ev tm x, P.underlying t with
    | .pointer (some a), some (.struct fs) => match fs[n]? with
      | some f => match P.info? f.type with
        | some j => match Nat.beq j.size 0 with
          | true => .fail
          | false => .out (.val (.pointer (some ⟨a.block, a.off + f.offset, a.spot⟩)))
        | none => .fail
      | none => .fail
    | _, _ => .fail
  | .slice t x lo hi none => match ev tm x, P.underlying t with
    | .pointer (some a), some (.array n e) => match lo, hi, P.info? e with
      | none, none, some j => .out (.read a.block fun k => match k with
        | .cells _ esz _ => match Nat.beq esz 0 && (Nat.blt 0 n && (match a.spot with | none => true | some _ => false)) with
          | true => .out (.slice (some a) n j.size)
          | false => .fail
        | _ => .fail)
      | _, _, _ => .fail
    | .slice (some a) len c, some (.slice e) => match P.info? e with
      | some j => match Nat.beq j.size c with
        | true => (sliceHi tm hi len).bind fun h => match lo with
          | none => .out (.val (.slice (some a) h c))
          | some x => match ev tm x with
            | .int _ i => .br (leI i h) (.br (decide (i < (len : Int))) (.out (.val (.slice (some (Addr.onto a j.size i.toNat)) (h - i.toNat) c))) (.out (.val emp))) .fail
            | _ => .fail
        | false => .fail
      | none => .fail
    | .slice none 0 0, some (.slice e) => match P.info? e with
      | some _ => (sliceHi tm hi 0).bind fun h => match lo with
        | none => .out (.val (.slice none 0 0))
        | some x => match ev tm x with
          | .int _ i => .br (leI i h) (.out (.val (.slice none 0 0))) .fail
          | _ => .fail
      | none => .fail
    | .string s, some .string => (sliceHi tm hi s.size).bind fun h => match lo with
      | none => .out (.val (.string (s.extract 0 h)))
      | some x => match ev tm x with
        | .int _ i => .br (leI i h) (.out (.val (.string (s.extract i.toNat h)))) .fail
        | _ => .fail
    | _, _ => .fail
  | .build t parts => match partsOk (parts.toList.map fun p => (p.1, ev tm p.2)) with
    | true => match buildV P t (parts.toList.map fun p => (p.1, ev tm p.2)) with
      | some v => .out (.val v)
      | none => .fail
    | false => .fail
  | .field t x n => match ev tm x, P.underlying t with
    | .agg cs, some (.struct fs) => match fs[n]? with
      | some f => match P.info? f.type with
        | some j => (partV P f.type ((cs.toList.drop f.offset).take j.size)).bind fun v => .out (.val v)
        | none => .fail
      | none => .fail
    | _, _ => .fail
  | .index t x ix => match ev tm x, ev tm ix, P.underlying t with
    | .string s, .int _ i, some .string => .br (boundsI i s.size) (.out (.val (.int .u8 ((s.data.toList[i.toNat]?).getD 0).toNat))) .fail
    | .agg cs, .int _ i, some (.array len e) => match P.info? e with
      | some j => .br (boundsI i len) ((partV P e ((cs.toList.drop (i.toNat * j.size)).take j.size)).bind fun v => .out (.val v)) .fail
      | none => .fail
    | _, _, _ => .fail
  | .extract x n => match ev tm x with
    | .tuple vs => match vs.toList[n]? with
      | some (.tuple _) => .fail
      | some v => .out (.val v)
      | none => .fail
    | _ => .fail
  | .binOp op t x y yt => match op, ev tm x, ev tm y with
    | .eql, .agg xs, .agg ys => match okOpnd tm x && (okOpnd tm y && eqOk P t) with
      | true => match eqCells P 9 t xs.toList ys.toList with
        | some b => .out (.val (.bool b))
        | none => .fail
      | false => .fail
    | .neq, .agg xs, .agg ys => match okOpnd tm x && (okOpnd tm y && eqOk P t) with
      | true => match eqCells P 9 t xs.toList ys.toList with
        | some b => .out (.val (.bool !b))
        | none => .fail
      | false => .fail
    | .eql, .slice (some _) _ _, .slice none _ _ => match P.underlying t with
      | some (.slice _) => .out (.val (.bool false))
      | _ => .fail
    | .quo, .int k a, .int k' b => match decide (k = k') with
      | true => .br (b == 0) .fail (.out (.val (.int k (k.wrap (a.tdiv b)))))
      | false => .fail
    | .rem, .int k a, .int k' b => match decide (k = k') with
      | true => .br (b == 0) .fail (.out (.val (.int k (a.tmod b))))
      | false => .fail
    | .add, .string a, .string b => match P.underlying t with
      | some .string => .br (decide (((a.size + b.size : Nat) : Int) ≤ IntKind.i64.max)) (.out (.val (.string (a ++ b)))) .fail
      | _ => .fail
    | _, _, _ => match opVal P tm { o with op := .binOp op t x y yt } with
      | some v => .out (.val v)
      | none => .fail
  | .range t x => match ev tm x, P.underlying t with
    | .string s, some .string => .out (.make (.iter s 0) fun p => .pointer (some ⟨p, 0, none⟩))
    | _, _ => .fail
  | .next it str => match ev tm it, str with
    | .pointer (some ⟨b, 0, none⟩), true => .out (.upd b fun k => match k with
      | .iter s pos => .br (decide (pos < s.size)) (.out (.tuple #[.bool true, .int .i64 pos, .int .i32 (Utf8.decode s pos).1], .iter s (pos + (Utf8.decode s pos).2))) (.out (.tuple #[.bool false], .iter s pos))
      | _ => .fail)
    | _, _ => .fail
  | .call c => match c.callee with
    | .value x => match calleeFn tm x with
      | some f => match plainCall P o c with
        | true => match allO (okOpnd tm) c.args.toList with
          | true => (cs.pl f (c.args.toList.map (ev tm))).bind fun v => match plain v with
            | true => .out (.val v)
            | false => .fail
          | false => .fail
        | false => .out (.all (cs.mm f (c.args.toList.map (ev tm))))
      | none => .fail
    | .builtin .len => match c.args.toList.map (ev tm), c.argTypes.toList with
      | [.slice (some _) n _], [t] => match P.underlying t with
        | some (.slice _) => .out (.val (.int .i64 n))
        | _ => .fail
      | [.iface 1 .nilFunc], [t] => match P.underlying t with
        | some (.slice _) => .out (.val (.int .i64 0))
        | _ => .fail
      | _, _ => match opVal P tm o with
        | some v => .out (.val v)
        | none => .fail
    | .builtin .append => match c.args.toList.map (ev tm), c.argTypes.toList with
      | [s, x], [t, u] => .out (.all (appendA P t u s x))
      | _, _ => .fail
    | .builtin .copy => .fail
    | .builtin .clear => match c.args.toList.map (ev tm), c.argTypes.toList with
      | [.slice (some a) n _], [t] => match P.underlying t, a.off, a.spot with
        | some (.slice el), 0, some j => match P.info? el with
          | some i => match i.zero with
            | some z => .out (.upd a.block (clearB i.size z.cells.toList j n))
            | none => .fail
          | none => .fail
        | _, _, _ => .fail
      | _, _ => .fail
    | .builtin _ => match opVal P tm o with
      | some v => .out (.val v)
      | none => .fail
    | _ => .fail
  | .convert t d x => match ev tm x with
    | .slice (some a) n _ => match P.underlying t, P.underlying d with
      | some (.slice el), some .string => match P.underlying el with
        | some (.int .u8) => .out (.read a.block (bytesB n a))
        | _ => .fail
      | _, _ => .fail
    | _ => match opVal P tm o with
      | some v => .out (.val v)
      | none => .fail
  | .makeSlice t len cap => match P.underlying t, ev tm len, ev tm cap with
    | some (.slice el), .int .i64 l, .int .i64 c => match P.info? el with
      | some j => match j.zero with
        | some z => match Nat.blt 0 j.size && (Nat.beq z.cells.size j.size && allL plain0 z.cells.toList) with
          | true => .br (decide (0 ≤ l) && (decide (l ≤ c) && (decide (c * (j.bytes : Int) ≤ 2 ^ 47) && decide (c ≤ 2 ^ 62)))) (.out (.make (.rows true (plainF P 8 el) j.size l.toNat fun _ => z.cells.toList) fun p => .slice (some ⟨p, 0, some 0⟩) l.toNat j.size)) .fail
          | false => .fail
        | none => .fail
      | none => .fail
    | _, _, _ => .fail
  | .makeMap t res => match P.underlying t with
    | some (.map kt et) => match cs.keys kt, elemU P et, resvOk tm res with
      | some n, some u, true => .out (.make (.mp u n []) fun p => .map (some p))
      | _, _, _ => .fail
    | _ => .fail
  | .lookup t x ix ok => match P.underlying t, ev tm x, ev tm ix with
    | some (.map kt et), .map (some b), .agg c => match cs.keys kt, elemU P et with
      | some n, some u => match ints64 n c.toList with
        | some key => .out (.read b (lookB u n key ok))
        | none => .fail
      | _, _ => .fail
    | _, _, _ => .fail
  | .mapUpdate t x ix y => match P.underlying t, ev tm x, ev tm ix with
    | some (.map kt et), .map (some b), .agg c => match cs.keys kt, elemU P et with
      | some n, some u => match ints64 n c.toList, ofU u (ev tm y) with
        | some key, some v => .out (.upd b (updB u n key v))
        | _, _ => .fail
      | _, _ => .fail
    | _, _, _ => .fail
  | .unOp .. => match opVal P tm o with
    | some v => .out (.val v)
    | none => .fail
  | _ => .fail

/-- What an operation does. -/
def effOf (P : Program) (cs : CallsX) (tm : List Value) (o : Oper) : Ans Eff := match fltOf P cs tm o with
  | some a => a.bind fun v => .out (.val v)
  | none => effOf0 P cs tm o

/-- Where an operation may touch memory: anywhere · at a block that was foreseen · among the first so many. -/
inductive Pos where
  | any
  | at (p : Nat)
  | low (n : Nat)
/-- There are at least so many blocks. -/
def lenOk : Pos → Mem → Bool
  | .low n, m => Nat.ble n m.length
  | _, _ => true
/-- Is this a block that was foreseen? -/
def okPos (pos : Pos) (b : Nat) : Bool :=
  match pos with
  | .at p => Nat.beq p b
  | .low n => Nat.blt b n
  | .any => true

/-- An operation of a class, at a block that was foreseen (or at any). -/
def runE (cls : Nat) (pos : Pos) (m : Mem) : Eff → Ans (Value × Mem)
  | .val v => .out (v, m)
  | .read b g => match Nat.beq cls 1 && okPos pos b with
    | true => match m[b]? with
      | some k => (g k).bind fun v => .out (v, m)
      | none => .fail
    | false => .fail
  | .make k v => match Nat.beq cls 2, pos with
    | true, .at p => match m[p]? with
      | some .no => .out (v p, m.set p k)
      | _ => .fail
    | _, _ => .fail
  | .upd b g => match Nat.beq cls 3 && okPos pos b with
    | true => match m[b]? with
      | some k => (g k).bind fun vk => .out (vk.1, m.set b vk.2)
      | none => .fail
    | false => .fail
  | .all g => match Nat.beq cls 4 && lenOk pos m with
    | true => g m
    | false => .fail

def act (P : Program) (cs : CallsX) (pos : Pos) (tm : List Value) (m : Mem) (o : Oper) : Ans (Value × Mem) := (effOf P cs tm o).bind (runE (memClass P o) pos m)

/-- The block to which a slot leads, as far as it can be foreseen. -/
def adrOf : Value → Option Nat
  | .pointer (some a) => some a.block
  | .slice (some a) _ _ => some a.block
  | .map (some b) => some b
  | _ => none
def blkOf (tmps : List Value) : List (Nat × Option Nat) → Nat → Option Nat
  | [], t => match tmps[t]? with
    | some v => adrOf v
    | none => none
  | (d, b) :: env, t => match Nat.beq d t with
    | true => b
    | false => blkOf tmps env t
/-- What an operation puts into its slot, and the block that it touches, foreseen. -/
def seeOp (tmps : List Value) (env : List (Nat × Option Nat)) (o : Oper) : Option Nat × Option Nat :=
  match o.op with
  | .indexAddr _ (.tmp x) _ => (blkOf tmps env x, none)
  | .fieldAddr _ (.tmp x) _ => (blkOf tmps env x, none)
  | .slice _ (.tmp x) _ _ _ => (blkOf tmps env x, blkOf tmps env x)
  | .move (.tmp x) => (blkOf tmps env x, none)
  | .assign (.tmp x) => (blkOf tmps env x, none)
  | .nilCheck (.tmp x) => (blkOf tmps env x, none)
  | .load _ (.tmp x) => (none, blkOf tmps env x)
  | .store _ (.tmp x) _ => (none, blkOf tmps env x)
  | .next (.tmp x) _ => (none, blkOf tmps env x)
  | .lookup _ (.tmp x) _ _ => (none, blkOf tmps env x)
  | .mapUpdate _ (.tmp x) _ _ => (none, blkOf tmps env x)
  | _ => (none, none)
def makes (P : Program) (o : Oper) : Bool := Nat.beq (memClass P o) 2
def made (P : Program) : List Oper → Nat
  | [] => 0
  | o :: rest => match makes P o with
    | true => made P rest + 1
    | false => made P rest
/-- Each operation with the place that is kept for what it makes, or the block that it will touch. -/
def posOf (n0 : Nat) : Option Nat → Pos
  | some b => .at b
  | none => .low n0
def places (P : Program) (draw : Bool) (tmps : List Value) (n0 : Nat) : List (Nat × Option Nat) → Nat → List Oper → List (Oper × Pos)
  | _, _, [] => []
  | env, n, o :: rest => match makes P o with
    | true => (o, .at n) :: places P draw tmps n0 (match o.dst with | some d => (d, some n) :: env | none => env) (n + 1) rest
    | false => match draw with
      | false => (o, .any) :: places P draw tmps n0 env n rest
      | true => (o, match Nat.beq (memClass P o) 4 with | true => .low (n + made P rest) | false => posOf n0 (seeOp tmps env o).2) :: places P draw tmps n0 (match o.dst with | some d => (d, (seeOp tmps env o).1) :: env | none => env) n rest
def room (P : Program) (m : Mem) (l : List Oper) : Mem := m ++ List.replicate (made P l) .no

def apartPos : Pos → Pos → Bool
  | .at a, .at b => !Nat.beq a b
  | .at a, .low n => Nat.ble n a
  | .low n, .at a => Nat.ble n a
  | _, _ => false
/-- The function that is called. -/
def callFn (o : Oper) : Option FuncId := match o.op with
  | .call c => match c.callee with
    | .value (.func f) => some f
    | _ => none
  | _ => none
/-- A call that only looks (1), or that makes something beside what is there (2). -/
def isRd (P : Program) (rd : FuncId → Nat) (z : Nat) (o : Oper) : Bool := match callFn o with
  | some f => Nat.beq (rd f) z && Nat.beq (memClass P o) 4
  | none => false
def lowPos : Pos → Pos → Bool
  | .low a, .low b => Nat.ble b a
  | .low a, .at b => Nat.blt b a
  | _, _ => false
def isAlloc (o : Oper) : Bool := match o.op with
  | .alloc _ => true
  | _ => false
def swapOk (P : Program) (rd : FuncId → Nat) (ops : Array Oper) (x y : Oper × Pos) : Bool :=
  x.1.apart ops y.1 && (Nat.beq (memClass P x.1) 0 || Nat.beq (memClass P y.1) 0 || (Nat.beq (memClass P x.1) 1 && Nat.beq (memClass P y.1) 1) || (Nat.ble (memClass P x.1) 3 && Nat.ble (memClass P y.1) 3 && apartPos x.2 y.2) || (isRd P rd 1 x.1 && Nat.ble (memClass P y.1) 2) || (isRd P rd 1 y.1 && Nat.ble (memClass P x.1) 1) || (isRd P rd 2 x.1 && (Nat.beq (memClass P y.1) 1 && lowPos x.2 y.2)) || (isRd P rd 2 y.1 && Nat.beq (memClass P x.1) 1) || (isRd P rd 2 x.1 && (isAlloc y.1 && lowPos x.2 y.2)))

/-- The operations that must be ahead of one, as the bits of a number. -/
def maskOf (acc : List Nat) (y : Oper) : Nat := y.after.toList.foldl (fun s e => match Region.binds .any e with
  | true => s ||| 2 ^ e.on ||| acc.getD e.on 0
  | false => s) 0
def masks : List Nat → List Oper → List Nat
  | acc, [] => acc
  | acc, y :: rest => masks (acc ++ [maskOf acc y]) rest
def okFrom (P : Program) (rd : FuncId → Nat) (ops : Array Oper) (i : Nat) (x : Oper × Pos) : List ((Oper × Pos) × Nat) → Bool
  | [] => true
  | (y, m) :: rest => (m.testBit i || swapOk P rd ops x y) && okFrom P rd ops i x rest
def okAll (P : Program) (rd : FuncId → Nat) (ops : Array Oper) : Nat → List ((Oper × Pos) × Nat) → Bool
  | _, [] => true
  | i, (x, _) :: rest => okFrom P rd ops i x rest && okAll P rd ops (i + 1) rest
def okEdges : Nat → List Oper → Bool
  | _, [] => true
  | i, y :: rest => (y.after.toList.all fun e => !Region.binds .any e || decide (e.on < i)) && okEdges (i + 1) rest
def okDraw (P : Program) (rd : FuncId → Nat) (ops : Array Oper) (l : List (Oper × Pos)) : Bool := okAll P rd ops 0 (l.zip (masks [] ops.toList)) && okEdges 0 ops.toList

def lit (tm : List Value) (d : Nat) (b : Bool) : List Value := tm.set d (.bool b)
def gTmp (ops : Array Oper) (j : Nat) : Option Tmp :=
  match ops[j]? with
  | some o => o.dst
  | none => none
/-- Is the operation wanted? With the slots as that tells them. -/
def guardA (ops : Array Oper) (o : Oper) (tm : List Value) : Ans (Bool × List Value) :=
  match o.guard with
  | none => .out (true, tm)
  | some (j, want) => match gTmp ops j with
    | none => .out (false, tm)
    | some d => match tm[d]? with
      | some (.bool b) => .br b (.out (want, lit tm d true)) (.out (!want, lit tm d false))
      | some (.tuple vs) => match vs.toList with
        | [] => .out (false, tm)
        | _ => .fail
      | none => .out (false, tm)
      | _ => .fail
def forceL {β : Type} : List Value → (List Value → β) → β
  | [], k => k []
  | x :: xs, k => forceL xs fun ys => k (x :: ys)
/-- A value, its outermost sign read off first. -/
def forceV {β : Type} (v : Value) (k : Value → β) : β := match v with
  | .bool b => k (.bool b)
  | .int q n => k (.int q n)
  | .agg cs => forceL cs.toList fun l => k (.agg l.toArray)
  | .tuple vs => forceL vs.toList fun l => k (.tuple l.toArray)
  | v => k v
def forceB {β : Type} (b : Blk) (k : Blk → β) : β := match b with
  | .cells own esz c => forceL c fun l => k (.cells own esz l)
  | b => k b
def forceM {β : Type} : Mem → (Mem → β) → β
  | [], k => k []
  | x :: xs, k => forceM xs fun ys => forceB x fun x => k (x :: ys)
def opsA (P : Program) (cs : CallsX) (ops : Array Oper) : List (Oper × Pos) → St → Ans St
  | [], st => .out st
  | (o, pos) :: rest, st => forceL st.tmps fun l => (guardA ops o l).bind fun g => match g.1 with
    | true => (act P cs pos g.2 st.mem o).bind fun vm => forceV vm.1 fun v => match Nat.ble 2 (memClass P o) with
      | true => forceM vm.2 fun m => opsA P cs ops rest ⟨putL g.2 o.dst v, m⟩
      | false => opsA P cs ops rest ⟨putL g.2 o.dst v, vm.2⟩
    | false => opsA P cs ops rest ⟨putL g.2 o.dst undef, st.mem⟩

/-- The number of a loop's first region. -/
def loopKey : Code → Nat
  | .region id _ _ => id
  | .seq x _ => loopKey x
  | .block _ x => loopKey x
  | .loop x => loopKey x
  | .cond _ x _ => loopKey x
  | .scope x => loopKey x
  | _ => 0
def loopsIn : Code → List Code
  | .seq x y => loopsIn x ++ loopsIn y
  | .cond _ x y => loopsIn x ++ loopsIn y
  | .block _ x => loopsIn x
  | .loop x => x :: loopsIn x
  | _ => []

/-- What is known of functions and loops: 'tbl' functions without memory, 'tbm' functions with it, 'lp' loops (a function's number, the loop's key, how many blocks the function was entered with), 'inl' functions that are walked into; 'cur': the function that is walked through. -/
structure Cx where
  P : Program
  tbl : FuncId → List Value → Option (Bool × Value)
  inl : FuncId → Option Func
  tbm : FuncId → List Value → Mem → Option (Ans (Value × Mem)) := fun _ _ _ => none
  lp : FuncId → Nat → Nat → St → Option (Ans (Exit × St)) := fun _ _ _ _ => none
  cur : FuncId := 0
  fb : Nat := 0
  keys : TypeId → Option Nat := fun _ => none
  rd : FuncId → Nat := fun _ => 0
  ext : FuncId → Nat := fun _ => 0
/-- Functions that only look, and that are not walked into. -/
def Cx.rdOf (C : Cx) (f : FuncId) : Nat := match C.inl f with
  | some _ => 0
  | none => C.rd f
def Cx.at (C : Cx) (f : FuncId) : Cx := { C with cur := f }
/-- In a function that is entered with so many blocks. -/
def Cx.into (C : Cx) (f : FuncId) (n : Nat) : Cx := { C with cur := f, fb := n }

def resOf (st : St) (P : Program) : ResultVar → Option Value
  | .tmp t => some (ev st.tmps (.tmp t))
  | .cell a t => match ev st.tmps (.tmp a) with
    | .pointer (some a) => match st.mem[a.block]? with
      | some k => (loadB P t a k).res
      | none => none
    | _ => none
def resAll (P : Program) (st : St) : List ResultVar → Option (List Value)
  | [] => some []
  | x :: rest => match resOf st P x with
    | some v => match resAll P st rest with
      | some vs => some (v :: vs)
      | none => none
    | none => none
def resV (P : Program) (fn : Func) (st : St) : Option Value :=
  match resAll P st fn.results.toList with
  | some [v] => some v
  | some vs => some (.tuple vs.toArray)
  | none => none
/-- No tuple among them. -/
def noTup : List Value → Bool
  | [] => true
  | .tuple _ :: _ => false
  | _ :: l => noTup l
def enter (fn : Func) (args : List Value) (m : Mem) : St := ⟨args ++ List.replicate (fn.ntmps - args.length) undef, m⟩
def retA (P : Program) (fn : Func) (es : Exit × St) : Ans (Value × Mem) :=
  match es.1 with
  | .normal | .ret => match resAll P es.2 fn.results.toList with
    | some vs => match noTup vs with
      | true => match resV P fn es.2 with
        | some v => .out (v, es.2.mem)
        | none => .fail
      | false => .fail
    | none => .fail
  | _ => .fail

/-- Calls, where what is walked into is walked by 'ex'. -/
def callsOf (C : Cx) (ex : Cx → Code → St → Ans (Exit × St)) : CallsX :=
  ⟨fun f args => match C.tbl f args with
    | some (d, v) => .br d (.out v) .fail
    | none => match C.inl f with
      | some fn => match fn.body with
        | some b => ((ex (C.into f 0) b (enter fn args [])).bind (retA C.P fn)).bind fun vm => .out vm.1
        | none => .fail
      | none => .fail,
   fun f args m => match C.tbm f args m with
    | some a => a
    | none => match C.inl f with
      | some fn => match fn.body with
        | some b => (ex (C.into f m.length) b (enter fn args m)).bind (retA C.P fn)
        | none => .fail
      | none => .fail, C.keys, C.rdOf, C.ext⟩

def exCode : Nat → Cx → Code → St → Ans (Exit × St)
  | 0, _, _, _ => .fail
  | n + 1, C, c, st => match c with
    | .skip => .out (.normal, st)
    | .label _ => .out (.normal, st)
    | .seq x y => (exCode n C x st).bind fun es => match es.1 with
      | .normal => exCode n C y es.2
      | e => .out (e, es.2)
    | .cond c x y => match c with
      | .tmp t => match st.tmps[t]? with
        | some (.bool b) => .br b (exCode n C x ⟨lit st.tmps t true, st.mem⟩) (exCode n C y ⟨lit st.tmps t false, st.mem⟩)
        | _ => .fail
      | _ => .fail
    | .block id x => (exCode n C x st).bind fun es => match es.1 with
      | .exit i => match Nat.beq i id with
        | true => .out (.normal, es.2)
        | false => .out (.exit i, es.2)
      | e => .out (e, es.2)
    | .loop x => match C.lp C.cur (loopKey x) C.fb st with
      | some a => a
      | none => (exCode n C x st).bind fun es => match es.1 with
        | .normal => exCode n C (.loop x) es.2
        | e => .out (e, es.2)
    | .exit id => .out (.exit id, st)
    | .ret => .out (.ret, st)
    | .region _ ops draw =>
      match !draw || okDraw C.P C.rdOf ops (places C.P draw st.tmps st.mem.length [] st.mem.length ops.toList) with
      | true => (opsA C.P (callsOf C (exCode n)) ops (places C.P draw st.tmps st.mem.length [] st.mem.length ops.toList) ⟨st.tmps, room C.P st.mem ops.toList⟩).bind fun s => .out (.normal, s)
      | false => .fail
    | _ => .fail

/-- A function called with values without addresses. -/
def exFunA (C : Cx) (n : Nat) (fn : Func) (args : List Value) (m : Mem) : Ans (Value × Mem) :=
  match fn.body with
  | some b => (exCode n (C.into C.cur m.length) b (enter fn args m)).bind (retA C.P fn)
  | none => .fail
def onlyPlain (vm : Value × Mem) : Ans Value := match plain vm.1 with
  | true => .out vm.1
  | false => .fail
def exFun (C : Cx) (n : Nat) (fn : Func) (args : List Value) : Option Value := ((exFunA C n fn args []).bind onlyPlain).res

end Go.Proofs.Ytjhijkdicmbbiaa.Vx


namespace Go.Proofs.Ytjhijkdicmbbiaa.Vx
open Go Go.RowKit

theorem Ans.res_bind {α β : Type} : ∀ (x : Ans α) (k : α → Ans β), (x.bind k).res = x.res.bind fun a => (k a).res
  | .out a, k => rfl
  | .br b t f, k => by
    simp only [Ans.bind, Ans.res]
    cases b
    · exact Ans.res_bind f k
    · exact Ans.res_bind t k
  | .fail, k => rfl
theorem Ans.bind_some {α β : Type} {x : Ans α} {k : α → Ans β} {b : β} (h : (x.bind k).res = some b) : ∃ a, x.res = some a ∧ (k a).res = some b := by
  rw [Ans.res_bind] at h
  exact Option.bind_eq_some_iff.1 h
theorem Ans.br_some {α : Type} {b : Bool} {t f : Ans α} {a : α} (h : (Ans.br b t f).res = some a) : (b = true ∧ t.res = some a) ∨ (b = false ∧ f.res = some a) := by
  cases b
  · exact Or.inr ⟨rfl, h⟩
  · exact Or.inl ⟨rfl, h⟩
theorem val?_run {α : Type} {P : Program} (s : Sem α) : ∀ (a : α), val? P s = some a → ∀ w, s.run P w = .ok a w := by
  induction s with
  | pure b => intro a h w; simp only [val?, Option.some.injEq] at h; subst h; rfl
  | program k ih => intro a h w; exact ih P a h w
  | _ => intro a h w; simp [val?] at h

theorem forceL_eq {β : Type} : ∀ (l : List Value) (k : List Value → β), forceL l k = k l
  | [], _ => rfl
  | x :: xs, k => by simp only [forceL]; rw [forceL_eq xs]
theorem forceV_eq {β : Type} (v : Value) (k : Value → β) : forceV v k = k v := by
  cases v <;> simp [forceV, forceL_eq]
theorem forceB_eq {β : Type} (b : Blk) (k : Blk → β) : forceB b k = k b := by
  cases b <;> simp [forceB, forceL_eq]
theorem forceM_eq {β : Type} : ∀ (m : Mem) (k : Mem → β), forceM m k = k m
  | [], _ => rfl
  | x :: xs, k => by simp only [forceM]; rw [forceM_eq xs, forceB_eq]

theorem allL_iff {p : Value → Bool} : ∀ {l : List Value}, allL p l = true ↔ ∀ x ∈ l, p x = true
  | [] => by simp [allL]
  | x :: xs => by
    simp only [allL, List.forall_mem_cons]
    cases h : p x with
    | true => simp [allL_iff]
    | false => simp
theorem allO_iff {p : Operand → Bool} : ∀ {l : List Operand}, allO p l = true ↔ ∀ x ∈ l, p x = true
  | [] => by simp [allO]
  | x :: xs => by
    simp only [allO, List.forall_mem_cons]
    cases h : p x with
    | true => simp [allO_iff]
    | false => simp

structure Place where
  blk : Nat
  off : Nat
  esz : Nat
  n : Nat
  room : Nat
  own : Bool
/-- none: not made yet · some none: given away · some (some p): it lies at p. -/
abbrev Ren := Nat → Option (Option Place)
def Place.addr (p : Place) (a : Addr) : Addr := ⟨p.blk, p.off + (a.spot.getD 0) * p.esz + a.off, none⟩
/-- So many rows from an address on are there. -/
def Place.has (p : Place) (a : Addr) (k : Nat) : Prop := ∀ i, a.spot = some i → i + k ≤ p.n
/-- A slice of so many elements of a size lies there, with the room behind it. -/
def Place.sl (p : Place) (a : Addr) (n e c : Nat) : Prop := n ≤ c ∧ p.has a n ∧ (p.esz ≠ 0 → p.esz = e) ∧ (a.spot ≠ none → p.esz = e) ∧ (p.own = true → p.esz ≠ 0 → (p.addr a).off + c * p.esz ≤ p.off + p.room)

def R0 (r : Ren) (v v' : Value) : Prop := match v with
  | .pointer (some a) => match r a.block with
    | none => False
    | some none => ∃ q, v' = .pointer (some q)
    | some (some p) => v' = .pointer (some (p.addr a)) ∧ p.has a 1
  | .slice (some a) n e => match r a.block with
    | none => False
    | some none => ∃ q c, v' = .slice (some q) n c ∧ n ≤ c
    | some (some p) => ∃ c, v' = .slice (some (p.addr a)) n c ∧ p.sl a n e c
  | .map (some b) => match r b with
    | none => False
    | some none => ∃ q, v' = .map (some q)
    | some (some p) => v' = .map (some p.blk)
  | .iface k .nilFunc => k = 1 → ∃ q c, v' = .slice (some q) 0 c
  | .iface _ (.float k b) => ∃ b', v' = .float k b' ∧ simF k b b'
  | .iface _ (.complex k a b) => ∃ a' b', v' = .complex k a' b' ∧ simF k a a' ∧ simF k b b'
  | v => v' = v
def RL (R : Value → Value → Prop) : List Value → List Value → Prop
  | [], [] => True
  | x :: xs, y :: ys => R x y ∧ RL R xs ys
  | _, _ => False
def R1 (r : Ren) (v v' : Value) : Prop := match v with
  | .agg cs => ∃ cs', v' = .agg cs' ∧ RL (R0 r) cs.toList cs'.toList
  | v => R0 r v v'
def R (r : Ren) (v v' : Value) : Prop := match v with
  | .tuple vs => ∃ vs', v' = .tuple vs' ∧ RL (R1 r) vs.toList vs'.toList
  | v => R1 r v v'

theorem RL.length {Q : Value → Value → Prop} : ∀ {l l' : List Value}, RL Q l l' → l.length = l'.length
  | [], [], _ => rfl
  | _ :: _, _ :: _, h => by simp [RL.length h.2]
  | [], _ :: _, h => h.elim
  | _ :: _, [], h => h.elim
theorem RL.get {Q : Value → Value → Prop} : ∀ {l l' : List Value}, RL Q l l' → ∀ (i : Nat) v, l[i]? = some v → ∃ v', l'[i]? = some v' ∧ Q v v'
  | [], [], _, i, v, h => by simp at h
  | x :: l, y :: l', h, 0, v, hv => by simp at hv; subst hv; exact ⟨y, by simp, h.1⟩
  | x :: l, y :: l', h, i + 1, v, hv => by simp only [List.getElem?_cons_succ] at hv ⊢; exact RL.get h.2 i v hv
  | [], _ :: _, h, _, _, _ => h.elim
  | _ :: _, [], h, _, _, _ => h.elim
theorem RL.of_get {Q : Value → Value → Prop} : ∀ {l l' : List Value}, l.length = l'.length → (∀ (i : Nat) v v', l[i]? = some v → l'[i]? = some v' → Q v v') → RL Q l l'
  | [], [], _, _ => trivial
  | x :: l, y :: l', h, g => ⟨g 0 x y rfl rfl, RL.of_get (by simpa using h) fun i v v' h1 h2 => g (i + 1) v v' (by simpa using h1) (by simpa using h2)⟩
  | [], _ :: _, h, _ => by simp at h
  | _ :: _, [], h, _ => by simp at h
theorem RL.mono {Q S : Value → Value → Prop} (hm : ∀ v v', Q v v' → S v v') : ∀ {l l' : List Value}, RL Q l l' → RL S l l'
  | [], [], _ => trivial
  | _ :: _, _ :: _, h => ⟨hm _ _ h.1, RL.mono hm h.2⟩
  | [], _ :: _, h => h.elim
  | _ :: _, [], h => h.elim
theorem RL.set {Q : Value → Value → Prop} : ∀ {l l' : List Value} (i : Nat) {v v' : Value}, RL Q l l' → Q v v' → RL Q (l.set i v) (l'.set i v')
  | [], [], _, _, _, _, _ => trivial
  | _ :: _, _ :: _, 0, _, _, h, hv => ⟨hv, h.2⟩
  | _ :: _, _ :: _, i + 1, _, _, h, hv => ⟨h.1, RL.set i h.2 hv⟩
  | [], _ :: _, _, _, _, h, _ => h.elim
  | _ :: _, [], _, _, _, h, _ => h.elim
theorem RL.drop {Q : Value → Value → Prop} : ∀ (n : Nat) {l l' : List Value}, RL Q l l' → RL Q (l.drop n) (l'.drop n)
  | 0, _, _, h => h
  | _ + 1, [], [], _ => trivial
  | n + 1, _ :: _, _ :: _, h => RL.drop n h.2
  | _ + 1, [], _ :: _, h => h.elim
  | _ + 1, _ :: _, [], h => h.elim
theorem RL.take {Q : Value → Value → Prop} : ∀ (n : Nat) {l l' : List Value}, RL Q l l' → RL Q (l.take n) (l'.take n)
  | 0, _, _, _ => trivial
  | _ + 1, [], [], _ => trivial
  | n + 1, _ :: _, _ :: _, h => ⟨h.1, RL.take n h.2⟩
  | _ + 1, [], _ :: _, h => h.elim
  | _ + 1, _ :: _, [], h => h.elim
theorem RL.append {Q : Value → Value → Prop} : ∀ {l l' m m' : List Value}, RL Q l l' → RL Q m m' → RL Q (l ++ m) (l' ++ m')
  | [], [], _, _, _, h => h
  | _ :: _, _ :: _, _, _, h, h' => ⟨h.1, RL.append h.2 h'⟩
  | [], _ :: _, _, _, h, _ => h.elim
  | _ :: _, [], _, _, h, _ => h.elim
theorem RL.setMany {Q : Value → Value → Prop} : ∀ {vs vs' : List Value} (off : Nat) {l l' : List Value}, RL Q l l' → RL Q vs vs' → RL Q (setMany l off vs) (setMany l' off vs')
  | [], [], _, _, _, h, _ => h
  | _ :: _, _ :: _, off, _, _, h, hv => RL.setMany (off + 1) (RL.set off h hv.1) hv.2
  | [], _ :: _, _, _, _, _, h => h.elim
  | _ :: _, [], _, _, _, _, h => h.elim

theorem R0_plain {r : Ren} {v v' : Value} (h : plain0 v = true) : R0 r v v' ↔ v' = v := by
  unfold R0
  cases v with
  | pointer a => cases a with
    | none => rfl
    | some a => simp [plain0] at h
  | slice a n c => cases a with
    | none => rfl
    | some a => simp [plain0] at h
  | map a => cases a with
    | none => rfl
    | some a => simp [plain0] at h
  | iface t u => simp [plain0] at h
  | _ => rfl
theorem nad0_cases {v : Value} (h : nad0 v = true) : (∃ t k b, v = .iface t (.float k b)) ∨ (∃ t k a b, v = .iface t (.complex k a b)) ∨ plain0 v = true := by
  unfold nad0 at h
  split at h
  · exact Or.inl ⟨_, _, _, rfl⟩
  · exact Or.inr (Or.inl ⟨_, _, _, _, rfl⟩)
  · exact Or.inr (Or.inr h)
theorem plain0_nad0 {v : Value} (h : plain0 v = true) : nad0 v = true := by
  unfold nad0
  split
  · rfl
  · rfl
  · exact h
theorem R0_nad {r r' : Ren} {v v' : Value} (h : nad0 v = true) (hr : R0 r v v') : R0 r' v v' := by
  rcases nad0_cases h with ⟨t, k, b, rfl⟩ | ⟨t, k, a, b, rfl⟩ | hp
  · exact hr
  · exact hr
  · exact (R0_plain (r := r') hp).2 ((R0_plain (r := r) hp).1 hr)
theorem allL_nad0 {l : List Value} (h : allL plain0 l = true) : allL nad0 l = true := allL_iff.2 fun x hx => plain0_nad0 (allL_iff.1 h x hx)
theorem nad0_scalar {v : Value} (h : nad0 v = true) : scalar v = true := by
  rcases nad0_cases h with ⟨t, k, b, rfl⟩ | ⟨t, k, a, b, rfl⟩ | hp
  · rfl
  · rfl
  · cases v with
    | iface t u => simp [plain0] at hp
    | agg c => simp [plain0] at hp
    | tuple c => simp [plain0] at hp
    | _ => rfl
theorem RL_eq {Q : Value → Value → Prop} {p : Value → Bool} (hp : ∀ v v', p v = true → (Q v v' ↔ v' = v)) : ∀ {l l' : List Value}, allL p l = true → (RL Q l l' ↔ l' = l)
  | [], [], _ => by simp [RL]
  | [], _ :: _, _ => by simp [RL]
  | _ :: _, [], _ => by simp [RL]
  | x :: l, y :: l', h => by
    have hx : p x = true := (allL_iff.1 h) x (by simp)
    have hl : allL p l = true := allL_iff.2 fun z hz => (allL_iff.1 h) z (by simp [hz])
    simp only [RL, List.cons.injEq, hp x y hx, RL_eq hp hl]
theorem R1_plain {r : Ren} {v v' : Value} (h : plain1 v = true) : R1 r v v' ↔ v' = v := by
  unfold R1
  cases v with
  | agg cs =>
    simp only [plain1] at h
    simp only [RL_eq (fun v v' => R0_plain (r := r)) h]
    constructor
    · rintro ⟨cs', rfl, h⟩; rw [show cs' = cs from by cases cs; cases cs'; simp_all]
    · rintro rfl; exact ⟨cs, rfl, rfl⟩
  | _ => exact R0_plain h
theorem R_plain {r : Ren} {v v' : Value} (h : plain v = true) : R r v v' ↔ v' = v := by
  unfold R
  cases v with
  | tuple vs =>
    simp only [plain] at h
    simp only [RL_eq (fun v v' => R1_plain (r := r)) h]
    constructor
    · rintro ⟨cs', rfl, h⟩; rw [show cs' = vs from by cases vs; cases cs'; simp_all]
    · rintro rfl; exact ⟨vs, rfl, rfl⟩
  | _ => exact R1_plain h
theorem R_unk (r : Ren) (v' : Value) : R r unk v' := fun h => absurd h (by decide)
theorem R_emp {r : Ren} {v' : Value} : R r emp v' ↔ ∃ q c, v' = .slice (some q) 0 c := ⟨fun h => h rfl, fun h _ => h⟩
/-- A cell is a cell. -/
theorem R0_R1 {r : Ren} {v v' : Value} (hs : scalar v = true) : R1 r v v' ↔ R0 r v v' := by
  cases v with
  | agg cs => simp [scalar] at hs
  | _ => rfl
theorem R1_R {r : Ren} {v v' : Value} (hs : ∀ vs, v ≠ .tuple vs) : R r v v' ↔ R1 r v v' := by
  cases v with
  | tuple vs => exact absurd rfl (hs vs)
  | _ => rfl
theorem R0_R {r : Ren} {v v' : Value} (hs : scalar v = true) : R r v v' ↔ R0 r v v' := by
  rw [R1_R (fun vs e => by subst e; simp [scalar] at hs), R0_R1 hs]
/-- The cells of a value that is no tuple. -/
theorem R_cells {r : Ren} {v v' : Value} (h : R r v v') (hs : allL scalar v.cells.toList = true) : RL (R0 r) v.cells.toList v'.cells.toList := by
  cases v with
  | tuple vs => simp [Value.cells, allL, scalar] at hs
  | agg cs =>
    obtain ⟨cs', rfl, h⟩ := h
    exact h
  | pointer a =>
    have h' : R0 r (.pointer a) v' := h
    have : ∃ q, v' = .pointer q := by
      unfold R0 at h'
      cases a with
      | none => exact ⟨none, h'⟩
      | some a =>
        simp only at h'
        revert h'
        cases r a.block with
        | none => exact fun h => h.elim
        | some q => cases q with
          | none => rintro ⟨q, h⟩; exact ⟨_, h⟩
          | some p => rintro ⟨rfl, _⟩; exact ⟨_, rfl⟩
    obtain ⟨q, rfl⟩ := this
    exact ⟨h', trivial⟩
  | slice a n c =>
    have h' : R0 r (.slice a n c) v' := h
    have : ∃ q n c, v' = .slice q n c := by
      unfold R0 at h'
      cases a with
      | none => exact ⟨none, n, c, h'⟩
      | some a =>
        simp only at h'
        revert h'
        cases r a.block with
        | none => exact fun h => h.elim
        | some q => cases q with
          | none => rintro ⟨q, c, h, _⟩; exact ⟨_, _, _, h⟩
          | some p => rintro ⟨c, rfl, _⟩; exact ⟨_, _, _, rfl⟩
    obtain ⟨q, m, d, rfl⟩ := this
    exact ⟨h', trivial⟩
  | map a =>
    have h' : R0 r (.map a) v' := h
    have : ∃ q, v' = .map q := by
      unfold R0 at h'
      cases a with
      | none => exact ⟨none, h'⟩
      | some a =>
        simp only at h'
        revert h'
        cases r a with
        | none => exact fun h => h.elim
        | some q => cases q with
          | none => rintro ⟨q, h⟩; exact ⟨_, h⟩
          | some p => rintro rfl; exact ⟨_, rfl⟩
    obtain ⟨q, rfl⟩ := this
    exact ⟨h', trivial⟩
  | iface t u =>
    have h' : R0 r (.iface t u) v' := h
    cases u with
    | nilFunc => simp [Value.cells, allL, scalar] at hs
    | float k b => obtain ⟨b', rfl, h2⟩ := h'; exact ⟨⟨b', rfl, h2⟩, trivial⟩
    | complex k a b => obtain ⟨a', b', rfl, h2⟩ := h'; exact ⟨⟨a', b', rfl, h2⟩, trivial⟩
    | _ => cases h'; exact ⟨rfl, trivial⟩
  | _ => cases h; exact ⟨rfl, trivial⟩
def nad1 : Value → Bool
  | .agg cs => allL nad0 cs.toList
  | v => nad0 v
def nad : Value → Bool
  | .tuple vs => allL nad1 vs.toList
  | v => nad1 v
theorem nad1_cases {v : Value} (h : nad1 v = true) : (∃ cs, v = .agg cs ∧ allL nad0 cs.toList = true) ∨ ((∀ cs, v ≠ .agg cs) ∧ nad0 v = true) := by
  unfold nad1 at h
  split at h
  · exact Or.inl ⟨_, rfl, h⟩
  · rename_i hn
    exact Or.inr ⟨fun cs e => hn cs e, h⟩
theorem nad_cases {v : Value} (h : nad v = true) : (∃ cs, v = .tuple cs ∧ allL nad1 cs.toList = true) ∨ ((∀ cs, v ≠ .tuple cs) ∧ nad1 v = true) := by
  unfold nad at h
  split at h
  · exact Or.inl ⟨_, rfl, h⟩
  · rename_i hn
    exact Or.inr ⟨fun cs e => hn cs e, h⟩
theorem R1_R0 {r : Ren} {v v' : Value} (h : ∀ cs, v ≠ .agg cs) : R1 r v v' ↔ R0 r v v' := by
  cases v with
  | agg cs => exact absurd rfl (h cs)
  | _ => rfl
theorem RL_mem {Q S : Value → Value → Prop} : ∀ {l l' : List Value}, (∀ x ∈ l, ∀ y, Q x y → S x y) → RL Q l l' → RL S l l'
  | [], [], _, _ => trivial
  | x :: l, y :: l', h, g => ⟨h x (by simp) y g.1, RL_mem (fun z hz => h z (by simp [hz])) g.2⟩
  | [], _ :: _, _, g => g.elim
  | _ :: _, [], _, g => g.elim
theorem R1_nad {r r' : Ren} {v v' : Value} (h : nad1 v = true) (hr : R1 r v v') : R1 r' v v' := by
  rcases nad1_cases h with ⟨cs, rfl, hc⟩ | ⟨hn, hc⟩
  · obtain ⟨cs', rfl, g⟩ := hr
    exact ⟨cs', rfl, RL_mem (fun x hx y => R0_nad (allL_iff.1 hc x hx)) g⟩
  · exact (R1_R0 hn).2 (R0_nad hc ((R1_R0 hn).1 hr))
theorem R_nad {r r' : Ren} {v v' : Value} (h : nad v = true) (hr : R r v v') : R r' v v' := by
  rcases nad_cases h with ⟨cs, rfl, hc⟩ | ⟨hn, hc⟩
  · obtain ⟨cs', rfl, g⟩ := hr
    exact ⟨cs', rfl, RL_mem (fun x hx y => R1_nad (allL_iff.1 hc x hx)) g⟩
  · exact (R1_R hn).2 (R1_nad hc ((R1_R hn).1 hr))


/-- A block that is no longer written. -/
def Place.asView (p : Place) : Place := { p with own := false, room := 1 }
/-- Blocks may come and go, none moves. -/
def Ext (r r' : Ren) : Prop := ∀ b, r b = none ∨ r' b = r b ∨ ((∃ p, r b = some p) ∧ r' b = some none) ∨ ∃ p, r b = some (some p) ∧ r' b = some (some p.asView)
theorem Ext.refl (r : Ren) : Ext r r := fun _ => Or.inr (Or.inl rfl)
theorem Ext.trans {r s t : Ren} (h : Ext r s) (k : Ext s t) : Ext r t := by
  intro b
  rcases h b with h1 | h1 | ⟨⟨p, h1⟩, h2⟩ | ⟨p, h1, h2⟩
  · exact Or.inl h1
  · rcases k b with k1 | k1 | ⟨⟨q, k1⟩, k2⟩ | ⟨q, k1, k2⟩
    · left; rw [← h1]; exact k1
    · right; left; rw [k1, h1]
    · right; right; left; exact ⟨⟨q, by rw [← h1]; exact k1⟩, k2⟩
    · right; right; right; exact ⟨q, by rw [← h1]; exact k1, k2⟩
  · rcases k b with k1 | k1 | ⟨_, k2⟩ | ⟨q, k1, k2⟩
    · rw [h2] at k1; cases k1
    · right; right; left; exact ⟨⟨p, h1⟩, by rw [k1, h2]⟩
    · right; right; left; exact ⟨⟨p, h1⟩, k2⟩
    · rw [h2] at k1; simp at k1
  · rcases k b with k1 | k1 | ⟨_, k2⟩ | ⟨q, k1, k2⟩
    · rw [h2] at k1; cases k1
    · right; right; right; exact ⟨p, h1, by rw [k1, h2]⟩
    · right; right; left; exact ⟨⟨_, h1⟩, k2⟩
    · rw [h2] at k1
      simp only [Option.some.injEq] at k1
      subst k1
      right; right; right; exact ⟨p, h1, k2⟩
theorem Place.sl_view {p : Place} {a : Addr} {n e c : Nat} (h : p.sl a n e c) : p.asView.sl a n e c := ⟨h.1, h.2.1, h.2.2.1, h.2.2.2.1, fun h => by cases h⟩
theorem R0.ext {r r' : Ren} (he : Ext r r') {v v' : Value} (h : R0 r v v') : R0 r' v v' := by
  unfold R0 at h ⊢
  cases v with
  | pointer a => cases a with
    | none => exact h
    | some a =>
      simp only at h ⊢
      rcases he a.block with h1 | h1 | ⟨⟨p, h1⟩, h2⟩ | ⟨p, h1, h2⟩
      · rw [h1] at h; exact h.elim
      · rw [h1]; exact h
      · rw [h2]
        rw [h1] at h
        cases p with
        | none => exact h
        | some p => exact ⟨_, h.1⟩
      · rw [h2]
        rw [h1] at h
        exact h
  | slice a n c => cases a with
    | none => exact h
    | some a =>
      simp only at h ⊢
      rcases he a.block with h1 | h1 | ⟨⟨p, h1⟩, h2⟩ | ⟨p, h1, h2⟩
      · rw [h1] at h; exact h.elim
      · rw [h1]; exact h
      · rw [h2]
        rw [h1] at h
        cases p with
        | none => exact h
        | some p => obtain ⟨c, h, h'⟩ := h; exact ⟨_, _, h, h'.1⟩
      · rw [h2]
        rw [h1] at h
        obtain ⟨c, h, h'⟩ := h
        exact ⟨c, h, Place.sl_view h'⟩
  | map a => cases a with
    | none => exact h
    | some a =>
      simp only at h ⊢
      rcases he a with h1 | h1 | ⟨⟨p, h1⟩, h2⟩ | ⟨p, h1, h2⟩
      · rw [h1] at h; exact h.elim
      · rw [h1]; exact h
      · rw [h2]
        rw [h1] at h
        cases p with
        | none => exact h
        | some p => exact ⟨_, h⟩
      · rw [h2]
        rw [h1] at h
        exact h
  | iface t u => cases u <;> exact h
  | _ => exact h
theorem R1.ext {r r' : Ren} (he : Ext r r') {v v' : Value} (h : R1 r v v') : R1 r' v v' := by
  cases v with
  | agg cs => obtain ⟨cs', rfl, h⟩ := h; exact ⟨cs', rfl, RL.mono (fun _ _ => R0.ext he) h⟩
  | _ => unfold R1 at h ⊢; exact R0.ext he h
theorem R.ext {r r' : Ren} (he : Ext r r') {v v' : Value} (h : R r v v') : R r' v v' := by
  cases v with
  | tuple cs => obtain ⟨cs', rfl, h⟩ := h; exact ⟨cs', rfl, RL.mono (fun _ _ => R1.ext he) h⟩
  | _ => unfold R at h ⊢; exact R1.ext he h

end Go.Proofs.Ytjhijkdicmbbiaa.Vx
