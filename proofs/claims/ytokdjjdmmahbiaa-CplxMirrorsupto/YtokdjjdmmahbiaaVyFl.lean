/-
  Floats whose NaNs are one another's: operations, and what the machine does of them. Nothing here is trusted.
-/
import Derived.Orders
import Derived.Below
import Derived.KernelRfl
import Derived.ChangeKeysEq
import Derived.Laws.StructEq
namespace Go.Proofs.Ytokdjjdmmahbiaa.Vx
open Go Go.RowKit

def isNaNb (k : FloatKind) (b : Nat) : Bool := (k.decode b).isNaN
def qn : FloatKind → Nat
  | .f32 => 2143289344
  | .f64 => 9221120237041090561
def fadd (k : FloatKind) (a b : Nat) : Nat := (k.format.add a b).getD (qn k)
def fsub (k : FloatKind) (a b : Nat) : Nat := (k.format.sub a b).getD (qn k)
def fmul (k : FloatKind) (a b : Nat) : Nat := (k.format.mul a b).getD (qn k)
def fdiv (k : FloatKind) (a b : Nat) : Nat := (k.format.div a b).getD (qn k)
def fsqrt (a : Nat) : Nat := (FloatKind.f64.format.sqrt a).getD (qn .f64)
def fneg (k : FloatKind) (b : Nat) : Nat := Op.negFloat k b
def feq (k : FloatKind) (a b : Nat) : Bool := k.format.order a b == some .eq
def flt (k : FloatKind) (a b : Nat) : Bool := k.format.order a b == some .lt
def fgt (k : FloatKind) (a b : Nat) : Bool := k.format.order a b == some .gt
def fmaxO (k : FloatKind) (a b : Nat) : Option Ordering → Nat
  | none => qn k
  | some .lt => b
  | some .gt => a
  | some .eq => match (k.decode a).neg with
    | true => b
    | false => a
def fminO (k : FloatKind) (a b : Nat) : Option Ordering → Nat
  | none => qn k
  | some .lt => a
  | some .gt => b
  | some .eq => match (k.decode a).neg with
    | true => a
    | false => b
def fmax (k : FloatKind) (a b : Nat) : Nat := fmaxO k a b (k.format.order a b)
def fmin (k : FloatKind) (a b : Nat) : Nat := fminO k a b (k.format.order a b)
def kEq : FloatKind → FloatKind → Bool
  | .f32, .f32 | .f64, .f64 => true
  | _, _ => false
def fcvD (d : FloatKind) : Ieee.Datum → Nat
  | .nan _ _ => qn d
  | .infinity s => d.encode (.infinity s)
  | .number s m e => d.encode (.number s m e)
def ovfD (d : FloatKind) : Ieee.Datum → Bool
  | .nan _ _ => false
  | .infinity _ => false
  | .number s m e => (d.decode (d.encode (.number s m e))).isInfinity
def fcv (s d : FloatKind) (b : Nat) : Nat := match kEq s d with
  | true => b
  | false => fcvD d (s.decode b)
def ovf (s d : FloatKind) (b : Nat) : Bool := match kEq s d with
  | true => false
  | false => ovfD d (s.decode b)

/-- A float, any NaN of its kind if it is one; a complex number likewise. -/
def aF (k : FloatKind) (b : Nat) : Value := .iface 0 (.float k b)
def aC (k : FloatKind) (a b : Nat) : Value := .iface 0 (.complex k a b)
def fl? : Value → Option (FloatKind × Nat)
  | .float k b => some (k, b)
  | .iface _ (.float k b) => some (k, b)
  | _ => none
def cx? : Value → Option (FloatKind × Nat × Nat)
  | .complex k a b => some (k, a, b)
  | .iface _ (.complex k a b) => some (k, a, b)
  | _ => none

def fltBinF (op : BinOp) (k : FloatKind) (a b : Nat) : Option Value := match op with
  | .add => some (aF k (fadd k a b))
  | .sub => some (aF k (fsub k a b))
  | .mul => some (aF k (fmul k a b))
  | .quo => some (aF k (fdiv k a b))
  | .eql => some (.bool (feq k a b))
  | .neq => some (.bool (!feq k a b))
  | .lss => some (.bool (flt k a b))
  | .leq => some (.bool (flt k a b || feq k a b))
  | .gtr => some (.bool (fgt k a b))
  | .geq => some (.bool (fgt k a b || feq k a b))
  | _ => none
def fltBinC (op : BinOp) (k : FloatKind) (a b c d : Nat) : Option Value := match op with
  | .add => some (aC k (fadd k a c) (fadd k b d))
  | .sub => some (aC k (fsub k a c) (fsub k b d))
  | .eql => some (.bool (feq k a c && feq k b d))
  | .neq => some (.bool !(feq k a c && feq k b d))
  | _ => none
def fltBin (op : BinOp) (x y : Value) : Option Value := match fl? x with
  | some (k, a) => match fl? y with
    | some (k', b) => match kEq k k' with
      | true => fltBinF op k a b
      | false => none
    | none => none
  | none => match cx? x with
    | some (k, a, b) => match cx? y with
      | some (k', c, d) => match kEq k k' with
        | true => fltBinC op k a b c d
        | false => none
      | none => none
    | none => none
def fltNeg (x : Value) : Option Value := match fl? x with
  | some (k, a) => some (aF k (fneg k a))
  | none => match cx? x with
    | some (k, a, b) => some (aC k (fneg k a) (fneg k b))
    | none => none
def fltB (b : Builtin) (args : List Value) : Option Value := match b with
  | .real => match args with
    | [x] => match cx? x with
      | some (k, a, _) => some (aF k a)
      | none => none
    | _ => none
  | .imag => match args with
    | [x] => match cx? x with
      | some (k, _, b) => some (aF k b)
      | none => none
    | _ => none
  | .complex => match args with
    | [x, y] => match fl? x with
      | some (k, a) => match fl? y with
        | some (k', b) => match kEq k k' with
          | true => some (aC k a b)
          | false => none
        | none => none
      | none => none
    | _ => none
  | .max => match args with
    | [x, y] => match fl? x with
      | some (k, a) => match fl? y with
        | some (k', b) => match kEq k k' with
          | true => some (aF k (fmax k a b))
          | false => none
        | none => none
      | none => none
    | _ => none
  | .min => match args with
    | [x, y] => match fl? x with
      | some (k, a) => match fl? y with
        | some (k', b) => match kEq k k' with
          | true => some (aF k (fmin k a b))
          | false => none
        | none => none
      | none => none
    | _ => none
  | _ => none

/-! ## NaNs -/
def simF (k : FloatKind) (b b' : Nat) : Prop := b' = b ∨ (isNaNb k b = true ∧ isNaNb k b' = true)
theorem simF.refl (k : FloatKind) (b : Nat) : simF k b b := Or.inl rfl
theorem nan_read {k : FloatKind} {b : Nat} (h : isNaNb k b = true) : ∃ s t, k.format.read b = .nan s t := by
  unfold isNaNb FloatKind.decode Ieee.Datum.isNaN at h
  split at h
  · rename_i s t hd; exact ⟨s, t, hd⟩
  · cases h
theorem kEq_eq {k k' : FloatKind} (h : kEq k k' = true) : k = k' := by cases k <;> cases k' <;> first | rfl | cases h
theorem sum_nan_l (s : Bool) (t : Nat) (y : Ieee.Datum) : (Ieee.Datum.nan s t).sum y = none := by cases y <;> rfl
theorem sum_nan_r (s : Bool) (t : Nat) (y : Ieee.Datum) : y.sum (Ieee.Datum.nan s t) = none := by cases y <;> rfl
theorem product_nan_l (s : Bool) (t : Nat) (y : Ieee.Datum) : (Ieee.Datum.nan s t).product y = none := by cases y <;> rfl
theorem product_nan_r (s : Bool) (t : Nat) (y : Ieee.Datum) : y.product (Ieee.Datum.nan s t) = none := by cases y <;> rfl
theorem quotient_nan_l (n : Nat) (s : Bool) (t : Nat) (y : Ieee.Datum) : (Ieee.Datum.nan s t).quotient n y = none := by cases y <;> rfl
theorem quotient_nan_r (n : Nat) (s : Bool) (t : Nat) (y : Ieee.Datum) : y.quotient n (Ieee.Datum.nan s t) = none := by cases y <;> rfl
theorem order_nan_l (s : Bool) (t : Nat) (y : Ieee.Datum) : (Ieee.Datum.nan s t).order y = none := by cases y <;> rfl
theorem order_nan_r (s : Bool) (t : Nat) (y : Ieee.Datum) : y.order (Ieee.Datum.nan s t) = none := by cases y <;> rfl

section
variable {k : FloatKind} {a b a' b' : Nat}
theorem sim_two {α : Type} {f : Nat → Nat → Option α} (hl : ∀ x y, isNaNb k x = true → f x y = none) (hr : ∀ x y, isNaNb k y = true → f x y = none) (ha : simF k a a') (hb : simF k b b') : f a' b' = f a b := by
  rcases ha with rfl | ⟨h1, h2⟩
  · rcases hb with rfl | ⟨h1, h2⟩
    · rfl
    · rw [hr _ _ h1, hr _ _ h2]
  · rw [hl _ _ h1, hl _ _ h2]
theorem add_nl (x y : Nat) (h : isNaNb k x = true) : k.format.add x y = none := by obtain ⟨s, t, h⟩ := nan_read h; unfold Ieee.Format.add; rw [h, sum_nan_l]; rfl
theorem add_nr (x y : Nat) (h : isNaNb k y = true) : k.format.add x y = none := by obtain ⟨s, t, h⟩ := nan_read h; unfold Ieee.Format.add; rw [h, sum_nan_r]; rfl
theorem sub_nl (x y : Nat) (h : isNaNb k x = true) : k.format.sub x y = none := by obtain ⟨s, t, h⟩ := nan_read h; unfold Ieee.Format.sub; rw [h, sum_nan_l]; rfl
theorem sub_nr (x y : Nat) (h : isNaNb k y = true) : k.format.sub x y = none := by obtain ⟨s, t, h⟩ := nan_read h; unfold Ieee.Format.sub; rw [h]; simp only [Ieee.Datum.opposite]; rw [sum_nan_r]; rfl
theorem mul_nl (x y : Nat) (h : isNaNb k x = true) : k.format.mul x y = none := by obtain ⟨s, t, h⟩ := nan_read h; unfold Ieee.Format.mul; rw [h, product_nan_l]; rfl
theorem mul_nr (x y : Nat) (h : isNaNb k y = true) : k.format.mul x y = none := by obtain ⟨s, t, h⟩ := nan_read h; unfold Ieee.Format.mul; rw [h, product_nan_r]; rfl
theorem div_nl (x y : Nat) (h : isNaNb k x = true) : k.format.div x y = none := by obtain ⟨s, t, h⟩ := nan_read h; unfold Ieee.Format.div; rw [h, quotient_nan_l]; rfl
theorem div_nr (x y : Nat) (h : isNaNb k y = true) : k.format.div x y = none := by obtain ⟨s, t, h⟩ := nan_read h; unfold Ieee.Format.div; rw [h, quotient_nan_r]; rfl
theorem order_nl (x y : Nat) (h : isNaNb k x = true) : k.format.order x y = none := by obtain ⟨s, t, h⟩ := nan_read h; unfold Ieee.Format.order; rw [h, order_nan_l]
theorem order_nr (x y : Nat) (h : isNaNb k y = true) : k.format.order x y = none := by obtain ⟨s, t, h⟩ := nan_read h; unfold Ieee.Format.order; rw [h, order_nan_r]
theorem add_sim (ha : simF k a a') (hb : simF k b b') : k.format.add a' b' = k.format.add a b := sim_two add_nl add_nr ha hb
theorem sub_sim (ha : simF k a a') (hb : simF k b b') : k.format.sub a' b' = k.format.sub a b := sim_two sub_nl sub_nr ha hb
theorem mul_sim (ha : simF k a a') (hb : simF k b b') : k.format.mul a' b' = k.format.mul a b := sim_two mul_nl mul_nr ha hb
theorem div_sim (ha : simF k a a') (hb : simF k b b') : k.format.div a' b' = k.format.div a b := sim_two div_nl div_nr ha hb
theorem order_sim (ha : simF k a a') (hb : simF k b b') : k.format.order a' b' = k.format.order a b := sim_two order_nl order_nr ha hb
theorem sqrt_nl {x : Nat} (h : isNaNb .f64 x = true) : FloatKind.f64.format.sqrt x = none := by obtain ⟨s, t, h⟩ := nan_read h; unfold Ieee.Format.sqrt; rw [h]; rfl
theorem sqrt_sim (ha : simF .f64 a a') : FloatKind.f64.format.sqrt a' = FloatKind.f64.format.sqrt a := by
  rcases ha with rfl | ⟨h1, h2⟩
  · rfl
  · rw [sqrt_nl h1, sqrt_nl h2]
theorem isNaN_rung {k : FloatKind} {b : Nat} (h : k.format.infRung < b % k.format.signWeight) : isNaNb k b = true := by
  unfold isNaNb FloatKind.decode Ieee.Format.read
  simp only
  rw [if_neg, if_neg (by omega), if_neg (by omega)]
  · rfl
  · have : k.format.binade ≤ k.format.infRung := by cases k <;> decide
    omega
theorem rung_isNaN {k : FloatKind} {b : Nat} (h : isNaNb k b = true) : k.format.infRung < b % k.format.signWeight := by
  unfold isNaNb FloatKind.decode Ieee.Format.read at h
  simp only at h
  split at h
  · cases h
  · split at h
    · cases h
    · split at h
      · cases h
      · omega
theorem qn_nan (k : FloatKind) : isNaNb k (qn k) = true := by cases k <;> decide +kernel
theorem sw_eq (k : FloatKind) : k.format.signWeight = 2 ^ (k.format.exponentBits + k.format.fractionBits) := rfl
theorem fneg_mod (k : FloatKind) (b : Nat) : fneg k b % k.format.signWeight = b % k.format.signWeight := by
  unfold fneg Op.negFloat
  rw [sw_eq, Nat.xor_mod_two_pow, Nat.mod_self, Nat.xor_zero]
theorem fneg_nan (h : isNaNb k a = true) : isNaNb k (fneg k a) = true := isNaN_rung (by rw [fneg_mod]; exact rung_isNaN h)
theorem fneg_sim (h : simF k a a') : simF k (fneg k a) (fneg k a') := by
  rcases h with rfl | ⟨h1, h2⟩
  · exact Or.inl rfl
  · exact Or.inr ⟨fneg_nan h1, fneg_nan h2⟩
theorem cut_nan {q : Question} {k : FloatKind} (h : (∃ x y, q = .nanBits k x y) ∨ (∃ x, q = .nanConv k x) ∨ ∃ m x y, q = .nanMinMax k m x y) (t : Nat) : isNaNb k (q.cut t) = true := by
  refine isNaN_rung ?_
  have e32 : FloatKind.f32.format.signWeight = 2147483648 := by decide
  have i32 : FloatKind.f32.format.infRung = 2139095040 := by decide
  have e64 : FloatKind.f64.format.signWeight = 9223372036854775808 := by decide
  have i64 : FloatKind.f64.format.infRung = 9218868437227405312 := by decide
  have h23 : t / 2 % (2 ^ 23 - 1) < 2 ^ 23 - 1 := Nat.mod_lt _ (by decide)
  have h52 : t / 2 % (2 ^ 52 - 1) < 2 ^ 52 - 1 := Nat.mod_lt _ (by decide)
  rcases Nat.mod_two_eq_zero_or_one t with h2 | h2 <;> rcases h with ⟨x, y, rfl⟩ | ⟨x, rfl⟩ | ⟨m, x, y, rfl⟩ <;> cases k <;> simp only [Question.cut, e32, i32, e64, i64, h2] <;> generalize t / 2 % (2 ^ 23 - 1) = r at * <;> generalize t / 2 % (2 ^ 52 - 1) = q at * <;> omega
end

/-! ## What the machine does -/
/-- An answer, up to NaNs. -/
def RV : Value → Value → Prop
  | .iface _ (.float k b), v' => ∃ b', v' = .float k b' ∧ simF k b b'
  | .iface _ (.complex k a b), v' => ∃ a' b', v' = .complex k a' b' ∧ simF k a a' ∧ simF k b b'
  | v, v' => v' = v
/-- A run that only draws. -/
def Draws (P : Program) (s : Sem Value) (w : World) (v : Value) : Prop := ∃ v' w', s.run P w = .ok v' w' ∧ RV v v' ∧ Below w.heap.size w w' ∧ w.drawn ≤ w'.drawn
theorem choose_run (P : Program) (q : Question) (w : World) (hq : q.forced = false) : ∃ t w', (choose q).run P w = .ok (q.cut t) w' ∧ Below w.heap.size w w' ∧ w.drawn ≤ w'.drawn :=
  ⟨w.tape w.drawn q, { w with drawn := w.drawn + 1 }, by simp [choose, Sem.run, hq], ⟨rfl, rfl, rfl, Nat.le_refl _, fun _ _ => rfl⟩, Nat.le_succ _⟩
section
variable {P : Program} {w : World} {k : FloatKind} {a b a' b' : Nat}
theorem Draws.pure {v v' : Value} (h : RV v v') : Draws P (Pure.pure v') w v := ⟨v', w, rfl, h, Below.refl _ _, Nat.le_refl _⟩
theorem Draws.nan (q : Question) (hq : q.forced = false) (h : (∃ x y, q = .nanBits k x y) ∨ (∃ x, q = .nanConv k x) ∨ ∃ m x y, q = .nanMinMax k m x y) {n : Nat} (hn : isNaNb k n = true) : Draws P (do Pure.pure (.float k (← choose q))) w (aF k n) := by
  obtain ⟨t, w', h1, h2, h3⟩ := choose_run P q w hq
  exact ⟨.float k (q.cut t), w', by rw [Sem.run_bind, h1]; rfl, ⟨_, rfl, Or.inr ⟨hn, cut_nan h t⟩⟩, h2, h3⟩
/-- A rounded answer, or a NaN drawn. -/
theorem floatArith_run {op : BinOp} {v : Value} (hop : op = .add ∨ op = .sub ∨ op = .mul ∨ op = .quo) (h : fltBinF op k a b = some v) (ha : simF k a a') (hb : simF k b b') : Draws P (Op.floatArith op k a' b') w v := by
  rcases hop with rfl | rfl | rfl | rfl <;> simp only [fltBinF, Option.some.injEq] at h <;> subst h <;> unfold Op.floatArith
  · unfold fadd
    rw [← add_sim ha hb]
    simp only [pure_bind]
    cases k.format.add a' b' with
    | some r => exact Draws.pure ⟨r, rfl, simF.refl _ _⟩
    | none => exact Draws.nan _ rfl (Or.inl ⟨_, _, rfl⟩) (qn_nan k)
  · unfold fsub
    rw [← sub_sim ha hb]
    simp only [pure_bind]
    cases k.format.sub a' b' with
    | some r => exact Draws.pure ⟨r, rfl, simF.refl _ _⟩
    | none => exact Draws.nan _ rfl (Or.inl ⟨_, _, rfl⟩) (qn_nan k)
  · unfold fmul
    rw [← mul_sim ha hb]
    simp only [pure_bind]
    cases k.format.mul a' b' with
    | some r => exact Draws.pure ⟨r, rfl, simF.refl _ _⟩
    | none => exact Draws.nan _ rfl (Or.inl ⟨_, _, rfl⟩) (qn_nan k)
  · unfold fdiv
    rw [← div_sim ha hb]
    simp only [pure_bind]
    cases k.format.div a' b' with
    | some r => exact Draws.pure ⟨r, rfl, simF.refl _ _⟩
    | none => exact Draws.nan _ rfl (Or.inl ⟨_, _, rfl⟩) (qn_nan k)
theorem floatCmp_run {op : BinOp} {q : Bool} (h : fltBinF op k a b = some (.bool q)) (ha : simF k a a') (hb : simF k b b') : Op.floatCmp op k a' b' = Pure.pure (.bool q) := by
  unfold Op.floatCmp
  rw [order_sim ha hb]
  cases op <;> simp only [fltBinF, Option.some.injEq, Value.bool.injEq, reduceCtorEq, aF] at h <;> subst h <;> rfl
theorem RV_bool {q : Bool} : RV (.bool q) (.bool q) := rfl
theorem binOpF_run {op : BinOp} {t : TypeId} {v : Value} (h : fltBinF op k a b = some v) (ha : simF k a a') (hb : simF k b b') : Draws P (binOp op t (.float k a') (.float k b')) w v := by
  have hcmp : ∀ q, v = .bool q → (Op.floatCmp op k a' b') = Pure.pure (.bool q) := fun q e => floatCmp_run (by rw [h, e]) ha hb
  cases op
  case add => exact (by simpa [binOp] using floatArith_run (Or.inl rfl) h ha hb)
  case sub => exact (by simpa [binOp] using floatArith_run (Or.inr (Or.inl rfl)) h ha hb)
  case mul => exact (by simpa [binOp] using floatArith_run (Or.inr (Or.inr (Or.inl rfl))) h ha hb)
  case quo => exact (by simpa [binOp] using floatArith_run (Or.inr (Or.inr (Or.inr rfl))) h ha hb)
  case eql => simp only [fltBinF, Option.some.injEq] at h; subst h; simp only [binOp, ne_eq, not_true, if_false]; rw [hcmp _ rfl]; exact Draws.pure RV_bool
  case neq => simp only [fltBinF, Option.some.injEq] at h; subst h; simp only [binOp, ne_eq, not_true, if_false]; rw [hcmp _ rfl]; exact Draws.pure RV_bool
  case lss => simp only [fltBinF, Option.some.injEq] at h; subst h; simp only [binOp, ne_eq, not_true, if_false]; rw [hcmp _ rfl]; exact Draws.pure RV_bool
  case leq => simp only [fltBinF, Option.some.injEq] at h; subst h; simp only [binOp, ne_eq, not_true, if_false]; rw [hcmp _ rfl]; exact Draws.pure RV_bool
  case gtr => simp only [fltBinF, Option.some.injEq] at h; subst h; simp only [binOp, ne_eq, not_true, if_false]; rw [hcmp _ rfl]; exact Draws.pure RV_bool
  case geq => simp only [fltBinF, Option.some.injEq] at h; subst h; simp only [binOp, ne_eq, not_true, if_false]; rw [hcmp _ rfl]; exact Draws.pure RV_bool
  all_goals simp [fltBinF] at h
/-- The parts of a complex number. -/
theorem arith_part {op : BinOp} {n : Nat} (hop : op = .add ∨ op = .sub ∨ op = .mul ∨ op = .quo) (h : fltBinF op k a b = some (aF k n)) (ha : simF k a a') (hb : simF k b b') : ∃ n' w', (Op.Complex.arith op k a' b').run P w = .ok n' w' ∧ simF k n n' ∧ Below w.heap.size w w' ∧ w.drawn ≤ w'.drawn := by
  obtain ⟨v', w', h1, ⟨n', rfl, h2⟩, h3, h4⟩ := floatArith_run (P := P) (w := w) hop h ha hb
  exact ⟨n', w', by unfold Op.Complex.arith; rw [Sem.run_bind, h1]; rfl, h2, h3, h4⟩
theorem cmp_part (ha : simF k a a') (hb : simF k b b') : (Op.Complex.cmp .eql k a' b').run P w = .ok (feq k a b) w := by
  unfold Op.Complex.cmp
  rw [floatCmp_run (q := feq k a b) rfl ha hb]
  rfl
theorem binOpC_run {op : BinOp} {t : TypeId} {v : Value} {c d c' d' : Nat} (h : fltBinC op k a b c d = some v) (ha : simF k a a') (hb : simF k b b') (hc : simF k c c') (hd : simF k d d') : Draws P (binOp op t (.complex k a' b') (.complex k c' d')) w v := by
  cases op
  case add =>
    simp only [fltBinC, Option.some.injEq] at h
    subst h
    simp only [binOp, ne_eq, not_true, if_false, Op.complexOp]
    obtain ⟨n1, w1, g1, g2, g3, g4⟩ := arith_part (P := P) (w := w) (Or.inl rfl) (by rfl) ha hc
    obtain ⟨n2, w2, k1, k2, k3, k4⟩ := arith_part (P := P) (w := w1) (Or.inl rfl) (by rfl) hb hd
    exact ⟨.complex k n1 n2, w2, by simp only [Sem.run_bind, g1, Result.andThen_ok, k1, Sem.run_pure], ⟨n1, n2, rfl, g2, k2⟩, g3.trans (k3.mono g3.size), Nat.le_trans g4 k4⟩
  case sub =>
    simp only [fltBinC, Option.some.injEq] at h
    subst h
    simp only [binOp, ne_eq, not_true, if_false, Op.complexOp]
    obtain ⟨n1, w1, g1, g2, g3, g4⟩ := arith_part (P := P) (w := w) (Or.inr (Or.inl rfl)) (by rfl) ha hc
    obtain ⟨n2, w2, k1, k2, k3, k4⟩ := arith_part (P := P) (w := w1) (Or.inr (Or.inl rfl)) (by rfl) hb hd
    exact ⟨.complex k n1 n2, w2, by simp only [Sem.run_bind, g1, Result.andThen_ok, k1, Sem.run_pure], ⟨n1, n2, rfl, g2, k2⟩, g3.trans (k3.mono g3.size), Nat.le_trans g4 k4⟩
  case eql =>
    simp only [fltBinC, Option.some.injEq] at h
    subst h
    refine ⟨_, w, ?_, RV_bool, Below.refl _ _, Nat.le_refl _⟩
    simp only [binOp, ne_eq, not_true, if_false, Op.complexOp, Sem.run_bind, cmp_part ha hc, Result.andThen_ok]
    cases feq k a c <;> simp [cmp_part hb hd]
  case neq =>
    simp only [fltBinC, Option.some.injEq] at h
    subst h
    refine ⟨_, w, ?_, RV_bool, Below.refl _ _, Nat.le_refl _⟩
    simp only [binOp, ne_eq, not_true, if_false, Op.complexOp, Sem.run_bind, cmp_part ha hc, Result.andThen_ok]
    cases feq k a c <;> simp [cmp_part hb hd]
  all_goals simp [fltBinC] at h
theorem max_run (ha : simF k a a') (hb : simF k b b') : Draws P (Builtin.max2 (.float k a') (.float k b')) w (aF k (fmax k a b)) := by
  unfold Builtin.max2 fmax
  have ho := order_sim ha hb
  simp only
  rw [ho]
  rcases ha with rfl | ⟨h1, h2⟩
  · rcases hb with rfl | ⟨h1, h2⟩
    · cases hq : k.format.order a' b' with
      | none => exact Draws.nan _ rfl (Or.inr (Or.inr ⟨_, _, _, rfl⟩)) (qn_nan k)
      | some o =>
        cases o with
        | lt => exact Draws.pure ⟨b', rfl, simF.refl _ _⟩
        | gt => exact Draws.pure ⟨a', rfl, simF.refl _ _⟩
        | eq =>
          simp only [fmaxO]
          cases (k.decode a').neg with
          | true => exact Draws.pure ⟨b', rfl, simF.refl _ _⟩
          | false => exact Draws.pure ⟨a', rfl, simF.refl _ _⟩
    · rw [order_nr _ _ h1]
      exact Draws.nan _ rfl (Or.inr (Or.inr ⟨_, _, _, rfl⟩)) (qn_nan k)
  · rw [order_nl _ _ h1]
    exact Draws.nan _ rfl (Or.inr (Or.inr ⟨_, _, _, rfl⟩)) (qn_nan k)
theorem min_run (ha : simF k a a') (hb : simF k b b') : Draws P (Builtin.min2 (.float k a') (.float k b')) w (aF k (fmin k a b)) := by
  unfold Builtin.min2 fmin
  have ho := order_sim ha hb
  simp only
  rw [ho]
  rcases ha with rfl | ⟨h1, h2⟩
  · rcases hb with rfl | ⟨h1, h2⟩
    · cases hq : k.format.order a' b' with
      | none => exact Draws.nan _ rfl (Or.inr (Or.inr ⟨_, _, _, rfl⟩)) (qn_nan k)
      | some o =>
        cases o with
        | lt => exact Draws.pure ⟨a', rfl, simF.refl _ _⟩
        | gt => exact Draws.pure ⟨b', rfl, simF.refl _ _⟩
        | eq =>
          simp only [fminO]
          cases (k.decode a').neg with
          | true => exact Draws.pure ⟨a', rfl, simF.refl _ _⟩
          | false => exact Draws.pure ⟨b', rfl, simF.refl _ _⟩
    · rw [order_nr _ _ h1]
      exact Draws.nan _ rfl (Or.inr (Or.inr ⟨_, _, _, rfl⟩)) (qn_nan k)
  · rw [order_nl _ _ h1]
    exact Draws.nan _ rfl (Or.inr (Or.inr ⟨_, _, _, rfl⟩)) (qn_nan k)
theorem conv_run {s d : FloatKind} (hn : ovf s d a = false) (ha : simF s a a') : Draws P (Conv.floatToFloat s a' d) w (aF d (fcv s d a)) := by
  unfold Conv.floatToFloat
  by_cases hsd : s = d
  · subst hsd
    rw [if_pos rfl]
    have hk : kEq s s = true := by cases s <;> rfl
    refine Draws.pure ⟨a', rfl, ?_⟩
    unfold fcv
    rw [hk]
    exact ha
  · rw [if_neg hsd]
    have hk : kEq s d = false := by cases hq : kEq s d with | false => rfl | true => exact absurd (kEq_eq hq) hsd
    unfold ovf at hn
    rw [hk] at hn
    simp only at hn
    unfold fcv
    rw [hk]
    simp only
    rcases ha with rfl | ⟨h1, h2⟩
    · cases hq : s.decode a' with
      | nan u t => exact Draws.nan _ rfl (Or.inr (Or.inl ⟨_, rfl⟩)) (qn_nan d)
      | infinity u => exact Draws.pure ⟨_, rfl, simF.refl _ _⟩
      | number u m e =>
        rw [hq] at hn
        simp only [ovfD] at hn
        simp only [hn]
        exact Draws.pure ⟨_, rfl, simF.refl _ _⟩
    · obtain ⟨s1, t1, e1⟩ := nan_read h1
      obtain ⟨s2, t2, e2⟩ := nan_read h2
      have e1' : s.decode a = .nan s1 t1 := e1
      have e2' : s.decode a' = .nan s2 t2 := e2
      rw [e1', e2']
      exact Draws.nan _ rfl (Or.inr (Or.inl ⟨_, rfl⟩)) (qn_nan d)
theorem sqrt_run (ha : simF .f64 a a') : Draws P (Extern.MathSqrt.sqrt #[.float .f64 a']) w (aF .f64 (fsqrt a)) := by
  have key : Extern.MathSqrt.sqrt #[.float .f64 a'] = (match FloatKind.f64.format.sqrt a' with
    | some r => (Pure.pure (.float .f64 r) : Sem Value)
    | none => do Pure.pure (.float .f64 (← choose (.nanBits .f64 a' a')))) := rfl
  rw [key]
  unfold fsqrt
  rw [← sqrt_sim ha]
  cases FloatKind.f64.format.sqrt a' with
  | some r => exact Draws.pure ⟨r, rfl, simF.refl _ _⟩
  | none => exact Draws.nan _ rfl (Or.inl ⟨_, _, rfl⟩) (qn_nan .f64)
end
end Go.Proofs.Ytokdjjdmmahbiaa.Vx
