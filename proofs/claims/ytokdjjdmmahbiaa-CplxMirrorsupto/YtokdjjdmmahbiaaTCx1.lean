/-
  cplx and its reference: what the small functions answer. Nothing here is trusted.
-/
import Derived.Test.YtokdjjdmmahbiaaVyQ
import Derived.Test.YtokdjjdmmahbiaaRows
namespace Go.Proofs.Ytokdjjdmmahbiaa
open Go Vx

/-- Two floats are the same: their bits are, or both are NaNs. -/
def sameN (a b : Nat) : Bool := a == b || (isNaNb .f64 a && isNaNb .f64 b)
theorem sameN_sim {a a' b b' : Nat} (ha : simF .f64 a a') (hb : simF .f64 b b') : sameN a' b' = sameN a b := by
  unfold sameN
  rcases ha with rfl | ⟨h1, h2⟩
  · rcases hb with rfl | ⟨h3, h4⟩
    · rfl
    · cases h5 : isNaNb .f64 a' with
      | true => simp [h3, h4]
      | false =>
        have e1 : (a' == b) = false := by rw [beq_eq_false_iff_ne]; rintro rfl; rw [h3] at h5; cases h5
        have e2 : (a' == b') = false := by rw [beq_eq_false_iff_ne]; rintro rfl; rw [h4] at h5; cases h5
        simp [e1, e2]
  · rcases hb with rfl | ⟨h3, h4⟩
    · cases h5 : isNaNb .f64 b' with
      | true => simp [h1, h2]
      | false =>
        have e1 : (a == b') = false := by rw [beq_eq_false_iff_ne]; rintro rfl; rw [h1] at h5; cases h5
        have e2 : (a' == b') = false := by rw [beq_eq_false_iff_ne]; rintro rfl; rw [h2] at h5; cases h5
        simp [e1, e2]
    · simp [h1, h2, h3, h4]
theorem sameN_refl (a : Nat) : sameN a a = true := by simp [sameN]
theorem feq_self (a : Nat) : feq .f64 a a = !isNaNb .f64 a := by
  unfold feq isNaNb FloatKind.decode Ieee.Format.order
  cases h : FloatKind.f64.format.read a with
  | number s m e => simp [Ieee.Datum.order, Ieee.Datum.isNaN, compare, compareOfLessAndEq]
  | infinity s => simp [Ieee.Datum.order, Ieee.Datum.isNaN, compare, compareOfLessAndEq]
  | nan s t => rfl
theorem rung_dec (a : Nat) : decide ((a : Int).tmod 9223372036854775808 > 9218868437227405312) = isNaNb .f64 a := by
  have e1 : FloatKind.f64.format.infRung = 9218868437227405312 := by decide
  have e2 : FloatKind.f64.format.signWeight = 9223372036854775808 := by decide
  have e3 : (a : Int).tmod 9223372036854775808 = ((a % 9223372036854775808 : Nat) : Int) := by
    rw [Int.tmod_eq_emod_of_nonneg (by omega)]; rfl
  rw [e3]
  cases h : isNaNb .f64 a with
  | true =>
    have := rung_isNaN h
    rw [e1, e2] at this
    exact decide_eq_true (by omega)
  | false =>
    refine decide_eq_false fun hc => ?_
    have : isNaNb .f64 a = true := isNaN_rung (by rw [e1, e2]; omega)
    rw [h] at this; cases this
theorem ieq (a b : Nat) : ((a : Int) == (b : Int)) = (a == b) := by
  rw [Bool.eq_iff_iff, beq_iff_eq, beq_iff_eq]; omega

def inlinedc : List Nat := [20, 21, 22, 23, 24, 25, 27, 28, 29, 30, 31, 32, 33, 34, 35, 36, 37, 38, 39, 40, 41, 42, 43, 44, 45, 46, 47, 57, 58, 59, 60, 61, 62, 63, 64, 65, 66, 67, 68, 69, 70, 71, 72, 73, 74, 75, 76, 77, 78, 79, 80, 82, 83, 84, 85, 86, 87, 88, 89, 90, 92, 93, 94, 95, 96, 97, 98, 99, 100, 101, 102, 103, 104, 105, 106, 107, 108, 109, 110, 111, 112, 114, 116, 118, 119, 120, 121, 122, 123, 124, 125, 127, 128, 129, 130, 131, 132, 133, 134, 135, 136, 137, 139, 140, 141, 143, 147]
def Ccb (P : Program) : Cx := base P inlinedc
theorem okcb : CxOk (Ccb Try.prog) := base_ok (by kernel_rfl) (by kernel_rfl)
def Ccx56 (P : Program) : Cx := (Ccb P).addX 56 4
theorem okcx56 : CxOk (Ccx56 Try.prog) := Cx.addX_ok okcb Try.func56 (by kernel_rfl) (by kernel_rfl) (by kernel_rfl) (by kernel_rfl)
def Ccx91 (P : Program) : Cx := (Ccx56 P).addX 91 2
theorem okcx91 : CxOk (Ccx91 Try.prog) := Cx.addX_ok okcx56 Try.func91 (by kernel_rfl) (by kernel_rfl) (by kernel_rfl) (by kernel_rfl)
def Ccx126 (P : Program) : Cx := (Ccx91 P).addX 126 1
theorem okcx126 : CxOk (Ccx126 Try.prog) := Cx.addX_ok okcx91 Try.func126 (by kernel_rfl) (by kernel_rfl) (by kernel_rfl) (by kernel_rfl)
def Ccx138 (P : Program) : Cx := (Ccx126 P).addX 138 6
theorem okcx138 : CxOk (Ccx138 Try.prog) := Cx.addX_ok okcx126 Try.func138 (by kernel_rfl) (by kernel_rfl) (by kernel_rfl) (by kernel_rfl)
def Ccx145 (P : Program) : Cx := (Ccx138 P).addX 145 5
theorem okcx145 : CxOk (Ccx145 Try.prog) := Cx.addX_ok okcx138 Try.func145 (by kernel_rfl) (by kernel_rfl) (by kernel_rfl) (by kernel_rfl)
def Ccx146 (P : Program) : Cx := (Ccx145 P).addX 146 3
theorem okcx146 : CxOk (Ccx146 Try.prog) := Cx.addX_ok okcx145 Try.func146 (by kernel_rfl) (by kernel_rfl) (by kernel_rfl) (by kernel_rfl)
def Ccx148 (P : Program) : Cx := (Ccx146 P).addX 148 7
theorem okcx148 : CxOk (Ccx148 Try.prog) := Cx.addX_ok okcx146 Try.func148 (by kernel_rfl) (by kernel_rfl) (by kernel_rfl) (by kernel_rfl)
theorem x133_run (a b : Nat) : exV ((Ccx148 Try.prog).at 133) 40 Try.f133 [.float .f64 a, .float .f64 b] = (match ((a : Int) == (b : Int)) with | true => some (.bool true) | false => match (!feq .f64 a a) with | true => some (.bool (!feq .f64 b b)) | false => some (.bool false)) := by kernel_rfl
theorem x133_val (a b : Nat) : exV ((Ccx148 Try.prog).at 133) 40 Try.f133 [.float .f64 a, .float .f64 b] = some (.bool (sameN a b)) := by
  rw [x133_run, ieq]
  unfold sameN
  simp only [feq_self, Bool.not_not]
  cases (a == b) <;> cases isNaNb .f64 a <;> rfl
def Qc133 : List FD → Option (Ans Value)
  | [.n .f64 a, .n .f64 b] => some (.out (.bool (sameN a b)))
  | _ => none
def Cc133 (P : Program) : Cx := (Ccx148 P).addQ 133 Qc133
theorem okc133 : CxOk (Cc133 Try.prog) := Cx.addQ_ok okcx148 fun ds an v h hr => by
  unfold Qc133 at h
  split at h
  · rename_i a b
    simp only [Option.some.injEq] at h
    subst h
    simp only [Ans.res, Option.some.injEq] at hr
    subst hr
    refine ⟨[], exact_sem (okFunc_spec (by kernel_rfl)) rfl fun r xs hxs => ?_⟩
    match xs, hxs with
    | [x, y], hxs =>
      obtain ⟨a', rfl, ha⟩ := R_fl (k := .f64) (b := a) hxs.1 rfl
      obtain ⟨b', rfl, hb⟩ := R_fl (k := .f64) (b := b) hxs.2.1 rfl
      refine ⟨fun x hx => ?_, ?_⟩
      · simp only [List.mem_cons, List.not_mem_nil, or_false] at hx
        rcases hx with rfl | rfl <;> rfl
      · have := exV_sem okcx148 Try.func133 (okFunc_name (by kernel_rfl) Try.func133) (x133_val a' b')
        rw [sameN_sim ha hb] at this
        exact this
  · cases h
theorem x66_run (a b : Nat) : exV ((Cc133 Try.prog).at 66) 40 Try.f66 [.float .f64 a, .float .f64 b] = (match ((a : Int) == (b : Int)) with | true => some (.bool true) | false => match decide ((a : Int).tmod 9223372036854775808 > 9218868437227405312) with | true => some (.bool (decide ((b : Int).tmod 9223372036854775808 > 9218868437227405312))) | false => some (.bool false)) := by kernel_rfl
theorem x66_val (a b : Nat) : exV ((Cc133 Try.prog).at 66) 40 Try.f66 [.float .f64 a, .float .f64 b] = some (.bool (sameN a b)) := by
  rw [x66_run, ieq]
  unfold sameN
  simp only [rung_dec]
  cases (a == b) <;> cases isNaNb .f64 a <;> rfl
def Qc66 : List FD → Option (Ans Value)
  | [.n .f64 a, .n .f64 b] => some (.out (.bool (sameN a b)))
  | _ => none
def Cc66 (P : Program) : Cx := (Cc133 P).addQ 66 Qc66
theorem okc66 : CxOk (Cc66 Try.prog) := Cx.addQ_ok okc133 fun ds an v h hr => by
  unfold Qc66 at h
  split at h
  · rename_i a b
    simp only [Option.some.injEq] at h
    subst h
    simp only [Ans.res, Option.some.injEq] at hr
    subst hr
    refine ⟨[], exact_sem (okFunc_spec (by kernel_rfl)) rfl fun r xs hxs => ?_⟩
    match xs, hxs with
    | [x, y], hxs =>
      obtain ⟨a', rfl, ha⟩ := R_fl (k := .f64) (b := a) hxs.1 rfl
      obtain ⟨b', rfl, hb⟩ := R_fl (k := .f64) (b := b) hxs.2.1 rfl
      refine ⟨fun x hx => ?_, ?_⟩
      · simp only [List.mem_cons, List.not_mem_nil, or_false] at hx
        rcases hx with rfl | rfl <;> rfl
      · have := exV_sem okc133 Try.func66 (okFunc_name (by kernel_rfl) Try.func66) (x66_val a' b')
        rw [sameN_sim ha hb] at this
        exact this
  · cases h
theorem qc76_run (a b c d : Nat) : exV ((Cc66 Try.prog).at 76) 40 Try.f76 [aC .f64 a b, aC .f64 c d] = (match sameN a c with | true => some (.bool (sameN b d)) | false => some (.bool false)) := by kernel_rfl
def Qc76 : List FD → Option (Ans Value)
  | [.c .f64 a b, .c .f64 c d] => some (.out (.bool (sameN a c && sameN b d)))
  | _ => none
def Cc76 (P : Program) : Cx := (Cc66 P).addQ 76 Qc76
theorem qc76_eq (a b c d : Nat) : (match sameN a c with | true => some (.bool (sameN b d)) | false => some (.bool false)) = ((.out (.bool (sameN a c && sameN b d)) : Ans Value)).res := by cases sameN a c <;> rfl
theorem okc76 : CxOk (Cc76 Try.prog) := Cx.addQ_ok okc66 fun ds an v h hr => by
  unfold Qc76 at h
  split at h
  · rename_i a b c d
    simp only [Option.some.injEq] at h
    subst h
    exact exV_sem okc66 Try.func76 (okFunc_name (by kernel_rfl) Try.func76) ((qc76_run a b c d).trans ((qc76_eq a b c d).trans hr))
  · cases h
theorem qc61_run (a b c d : Nat) : exV ((Cc76 Try.prog).at 61) 40 Try.f61 [aC .f64 a b, aC .f64 c d] = (match sameN a c with | true => some (.bool (sameN b d)) | false => some (.bool false)) := by kernel_rfl
def Qc61 : List FD → Option (Ans Value)
  | [.c .f64 a b, .c .f64 c d] => some (.out (.bool (sameN a c && sameN b d)))
  | _ => none
def Cc61 (P : Program) : Cx := (Cc76 P).addQ 61 Qc61
theorem qc61_eq (a b c d : Nat) : (match sameN a c with | true => some (.bool (sameN b d)) | false => some (.bool false)) = ((.out (.bool (sameN a c && sameN b d)) : Ans Value)).res := by cases sameN a c <;> rfl
theorem okc61 : CxOk (Cc61 Try.prog) := Cx.addQ_ok okc76 fun ds an v h hr => by
  unfold Qc61 at h
  split at h
  · rename_i a b c d
    simp only [Option.some.injEq] at h
    subst h
    exact exV_sem okc76 Try.func61 (okFunc_name (by kernel_rfl) Try.func61) ((qc61_run a b c d).trans ((qc61_eq a b c d).trans hr))
  · cases h
theorem qc79_run (a b c d : Nat) : exV ((Cc61 Try.prog).at 79) 40 Try.f79 [aC .f64 a b, aC .f64 c d] = some (aC .f64 (fsub .f64 (fmul .f64 a c) (fmul .f64 b d)) (fadd .f64 (fmul .f64 a d) (fmul .f64 b c))) := by kernel_rfl
def Qc79 : List FD → Option (Ans Value)
  | [.c .f64 a b, .c .f64 c d] => some (.out (aC .f64 (fsub .f64 (fmul .f64 a c) (fmul .f64 b d)) (fadd .f64 (fmul .f64 a d) (fmul .f64 b c))))
  | _ => none
def Cc79 (P : Program) : Cx := (Cc61 P).addQ 79 Qc79
theorem qc79_eq (a b c d : Nat) : some (aC .f64 (fsub .f64 (fmul .f64 a c) (fmul .f64 b d)) (fadd .f64 (fmul .f64 a d) (fmul .f64 b c))) = ((.out (aC .f64 (fsub .f64 (fmul .f64 a c) (fmul .f64 b d)) (fadd .f64 (fmul .f64 a d) (fmul .f64 b c))) : Ans Value)).res := by rfl
theorem okc79 : CxOk (Cc79 Try.prog) := Cx.addQ_ok okc61 fun ds an v h hr => by
  unfold Qc79 at h
  split at h
  · rename_i a b c d
    simp only [Option.some.injEq] at h
    subst h
    exact exV_sem okc61 Try.func79 (okFunc_name (by kernel_rfl) Try.func79) ((qc79_run a b c d).trans ((qc79_eq a b c d).trans hr))
  · cases h
theorem qc80_run (a b c d : Nat) : exV ((Cc79 Try.prog).at 80) 40 Try.f80 [aC .f64 a b, aC .f64 c d] = some (aC .f64 (fsub .f64 (fmul .f64 a c) (fmul .f64 b d)) (fadd .f64 (fmul .f64 a d) (fmul .f64 b c))) := by kernel_rfl
def Qc80 : List FD → Option (Ans Value)
  | [.c .f64 a b, .c .f64 c d] => some (.out (aC .f64 (fsub .f64 (fmul .f64 a c) (fmul .f64 b d)) (fadd .f64 (fmul .f64 a d) (fmul .f64 b c))))
  | _ => none
def Cc80 (P : Program) : Cx := (Cc79 P).addQ 80 Qc80
theorem qc80_eq (a b c d : Nat) : some (aC .f64 (fsub .f64 (fmul .f64 a c) (fmul .f64 b d)) (fadd .f64 (fmul .f64 a d) (fmul .f64 b c))) = ((.out (aC .f64 (fsub .f64 (fmul .f64 a c) (fmul .f64 b d)) (fadd .f64 (fmul .f64 a d) (fmul .f64 b c))) : Ans Value)).res := by rfl
theorem okc80 : CxOk (Cc80 Try.prog) := Cx.addQ_ok okc79 fun ds an v h hr => by
  unfold Qc80 at h
  split at h
  · rename_i a b c d
    simp only [Option.some.injEq] at h
    subst h
    exact exV_sem okc79 Try.func80 (okFunc_name (by kernel_rfl) Try.func80) ((qc80_run a b c d).trans ((qc80_eq a b c d).trans hr))
  · cases h
theorem qc77_run (a b c : Nat) : exV ((Cc80 Try.prog).at 77) 40 Try.f77 [aF .f64 a, aC .f64 b c] = some (aC .f64 (fmul .f64 a b) (fmul .f64 a c)) := by kernel_rfl
def Qc77 : List FD → Option (Ans Value)
  | [.n .f64 a, .c .f64 b c] => some (.out (aC .f64 (fmul .f64 a b) (fmul .f64 a c)))
  | _ => none
def Cc77 (P : Program) : Cx := (Cc80 P).addQ 77 Qc77
theorem qc77_eq (a b c : Nat) : some (aC .f64 (fmul .f64 a b) (fmul .f64 a c)) = ((.out (aC .f64 (fmul .f64 a b) (fmul .f64 a c)) : Ans Value)).res := by rfl
theorem okc77 : CxOk (Cc77 Try.prog) := Cx.addQ_ok okc80 fun ds an v h hr => by
  unfold Qc77 at h
  split at h
  · rename_i a b c
    simp only [Option.some.injEq] at h
    subst h
    exact exV_sem okc80 Try.func77 (okFunc_name (by kernel_rfl) Try.func77) ((qc77_run a b c).trans ((qc77_eq a b c).trans hr))
  · cases h
theorem qc78_run (a b c : Nat) : exV ((Cc77 Try.prog).at 78) 40 Try.f78 [aF .f64 a, aC .f64 b c] = some (aC .f64 (fmul .f64 a b) (fmul .f64 a c)) := by kernel_rfl
def Qc78 : List FD → Option (Ans Value)
  | [.n .f64 a, .c .f64 b c] => some (.out (aC .f64 (fmul .f64 a b) (fmul .f64 a c)))
  | _ => none
def Cc78 (P : Program) : Cx := (Cc77 P).addQ 78 Qc78
theorem qc78_eq (a b c : Nat) : some (aC .f64 (fmul .f64 a b) (fmul .f64 a c)) = ((.out (aC .f64 (fmul .f64 a b) (fmul .f64 a c)) : Ans Value)).res := by rfl
theorem okc78 : CxOk (Cc78 Try.prog) := Cx.addQ_ok okc77 fun ds an v h hr => by
  unfold Qc78 at h
  split at h
  · rename_i a b c
    simp only [Option.some.injEq] at h
    subst h
    exact exV_sem okc77 Try.func78 (okFunc_name (by kernel_rfl) Try.func78) ((qc78_run a b c).trans ((qc78_eq a b c).trans hr))
  · cases h
theorem x55_run (x y : Int) : exV ((Cc78 Try.prog).at 55) 40 Try.f55 [.agg #[.int .u64 x, .int .u64 y]] = some (aC .f64 x.toNat y.toNat) := by kernel_rfl
def Qc55 : List FD → Option (Ans Value)
  | [.v (.agg cs)] => match cs.toList with
    | [.int .u64 x, .int .u64 y] => some (.out (aC .f64 x.toNat y.toNat))
    | _ => none
  | _ => none
def Cc55 (P : Program) : Cx := (Cc78 P).addQ 55 Qc55
theorem okc55 : CxOk (Cc55 Try.prog) := Cx.addQ_ok okc78 fun ds an v h hr => by
  unfold Qc55 at h
  split at h
  · rename_i cs
    split at h
    · rename_i x y hcs
      simp only [Option.some.injEq] at h
      subst h
      have e : cs = #[.int .u64 x, .int .u64 y] := by apply Array.ext'; simpa using hcs
      subst e
      exact exV_sem okc78 Try.func55 (okFunc_name (by kernel_rfl) Try.func55) ((x55_run x y).trans hr)
    · cases h
  · cases h
theorem x54_run : exFun ((Cc55 Try.prog).at 54) 80 Try.f54 (pack [] []) = some (.bool true) := by kernel_rfl
def Fc54 : List Int → Option Value
  | [] => some (.bool true)
  | _ => none
def CCc (P : Program) : Cx := (Cc55 P).add 54 [] Fc54
theorem okCc : CxOk (CCc Try.prog) := Cx.add_ok okc55 (n := 80) Try.func54 (by kernel_rfl) fun l v hl h => by
  match l, hl, h with
  | [], _, hh => rw [x54_run]; exact hh
end Go.Proofs.Ytokdjjdmmahbiaa
