/-
  More of cplx and its reference. Nothing here is trusted.
-/
import Derived.Test.YtokdjjdmmahbiaaTCx8
import Derived.Test.YtokdjjdmmahbiaaTCx3
namespace Go.Proofs.Ytokdjjdmmahbiaa
open Go Vx Go.RowKit
theorem exVs_sem {C : Cx} (hC : CxOk C) {n : Nat} {f : FuncId} {fn : Func} {args : List Value} {v : Value} (hf : C.P.funcs[f]? = some fn) (hok : (fn.name == "runtime.NumGoroutine") = false) (h : (exV (C.at f) n fn args).map soft = some v) : ∃ m', MemSem C.P f args [] v m' := by
  rw [Option.map_eq_some_iff] at h
  obtain ⟨u, h1, rfl⟩ := h
  obtain ⟨m', hs⟩ := exV_sem hC hf hok h1
  exact ⟨m', exc hs⟩
theorem isNaN_sim {a a' : Nat} (h : simF .f64 a a') : isNaNb .f64 a' = isNaNb .f64 a := by
  rcases h with rfl | ⟨h1, h2⟩
  · rfl
  · rw [h1, h2]
theorem x127_run (a : Nat) : exV ((CCf Try.prog).at 127) 40 Try.f127 [.float .f64 a] = some (.bool (decide ((a : Int).tmod 9223372036854775808 > 9218868437227405312))) := by kernel_rfl
def Qc127 : List FD → Option (Ans Value)
  | [.n .f64 a] => some (.out (.bool (isNaNb .f64 a)))
  | _ => none
def Cc127 (P : Program) : Cx := (CCf P).addQ 127 Qc127
theorem okc127 : CxOk (Cc127 Try.prog) := Cx.addQ_ok okCf fun ds an v h hr => by
  unfold Qc127 at h
  split at h
  · rename_i a
    simp only [Option.some.injEq] at h
    subst h
    simp only [Ans.res, Option.some.injEq] at hr
    subst hr
    refine ⟨[], exact_sem (okFunc_spec (by kernel_rfl)) rfl fun r xs hxs => ?_⟩
    match xs, hxs with
    | [x], hxs =>
      obtain ⟨a', rfl, ha⟩ := R_fl (k := .f64) (b := a) hxs.1 rfl
      refine ⟨fun x hx => ?_, ?_⟩
      · simp only [List.mem_cons, List.not_mem_nil, or_false] at hx
        subst hx
        rfl
      · have e := x127_run a'
        rw [rung_dec, isNaN_sim ha] at e
        exact exV_sem okCf Try.func127 (okFunc_name (by kernel_rfl) Try.func127) e
  · cases h
/-- The magnitude of two sizes. -/
def absV (x y : Nat) : Nat := match fgt .f64 (fabs x) 9218868437227405311 with
  | true => 9218868437227405312
  | false => match fgt .f64 (fabs y) 9218868437227405311 with
    | true => 9218868437227405312
    | false => match !feq .f64 x x with
      | true => 9221120237041090561
      | false => match !feq .f64 y y with
        | true => 9221120237041090561
        | false => match feq .f64 (fmax .f64 x y) 0 with
          | true => 0
          | false => fmul .f64 (fmax .f64 x y) (fsqrt (fadd .f64 4607182418800017408 (fmul .f64 (fdiv .f64 (fmin .f64 x y) (fmax .f64 x y)) (fdiv .f64 (fmin .f64 x y) (fmax .f64 x y)))))
theorem qc134_run (a b : Nat) : exV ((Cc127 Try.prog).at 134) 40 Try.f134 [aF .f64 a, aF .f64 b] = (match feq .f64 a b with | true => some (.bool true) | false => match isNaNb .f64 a with | true => some (.bool (isNaNb .f64 b)) | false => some (.bool false)) := by kernel_rfl
def Qc134 : List FD → Option (Ans Value)
  | [.n .f64 a, .n .f64 b] => some (.out (.bool (eqN a b)))
  | _ => none
def Cc134 (P : Program) : Cx := (Cc127 P).addQ 134 Qc134
theorem qc134_eq (a b : Nat) : (match feq .f64 a b with | true => some (.bool true) | false => match isNaNb .f64 a with | true => some (.bool (isNaNb .f64 b)) | false => some (.bool false)) = ((.out (.bool (eqN a b)) : Ans Value)).res := by unfold eqN; cases feq .f64 a b <;> cases isNaNb .f64 a <;> rfl
theorem okc134 : CxOk (Cc134 Try.prog) := Cx.addQ_ok okc127 fun ds an v h hr => by
  unfold Qc134 at h
  split at h
  · rename_i a b
    simp only [Option.some.injEq] at h
    subst h
    exact exV_sem okc127 Try.func134 (okFunc_name (by kernel_rfl) Try.func134) ((qc134_run a b).trans ((qc134_eq a b).trans hr))
  · cases h
theorem qc84_run (a b c d : Nat) : exV ((Cc134 Try.prog).at 84) 40 Try.f84 [aC .f64 a b, aC .f64 c d] = (match eqN a c with | true => some (.bool (eqN b d)) | false => some (.bool false)) := by kernel_rfl
def Qc84 : List FD → Option (Ans Value)
  | [.c .f64 a b, .c .f64 c d] => some (.out (.bool (eqN a c && eqN b d)))
  | _ => none
def Cc84 (P : Program) : Cx := (Cc134 P).addQ 84 Qc84
theorem qc84_eq (a b c d : Nat) : (match eqN a c with | true => some (.bool (eqN b d)) | false => some (.bool false)) = ((.out (.bool (eqN a c && eqN b d)) : Ans Value)).res := by cases eqN a c <;> rfl
theorem okc84 : CxOk (Cc84 Try.prog) := Cx.addQ_ok okc134 fun ds an v h hr => by
  unfold Qc84 at h
  split at h
  · rename_i a b c d
    simp only [Option.some.injEq] at h
    subst h
    exact exV_sem okc134 Try.func84 (okFunc_name (by kernel_rfl) Try.func84) ((qc84_run a b c d).trans ((qc84_eq a b c d).trans hr))
  · cases h
theorem qc64_run (a b : Nat) : exV ((Cc84 Try.prog).at 64) 40 Try.f64 [aC .f64 a b] = some (aC .f64 a (fneg .f64 b)) := by kernel_rfl
def Qc64 : List FD → Option (Ans Value)
  | [.c .f64 a b] => some (.out (aC .f64 a (fneg .f64 b)))
  | _ => none
def Cc64 (P : Program) : Cx := (Cc84 P).addQ 64 Qc64
theorem qc64_eq (a b : Nat) : some (aC .f64 a (fneg .f64 b)) = ((.out (aC .f64 a (fneg .f64 b)) : Ans Value)).res := by rfl
theorem okc64 : CxOk (Cc64 Try.prog) := Cx.addQ_ok okc84 fun ds an v h hr => by
  unfold Qc64 at h
  split at h
  · rename_i a b
    simp only [Option.some.injEq] at h
    subst h
    exact exV_sem okc84 Try.func64 (okFunc_name (by kernel_rfl) Try.func64) ((qc64_run a b).trans ((qc64_eq a b).trans hr))
  · cases h
theorem qc67_run (a b : Nat) : exV ((Cc64 Try.prog).at 67) 40 Try.f67 [aC .f64 a b] = some (aF .f64 (fadd .f64 (fmul .f64 a a) (fmul .f64 b b))) := by kernel_rfl
def Qc67 : List FD → Option (Ans Value)
  | [.c .f64 a b] => some (.out (aF .f64 (fadd .f64 (fmul .f64 a a) (fmul .f64 b b))))
  | _ => none
def Cc67 (P : Program) : Cx := (Cc64 P).addQ 67 Qc67
theorem qc67_eq (a b : Nat) : some (aF .f64 (fadd .f64 (fmul .f64 a a) (fmul .f64 b b))) = ((.out (aF .f64 (fadd .f64 (fmul .f64 a a) (fmul .f64 b b))) : Ans Value)).res := by rfl
theorem okc67 : CxOk (Cc67 Try.prog) := Cx.addQ_ok okc64 fun ds an v h hr => by
  unfold Qc67 at h
  split at h
  · rename_i a b
    simp only [Option.some.injEq] at h
    subst h
    exact exV_sem okc64 Try.func67 (okFunc_name (by kernel_rfl) Try.func67) ((qc67_run a b).trans ((qc67_eq a b).trans hr))
  · cases h
theorem qc69_run (a b : Nat) : exV ((Cc67 Try.prog).at 69) 40 Try.f69 [aC .f64 a b] = (match fgt .f64 (fabs (fabs a)) 9218868437227405311 with
  | true => some (.float .f64 9218868437227405312)
  | false => match fgt .f64 (fabs (fabs b)) 9218868437227405311 with
    | true => some (.float .f64 9218868437227405312)
    | false => match !feq .f64 (fabs a) (fabs a) with
      | true => some (.float .f64 9221120237041090561)
      | false => match !feq .f64 (fabs b) (fabs b) with
        | true => some (.float .f64 9221120237041090561)
        | false => match feq .f64 (fmax .f64 (fabs a) (fabs b)) 0 with
          | true => some (.float .f64 0)
          | false => some (aF .f64 (fmul .f64 (fmax .f64 (fabs a) (fabs b)) (fsqrt (fadd .f64 4607182418800017408 (fmul .f64 (fdiv .f64 (fmin .f64 (fabs a) (fabs b)) (fmax .f64 (fabs a) (fabs b))) (fdiv .f64 (fmin .f64 (fabs a) (fabs b)) (fmax .f64 (fabs a) (fabs b))))))))) := by kernel_rfl
def Qc69 : List FD → Option (Ans Value)
  | [.c .f64 a b] => some (.out (aF .f64 (absV (fabs a) (fabs b))))
  | _ => none
def Cc69 (P : Program) : Cx := (Cc67 P).addQ 69 Qc69
theorem qc69_eq (a b : Nat) : ((match fgt .f64 (fabs (fabs a)) 9218868437227405311 with
  | true => some (.float .f64 9218868437227405312)
  | false => match fgt .f64 (fabs (fabs b)) 9218868437227405311 with
    | true => some (.float .f64 9218868437227405312)
    | false => match !feq .f64 (fabs a) (fabs a) with
      | true => some (.float .f64 9221120237041090561)
      | false => match !feq .f64 (fabs b) (fabs b) with
        | true => some (.float .f64 9221120237041090561)
        | false => match feq .f64 (fmax .f64 (fabs a) (fabs b)) 0 with
          | true => some (.float .f64 0)
          | false => some (aF .f64 (fmul .f64 (fmax .f64 (fabs a) (fabs b)) (fsqrt (fadd .f64 4607182418800017408 (fmul .f64 (fdiv .f64 (fmin .f64 (fabs a) (fabs b)) (fmax .f64 (fabs a) (fabs b))) (fdiv .f64 (fmin .f64 (fabs a) (fabs b)) (fmax .f64 (fabs a) (fabs b))))))))) : Option Value).map soft = ((.out (aF .f64 (absV (fabs a) (fabs b))) : Ans Value)).res := by
  unfold absV
  cases fgt .f64 (fabs (fabs a)) 9218868437227405311 with
  | true => rfl
  | false =>
    cases fgt .f64 (fabs (fabs b)) 9218868437227405311 with
    | true => rfl
    | false =>
      cases !feq .f64 (fabs a) (fabs a) with
      | true => rfl
      | false =>
        cases !feq .f64 (fabs b) (fabs b) with
        | true => rfl
        | false => cases feq .f64 (fmax .f64 (fabs a) (fabs b)) 0 <;> rfl
theorem okc69 : CxOk (Cc69 Try.prog) := Cx.addQ_ok okc67 fun ds an v h hr => by
  unfold Qc69 at h
  split at h
  · rename_i a b
    simp only [Option.some.injEq] at h
    subst h
    exact exVs_sem okc67 Try.func69 (okFunc_name (by kernel_rfl) Try.func69) ((congrArg (Option.map soft) (qc69_run a b)).trans ((qc69_eq a b).trans hr))
  · cases h
def CCm (P : Program) : Cx := ((Cc69 P).addM 82 smF).lend 82
theorem okCm : CxOk (CCm Try.prog) := Cx.lend_ok (Cx.addM_ok okc69 fun _ _ _ _ _ h hr => smF_ok h hr) _
end Go.Proofs.Ytokdjjdmmahbiaa
