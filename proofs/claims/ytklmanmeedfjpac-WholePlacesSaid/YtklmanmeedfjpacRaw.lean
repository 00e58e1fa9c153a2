/-
  A contract for a function whose arguments are not all plain numbers, and one proved by going through all bytes. Nothing here is trusted.
-/
import Derived.Test.YtklmanmeedfjpacVx9
namespace Go.Proofs.Ytklmanmeedfjpac.Vx
open Go

def Cx.addR (C : Cx) (f : FuncId) (F : List Value → Option (Bool × Value)) : Cx :=
  ⟨C.P, fun g args => match Nat.beq g f with
    | true => F args
    | false => C.tbl g args, C.inl⟩
theorem Cx.addR_ok {C : Cx} (hC : CxOk C) {n : Nat} {f : FuncId} {fn : Func} (hf : C.P.funcs[f]? = some fn) (hok : okFunc C.P f = true) {F : List Value → Option (Bool × Value)}
    (h : ∀ args v, F args = some (true, v) → exFun C n fn args = some v) : CxOk (C.addR f F) := by
  refine ⟨hC.mixed, ?_, hC.inl⟩
  intro g args v hargs hv
  simp only [Cx.addR] at hv
  cases hg : Nat.beq g f with
  | false => simp only [hg] at hv; exact hC.tbl g args v hargs hv
  | true =>
    have hgf : g = f := Nat.eq_of_beq_eq_true hg
    subst hgf
    simp only [hg] at hv
    cases hF : F args with
    | none => simp [hF] at hv
    | some dv =>
      obtain ⟨d, v'⟩ := dv
      cases d with
      | false => simp [hF] at hv
      | true =>
        simp only [hF, Option.some.injEq] at hv
        subst hv
        exact ⟨okFunc_spec hok, exFun_calls hC hf hargs (h args v' hF)⟩
/-- All numbers below a bound. -/
def allBelow (p : Nat → Bool) : Nat → Bool
  | 0 => true
  | n + 1 => match p n with
    | true => allBelow p n
    | false => false
theorem allBelow_spec {p : Nat → Bool} : ∀ {n : Nat}, allBelow p n = true → ∀ k, k < n → p k = true
  | 0, _, k, h => by omega
  | n + 1, h, k, hk => by
    unfold allBelow at h
    cases hp : p n with
    | false => rw [hp] at h; cases h
    | true =>
      rw [hp] at h
      by_cases e : k = n
      · rw [e]; exact hp
      · exact allBelow_spec h k (by omega)
def isI64 (x : Option Value) (v : Int) : Bool := match x with
  | some (.int .i64 a) => a == v
  | _ => false
theorem isI64_spec {x : Option Value} {v : Int} (h : isI64 x v = true) : x = some (.int .i64 v) := by
  unfold isI64 at h
  split at h
  · rw [beq_iff_eq] at h; rw [h]
  · cases h
end Go.Proofs.Ytklmanmeedfjpac.Vx
