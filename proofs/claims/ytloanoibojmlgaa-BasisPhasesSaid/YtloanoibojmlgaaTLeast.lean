/-
  The lesser of two errors. Nothing here is trusted.
-/
import Derived.Test.YtloanoibojmlgaaTVec
import Derived.Test.YtloanoibojmlgaaRowT
namespace Go.Proofs.Ytloanoibojmlgaa
open Go Vx
def leastM (a b : Int) : Mem := [.cells true 1 [.int .i64 a, .int .i64 b]]
def leastA : List Value := [.slice (some ⟨0, 0, none⟩) 2 1]
theorem eLeast (a b : Int) : (exFunA ((CC Try.prog).at 27) 60 Try.f27 leastA (leastM a b)).res = (match a == 0 with
    | true => some (vI b, leastM a b)
    | false => match b != 0 with
      | true => match decide (b < a) with
        | true => some (vI b, leastM a b)
        | false => some (vI a, leastM a b)
      | false => some (vI a, leastM a b)) := by kernel_rfl
theorem eLeast' (a b : Int) : (exFunA ((CC Try.prog).at 27) 60 Try.f27 leastA (leastM a b)).res = some (vI (leastN a b), leastM a b) := by
  rw [eLeast]
  unfold leastN
  cases a == 0 <;> cases b != 0 <;> cases decide (b < a) <;> rfl
def leastS : List Value → Mem → Option (Ans (Value × Mem))
  | [.slice (some ⟨0, 0, none⟩) 2 1], [.cells true 1 [.int .i64 a, .int .i64 b]] => some (.out (vI (leastN a b), leastM a b))
  | _, _ => none
def CL (P : Program) : Cx := (CC P).addF 27 leastS
theorem okL : CxOk (CL Try.prog) := Cx.addF_ok okC fun args m ans v m' h hr => by
  unfold leastS at h
  split at h
  · rename_i a b
    simp only [Option.some.injEq] at h
    subst h
    simp only [Ans.res, Option.some.injEq, Prod.mk.injEq] at hr
    obtain ⟨rfl, rfl⟩ := hr
    exact exFunA_ok (n := 60) okC Try.func27 (by kernel_rfl) (eLeast' a b)
  · cases h
theorem eLeastR (a b : Int) : (exFunA ((CL Try.prog).at 30) 60 Try.f30 leastA (leastM a b)).res = (match a != 0 with
    | true => match b != 0 with
      | true => match a == 0 with
        | true => some (vI b, leastM a b)
        | false => match decide (b < a) with
          | true => some (vI b, leastM a b)
          | false => some (vI a, leastM a b)
      | false => some (vI a, leastM a b)
    | false => match b != 0 with
      | true => some (vI b, leastM a b)
      | false => some (vI 0, leastM a b)) := by kernel_rfl
theorem eLeastR' (a b : Int) : (exFunA ((CL Try.prog).at 30) 60 Try.f30 leastA (leastM a b)).res = some (vI (leastN a b), leastM a b) := by
  rw [eLeastR]
  unfold leastN
  by_cases ha : a = 0
  · subst ha
    by_cases hb : b = 0
    · subst hb; rfl
    · rw [(bif_beq hb).2]; rfl
  · rw [(bif_beq ha).1, (bif_beq ha).2]
    cases b != 0 <;> cases decide (b < a) <;> rfl
def CLr (P : Program) : Cx := (CL P).addF 30 leastS
theorem okLr : CxOk (CLr Try.prog) := Cx.addF_ok okL fun args m ans v m' h hr => by
  unfold leastS at h
  split at h
  · rename_i a b
    simp only [Option.some.injEq] at h
    subst h
    simp only [Ans.res, Option.some.injEq, Prod.mk.injEq] at hr
    obtain ⟨rfl, rfl⟩ := hr
    exact exFunA_ok (n := 60) okL Try.func30 (by kernel_rfl) (eLeastR' a b)
  · cases h
end Go.Proofs.Ytloanoibojmlgaa
