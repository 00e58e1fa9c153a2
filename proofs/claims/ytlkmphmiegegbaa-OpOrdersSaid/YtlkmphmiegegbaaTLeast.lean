/-
  errno.Least of two errors. Nothing here is trusted.
-/
import Derived.Test.YtlkmphmiegegbaaTVec
import Derived.Test.YtlkmphmiegegbaaRowT
namespace Go.Proofs.Ytlkmphmiegegbaa
open Go Vx
def leastM (a b : Int) : Mem := [.cells true 1 [.int .i64 a, .int .i64 b]]
def leastA : List Value := [.slice (some ⟨0, 0, none⟩) 2 1]
theorem eLeast (a b : Int) : (exFunA ((CC Try.prog).at 44) 60 Try.f44 leastA (leastM a b)).res = (match a == 0 with
    | true => some (vI b, leastM a b)
    | false => match b != 0 with
      | true => match decide (b < a) with
        | true => some (vI b, leastM a b)
        | false => some (vI a, leastM a b)
      | false => some (vI a, leastM a b)) := by kernel_rfl
theorem eLeast' (a b : Int) : (exFunA ((CC Try.prog).at 44) 60 Try.f44 leastA (leastM a b)).res = some (vI (leastN a b), leastM a b) := by
  rw [eLeast]
  unfold leastN
  cases a == 0 <;> cases b != 0 <;> cases decide (b < a) <;> rfl
def leastS : List Value → Mem → Option (Ans (Value × Mem))
  | [.slice (some ⟨0, 0, none⟩) 2 1], [.cells true 1 [.int .i64 a, .int .i64 b]] => some (.out (vI (leastN a b), leastM a b))
  | _, _ => none
def CL (P : Program) : Cx := (CC P).addF 44 leastS
theorem okL : CxOk (CL Try.prog) := Cx.addF_ok okC fun args m ans v m' h hr => by
  unfold leastS at h
  split at h
  · rename_i a b
    simp only [Option.some.injEq] at h
    subst h
    simp only [Ans.res, Option.some.injEq, Prod.mk.injEq] at hr
    obtain ⟨rfl, rfl⟩ := hr
    exact exFunA_ok (n := 60) okC Try.func44 (by kernel_rfl) (eLeast' a b)
  · cases h
end Go.Proofs.Ytlkmphmiegegbaa
