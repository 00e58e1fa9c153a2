/-
  One more function that is walked into. Nothing here is trusted.
-/
import Derived.Test.YtokdjjdmmahbiaaVyM
namespace Go.Proofs.Ytokdjjdmmahbiaa.Vx
open Go Go.RowKit
def Cx.addI (C : Cx) (f : FuncId) : Cx := { C with inl := fun g => match Nat.beq g f with
  | true => C.P.funcs[g]?
  | false => C.inl g }
theorem Cx.addI_ok {C : Cx} (hC : CxOk C) {f : FuncId} (hok : okFunc C.P f = true) : CxOk (C.addI f) := by
  refine ⟨hC.mixed, hC.tbl, hC.tbm, hC.keys, fun g fn hg => ?_, hC.lp, hC.rd, hC.rd2, hC.ext⟩
  simp only [Cx.addI] at hg
  cases hb : Nat.beq g f with
  | false => rw [hb] at hg; exact hC.inl g fn hg
  | true =>
    rw [hb] at hg
    have := Nat.eq_of_beq_eq_true hb
    subst this
    exact ⟨hg, okFunc_name hok hg⟩
end Go.Proofs.Ytokdjjdmmahbiaa.Vx
