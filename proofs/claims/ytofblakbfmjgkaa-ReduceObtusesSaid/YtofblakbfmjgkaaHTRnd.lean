/-
  The functions that the statements of this seat call, one by one: called as told, whatever the world. Nothing here is trusted.
-/
import Derived.Test.YtofblakbfmjgkaaHTDob
import Derived.Test.YtofblakbfmjgkaaHShoW
namespace Go.Proofs.Ytofblakbfmjgkaa
open Go Vx

def Crn0 (P : Program) : Cx := CCob P
theorem okrn0 : CxOk (Crn0 Try.prog) := okCob
/-- facetref12.round -/
theorem ern1 (a b : Int) : exFun ((Crn0 Try.prog).at 98) 60 Try.f98 (pack [none, none] [a, b]) = tRnd a b := by kernel_rfl
def Frn_98 : List Int → Option (Bool × Value)
  | [a, b] => some (rdB a b, vI (rnd a b))
  | _ => none
def Crn1 (P : Program) : Cx := (Crn0 P).addD 98 [none, none] Frn_98
theorem okrn1 : CxOk (Crn1 Try.prog) := Cx.addD_ok okrn0 (n := 60) Try.func98 (by kernel_rfl) fun l v hl h => by
  match l, hl, h with
  | [a, b], _, hh => simp only [Frn_98, Option.some.injEq, Prod.mk.injEq] at hh; rw [ern1, tRnd_eq hh.1, hh.2]

def CCrn (P : Program) : Cx := Crn1 P
theorem okCrn : CxOk (CCrn Try.prog) := okrn1

end Go.Proofs.Ytofblakbfmjgkaa
