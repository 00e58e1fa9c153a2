/-
  The functions that the statements of this seat call, one by one: called as told, whatever the world. Nothing here is trusted.
-/
import Derived.Test.YtofblakbfmjgkaaKai
import Derived.Test.YtofblakbfmjgkaaHStpL
namespace Go.Proofs.Ytofblakbfmjgkaa
open Go Vx

def Cl0 (P : Program) : Cx := CCf P
theorem okl0 : CxOk (Cl0 Try.prog) := okCf
/-- facetref12.laid -/
theorem el1 (a0 a1 a2 a3 a4 a5 : Int) : exFun ((Cl0 Try.prog).at 94) 200 Try.f94 (pack [some 6] [a0, a1, a2, a3, a4, a5]) = tLaid ⟨a0, a1, a2, a3, a4, a5⟩ := by kernel_rfl
def Fl_94 : List Int → Option Value
  | [a0, a1, a2, a3, a4, a5] => some (fLaid ⟨a0, a1, a2, a3, a4, a5⟩)
  | _ => none
def Cl1 (P : Program) : Cx := (Cl0 P).add 94 [some 6] Fl_94
theorem okl1 : CxOk (Cl1 Try.prog) := Cx.add_ok okl0 (n := 200) Try.func94 (by kernel_rfl) fun l v hl h => by
  match l, hl, h with
  | [a0, a1, a2, a3, a4, a5], _, hh => rw [el1, tLaid_eq]; exact hh

def CCl (P : Program) : Cx := Cl1 P
theorem okCl : CxOk (CCl Try.prog) := okl1

end Go.Proofs.Ytofblakbfmjgkaa
