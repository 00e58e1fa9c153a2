/-
  The functions that the statements of this seat call, one by one: called as told, whatever the world. Nothing here is trusted.
-/
import Derived.Test.YtofblakbfmjgkaaHTStp
namespace Go.Proofs.Ytofblakbfmjgkaa
open Go Vx

def Cu0 (P : Program) : Cx := CCt P
theorem oku0 : CxOk (Cu0 Try.prog) := okCt
/-- facetref12.DocStep -/
theorem eu1 (a0 a1 a2 a3 a4 a5 : Int) : exFun ((Cu0 Try.prog).at 38) 100 Try.f38 (pack [some 6] [a0, a1, a2, a3, a4, a5]) = tDocStep ⟨a0, a1, a2, a3, a4, a5⟩ := by kernel_rfl
def Fu_38 : List Int → Option Value
  | [a0, a1, a2, a3, a4, a5] => some (fRStep ⟨a0, a1, a2, a3, a4, a5⟩)
  | _ => none
def Cu1 (P : Program) : Cx := (Cu0 P).add 38 [some 6] Fu_38
theorem oku1 : CxOk (Cu1 Try.prog) := Cx.add_ok oku0 (n := 100) Try.func38 (by kernel_rfl) fun l v hl h => by
  match l, hl, h with
  | [a0, a1, a2, a3, a4, a5], _, hh => rw [eu1, tDocStep_eq]; exact hh

def CCu (P : Program) : Cx := Cu1 P
theorem okCu : CxOk (CCu Try.prog) := oku1

end Go.Proofs.Ytofblakbfmjgkaa
