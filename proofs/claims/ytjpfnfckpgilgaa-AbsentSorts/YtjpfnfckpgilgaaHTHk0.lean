/-
  The functions that the statements of this seat call, one by one: called as told, whatever the world. Nothing here is trusted.
-/
import Derived.Test.YtjpfnfckpgilgaaHTPj
import Derived.Test.YtjpfnfckpgilgaaHHklT
namespace Go.Proofs.Ytjpfnfckpgilgaa
open Go Vx

def Chk0 (P : Program) : Cx := Cat P
theorem okhk0 : CxOk (Chk0 Try.prog) := okat
/-- hkl.Compare -/
theorem ehk1 (a0 a1 a2 b0 b1 b2 : Int) : exFun ((Chk0 Try.prog).at 109) 60 Try.f109 (pack [some 3, some 3] [a0, a1, a2, b0, b1, b2]) = tHCmp ⟨a0, a1, a2⟩ ⟨b0, b1, b2⟩ := by kernel_rfl
def Fhk_109 : List Int → Option Value
  | [a0, a1, a2, b0, b1, b2] => some (fHCmp ⟨a0, a1, a2⟩ ⟨b0, b1, b2⟩)
  | _ => none
def Chk1 (P : Program) : Cx := (Chk0 P).add 109 [some 3, some 3] Fhk_109
theorem okhk1 : CxOk (Chk1 Try.prog) := Cx.add_ok okhk0 (n := 60) Try.func109 (by kernel_rfl) fun l v hl h => by
  match l, hl, h with
  | [a0, a1, a2, b0, b1, b2], _, hh => rw [ehk1, tHCmp_eq]; exact hh

def CChk (P : Program) : Cx := Chk1 P
theorem okChk : CxOk (CChk Try.prog) := okhk1

end Go.Proofs.Ytjpfnfckpgilgaa
