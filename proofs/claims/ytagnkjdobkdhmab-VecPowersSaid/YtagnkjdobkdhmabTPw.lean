/-
  The functions that the statements of this seat call, one by one: called as told, whatever the world. Nothing here is trusted.
-/
import Derived.Test.YtagnkjdobkdhmabTAw3
import Derived.Test.YtagnkjdobkdhmabPwT
namespace Go.Proofs.Ytagnkjdobkdhmab
open Go Vx

def Cv0 (P : Program) : Cx := CCw P
theorem okv0 : CxOk (Cv0 Try.prog) := okCw
/-- vec.Identity -/
theorem ev1 : exFun ((Cv0 Try.prog).at 24) 200 Try.f24 (pack [] []) = tIdent := by kernel_rfl
def Fv_24 : List Int → Option Value
  | [] => some (fIdent)
  | _ => none
def Cv1 (P : Program) : Cx := (Cv0 P).add 24 [] Fv_24
theorem okv1 : CxOk (Cv1 Try.prog) := Cx.add_ok okv0 (n := 200) Try.func24 (by kernel_rfl) fun l v hl h => by
  match l, hl, h with
  | [], _, hh => rw [ev1, tIdent_eq]; exact hh
/-- facetlaw01.awake -/
theorem ev2 : exFun ((Cv1 Try.prog).at 21) 200 Try.f21 (pack [] []) = tAwake := by kernel_rfl
def Fv_21 : List Int → Option Value
  | [] => some (fAwake)
  | _ => none
def Cv2 (P : Program) : Cx := (Cv1 P).add 21 [] Fv_21
theorem okv2 : CxOk (Cv2 Try.prog) := Cx.add_ok okv1 (n := 200) Try.func21 (by kernel_rfl) fun l v hl h => by
  match l, hl, h with
  | [], _, hh => rw [ev2, tAwake_eq]; exact hh

def CCv (P : Program) : Cx := Cv2 P
theorem okCv : CxOk (CCv Try.prog) := okv2

end Go.Proofs.Ytagnkjdobkdhmab
