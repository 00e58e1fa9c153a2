/-
  The functions that the statements of this seat call, one by one: called as told, whatever the world. Nothing here is trusted.
-/
import Derived.Test.YtagnkjdobkdhmabTCmp
import Derived.Test.YtagnkjdobkdhmabWmT
namespace Go.Proofs.Ytagnkjdobkdhmab
open Go Vx

def Cm0 (P : Program) : Cx := CCk P
theorem okm0 : CxOk (Cm0 Try.prog) := okCk
/-- vec.Identity -/
theorem em1 : exFun ((Cm0 Try.prog).at 24) 60 Try.f24 (pack [] []) = tIdent := by kernel_rfl
def Fm_24 : List Int → Option Value
  | [] => some (fIdent)
  | _ => none
def Cm1 (P : Program) : Cx := (Cm0 P).add 24 [] Fm_24
theorem okm1 : CxOk (Cm1 Try.prog) := Cx.add_ok okm0 (n := 60) Try.func24 (by kernel_rfl) fun l v hl h => by
  match l, hl, h with
  | [], _, hh => rw [em1, tIdent_eq]; exact hh
/-- vec.Adjugate -/
theorem em2 (a0 a1 a2 a3 a4 a5 a6 a7 a8 : Int) : exFun ((Cm1 Try.prog).at 31) 60 Try.f31 (pack [some 9] [a0, a1, a2, a3, a4, a5, a6, a7, a8]) = tAdjugate ⟨a0, a1, a2, a3, a4, a5, a6, a7, a8⟩ := by kernel_rfl
def Fm_31 : List Int → Option Value
  | [a0, a1, a2, a3, a4, a5, a6, a7, a8] => some (fAdjugate ⟨a0, a1, a2, a3, a4, a5, a6, a7, a8⟩)
  | _ => none
def Cm2 (P : Program) : Cx := (Cm1 P).add 31 [some 9] Fm_31
theorem okm2 : CxOk (Cm2 Try.prog) := Cx.add_ok okm1 (n := 60) Try.func31 (by kernel_rfl) fun l v hl h => by
  match l, hl, h with
  | [a0, a1, a2, a3, a4, a5, a6, a7, a8], _, hh => rw [em2, tAdjugate_eq]; exact hh
/-- vec.Transpose -/
theorem em3 (a0 a1 a2 a3 a4 a5 a6 a7 a8 : Int) : exFun ((Cm2 Try.prog).at 33) 60 Try.f33 (pack [some 9] [a0, a1, a2, a3, a4, a5, a6, a7, a8]) = tTranspose ⟨a0, a1, a2, a3, a4, a5, a6, a7, a8⟩ := by kernel_rfl
def Fm_33 : List Int → Option Value
  | [a0, a1, a2, a3, a4, a5, a6, a7, a8] => some (fTranspose ⟨a0, a1, a2, a3, a4, a5, a6, a7, a8⟩)
  | _ => none
def Cm3 (P : Program) : Cx := (Cm2 P).add 33 [some 9] Fm_33
theorem okm3 : CxOk (Cm3 Try.prog) := Cx.add_ok okm2 (n := 60) Try.func33 (by kernel_rfl) fun l v hl h => by
  match l, hl, h with
  | [a0, a1, a2, a3, a4, a5, a6, a7, a8], _, hh => rw [em3, tTranspose_eq]; exact hh
/-- vec.Left -/
theorem em4 (a0 a1 a2 b0 b1 b2 b3 b4 b5 b6 b7 b8 : Int) : exFun ((Cm3 Try.prog).at 32) 60 Try.f32 (pack [some 3, some 9] [a0, a1, a2, b0, b1, b2, b3, b4, b5, b6, b7, b8]) = tLeft ⟨a0, a1, a2⟩ ⟨b0, b1, b2, b3, b4, b5, b6, b7, b8⟩ := by kernel_rfl
def Fm_32 : List Int → Option Value
  | [a0, a1, a2, b0, b1, b2, b3, b4, b5, b6, b7, b8] => some (fLeft ⟨a0, a1, a2⟩ ⟨b0, b1, b2, b3, b4, b5, b6, b7, b8⟩)
  | _ => none
def Cm4 (P : Program) : Cx := (Cm3 P).add 32 [some 3, some 9] Fm_32
theorem okm4 : CxOk (Cm4 Try.prog) := Cx.add_ok okm3 (n := 60) Try.func32 (by kernel_rfl) fun l v hl h => by
  match l, hl, h with
  | [a0, a1, a2, b0, b1, b2, b3, b4, b5, b6, b7, b8], _, hh => rw [em4, tLeft_eq]; exact hh
/-- facettop.times -/
theorem em5 (a0 a1 a2 a3 a4 a5 a6 a7 a8 b0 b1 b2 b3 b4 b5 b6 b7 b8 : Int) : exFun ((Cm4 Try.prog).at 36) 60 Try.f36 (pack [some 9, some 9] [a0, a1, a2, a3, a4, a5, a6, a7, a8, b0, b1, b2, b3, b4, b5, b6, b7, b8]) = tTm ⟨a0, a1, a2, a3, a4, a5, a6, a7, a8⟩ ⟨b0, b1, b2, b3, b4, b5, b6, b7, b8⟩ := by kernel_rfl
def Fm_36 : List Int → Option Value
  | [a0, a1, a2, a3, a4, a5, a6, a7, a8, b0, b1, b2, b3, b4, b5, b6, b7, b8] => some (fTimesM ⟨a0, a1, a2, a3, a4, a5, a6, a7, a8⟩ ⟨b0, b1, b2, b3, b4, b5, b6, b7, b8⟩)
  | _ => none
def Cm5 (P : Program) : Cx := (Cm4 P).add 36 [some 9, some 9] Fm_36
theorem okm5 : CxOk (Cm5 Try.prog) := Cx.add_ok okm4 (n := 60) Try.func36 (by kernel_rfl) fun l v hl h => by
  match l, hl, h with
  | [a0, a1, a2, a3, a4, a5, a6, a7, a8, b0, b1, b2, b3, b4, b5, b6, b7, b8], _, hh => rw [em5, tTm_eq]; exact hh

def CCm (P : Program) : Cx := Cm5 P
theorem okCm : CxOk (CCm Try.prog) := okm5

end Go.Proofs.Ytagnkjdobkdhmab
