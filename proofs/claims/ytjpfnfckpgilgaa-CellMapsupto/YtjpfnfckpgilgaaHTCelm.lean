/-
  The functions that the statements of this seat call, one by one: called as told, whatever the world. Nothing here is trusted.
-/
import Derived.Test.YtjpfnfckpgilgaaHTLs3
namespace Go.Proofs.Ytjpfnfckpgilgaa
open Go Vx

def Ccm0 (P : Program) : Cx := Clw P
theorem okcm0 : CxOk (Ccm0 Try.prog) := oklw
/-- plain.Dot -/
theorem ecm1 (a0 a1 a2 a3 a4 a5 b0 b1 b2 c0 c1 c2 : Int) : exFun ((Ccm0 Try.prog).at 54) 60 Try.f54 (pack [some 6, some 3, some 3] [a0, a1, a2, a3, a4, a5, b0, b1, b2, c0, c1, c2]) = tPDotN ⟨a0, a1, a2, a3, a4, a5⟩ ⟨b0, b1, b2⟩ ⟨c0, c1, c2⟩ := by kernel_rfl
def Fcm_54 : List Int → Option Value
  | [a0, a1, a2, a3, a4, a5, b0, b1, b2, c0, c1, c2] => some (fPDot ⟨a0, a1, a2, a3, a4, a5⟩ ⟨b0, b1, b2⟩ ⟨c0, c1, c2⟩)
  | _ => none
def Ccm1 (P : Program) : Cx := (Ccm0 P).add 54 [some 6, some 3, some 3] Fcm_54
theorem okcm1 : CxOk (Ccm1 Try.prog) := Cx.add_ok okcm0 (n := 60) Try.func54 (by kernel_rfl) fun l v hl h => by
  match l, hl, h with
  | [a0, a1, a2, a3, a4, a5, b0, b1, b2, c0, c1, c2], _, hh => rw [ecm1, tPDotN_eq]; exact hh
/-- plain.Turned -/
theorem ecm2 (a0 a1 a2 a3 a4 a5 b0 b1 b2 b3 b4 b5 b6 b7 b8 : Int) : exFun ((Ccm1 Try.prog).at 52) 60 Try.f52 (pack [some 6, some 9] [a0, a1, a2, a3, a4, a5, b0, b1, b2, b3, b4, b5, b6, b7, b8]) = tPTurned ⟨a0, a1, a2, a3, a4, a5⟩ ⟨b0, b1, b2, b3, b4, b5, b6, b7, b8⟩ := by kernel_rfl
def Fcm_52 : List Int → Option Value
  | [a0, a1, a2, a3, a4, a5, b0, b1, b2, b3, b4, b5, b6, b7, b8] => some (fPTurned ⟨a0, a1, a2, a3, a4, a5⟩ ⟨b0, b1, b2, b3, b4, b5, b6, b7, b8⟩)
  | _ => none
def Ccm2 (P : Program) : Cx := (Ccm1 P).add 52 [some 6, some 9] Fcm_52
theorem okcm2 : CxOk (Ccm2 Try.prog) := Cx.add_ok okcm1 (n := 60) Try.func52 (by kernel_rfl) fun l v hl h => by
  match l, hl, h with
  | [a0, a1, a2, a3, a4, a5, b0, b1, b2, b3, b4, b5, b6, b7, b8], _, hh => rw [ecm2, tPTurned_eq]; exact hh
/-- plain.CheckEntries -/
theorem ecm3 (a0 a1 a2 a3 a4 a5 : Int) : exFun ((Ccm2 Try.prog).at 96) 60 Try.f96 (pack [some 6] [a0, a1, a2, a3, a4, a5]) = tCheckG ⟨a0, a1, a2, a3, a4, a5⟩ := by kernel_rfl
def Fcm_96 : List Int → Option Value
  | [a0, a1, a2, a3, a4, a5] => some (fCheckG ⟨a0, a1, a2, a3, a4, a5⟩)
  | _ => none
def Ccm3 (P : Program) : Cx := (Ccm2 P).add 96 [some 6] Fcm_96
theorem okcm3 : CxOk (Ccm3 Try.prog) := Cx.add_ok okcm2 (n := 60) Try.func96 (by kernel_rfl) fun l v hl h => by
  match l, hl, h with
  | [a0, a1, a2, a3, a4, a5], _, hh => rw [ecm3, tCheckG_eq]; exact hh
/-- cell.det -/
theorem ecm4 (a0 a1 a2 a3 a4 a5 : Int) : exFun ((Ccm3 Try.prog).at 89) 60 Try.f89 (pack [some 6] [a0, a1, a2, a3, a4, a5]) = tGDet ⟨a0, a1, a2, a3, a4, a5⟩ := by kernel_rfl
def Fcm_89 : List Int → Option Value
  | [a0, a1, a2, a3, a4, a5] => some (fGDet ⟨a0, a1, a2, a3, a4, a5⟩)
  | _ => none
def Ccm4 (P : Program) : Cx := (Ccm3 P).add 89 [some 6] Fcm_89
theorem okcm4 : CxOk (Ccm4 Try.prog) := Cx.add_ok okcm3 (n := 60) Try.func89 (by kernel_rfl) fun l v hl h => by
  match l, hl, h with
  | [a0, a1, a2, a3, a4, a5], _, hh => rw [ecm4, tGDet_eq]; exact hh
/-- cell.Check -/
theorem ecm5 (a0 a1 a2 a3 a4 a5 : Int) : exFun ((Ccm4 Try.prog).at 49) 60 Try.f49 (pack [some 6] [a0, a1, a2, a3, a4, a5]) = tMck ⟨a0, a1, a2, a3, a4, a5⟩ := by kernel_rfl
def Fcm_49 : List Int → Option Value
  | [a0, a1, a2, a3, a4, a5] => some (fMck ⟨a0, a1, a2, a3, a4, a5⟩)
  | _ => none
def Ccm5 (P : Program) : Cx := (Ccm4 P).add 49 [some 6] Fcm_49
theorem okcm5 : CxOk (Ccm5 Try.prog) := Cx.add_ok okcm4 (n := 60) Try.func49 (by kernel_rfl) fun l v hl h => by
  match l, hl, h with
  | [a0, a1, a2, a3, a4, a5], _, hh => rw [ecm5, tMck_eq]; exact hh
/-- cell.checkVector -/
theorem ecm6 (a0 a1 a2 : Int) : exFun ((Ccm5 Try.prog).at 53) 60 Try.f53 (pack [some 3] [a0, a1, a2]) = tCkv ⟨a0, a1, a2⟩ := by kernel_rfl
def Fcm_53 : List Int → Option Value
  | [a0, a1, a2] => some (fCkv ⟨a0, a1, a2⟩)
  | _ => none
def Ccm6 (P : Program) : Cx := (Ccm5 P).add 53 [some 3] Fcm_53
theorem okcm6 : CxOk (Ccm6 Try.prog) := Cx.add_ok okcm5 (n := 60) Try.func53 (by kernel_rfl) fun l v hl h => by
  match l, hl, h with
  | [a0, a1, a2], _, hh => rw [ecm6, tCkv_eq]; exact hh
/-- cell.Dot -/
theorem ecm7 (a0 a1 a2 a3 a4 a5 b0 b1 b2 c0 c1 c2 : Int) : exFun ((Ccm6 Try.prog).at 16) 60 Try.f16 (pack [some 6, some 3, some 3] [a0, a1, a2, a3, a4, a5, b0, b1, b2, c0, c1, c2]) = tCDot ⟨a0, a1, a2, a3, a4, a5⟩ ⟨b0, b1, b2⟩ ⟨c0, c1, c2⟩ := by kernel_rfl
def Fcm_16 : List Int → Option Value
  | [a0, a1, a2, a3, a4, a5, b0, b1, b2, c0, c1, c2] => some (fCDot ⟨a0, a1, a2, a3, a4, a5⟩ ⟨b0, b1, b2⟩ ⟨c0, c1, c2⟩)
  | _ => none
def Ccm7 (P : Program) : Cx := (Ccm6 P).add 16 [some 6, some 3, some 3] Fcm_16
theorem okcm7 : CxOk (Ccm7 Try.prog) := Cx.add_ok okcm6 (n := 60) Try.func16 (by kernel_rfl) fun l v hl h => by
  match l, hl, h with
  | [a0, a1, a2, a3, a4, a5, b0, b1, b2, c0, c1, c2], _, hh => rw [ecm7, tCDot_eq]; exact hh
/-- facetlaw11.small -/
theorem ecm8 (a0 a1 a2 : Int) : exFun ((Ccm7 Try.prog).at 18) 60 Try.f18 (pack [some 3] [a0, a1, a2]) = tSml1 ⟨a0, a1, a2⟩ := by kernel_rfl
def Fcm_18 : List Int → Option Value
  | [a0, a1, a2] => some (fSml1 ⟨a0, a1, a2⟩)
  | _ => none
def Ccm8 (P : Program) : Cx := (Ccm7 P).add 18 [some 3] Fcm_18
theorem okcm8 : CxOk (Ccm8 Try.prog) := Cx.add_ok okcm7 (n := 60) Try.func18 (by kernel_rfl) fun l v hl h => by
  match l, hl, h with
  | [a0, a1, a2], _, hh => rw [ecm8, tSml1_eq]; exact hh
/-- facetlaw11.few -/
theorem ecm9 (a0 a1 a2 : Int) : exFun ((Ccm8 Try.prog).at 15) 60 Try.f15 (pack [some 3] [a0, a1, a2]) = tFew ⟨a0, a1, a2⟩ := by kernel_rfl
def Fcm_15 : List Int → Option Value
  | [a0, a1, a2] => some (fFew ⟨a0, a1, a2⟩)
  | _ => none
def Ccm9 (P : Program) : Cx := (Ccm8 P).add 15 [some 3] Fcm_15
theorem okcm9 : CxOk (Ccm9 Try.prog) := Cx.add_ok okcm8 (n := 60) Try.func15 (by kernel_rfl) fun l v hl h => by
  match l, hl, h with
  | [a0, a1, a2], _, hh => rw [ecm9, tFew_eq]; exact hh

def CCcm (P : Program) : Cx := Ccm9 P
theorem okCcm : CxOk (CCcm Try.prog) := okcm9

end Go.Proofs.Ytjpfnfckpgilgaa
