/-
  The functions that the statements of this seat call, one by one: called as told, whatever the world. Nothing here is trusted.
-/
import Derived.Test.YtjpfnfckpgilgaaGreatHTLs3
namespace Go.Proofs.YtjpfnfckpgilgaaGreat
open Go Vx

def Ccm0 (P : Program) : Cx := Clw P
theorem okcm0 : CxOk (Ccm0 Tryz.prog) := oklw
/-- plain.Dot -/
theorem ecm1 (a0 a1 a2 a3 a4 a5 b0 b1 b2 c0 c1 c2 : Int) : exFun ((Ccm0 Tryz.prog).at 105) 60 Tryz.f105 (pack [some 6, some 3, some 3] [a0, a1, a2, a3, a4, a5, b0, b1, b2, c0, c1, c2]) = tPDotN ⟨a0, a1, a2, a3, a4, a5⟩ ⟨b0, b1, b2⟩ ⟨c0, c1, c2⟩ := by kernel_rfl
def Fcm_105 : List Int → Option Value
  | [a0, a1, a2, a3, a4, a5, b0, b1, b2, c0, c1, c2] => some (fPDot ⟨a0, a1, a2, a3, a4, a5⟩ ⟨b0, b1, b2⟩ ⟨c0, c1, c2⟩)
  | _ => none
def Ccm1 (P : Program) : Cx := (Ccm0 P).add 105 [some 6, some 3, some 3] Fcm_105
theorem okcm1 : CxOk (Ccm1 Tryz.prog) := Cx.add_ok okcm0 (n := 60) Tryz.func105 (by kernel_rfl) fun l v hl h => by
  match l, hl, h with
  | [a0, a1, a2, a3, a4, a5, b0, b1, b2, c0, c1, c2], _, hh => rw [ecm1, tPDotN_eq]; exact hh
/-- plain.Turned -/
theorem ecm2 (a0 a1 a2 a3 a4 a5 b0 b1 b2 b3 b4 b5 b6 b7 b8 : Int) : exFun ((Ccm1 Tryz.prog).at 60) 60 Tryz.f60 (pack [some 6, some 9] [a0, a1, a2, a3, a4, a5, b0, b1, b2, b3, b4, b5, b6, b7, b8]) = tPTurned ⟨a0, a1, a2, a3, a4, a5⟩ ⟨b0, b1, b2, b3, b4, b5, b6, b7, b8⟩ := by kernel_rfl
def Fcm_60 : List Int → Option Value
  | [a0, a1, a2, a3, a4, a5, b0, b1, b2, b3, b4, b5, b6, b7, b8] => some (fPTurned ⟨a0, a1, a2, a3, a4, a5⟩ ⟨b0, b1, b2, b3, b4, b5, b6, b7, b8⟩)
  | _ => none
def Ccm2 (P : Program) : Cx := (Ccm1 P).add 60 [some 6, some 9] Fcm_60
theorem okcm2 : CxOk (Ccm2 Tryz.prog) := Cx.add_ok okcm1 (n := 60) Tryz.func60 (by kernel_rfl) fun l v hl h => by
  match l, hl, h with
  | [a0, a1, a2, a3, a4, a5, b0, b1, b2, b3, b4, b5, b6, b7, b8], _, hh => rw [ecm2, tPTurned_eq]; exact hh
/-- plain.CheckEntries -/
theorem ecm3 (a0 a1 a2 a3 a4 a5 : Int) : exFun ((Ccm2 Tryz.prog).at 114) 60 Tryz.f114 (pack [some 6] [a0, a1, a2, a3, a4, a5]) = tCheckG ⟨a0, a1, a2, a3, a4, a5⟩ := by kernel_rfl
def Fcm_114 : List Int → Option Value
  | [a0, a1, a2, a3, a4, a5] => some (fCheckG ⟨a0, a1, a2, a3, a4, a5⟩)
  | _ => none
def Ccm3 (P : Program) : Cx := (Ccm2 P).add 114 [some 6] Fcm_114
theorem okcm3 : CxOk (Ccm3 Tryz.prog) := Cx.add_ok okcm2 (n := 60) Tryz.func114 (by kernel_rfl) fun l v hl h => by
  match l, hl, h with
  | [a0, a1, a2, a3, a4, a5], _, hh => rw [ecm3, tCheckG_eq]; exact hh
/-- cell.det -/
theorem ecm4 (a0 a1 a2 a3 a4 a5 : Int) : exFun ((Ccm3 Tryz.prog).at 103) 60 Tryz.f103 (pack [some 6] [a0, a1, a2, a3, a4, a5]) = tGDet ⟨a0, a1, a2, a3, a4, a5⟩ := by kernel_rfl
def Fcm_103 : List Int → Option Value
  | [a0, a1, a2, a3, a4, a5] => some (fGDet ⟨a0, a1, a2, a3, a4, a5⟩)
  | _ => none
def Ccm4 (P : Program) : Cx := (Ccm3 P).add 103 [some 6] Fcm_103
theorem okcm4 : CxOk (Ccm4 Tryz.prog) := Cx.add_ok okcm3 (n := 60) Tryz.func103 (by kernel_rfl) fun l v hl h => by
  match l, hl, h with
  | [a0, a1, a2, a3, a4, a5], _, hh => rw [ecm4, tGDet_eq]; exact hh
/-- cell.Check -/
theorem ecm5 (a0 a1 a2 a3 a4 a5 : Int) : exFun ((Ccm4 Tryz.prog).at 57) 60 Tryz.f57 (pack [some 6] [a0, a1, a2, a3, a4, a5]) = tMck ⟨a0, a1, a2, a3, a4, a5⟩ := by kernel_rfl
def Fcm_57 : List Int → Option Value
  | [a0, a1, a2, a3, a4, a5] => some (fMck ⟨a0, a1, a2, a3, a4, a5⟩)
  | _ => none
def Ccm5 (P : Program) : Cx := (Ccm4 P).add 57 [some 6] Fcm_57
theorem okcm5 : CxOk (Ccm5 Tryz.prog) := Cx.add_ok okcm4 (n := 60) Tryz.func57 (by kernel_rfl) fun l v hl h => by
  match l, hl, h with
  | [a0, a1, a2, a3, a4, a5], _, hh => rw [ecm5, tMck_eq]; exact hh
/-- cell.checkVector -/
theorem ecm6 (a0 a1 a2 : Int) : exFun ((Ccm5 Tryz.prog).at 107) 60 Tryz.f107 (pack [some 3] [a0, a1, a2]) = tCkv ⟨a0, a1, a2⟩ := by kernel_rfl
def Fcm_107 : List Int → Option Value
  | [a0, a1, a2] => some (fCkv ⟨a0, a1, a2⟩)
  | _ => none
def Ccm6 (P : Program) : Cx := (Ccm5 P).add 107 [some 3] Fcm_107
theorem okcm6 : CxOk (Ccm6 Tryz.prog) := Cx.add_ok okcm5 (n := 60) Tryz.func107 (by kernel_rfl) fun l v hl h => by
  match l, hl, h with
  | [a0, a1, a2], _, hh => rw [ecm6, tCkv_eq]; exact hh
/-- cell.Dot -/
theorem ecm7 (a0 a1 a2 a3 a4 a5 b0 b1 b2 c0 c1 c2 : Int) : exFun ((Ccm6 Tryz.prog).at 54) 60 Tryz.f54 (pack [some 6, some 3, some 3] [a0, a1, a2, a3, a4, a5, b0, b1, b2, c0, c1, c2]) = tCDot ⟨a0, a1, a2, a3, a4, a5⟩ ⟨b0, b1, b2⟩ ⟨c0, c1, c2⟩ := by kernel_rfl
def Fcm_54 : List Int → Option Value
  | [a0, a1, a2, a3, a4, a5, b0, b1, b2, c0, c1, c2] => some (fCDot ⟨a0, a1, a2, a3, a4, a5⟩ ⟨b0, b1, b2⟩ ⟨c0, c1, c2⟩)
  | _ => none
def Ccm7 (P : Program) : Cx := (Ccm6 P).add 54 [some 6, some 3, some 3] Fcm_54
theorem okcm7 : CxOk (Ccm7 Tryz.prog) := Cx.add_ok okcm6 (n := 60) Tryz.func54 (by kernel_rfl) fun l v hl h => by
  match l, hl, h with
  | [a0, a1, a2, a3, a4, a5, b0, b1, b2, c0, c1, c2], _, hh => rw [ecm7, tCDot_eq]; exact hh

def CCcm (P : Program) : Cx := Ccm7 P
theorem okCcm : CxOk (CCcm Tryz.prog) := okcm7

end Go.Proofs.YtjpfnfckpgilgaaGreat
