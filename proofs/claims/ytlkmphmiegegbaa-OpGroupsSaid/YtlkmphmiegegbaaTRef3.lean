/-
  The functions that the statements of this seat call, one by one: called as told, whatever the world. Nothing here is trusted.
-/
import Derived.Test.YtlkmphmiegegbaaTOp
import Derived.Test.YtlkmphmiegegbaaRef3T
namespace Go.Proofs.Ytlkmphmiegegbaa
open Go Vx

def Cr0 (P : Program) : Cx := CCo P
theorem okr0 : CxOk (Cr0 Try.prog) := okCo
/-- facetref03.Check -/
theorem er1 (a0 a1 a2 a3 a4 a5 a6 a7 a8 a9 a10 a11 : Int) : exFun ((Cr0 Try.prog).at 16) 60 Try.f16 (pack [some 12] [a0, a1, a2, a3, a4, a5, a6, a7, a8, a9, a10, a11]) = tRCheck ⟨⟨a0, a1, a2, a3, a4, a5, a6, a7, a8⟩, ⟨a9, a10, a11⟩⟩ := by kernel_rfl
def Fr_16 : List Int → Option Value
  | [a0, a1, a2, a3, a4, a5, a6, a7, a8, a9, a10, a11] => some (fOCheck ⟨⟨a0, a1, a2, a3, a4, a5, a6, a7, a8⟩, ⟨a9, a10, a11⟩⟩)
  | _ => none
def Cr1 (P : Program) : Cx := (Cr0 P).add 16 [some 12] Fr_16
theorem okr1 : CxOk (Cr1 Try.prog) := Cx.add_ok okr0 (n := 60) Try.func16 (by kernel_rfl) fun l v hl h => by
  match l, hl, h with
  | [a0, a1, a2, a3, a4, a5, a6, a7, a8, a9, a10, a11], _, hh => rw [er1, tRCheck_eq]; exact hh
/-- facetref03.One -/
theorem er2 : exFun ((Cr1 Try.prog).at 18) 60 Try.f18 (pack [] []) = tOne := by kernel_rfl
def Fr_18 : List Int → Option Value
  | [] => some (fOne)
  | _ => none
def Cr2 (P : Program) : Cx := (Cr1 P).add 18 [] Fr_18
theorem okr2 : CxOk (Cr2 Try.prog) := Cx.add_ok okr1 (n := 60) Try.func18 (by kernel_rfl) fun l v hl h => by
  match l, hl, h with
  | [], _, hh => rw [er2, tOne_eq]; exact hh
/-- facetref03.two -/
theorem er3 (a0 a1 a2 a3 a4 a5 a6 a7 a8 a9 a10 a11 b0 b1 b2 b3 b4 b5 b6 b7 b8 b9 b10 b11 : Int) : exFun ((Cr2 Try.prog).at 48) 60 Try.f48 (pack [some 12, some 12] [a0, a1, a2, a3, a4, a5, a6, a7, a8, a9, a10, a11, b0, b1, b2, b3, b4, b5, b6, b7, b8, b9, b10, b11]) = tTwo ⟨⟨a0, a1, a2, a3, a4, a5, a6, a7, a8⟩, ⟨a9, a10, a11⟩⟩ ⟨⟨b0, b1, b2, b3, b4, b5, b6, b7, b8⟩, ⟨b9, b10, b11⟩⟩ := by kernel_rfl
def Fr_48 : List Int → Option Value
  | [a0, a1, a2, a3, a4, a5, a6, a7, a8, a9, a10, a11, b0, b1, b2, b3, b4, b5, b6, b7, b8, b9, b10, b11] => some (fTwo ⟨⟨a0, a1, a2, a3, a4, a5, a6, a7, a8⟩, ⟨a9, a10, a11⟩⟩ ⟨⟨b0, b1, b2, b3, b4, b5, b6, b7, b8⟩, ⟨b9, b10, b11⟩⟩)
  | _ => none
def Cr3 (P : Program) : Cx := (Cr2 P).add 48 [some 12, some 12] Fr_48
theorem okr3 : CxOk (Cr3 Try.prog) := Cx.add_ok okr2 (n := 60) Try.func48 (by kernel_rfl) fun l v hl h => by
  match l, hl, h with
  | [a0, a1, a2, a3, a4, a5, a6, a7, a8, a9, a10, a11, b0, b1, b2, b3, b4, b5, b6, b7, b8, b9, b10, b11], _, hh => rw [er3, tTwo_eq]; exact hh
/-- facetref03.Mul -/
theorem er4 (a0 a1 a2 a3 a4 a5 a6 a7 a8 a9 a10 a11 b0 b1 b2 b3 b4 b5 b6 b7 b8 b9 b10 b11 : Int) : exFun ((Cr3 Try.prog).at 50) 60 Try.f50 (pack [some 12, some 12] [a0, a1, a2, a3, a4, a5, a6, a7, a8, a9, a10, a11, b0, b1, b2, b3, b4, b5, b6, b7, b8, b9, b10, b11]) = tRMul ⟨⟨a0, a1, a2, a3, a4, a5, a6, a7, a8⟩, ⟨a9, a10, a11⟩⟩ ⟨⟨b0, b1, b2, b3, b4, b5, b6, b7, b8⟩, ⟨b9, b10, b11⟩⟩ := by kernel_rfl
def Fr_50 : List Int → Option Value
  | [a0, a1, a2, a3, a4, a5, a6, a7, a8, a9, a10, a11, b0, b1, b2, b3, b4, b5, b6, b7, b8, b9, b10, b11] => some (fRMul ⟨⟨a0, a1, a2, a3, a4, a5, a6, a7, a8⟩, ⟨a9, a10, a11⟩⟩ ⟨⟨b0, b1, b2, b3, b4, b5, b6, b7, b8⟩, ⟨b9, b10, b11⟩⟩)
  | _ => none
def Cr4 (P : Program) : Cx := (Cr3 P).add 50 [some 12, some 12] Fr_50
theorem okr4 : CxOk (Cr4 Try.prog) := Cx.add_ok okr3 (n := 60) Try.func50 (by kernel_rfl) fun l v hl h => by
  match l, hl, h with
  | [a0, a1, a2, a3, a4, a5, a6, a7, a8, a9, a10, a11, b0, b1, b2, b3, b4, b5, b6, b7, b8, b9, b10, b11], _, hh => rw [er4, tRMul_eq]; exact hh
/-- facetref03.Undone -/
theorem er5 (a0 a1 a2 a3 a4 a5 a6 a7 a8 : Int) : exFun ((Cr4 Try.prog).at 82) 60 Try.f82 (pack [some 9] [a0, a1, a2, a3, a4, a5, a6, a7, a8]) = tUndone ⟨a0, a1, a2, a3, a4, a5, a6, a7, a8⟩ := by kernel_rfl
def Fr_82 : List Int → Option Value
  | [a0, a1, a2, a3, a4, a5, a6, a7, a8] => some (fUndone ⟨a0, a1, a2, a3, a4, a5, a6, a7, a8⟩)
  | _ => none
def Cr5 (P : Program) : Cx := (Cr4 P).add 82 [some 9] Fr_82
theorem okr5 : CxOk (Cr5 Try.prog) := Cx.add_ok okr4 (n := 60) Try.func82 (by kernel_rfl) fun l v hl h => by
  match l, hl, h with
  | [a0, a1, a2, a3, a4, a5, a6, a7, a8], _, hh => rw [er5, tUndone_eq]; exact hh
/-- facetref03.Back -/
theorem er6 (a0 a1 a2 a3 a4 a5 a6 a7 a8 a9 a10 a11 : Int) : exFun ((Cr5 Try.prog).at 54) 60 Try.f54 (pack [some 12] [a0, a1, a2, a3, a4, a5, a6, a7, a8, a9, a10, a11]) = tBack ⟨⟨a0, a1, a2, a3, a4, a5, a6, a7, a8⟩, ⟨a9, a10, a11⟩⟩ := by kernel_rfl
def Fr_54 : List Int → Option Value
  | [a0, a1, a2, a3, a4, a5, a6, a7, a8, a9, a10, a11] => some (fBack ⟨⟨a0, a1, a2, a3, a4, a5, a6, a7, a8⟩, ⟨a9, a10, a11⟩⟩)
  | _ => none
def Cr6 (P : Program) : Cx := (Cr5 P).add 54 [some 12] Fr_54
theorem okr6 : CxOk (Cr6 Try.prog) := Cx.add_ok okr5 (n := 60) Try.func54 (by kernel_rfl) fun l v hl h => by
  match l, hl, h with
  | [a0, a1, a2, a3, a4, a5, a6, a7, a8, a9, a10, a11], _, hh => rw [er6, tBack_eq]; exact hh
/-- facetref03.trace -/
theorem er7 (a0 a1 a2 a3 a4 a5 a6 a7 a8 : Int) : exFun ((Cr6 Try.prog).at 88) 60 Try.f88 (pack [some 9] [a0, a1, a2, a3, a4, a5, a6, a7, a8]) = tTrace ⟨a0, a1, a2, a3, a4, a5, a6, a7, a8⟩ := by kernel_rfl
def Fr_88 : List Int → Option Value
  | [a0, a1, a2, a3, a4, a5, a6, a7, a8] => some (fTrace ⟨a0, a1, a2, a3, a4, a5, a6, a7, a8⟩)
  | _ => none
def Cr7 (P : Program) : Cx := (Cr6 P).add 88 [some 9] Fr_88
theorem okr7 : CxOk (Cr7 Try.prog) := Cx.add_ok okr6 (n := 60) Try.func88 (by kernel_rfl) fun l v hl h => by
  match l, hl, h with
  | [a0, a1, a2, a3, a4, a5, a6, a7, a8], _, hh => rw [er7, tTrace_eq]; exact hh
/-- facetref03.rotation -/
theorem er8 (a0 a1 a2 a3 a4 a5 a6 a7 a8 : Int) : exFun ((Cr7 Try.prog).at 83) 60 Try.f83 (pack [some 9] [a0, a1, a2, a3, a4, a5, a6, a7, a8]) = tRotation ⟨a0, a1, a2, a3, a4, a5, a6, a7, a8⟩ := by kernel_rfl
def Fr_83 : List Int → Option Value
  | [a0, a1, a2, a3, a4, a5, a6, a7, a8] => some (fRotation ⟨a0, a1, a2, a3, a4, a5, a6, a7, a8⟩)
  | _ => none
def Cr8 (P : Program) : Cx := (Cr7 P).add 83 [some 9] Fr_83
theorem okr8 : CxOk (Cr8 Try.prog) := Cx.add_ok okr7 (n := 60) Try.func83 (by kernel_rfl) fun l v hl h => by
  match l, hl, h with
  | [a0, a1, a2, a3, a4, a5, a6, a7, a8], _, hh => rw [er8, tRotation_eq]; exact hh
/-- facetref03.Kind -/
theorem er9 (a0 a1 a2 a3 a4 a5 a6 a7 a8 : Int) : exFun ((Cr8 Try.prog).at 58) 60 Try.f58 (pack [some 9] [a0, a1, a2, a3, a4, a5, a6, a7, a8]) = tRKind ⟨a0, a1, a2, a3, a4, a5, a6, a7, a8⟩ := by kernel_rfl
def Fr_58 : List Int → Option Value
  | [a0, a1, a2, a3, a4, a5, a6, a7, a8] => some (fRKind ⟨a0, a1, a2, a3, a4, a5, a6, a7, a8⟩)
  | _ => none
def Cr9 (P : Program) : Cx := (Cr8 P).add 58 [some 9] Fr_58
theorem okr9 : CxOk (Cr9 Try.prog) := Cx.add_ok okr8 (n := 60) Try.func58 (by kernel_rfl) fun l v hl h => by
  match l, hl, h with
  | [a0, a1, a2, a3, a4, a5, a6, a7, a8], _, hh => rw [er9, tRKind_eq]; exact hh
/-- facetref03.OrderOf -/
theorem er10 (a : Int) : exFun ((Cr9 Try.prog).at 57) 60 Try.f57 (pack [none] [a]) = tOrderOf a := by kernel_rfl
def Fr_57 : List Int → Option Value
  | [a] => some (fOrderOf a)
  | _ => none
def Cr10 (P : Program) : Cx := (Cr9 P).add 57 [none] Fr_57
theorem okr10 : CxOk (Cr10 Try.prog) := Cx.add_ok okr9 (n := 60) Try.func57 (by kernel_rfl) fun l v hl h => by
  match l, hl, h with
  | [a], _, hh => rw [er10, tOrderOf_eq]; exact hh
/-- facetref03.small -/
theorem er11 (a0 a1 a2 a3 a4 a5 a6 a7 a8 a9 a10 a11 : Int) : exFun ((Cr10 Try.prog).at 49) 60 Try.f49 (pack [some 12] [a0, a1, a2, a3, a4, a5, a6, a7, a8, a9, a10, a11]) = tSmall ⟨⟨a0, a1, a2, a3, a4, a5, a6, a7, a8⟩, ⟨a9, a10, a11⟩⟩ := by kernel_rfl
def Fr_49 : List Int → Option Value
  | [a0, a1, a2, a3, a4, a5, a6, a7, a8, a9, a10, a11] => some (fSmall ⟨⟨a0, a1, a2, a3, a4, a5, a6, a7, a8⟩, ⟨a9, a10, a11⟩⟩)
  | _ => none
def Cr11 (P : Program) : Cx := (Cr10 P).add 49 [some 12] Fr_49
theorem okr11 : CxOk (Cr11 Try.prog) := Cx.add_ok okr10 (n := 60) Try.func49 (by kernel_rfl) fun l v hl h => by
  match l, hl, h with
  | [a0, a1, a2, a3, a4, a5, a6, a7, a8, a9, a10, a11], _, hh => rw [er11, tSmall_eq]; exact hh
/-- facetref03.DocMake -/
theorem er12 (a0 a1 a2 a3 a4 a5 a6 a7 a8 b0 b1 b2 : Int) : exFun ((Cr11 Try.prog).at 14) 60 Try.f14 (pack [some 9, some 3] [a0, a1, a2, a3, a4, a5, a6, a7, a8, b0, b1, b2]) = tDocMake ⟨a0, a1, a2, a3, a4, a5, a6, a7, a8⟩ ⟨b0, b1, b2⟩ := by kernel_rfl
def Fr_14 : List Int → Option Value
  | [a0, a1, a2, a3, a4, a5, a6, a7, a8, b0, b1, b2] => some (fMake ⟨a0, a1, a2, a3, a4, a5, a6, a7, a8⟩ ⟨b0, b1, b2⟩)
  | _ => none
def Cr12 (P : Program) : Cx := (Cr11 P).add 14 [some 9, some 3] Fr_14
theorem okr12 : CxOk (Cr12 Try.prog) := Cx.add_ok okr11 (n := 60) Try.func14 (by kernel_rfl) fun l v hl h => by
  match l, hl, h with
  | [a0, a1, a2, a3, a4, a5, a6, a7, a8, b0, b1, b2], _, hh => rw [er12, tDocMake_eq]; exact hh
/-- facetref03.DocMul -/
theorem er13 (a0 a1 a2 a3 a4 a5 a6 a7 a8 a9 a10 a11 b0 b1 b2 b3 b4 b5 b6 b7 b8 b9 b10 b11 : Int) : exFun ((Cr12 Try.prog).at 20) 60 Try.f20 (pack [some 12, some 12] [a0, a1, a2, a3, a4, a5, a6, a7, a8, a9, a10, a11, b0, b1, b2, b3, b4, b5, b6, b7, b8, b9, b10, b11]) = tDocMul ⟨⟨a0, a1, a2, a3, a4, a5, a6, a7, a8⟩, ⟨a9, a10, a11⟩⟩ ⟨⟨b0, b1, b2, b3, b4, b5, b6, b7, b8⟩, ⟨b9, b10, b11⟩⟩ := by kernel_rfl
def Fr_20 : List Int → Option Value
  | [a0, a1, a2, a3, a4, a5, a6, a7, a8, a9, a10, a11, b0, b1, b2, b3, b4, b5, b6, b7, b8, b9, b10, b11] => some (fOMul ⟨⟨a0, a1, a2, a3, a4, a5, a6, a7, a8⟩, ⟨a9, a10, a11⟩⟩ ⟨⟨b0, b1, b2, b3, b4, b5, b6, b7, b8⟩, ⟨b9, b10, b11⟩⟩)
  | _ => none
def Cr13 (P : Program) : Cx := (Cr12 P).add 20 [some 12, some 12] Fr_20
theorem okr13 : CxOk (Cr13 Try.prog) := Cx.add_ok okr12 (n := 60) Try.func20 (by kernel_rfl) fun l v hl h => by
  match l, hl, h with
  | [a0, a1, a2, a3, a4, a5, a6, a7, a8, a9, a10, a11, b0, b1, b2, b3, b4, b5, b6, b7, b8, b9, b10, b11], _, hh => rw [er13, tDocMul_eq]; exact hh
/-- facetref03.DocInverse -/
theorem er14 (a0 a1 a2 a3 a4 a5 a6 a7 a8 a9 a10 a11 : Int) : exFun ((Cr13 Try.prog).at 22) 60 Try.f22 (pack [some 12] [a0, a1, a2, a3, a4, a5, a6, a7, a8, a9, a10, a11]) = tDocInverse ⟨⟨a0, a1, a2, a3, a4, a5, a6, a7, a8⟩, ⟨a9, a10, a11⟩⟩ := by kernel_rfl
def Fr_22 : List Int → Option Value
  | [a0, a1, a2, a3, a4, a5, a6, a7, a8, a9, a10, a11] => some (fOInverse ⟨⟨a0, a1, a2, a3, a4, a5, a6, a7, a8⟩, ⟨a9, a10, a11⟩⟩)
  | _ => none
def Cr14 (P : Program) : Cx := (Cr13 P).add 22 [some 12] Fr_22
theorem okr14 : CxOk (Cr14 Try.prog) := Cx.add_ok okr13 (n := 60) Try.func22 (by kernel_rfl) fun l v hl h => by
  match l, hl, h with
  | [a0, a1, a2, a3, a4, a5, a6, a7, a8, a9, a10, a11], _, hh => rw [er14, tDocInverse_eq]; exact hh
/-- facetref03.Place -/
theorem er15 (a0 a1 a2 a3 : Int) : exFun ((Cr14 Try.prog).at 31) 60 Try.f31 (pack [some 4] [a0, a1, a2, a3]) = tRPlace ⟨a0, ⟨a1, a2, a3⟩⟩ := by kernel_rfl
def Fr_31 : List Int → Option Value
  | [a0, a1, a2, a3] => some (fPForm ⟨a0, ⟨a1, a2, a3⟩⟩)
  | _ => none
def Cr15 (P : Program) : Cx := (Cr14 P).add 31 [some 4] Fr_31
theorem okr15 : CxOk (Cr15 Try.prog) := Cx.add_ok okr14 (n := 60) Try.func31 (by kernel_rfl) fun l v hl h => by
  match l, hl, h with
  | [a0, a1, a2, a3], _, hh => rw [er15, tRPlace_eq]; exact hh
/-- facetref03.Apply -/
theorem er16 (a0 a1 a2 a3 a4 a5 a6 a7 a8 a9 a10 a11 b0 b1 b2 b3 : Int) : exFun ((Cr15 Try.prog).at 67) 60 Try.f67 (pack [some 12, some 4] [a0, a1, a2, a3, a4, a5, a6, a7, a8, a9, a10, a11, b0, b1, b2, b3]) = tRApply ⟨⟨a0, a1, a2, a3, a4, a5, a6, a7, a8⟩, ⟨a9, a10, a11⟩⟩ ⟨b0, ⟨b1, b2, b3⟩⟩ := by kernel_rfl
def Fr_67 : List Int → Option (Bool × Value)
  | [a0, a1, a2, a3, a4, a5, a6, a7, a8, a9, a10, a11, b0, b1, b2, b3] => some (modB b0, (O3.rapp ⟨⟨a0, a1, a2, a3, a4, a5, a6, a7, a8⟩, ⟨a9, a10, a11⟩⟩ ⟨b0, ⟨b1, b2, b3⟩⟩).v)
  | _ => none
def Cr16 (P : Program) : Cx := (Cr15 P).addD 67 [some 12, some 4] Fr_67
theorem okr16 : CxOk (Cr16 Try.prog) := Cx.addD_ok okr15 (n := 60) Try.func67 (by kernel_rfl) fun l v hl h => by
  match l, hl, h with
  | [a0, a1, a2, a3, a4, a5, a6, a7, a8, a9, a10, a11, b0, b1, b2, b3], _, hh => simp only [Fr_67, Option.some.injEq, Prod.mk.injEq] at hh; rw [er16, tRApply_eq hh.1, hh.2]
/-- facetref03.DocApply -/
theorem er17 (a0 a1 a2 a3 a4 a5 a6 a7 a8 a9 a10 a11 b0 b1 b2 b3 : Int) : exFun ((Cr16 Try.prog).at 30) 60 Try.f30 (pack [some 12, some 4] [a0, a1, a2, a3, a4, a5, a6, a7, a8, a9, a10, a11, b0, b1, b2, b3]) = tDocApply ⟨⟨a0, a1, a2, a3, a4, a5, a6, a7, a8⟩, ⟨a9, a10, a11⟩⟩ ⟨b0, ⟨b1, b2, b3⟩⟩ := by kernel_rfl
def Fr_30 : List Int → Option Value
  | [a0, a1, a2, a3, a4, a5, a6, a7, a8, a9, a10, a11, b0, b1, b2, b3] => some (fOApply ⟨⟨a0, a1, a2, a3, a4, a5, a6, a7, a8⟩, ⟨a9, a10, a11⟩⟩ ⟨b0, ⟨b1, b2, b3⟩⟩)
  | _ => none
def Cr17 (P : Program) : Cx := (Cr16 P).add 30 [some 12, some 4] Fr_30
theorem okr17 : CxOk (Cr17 Try.prog) := Cx.add_ok okr16 (n := 60) Try.func30 (by kernel_rfl) fun l v hl h => by
  match l, hl, h with
  | [a0, a1, a2, a3, a4, a5, a6, a7, a8, a9, a10, a11, b0, b1, b2, b3], _, hh => rw [er17, tDocApply_eq]; exact hh

def CCr (P : Program) : Cx := Cr17 P
theorem okCr : CxOk (CCr Try.prog) := okr17

end Go.Proofs.Ytlkmphmiegegbaa
