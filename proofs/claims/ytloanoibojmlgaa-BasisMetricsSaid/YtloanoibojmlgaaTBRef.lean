/-
  The functions that the statements of this seat call, one by one: called as told, whatever the world. Nothing here is trusted.
-/
import Derived.Test.YtloanoibojmlgaaTBas
import Derived.Test.YtloanoibojmlgaaBasR
namespace Go.Proofs.Ytloanoibojmlgaa
open Go Vx

def Cr0 (P : Program) : Cx := CCb P
theorem okr0 : CxOk (Cr0 Try.prog) := okCb
/-- facetref01.Mat -/
theorem er1 (a0 a1 a2 a3 a4 a5 a6 a7 a8 : Int) : exFun ((Cr0 Try.prog).at 34) 60 Try.f34 (pack [some 9] [a0, a1, a2, a3, a4, a5, a6, a7, a8]) = tR1Mat ⟨a0, a1, a2, a3, a4, a5, a6, a7, a8⟩ := by kernel_rfl
def Fr_34 : List Int → Option Value
  | [a0, a1, a2, a3, a4, a5, a6, a7, a8] => some (fCheck ⟨a0, a1, a2, a3, a4, a5, a6, a7, a8⟩)
  | _ => none
def Cr1 (P : Program) : Cx := (Cr0 P).add 34 [some 9] Fr_34
theorem okr1 : CxOk (Cr1 Try.prog) := Cx.add_ok okr0 (n := 60) Try.func34 (by kernel_rfl) fun l v hl h => by
  match l, hl, h with
  | [a0, a1, a2, a3, a4, a5, a6, a7, a8], _, hh => rw [er1, tR1Mat_eq]; exact hh
/-- facetref01.Mul -/
theorem er2 (a0 a1 a2 a3 a4 a5 a6 a7 a8 b0 b1 b2 b3 b4 b5 b6 b7 b8 : Int) : exFun ((Cr1 Try.prog).at 32) 60 Try.f32 (pack [some 9, some 9] [a0, a1, a2, a3, a4, a5, a6, a7, a8, b0, b1, b2, b3, b4, b5, b6, b7, b8]) = tTimesM ⟨a0, a1, a2, a3, a4, a5, a6, a7, a8⟩ ⟨b0, b1, b2, b3, b4, b5, b6, b7, b8⟩ := by kernel_rfl
def Fr_32 : List Int → Option Value
  | [a0, a1, a2, a3, a4, a5, a6, a7, a8, b0, b1, b2, b3, b4, b5, b6, b7, b8] => some (fTimesM ⟨a0, a1, a2, a3, a4, a5, a6, a7, a8⟩ ⟨b0, b1, b2, b3, b4, b5, b6, b7, b8⟩)
  | _ => none
def Cr2 (P : Program) : Cx := (Cr1 P).add 32 [some 9, some 9] Fr_32
theorem okr2 : CxOk (Cr2 Try.prog) := Cx.add_ok okr1 (n := 60) Try.func32 (by kernel_rfl) fun l v hl h => by
  match l, hl, h with
  | [a0, a1, a2, a3, a4, a5, a6, a7, a8, b0, b1, b2, b3, b4, b5, b6, b7, b8], _, hh => rw [er2, tTimesM_eq]; exact hh
/-- facetref01.Apply -/
theorem er3 (a0 a1 a2 a3 a4 a5 a6 a7 a8 b0 b1 b2 : Int) : exFun ((Cr2 Try.prog).at 39) 60 Try.f39 (pack [some 9, some 3] [a0, a1, a2, a3, a4, a5, a6, a7, a8, b0, b1, b2]) = tColumn ⟨a0, a1, a2, a3, a4, a5, a6, a7, a8⟩ ⟨b0, b1, b2⟩ := by kernel_rfl
def Fr_39 : List Int → Option Value
  | [a0, a1, a2, a3, a4, a5, a6, a7, a8, b0, b1, b2] => some (fColumn ⟨a0, a1, a2, a3, a4, a5, a6, a7, a8⟩ ⟨b0, b1, b2⟩)
  | _ => none
def Cr3 (P : Program) : Cx := (Cr2 P).add 39 [some 9, some 3] Fr_39
theorem okr3 : CxOk (Cr3 Try.prog) := Cx.add_ok okr2 (n := 60) Try.func39 (by kernel_rfl) fun l v hl h => by
  match l, hl, h with
  | [a0, a1, a2, a3, a4, a5, a6, a7, a8, b0, b1, b2], _, hh => rw [er3, tColumn_eq]; exact hh
/-- facetref01.Transpose -/
theorem er4 (a0 a1 a2 a3 a4 a5 a6 a7 a8 : Int) : exFun ((Cr3 Try.prog).at 73) 60 Try.f73 (pack [some 9] [a0, a1, a2, a3, a4, a5, a6, a7, a8]) = tR1T ⟨a0, a1, a2, a3, a4, a5, a6, a7, a8⟩ := by kernel_rfl
def Fr_73 : List Int → Option Value
  | [a0, a1, a2, a3, a4, a5, a6, a7, a8] => some (fR1T ⟨a0, a1, a2, a3, a4, a5, a6, a7, a8⟩)
  | _ => none
def Cr4 (P : Program) : Cx := (Cr3 P).add 73 [some 9] Fr_73
theorem okr4 : CxOk (Cr4 Try.prog) := Cx.add_ok okr3 (n := 60) Try.func73 (by kernel_rfl) fun l v hl h => by
  match l, hl, h with
  | [a0, a1, a2, a3, a4, a5, a6, a7, a8], _, hh => rw [er4, tR1T_eq]; exact hh
/-- facetref01.Left -/
theorem er5 (a0 a1 a2 b0 b1 b2 b3 b4 b5 b6 b7 b8 : Int) : exFun ((Cr4 Try.prog).at 47) 60 Try.f47 (pack [some 3, some 9] [a0, a1, a2, b0, b1, b2, b3, b4, b5, b6, b7, b8]) = tR1Left ⟨a0, a1, a2⟩ ⟨b0, b1, b2, b3, b4, b5, b6, b7, b8⟩ := by kernel_rfl
def Fr_47 : List Int → Option Value
  | [a0, a1, a2, b0, b1, b2, b3, b4, b5, b6, b7, b8] => some (fR1Left ⟨a0, a1, a2⟩ ⟨b0, b1, b2, b3, b4, b5, b6, b7, b8⟩)
  | _ => none
def Cr5 (P : Program) : Cx := (Cr4 P).add 47 [some 3, some 9] Fr_47
theorem okr5 : CxOk (Cr5 Try.prog) := Cx.add_ok okr4 (n := 60) Try.func47 (by kernel_rfl) fun l v hl h => by
  match l, hl, h with
  | [a0, a1, a2, b0, b1, b2, b3, b4, b5, b6, b7, b8], _, hh => rw [er5, tR1Left_eq]; exact hh
/-- facetref01.Det -/
theorem er6 (a0 a1 a2 a3 a4 a5 a6 a7 a8 : Int) : exFun ((Cr5 Try.prog).at 62) 60 Try.f62 (pack [some 9] [a0, a1, a2, a3, a4, a5, a6, a7, a8]) = tR1Det ⟨a0, a1, a2, a3, a4, a5, a6, a7, a8⟩ := by kernel_rfl
def Fr_62 : List Int → Option Value
  | [a0, a1, a2, a3, a4, a5, a6, a7, a8] => some (fRDet ⟨a0, a1, a2, a3, a4, a5, a6, a7, a8⟩)
  | _ => none
def Cr6 (P : Program) : Cx := (Cr5 P).add 62 [some 9] Fr_62
theorem okr6 : CxOk (Cr6 Try.prog) := Cx.add_ok okr5 (n := 60) Try.func62 (by kernel_rfl) fun l v hl h => by
  match l, hl, h with
  | [a0, a1, a2, a3, a4, a5, a6, a7, a8], _, hh => rw [er6, tR1Det_eq]; exact hh
/-- facetref01.Adjugate -/
theorem er7 (a0 a1 a2 a3 a4 a5 a6 a7 a8 : Int) : exFun ((Cr6 Try.prog).at 84) 60 Try.f84 (pack [some 9] [a0, a1, a2, a3, a4, a5, a6, a7, a8]) = tR1Adj ⟨a0, a1, a2, a3, a4, a5, a6, a7, a8⟩ := by kernel_rfl
def Fr_84 : List Int → Option Value
  | [a0, a1, a2, a3, a4, a5, a6, a7, a8] => some (fR1Adj ⟨a0, a1, a2, a3, a4, a5, a6, a7, a8⟩)
  | _ => none
def Cr7 (P : Program) : Cx := (Cr6 P).add 84 [some 9] Fr_84
theorem okr7 : CxOk (Cr7 Try.prog) := Cx.add_ok okr6 (n := 60) Try.func84 (by kernel_rfl) fun l v hl h => by
  match l, hl, h with
  | [a0, a1, a2, a3, a4, a5, a6, a7, a8], _, hh => rw [er7, tR1Adj_eq]; exact hh
/-- facetref01.Scale -/
theorem er8 (a b0 b1 b2 b3 b4 b5 b6 b7 b8 : Int) : exFun ((Cr7 Try.prog).at 83) 60 Try.f83 (pack [none, some 9] [a, b0, b1, b2, b3, b4, b5, b6, b7, b8]) = tR1Scale a ⟨b0, b1, b2, b3, b4, b5, b6, b7, b8⟩ := by kernel_rfl
def Fr_83 : List Int → Option Value
  | [a, b0, b1, b2, b3, b4, b5, b6, b7, b8] => some (fR1Scale a ⟨b0, b1, b2, b3, b4, b5, b6, b7, b8⟩)
  | _ => none
def Cr8 (P : Program) : Cx := (Cr7 P).add 83 [none, some 9] Fr_83
theorem okr8 : CxOk (Cr8 Try.prog) := Cx.add_ok okr7 (n := 60) Try.func83 (by kernel_rfl) fun l v hl h => by
  match l, hl, h with
  | [a, b0, b1, b2, b3, b4, b5, b6, b7, b8], _, hh => rw [er8, tR1Scale_eq]; exact hh
/-- facetref01.Inverse -/
theorem er9 (a0 a1 a2 a3 a4 a5 a6 a7 a8 : Int) : exFun ((Cr8 Try.prog).at 64) 60 Try.f64 (pack [some 9] [a0, a1, a2, a3, a4, a5, a6, a7, a8]) = tR1Inv ⟨a0, a1, a2, a3, a4, a5, a6, a7, a8⟩ := by kernel_rfl
def Fr_64 : List Int → Option Value
  | [a0, a1, a2, a3, a4, a5, a6, a7, a8] => some (fR1Inv ⟨a0, a1, a2, a3, a4, a5, a6, a7, a8⟩)
  | _ => none
def Cr9 (P : Program) : Cx := (Cr8 P).add 64 [some 9] Fr_64
theorem okr9 : CxOk (Cr9 Try.prog) := Cx.add_ok okr8 (n := 60) Try.func64 (by kernel_rfl) fun l v hl h => by
  match l, hl, h with
  | [a0, a1, a2, a3, a4, a5, a6, a7, a8], _, hh => rw [er9, tR1Inv_eq]; exact hh
/-- facetref01.Form -/
theorem er10 (a0 a1 a2 a3 a4 a5 a6 a7 a8 : Int) : exFun ((Cr9 Try.prog).at 31) 60 Try.f31 (pack [some 9] [a0, a1, a2, a3, a4, a5, a6, a7, a8]) = tR1Form ⟨a0, a1, a2, a3, a4, a5, a6, a7, a8⟩ := by kernel_rfl
def Fr_31 : List Int → Option Value
  | [a0, a1, a2, a3, a4, a5, a6, a7, a8] => some (fCheckM ⟨a0, a1, a2, a3, a4, a5, a6, a7, a8⟩)
  | _ => none
def Cr10 (P : Program) : Cx := (Cr9 P).add 31 [some 9] Fr_31
theorem okr10 : CxOk (Cr10 Try.prog) := Cx.add_ok okr9 (n := 60) Try.func31 (by kernel_rfl) fun l v hl h => by
  match l, hl, h with
  | [a0, a1, a2, a3, a4, a5, a6, a7, a8], _, hh => rw [er10, tR1Form_eq]; exact hh
/-- facetref01.DocInverse -/
theorem er11 (a0 a1 a2 a3 a4 a5 a6 a7 a8 : Int) : exFun ((Cr10 Try.prog).at 36) 60 Try.f36 (pack [some 9] [a0, a1, a2, a3, a4, a5, a6, a7, a8]) = tR1DocInv ⟨a0, a1, a2, a3, a4, a5, a6, a7, a8⟩ := by kernel_rfl
def Fr_36 : List Int → Option Value
  | [a0, a1, a2, a3, a4, a5, a6, a7, a8] => some (fInverse ⟨a0, a1, a2, a3, a4, a5, a6, a7, a8⟩)
  | _ => none
def Cr11 (P : Program) : Cx := (Cr10 P).add 36 [some 9] Fr_36
theorem okr11 : CxOk (Cr11 Try.prog) := Cx.add_ok okr10 (n := 60) Try.func36 (by kernel_rfl) fun l v hl h => by
  match l, hl, h with
  | [a0, a1, a2, a3, a4, a5, a6, a7, a8], _, hh => rw [er11, tR1DocInv_eq]; exact hh
/-- facetref02.Mod -/
theorem er12 (a b : Int) : exFun ((Cr11 Try.prog).at 85) 60 Try.f85 (pack [none, none] [a, b]) = tResidue a b := by kernel_rfl
def Fr_85 : List Int → Option (Bool × Value)
  | [a, b] => some (modB b, vI (a % b))
  | _ => none
def Cr12 (P : Program) : Cx := (Cr11 P).addD 85 [none, none] Fr_85
theorem okr12 : CxOk (Cr12 Try.prog) := Cx.addD_ok okr11 (n := 60) Try.func85 (by kernel_rfl) fun l v hl h => by
  match l, hl, h with
  | [a, b], _, hh => simp only [Fr_85, Option.some.injEq, Prod.mk.injEq] at hh; rw [er12, tResidue_eq hh.1, hh.2]
/-- facetref02.Bring -/
theorem er13 (a0 a1 a2 b : Int) : exFun ((Cr12 Try.prog).at 65) 60 Try.f65 (pack [some 3, none] [a0, a1, a2, b]) = tBring ⟨a0, a1, a2⟩ b := by kernel_rfl
def Fr_65 : List Int → Option (Bool × Value)
  | [a0, a1, a2, b] => some (modB b, (V3.md b ⟨a0, a1, a2⟩).v)
  | _ => none
def Cr13 (P : Program) : Cx := (Cr12 P).addD 65 [some 3, none] Fr_65
theorem okr13 : CxOk (Cr13 Try.prog) := Cx.addD_ok okr12 (n := 60) Try.func65 (by kernel_rfl) fun l v hl h => by
  match l, hl, h with
  | [a0, a1, a2, b], _, hh => simp only [Fr_65, Option.some.injEq, Prod.mk.injEq] at hh; rw [er13, tBring_eq hh.1, hh.2]
/-- facetref02.Right -/
theorem er14 (a : Int) : exFun ((Cr13 Try.prog).at 66) 60 Try.f66 (pack [none] [a]) = tFine a := by kernel_rfl
def Fr_66 : List Int → Option Value
  | [a] => some (fFine a)
  | _ => none
def Cr14 (P : Program) : Cx := (Cr13 P).add 66 [none] Fr_66
theorem okr14 : CxOk (Cr14 Try.prog) := Cx.add_ok okr13 (n := 60) Try.func66 (by kernel_rfl) fun l v hl h => by
  match l, hl, h with
  | [a], _, hh => rw [er14, tFine_eq]; exact hh
/-- facetref02.Form -/
theorem er15 (a0 a1 a2 a3 : Int) : exFun ((Cr14 Try.prog).at 40) 60 Try.f40 (pack [some 4] [a0, a1, a2, a3]) = tR2Form ⟨a0, ⟨a1, a2, a3⟩⟩ := by kernel_rfl
def Fr_40 : List Int → Option Value
  | [a0, a1, a2, a3] => some (fPForm ⟨a0, ⟨a1, a2, a3⟩⟩)
  | _ => none
def Cr15 (P : Program) : Cx := (Cr14 P).add 40 [some 4] Fr_40
theorem okr15 : CxOk (Cr15 Try.prog) := Cx.add_ok okr14 (n := 60) Try.func40 (by kernel_rfl) fun l v hl h => by
  match l, hl, h with
  | [a0, a1, a2, a3], _, hh => rw [er15, tR2Form_eq]; exact hh
/-- facetref04.Form -/
theorem er16 (a0 a1 a2 a3 a4 a5 a6 a7 a8 a9 a10 a11 : Int) : exFun ((Cr15 Try.prog).at 44) 60 Try.f44 (pack [some 12] [a0, a1, a2, a3, a4, a5, a6, a7, a8, a9, a10, a11]) = tR4Form ⟨⟨a0, a1, a2, a3, a4, a5, a6, a7, a8⟩, ⟨a9, a10, a11⟩⟩ := by kernel_rfl
def Fr_44 : List Int → Option Value
  | [a0, a1, a2, a3, a4, a5, a6, a7, a8, a9, a10, a11] => some (fOCheck ⟨⟨a0, a1, a2, a3, a4, a5, a6, a7, a8⟩, ⟨a9, a10, a11⟩⟩)
  | _ => none
def Cr16 (P : Program) : Cx := (Cr15 P).add 44 [some 12] Fr_44
theorem okr16 : CxOk (Cr16 Try.prog) := Cx.add_ok okr15 (n := 60) Try.func44 (by kernel_rfl) fun l v hl h => by
  match l, hl, h with
  | [a0, a1, a2, a3, a4, a5, a6, a7, a8, a9, a10, a11], _, hh => rw [er16, tR4Form_eq]; exact hh
/-- facetref07.image -/
theorem er17 (a0 a1 a2 a3 a4 a5 a6 a7 a8 b0 b1 b2 c0 c1 c2 d : Int) : exFun ((Cr16 Try.prog).at 33) 60 Try.f33 (pack [some 9, some 3, some 3, none] [a0, a1, a2, a3, a4, a5, a6, a7, a8, b0, b1, b2, c0, c1, c2, d]) = tImage ⟨a0, a1, a2, a3, a4, a5, a6, a7, a8⟩ ⟨b0, b1, b2⟩ ⟨c0, c1, c2⟩ d := by kernel_rfl
def Fr_33 : List Int → Option (Bool × Value)
  | [a0, a1, a2, a3, a4, a5, a6, a7, a8, b0, b1, b2, c0, c1, c2, d] => some (modB d, (M3.img ⟨a0, a1, a2, a3, a4, a5, a6, a7, a8⟩ ⟨b0, b1, b2⟩ ⟨c0, c1, c2⟩ d).v)
  | _ => none
def Cr17 (P : Program) : Cx := (Cr16 P).addD 33 [some 9, some 3, some 3, none] Fr_33
theorem okr17 : CxOk (Cr17 Try.prog) := Cx.addD_ok okr16 (n := 60) Try.func33 (by kernel_rfl) fun l v hl h => by
  match l, hl, h with
  | [a0, a1, a2, a3, a4, a5, a6, a7, a8, b0, b1, b2, c0, c1, c2, d], _, hh => simp only [Fr_33, Option.some.injEq, Prod.mk.injEq] at hh; rw [er17, tImage_eq hh.1, hh.2]
/-- facetref07.DocBehind -/
theorem er18 (a0 a1 a2 a3 a4 a5 a6 a7 a8 a9 a10 a11 b0 b1 b2 b3 b4 b5 b6 b7 b8 b9 b10 b11 : Int) : exFun ((Cr17 Try.prog).at 11) 60 Try.f11 (pack [some 12, some 12] [a0, a1, a2, a3, a4, a5, a6, a7, a8, a9, a10, a11, b0, b1, b2, b3, b4, b5, b6, b7, b8, b9, b10, b11]) = tDocBehind ⟨⟨a0, a1, a2, a3, a4, a5, a6, a7, a8⟩, ⟨a9, a10, a11⟩⟩ ⟨⟨b0, b1, b2, b3, b4, b5, b6, b7, b8⟩, ⟨b9, b10, b11⟩⟩ := by kernel_rfl
def Fr_11 : List Int → Option Value
  | [a0, a1, a2, a3, a4, a5, a6, a7, a8, a9, a10, a11, b0, b1, b2, b3, b4, b5, b6, b7, b8, b9, b10, b11] => some (fBehind ⟨⟨a0, a1, a2, a3, a4, a5, a6, a7, a8⟩, ⟨a9, a10, a11⟩⟩ ⟨⟨b0, b1, b2, b3, b4, b5, b6, b7, b8⟩, ⟨b9, b10, b11⟩⟩)
  | _ => none
def Cr18 (P : Program) : Cx := (Cr17 P).add 11 [some 12, some 12] Fr_11
theorem okr18 : CxOk (Cr18 Try.prog) := Cx.add_ok okr17 (n := 60) Try.func11 (by kernel_rfl) fun l v hl h => by
  match l, hl, h with
  | [a0, a1, a2, a3, a4, a5, a6, a7, a8, a9, a10, a11, b0, b1, b2, b3, b4, b5, b6, b7, b8, b9, b10, b11], _, hh => rw [er18, tDocBehind_eq]; exact hh
/-- facetref07.DocBack -/
theorem er19 (a0 a1 a2 a3 a4 a5 a6 a7 a8 a9 a10 a11 : Int) : exFun ((Cr18 Try.prog).at 13) 60 Try.f13 (pack [some 12] [a0, a1, a2, a3, a4, a5, a6, a7, a8, a9, a10, a11]) = tDocBack ⟨⟨a0, a1, a2, a3, a4, a5, a6, a7, a8⟩, ⟨a9, a10, a11⟩⟩ := by kernel_rfl
def Fr_13 : List Int → Option Value
  | [a0, a1, a2, a3, a4, a5, a6, a7, a8, a9, a10, a11] => some (fBBack ⟨⟨a0, a1, a2, a3, a4, a5, a6, a7, a8⟩, ⟨a9, a10, a11⟩⟩)
  | _ => none
def Cr19 (P : Program) : Cx := (Cr18 P).add 13 [some 12] Fr_13
theorem okr19 : CxOk (Cr19 Try.prog) := Cx.add_ok okr18 (n := 60) Try.func13 (by kernel_rfl) fun l v hl h => by
  match l, hl, h with
  | [a0, a1, a2, a3, a4, a5, a6, a7, a8, a9, a10, a11], _, hh => rw [er19, tDocBack_eq]; exact hh
/-- facetref07.DocPoint -/
theorem er20 (a0 a1 a2 a3 a4 a5 a6 a7 a8 a9 a10 a11 b0 b1 b2 b3 : Int) : exFun ((Cr19 Try.prog).at 17) 60 Try.f17 (pack [some 12, some 4] [a0, a1, a2, a3, a4, a5, a6, a7, a8, a9, a10, a11, b0, b1, b2, b3]) = tDocPoint ⟨⟨a0, a1, a2, a3, a4, a5, a6, a7, a8⟩, ⟨a9, a10, a11⟩⟩ ⟨b0, ⟨b1, b2, b3⟩⟩ := by kernel_rfl
def Fr_17 : List Int → Option Value
  | [a0, a1, a2, a3, a4, a5, a6, a7, a8, a9, a10, a11, b0, b1, b2, b3] => some (fPoint ⟨⟨a0, a1, a2, a3, a4, a5, a6, a7, a8⟩, ⟨a9, a10, a11⟩⟩ ⟨b0, ⟨b1, b2, b3⟩⟩)
  | _ => none
def Cr20 (P : Program) : Cx := (Cr19 P).add 17 [some 12, some 4] Fr_17
theorem okr20 : CxOk (Cr20 Try.prog) := Cx.add_ok okr19 (n := 60) Try.func17 (by kernel_rfl) fun l v hl h => by
  match l, hl, h with
  | [a0, a1, a2, a3, a4, a5, a6, a7, a8, a9, a10, a11, b0, b1, b2, b3], _, hh => rw [er20, tDocPoint_eq]; exact hh
/-- facetref07.told -/
theorem er21 (a0 a1 a2 a3 a4 a5 a6 a7 a8 a9 a10 a11 b0 b1 b2 b3 b4 b5 b6 b7 b8 b9 b10 b11 : Int) : exFun ((Cr20 Try.prog).at 45) 60 Try.f45 (pack [some 12, some 12] [a0, a1, a2, a3, a4, a5, a6, a7, a8, a9, a10, a11, b0, b1, b2, b3, b4, b5, b6, b7, b8, b9, b10, b11]) = tTold ⟨⟨a0, a1, a2, a3, a4, a5, a6, a7, a8⟩, ⟨a9, a10, a11⟩⟩ ⟨⟨b0, b1, b2, b3, b4, b5, b6, b7, b8⟩, ⟨b9, b10, b11⟩⟩ := by kernel_rfl
def Fr_45 : List Int → Option Value
  | [a0, a1, a2, a3, a4, a5, a6, a7, a8, a9, a10, a11, b0, b1, b2, b3, b4, b5, b6, b7, b8, b9, b10, b11] => some (fTold ⟨⟨a0, a1, a2, a3, a4, a5, a6, a7, a8⟩, ⟨a9, a10, a11⟩⟩ ⟨⟨b0, b1, b2, b3, b4, b5, b6, b7, b8⟩, ⟨b9, b10, b11⟩⟩)
  | _ => none
def Cr21 (P : Program) : Cx := (Cr20 P).add 45 [some 12, some 12] Fr_45
theorem okr21 : CxOk (Cr21 Try.prog) := Cx.add_ok okr20 (n := 60) Try.func45 (by kernel_rfl) fun l v hl h => by
  match l, hl, h with
  | [a0, a1, a2, a3, a4, a5, a6, a7, a8, a9, a10, a11, b0, b1, b2, b3, b4, b5, b6, b7, b8, b9, b10, b11], _, hh => rw [er21, tTold_eq]; exact hh
/-- facetref07.DocOp -/
theorem er22 (a0 a1 a2 a3 a4 a5 a6 a7 a8 a9 a10 a11 b0 b1 b2 b3 b4 b5 b6 b7 b8 b9 b10 b11 : Int) : exFun ((Cr21 Try.prog).at 19) 60 Try.f19 (pack [some 12, some 12] [a0, a1, a2, a3, a4, a5, a6, a7, a8, a9, a10, a11, b0, b1, b2, b3, b4, b5, b6, b7, b8, b9, b10, b11]) = tDocOp ⟨⟨a0, a1, a2, a3, a4, a5, a6, a7, a8⟩, ⟨a9, a10, a11⟩⟩ ⟨⟨b0, b1, b2, b3, b4, b5, b6, b7, b8⟩, ⟨b9, b10, b11⟩⟩ := by kernel_rfl
def Fr_19 : List Int → Option Value
  | [a0, a1, a2, a3, a4, a5, a6, a7, a8, a9, a10, a11, b0, b1, b2, b3, b4, b5, b6, b7, b8, b9, b10, b11] => some (fBOp ⟨⟨a0, a1, a2, a3, a4, a5, a6, a7, a8⟩, ⟨a9, a10, a11⟩⟩ ⟨⟨b0, b1, b2, b3, b4, b5, b6, b7, b8⟩, ⟨b9, b10, b11⟩⟩)
  | _ => none
def Cr22 (P : Program) : Cx := (Cr21 P).add 19 [some 12, some 12] Fr_19
theorem okr22 : CxOk (Cr22 Try.prog) := Cx.add_ok okr21 (n := 60) Try.func19 (by kernel_rfl) fun l v hl h => by
  match l, hl, h with
  | [a0, a1, a2, a3, a4, a5, a6, a7, a8, a9, a10, a11, b0, b1, b2, b3, b4, b5, b6, b7, b8, b9, b10, b11], _, hh => rw [er22, tDocOp_eq]; exact hh
/-- facetref07.DocIndex -/
theorem er23 (a0 a1 a2 a3 a4 a5 a6 a7 a8 a9 a10 a11 b0 b1 b2 : Int) : exFun ((Cr22 Try.prog).at 21) 60 Try.f21 (pack [some 12, some 3] [a0, a1, a2, a3, a4, a5, a6, a7, a8, a9, a10, a11, b0, b1, b2]) = tIndex ⟨⟨a0, a1, a2, a3, a4, a5, a6, a7, a8⟩, ⟨a9, a10, a11⟩⟩ ⟨b0, b1, b2⟩ := by kernel_rfl
def Fr_21 : List Int → Option Value
  | [a0, a1, a2, a3, a4, a5, a6, a7, a8, a9, a10, a11, b0, b1, b2] => some (fIndex ⟨⟨a0, a1, a2, a3, a4, a5, a6, a7, a8⟩, ⟨a9, a10, a11⟩⟩ ⟨b0, b1, b2⟩)
  | _ => none
def Cr23 (P : Program) : Cx := (Cr22 P).add 21 [some 12, some 3] Fr_21
theorem okr23 : CxOk (Cr23 Try.prog) := Cx.add_ok okr22 (n := 60) Try.func21 (by kernel_rfl) fun l v hl h => by
  match l, hl, h with
  | [a0, a1, a2, a3, a4, a5, a6, a7, a8, a9, a10, a11, b0, b1, b2], _, hh => rw [er23, tIndex_eq]; exact hh
/-- facetref07.Metric -/
theorem er24 (a0 a1 a2 a3 a4 a5 : Int) : exFun ((Cr23 Try.prog).at 50) 60 Try.f50 (pack [some 6] [a0, a1, a2, a3, a4, a5]) = tCheckG ⟨a0, a1, a2, a3, a4, a5⟩ := by kernel_rfl
def Fr_50 : List Int → Option Value
  | [a0, a1, a2, a3, a4, a5] => some (fCheckG ⟨a0, a1, a2, a3, a4, a5⟩)
  | _ => none
def Cr24 (P : Program) : Cx := (Cr23 P).add 50 [some 6] Fr_50
theorem okr24 : CxOk (Cr24 Try.prog) := Cx.add_ok okr23 (n := 60) Try.func50 (by kernel_rfl) fun l v hl h => by
  match l, hl, h with
  | [a0, a1, a2, a3, a4, a5], _, hh => rw [er24, tCheckG_eq]; exact hh
/-- facetref07.Turned -/
theorem er25 (a0 a1 a2 a3 a4 a5 b0 b1 b2 b3 b4 b5 b6 b7 b8 : Int) : exFun ((Cr24 Try.prog).at 51) 60 Try.f51 (pack [some 6, some 9] [a0, a1, a2, a3, a4, a5, b0, b1, b2, b3, b4, b5, b6, b7, b8]) = tTurned ⟨a0, a1, a2, a3, a4, a5⟩ ⟨b0, b1, b2, b3, b4, b5, b6, b7, b8⟩ := by kernel_rfl
def Fr_51 : List Int → Option Value
  | [a0, a1, a2, a3, a4, a5, b0, b1, b2, b3, b4, b5, b6, b7, b8] => some (fTurned ⟨a0, a1, a2, a3, a4, a5⟩ ⟨b0, b1, b2, b3, b4, b5, b6, b7, b8⟩)
  | _ => none
def Cr25 (P : Program) : Cx := (Cr24 P).add 51 [some 6, some 9] Fr_51
theorem okr25 : CxOk (Cr25 Try.prog) := Cx.add_ok okr24 (n := 60) Try.func51 (by kernel_rfl) fun l v hl h => by
  match l, hl, h with
  | [a0, a1, a2, a3, a4, a5, b0, b1, b2, b3, b4, b5, b6, b7, b8], _, hh => rw [er25, tTurned_eq]; exact hh
/-- facetref07.DocMetric -/
theorem er26 (a0 a1 a2 a3 a4 a5 a6 a7 a8 a9 a10 a11 b0 b1 b2 b3 b4 b5 : Int) : exFun ((Cr25 Try.prog).at 23) 60 Try.f23 (pack [some 12, some 6] [a0, a1, a2, a3, a4, a5, a6, a7, a8, a9, a10, a11, b0, b1, b2, b3, b4, b5]) = tDocMetric ⟨⟨a0, a1, a2, a3, a4, a5, a6, a7, a8⟩, ⟨a9, a10, a11⟩⟩ ⟨b0, b1, b2, b3, b4, b5⟩ := by kernel_rfl
def Fr_23 : List Int → Option Value
  | [a0, a1, a2, a3, a4, a5, a6, a7, a8, a9, a10, a11, b0, b1, b2, b3, b4, b5] => some (fMetric ⟨⟨a0, a1, a2, a3, a4, a5, a6, a7, a8⟩, ⟨a9, a10, a11⟩⟩ ⟨b0, b1, b2, b3, b4, b5⟩)
  | _ => none
def Cr26 (P : Program) : Cx := (Cr25 P).add 23 [some 12, some 6] Fr_23
theorem okr26 : CxOk (Cr26 Try.prog) := Cx.add_ok okr25 (n := 60) Try.func23 (by kernel_rfl) fun l v hl h => by
  match l, hl, h with
  | [a0, a1, a2, a3, a4, a5, a6, a7, a8, a9, a10, a11, b0, b1, b2, b3, b4, b5], _, hh => rw [er26, tDocMetric_eq]; exact hh
/-- facetlaw07.awake -/
theorem er27 : exFun ((Cr26 Try.prog).at 14) 60 Try.f14 (pack [] []) = tAwake := by kernel_rfl
def Fr_14 : List Int → Option Value
  | [] => some (fAwake)
  | _ => none
def Cr27 (P : Program) : Cx := (Cr26 P).add 14 [] Fr_14
theorem okr27 : CxOk (Cr27 Try.prog) := Cx.add_ok okr26 (n := 60) Try.func14 (by kernel_rfl) fun l v hl h => by
  match l, hl, h with
  | [], _, hh => rw [er27, tAwake_eq]; exact hh

def CCr (P : Program) : Cx := Cr27 P
theorem okCr : CxOk (CCr Try.prog) := okr27

end Go.Proofs.Ytloanoibojmlgaa
