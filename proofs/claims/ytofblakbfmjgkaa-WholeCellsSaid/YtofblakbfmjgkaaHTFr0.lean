/-
  The functions that the statements of this seat call, one by one: called as told, whatever the world. Nothing here is trusted.
-/
import Derived.Test.YtofblakbfmjgkaaKai
import Derived.Test.YtofblakbfmjgkaaHFarT
import Derived.Test.YtofblakbfmjgkaaKah
namespace Go.Proofs.Ytofblakbfmjgkaa
open Go Vx

def Cfa0 (P : Program) : Cx := CCf P
theorem okfa0 : CxOk (Cfa0 Try.prog) := okCf
/-- frac.Minus -/
theorem efa1 (a0 a1 a2 a3 b0 b1 b2 b3 : Int) : exFun ((Cfa0 Try.prog).at 63) 80 Try.f63 (pack [some 4, some 4] [a0, a1, a2, a3, b0, b1, b2, b3]) = tMinus ⟨a0, ⟨a1, a2, a3⟩⟩ ⟨b0, ⟨b1, b2, b3⟩⟩ := by kernel_rfl
def Ffa_63 : List Int → Option Value
  | [a0, a1, a2, a3, b0, b1, b2, b3] => some (fMinus ⟨a0, ⟨a1, a2, a3⟩⟩ ⟨b0, ⟨b1, b2, b3⟩⟩)
  | _ => none
def Cfa1 (P : Program) : Cx := (Cfa0 P).add 63 [some 4, some 4] Ffa_63
theorem okfa1 : CxOk (Cfa1 Try.prog) := Cx.add_ok okfa0 (n := 80) Try.func63 (by kernel_rfl) fun l v hl h => by
  match l, hl, h with
  | [a0, a1, a2, a3, b0, b1, b2, b3], _, hh => rw [efa1, tMinus_eq]; exact hh
/-- facetref02.Mod -/
theorem efa2 (a b : Int) : exFun ((Cfa1 Try.prog).at 81) 80 Try.f81 (pack [none, none] [a, b]) = tResidue a b := by kernel_rfl
def Ffa_81 : List Int → Option (Bool × Value)
  | [a, b] => some (modB b, vI (a % b))
  | _ => none
def Cfa2 (P : Program) : Cx := (Cfa1 P).addD 81 [none, none] Ffa_81
theorem okfa2 : CxOk (Cfa2 Try.prog) := Cx.addD_ok okfa1 (n := 80) Try.func81 (by kernel_rfl) fun l v hl h => by
  match l, hl, h with
  | [a, b], _, hh => simp only [Ffa_81, Option.some.injEq, Prod.mk.injEq] at hh; rw [efa2, tResidue_eq hh.1, hh.2]
/-- facetref02.Bring -/
theorem efa3 (a0 a1 a2 b : Int) : exFun ((Cfa2 Try.prog).at 144) 80 Try.f144 (pack [some 3, none] [a0, a1, a2, b]) = tBring ⟨a0, a1, a2⟩ b := by kernel_rfl
def Ffa_144 : List Int → Option (Bool × Value)
  | [a0, a1, a2, b] => some (modB b, (V3.md b ⟨a0, a1, a2⟩).v)
  | _ => none
def Cfa3 (P : Program) : Cx := (Cfa2 P).addD 144 [some 3, none] Ffa_144
theorem okfa3 : CxOk (Cfa3 Try.prog) := Cx.addD_ok okfa2 (n := 80) Try.func144 (by kernel_rfl) fun l v hl h => by
  match l, hl, h with
  | [a0, a1, a2, b], _, hh => simp only [Ffa_144, Option.some.injEq, Prod.mk.injEq] at hh; rw [efa3, tBring_eq hh.1, hh.2]
/-- facetref02.Right -/
theorem efa4 (a : Int) : exFun ((Cfa3 Try.prog).at 143) 80 Try.f143 (pack [none] [a]) = tFine a := by kernel_rfl
def Ffa_143 : List Int → Option Value
  | [a] => some (fFine a)
  | _ => none
def Cfa4 (P : Program) : Cx := (Cfa3 P).add 143 [none] Ffa_143
theorem okfa4 : CxOk (Cfa4 Try.prog) := Cx.add_ok okfa3 (n := 80) Try.func143 (by kernel_rfl) fun l v hl h => by
  match l, hl, h with
  | [a], _, hh => rw [efa4, tFine_eq]; exact hh
/-- facetref02.Form -/
theorem efa5 (a0 a1 a2 a3 : Int) : exFun ((Cfa4 Try.prog).at 119) 80 Try.f119 (pack [some 4] [a0, a1, a2, a3]) = tR2Form ⟨a0, ⟨a1, a2, a3⟩⟩ := by kernel_rfl
def Ffa_119 : List Int → Option Value
  | [a0, a1, a2, a3] => some (fPForm ⟨a0, ⟨a1, a2, a3⟩⟩)
  | _ => none
def Cfa5 (P : Program) : Cx := (Cfa4 P).add 119 [some 4] Ffa_119
theorem okfa5 : CxOk (Cfa5 Try.prog) := Cx.add_ok okfa4 (n := 80) Try.func119 (by kernel_rfl) fun l v hl h => by
  match l, hl, h with
  | [a0, a1, a2, a3], _, hh => rw [efa5, tR2Form_eq]; exact hh
/-- facetref02.Neg -/
theorem efa6 (a0 a1 a2 b : Int) : exFun ((Cfa5 Try.prog).at 146) 80 Try.f146 (pack [some 3, none] [a0, a1, a2, b]) = tR2Neg ⟨a0, a1, a2⟩ b := by kernel_rfl
def Ffa_146 : List Int → Option (Bool × Value)
  | [a0, a1, a2, b] => some (modB b, ((V3.neg ⟨a0, a1, a2⟩).md b).v)
  | _ => none
def Cfa6 (P : Program) : Cx := (Cfa5 P).addD 146 [some 3, none] Ffa_146
theorem okfa6 : CxOk (Cfa6 Try.prog) := Cx.addD_ok okfa5 (n := 80) Try.func146 (by kernel_rfl) fun l v hl h => by
  match l, hl, h with
  | [a0, a1, a2, b], _, hh => simp only [Ffa_146, Option.some.injEq, Prod.mk.injEq] at hh; rw [efa6, tR2Neg_eq hh.1, hh.2]
/-- facetref02.Add -/
theorem efa7 (a0 a1 a2 b0 b1 b2 c : Int) : exFun ((Cfa6 Try.prog).at 145) 80 Try.f145 (pack [some 3, some 3, none] [a0, a1, a2, b0, b1, b2, c]) = tR2Add ⟨a0, a1, a2⟩ ⟨b0, b1, b2⟩ c := by kernel_rfl
def Ffa_145 : List Int → Option (Bool × Value)
  | [a0, a1, a2, b0, b1, b2, c] => some (modB c, ((V3.add ⟨a0, a1, a2⟩ ⟨b0, b1, b2⟩).md c).v)
  | _ => none
def Cfa7 (P : Program) : Cx := (Cfa6 P).addD 145 [some 3, some 3, none] Ffa_145
theorem okfa7 : CxOk (Cfa7 Try.prog) := Cx.addD_ok okfa6 (n := 80) Try.func145 (by kernel_rfl) fun l v hl h => by
  match l, hl, h with
  | [a0, a1, a2, b0, b1, b2, c], _, hh => simp only [Ffa_145, Option.some.injEq, Prod.mk.injEq] at hh; rw [efa7, tR2Add_eq hh.1, hh.2]
/-- facetref02.Sub -/
theorem efa8 (a0 a1 a2 b0 b1 b2 c : Int) : exFun ((Cfa7 Try.prog).at 120) 80 Try.f120 (pack [some 3, some 3, none] [a0, a1, a2, b0, b1, b2, c]) = tR2Sub ⟨a0, a1, a2⟩ ⟨b0, b1, b2⟩ c := by kernel_rfl
def Ffa_120 : List Int → Option (Bool × Value)
  | [a0, a1, a2, b0, b1, b2, c] => some (modB c, ((V3.add ⟨a0, a1, a2⟩ (V3.neg ⟨b0, b1, b2⟩)).md c).v)
  | _ => none
def Cfa8 (P : Program) : Cx := (Cfa7 P).addD 120 [some 3, some 3, none] Ffa_120
theorem okfa8 : CxOk (Cfa8 Try.prog) := Cx.addD_ok okfa7 (n := 80) Try.func120 (by kernel_rfl) fun l v hl h => by
  match l, hl, h with
  | [a0, a1, a2, b0, b1, b2, c], _, hh => simp only [Ffa_120, Option.some.injEq, Prod.mk.injEq] at hh; rw [efa8, tR2Sub_eq hh.1, hh.2]
/-- facetref02.DocMinus -/
theorem efa9 (a0 a1 a2 a3 b0 b1 b2 b3 : Int) : exFun ((Cfa8 Try.prog).at 79) 80 Try.f79 (pack [some 4, some 4] [a0, a1, a2, a3, b0, b1, b2, b3]) = tDocMinus ⟨a0, ⟨a1, a2, a3⟩⟩ ⟨b0, ⟨b1, b2, b3⟩⟩ := by kernel_rfl
def Ffa_79 : List Int → Option Value
  | [a0, a1, a2, a3, b0, b1, b2, b3] => some (fMinus ⟨a0, ⟨a1, a2, a3⟩⟩ ⟨b0, ⟨b1, b2, b3⟩⟩)
  | _ => none
def Cfa9 (P : Program) : Cx := (Cfa8 P).add 79 [some 4, some 4] Ffa_79
theorem okfa9 : CxOk (Cfa9 Try.prog) := Cx.add_ok okfa8 (n := 80) Try.func79 (by kernel_rfl) fun l v hl h => by
  match l, hl, h with
  | [a0, a1, a2, a3, b0, b1, b2, b3], _, hh => rw [efa9, tDocMinus_eq]; exact hh
/-- facetref11.least -/
theorem efa10 (a b : Int) : exFun ((Cfa9 Try.prog).at 80) 80 Try.f80 (pack [none, none] [a, b]) = tLst2 a b := by kernel_rfl
def Ffa_80 : List Int → Option Value
  | [a, b] => some (fLst2 a b)
  | _ => none
def Cfa10 (P : Program) : Cx := (Cfa9 P).add 80 [none, none] Ffa_80
theorem okfa10 : CxOk (Cfa10 Try.prog) := Cx.add_ok okfa9 (n := 80) Try.func80 (by kernel_rfl) fun l v hl h => by
  match l, hl, h with
  | [a, b], _, hh => rw [efa10, tLst2_eq]; exact hh

def CCfa (P : Program) : Cx := Cfa10 P
theorem okCfa : CxOk (CCfa Try.prog) := okfa10

end Go.Proofs.Ytofblakbfmjgkaa
