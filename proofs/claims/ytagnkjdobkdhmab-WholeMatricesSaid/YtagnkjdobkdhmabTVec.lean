/-
  The functions that the statements of this seat call, one by one: called as told, whatever the world. Nothing here is trusted.
-/
import Derived.Test.YtagnkjdobkdhmabRows
import Derived.Test.YtagnkjdobkdhmabTyp
namespace Go.Proofs.Ytagnkjdobkdhmab
open Go Vx

def inlined : List Nat := [3, 4, 5, 6, 7, 8, 9, 10, 11, 12, 13, 14, 15, 16, 17, 18, 19, 20, 21, 22, 23, 24, 25, 26, 27, 28, 29, 30, 31, 32, 33, 34, 35, 36, 37, 38, 39, 40, 41, 42, 43, 44, 45, 46, 47, 48, 49, 50, 51, 52, 53, 54, 55, 56, 57, 58, 59, 60, 61, 62, 63, 64, 65]
def C0 (P : Program) : Cx := base P inlined
theorem ok0 : CxOk (C0 Try.prog) := base_ok (by kernel_rfl) (by kernel_rfl)
/-- vec.within -/
theorem e1 (a0 a1 a2 b : Int) : exFun ((C0 Try.prog).at 55) 60 Try.f55 (pack [some 3, none] [a0, a1, a2, b]) = tWithin ⟨a0, a1, a2⟩ b := by kernel_rfl
def F_55 : List Int → Option Value
  | [a0, a1, a2, b] => some (fWithin ⟨a0, a1, a2⟩ b)
  | _ => none
def C1 (P : Program) : Cx := (C0 P).add 55 [some 3, none] F_55
theorem ok1 : CxOk (C1 Try.prog) := Cx.add_ok ok0 (n := 60) Try.func55 (by kernel_rfl) fun l v hl h => by
  match l, hl, h with
  | [a0, a1, a2, b], _, hh => rw [e1, tWithin_eq]; exact hh
/-- vec.Check -/
theorem e2 (a0 a1 a2 a3 a4 a5 a6 a7 a8 : Int) : exFun ((C1 Try.prog).at 27) 60 Try.f27 (pack [some 9] [a0, a1, a2, a3, a4, a5, a6, a7, a8]) = tCheck ⟨a0, a1, a2, a3, a4, a5, a6, a7, a8⟩ := by kernel_rfl
def F_27 : List Int → Option Value
  | [a0, a1, a2, a3, a4, a5, a6, a7, a8] => some (fCheck ⟨a0, a1, a2, a3, a4, a5, a6, a7, a8⟩)
  | _ => none
def C2 (P : Program) : Cx := (C1 P).add 27 [some 9] F_27
theorem ok2 : CxOk (C2 Try.prog) := Cx.add_ok ok1 (n := 60) Try.func27 (by kernel_rfl) fun l v hl h => by
  match l, hl, h with
  | [a0, a1, a2, a3, a4, a5, a6, a7, a8], _, hh => rw [e2, tCheck_eq]; exact hh
/-- vec.checkBoth -/
theorem e3 (a0 a1 a2 a3 a4 a5 a6 a7 a8 b0 b1 b2 : Int) : exFun ((C2 Try.prog).at 56) 60 Try.f56 (pack [some 9, some 3] [a0, a1, a2, a3, a4, a5, a6, a7, a8, b0, b1, b2]) = tBoth ⟨a0, a1, a2, a3, a4, a5, a6, a7, a8⟩ ⟨b0, b1, b2⟩ := by kernel_rfl
def F_56 : List Int → Option Value
  | [a0, a1, a2, a3, a4, a5, a6, a7, a8, b0, b1, b2] => some (fBoth ⟨a0, a1, a2, a3, a4, a5, a6, a7, a8⟩ ⟨b0, b1, b2⟩)
  | _ => none
def C3 (P : Program) : Cx := (C2 P).add 56 [some 9, some 3] F_56
theorem ok3 : CxOk (C3 Try.prog) := Cx.add_ok ok2 (n := 60) Try.func56 (by kernel_rfl) fun l v hl h => by
  match l, hl, h with
  | [a0, a1, a2, a3, a4, a5, a6, a7, a8, b0, b1, b2], _, hh => rw [e3, tBoth_eq]; exact hh
/-- vec.Mul -/
theorem e4 (a0 a1 a2 a3 a4 a5 a6 a7 a8 b0 b1 b2 b3 b4 b5 b6 b7 b8 : Int) : exFun ((C3 Try.prog).at 25) 60 Try.f25 (pack [some 9, some 9] [a0, a1, a2, a3, a4, a5, a6, a7, a8, b0, b1, b2, b3, b4, b5, b6, b7, b8]) = tMul ⟨a0, a1, a2, a3, a4, a5, a6, a7, a8⟩ ⟨b0, b1, b2, b3, b4, b5, b6, b7, b8⟩ := by kernel_rfl
def F_25 : List Int → Option Value
  | [a0, a1, a2, a3, a4, a5, a6, a7, a8, b0, b1, b2, b3, b4, b5, b6, b7, b8] => some (fMul ⟨a0, a1, a2, a3, a4, a5, a6, a7, a8⟩ ⟨b0, b1, b2, b3, b4, b5, b6, b7, b8⟩)
  | _ => none
def C4 (P : Program) : Cx := (C3 P).add 25 [some 9, some 9] F_25
theorem ok4 : CxOk (C4 Try.prog) := Cx.add_ok ok3 (n := 60) Try.func25 (by kernel_rfl) fun l v hl h => by
  match l, hl, h with
  | [a0, a1, a2, a3, a4, a5, a6, a7, a8, b0, b1, b2, b3, b4, b5, b6, b7, b8], _, hh => rw [e4, tMul_eq]; exact hh
/-- vec.Apply -/
theorem e5 (a0 a1 a2 a3 a4 a5 a6 a7 a8 b0 b1 b2 : Int) : exFun ((C4 Try.prog).at 29) 60 Try.f29 (pack [some 9, some 3] [a0, a1, a2, a3, a4, a5, a6, a7, a8, b0, b1, b2]) = tApply ⟨a0, a1, a2, a3, a4, a5, a6, a7, a8⟩ ⟨b0, b1, b2⟩ := by kernel_rfl
def F_29 : List Int → Option Value
  | [a0, a1, a2, a3, a4, a5, a6, a7, a8, b0, b1, b2] => some (fApply ⟨a0, a1, a2, a3, a4, a5, a6, a7, a8⟩ ⟨b0, b1, b2⟩)
  | _ => none
def C5 (P : Program) : Cx := (C4 P).add 29 [some 9, some 3] F_29
theorem ok5 : CxOk (C5 Try.prog) := Cx.add_ok ok4 (n := 60) Try.func29 (by kernel_rfl) fun l v hl h => by
  match l, hl, h with
  | [a0, a1, a2, a3, a4, a5, a6, a7, a8, b0, b1, b2], _, hh => rw [e5, tApply_eq]; exact hh
/-- vec.Det -/
theorem e6 (a0 a1 a2 a3 a4 a5 a6 a7 a8 : Int) : exFun ((C5 Try.prog).at 30) 60 Try.f30 (pack [some 9] [a0, a1, a2, a3, a4, a5, a6, a7, a8]) = tDet ⟨a0, a1, a2, a3, a4, a5, a6, a7, a8⟩ := by kernel_rfl
def F_30 : List Int → Option Value
  | [a0, a1, a2, a3, a4, a5, a6, a7, a8] => some (fDet ⟨a0, a1, a2, a3, a4, a5, a6, a7, a8⟩)
  | _ => none
def C6 (P : Program) : Cx := (C5 P).add 30 [some 9] F_30
theorem ok6 : CxOk (C6 Try.prog) := Cx.add_ok ok5 (n := 60) Try.func30 (by kernel_rfl) fun l v hl h => by
  match l, hl, h with
  | [a0, a1, a2, a3, a4, a5, a6, a7, a8], _, hh => rw [e6, tDet_eq]; exact hh
/-- vec.Inverse -/
theorem e7 (a0 a1 a2 a3 a4 a5 a6 a7 a8 : Int) : exFun ((C6 Try.prog).at 26) 60 Try.f26 (pack [some 9] [a0, a1, a2, a3, a4, a5, a6, a7, a8]) = tInverse ⟨a0, a1, a2, a3, a4, a5, a6, a7, a8⟩ := by kernel_rfl
def F_26 : List Int → Option Value
  | [a0, a1, a2, a3, a4, a5, a6, a7, a8] => some (fInverse ⟨a0, a1, a2, a3, a4, a5, a6, a7, a8⟩)
  | _ => none
def C7 (P : Program) : Cx := (C6 P).add 26 [some 9] F_26
theorem ok7 : CxOk (C7 Try.prog) := Cx.add_ok ok6 (n := 60) Try.func26 (by kernel_rfl) fun l v hl h => by
  match l, hl, h with
  | [a0, a1, a2, a3, a4, a5, a6, a7, a8], _, hh => rw [e7, tInverse_eq]; exact hh
/-- vec.Order -/
theorem e8 (a0 a1 a2 a3 a4 a5 a6 a7 a8 : Int) : exFun ((C7 Try.prog).at 23) 60 Try.f23 (pack [some 9] [a0, a1, a2, a3, a4, a5, a6, a7, a8]) = tOrder ⟨a0, a1, a2, a3, a4, a5, a6, a7, a8⟩ := by kernel_rfl
def F_23 : List Int → Option Value
  | [a0, a1, a2, a3, a4, a5, a6, a7, a8] => some (fOrder ⟨a0, a1, a2, a3, a4, a5, a6, a7, a8⟩)
  | _ => none
def C8 (P : Program) : Cx := (C7 P).add 23 [some 9] F_23
theorem ok8 : CxOk (C8 Try.prog) := Cx.add_ok ok7 (n := 60) Try.func23 (by kernel_rfl) fun l v hl h => by
  match l, hl, h with
  | [a0, a1, a2, a3, a4, a5, a6, a7, a8], _, hh => rw [e8, tOrder_eq]; exact hh
/-- frac.residue -/
theorem e9 (a b : Int) : exFun ((C8 Try.prog).at 59) 60 Try.f59 (pack [none, none] [a, b]) = tResidue a b := by kernel_rfl
def F_59 : List Int → Option (Bool × Value)
  | [a, b] => some (modB b, vI (a % b))
  | _ => none
def C9 (P : Program) : Cx := (C8 P).addD 59 [none, none] F_59
theorem ok9 : CxOk (C9 Try.prog) := Cx.addD_ok ok8 (n := 60) Try.func59 (by kernel_rfl) fun l v hl h => by
  match l, hl, h with
  | [a, b], _, hh => simp only [F_59, Option.some.injEq, Prod.mk.injEq] at hh; rw [e9, tResidue_eq hh.1, hh.2]
/-- frac.Add -/
theorem e10 (a0 a1 a2 b0 b1 b2 : Int) : exFun ((C9 Try.prog).at 47) 60 Try.f47 (pack [some 3, some 3] [a0, a1, a2, b0, b1, b2]) = tAdd ⟨a0, a1, a2⟩ ⟨b0, b1, b2⟩ := by kernel_rfl
def F_47 : List Int → Option Value
  | [a0, a1, a2, b0, b1, b2] => some (fAdd ⟨a0, a1, a2⟩ ⟨b0, b1, b2⟩)
  | _ => none
def C10 (P : Program) : Cx := (C9 P).add 47 [some 3, some 3] F_47
theorem ok10 : CxOk (C10 Try.prog) := Cx.add_ok ok9 (n := 60) Try.func47 (by kernel_rfl) fun l v hl h => by
  match l, hl, h with
  | [a0, a1, a2, b0, b1, b2], _, hh => rw [e10, tAdd_eq]; exact hh
/-- frac.Neg -/
theorem e11 (a0 a1 a2 : Int) : exFun ((C10 Try.prog).at 42) 60 Try.f42 (pack [some 3] [a0, a1, a2]) = tNeg ⟨a0, a1, a2⟩ := by kernel_rfl
def F_42 : List Int → Option Value
  | [a0, a1, a2] => some (fNeg ⟨a0, a1, a2⟩)
  | _ => none
def C11 (P : Program) : Cx := (C10 P).add 42 [some 3] F_42
theorem ok11 : CxOk (C11 Try.prog) := Cx.add_ok ok10 (n := 60) Try.func42 (by kernel_rfl) fun l v hl h => by
  match l, hl, h with
  | [a0, a1, a2], _, hh => rw [e11, tNeg_eq]; exact hh
/-- frac.Times -/
theorem e12 (a b0 b1 b2 : Int) : exFun ((C11 Try.prog).at 39) 60 Try.f39 (pack [none, some 3] [a, b0, b1, b2]) = tTimes a ⟨b0, b1, b2⟩ := by kernel_rfl
def F_39 : List Int → Option Value
  | [a, b0, b1, b2] => some (fTimes a ⟨b0, b1, b2⟩)
  | _ => none
def C12 (P : Program) : Cx := (C11 P).add 39 [none, some 3] F_39
theorem ok12 : CxOk (C12 Try.prog) := Cx.add_ok ok11 (n := 60) Try.func39 (by kernel_rfl) fun l v hl h => by
  match l, hl, h with
  | [a, b0, b1, b2], _, hh => rw [e12, tTimes_eq]; exact hh
/-- frac.isFineness -/
theorem e13 (a : Int) : exFun ((C12 Try.prog).at 63) 60 Try.f63 (pack [none] [a]) = tFine a := by kernel_rfl
def F_63 : List Int → Option Value
  | [a] => some (fFine a)
  | _ => none
def C13 (P : Program) : Cx := (C12 P).add 63 [none] F_63
theorem ok13 : CxOk (C13 Try.prog) := Cx.add_ok ok12 (n := 60) Try.func63 (by kernel_rfl) fun l v hl h => by
  match l, hl, h with
  | [a], _, hh => rw [e13, tFine_eq]; exact hh
/-- frac.Form -/
theorem e14 (a0 a1 a2 a3 : Int) : exFun ((C13 Try.prog).at 48) 60 Try.f48 (pack [some 4] [a0, a1, a2, a3]) = tPForm ⟨a0, ⟨a1, a2, a3⟩⟩ := by kernel_rfl
def F_48 : List Int → Option Value
  | [a0, a1, a2, a3] => some (fPForm ⟨a0, ⟨a1, a2, a3⟩⟩)
  | _ => none
def C14 (P : Program) : Cx := (C13 P).add 48 [some 4] F_48
theorem ok14 : CxOk (C14 Try.prog) := Cx.add_ok ok13 (n := 60) Try.func48 (by kernel_rfl) fun l v hl h => by
  match l, hl, h with
  | [a0, a1, a2, a3], _, hh => rw [e14, tPForm_eq]; exact hh
/-- frac.Place -/
theorem e15 (a b0 b1 b2 : Int) : exFun ((C14 Try.prog).at 49) 60 Try.f49 (pack [none, some 3] [a, b0, b1, b2]) = tPlace a ⟨b0, b1, b2⟩ := by kernel_rfl
def F_49 : List Int → Option Value
  | [a, b0, b1, b2] => some (fPlace a ⟨b0, b1, b2⟩)
  | _ => none
def C15 (P : Program) : Cx := (C14 P).add 49 [none, some 3] F_49
theorem ok15 : CxOk (C15 Try.prog) := Cx.add_ok ok14 (n := 60) Try.func49 (by kernel_rfl) fun l v hl h => by
  match l, hl, h with
  | [a, b0, b1, b2], _, hh => rw [e15, tPlace_eq]; exact hh
/-- frac.Shift -/
theorem e16 (a0 a1 a2 a3 b0 b1 b2 : Int) : exFun ((C15 Try.prog).at 50) 60 Try.f50 (pack [some 4, some 3] [a0, a1, a2, a3, b0, b1, b2]) = tShift ⟨a0, ⟨a1, a2, a3⟩⟩ ⟨b0, b1, b2⟩ := by kernel_rfl
def F_50 : List Int → Option Value
  | [a0, a1, a2, a3, b0, b1, b2] => some (fShift ⟨a0, ⟨a1, a2, a3⟩⟩ ⟨b0, b1, b2⟩)
  | _ => none
def C16 (P : Program) : Cx := (C15 P).add 50 [some 4, some 3] F_50
theorem ok16 : CxOk (C16 Try.prog) := Cx.add_ok ok15 (n := 60) Try.func50 (by kernel_rfl) fun l v hl h => by
  match l, hl, h with
  | [a0, a1, a2, a3, b0, b1, b2], _, hh => rw [e16, tShift_eq]; exact hh

def CC (P : Program) : Cx := C16 P
theorem okC : CxOk (CC Try.prog) := ok16

end Go.Proofs.Ytagnkjdobkdhmab
