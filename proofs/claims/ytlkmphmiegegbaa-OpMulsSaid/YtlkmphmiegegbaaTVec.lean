/-
  The functions that the statements of this seat call, one by one: called as told, whatever the world. Nothing here is trusted.
-/
import Derived.Test.YtlkmphmiegegbaaLoopS
import Derived.Test.YtlkmphmiegegbaaVyF
import Derived.Test.YtlkmphmiegegbaaOpT
import Derived.Test.YtlkmphmiegegbaaRows
namespace Go.Proofs.Ytlkmphmiegegbaa
open Go Vx

def inlined : List Nat := [13, 14, 15, 16, 17, 18, 19, 20, 21, 22, 23, 24, 25, 26, 27, 28, 29, 30, 31, 32, 33, 34, 35, 36, 37, 38, 39, 40, 41, 42, 43, 44, 45, 46, 47, 48, 49, 50, 51, 52, 53, 54, 55, 56, 57, 58, 59, 60, 61, 62, 63, 64, 65, 66, 67, 68, 69, 70, 71, 72, 73, 74, 75, 76, 77, 78, 79, 80, 81, 82, 83, 84, 85, 86, 87, 88, 89]
def C0 (P : Program) : Cx := base P inlined
theorem ok0 : CxOk (C0 Try.prog) := base_ok (by kernel_rfl) (by kernel_rfl)
/-- vec.within -/
theorem e1 (a0 a1 a2 b : Int) : exFun ((C0 Try.prog).at 75) 60 Try.f75 (pack [some 3, none] [a0, a1, a2, b]) = tWithin ⟨a0, a1, a2⟩ b := by kernel_rfl
def F_75 : List Int → Option Value
  | [a0, a1, a2, b] => some (fWithin ⟨a0, a1, a2⟩ b)
  | _ => none
def C1 (P : Program) : Cx := (C0 P).add 75 [some 3, none] F_75
theorem ok1 : CxOk (C1 Try.prog) := Cx.add_ok ok0 (n := 60) Try.func75 (by kernel_rfl) fun l v hl h => by
  match l, hl, h with
  | [a0, a1, a2, b], _, hh => rw [e1, tWithin_eq]; exact hh
/-- vec.Check -/
theorem e2 (a0 a1 a2 a3 a4 a5 a6 a7 a8 : Int) : exFun ((C1 Try.prog).at 46) 60 Try.f46 (pack [some 9] [a0, a1, a2, a3, a4, a5, a6, a7, a8]) = tCheck ⟨a0, a1, a2, a3, a4, a5, a6, a7, a8⟩ := by kernel_rfl
def F_46 : List Int → Option Value
  | [a0, a1, a2, a3, a4, a5, a6, a7, a8] => some (fCheck ⟨a0, a1, a2, a3, a4, a5, a6, a7, a8⟩)
  | _ => none
def C2 (P : Program) : Cx := (C1 P).add 46 [some 9] F_46
theorem ok2 : CxOk (C2 Try.prog) := Cx.add_ok ok1 (n := 60) Try.func46 (by kernel_rfl) fun l v hl h => by
  match l, hl, h with
  | [a0, a1, a2, a3, a4, a5, a6, a7, a8], _, hh => rw [e2, tCheck_eq]; exact hh
/-- vec.checkBoth -/
theorem e3 (a0 a1 a2 a3 a4 a5 a6 a7 a8 b0 b1 b2 : Int) : exFun ((C2 Try.prog).at 79) 60 Try.f79 (pack [some 9, some 3] [a0, a1, a2, a3, a4, a5, a6, a7, a8, b0, b1, b2]) = tBoth ⟨a0, a1, a2, a3, a4, a5, a6, a7, a8⟩ ⟨b0, b1, b2⟩ := by kernel_rfl
def F_79 : List Int → Option Value
  | [a0, a1, a2, a3, a4, a5, a6, a7, a8, b0, b1, b2] => some (fBoth ⟨a0, a1, a2, a3, a4, a5, a6, a7, a8⟩ ⟨b0, b1, b2⟩)
  | _ => none
def C3 (P : Program) : Cx := (C2 P).add 79 [some 9, some 3] F_79
theorem ok3 : CxOk (C3 Try.prog) := Cx.add_ok ok2 (n := 60) Try.func79 (by kernel_rfl) fun l v hl h => by
  match l, hl, h with
  | [a0, a1, a2, a3, a4, a5, a6, a7, a8, b0, b1, b2], _, hh => rw [e3, tBoth_eq]; exact hh
/-- vec.Mul -/
theorem e4 (a0 a1 a2 a3 a4 a5 a6 a7 a8 b0 b1 b2 b3 b4 b5 b6 b7 b8 : Int) : exFun ((C3 Try.prog).at 45) 60 Try.f45 (pack [some 9, some 9] [a0, a1, a2, a3, a4, a5, a6, a7, a8, b0, b1, b2, b3, b4, b5, b6, b7, b8]) = tMul ⟨a0, a1, a2, a3, a4, a5, a6, a7, a8⟩ ⟨b0, b1, b2, b3, b4, b5, b6, b7, b8⟩ := by kernel_rfl
def F_45 : List Int → Option Value
  | [a0, a1, a2, a3, a4, a5, a6, a7, a8, b0, b1, b2, b3, b4, b5, b6, b7, b8] => some (fMul ⟨a0, a1, a2, a3, a4, a5, a6, a7, a8⟩ ⟨b0, b1, b2, b3, b4, b5, b6, b7, b8⟩)
  | _ => none
def C4 (P : Program) : Cx := (C3 P).add 45 [some 9, some 9] F_45
theorem ok4 : CxOk (C4 Try.prog) := Cx.add_ok ok3 (n := 60) Try.func45 (by kernel_rfl) fun l v hl h => by
  match l, hl, h with
  | [a0, a1, a2, a3, a4, a5, a6, a7, a8, b0, b1, b2, b3, b4, b5, b6, b7, b8], _, hh => rw [e4, tMul_eq]; exact hh
/-- vec.Apply -/
theorem e5 (a0 a1 a2 a3 a4 a5 a6 a7 a8 b0 b1 b2 : Int) : exFun ((C4 Try.prog).at 52) 60 Try.f52 (pack [some 9, some 3] [a0, a1, a2, a3, a4, a5, a6, a7, a8, b0, b1, b2]) = tApply ⟨a0, a1, a2, a3, a4, a5, a6, a7, a8⟩ ⟨b0, b1, b2⟩ := by kernel_rfl
def F_52 : List Int → Option Value
  | [a0, a1, a2, a3, a4, a5, a6, a7, a8, b0, b1, b2] => some (fApply ⟨a0, a1, a2, a3, a4, a5, a6, a7, a8⟩ ⟨b0, b1, b2⟩)
  | _ => none
def C5 (P : Program) : Cx := (C4 P).add 52 [some 9, some 3] F_52
theorem ok5 : CxOk (C5 Try.prog) := Cx.add_ok ok4 (n := 60) Try.func52 (by kernel_rfl) fun l v hl h => by
  match l, hl, h with
  | [a0, a1, a2, a3, a4, a5, a6, a7, a8, b0, b1, b2], _, hh => rw [e5, tApply_eq]; exact hh
/-- vec.Det -/
theorem e6 (a0 a1 a2 a3 a4 a5 a6 a7 a8 : Int) : exFun ((C5 Try.prog).at 62) 60 Try.f62 (pack [some 9] [a0, a1, a2, a3, a4, a5, a6, a7, a8]) = tDet ⟨a0, a1, a2, a3, a4, a5, a6, a7, a8⟩ := by kernel_rfl
def F_62 : List Int → Option Value
  | [a0, a1, a2, a3, a4, a5, a6, a7, a8] => some (fDet ⟨a0, a1, a2, a3, a4, a5, a6, a7, a8⟩)
  | _ => none
def C6 (P : Program) : Cx := (C5 P).add 62 [some 9] F_62
theorem ok6 : CxOk (C6 Try.prog) := Cx.add_ok ok5 (n := 60) Try.func62 (by kernel_rfl) fun l v hl h => by
  match l, hl, h with
  | [a0, a1, a2, a3, a4, a5, a6, a7, a8], _, hh => rw [e6, tDet_eq]; exact hh
/-- vec.Inverse -/
theorem e7 (a0 a1 a2 a3 a4 a5 a6 a7 a8 : Int) : exFun ((C6 Try.prog).at 51) 60 Try.f51 (pack [some 9] [a0, a1, a2, a3, a4, a5, a6, a7, a8]) = tInverse ⟨a0, a1, a2, a3, a4, a5, a6, a7, a8⟩ := by kernel_rfl
def F_51 : List Int → Option Value
  | [a0, a1, a2, a3, a4, a5, a6, a7, a8] => some (fInverse ⟨a0, a1, a2, a3, a4, a5, a6, a7, a8⟩)
  | _ => none
def C7 (P : Program) : Cx := (C6 P).add 51 [some 9] F_51
theorem ok7 : CxOk (C7 Try.prog) := Cx.add_ok ok6 (n := 60) Try.func51 (by kernel_rfl) fun l v hl h => by
  match l, hl, h with
  | [a0, a1, a2, a3, a4, a5, a6, a7, a8], _, hh => rw [e7, tInverse_eq]; exact hh
/-- vec.Order -/
theorem e8 (a0 a1 a2 a3 a4 a5 a6 a7 a8 : Int) : exFun ((C7 Try.prog).at 55) 60 Try.f55 (pack [some 9] [a0, a1, a2, a3, a4, a5, a6, a7, a8]) = tOrder ⟨a0, a1, a2, a3, a4, a5, a6, a7, a8⟩ := by kernel_rfl
def F_55 : List Int → Option Value
  | [a0, a1, a2, a3, a4, a5, a6, a7, a8] => some (fOrder ⟨a0, a1, a2, a3, a4, a5, a6, a7, a8⟩)
  | _ => none
def C8 (P : Program) : Cx := (C7 P).add 55 [some 9] F_55
theorem ok8 : CxOk (C8 Try.prog) := Cx.add_ok ok7 (n := 60) Try.func55 (by kernel_rfl) fun l v hl h => by
  match l, hl, h with
  | [a0, a1, a2, a3, a4, a5, a6, a7, a8], _, hh => rw [e8, tOrder_eq]; exact hh
/-- frac.residue -/
theorem e9 (a b : Int) : exFun ((C8 Try.prog).at 72) 60 Try.f72 (pack [none, none] [a, b]) = tResidue a b := by kernel_rfl
def F_72 : List Int → Option (Bool × Value)
  | [a, b] => some (modB b, vI (a % b))
  | _ => none
def C9 (P : Program) : Cx := (C8 P).addD 72 [none, none] F_72
theorem ok9 : CxOk (C9 Try.prog) := Cx.addD_ok ok8 (n := 60) Try.func72 (by kernel_rfl) fun l v hl h => by
  match l, hl, h with
  | [a, b], _, hh => simp only [F_72, Option.some.injEq, Prod.mk.injEq] at hh; rw [e9, tResidue_eq hh.1, hh.2]
/-- frac.Add -/
theorem e10 (a0 a1 a2 b0 b1 b2 : Int) : exFun ((C9 Try.prog).at 37) 60 Try.f37 (pack [some 3, some 3] [a0, a1, a2, b0, b1, b2]) = tAdd ⟨a0, a1, a2⟩ ⟨b0, b1, b2⟩ := by kernel_rfl
def F_37 : List Int → Option Value
  | [a0, a1, a2, b0, b1, b2] => some (fAdd ⟨a0, a1, a2⟩ ⟨b0, b1, b2⟩)
  | _ => none
def C10 (P : Program) : Cx := (C9 P).add 37 [some 3, some 3] F_37
theorem ok10 : CxOk (C10 Try.prog) := Cx.add_ok ok9 (n := 60) Try.func37 (by kernel_rfl) fun l v hl h => by
  match l, hl, h with
  | [a0, a1, a2, b0, b1, b2], _, hh => rw [e10, tAdd_eq]; exact hh
/-- frac.Neg -/
theorem e11 (a0 a1 a2 : Int) : exFun ((C10 Try.prog).at 53) 60 Try.f53 (pack [some 3] [a0, a1, a2]) = tNeg ⟨a0, a1, a2⟩ := by kernel_rfl
def F_53 : List Int → Option Value
  | [a0, a1, a2] => some (fNeg ⟨a0, a1, a2⟩)
  | _ => none
def C11 (P : Program) : Cx := (C10 P).add 53 [some 3] F_53
theorem ok11 : CxOk (C11 Try.prog) := Cx.add_ok ok10 (n := 60) Try.func53 (by kernel_rfl) fun l v hl h => by
  match l, hl, h with
  | [a0, a1, a2], _, hh => rw [e11, tNeg_eq]; exact hh
/-- frac.Times -/
theorem e12 (a b0 b1 b2 : Int) : exFun ((C11 Try.prog).at 56) 60 Try.f56 (pack [none, some 3] [a, b0, b1, b2]) = tTimes a ⟨b0, b1, b2⟩ := by kernel_rfl
def F_56 : List Int → Option Value
  | [a, b0, b1, b2] => some (fTimes a ⟨b0, b1, b2⟩)
  | _ => none
def C12 (P : Program) : Cx := (C11 P).add 56 [none, some 3] F_56
theorem ok12 : CxOk (C12 Try.prog) := Cx.add_ok ok11 (n := 60) Try.func56 (by kernel_rfl) fun l v hl h => by
  match l, hl, h with
  | [a, b0, b1, b2], _, hh => rw [e12, tTimes_eq]; exact hh
/-- frac.isFineness -/
theorem e13 (a : Int) : exFun ((C12 Try.prog).at 84) 60 Try.f84 (pack [none] [a]) = tFine a := by kernel_rfl
def F_84 : List Int → Option Value
  | [a] => some (fFine a)
  | _ => none
def C13 (P : Program) : Cx := (C12 P).add 84 [none] F_84
theorem ok13 : CxOk (C13 Try.prog) := Cx.add_ok ok12 (n := 60) Try.func84 (by kernel_rfl) fun l v hl h => by
  match l, hl, h with
  | [a], _, hh => rw [e13, tFine_eq]; exact hh
/-- frac.Form -/
theorem e14 (a0 a1 a2 a3 : Int) : exFun ((C13 Try.prog).at 64) 60 Try.f64 (pack [some 4] [a0, a1, a2, a3]) = tPForm ⟨a0, ⟨a1, a2, a3⟩⟩ := by kernel_rfl
def F_64 : List Int → Option Value
  | [a0, a1, a2, a3] => some (fPForm ⟨a0, ⟨a1, a2, a3⟩⟩)
  | _ => none
def C14 (P : Program) : Cx := (C13 P).add 64 [some 4] F_64
theorem ok14 : CxOk (C14 Try.prog) := Cx.add_ok ok13 (n := 60) Try.func64 (by kernel_rfl) fun l v hl h => by
  match l, hl, h with
  | [a0, a1, a2, a3], _, hh => rw [e14, tPForm_eq]; exact hh
/-- frac.Place -/
theorem e15 (a b0 b1 b2 : Int) : exFun ((C14 Try.prog).at 65) 60 Try.f65 (pack [none, some 3] [a, b0, b1, b2]) = tPlace a ⟨b0, b1, b2⟩ := by kernel_rfl
def F_65 : List Int → Option Value
  | [a, b0, b1, b2] => some (fPlace a ⟨b0, b1, b2⟩)
  | _ => none
def C15 (P : Program) : Cx := (C14 P).add 65 [none, some 3] F_65
theorem ok15 : CxOk (C15 Try.prog) := Cx.add_ok ok14 (n := 60) Try.func65 (by kernel_rfl) fun l v hl h => by
  match l, hl, h with
  | [a, b0, b1, b2], _, hh => rw [e15, tPlace_eq]; exact hh
/-- frac.Shift -/
theorem e16 (a0 a1 a2 a3 b0 b1 b2 : Int) : exFun ((C15 Try.prog).at 66) 60 Try.f66 (pack [some 4, some 3] [a0, a1, a2, a3, b0, b1, b2]) = tShift ⟨a0, ⟨a1, a2, a3⟩⟩ ⟨b0, b1, b2⟩ := by kernel_rfl
def F_66 : List Int → Option Value
  | [a0, a1, a2, a3, b0, b1, b2] => some (fShift ⟨a0, ⟨a1, a2, a3⟩⟩ ⟨b0, b1, b2⟩)
  | _ => none
def C16 (P : Program) : Cx := (C15 P).add 66 [some 4, some 3] F_66
theorem ok16 : CxOk (C16 Try.prog) := Cx.add_ok ok15 (n := 60) Try.func66 (by kernel_rfl) fun l v hl h => by
  match l, hl, h with
  | [a0, a1, a2, a3, b0, b1, b2], _, hh => rw [e16, tShift_eq]; exact hh

def CC (P : Program) : Cx := C16 P
theorem okC : CxOk (CC Try.prog) := ok16

end Go.Proofs.Ytlkmphmiegegbaa
