/-
  The functions that the statements of this seat call, one by one: called as told, whatever the world. Nothing here is trusted.
-/
import Derived.Test.YtcefeamjnnkahaaGd
import Derived.Test.YtcefeamjnnkahaaGc
import Derived.Test.YtcefeamjnnkahaaProg

namespace Go.Proofs.Ytcefeamjnnkahaa
open Go Vx

def inlined : List Nat := [9, 10, 11, 12, 13, 14, 15, 16, 17, 18, 20, 21, 22, 23, 24, 25, 26, 27, 28, 29, 30, 33, 34, 35, 37, 38, 39, 40, 41, 42, 43, 44, 45, 46, 47, 51, 52, 53, 54, 55, 56, 57, 58, 59, 60, 61, 62, 63, 64, 65, 66, 67, 68, 79, 80, 81, 82, 83, 84, 85, 86, 87, 88, 94, 95, 96, 97, 98, 99]
def C0 (P : Program) : Cx := base P inlined
theorem ok0 : CxOk (C0 Try.prog) := base_ok (by kernel_rfl) (by kernel_rfl)
/-- vec.within -/
theorem e1 (a0 a1 a2 b : Int) : exFun ((C0 Try.prog).at 82) 60 Try.f82 (pack [some 3, none] [a0, a1, a2, b]) = tWithin ⟨a0, a1, a2⟩ b := by kernel_rfl
def F_82 : List Int → Option Value
  | [a0, a1, a2, b] => some (fWithin ⟨a0, a1, a2⟩ b)
  | _ => none
def C1 (P : Program) : Cx := (C0 P).add 82 [some 3, none] F_82
theorem ok1 : CxOk (C1 Try.prog) := Cx.add_ok ok0 (n := 60) Try.func82 (by kernel_rfl) fun l v hl h => by
  match l, hl, h with
  | [a0, a1, a2, b], _, hh => rw [e1, tWithin_eq]; exact hh
/-- vec.Check -/
theorem e2 (a0 a1 a2 a3 a4 a5 a6 a7 a8 : Int) : exFun ((C1 Try.prog).at 63) 60 Try.f63 (pack [some 9] [a0, a1, a2, a3, a4, a5, a6, a7, a8]) = tCheck ⟨a0, a1, a2, a3, a4, a5, a6, a7, a8⟩ := by kernel_rfl
def F_63 : List Int → Option Value
  | [a0, a1, a2, a3, a4, a5, a6, a7, a8] => some (fCheck ⟨a0, a1, a2, a3, a4, a5, a6, a7, a8⟩)
  | _ => none
def C2 (P : Program) : Cx := (C1 P).add 63 [some 9] F_63
theorem ok2 : CxOk (C2 Try.prog) := Cx.add_ok ok1 (n := 60) Try.func63 (by kernel_rfl) fun l v hl h => by
  match l, hl, h with
  | [a0, a1, a2, a3, a4, a5, a6, a7, a8], _, hh => rw [e2, tCheck_eq]; exact hh
/-- vec.checkBoth -/
theorem e3 (a0 a1 a2 a3 a4 a5 a6 a7 a8 b0 b1 b2 : Int) : exFun ((C2 Try.prog).at 86) 60 Try.f86 (pack [some 9, some 3] [a0, a1, a2, a3, a4, a5, a6, a7, a8, b0, b1, b2]) = tBoth ⟨a0, a1, a2, a3, a4, a5, a6, a7, a8⟩ ⟨b0, b1, b2⟩ := by kernel_rfl
def F_86 : List Int → Option Value
  | [a0, a1, a2, a3, a4, a5, a6, a7, a8, b0, b1, b2] => some (fBoth ⟨a0, a1, a2, a3, a4, a5, a6, a7, a8⟩ ⟨b0, b1, b2⟩)
  | _ => none
def C3 (P : Program) : Cx := (C2 P).add 86 [some 9, some 3] F_86
theorem ok3 : CxOk (C3 Try.prog) := Cx.add_ok ok2 (n := 60) Try.func86 (by kernel_rfl) fun l v hl h => by
  match l, hl, h with
  | [a0, a1, a2, a3, a4, a5, a6, a7, a8, b0, b1, b2], _, hh => rw [e3, tBoth_eq]; exact hh
/-- vec.Mul -/
theorem e4 (a0 a1 a2 a3 a4 a5 a6 a7 a8 b0 b1 b2 b3 b4 b5 b6 b7 b8 : Int) : exFun ((C3 Try.prog).at 62) 60 Try.f62 (pack [some 9, some 9] [a0, a1, a2, a3, a4, a5, a6, a7, a8, b0, b1, b2, b3, b4, b5, b6, b7, b8]) = tMul ⟨a0, a1, a2, a3, a4, a5, a6, a7, a8⟩ ⟨b0, b1, b2, b3, b4, b5, b6, b7, b8⟩ := by kernel_rfl
def F_62 : List Int → Option Value
  | [a0, a1, a2, a3, a4, a5, a6, a7, a8, b0, b1, b2, b3, b4, b5, b6, b7, b8] => some (fMul ⟨a0, a1, a2, a3, a4, a5, a6, a7, a8⟩ ⟨b0, b1, b2, b3, b4, b5, b6, b7, b8⟩)
  | _ => none
def C4 (P : Program) : Cx := (C3 P).add 62 [some 9, some 9] F_62
theorem ok4 : CxOk (C4 Try.prog) := Cx.add_ok ok3 (n := 60) Try.func62 (by kernel_rfl) fun l v hl h => by
  match l, hl, h with
  | [a0, a1, a2, a3, a4, a5, a6, a7, a8, b0, b1, b2, b3, b4, b5, b6, b7, b8], _, hh => rw [e4, tMul_eq]; exact hh
/-- vec.Apply -/
theorem e5 (a0 a1 a2 a3 a4 a5 a6 a7 a8 b0 b1 b2 : Int) : exFun ((C4 Try.prog).at 66) 60 Try.f66 (pack [some 9, some 3] [a0, a1, a2, a3, a4, a5, a6, a7, a8, b0, b1, b2]) = tApply ⟨a0, a1, a2, a3, a4, a5, a6, a7, a8⟩ ⟨b0, b1, b2⟩ := by kernel_rfl
def F_66 : List Int → Option Value
  | [a0, a1, a2, a3, a4, a5, a6, a7, a8, b0, b1, b2] => some (fApply ⟨a0, a1, a2, a3, a4, a5, a6, a7, a8⟩ ⟨b0, b1, b2⟩)
  | _ => none
def C5 (P : Program) : Cx := (C4 P).add 66 [some 9, some 3] F_66
theorem ok5 : CxOk (C5 Try.prog) := Cx.add_ok ok4 (n := 60) Try.func66 (by kernel_rfl) fun l v hl h => by
  match l, hl, h with
  | [a0, a1, a2, a3, a4, a5, a6, a7, a8, b0, b1, b2], _, hh => rw [e5, tApply_eq]; exact hh
/-- vec.Det -/
theorem e6 (a0 a1 a2 a3 a4 a5 a6 a7 a8 : Int) : exFun ((C5 Try.prog).at 95) 60 Try.f95 (pack [some 9] [a0, a1, a2, a3, a4, a5, a6, a7, a8]) = tDet ⟨a0, a1, a2, a3, a4, a5, a6, a7, a8⟩ := by kernel_rfl
def F_95 : List Int → Option Value
  | [a0, a1, a2, a3, a4, a5, a6, a7, a8] => some (fDet ⟨a0, a1, a2, a3, a4, a5, a6, a7, a8⟩)
  | _ => none
def C6 (P : Program) : Cx := (C5 P).add 95 [some 9] F_95
theorem ok6 : CxOk (C6 Try.prog) := Cx.add_ok ok5 (n := 60) Try.func95 (by kernel_rfl) fun l v hl h => by
  match l, hl, h with
  | [a0, a1, a2, a3, a4, a5, a6, a7, a8], _, hh => rw [e6, tDet_eq]; exact hh
/-- vec.Inverse -/
theorem e7 (a0 a1 a2 a3 a4 a5 a6 a7 a8 : Int) : exFun ((C6 Try.prog).at 65) 60 Try.f65 (pack [some 9] [a0, a1, a2, a3, a4, a5, a6, a7, a8]) = tInverse ⟨a0, a1, a2, a3, a4, a5, a6, a7, a8⟩ := by kernel_rfl
def F_65 : List Int → Option Value
  | [a0, a1, a2, a3, a4, a5, a6, a7, a8] => some (fInverse ⟨a0, a1, a2, a3, a4, a5, a6, a7, a8⟩)
  | _ => none
def C7 (P : Program) : Cx := (C6 P).add 65 [some 9] F_65
theorem ok7 : CxOk (C7 Try.prog) := Cx.add_ok ok6 (n := 60) Try.func65 (by kernel_rfl) fun l v hl h => by
  match l, hl, h with
  | [a0, a1, a2, a3, a4, a5, a6, a7, a8], _, hh => rw [e7, tInverse_eq]; exact hh
/-- frac.residue -/
theorem e8 (a b : Int) : exFun ((C7 Try.prog).at 98) 60 Try.f98 (pack [none, none] [a, b]) = tResidue a b := by kernel_rfl
def F_98 : List Int → Option (Bool × Value)
  | [a, b] => some (modB b, vI (a % b))
  | _ => none
def C8 (P : Program) : Cx := (C7 P).addD 98 [none, none] F_98
theorem ok8 : CxOk (C8 Try.prog) := Cx.addD_ok ok7 (n := 60) Try.func98 (by kernel_rfl) fun l v hl h => by
  match l, hl, h with
  | [a, b], _, hh => simp only [F_98, Option.some.injEq, Prod.mk.injEq] at hh; rw [e8, tResidue_eq hh.1, hh.2]
/-- frac.Add -/
theorem e9 (a0 a1 a2 b0 b1 b2 : Int) : exFun ((C8 Try.prog).at 83) 60 Try.f83 (pack [some 3, some 3] [a0, a1, a2, b0, b1, b2]) = tAdd ⟨a0, a1, a2⟩ ⟨b0, b1, b2⟩ := by kernel_rfl
def F_83 : List Int → Option Value
  | [a0, a1, a2, b0, b1, b2] => some (fAdd ⟨a0, a1, a2⟩ ⟨b0, b1, b2⟩)
  | _ => none
def C9 (P : Program) : Cx := (C8 P).add 83 [some 3, some 3] F_83
theorem ok9 : CxOk (C9 Try.prog) := Cx.add_ok ok8 (n := 60) Try.func83 (by kernel_rfl) fun l v hl h => by
  match l, hl, h with
  | [a0, a1, a2, b0, b1, b2], _, hh => rw [e9, tAdd_eq]; exact hh
/-- frac.Neg -/
theorem e10 (a0 a1 a2 : Int) : exFun ((C9 Try.prog).at 67) 60 Try.f67 (pack [some 3] [a0, a1, a2]) = tNeg ⟨a0, a1, a2⟩ := by kernel_rfl
def F_67 : List Int → Option Value
  | [a0, a1, a2] => some (fNeg ⟨a0, a1, a2⟩)
  | _ => none
def C10 (P : Program) : Cx := (C9 P).add 67 [some 3] F_67
theorem ok10 : CxOk (C10 Try.prog) := Cx.add_ok ok9 (n := 60) Try.func67 (by kernel_rfl) fun l v hl h => by
  match l, hl, h with
  | [a0, a1, a2], _, hh => rw [e10, tNeg_eq]; exact hh

def CC (P : Program) : Cx := C10 P
theorem okC : CxOk (CC Try.prog) := ok10

end Go.Proofs.Ytcefeamjnnkahaa


namespace Go.Proofs.Ytcefeamjnnkahaa
open Go Vx
def leastM (a b : Int) : Mem := [.cells true 1 [.int .i64 a, .int .i64 b]]
def leastA : List Value := [.slice (some ⟨0, 0, none⟩) 2 1]
theorem eLeast (a b : Int) : (exFunA ((CC Try.prog).at 41) 60 Try.f41 leastA (leastM a b)).res = (match a == 0 with
    | true => some (vI b, leastM a b)
    | false => match b != 0 with
      | true => match decide (b < a) with
        | true => some (vI b, leastM a b)
        | false => some (vI a, leastM a b)
      | false => some (vI a, leastM a b)) := by kernel_rfl
theorem eLeast' (a b : Int) : (exFunA ((CC Try.prog).at 41) 60 Try.f41 leastA (leastM a b)).res = some (vI (leastN a b), leastM a b) := by
  rw [eLeast]
  unfold leastN
  cases a == 0 <;> cases b != 0 <;> cases decide (b < a) <;> rfl
def leastS : List Value → Mem → Option (Ans (Value × Mem))
  | [.slice (some ⟨0, 0, none⟩) 2 1], [.cells true 1 [.int .i64 a, .int .i64 b]] => some (.out (vI (leastN a b), leastM a b))
  | _, _ => none
def CL (P : Program) : Cx := (CC P).addF 41 leastS
theorem okL : CxOk (CL Try.prog) := Cx.addF_ok okC fun args m ans v m' h hr => by
  unfold leastS at h
  split at h
  · rename_i a b
    simp only [Option.some.injEq] at h
    subst h
    simp only [Ans.res, Option.some.injEq, Prod.mk.injEq] at hr
    obtain ⟨rfl, rfl⟩ := hr
    exact exFunA_ok (n := 60) okC Try.func41 (by kernel_rfl) (eLeast' a b)
  · cases h
end Go.Proofs.Ytcefeamjnnkahaa
