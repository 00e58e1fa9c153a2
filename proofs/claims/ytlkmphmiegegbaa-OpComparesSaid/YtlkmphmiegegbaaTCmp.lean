/-
  The functions that the statements of this seat call, one by one: called as told, whatever the world. Nothing here is trusted.
-/
import Derived.Test.YtlkmphmiegegbaaTOrd
import Derived.Test.YtlkmphmiegegbaaCmpT
namespace Go.Proofs.Ytlkmphmiegegbaa
open Go Vx

def Ck0 (P : Program) : Cx := CCq P
theorem okk0 : CxOk (Ck0 Try.prog) := okCq
/-- cmp.isNaN[int] -/
theorem ek1 (a : Int) : exFun ((Ck0 Try.prog).at 89) 60 Try.f89 (pack [none] [a]) = tNaN a := by kernel_rfl
def Fk_89 : List Int → Option Value
  | [a] => some (fNaN a)
  | _ => none
def Ck1 (P : Program) : Cx := (Ck0 P).add 89 [none] Fk_89
theorem okk1 : CxOk (Ck1 Try.prog) := Cx.add_ok okk0 (n := 60) Try.func89 (by kernel_rfl) fun l v hl h => by
  match l, hl, h with
  | [a], _, hh => rw [ek1, tNaN_eq]; exact hh
/-- cmp.Compare[int] -/
theorem ek2 (a b : Int) : exFun ((Ck1 Try.prog).at 85) 60 Try.f85 (pack [none, none] [a, b]) = tCmp a b := by kernel_rfl
def Fk_85 : List Int → Option Value
  | [a, b] => some (fCmp a b)
  | _ => none
def Ck2 (P : Program) : Cx := (Ck1 P).add 85 [none, none] Fk_85
theorem okk2 : CxOk (Ck2 Try.prog) := Cx.add_ok okk1 (n := 60) Try.func85 (by kernel_rfl) fun l v hl h => by
  match l, hl, h with
  | [a, b], _, hh => rw [ek2, tCmp_eq]; exact hh
/-- vec.Compare -/
theorem ek3 (a0 a1 a2 a3 a4 a5 a6 a7 a8 b0 b1 b2 b3 b4 b5 b6 b7 b8 : Int) : exFun ((Ck2 Try.prog).at 68) 60 Try.f68 (pack [some 9, some 9] [a0, a1, a2, a3, a4, a5, a6, a7, a8, b0, b1, b2, b3, b4, b5, b6, b7, b8]) = tVCompare ⟨a0, a1, a2, a3, a4, a5, a6, a7, a8⟩ ⟨b0, b1, b2, b3, b4, b5, b6, b7, b8⟩ := by kernel_rfl
def Fk_68 : List Int → Option Value
  | [a0, a1, a2, a3, a4, a5, a6, a7, a8, b0, b1, b2, b3, b4, b5, b6, b7, b8] => some (fVCompare ⟨a0, a1, a2, a3, a4, a5, a6, a7, a8⟩ ⟨b0, b1, b2, b3, b4, b5, b6, b7, b8⟩)
  | _ => none
def Ck3 (P : Program) : Cx := (Ck2 P).add 68 [some 9, some 9] Fk_68
theorem okk3 : CxOk (Ck3 Try.prog) := Cx.add_ok okk2 (n := 60) Try.func68 (by kernel_rfl) fun l v hl h => by
  match l, hl, h with
  | [a0, a1, a2, a3, a4, a5, a6, a7, a8, b0, b1, b2, b3, b4, b5, b6, b7, b8], _, hh => rw [ek3, tVCompare_eq]; exact hh
/-- op.Compare -/
theorem ek4 (a0 a1 a2 a3 a4 a5 a6 a7 a8 a9 a10 a11 b0 b1 b2 b3 b4 b5 b6 b7 b8 b9 b10 b11 : Int) : exFun ((Ck3 Try.prog).at 32) 60 Try.f32 (pack [some 12, some 12] [a0, a1, a2, a3, a4, a5, a6, a7, a8, a9, a10, a11, b0, b1, b2, b3, b4, b5, b6, b7, b8, b9, b10, b11]) = tOCompare ⟨⟨a0, a1, a2, a3, a4, a5, a6, a7, a8⟩, ⟨a9, a10, a11⟩⟩ ⟨⟨b0, b1, b2, b3, b4, b5, b6, b7, b8⟩, ⟨b9, b10, b11⟩⟩ := by kernel_rfl
def Fk_32 : List Int → Option Value
  | [a0, a1, a2, a3, a4, a5, a6, a7, a8, a9, a10, a11, b0, b1, b2, b3, b4, b5, b6, b7, b8, b9, b10, b11] => some (fOCompare ⟨⟨a0, a1, a2, a3, a4, a5, a6, a7, a8⟩, ⟨a9, a10, a11⟩⟩ ⟨⟨b0, b1, b2, b3, b4, b5, b6, b7, b8⟩, ⟨b9, b10, b11⟩⟩)
  | _ => none
def Ck4 (P : Program) : Cx := (Ck3 P).add 32 [some 12, some 12] Fk_32
theorem okk4 : CxOk (Ck4 Try.prog) := Cx.add_ok okk3 (n := 60) Try.func32 (by kernel_rfl) fun l v hl h => by
  match l, hl, h with
  | [a0, a1, a2, a3, a4, a5, a6, a7, a8, a9, a10, a11, b0, b1, b2, b3, b4, b5, b6, b7, b8, b9, b10, b11], _, hh => rw [ek4, tOCompare_eq]; exact hh
/-- facetref03.Compare -/
theorem ek5 (a0 a1 a2 a3 a4 a5 a6 a7 a8 a9 a10 a11 b0 b1 b2 b3 b4 b5 b6 b7 b8 b9 b10 b11 : Int) : exFun ((Ck4 Try.prog).at 33) 60 Try.f33 (pack [some 12, some 12] [a0, a1, a2, a3, a4, a5, a6, a7, a8, a9, a10, a11, b0, b1, b2, b3, b4, b5, b6, b7, b8, b9, b10, b11]) = tRCompare ⟨⟨a0, a1, a2, a3, a4, a5, a6, a7, a8⟩, ⟨a9, a10, a11⟩⟩ ⟨⟨b0, b1, b2, b3, b4, b5, b6, b7, b8⟩, ⟨b9, b10, b11⟩⟩ := by kernel_rfl
def Fk_33 : List Int → Option Value
  | [a0, a1, a2, a3, a4, a5, a6, a7, a8, a9, a10, a11, b0, b1, b2, b3, b4, b5, b6, b7, b8, b9, b10, b11] => some (fOCompare ⟨⟨a0, a1, a2, a3, a4, a5, a6, a7, a8⟩, ⟨a9, a10, a11⟩⟩ ⟨⟨b0, b1, b2, b3, b4, b5, b6, b7, b8⟩, ⟨b9, b10, b11⟩⟩)
  | _ => none
def Ck5 (P : Program) : Cx := (Ck4 P).add 33 [some 12, some 12] Fk_33
theorem okk5 : CxOk (Ck5 Try.prog) := Cx.add_ok okk4 (n := 60) Try.func33 (by kernel_rfl) fun l v hl h => by
  match l, hl, h with
  | [a0, a1, a2, a3, a4, a5, a6, a7, a8, a9, a10, a11, b0, b1, b2, b3, b4, b5, b6, b7, b8, b9, b10, b11], _, hh => rw [ek5, tRCompare_eq]; exact hh

def CCk (P : Program) : Cx := Ck5 P
theorem okCk : CxOk (CCk Try.prog) := okk5

end Go.Proofs.Ytlkmphmiegegbaa
