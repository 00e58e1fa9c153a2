/-
  The functions that the statements of this seat call, one by one: called as told, whatever the world. Nothing here is trusted.
-/
import Derived.Test.YtlkmphmiegegbaaLOrd
namespace Go.Proofs.Ytlkmphmiegegbaa
open Go Vx

def Cq0 (P : Program) : Cx := Cl5 P
theorem okq0 : CxOk (Cq0 Try.prog) := okc5
/-- op.Power -/
theorem eq1 (a0 a1 a2 a3 a4 a5 a6 a7 a8 a9 a10 a11 b : Int) : exFun ((Cq0 Try.prog).at 23) 60 Try.f23 (pack [some 12, none] [a0, a1, a2, a3, a4, a5, a6, a7, a8, a9, a10, a11, b]) = tPower ⟨⟨a0, a1, a2, a3, a4, a5, a6, a7, a8⟩, ⟨a9, a10, a11⟩⟩ b := by kernel_rfl
def Fq_23 : List Int → Option Value
  | [a0, a1, a2, a3, a4, a5, a6, a7, a8, a9, a10, a11, b] => some (fPower ⟨⟨a0, a1, a2, a3, a4, a5, a6, a7, a8⟩, ⟨a9, a10, a11⟩⟩ b)
  | _ => none
def Cq1 (P : Program) : Cx := (Cq0 P).add 23 [some 12, none] Fq_23
theorem okq1 : CxOk (Cq1 Try.prog) := Cx.add_ok okq0 (n := 60) Try.func23 (by kernel_rfl) fun l v hl h => by
  match l, hl, h with
  | [a0, a1, a2, a3, a4, a5, a6, a7, a8, a9, a10, a11, b], _, hh => rw [eq1, tPower_eq]; exact hh
/-- facetref03.DocPower -/
theorem eq2 (a0 a1 a2 a3 a4 a5 a6 a7 a8 a9 a10 a11 b : Int) : exFun ((Cq1 Try.prog).at 24) 60 Try.f24 (pack [some 12, none] [a0, a1, a2, a3, a4, a5, a6, a7, a8, a9, a10, a11, b]) = tDocPower ⟨⟨a0, a1, a2, a3, a4, a5, a6, a7, a8⟩, ⟨a9, a10, a11⟩⟩ b := by kernel_rfl
def Fq_24 : List Int → Option Value
  | [a0, a1, a2, a3, a4, a5, a6, a7, a8, a9, a10, a11, b] => some (fPower ⟨⟨a0, a1, a2, a3, a4, a5, a6, a7, a8⟩, ⟨a9, a10, a11⟩⟩ b)
  | _ => none
def Cq2 (P : Program) : Cx := (Cq1 P).add 24 [some 12, none] Fq_24
theorem okq2 : CxOk (Cq2 Try.prog) := Cx.add_ok okq1 (n := 60) Try.func24 (by kernel_rfl) fun l v hl h => by
  match l, hl, h with
  | [a0, a1, a2, a3, a4, a5, a6, a7, a8, a9, a10, a11, b], _, hh => rw [eq2, tDocPower_eq]; exact hh
/-- facetref03.gcd -/
theorem eq3 (a b : Int) : exFun ((Cq2 Try.prog).at 61) 60 Try.f61 (pack [none, none] [a, b]) = tGcd a b := by kernel_rfl
def Fq_61 : List Int → Option (Bool × Value)
  | [a, b] => some ((posB a && posB b), vI (Int.gcd a b : Int))
  | _ => none
def Cq3 (P : Program) : Cx := (Cq2 P).addD 61 [none, none] Fq_61
theorem okq3 : CxOk (Cq3 Try.prog) := Cx.addD_ok okq2 (n := 60) Try.func61 (by kernel_rfl) fun l v hl h => by
  match l, hl, h with
  | [a, b], _, hh => simp only [Fq_61, Option.some.injEq, Prod.mk.injEq] at hh; rw [eq3, tGcd_eq hh.1, hh.2]
/-- op.Order -/
theorem eq4 (a0 a1 a2 a3 a4 a5 a6 a7 a8 a9 a10 a11 : Int) : exFun ((Cq3 Try.prog).at 25) 60 Try.f25 (pack [some 12] [a0, a1, a2, a3, a4, a5, a6, a7, a8, a9, a10, a11]) = tOOrder ⟨⟨a0, a1, a2, a3, a4, a5, a6, a7, a8⟩, ⟨a9, a10, a11⟩⟩ := by kernel_rfl
def Fq_25 : List Int → Option Value
  | [a0, a1, a2, a3, a4, a5, a6, a7, a8, a9, a10, a11] => some (fOOrder ⟨⟨a0, a1, a2, a3, a4, a5, a6, a7, a8⟩, ⟨a9, a10, a11⟩⟩)
  | _ => none
def Cq4 (P : Program) : Cx := (Cq3 P).add 25 [some 12] Fq_25
theorem okq4 : CxOk (Cq4 Try.prog) := Cx.add_ok okq3 (n := 60) Try.func25 (by kernel_rfl) fun l v hl h => by
  match l, hl, h with
  | [a0, a1, a2, a3, a4, a5, a6, a7, a8, a9, a10, a11], _, hh => rw [eq4, tOOrder_eq]; exact hh
/-- facetref03.DocOrder -/
theorem eq5 (a0 a1 a2 a3 a4 a5 a6 a7 a8 a9 a10 a11 : Int) : exFun ((Cq4 Try.prog).at 26) 60 Try.f26 (pack [some 12] [a0, a1, a2, a3, a4, a5, a6, a7, a8, a9, a10, a11]) = tDocOrder ⟨⟨a0, a1, a2, a3, a4, a5, a6, a7, a8⟩, ⟨a9, a10, a11⟩⟩ := by kernel_rfl
def Fq_26 : List Int → Option Value
  | [a0, a1, a2, a3, a4, a5, a6, a7, a8, a9, a10, a11] => some (fOOrder ⟨⟨a0, a1, a2, a3, a4, a5, a6, a7, a8⟩, ⟨a9, a10, a11⟩⟩)
  | _ => none
def Cq5 (P : Program) : Cx := (Cq4 P).add 26 [some 12] Fq_26
theorem okq5 : CxOk (Cq5 Try.prog) := Cx.add_ok okq4 (n := 60) Try.func26 (by kernel_rfl) fun l v hl h => by
  match l, hl, h with
  | [a0, a1, a2, a3, a4, a5, a6, a7, a8, a9, a10, a11], _, hh => rw [eq5, tDocOrder_eq]; exact hh
/-- facetref03.DocKind -/
theorem eq6 (a0 a1 a2 a3 a4 a5 a6 a7 a8 a9 a10 a11 : Int) : exFun ((Cq5 Try.prog).at 28) 60 Try.f28 (pack [some 12] [a0, a1, a2, a3, a4, a5, a6, a7, a8, a9, a10, a11]) = tDocKind ⟨⟨a0, a1, a2, a3, a4, a5, a6, a7, a8⟩, ⟨a9, a10, a11⟩⟩ := by kernel_rfl
def Fq_28 : List Int → Option Value
  | [a0, a1, a2, a3, a4, a5, a6, a7, a8, a9, a10, a11] => some (fKind ⟨⟨a0, a1, a2, a3, a4, a5, a6, a7, a8⟩, ⟨a9, a10, a11⟩⟩)
  | _ => none
def Cq6 (P : Program) : Cx := (Cq5 P).add 28 [some 12] Fq_28
theorem okq6 : CxOk (Cq6 Try.prog) := Cx.add_ok okq5 (n := 60) Try.func28 (by kernel_rfl) fun l v hl h => by
  match l, hl, h with
  | [a0, a1, a2, a3, a4, a5, a6, a7, a8, a9, a10, a11], _, hh => rw [eq6, tDocKind_eq]; exact hh

def CCq (P : Program) : Cx := Cq6 P
theorem okCq : CxOk (CCq Try.prog) := okq6

end Go.Proofs.Ytlkmphmiegegbaa
