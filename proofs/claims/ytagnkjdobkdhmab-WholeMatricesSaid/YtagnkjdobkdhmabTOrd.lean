/-
  The functions that the statements of this seat call, one by one: called as told, whatever the world. Nothing here is trusted.
-/
import Derived.Test.YtagnkjdobkdhmabLOrd
namespace Go.Proofs.Ytagnkjdobkdhmab
open Go Vx

def Cq0 (P : Program) : Cx := Cl2 P
theorem okq0 : CxOk (Cq0 Try.prog) := okc2
/-- op.Power -/
theorem eq1 (a0 a1 a2 a3 a4 a5 a6 a7 a8 a9 a10 a11 b : Int) : exFun ((Cq0 Try.prog).at 18) 60 Try.f18 (pack [some 12, none] [a0, a1, a2, a3, a4, a5, a6, a7, a8, a9, a10, a11, b]) = tPower ⟨⟨a0, a1, a2, a3, a4, a5, a6, a7, a8⟩, ⟨a9, a10, a11⟩⟩ b := by kernel_rfl
def Fq_18 : List Int → Option Value
  | [a0, a1, a2, a3, a4, a5, a6, a7, a8, a9, a10, a11, b] => some (fPower ⟨⟨a0, a1, a2, a3, a4, a5, a6, a7, a8⟩, ⟨a9, a10, a11⟩⟩ b)
  | _ => none
def Cq1 (P : Program) : Cx := (Cq0 P).add 18 [some 12, none] Fq_18
theorem okq1 : CxOk (Cq1 Try.prog) := Cx.add_ok okq0 (n := 60) Try.func18 (by kernel_rfl) fun l v hl h => by
  match l, hl, h with
  | [a0, a1, a2, a3, a4, a5, a6, a7, a8, a9, a10, a11, b], _, hh => rw [eq1, tPower_eq]; exact hh
/-- op.Order -/
theorem eq2 (a0 a1 a2 a3 a4 a5 a6 a7 a8 a9 a10 a11 : Int) : exFun ((Cq1 Try.prog).at 9) 60 Try.f9 (pack [some 12] [a0, a1, a2, a3, a4, a5, a6, a7, a8, a9, a10, a11]) = tOOrder ⟨⟨a0, a1, a2, a3, a4, a5, a6, a7, a8⟩, ⟨a9, a10, a11⟩⟩ := by kernel_rfl
def Fq_9 : List Int → Option Value
  | [a0, a1, a2, a3, a4, a5, a6, a7, a8, a9, a10, a11] => some (fOOrder ⟨⟨a0, a1, a2, a3, a4, a5, a6, a7, a8⟩, ⟨a9, a10, a11⟩⟩)
  | _ => none
def Cq2 (P : Program) : Cx := (Cq1 P).add 9 [some 12] Fq_9
theorem okq2 : CxOk (Cq2 Try.prog) := Cx.add_ok okq1 (n := 60) Try.func9 (by kernel_rfl) fun l v hl h => by
  match l, hl, h with
  | [a0, a1, a2, a3, a4, a5, a6, a7, a8, a9, a10, a11], _, hh => rw [eq2, tOOrder_eq]; exact hh

def CCq (P : Program) : Cx := Cq2 P
theorem okCq : CxOk (CCq Try.prog) := okq2

end Go.Proofs.Ytagnkjdobkdhmab
