/-
  The functions that the statements of this seat call, one by one: called as told, whatever the world. Nothing here is trusted.
-/
import Derived.Test.YtjpfnfckpgilgaaGreatHCkT
namespace Go.Proofs.YtjpfnfckpgilgaaGreat
open Go Vx

def Cck0 (P : Program) : Cx := Ckp P
theorem okck0 : CxOk (Cck0 Tryz.prog) := okkp
/-- facetref11.Det -/
theorem eck1 (a0 a1 a2 a3 a4 a5 : Int) : exFun ((Cck0 Tryz.prog).at 117) 60 Tryz.f117 (pack [some 6] [a0, a1, a2, a3, a4, a5]) = tR11Det ⟨a0, a1, a2, a3, a4, a5⟩ := by kernel_rfl
def Fck_117 : List Int → Option Value
  | [a0, a1, a2, a3, a4, a5] => some (fGDet ⟨a0, a1, a2, a3, a4, a5⟩)
  | _ => none
def Cck1 (P : Program) : Cx := (Cck0 P).add 117 [some 6] Fck_117
theorem okck1 : CxOk (Cck1 Tryz.prog) := Cx.add_ok okck0 (n := 60) Tryz.func117 (by kernel_rfl) fun l v hl h => by
  match l, hl, h with
  | [a0, a1, a2, a3, a4, a5], _, hh => rw [eck1, tR11Det_eq]; exact hh
/-- facetref11.DocCheck -/
theorem eck2 (a0 a1 a2 a3 a4 a5 : Int) : exFun ((Cck1 Tryz.prog).at 62) 60 Tryz.f62 (pack [some 6] [a0, a1, a2, a3, a4, a5]) = tDocCheck ⟨a0, a1, a2, a3, a4, a5⟩ := by kernel_rfl
def Fck_62 : List Int → Option Value
  | [a0, a1, a2, a3, a4, a5] => some (fMck ⟨a0, a1, a2, a3, a4, a5⟩)
  | _ => none
def Cck2 (P : Program) : Cx := (Cck1 P).add 62 [some 6] Fck_62
theorem okck2 : CxOk (Cck2 Tryz.prog) := Cx.add_ok okck1 (n := 60) Tryz.func62 (by kernel_rfl) fun l v hl h => by
  match l, hl, h with
  | [a0, a1, a2, a3, a4, a5], _, hh => rw [eck2, tDocCheck_eq]; exact hh
/-- facetref11.least -/
theorem eck3 (a b : Int) : exFun ((Cck2 Tryz.prog).at 61) 60 Tryz.f61 (pack [none, none] [a, b]) = tR11L a b := by kernel_rfl
def Fck_61 : List Int → Option Value
  | [a, b] => some (fR11L a b)
  | _ => none
def Cck3 (P : Program) : Cx := (Cck2 P).add 61 [none, none] Fck_61
theorem okck3 : CxOk (Cck3 Tryz.prog) := Cx.add_ok okck2 (n := 60) Tryz.func61 (by kernel_rfl) fun l v hl h => by
  match l, hl, h with
  | [a, b], _, hh => rw [eck3, tR11L_eq]; exact hh
/-- facetref11.Matrix -/
theorem eck4 (a0 a1 a2 a3 a4 a5 : Int) : exFun ((Cck3 Tryz.prog).at 65) 60 Tryz.f65 (pack [some 6] [a0, a1, a2, a3, a4, a5]) = tPMatrix ⟨a0, a1, a2, a3, a4, a5⟩ := by kernel_rfl
def Fck_65 : List Int → Option Value
  | [a0, a1, a2, a3, a4, a5] => some (fPMatrix ⟨a0, a1, a2, a3, a4, a5⟩)
  | _ => none
def Cck4 (P : Program) : Cx := (Cck3 P).add 65 [some 6] Fck_65
theorem okck4 : CxOk (Cck4 Tryz.prog) := Cx.add_ok okck3 (n := 60) Tryz.func65 (by kernel_rfl) fun l v hl h => by
  match l, hl, h with
  | [a0, a1, a2, a3, a4, a5], _, hh => rw [eck4, tPMatrix_eq]; exact hh
/-- facetref11.keeps -/
theorem eck5 (a0 a1 a2 a3 a4 a5 a6 a7 a8 b0 b1 b2 b3 b4 b5 b6 b7 b8 : Int) : exFun ((Cck4 Tryz.prog).at 64) 60 Tryz.f64 (pack [some 9, some 9] [a0, a1, a2, a3, a4, a5, a6, a7, a8, b0, b1, b2, b3, b4, b5, b6, b7, b8]) = tKeepR ⟨a0, a1, a2, a3, a4, a5, a6, a7, a8⟩ ⟨b0, b1, b2, b3, b4, b5, b6, b7, b8⟩ := by kernel_rfl
def Fck_64 : List Int → Option Value
  | [a0, a1, a2, a3, a4, a5, a6, a7, a8, b0, b1, b2, b3, b4, b5, b6, b7, b8] => some (fKeepR ⟨a0, a1, a2, a3, a4, a5, a6, a7, a8⟩ ⟨b0, b1, b2, b3, b4, b5, b6, b7, b8⟩)
  | _ => none
def Cck5 (P : Program) : Cx := (Cck4 P).add 64 [some 9, some 9] Fck_64
theorem okck5 : CxOk (Cck5 Tryz.prog) := Cx.add_ok okck4 (n := 60) Tryz.func64 (by kernel_rfl) fun l v hl h => by
  match l, hl, h with
  | [a0, a1, a2, a3, a4, a5, a6, a7, a8, b0, b1, b2, b3, b4, b5, b6, b7, b8], _, hh => rw [eck5, tKeepR_eq]; exact hh

def CCck (P : Program) : Cx := Cck5 P
theorem okCck : CxOk (CCck Tryz.prog) := okck5

end Go.Proofs.YtjpfnfckpgilgaaGreat
