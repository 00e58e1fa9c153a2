/-
  The functions that the statements of this seat call, one by one: called as told, whatever the world. Nothing here is trusted.
-/
import Derived.Test.YtlkmphmiegegbaaTLeast
import Derived.Test.YtlkmphmiegegbaaBasT
namespace Go.Proofs.Ytlkmphmiegegbaa
open Go Vx

def Co0 (P : Program) : Cx := CL P
theorem oko0 : CxOk (Co0 Try.prog) := okL
/-- op.checkMatrix -/
theorem eo1 (a0 a1 a2 a3 a4 a5 a6 a7 a8 : Int) : exFun ((Co0 Try.prog).at 36) 60 Try.f36 (pack [some 9] [a0, a1, a2, a3, a4, a5, a6, a7, a8]) = tCheckM ⟨a0, a1, a2, a3, a4, a5, a6, a7, a8⟩ := by kernel_rfl
def Fo_36 : List Int → Option Value
  | [a0, a1, a2, a3, a4, a5, a6, a7, a8] => some (fCheckM ⟨a0, a1, a2, a3, a4, a5, a6, a7, a8⟩)
  | _ => none
def Co1 (P : Program) : Cx := (Co0 P).add 36 [some 9] Fo_36
theorem oko1 : CxOk (Co1 Try.prog) := Cx.add_ok oko0 (n := 60) Try.func36 (by kernel_rfl) fun l v hl h => by
  match l, hl, h with
  | [a0, a1, a2, a3, a4, a5, a6, a7, a8], _, hh => rw [eo1, tCheckM_eq]; exact hh
/-- op.check -/
theorem eo2 (a0 a1 a2 a3 a4 a5 a6 a7 a8 a9 a10 a11 : Int) : exFun ((Co1 Try.prog).at 39) 60 Try.f39 (pack [some 12] [a0, a1, a2, a3, a4, a5, a6, a7, a8, a9, a10, a11]) = tOCheck ⟨⟨a0, a1, a2, a3, a4, a5, a6, a7, a8⟩, ⟨a9, a10, a11⟩⟩ := by kernel_rfl
def Fo_39 : List Int → Option Value
  | [a0, a1, a2, a3, a4, a5, a6, a7, a8, a9, a10, a11] => some (fOCheck ⟨⟨a0, a1, a2, a3, a4, a5, a6, a7, a8⟩, ⟨a9, a10, a11⟩⟩)
  | _ => none
def Co2 (P : Program) : Cx := (Co1 P).add 39 [some 12] Fo_39
theorem oko2 : CxOk (Co2 Try.prog) := Cx.add_ok oko1 (n := 60) Try.func39 (by kernel_rfl) fun l v hl h => by
  match l, hl, h with
  | [a0, a1, a2, a3, a4, a5, a6, a7, a8, a9, a10, a11], _, hh => rw [eo2, tOCheck_eq]; exact hh
/-- op.send -/
theorem eo3 (a0 a1 a2 a3 a4 a5 a6 a7 a8 a9 a10 a11 b0 b1 b2 : Int) : exFun ((Co2 Try.prog).at 47) 60 Try.f47 (pack [some 12, some 3] [a0, a1, a2, a3, a4, a5, a6, a7, a8, a9, a10, a11, b0, b1, b2]) = tSend ⟨⟨a0, a1, a2, a3, a4, a5, a6, a7, a8⟩, ⟨a9, a10, a11⟩⟩ ⟨b0, b1, b2⟩ := by kernel_rfl
def Fo_47 : List Int → Option Value
  | [a0, a1, a2, a3, a4, a5, a6, a7, a8, a9, a10, a11, b0, b1, b2] => some (fSend ⟨⟨a0, a1, a2, a3, a4, a5, a6, a7, a8⟩, ⟨a9, a10, a11⟩⟩ ⟨b0, b1, b2⟩)
  | _ => none
def Co3 (P : Program) : Cx := (Co2 P).add 47 [some 12, some 3] Fo_47
theorem oko3 : CxOk (Co3 Try.prog) := Cx.add_ok oko2 (n := 60) Try.func47 (by kernel_rfl) fun l v hl h => by
  match l, hl, h with
  | [a0, a1, a2, a3, a4, a5, a6, a7, a8, a9, a10, a11, b0, b1, b2], _, hh => rw [eo3, tSend_eq]; exact hh
/-- op.opposite -/
theorem eo4 (a0 a1 a2 a3 a4 a5 a6 a7 a8 : Int) : exFun ((Co3 Try.prog).at 63) 60 Try.f63 (pack [some 9] [a0, a1, a2, a3, a4, a5, a6, a7, a8]) = tOpposite ⟨a0, a1, a2, a3, a4, a5, a6, a7, a8⟩ := by kernel_rfl
def Fo_63 : List Int → Option Value
  | [a0, a1, a2, a3, a4, a5, a6, a7, a8] => some (fOpposite ⟨a0, a1, a2, a3, a4, a5, a6, a7, a8⟩)
  | _ => none
def Co4 (P : Program) : Cx := (Co3 P).add 63 [some 9] Fo_63
theorem oko4 : CxOk (Co4 Try.prog) := Cx.add_ok oko3 (n := 60) Try.func63 (by kernel_rfl) fun l v hl h => by
  match l, hl, h with
  | [a0, a1, a2, a3, a4, a5, a6, a7, a8], _, hh => rw [eo4, tOpposite_eq]; exact hh
/-- op.Form -/
theorem eo5 (a0 a1 a2 a3 a4 a5 a6 a7 a8 a9 a10 a11 : Int) : exFun ((Co4 Try.prog).at 15) 60 Try.f15 (pack [some 12] [a0, a1, a2, a3, a4, a5, a6, a7, a8, a9, a10, a11]) = tOForm ⟨⟨a0, a1, a2, a3, a4, a5, a6, a7, a8⟩, ⟨a9, a10, a11⟩⟩ := by kernel_rfl
def Fo_15 : List Int → Option Value
  | [a0, a1, a2, a3, a4, a5, a6, a7, a8, a9, a10, a11] => some (fOForm ⟨⟨a0, a1, a2, a3, a4, a5, a6, a7, a8⟩, ⟨a9, a10, a11⟩⟩)
  | _ => none
def Co5 (P : Program) : Cx := (Co4 P).add 15 [some 12] Fo_15
theorem oko5 : CxOk (Co5 Try.prog) := Cx.add_ok oko4 (n := 60) Try.func15 (by kernel_rfl) fun l v hl h => by
  match l, hl, h with
  | [a0, a1, a2, a3, a4, a5, a6, a7, a8, a9, a10, a11], _, hh => rw [eo5, tOForm_eq]; exact hh
/-- op.Make -/
theorem eo6 (a0 a1 a2 a3 a4 a5 a6 a7 a8 b0 b1 b2 : Int) : exFun ((Co5 Try.prog).at 13) 60 Try.f13 (pack [some 9, some 3] [a0, a1, a2, a3, a4, a5, a6, a7, a8, b0, b1, b2]) = tMake ⟨a0, a1, a2, a3, a4, a5, a6, a7, a8⟩ ⟨b0, b1, b2⟩ := by kernel_rfl
def Fo_13 : List Int → Option Value
  | [a0, a1, a2, a3, a4, a5, a6, a7, a8, b0, b1, b2] => some (fMake ⟨a0, a1, a2, a3, a4, a5, a6, a7, a8⟩ ⟨b0, b1, b2⟩)
  | _ => none
def Co6 (P : Program) : Cx := (Co5 P).add 13 [some 9, some 3] Fo_13
theorem oko6 : CxOk (Co6 Try.prog) := Cx.add_ok oko5 (n := 60) Try.func13 (by kernel_rfl) fun l v hl h => by
  match l, hl, h with
  | [a0, a1, a2, a3, a4, a5, a6, a7, a8, b0, b1, b2], _, hh => rw [eo6, tMake_eq]; exact hh
/-- op.One -/
theorem eo7 : exFun ((Co6 Try.prog).at 17) 60 Try.f17 (pack [] []) = tOne := by kernel_rfl
def Fo_17 : List Int → Option Value
  | [] => some (fOne)
  | _ => none
def Co7 (P : Program) : Cx := (Co6 P).add 17 [] Fo_17
theorem oko7 : CxOk (Co7 Try.prog) := Cx.add_ok oko6 (n := 60) Try.func17 (by kernel_rfl) fun l v hl h => by
  match l, hl, h with
  | [], _, hh => rw [eo7, tOne_eq]; exact hh
/-- op.Mul -/
theorem eo8 (a0 a1 a2 a3 a4 a5 a6 a7 a8 a9 a10 a11 b0 b1 b2 b3 b4 b5 b6 b7 b8 b9 b10 b11 : Int) : exFun ((Co7 Try.prog).at 19) 60 Try.f19 (pack [some 12, some 12] [a0, a1, a2, a3, a4, a5, a6, a7, a8, a9, a10, a11, b0, b1, b2, b3, b4, b5, b6, b7, b8, b9, b10, b11]) = tOMulN ⟨⟨a0, a1, a2, a3, a4, a5, a6, a7, a8⟩, ⟨a9, a10, a11⟩⟩ ⟨⟨b0, b1, b2, b3, b4, b5, b6, b7, b8⟩, ⟨b9, b10, b11⟩⟩ := by kernel_rfl
def Fo_19 : List Int → Option Value
  | [a0, a1, a2, a3, a4, a5, a6, a7, a8, a9, a10, a11, b0, b1, b2, b3, b4, b5, b6, b7, b8, b9, b10, b11] => some (fOMul ⟨⟨a0, a1, a2, a3, a4, a5, a6, a7, a8⟩, ⟨a9, a10, a11⟩⟩ ⟨⟨b0, b1, b2, b3, b4, b5, b6, b7, b8⟩, ⟨b9, b10, b11⟩⟩)
  | _ => none
def Co8 (P : Program) : Cx := (Co7 P).add 19 [some 12, some 12] Fo_19
theorem oko8 : CxOk (Co8 Try.prog) := Cx.add_ok oko7 (n := 60) Try.func19 (by kernel_rfl) fun l v hl h => by
  match l, hl, h with
  | [a0, a1, a2, a3, a4, a5, a6, a7, a8, a9, a10, a11, b0, b1, b2, b3, b4, b5, b6, b7, b8, b9, b10, b11], _, hh => rw [eo8, tOMulN_eq]; exact hh
/-- op.Inverse -/
theorem eo9 (a0 a1 a2 a3 a4 a5 a6 a7 a8 a9 a10 a11 : Int) : exFun ((Co8 Try.prog).at 21) 60 Try.f21 (pack [some 12] [a0, a1, a2, a3, a4, a5, a6, a7, a8, a9, a10, a11]) = tOInverse ⟨⟨a0, a1, a2, a3, a4, a5, a6, a7, a8⟩, ⟨a9, a10, a11⟩⟩ := by kernel_rfl
def Fo_21 : List Int → Option Value
  | [a0, a1, a2, a3, a4, a5, a6, a7, a8, a9, a10, a11] => some (fOInverse ⟨⟨a0, a1, a2, a3, a4, a5, a6, a7, a8⟩, ⟨a9, a10, a11⟩⟩)
  | _ => none
def Co9 (P : Program) : Cx := (Co8 P).add 21 [some 12] Fo_21
theorem oko9 : CxOk (Co9 Try.prog) := Cx.add_ok oko8 (n := 60) Try.func21 (by kernel_rfl) fun l v hl h => by
  match l, hl, h with
  | [a0, a1, a2, a3, a4, a5, a6, a7, a8, a9, a10, a11], _, hh => rw [eo9, tOInverse_eq]; exact hh
/-- op.Kind -/
theorem eo10 (a0 a1 a2 a3 a4 a5 a6 a7 a8 a9 a10 a11 : Int) : exFun ((Co9 Try.prog).at 27) 60 Try.f27 (pack [some 12] [a0, a1, a2, a3, a4, a5, a6, a7, a8, a9, a10, a11]) = tKind ⟨⟨a0, a1, a2, a3, a4, a5, a6, a7, a8⟩, ⟨a9, a10, a11⟩⟩ := by kernel_rfl
def Fo_27 : List Int → Option Value
  | [a0, a1, a2, a3, a4, a5, a6, a7, a8, a9, a10, a11] => some (fKind ⟨⟨a0, a1, a2, a3, a4, a5, a6, a7, a8⟩, ⟨a9, a10, a11⟩⟩)
  | _ => none
def Co10 (P : Program) : Cx := (Co9 P).add 27 [some 12] Fo_27
theorem oko10 : CxOk (Co10 Try.prog) := Cx.add_ok oko9 (n := 60) Try.func27 (by kernel_rfl) fun l v hl h => by
  match l, hl, h with
  | [a0, a1, a2, a3, a4, a5, a6, a7, a8, a9, a10, a11], _, hh => rw [eo10, tKind_eq]; exact hh
/-- op.Apply -/
theorem eo11 (a0 a1 a2 a3 a4 a5 a6 a7 a8 a9 a10 a11 b0 b1 b2 b3 : Int) : exFun ((Co10 Try.prog).at 29) 60 Try.f29 (pack [some 12, some 4] [a0, a1, a2, a3, a4, a5, a6, a7, a8, a9, a10, a11, b0, b1, b2, b3]) = tOApplyN ⟨⟨a0, a1, a2, a3, a4, a5, a6, a7, a8⟩, ⟨a9, a10, a11⟩⟩ ⟨b0, ⟨b1, b2, b3⟩⟩ := by kernel_rfl
def Fo_29 : List Int → Option Value
  | [a0, a1, a2, a3, a4, a5, a6, a7, a8, a9, a10, a11, b0, b1, b2, b3] => some (fOApply ⟨⟨a0, a1, a2, a3, a4, a5, a6, a7, a8⟩, ⟨a9, a10, a11⟩⟩ ⟨b0, ⟨b1, b2, b3⟩⟩)
  | _ => none
def Co11 (P : Program) : Cx := (Co10 P).add 29 [some 12, some 4] Fo_29
theorem oko11 : CxOk (Co11 Try.prog) := Cx.add_ok oko10 (n := 60) Try.func29 (by kernel_rfl) fun l v hl h => by
  match l, hl, h with
  | [a0, a1, a2, a3, a4, a5, a6, a7, a8, a9, a10, a11, b0, b1, b2, b3], _, hh => rw [eo11, tOApplyN_eq]; exact hh
/-- facetref03.Mod -/
theorem eo12 (a b : Int) : exFun ((Co11 Try.prog).at 73) 60 Try.f73 (pack [none, none] [a, b]) = tMod a b := by kernel_rfl
def Fo_73 : List Int → Option (Bool × Value)
  | [a, b] => some (modB b, vI (a % b))
  | _ => none
def Co12 (P : Program) : Cx := (Co11 P).addD 73 [none, none] Fo_73
theorem oko12 : CxOk (Co12 Try.prog) := Cx.addD_ok oko11 (n := 60) Try.func73 (by kernel_rfl) fun l v hl h => by
  match l, hl, h with
  | [a, b], _, hh => simp only [Fo_73, Option.some.injEq, Prod.mk.injEq] at hh; rw [eo12, tMod_eq hh.1, hh.2]
/-- facetref03.Det -/
theorem eo13 (a0 a1 a2 a3 a4 a5 a6 a7 a8 : Int) : exFun ((Co12 Try.prog).at 42) 60 Try.f42 (pack [some 9] [a0, a1, a2, a3, a4, a5, a6, a7, a8]) = tRDet ⟨a0, a1, a2, a3, a4, a5, a6, a7, a8⟩ := by kernel_rfl
def Fo_42 : List Int → Option Value
  | [a0, a1, a2, a3, a4, a5, a6, a7, a8] => some (fRDet ⟨a0, a1, a2, a3, a4, a5, a6, a7, a8⟩)
  | _ => none
def Co13 (P : Program) : Cx := (Co12 P).add 42 [some 9] Fo_42
theorem oko13 : CxOk (Co13 Try.prog) := Cx.add_ok oko12 (n := 60) Try.func42 (by kernel_rfl) fun l v hl h => by
  match l, hl, h with
  | [a0, a1, a2, a3, a4, a5, a6, a7, a8], _, hh => rw [eo13, tRDet_eq]; exact hh
/-- facetref03.Within -/
theorem eo14 (a0 a1 a2 a3 a4 a5 a6 a7 a8 : Int) : exFun ((Co13 Try.prog).at 40) 60 Try.f40 (pack [some 9] [a0, a1, a2, a3, a4, a5, a6, a7, a8]) = tWithinM ⟨a0, a1, a2, a3, a4, a5, a6, a7, a8⟩ := by kernel_rfl
def Fo_40 : List Int → Option Value
  | [a0, a1, a2, a3, a4, a5, a6, a7, a8] => some (fWithinM ⟨a0, a1, a2, a3, a4, a5, a6, a7, a8⟩)
  | _ => none
def Co14 (P : Program) : Cx := (Co13 P).add 40 [some 9] Fo_40
theorem oko14 : CxOk (Co14 Try.prog) := Cx.add_ok oko13 (n := 60) Try.func40 (by kernel_rfl) fun l v hl h => by
  match l, hl, h with
  | [a0, a1, a2, a3, a4, a5, a6, a7, a8], _, hh => rw [eo14, tWithinM_eq]; exact hh
/-- facetref03.Part -/
theorem eo15 (a0 a1 a2 : Int) : exFun ((Co14 Try.prog).at 41) 60 Try.f41 (pack [some 3] [a0, a1, a2]) = tPart ⟨a0, a1, a2⟩ := by kernel_rfl
def Fo_41 : List Int → Option Value
  | [a0, a1, a2] => some (fPart ⟨a0, a1, a2⟩)
  | _ => none
def Co15 (P : Program) : Cx := (Co14 P).add 41 [some 3] Fo_41
theorem oko15 : CxOk (Co15 Try.prog) := Cx.add_ok oko14 (n := 60) Try.func41 (by kernel_rfl) fun l v hl h => by
  match l, hl, h with
  | [a0, a1, a2], _, hh => rw [eo15, tPart_eq]; exact hh
/-- facetref03.Times -/
theorem eo16 (a0 a1 a2 a3 a4 a5 a6 a7 a8 b0 b1 b2 b3 b4 b5 b6 b7 b8 : Int) : exFun ((Co15 Try.prog).at 76) 60 Try.f76 (pack [some 9, some 9] [a0, a1, a2, a3, a4, a5, a6, a7, a8, b0, b1, b2, b3, b4, b5, b6, b7, b8]) = tTimesM ⟨a0, a1, a2, a3, a4, a5, a6, a7, a8⟩ ⟨b0, b1, b2, b3, b4, b5, b6, b7, b8⟩ := by kernel_rfl
def Fo_76 : List Int → Option Value
  | [a0, a1, a2, a3, a4, a5, a6, a7, a8, b0, b1, b2, b3, b4, b5, b6, b7, b8] => some (fTimesM ⟨a0, a1, a2, a3, a4, a5, a6, a7, a8⟩ ⟨b0, b1, b2, b3, b4, b5, b6, b7, b8⟩)
  | _ => none
def Co16 (P : Program) : Cx := (Co15 P).add 76 [some 9, some 9] Fo_76
theorem oko16 : CxOk (Co16 Try.prog) := Cx.add_ok oko15 (n := 60) Try.func76 (by kernel_rfl) fun l v hl h => by
  match l, hl, h with
  | [a0, a1, a2, a3, a4, a5, a6, a7, a8, b0, b1, b2, b3, b4, b5, b6, b7, b8], _, hh => rw [eo16, tTimesM_eq]; exact hh
/-- facetref03.Column -/
theorem eo17 (a0 a1 a2 a3 a4 a5 a6 a7 a8 b0 b1 b2 : Int) : exFun ((Co16 Try.prog).at 60) 60 Try.f60 (pack [some 9, some 3] [a0, a1, a2, a3, a4, a5, a6, a7, a8, b0, b1, b2]) = tColumn ⟨a0, a1, a2, a3, a4, a5, a6, a7, a8⟩ ⟨b0, b1, b2⟩ := by kernel_rfl
def Fo_60 : List Int → Option Value
  | [a0, a1, a2, a3, a4, a5, a6, a7, a8, b0, b1, b2] => some (fColumn ⟨a0, a1, a2, a3, a4, a5, a6, a7, a8⟩ ⟨b0, b1, b2⟩)
  | _ => none
def Co17 (P : Program) : Cx := (Co16 P).add 60 [some 9, some 3] Fo_60
theorem oko17 : CxOk (Co17 Try.prog) := Cx.add_ok oko16 (n := 60) Try.func60 (by kernel_rfl) fun l v hl h => by
  match l, hl, h with
  | [a0, a1, a2, a3, a4, a5, a6, a7, a8, b0, b1, b2], _, hh => rw [eo17, tColumn_eq]; exact hh
/-- facetref03.Bring -/
theorem eo18 (a0 a1 a2 b : Int) : exFun ((Co17 Try.prog).at 38) 60 Try.f38 (pack [some 3, none] [a0, a1, a2, b]) = tBring ⟨a0, a1, a2⟩ b := by kernel_rfl
def Fo_38 : List Int → Option (Bool × Value)
  | [a0, a1, a2, b] => some (modB b, (V3.md b ⟨a0, a1, a2⟩).v)
  | _ => none
def Co18 (P : Program) : Cx := (Co17 P).addD 38 [some 3, none] Fo_38
theorem oko18 : CxOk (Co18 Try.prog) := Cx.addD_ok oko17 (n := 60) Try.func38 (by kernel_rfl) fun l v hl h => by
  match l, hl, h with
  | [a0, a1, a2, b], _, hh => simp only [Fo_38, Option.some.injEq, Prod.mk.injEq] at hh; rw [eo18, tBring_eq hh.1, hh.2]
/-- facetref03.Add -/
theorem eo19 (a0 a1 a2 b0 b1 b2 : Int) : exFun ((Co18 Try.prog).at 59) 60 Try.f59 (pack [some 3, some 3] [a0, a1, a2, b0, b1, b2]) = tRAdd ⟨a0, a1, a2⟩ ⟨b0, b1, b2⟩ := by kernel_rfl
def Fo_59 : List Int → Option Value
  | [a0, a1, a2, b0, b1, b2] => some (fRAdd ⟨a0, a1, a2⟩ ⟨b0, b1, b2⟩)
  | _ => none
def Co19 (P : Program) : Cx := (Co18 P).add 59 [some 3, some 3] Fo_59
theorem oko19 : CxOk (Co19 Try.prog) := Cx.add_ok oko18 (n := 60) Try.func59 (by kernel_rfl) fun l v hl h => by
  match l, hl, h with
  | [a0, a1, a2, b0, b1, b2], _, hh => rw [eo19, tRAdd_eq]; exact hh

def CCo (P : Program) : Cx := Co19 P
theorem okCo : CxOk (CCo Try.prog) := oko19

end Go.Proofs.Ytlkmphmiegegbaa
