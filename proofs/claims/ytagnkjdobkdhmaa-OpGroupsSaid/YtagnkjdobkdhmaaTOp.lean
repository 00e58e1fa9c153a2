/-
  The functions that the statements of this seat call, one by one: called as told, whatever the world. Nothing here is trusted.
-/
import Derived.Test.YtagnkjdobkdhmaaTVec
import Derived.Test.YtagnkjdobkdhmaaOpT
namespace Go.Proofs.Ytagnkjdobkdhmaa
open Go Vx

def Co0 (P : Program) : Cx := CC P
theorem oko0 : CxOk (Co0 Try.prog) := okC
/-- op.checkMatrix -/
theorem eo1 (a0 a1 a2 a3 a4 a5 a6 a7 a8 : Int) : exFun ((Co0 Try.prog).at 30) 60 Try.f30 (pack [some 9] [a0, a1, a2, a3, a4, a5, a6, a7, a8]) = tCheckM ⟨a0, a1, a2, a3, a4, a5, a6, a7, a8⟩ := by kernel_rfl
def Fo_30 : List Int → Option Value
  | [a0, a1, a2, a3, a4, a5, a6, a7, a8] => some (fCheckM ⟨a0, a1, a2, a3, a4, a5, a6, a7, a8⟩)
  | _ => none
def Co1 (P : Program) : Cx := (Co0 P).add 30 [some 9] Fo_30
theorem oko1 : CxOk (Co1 Try.prog) := Cx.add_ok oko0 (n := 60) Try.func30 (by kernel_rfl) fun l v hl h => by
  match l, hl, h with
  | [a0, a1, a2, a3, a4, a5, a6, a7, a8], _, hh => rw [eo1, tCheckM_eq]; exact hh
/-- op.check -/
theorem eo2 (a0 a1 a2 a3 a4 a5 a6 a7 a8 a9 a10 a11 : Int) : exFun ((Co1 Try.prog).at 33) 60 Try.f33 (pack [some 12] [a0, a1, a2, a3, a4, a5, a6, a7, a8, a9, a10, a11]) = tOCheck ⟨⟨a0, a1, a2, a3, a4, a5, a6, a7, a8⟩, ⟨a9, a10, a11⟩⟩ := by kernel_rfl
def Fo_33 : List Int → Option Value
  | [a0, a1, a2, a3, a4, a5, a6, a7, a8, a9, a10, a11] => some (fOCheck ⟨⟨a0, a1, a2, a3, a4, a5, a6, a7, a8⟩, ⟨a9, a10, a11⟩⟩)
  | _ => none
def Co2 (P : Program) : Cx := (Co1 P).add 33 [some 12] Fo_33
theorem oko2 : CxOk (Co2 Try.prog) := Cx.add_ok oko1 (n := 60) Try.func33 (by kernel_rfl) fun l v hl h => by
  match l, hl, h with
  | [a0, a1, a2, a3, a4, a5, a6, a7, a8, a9, a10, a11], _, hh => rw [eo2, tOCheck_eq]; exact hh
/-- op.least -/
theorem eo3 (a b : Int) : exFun ((Co2 Try.prog).at 38) 60 Try.f38 (pack [none, none] [a, b]) = tLeast a b := by kernel_rfl
def Fo_38 : List Int → Option Value
  | [a, b] => some (fLeast a b)
  | _ => none
def Co3 (P : Program) : Cx := (Co2 P).add 38 [none, none] Fo_38
theorem oko3 : CxOk (Co3 Try.prog) := Cx.add_ok oko2 (n := 60) Try.func38 (by kernel_rfl) fun l v hl h => by
  match l, hl, h with
  | [a, b], _, hh => rw [eo3, tLeast_eq]; exact hh
/-- op.send -/
theorem eo4 (a0 a1 a2 a3 a4 a5 a6 a7 a8 a9 a10 a11 b0 b1 b2 : Int) : exFun ((Co3 Try.prog).at 41) 60 Try.f41 (pack [some 12, some 3] [a0, a1, a2, a3, a4, a5, a6, a7, a8, a9, a10, a11, b0, b1, b2]) = tSend ⟨⟨a0, a1, a2, a3, a4, a5, a6, a7, a8⟩, ⟨a9, a10, a11⟩⟩ ⟨b0, b1, b2⟩ := by kernel_rfl
def Fo_41 : List Int → Option Value
  | [a0, a1, a2, a3, a4, a5, a6, a7, a8, a9, a10, a11, b0, b1, b2] => some (fSend ⟨⟨a0, a1, a2, a3, a4, a5, a6, a7, a8⟩, ⟨a9, a10, a11⟩⟩ ⟨b0, b1, b2⟩)
  | _ => none
def Co4 (P : Program) : Cx := (Co3 P).add 41 [some 12, some 3] Fo_41
theorem oko4 : CxOk (Co4 Try.prog) := Cx.add_ok oko3 (n := 60) Try.func41 (by kernel_rfl) fun l v hl h => by
  match l, hl, h with
  | [a0, a1, a2, a3, a4, a5, a6, a7, a8, a9, a10, a11, b0, b1, b2], _, hh => rw [eo4, tSend_eq]; exact hh
/-- op.opposite -/
theorem eo5 (a0 a1 a2 a3 a4 a5 a6 a7 a8 : Int) : exFun ((Co4 Try.prog).at 57) 60 Try.f57 (pack [some 9] [a0, a1, a2, a3, a4, a5, a6, a7, a8]) = tOpposite ⟨a0, a1, a2, a3, a4, a5, a6, a7, a8⟩ := by kernel_rfl
def Fo_57 : List Int → Option Value
  | [a0, a1, a2, a3, a4, a5, a6, a7, a8] => some (fOpposite ⟨a0, a1, a2, a3, a4, a5, a6, a7, a8⟩)
  | _ => none
def Co5 (P : Program) : Cx := (Co4 P).add 57 [some 9] Fo_57
theorem oko5 : CxOk (Co5 Try.prog) := Cx.add_ok oko4 (n := 60) Try.func57 (by kernel_rfl) fun l v hl h => by
  match l, hl, h with
  | [a0, a1, a2, a3, a4, a5, a6, a7, a8], _, hh => rw [eo5, tOpposite_eq]; exact hh
/-- op.Form -/
theorem eo6 (a0 a1 a2 a3 a4 a5 a6 a7 a8 a9 a10 a11 : Int) : exFun ((Co5 Try.prog).at 12) 60 Try.f12 (pack [some 12] [a0, a1, a2, a3, a4, a5, a6, a7, a8, a9, a10, a11]) = tOForm ⟨⟨a0, a1, a2, a3, a4, a5, a6, a7, a8⟩, ⟨a9, a10, a11⟩⟩ := by kernel_rfl
def Fo_12 : List Int → Option Value
  | [a0, a1, a2, a3, a4, a5, a6, a7, a8, a9, a10, a11] => some (fOForm ⟨⟨a0, a1, a2, a3, a4, a5, a6, a7, a8⟩, ⟨a9, a10, a11⟩⟩)
  | _ => none
def Co6 (P : Program) : Cx := (Co5 P).add 12 [some 12] Fo_12
theorem oko6 : CxOk (Co6 Try.prog) := Cx.add_ok oko5 (n := 60) Try.func12 (by kernel_rfl) fun l v hl h => by
  match l, hl, h with
  | [a0, a1, a2, a3, a4, a5, a6, a7, a8, a9, a10, a11], _, hh => rw [eo6, tOForm_eq]; exact hh
/-- op.Make -/
theorem eo7 (a0 a1 a2 a3 a4 a5 a6 a7 a8 b0 b1 b2 : Int) : exFun ((Co6 Try.prog).at 10) 60 Try.f10 (pack [some 9, some 3] [a0, a1, a2, a3, a4, a5, a6, a7, a8, b0, b1, b2]) = tMake ⟨a0, a1, a2, a3, a4, a5, a6, a7, a8⟩ ⟨b0, b1, b2⟩ := by kernel_rfl
def Fo_10 : List Int → Option Value
  | [a0, a1, a2, a3, a4, a5, a6, a7, a8, b0, b1, b2] => some (fMake ⟨a0, a1, a2, a3, a4, a5, a6, a7, a8⟩ ⟨b0, b1, b2⟩)
  | _ => none
def Co7 (P : Program) : Cx := (Co6 P).add 10 [some 9, some 3] Fo_10
theorem oko7 : CxOk (Co7 Try.prog) := Cx.add_ok oko6 (n := 60) Try.func10 (by kernel_rfl) fun l v hl h => by
  match l, hl, h with
  | [a0, a1, a2, a3, a4, a5, a6, a7, a8, b0, b1, b2], _, hh => rw [eo7, tMake_eq]; exact hh
/-- op.One -/
theorem eo8 : exFun ((Co7 Try.prog).at 14) 60 Try.f14 (pack [] []) = tOne := by kernel_rfl
def Fo_14 : List Int → Option Value
  | [] => some (fOne)
  | _ => none
def Co8 (P : Program) : Cx := (Co7 P).add 14 [] Fo_14
theorem oko8 : CxOk (Co8 Try.prog) := Cx.add_ok oko7 (n := 60) Try.func14 (by kernel_rfl) fun l v hl h => by
  match l, hl, h with
  | [], _, hh => rw [eo8, tOne_eq]; exact hh
/-- op.Mul -/
theorem eo9 (a0 a1 a2 a3 a4 a5 a6 a7 a8 a9 a10 a11 b0 b1 b2 b3 b4 b5 b6 b7 b8 b9 b10 b11 : Int) : exFun ((Co8 Try.prog).at 16) 60 Try.f16 (pack [some 12, some 12] [a0, a1, a2, a3, a4, a5, a6, a7, a8, a9, a10, a11, b0, b1, b2, b3, b4, b5, b6, b7, b8, b9, b10, b11]) = tOMul ⟨⟨a0, a1, a2, a3, a4, a5, a6, a7, a8⟩, ⟨a9, a10, a11⟩⟩ ⟨⟨b0, b1, b2, b3, b4, b5, b6, b7, b8⟩, ⟨b9, b10, b11⟩⟩ := by kernel_rfl
def Fo_16 : List Int → Option Value
  | [a0, a1, a2, a3, a4, a5, a6, a7, a8, a9, a10, a11, b0, b1, b2, b3, b4, b5, b6, b7, b8, b9, b10, b11] => some (fOMul ⟨⟨a0, a1, a2, a3, a4, a5, a6, a7, a8⟩, ⟨a9, a10, a11⟩⟩ ⟨⟨b0, b1, b2, b3, b4, b5, b6, b7, b8⟩, ⟨b9, b10, b11⟩⟩)
  | _ => none
def Co9 (P : Program) : Cx := (Co8 P).add 16 [some 12, some 12] Fo_16
theorem oko9 : CxOk (Co9 Try.prog) := Cx.add_ok oko8 (n := 60) Try.func16 (by kernel_rfl) fun l v hl h => by
  match l, hl, h with
  | [a0, a1, a2, a3, a4, a5, a6, a7, a8, a9, a10, a11, b0, b1, b2, b3, b4, b5, b6, b7, b8, b9, b10, b11], _, hh => rw [eo9, tOMul_eq]; exact hh
/-- op.Inverse -/
theorem eo10 (a0 a1 a2 a3 a4 a5 a6 a7 a8 a9 a10 a11 : Int) : exFun ((Co9 Try.prog).at 18) 60 Try.f18 (pack [some 12] [a0, a1, a2, a3, a4, a5, a6, a7, a8, a9, a10, a11]) = tOInverse ⟨⟨a0, a1, a2, a3, a4, a5, a6, a7, a8⟩, ⟨a9, a10, a11⟩⟩ := by kernel_rfl
def Fo_18 : List Int → Option Value
  | [a0, a1, a2, a3, a4, a5, a6, a7, a8, a9, a10, a11] => some (fOInverse ⟨⟨a0, a1, a2, a3, a4, a5, a6, a7, a8⟩, ⟨a9, a10, a11⟩⟩)
  | _ => none
def Co10 (P : Program) : Cx := (Co9 P).add 18 [some 12] Fo_18
theorem oko10 : CxOk (Co10 Try.prog) := Cx.add_ok oko9 (n := 60) Try.func18 (by kernel_rfl) fun l v hl h => by
  match l, hl, h with
  | [a0, a1, a2, a3, a4, a5, a6, a7, a8, a9, a10, a11], _, hh => rw [eo10, tOInverse_eq]; exact hh
/-- op.Kind -/
theorem eo11 (a0 a1 a2 a3 a4 a5 a6 a7 a8 a9 a10 a11 : Int) : exFun ((Co10 Try.prog).at 24) 60 Try.f24 (pack [some 12] [a0, a1, a2, a3, a4, a5, a6, a7, a8, a9, a10, a11]) = tKind ⟨⟨a0, a1, a2, a3, a4, a5, a6, a7, a8⟩, ⟨a9, a10, a11⟩⟩ := by kernel_rfl
def Fo_24 : List Int → Option Value
  | [a0, a1, a2, a3, a4, a5, a6, a7, a8, a9, a10, a11] => some (fKind ⟨⟨a0, a1, a2, a3, a4, a5, a6, a7, a8⟩, ⟨a9, a10, a11⟩⟩)
  | _ => none
def Co11 (P : Program) : Cx := (Co10 P).add 24 [some 12] Fo_24
theorem oko11 : CxOk (Co11 Try.prog) := Cx.add_ok oko10 (n := 60) Try.func24 (by kernel_rfl) fun l v hl h => by
  match l, hl, h with
  | [a0, a1, a2, a3, a4, a5, a6, a7, a8, a9, a10, a11], _, hh => rw [eo11, tKind_eq]; exact hh
/-- op.Apply -/
theorem eo12 (a0 a1 a2 a3 a4 a5 a6 a7 a8 a9 a10 a11 b0 b1 b2 b3 : Int) : exFun ((Co11 Try.prog).at 26) 60 Try.f26 (pack [some 12, some 4] [a0, a1, a2, a3, a4, a5, a6, a7, a8, a9, a10, a11, b0, b1, b2, b3]) = tOApply ⟨⟨a0, a1, a2, a3, a4, a5, a6, a7, a8⟩, ⟨a9, a10, a11⟩⟩ ⟨b0, ⟨b1, b2, b3⟩⟩ := by kernel_rfl
def Fo_26 : List Int → Option Value
  | [a0, a1, a2, a3, a4, a5, a6, a7, a8, a9, a10, a11, b0, b1, b2, b3] => some (fOApply ⟨⟨a0, a1, a2, a3, a4, a5, a6, a7, a8⟩, ⟨a9, a10, a11⟩⟩ ⟨b0, ⟨b1, b2, b3⟩⟩)
  | _ => none
def Co12 (P : Program) : Cx := (Co11 P).add 26 [some 12, some 4] Fo_26
theorem oko12 : CxOk (Co12 Try.prog) := Cx.add_ok oko11 (n := 60) Try.func26 (by kernel_rfl) fun l v hl h => by
  match l, hl, h with
  | [a0, a1, a2, a3, a4, a5, a6, a7, a8, a9, a10, a11, b0, b1, b2, b3], _, hh => rw [eo12, tOApply_eq]; exact hh
/-- facetref03.Mod -/
theorem eo13 (a b : Int) : exFun ((Co12 Try.prog).at 64) 60 Try.f64 (pack [none, none] [a, b]) = tMod a b := by kernel_rfl
def Fo_64 : List Int → Option (Bool × Value)
  | [a, b] => some (modB b, vI (a % b))
  | _ => none
def Co13 (P : Program) : Cx := (Co12 P).addD 64 [none, none] Fo_64
theorem oko13 : CxOk (Co13 Try.prog) := Cx.addD_ok oko12 (n := 60) Try.func64 (by kernel_rfl) fun l v hl h => by
  match l, hl, h with
  | [a, b], _, hh => simp only [Fo_64, Option.some.injEq, Prod.mk.injEq] at hh; rw [eo13, tMod_eq hh.1, hh.2]
/-- facetref03.Det -/
theorem eo14 (a0 a1 a2 a3 a4 a5 a6 a7 a8 : Int) : exFun ((Co13 Try.prog).at 36) 60 Try.f36 (pack [some 9] [a0, a1, a2, a3, a4, a5, a6, a7, a8]) = tRDet ⟨a0, a1, a2, a3, a4, a5, a6, a7, a8⟩ := by kernel_rfl
def Fo_36 : List Int → Option Value
  | [a0, a1, a2, a3, a4, a5, a6, a7, a8] => some (fRDet ⟨a0, a1, a2, a3, a4, a5, a6, a7, a8⟩)
  | _ => none
def Co14 (P : Program) : Cx := (Co13 P).add 36 [some 9] Fo_36
theorem oko14 : CxOk (Co14 Try.prog) := Cx.add_ok oko13 (n := 60) Try.func36 (by kernel_rfl) fun l v hl h => by
  match l, hl, h with
  | [a0, a1, a2, a3, a4, a5, a6, a7, a8], _, hh => rw [eo14, tRDet_eq]; exact hh
/-- facetref03.Within -/
theorem eo15 (a0 a1 a2 a3 a4 a5 a6 a7 a8 : Int) : exFun ((Co14 Try.prog).at 34) 60 Try.f34 (pack [some 9] [a0, a1, a2, a3, a4, a5, a6, a7, a8]) = tWithinM ⟨a0, a1, a2, a3, a4, a5, a6, a7, a8⟩ := by kernel_rfl
def Fo_34 : List Int → Option Value
  | [a0, a1, a2, a3, a4, a5, a6, a7, a8] => some (fWithinM ⟨a0, a1, a2, a3, a4, a5, a6, a7, a8⟩)
  | _ => none
def Co15 (P : Program) : Cx := (Co14 P).add 34 [some 9] Fo_34
theorem oko15 : CxOk (Co15 Try.prog) := Cx.add_ok oko14 (n := 60) Try.func34 (by kernel_rfl) fun l v hl h => by
  match l, hl, h with
  | [a0, a1, a2, a3, a4, a5, a6, a7, a8], _, hh => rw [eo15, tWithinM_eq]; exact hh
/-- facetref03.Part -/
theorem eo16 (a0 a1 a2 : Int) : exFun ((Co15 Try.prog).at 35) 60 Try.f35 (pack [some 3] [a0, a1, a2]) = tPart ⟨a0, a1, a2⟩ := by kernel_rfl
def Fo_35 : List Int → Option Value
  | [a0, a1, a2] => some (fPart ⟨a0, a1, a2⟩)
  | _ => none
def Co16 (P : Program) : Cx := (Co15 P).add 35 [some 3] Fo_35
theorem oko16 : CxOk (Co16 Try.prog) := Cx.add_ok oko15 (n := 60) Try.func35 (by kernel_rfl) fun l v hl h => by
  match l, hl, h with
  | [a0, a1, a2], _, hh => rw [eo16, tPart_eq]; exact hh
/-- facetref03.Times -/
theorem eo17 (a0 a1 a2 a3 a4 a5 a6 a7 a8 b0 b1 b2 b3 b4 b5 b6 b7 b8 : Int) : exFun ((Co16 Try.prog).at 67) 60 Try.f67 (pack [some 9, some 9] [a0, a1, a2, a3, a4, a5, a6, a7, a8, b0, b1, b2, b3, b4, b5, b6, b7, b8]) = tTimesM ⟨a0, a1, a2, a3, a4, a5, a6, a7, a8⟩ ⟨b0, b1, b2, b3, b4, b5, b6, b7, b8⟩ := by kernel_rfl
def Fo_67 : List Int → Option Value
  | [a0, a1, a2, a3, a4, a5, a6, a7, a8, b0, b1, b2, b3, b4, b5, b6, b7, b8] => some (fTimesM ⟨a0, a1, a2, a3, a4, a5, a6, a7, a8⟩ ⟨b0, b1, b2, b3, b4, b5, b6, b7, b8⟩)
  | _ => none
def Co17 (P : Program) : Cx := (Co16 P).add 67 [some 9, some 9] Fo_67
theorem oko17 : CxOk (Co17 Try.prog) := Cx.add_ok oko16 (n := 60) Try.func67 (by kernel_rfl) fun l v hl h => by
  match l, hl, h with
  | [a0, a1, a2, a3, a4, a5, a6, a7, a8, b0, b1, b2, b3, b4, b5, b6, b7, b8], _, hh => rw [eo17, tTimesM_eq]; exact hh
/-- facetref03.Column -/
theorem eo18 (a0 a1 a2 a3 a4 a5 a6 a7 a8 b0 b1 b2 : Int) : exFun ((Co17 Try.prog).at 54) 60 Try.f54 (pack [some 9, some 3] [a0, a1, a2, a3, a4, a5, a6, a7, a8, b0, b1, b2]) = tColumn ⟨a0, a1, a2, a3, a4, a5, a6, a7, a8⟩ ⟨b0, b1, b2⟩ := by kernel_rfl
def Fo_54 : List Int → Option Value
  | [a0, a1, a2, a3, a4, a5, a6, a7, a8, b0, b1, b2] => some (fColumn ⟨a0, a1, a2, a3, a4, a5, a6, a7, a8⟩ ⟨b0, b1, b2⟩)
  | _ => none
def Co18 (P : Program) : Cx := (Co17 P).add 54 [some 9, some 3] Fo_54
theorem oko18 : CxOk (Co18 Try.prog) := Cx.add_ok oko17 (n := 60) Try.func54 (by kernel_rfl) fun l v hl h => by
  match l, hl, h with
  | [a0, a1, a2, a3, a4, a5, a6, a7, a8, b0, b1, b2], _, hh => rw [eo18, tColumn_eq]; exact hh
/-- facetref03.Bring -/
theorem eo19 (a0 a1 a2 b : Int) : exFun ((Co18 Try.prog).at 32) 60 Try.f32 (pack [some 3, none] [a0, a1, a2, b]) = tBring ⟨a0, a1, a2⟩ b := by kernel_rfl
def Fo_32 : List Int → Option (Bool × Value)
  | [a0, a1, a2, b] => some (modB b, (V3.md b ⟨a0, a1, a2⟩).v)
  | _ => none
def Co19 (P : Program) : Cx := (Co18 P).addD 32 [some 3, none] Fo_32
theorem oko19 : CxOk (Co19 Try.prog) := Cx.addD_ok oko18 (n := 60) Try.func32 (by kernel_rfl) fun l v hl h => by
  match l, hl, h with
  | [a0, a1, a2, b], _, hh => simp only [Fo_32, Option.some.injEq, Prod.mk.injEq] at hh; rw [eo19, tBring_eq hh.1, hh.2]
/-- facetref03.Add -/
theorem eo20 (a0 a1 a2 b0 b1 b2 : Int) : exFun ((Co19 Try.prog).at 53) 60 Try.f53 (pack [some 3, some 3] [a0, a1, a2, b0, b1, b2]) = tRAdd ⟨a0, a1, a2⟩ ⟨b0, b1, b2⟩ := by kernel_rfl
def Fo_53 : List Int → Option Value
  | [a0, a1, a2, b0, b1, b2] => some (fRAdd ⟨a0, a1, a2⟩ ⟨b0, b1, b2⟩)
  | _ => none
def Co20 (P : Program) : Cx := (Co19 P).add 53 [some 3, some 3] Fo_53
theorem oko20 : CxOk (Co20 Try.prog) := Cx.add_ok oko19 (n := 60) Try.func53 (by kernel_rfl) fun l v hl h => by
  match l, hl, h with
  | [a0, a1, a2, b0, b1, b2], _, hh => rw [eo20, tRAdd_eq]; exact hh

def CCo (P : Program) : Cx := Co20 P
theorem okCo : CxOk (CCo Try.prog) := oko20

end Go.Proofs.Ytagnkjdobkdhmaa
