/-
  The functions that the statements of this seat call, one by one: called as told, whatever the world. Nothing here is trusted.
-/
import Derived.Test.YtagnkjdobkdhmabTVec
import Derived.Test.YtagnkjdobkdhmabOpT
namespace Go.Proofs.Ytagnkjdobkdhmab
open Go Vx

def Co0 (P : Program) : Cx := CC P
theorem oko0 : CxOk (Co0 Try.prog) := okC
/-- op.checkMatrix -/
theorem eo1 (a0 a1 a2 a3 a4 a5 a6 a7 a8 : Int) : exFun ((Co0 Try.prog).at 46) 60 Try.f46 (pack [some 9] [a0, a1, a2, a3, a4, a5, a6, a7, a8]) = tCheckM ⟨a0, a1, a2, a3, a4, a5, a6, a7, a8⟩ := by kernel_rfl
def Fo_46 : List Int → Option Value
  | [a0, a1, a2, a3, a4, a5, a6, a7, a8] => some (fCheckM ⟨a0, a1, a2, a3, a4, a5, a6, a7, a8⟩)
  | _ => none
def Co1 (P : Program) : Cx := (Co0 P).add 46 [some 9] Fo_46
theorem oko1 : CxOk (Co1 Try.prog) := Cx.add_ok oko0 (n := 60) Try.func46 (by kernel_rfl) fun l v hl h => by
  match l, hl, h with
  | [a0, a1, a2, a3, a4, a5, a6, a7, a8], _, hh => rw [eo1, tCheckM_eq]; exact hh
/-- op.check -/
theorem eo2 (a0 a1 a2 a3 a4 a5 a6 a7 a8 a9 a10 a11 : Int) : exFun ((Co1 Try.prog).at 37) 60 Try.f37 (pack [some 12] [a0, a1, a2, a3, a4, a5, a6, a7, a8, a9, a10, a11]) = tOCheck ⟨⟨a0, a1, a2, a3, a4, a5, a6, a7, a8⟩, ⟨a9, a10, a11⟩⟩ := by kernel_rfl
def Fo_37 : List Int → Option Value
  | [a0, a1, a2, a3, a4, a5, a6, a7, a8, a9, a10, a11] => some (fOCheck ⟨⟨a0, a1, a2, a3, a4, a5, a6, a7, a8⟩, ⟨a9, a10, a11⟩⟩)
  | _ => none
def Co2 (P : Program) : Cx := (Co1 P).add 37 [some 12] Fo_37
theorem oko2 : CxOk (Co2 Try.prog) := Cx.add_ok oko1 (n := 60) Try.func37 (by kernel_rfl) fun l v hl h => by
  match l, hl, h with
  | [a0, a1, a2, a3, a4, a5, a6, a7, a8, a9, a10, a11], _, hh => rw [eo2, tOCheck_eq]; exact hh
/-- op.least -/
theorem eo3 (a b : Int) : exFun ((Co2 Try.prog).at 41) 60 Try.f41 (pack [none, none] [a, b]) = tLeast a b := by kernel_rfl
def Fo_41 : List Int → Option Value
  | [a, b] => some (fLeast a b)
  | _ => none
def Co3 (P : Program) : Cx := (Co2 P).add 41 [none, none] Fo_41
theorem oko3 : CxOk (Co3 Try.prog) := Cx.add_ok oko2 (n := 60) Try.func41 (by kernel_rfl) fun l v hl h => by
  match l, hl, h with
  | [a, b], _, hh => rw [eo3, tLeast_eq]; exact hh
/-- op.send -/
theorem eo4 (a0 a1 a2 a3 a4 a5 a6 a7 a8 a9 a10 a11 b0 b1 b2 : Int) : exFun ((Co3 Try.prog).at 38) 60 Try.f38 (pack [some 12, some 3] [a0, a1, a2, a3, a4, a5, a6, a7, a8, a9, a10, a11, b0, b1, b2]) = tSend ⟨⟨a0, a1, a2, a3, a4, a5, a6, a7, a8⟩, ⟨a9, a10, a11⟩⟩ ⟨b0, b1, b2⟩ := by kernel_rfl
def Fo_38 : List Int → Option Value
  | [a0, a1, a2, a3, a4, a5, a6, a7, a8, a9, a10, a11, b0, b1, b2] => some (fSend ⟨⟨a0, a1, a2, a3, a4, a5, a6, a7, a8⟩, ⟨a9, a10, a11⟩⟩ ⟨b0, b1, b2⟩)
  | _ => none
def Co4 (P : Program) : Cx := (Co3 P).add 38 [some 12, some 3] Fo_38
theorem oko4 : CxOk (Co4 Try.prog) := Cx.add_ok oko3 (n := 60) Try.func38 (by kernel_rfl) fun l v hl h => by
  match l, hl, h with
  | [a0, a1, a2, a3, a4, a5, a6, a7, a8, a9, a10, a11, b0, b1, b2], _, hh => rw [eo4, tSend_eq]; exact hh
/-- op.opposite -/
theorem eo5 (a0 a1 a2 a3 a4 a5 a6 a7 a8 : Int) : exFun ((Co4 Try.prog).at 40) 60 Try.f40 (pack [some 9] [a0, a1, a2, a3, a4, a5, a6, a7, a8]) = tOpposite ⟨a0, a1, a2, a3, a4, a5, a6, a7, a8⟩ := by kernel_rfl
def Fo_40 : List Int → Option Value
  | [a0, a1, a2, a3, a4, a5, a6, a7, a8] => some (fOpposite ⟨a0, a1, a2, a3, a4, a5, a6, a7, a8⟩)
  | _ => none
def Co5 (P : Program) : Cx := (Co4 P).add 40 [some 9] Fo_40
theorem oko5 : CxOk (Co5 Try.prog) := Cx.add_ok oko4 (n := 60) Try.func40 (by kernel_rfl) fun l v hl h => by
  match l, hl, h with
  | [a0, a1, a2, a3, a4, a5, a6, a7, a8], _, hh => rw [eo5, tOpposite_eq]; exact hh
/-- op.Make -/
theorem eo6 (a0 a1 a2 a3 a4 a5 a6 a7 a8 b0 b1 b2 : Int) : exFun ((Co5 Try.prog).at 19) 60 Try.f19 (pack [some 9, some 3] [a0, a1, a2, a3, a4, a5, a6, a7, a8, b0, b1, b2]) = tMake ⟨a0, a1, a2, a3, a4, a5, a6, a7, a8⟩ ⟨b0, b1, b2⟩ := by kernel_rfl
def Fo_19 : List Int → Option Value
  | [a0, a1, a2, a3, a4, a5, a6, a7, a8, b0, b1, b2] => some (fMake ⟨a0, a1, a2, a3, a4, a5, a6, a7, a8⟩ ⟨b0, b1, b2⟩)
  | _ => none
def Co6 (P : Program) : Cx := (Co5 P).add 19 [some 9, some 3] Fo_19
theorem oko6 : CxOk (Co6 Try.prog) := Cx.add_ok oko5 (n := 60) Try.func19 (by kernel_rfl) fun l v hl h => by
  match l, hl, h with
  | [a0, a1, a2, a3, a4, a5, a6, a7, a8, b0, b1, b2], _, hh => rw [eo6, tMake_eq]; exact hh
/-- op.One -/
theorem eo7 : exFun ((Co6 Try.prog).at 11) 60 Try.f11 (pack [] []) = tOne := by kernel_rfl
def Fo_11 : List Int → Option Value
  | [] => some (fOne)
  | _ => none
def Co7 (P : Program) : Cx := (Co6 P).add 11 [] Fo_11
theorem oko7 : CxOk (Co7 Try.prog) := Cx.add_ok oko6 (n := 60) Try.func11 (by kernel_rfl) fun l v hl h => by
  match l, hl, h with
  | [], _, hh => rw [eo7, tOne_eq]; exact hh
/-- op.Mul -/
theorem eo8 (a0 a1 a2 a3 a4 a5 a6 a7 a8 a9 a10 a11 b0 b1 b2 b3 b4 b5 b6 b7 b8 b9 b10 b11 : Int) : exFun ((Co7 Try.prog).at 12) 60 Try.f12 (pack [some 12, some 12] [a0, a1, a2, a3, a4, a5, a6, a7, a8, a9, a10, a11, b0, b1, b2, b3, b4, b5, b6, b7, b8, b9, b10, b11]) = tOMul ⟨⟨a0, a1, a2, a3, a4, a5, a6, a7, a8⟩, ⟨a9, a10, a11⟩⟩ ⟨⟨b0, b1, b2, b3, b4, b5, b6, b7, b8⟩, ⟨b9, b10, b11⟩⟩ := by kernel_rfl
def Fo_12 : List Int → Option Value
  | [a0, a1, a2, a3, a4, a5, a6, a7, a8, a9, a10, a11, b0, b1, b2, b3, b4, b5, b6, b7, b8, b9, b10, b11] => some (fOMul ⟨⟨a0, a1, a2, a3, a4, a5, a6, a7, a8⟩, ⟨a9, a10, a11⟩⟩ ⟨⟨b0, b1, b2, b3, b4, b5, b6, b7, b8⟩, ⟨b9, b10, b11⟩⟩)
  | _ => none
def Co8 (P : Program) : Cx := (Co7 P).add 12 [some 12, some 12] Fo_12
theorem oko8 : CxOk (Co8 Try.prog) := Cx.add_ok oko7 (n := 60) Try.func12 (by kernel_rfl) fun l v hl h => by
  match l, hl, h with
  | [a0, a1, a2, a3, a4, a5, a6, a7, a8, a9, a10, a11, b0, b1, b2, b3, b4, b5, b6, b7, b8, b9, b10, b11], _, hh => rw [eo8, tOMul_eq]; exact hh
/-- op.Inverse -/
theorem eo9 (a0 a1 a2 a3 a4 a5 a6 a7 a8 a9 a10 a11 : Int) : exFun ((Co8 Try.prog).at 13) 60 Try.f13 (pack [some 12] [a0, a1, a2, a3, a4, a5, a6, a7, a8, a9, a10, a11]) = tOInverse ⟨⟨a0, a1, a2, a3, a4, a5, a6, a7, a8⟩, ⟨a9, a10, a11⟩⟩ := by kernel_rfl
def Fo_13 : List Int → Option Value
  | [a0, a1, a2, a3, a4, a5, a6, a7, a8, a9, a10, a11] => some (fOInverse ⟨⟨a0, a1, a2, a3, a4, a5, a6, a7, a8⟩, ⟨a9, a10, a11⟩⟩)
  | _ => none
def Co9 (P : Program) : Cx := (Co8 P).add 13 [some 12] Fo_13
theorem oko9 : CxOk (Co9 Try.prog) := Cx.add_ok oko8 (n := 60) Try.func13 (by kernel_rfl) fun l v hl h => by
  match l, hl, h with
  | [a0, a1, a2, a3, a4, a5, a6, a7, a8, a9, a10, a11], _, hh => rw [eo9, tOInverse_eq]; exact hh
/-- op.Kind -/
theorem eo10 (a0 a1 a2 a3 a4 a5 a6 a7 a8 a9 a10 a11 : Int) : exFun ((Co9 Try.prog).at 10) 60 Try.f10 (pack [some 12] [a0, a1, a2, a3, a4, a5, a6, a7, a8, a9, a10, a11]) = tKind ⟨⟨a0, a1, a2, a3, a4, a5, a6, a7, a8⟩, ⟨a9, a10, a11⟩⟩ := by kernel_rfl
def Fo_10 : List Int → Option Value
  | [a0, a1, a2, a3, a4, a5, a6, a7, a8, a9, a10, a11] => some (fKind ⟨⟨a0, a1, a2, a3, a4, a5, a6, a7, a8⟩, ⟨a9, a10, a11⟩⟩)
  | _ => none
def Co10 (P : Program) : Cx := (Co9 P).add 10 [some 12] Fo_10
theorem oko10 : CxOk (Co10 Try.prog) := Cx.add_ok oko9 (n := 60) Try.func10 (by kernel_rfl) fun l v hl h => by
  match l, hl, h with
  | [a0, a1, a2, a3, a4, a5, a6, a7, a8, a9, a10, a11], _, hh => rw [eo10, tKind_eq]; exact hh
/-- op.Apply -/
theorem eo11 (a0 a1 a2 a3 a4 a5 a6 a7 a8 a9 a10 a11 b0 b1 b2 b3 : Int) : exFun ((Co10 Try.prog).at 20) 60 Try.f20 (pack [some 12, some 4] [a0, a1, a2, a3, a4, a5, a6, a7, a8, a9, a10, a11, b0, b1, b2, b3]) = tOApply ⟨⟨a0, a1, a2, a3, a4, a5, a6, a7, a8⟩, ⟨a9, a10, a11⟩⟩ ⟨b0, ⟨b1, b2, b3⟩⟩ := by kernel_rfl
def Fo_20 : List Int → Option Value
  | [a0, a1, a2, a3, a4, a5, a6, a7, a8, a9, a10, a11, b0, b1, b2, b3] => some (fOApply ⟨⟨a0, a1, a2, a3, a4, a5, a6, a7, a8⟩, ⟨a9, a10, a11⟩⟩ ⟨b0, ⟨b1, b2, b3⟩⟩)
  | _ => none
def Co11 (P : Program) : Cx := (Co10 P).add 20 [some 12, some 4] Fo_20
theorem oko11 : CxOk (Co11 Try.prog) := Cx.add_ok oko10 (n := 60) Try.func20 (by kernel_rfl) fun l v hl h => by
  match l, hl, h with
  | [a0, a1, a2, a3, a4, a5, a6, a7, a8, a9, a10, a11, b0, b1, b2, b3], _, hh => rw [eo11, tOApply_eq]; exact hh

def CCo (P : Program) : Cx := Co11 P
theorem okCo : CxOk (CCo Try.prog) := oko11

end Go.Proofs.Ytagnkjdobkdhmab
