/-
  The functions that the statements of this seat call, one by one: called as told, whatever the world. Nothing here is trusted.
-/
import Derived.Test.YtloanoibojmlgaaTLeast
import Derived.Test.YtloanoibojmlgaaBasT
import Derived.Test.YtloanoibojmlgaaBasN
namespace Go.Proofs.Ytloanoibojmlgaa
open Go Vx

def Cb0 (P : Program) : Cx := CLr P
theorem okb0 : CxOk (Cb0 Try.prog) := okLr
/-- op.checkMatrix -/
theorem eb1 (a0 a1 a2 a3 a4 a5 a6 a7 a8 : Int) : exFun ((Cb0 Try.prog).at 76) 60 Try.f76 (pack [some 9] [a0, a1, a2, a3, a4, a5, a6, a7, a8]) = tCheckM ⟨a0, a1, a2, a3, a4, a5, a6, a7, a8⟩ := by kernel_rfl
def Fb_76 : List Int → Option Value
  | [a0, a1, a2, a3, a4, a5, a6, a7, a8] => some (fCheckM ⟨a0, a1, a2, a3, a4, a5, a6, a7, a8⟩)
  | _ => none
def Cb1 (P : Program) : Cx := (Cb0 P).add 76 [some 9] Fb_76
theorem okb1 : CxOk (Cb1 Try.prog) := Cx.add_ok okb0 (n := 60) Try.func76 (by kernel_rfl) fun l v hl h => by
  match l, hl, h with
  | [a0, a1, a2, a3, a4, a5, a6, a7, a8], _, hh => rw [eb1, tCheckM_eq]; exact hh
/-- op.check -/
theorem eb2 (a0 a1 a2 a3 a4 a5 a6 a7 a8 a9 a10 a11 : Int) : exFun ((Cb1 Try.prog).at 52) 60 Try.f52 (pack [some 12] [a0, a1, a2, a3, a4, a5, a6, a7, a8, a9, a10, a11]) = tOCheck ⟨⟨a0, a1, a2, a3, a4, a5, a6, a7, a8⟩, ⟨a9, a10, a11⟩⟩ := by kernel_rfl
def Fb_52 : List Int → Option Value
  | [a0, a1, a2, a3, a4, a5, a6, a7, a8, a9, a10, a11] => some (fOCheck ⟨⟨a0, a1, a2, a3, a4, a5, a6, a7, a8⟩, ⟨a9, a10, a11⟩⟩)
  | _ => none
def Cb2 (P : Program) : Cx := (Cb1 P).add 52 [some 12] Fb_52
theorem okb2 : CxOk (Cb2 Try.prog) := Cx.add_ok okb1 (n := 60) Try.func52 (by kernel_rfl) fun l v hl h => by
  match l, hl, h with
  | [a0, a1, a2, a3, a4, a5, a6, a7, a8, a9, a10, a11], _, hh => rw [eb2, tOCheck_eq]; exact hh
/-- op.send -/
theorem eb3 (a0 a1 a2 a3 a4 a5 a6 a7 a8 a9 a10 a11 b0 b1 b2 : Int) : exFun ((Cb2 Try.prog).at 61) 60 Try.f61 (pack [some 12, some 3] [a0, a1, a2, a3, a4, a5, a6, a7, a8, a9, a10, a11, b0, b1, b2]) = tSend ⟨⟨a0, a1, a2, a3, a4, a5, a6, a7, a8⟩, ⟨a9, a10, a11⟩⟩ ⟨b0, b1, b2⟩ := by kernel_rfl
def Fb_61 : List Int → Option Value
  | [a0, a1, a2, a3, a4, a5, a6, a7, a8, a9, a10, a11, b0, b1, b2] => some (fSend ⟨⟨a0, a1, a2, a3, a4, a5, a6, a7, a8⟩, ⟨a9, a10, a11⟩⟩ ⟨b0, b1, b2⟩)
  | _ => none
def Cb3 (P : Program) : Cx := (Cb2 P).add 61 [some 12, some 3] Fb_61
theorem okb3 : CxOk (Cb3 Try.prog) := Cx.add_ok okb2 (n := 60) Try.func61 (by kernel_rfl) fun l v hl h => by
  match l, hl, h with
  | [a0, a1, a2, a3, a4, a5, a6, a7, a8, a9, a10, a11, b0, b1, b2], _, hh => rw [eb3, tSend_eq]; exact hh
/-- op.One -/
theorem eb4 : exFun ((Cb3 Try.prog).at 69) 60 Try.f69 (pack [] []) = tOne := by kernel_rfl
def Fb_69 : List Int → Option Value
  | [] => some (fOne)
  | _ => none
def Cb4 (P : Program) : Cx := (Cb3 P).add 69 [] Fb_69
theorem okb4 : CxOk (Cb4 Try.prog) := Cx.add_ok okb3 (n := 60) Try.func69 (by kernel_rfl) fun l v hl h => by
  match l, hl, h with
  | [], _, hh => rw [eb4, tOne_eq]; exact hh
/-- op.Make -/
theorem eb5 (a0 a1 a2 a3 a4 a5 a6 a7 a8 b0 b1 b2 : Int) : exFun ((Cb4 Try.prog).at 58) 60 Try.f58 (pack [some 9, some 3] [a0, a1, a2, a3, a4, a5, a6, a7, a8, b0, b1, b2]) = tMake ⟨a0, a1, a2, a3, a4, a5, a6, a7, a8⟩ ⟨b0, b1, b2⟩ := by kernel_rfl
def Fb_58 : List Int → Option Value
  | [a0, a1, a2, a3, a4, a5, a6, a7, a8, b0, b1, b2] => some (fMake ⟨a0, a1, a2, a3, a4, a5, a6, a7, a8⟩ ⟨b0, b1, b2⟩)
  | _ => none
def Cb5 (P : Program) : Cx := (Cb4 P).add 58 [some 9, some 3] Fb_58
theorem okb5 : CxOk (Cb5 Try.prog) := Cx.add_ok okb4 (n := 60) Try.func58 (by kernel_rfl) fun l v hl h => by
  match l, hl, h with
  | [a0, a1, a2, a3, a4, a5, a6, a7, a8, b0, b1, b2], _, hh => rw [eb5, tMake_eq]; exact hh
/-- op.Mul -/
theorem eb6 (a0 a1 a2 a3 a4 a5 a6 a7 a8 a9 a10 a11 b0 b1 b2 b3 b4 b5 b6 b7 b8 b9 b10 b11 : Int) : exFun ((Cb5 Try.prog).at 29) 60 Try.f29 (pack [some 12, some 12] [a0, a1, a2, a3, a4, a5, a6, a7, a8, a9, a10, a11, b0, b1, b2, b3, b4, b5, b6, b7, b8, b9, b10, b11]) = tOMulN ⟨⟨a0, a1, a2, a3, a4, a5, a6, a7, a8⟩, ⟨a9, a10, a11⟩⟩ ⟨⟨b0, b1, b2, b3, b4, b5, b6, b7, b8⟩, ⟨b9, b10, b11⟩⟩ := by kernel_rfl
def Fb_29 : List Int → Option Value
  | [a0, a1, a2, a3, a4, a5, a6, a7, a8, a9, a10, a11, b0, b1, b2, b3, b4, b5, b6, b7, b8, b9, b10, b11] => some (fOMul ⟨⟨a0, a1, a2, a3, a4, a5, a6, a7, a8⟩, ⟨a9, a10, a11⟩⟩ ⟨⟨b0, b1, b2, b3, b4, b5, b6, b7, b8⟩, ⟨b9, b10, b11⟩⟩)
  | _ => none
def Cb6 (P : Program) : Cx := (Cb5 P).add 29 [some 12, some 12] Fb_29
theorem okb6 : CxOk (Cb6 Try.prog) := Cx.add_ok okb5 (n := 60) Try.func29 (by kernel_rfl) fun l v hl h => by
  match l, hl, h with
  | [a0, a1, a2, a3, a4, a5, a6, a7, a8, a9, a10, a11, b0, b1, b2, b3, b4, b5, b6, b7, b8, b9, b10, b11], _, hh => rw [eb6, tOMulN_eq]; exact hh
/-- op.Inverse -/
theorem eb7 (a0 a1 a2 a3 a4 a5 a6 a7 a8 a9 a10 a11 : Int) : exFun ((Cb6 Try.prog).at 35) 60 Try.f35 (pack [some 12] [a0, a1, a2, a3, a4, a5, a6, a7, a8, a9, a10, a11]) = tOInverse ⟨⟨a0, a1, a2, a3, a4, a5, a6, a7, a8⟩, ⟨a9, a10, a11⟩⟩ := by kernel_rfl
def Fb_35 : List Int → Option Value
  | [a0, a1, a2, a3, a4, a5, a6, a7, a8, a9, a10, a11] => some (fOInverse ⟨⟨a0, a1, a2, a3, a4, a5, a6, a7, a8⟩, ⟨a9, a10, a11⟩⟩)
  | _ => none
def Cb7 (P : Program) : Cx := (Cb6 P).add 35 [some 12] Fb_35
theorem okb7 : CxOk (Cb7 Try.prog) := Cx.add_ok okb6 (n := 60) Try.func35 (by kernel_rfl) fun l v hl h => by
  match l, hl, h with
  | [a0, a1, a2, a3, a4, a5, a6, a7, a8, a9, a10, a11], _, hh => rw [eb7, tOInverse_eq]; exact hh
/-- op.Apply -/
theorem eb8 (a0 a1 a2 a3 a4 a5 a6 a7 a8 a9 a10 a11 b0 b1 b2 b3 : Int) : exFun ((Cb7 Try.prog).at 24) 60 Try.f24 (pack [some 12, some 4] [a0, a1, a2, a3, a4, a5, a6, a7, a8, a9, a10, a11, b0, b1, b2, b3]) = tOApplyN ⟨⟨a0, a1, a2, a3, a4, a5, a6, a7, a8⟩, ⟨a9, a10, a11⟩⟩ ⟨b0, ⟨b1, b2, b3⟩⟩ := by kernel_rfl
def Fb_24 : List Int → Option Value
  | [a0, a1, a2, a3, a4, a5, a6, a7, a8, a9, a10, a11, b0, b1, b2, b3] => some (fOApply ⟨⟨a0, a1, a2, a3, a4, a5, a6, a7, a8⟩, ⟨a9, a10, a11⟩⟩ ⟨b0, ⟨b1, b2, b3⟩⟩)
  | _ => none
def Cb8 (P : Program) : Cx := (Cb7 P).add 24 [some 12, some 4] Fb_24
theorem okb8 : CxOk (Cb8 Try.prog) := Cx.add_ok okb7 (n := 60) Try.func24 (by kernel_rfl) fun l v hl h => by
  match l, hl, h with
  | [a0, a1, a2, a3, a4, a5, a6, a7, a8, a9, a10, a11, b0, b1, b2, b3], _, hh => rw [eb8, tOApplyN_eq]; exact hh
/-- plain.Row -/
theorem eb9 (a0 a1 a2 b0 b1 b2 b3 b4 b5 b6 b7 b8 : Int) : exFun ((Cb8 Try.prog).at 46) 60 Try.f46 (pack [some 3, some 9] [a0, a1, a2, b0, b1, b2, b3, b4, b5, b6, b7, b8]) = tRowTimes ⟨a0, a1, a2⟩ ⟨b0, b1, b2, b3, b4, b5, b6, b7, b8⟩ := by kernel_rfl
def Fb_46 : List Int → Option Value
  | [a0, a1, a2, b0, b1, b2, b3, b4, b5, b6, b7, b8] => some (fRowTimes ⟨a0, a1, a2⟩ ⟨b0, b1, b2, b3, b4, b5, b6, b7, b8⟩)
  | _ => none
def Cb9 (P : Program) : Cx := (Cb8 P).add 46 [some 3, some 9] Fb_46
theorem okb9 : CxOk (Cb9 Try.prog) := Cx.add_ok okb8 (n := 60) Try.func46 (by kernel_rfl) fun l v hl h => by
  match l, hl, h with
  | [a0, a1, a2, b0, b1, b2, b3, b4, b5, b6, b7, b8], _, hh => rw [eb9, tRowTimes_eq]; exact hh
/-- plain.Mul -/
theorem eb10 (a0 a1 a2 a3 a4 a5 a6 a7 a8 b0 b1 b2 b3 b4 b5 b6 b7 b8 : Int) : exFun ((Cb9 Try.prog).at 70) 60 Try.f70 (pack [some 9, some 9] [a0, a1, a2, a3, a4, a5, a6, a7, a8, b0, b1, b2, b3, b4, b5, b6, b7, b8]) = tProduct ⟨a0, a1, a2, a3, a4, a5, a6, a7, a8⟩ ⟨b0, b1, b2, b3, b4, b5, b6, b7, b8⟩ := by kernel_rfl
def Fb_70 : List Int → Option Value
  | [a0, a1, a2, a3, a4, a5, a6, a7, a8, b0, b1, b2, b3, b4, b5, b6, b7, b8] => some (fProduct ⟨a0, a1, a2, a3, a4, a5, a6, a7, a8⟩ ⟨b0, b1, b2, b3, b4, b5, b6, b7, b8⟩)
  | _ => none
def Cb10 (P : Program) : Cx := (Cb9 P).add 70 [some 9, some 9] Fb_70
theorem okb10 : CxOk (Cb10 Try.prog) := Cx.add_ok okb9 (n := 60) Try.func70 (by kernel_rfl) fun l v hl h => by
  match l, hl, h with
  | [a0, a1, a2, a3, a4, a5, a6, a7, a8, b0, b1, b2, b3, b4, b5, b6, b7, b8], _, hh => rw [eb10, tProduct_eq]; exact hh
/-- plain.CheckEntries -/
theorem eb11 (a0 a1 a2 a3 a4 a5 : Int) : exFun ((Cb10 Try.prog).at 48) 60 Try.f48 (pack [some 6] [a0, a1, a2, a3, a4, a5]) = tCheckG ⟨a0, a1, a2, a3, a4, a5⟩ := by kernel_rfl
def Fb_48 : List Int → Option Value
  | [a0, a1, a2, a3, a4, a5] => some (fCheckG ⟨a0, a1, a2, a3, a4, a5⟩)
  | _ => none
def Cb11 (P : Program) : Cx := (Cb10 P).add 48 [some 6] Fb_48
theorem okb11 : CxOk (Cb11 Try.prog) := Cx.add_ok okb10 (n := 60) Try.func48 (by kernel_rfl) fun l v hl h => by
  match l, hl, h with
  | [a0, a1, a2, a3, a4, a5], _, hh => rw [eb11, tCheckG_eq]; exact hh
/-- basis.Behind -/
theorem eb12 (a0 a1 a2 a3 a4 a5 a6 a7 a8 a9 a10 a11 b0 b1 b2 b3 b4 b5 b6 b7 b8 b9 b10 b11 : Int) : exFun ((Cb11 Try.prog).at 9) 60 Try.f9 (pack [some 12, some 12] [a0, a1, a2, a3, a4, a5, a6, a7, a8, a9, a10, a11, b0, b1, b2, b3, b4, b5, b6, b7, b8, b9, b10, b11]) = tBehind ⟨⟨a0, a1, a2, a3, a4, a5, a6, a7, a8⟩, ⟨a9, a10, a11⟩⟩ ⟨⟨b0, b1, b2, b3, b4, b5, b6, b7, b8⟩, ⟨b9, b10, b11⟩⟩ := by kernel_rfl
def Fb_9 : List Int → Option Value
  | [a0, a1, a2, a3, a4, a5, a6, a7, a8, a9, a10, a11, b0, b1, b2, b3, b4, b5, b6, b7, b8, b9, b10, b11] => some (fBehind ⟨⟨a0, a1, a2, a3, a4, a5, a6, a7, a8⟩, ⟨a9, a10, a11⟩⟩ ⟨⟨b0, b1, b2, b3, b4, b5, b6, b7, b8⟩, ⟨b9, b10, b11⟩⟩)
  | _ => none
def Cb12 (P : Program) : Cx := (Cb11 P).add 9 [some 12, some 12] Fb_9
theorem okb12 : CxOk (Cb12 Try.prog) := Cx.add_ok okb11 (n := 60) Try.func9 (by kernel_rfl) fun l v hl h => by
  match l, hl, h with
  | [a0, a1, a2, a3, a4, a5, a6, a7, a8, a9, a10, a11, b0, b1, b2, b3, b4, b5, b6, b7, b8, b9, b10, b11], _, hh => rw [eb12, tBehind_eq]; exact hh
/-- basis.Back -/
theorem eb13 (a0 a1 a2 a3 a4 a5 a6 a7 a8 a9 a10 a11 : Int) : exFun ((Cb12 Try.prog).at 12) 60 Try.f12 (pack [some 12] [a0, a1, a2, a3, a4, a5, a6, a7, a8, a9, a10, a11]) = tBBack ⟨⟨a0, a1, a2, a3, a4, a5, a6, a7, a8⟩, ⟨a9, a10, a11⟩⟩ := by kernel_rfl
def Fb_12 : List Int → Option Value
  | [a0, a1, a2, a3, a4, a5, a6, a7, a8, a9, a10, a11] => some (fBBack ⟨⟨a0, a1, a2, a3, a4, a5, a6, a7, a8⟩, ⟨a9, a10, a11⟩⟩)
  | _ => none
def Cb13 (P : Program) : Cx := (Cb12 P).add 12 [some 12] Fb_12
theorem okb13 : CxOk (Cb13 Try.prog) := Cx.add_ok okb12 (n := 60) Try.func12 (by kernel_rfl) fun l v hl h => by
  match l, hl, h with
  | [a0, a1, a2, a3, a4, a5, a6, a7, a8, a9, a10, a11], _, hh => rw [eb13, tBBack_eq]; exact hh
/-- basis.Point -/
theorem eb14 (a0 a1 a2 a3 a4 a5 a6 a7 a8 a9 a10 a11 b0 b1 b2 b3 : Int) : exFun ((Cb13 Try.prog).at 16) 60 Try.f16 (pack [some 12, some 4] [a0, a1, a2, a3, a4, a5, a6, a7, a8, a9, a10, a11, b0, b1, b2, b3]) = tPoint ⟨⟨a0, a1, a2, a3, a4, a5, a6, a7, a8⟩, ⟨a9, a10, a11⟩⟩ ⟨b0, ⟨b1, b2, b3⟩⟩ := by kernel_rfl
def Fb_16 : List Int → Option Value
  | [a0, a1, a2, a3, a4, a5, a6, a7, a8, a9, a10, a11, b0, b1, b2, b3] => some (fPoint ⟨⟨a0, a1, a2, a3, a4, a5, a6, a7, a8⟩, ⟨a9, a10, a11⟩⟩ ⟨b0, ⟨b1, b2, b3⟩⟩)
  | _ => none
def Cb14 (P : Program) : Cx := (Cb13 P).add 16 [some 12, some 4] Fb_16
theorem okb14 : CxOk (Cb14 Try.prog) := Cx.add_ok okb13 (n := 60) Try.func16 (by kernel_rfl) fun l v hl h => by
  match l, hl, h with
  | [a0, a1, a2, a3, a4, a5, a6, a7, a8, a9, a10, a11, b0, b1, b2, b3], _, hh => rw [eb14, tPoint_eq]; exact hh
/-- basis.retell -/
theorem eb15 (a0 a1 a2 a3 a4 a5 a6 a7 a8 a9 a10 a11 b0 b1 b2 b3 b4 b5 b6 b7 b8 c0 c1 c2 c3 c4 c5 c6 c7 c8 c9 c10 c11 : Int) : exFun ((Cb14 Try.prog).at 43) 60 Try.f43 (pack [some 12, some 9, some 12] [a0, a1, a2, a3, a4, a5, a6, a7, a8, a9, a10, a11, b0, b1, b2, b3, b4, b5, b6, b7, b8, c0, c1, c2, c3, c4, c5, c6, c7, c8, c9, c10, c11]) = tRetell ⟨⟨a0, a1, a2, a3, a4, a5, a6, a7, a8⟩, ⟨a9, a10, a11⟩⟩ ⟨b0, b1, b2, b3, b4, b5, b6, b7, b8⟩ ⟨⟨c0, c1, c2, c3, c4, c5, c6, c7, c8⟩, ⟨c9, c10, c11⟩⟩ := by kernel_rfl
def Fb_43 : List Int → Option Value
  | a0 :: a1 :: a2 :: a3 :: a4 :: a5 :: a6 :: a7 :: a8 :: a9 :: a10 :: a11 :: b0 :: b1 :: b2 :: b3 :: b4 :: b5 :: b6 :: b7 :: b8 :: c0 :: c1 :: c2 :: c3 :: c4 :: c5 :: c6 :: c7 :: c8 :: c9 :: c10 :: c11 :: [] => some (fRetell ⟨⟨a0, a1, a2, a3, a4, a5, a6, a7, a8⟩, ⟨a9, a10, a11⟩⟩ ⟨b0, b1, b2, b3, b4, b5, b6, b7, b8⟩ ⟨⟨c0, c1, c2, c3, c4, c5, c6, c7, c8⟩, ⟨c9, c10, c11⟩⟩)
  | _ => none
def Cb15 (P : Program) : Cx := (Cb14 P).add 43 [some 12, some 9, some 12] Fb_43
theorem okb15 : CxOk (Cb15 Try.prog) := Cx.add_ok okb14 (n := 60) Try.func43 (by kernel_rfl) fun l v hl h => by
  match l, hl, h with
  | a0 :: a1 :: a2 :: a3 :: a4 :: a5 :: a6 :: a7 :: a8 :: a9 :: a10 :: a11 :: b0 :: b1 :: b2 :: b3 :: b4 :: b5 :: b6 :: b7 :: b8 :: c0 :: c1 :: c2 :: c3 :: c4 :: c5 :: c6 :: c7 :: c8 :: c9 :: c10 :: c11 :: [], _, hh => rw [eb15, tRetell_eq]; exact hh
/-- basis.Op -/
theorem eb16 (a0 a1 a2 a3 a4 a5 a6 a7 a8 a9 a10 a11 b0 b1 b2 b3 b4 b5 b6 b7 b8 b9 b10 b11 : Int) : exFun ((Cb15 Try.prog).at 18) 60 Try.f18 (pack [some 12, some 12] [a0, a1, a2, a3, a4, a5, a6, a7, a8, a9, a10, a11, b0, b1, b2, b3, b4, b5, b6, b7, b8, b9, b10, b11]) = tBOp ⟨⟨a0, a1, a2, a3, a4, a5, a6, a7, a8⟩, ⟨a9, a10, a11⟩⟩ ⟨⟨b0, b1, b2, b3, b4, b5, b6, b7, b8⟩, ⟨b9, b10, b11⟩⟩ := by kernel_rfl
def Fb_18 : List Int → Option Value
  | [a0, a1, a2, a3, a4, a5, a6, a7, a8, a9, a10, a11, b0, b1, b2, b3, b4, b5, b6, b7, b8, b9, b10, b11] => some (fBOp ⟨⟨a0, a1, a2, a3, a4, a5, a6, a7, a8⟩, ⟨a9, a10, a11⟩⟩ ⟨⟨b0, b1, b2, b3, b4, b5, b6, b7, b8⟩, ⟨b9, b10, b11⟩⟩)
  | _ => none
def Cb16 (P : Program) : Cx := (Cb15 P).add 18 [some 12, some 12] Fb_18
theorem okb16 : CxOk (Cb16 Try.prog) := Cx.add_ok okb15 (n := 60) Try.func18 (by kernel_rfl) fun l v hl h => by
  match l, hl, h with
  | [a0, a1, a2, a3, a4, a5, a6, a7, a8, a9, a10, a11, b0, b1, b2, b3, b4, b5, b6, b7, b8, b9, b10, b11], _, hh => rw [eb16, tBOp_eq]; exact hh
/-- basis.Index -/
theorem eb17 (a0 a1 a2 a3 a4 a5 a6 a7 a8 a9 a10 a11 b0 b1 b2 : Int) : exFun ((Cb16 Try.prog).at 20) 60 Try.f20 (pack [some 12, some 3] [a0, a1, a2, a3, a4, a5, a6, a7, a8, a9, a10, a11, b0, b1, b2]) = tIndex ⟨⟨a0, a1, a2, a3, a4, a5, a6, a7, a8⟩, ⟨a9, a10, a11⟩⟩ ⟨b0, b1, b2⟩ := by kernel_rfl
def Fb_20 : List Int → Option Value
  | [a0, a1, a2, a3, a4, a5, a6, a7, a8, a9, a10, a11, b0, b1, b2] => some (fIndex ⟨⟨a0, a1, a2, a3, a4, a5, a6, a7, a8⟩, ⟨a9, a10, a11⟩⟩ ⟨b0, b1, b2⟩)
  | _ => none
def Cb17 (P : Program) : Cx := (Cb16 P).add 20 [some 12, some 3] Fb_20
theorem okb17 : CxOk (Cb17 Try.prog) := Cx.add_ok okb16 (n := 60) Try.func20 (by kernel_rfl) fun l v hl h => by
  match l, hl, h with
  | [a0, a1, a2, a3, a4, a5, a6, a7, a8, a9, a10, a11, b0, b1, b2], _, hh => rw [eb17, tIndex_eq]; exact hh
/-- plain.Matrix -/
theorem eb18 (a0 a1 a2 a3 a4 a5 : Int) : exFun ((Cb17 Try.prog).at 88) 60 Try.f88 (pack [some 6] [a0, a1, a2, a3, a4, a5]) = tPMatrix ⟨a0, a1, a2, a3, a4, a5⟩ := by kernel_rfl
def Fb_88 : List Int → Option Value
  | [a0, a1, a2, a3, a4, a5] => some (fPMatrix ⟨a0, a1, a2, a3, a4, a5⟩)
  | _ => none
def Cb18 (P : Program) : Cx := (Cb17 P).add 88 [some 6] Fb_88
theorem okb18 : CxOk (Cb18 Try.prog) := Cx.add_ok okb17 (n := 60) Try.func88 (by kernel_rfl) fun l v hl h => by
  match l, hl, h with
  | [a0, a1, a2, a3, a4, a5], _, hh => rw [eb18, tPMatrix_eq]; exact hh
/-- plain.Dot -/
theorem eb19 (a0 a1 a2 a3 a4 a5 b0 b1 b2 c0 c1 c2 : Int) : exFun ((Cb18 Try.prog).at 75) 60 Try.f75 (pack [some 6, some 3, some 3] [a0, a1, a2, a3, a4, a5, b0, b1, b2, c0, c1, c2]) = tPDot ⟨a0, a1, a2, a3, a4, a5⟩ ⟨b0, b1, b2⟩ ⟨c0, c1, c2⟩ := by kernel_rfl
def Fb_75 : List Int → Option Value
  | [a0, a1, a2, a3, a4, a5, b0, b1, b2, c0, c1, c2] => some (fPDot ⟨a0, a1, a2, a3, a4, a5⟩ ⟨b0, b1, b2⟩ ⟨c0, c1, c2⟩)
  | _ => none
def Cb19 (P : Program) : Cx := (Cb18 P).add 75 [some 6, some 3, some 3] Fb_75
theorem okb19 : CxOk (Cb19 Try.prog) := Cx.add_ok okb18 (n := 60) Try.func75 (by kernel_rfl) fun l v hl h => by
  match l, hl, h with
  | [a0, a1, a2, a3, a4, a5, b0, b1, b2, c0, c1, c2], _, hh => rw [eb19, tPDot_eq]; exact hh
/-- plain.Turned -/
theorem eb20 (a0 a1 a2 a3 a4 a5 b0 b1 b2 b3 b4 b5 b6 b7 b8 : Int) : exFun ((Cb19 Try.prog).at 49) 60 Try.f49 (pack [some 6, some 9] [a0, a1, a2, a3, a4, a5, b0, b1, b2, b3, b4, b5, b6, b7, b8]) = tPTurned ⟨a0, a1, a2, a3, a4, a5⟩ ⟨b0, b1, b2, b3, b4, b5, b6, b7, b8⟩ := by kernel_rfl
def Fb_49 : List Int → Option Value
  | [a0, a1, a2, a3, a4, a5, b0, b1, b2, b3, b4, b5, b6, b7, b8] => some (fPTurned ⟨a0, a1, a2, a3, a4, a5⟩ ⟨b0, b1, b2, b3, b4, b5, b6, b7, b8⟩)
  | _ => none
def Cb20 (P : Program) : Cx := (Cb19 P).add 49 [some 6, some 9] Fb_49
theorem okb20 : CxOk (Cb20 Try.prog) := Cx.add_ok okb19 (n := 60) Try.func49 (by kernel_rfl) fun l v hl h => by
  match l, hl, h with
  | [a0, a1, a2, a3, a4, a5, b0, b1, b2, b3, b4, b5, b6, b7, b8], _, hh => rw [eb20, tPTurned_eq]; exact hh
/-- basis.Metric -/
theorem eb21 (a0 a1 a2 a3 a4 a5 a6 a7 a8 a9 a10 a11 b0 b1 b2 b3 b4 b5 : Int) : exFun ((Cb20 Try.prog).at 22) 60 Try.f22 (pack [some 12, some 6] [a0, a1, a2, a3, a4, a5, a6, a7, a8, a9, a10, a11, b0, b1, b2, b3, b4, b5]) = tMetric7 ⟨⟨a0, a1, a2, a3, a4, a5, a6, a7, a8⟩, ⟨a9, a10, a11⟩⟩ ⟨b0, b1, b2, b3, b4, b5⟩ := by kernel_rfl
def Fb_22 : List Int → Option Value
  | [a0, a1, a2, a3, a4, a5, a6, a7, a8, a9, a10, a11, b0, b1, b2, b3, b4, b5] => some (fMetric ⟨⟨a0, a1, a2, a3, a4, a5, a6, a7, a8⟩, ⟨a9, a10, a11⟩⟩ ⟨b0, b1, b2, b3, b4, b5⟩)
  | _ => none
def Cb21 (P : Program) : Cx := (Cb20 P).add 22 [some 12, some 6] Fb_22
theorem okb21 : CxOk (Cb21 Try.prog) := Cx.add_ok okb20 (n := 60) Try.func22 (by kernel_rfl) fun l v hl h => by
  match l, hl, h with
  | [a0, a1, a2, a3, a4, a5, a6, a7, a8, a9, a10, a11, b0, b1, b2, b3, b4, b5], _, hh => rw [eb21, tMetric7_eq]; exact hh

def CCb (P : Program) : Cx := Cb21 P
theorem okCb : CxOk (CCb Try.prog) := okb21

end Go.Proofs.Ytloanoibojmlgaa
