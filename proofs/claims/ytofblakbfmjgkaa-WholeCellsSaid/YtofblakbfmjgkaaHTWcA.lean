/-
  The functions that the statements of this seat call, one by one: called as told, whatever the world. Nothing here is trusted.
-/
import Derived.Test.YtofblakbfmjgkaaHWceT
import Derived.Test.YtofblakbfmjgkaaHSgM
import Derived.Test.YtofblakbfmjgkaaHTSg0
import Derived.Test.YtofblakbfmjgkaaHTSg1
import Derived.Test.YtofblakbfmjgkaaHTSg2
import Derived.Test.YtofblakbfmjgkaaHTSg3
namespace Go.Proofs.Ytofblakbfmjgkaa
open Go Vx

def Cwc0 (P : Program) : Cx := CCf P
theorem okwc0 : CxOk (Cwc0 Try.prog) := okCf
/-- basis.Index -/
theorem ewc1 (a0 a1 a2 a3 a4 a5 a6 a7 a8 a9 a10 a11 b0 b1 b2 : Int) : exFun ((Cwc0 Try.prog).at 55) 60 Try.f55 (pack [some 12, some 3] [a0, a1, a2, a3, a4, a5, a6, a7, a8, a9, a10, a11, b0, b1, b2]) = tIndex ⟨⟨a0, a1, a2, a3, a4, a5, a6, a7, a8⟩, ⟨a9, a10, a11⟩⟩ ⟨b0, b1, b2⟩ := by kernel_rfl
def Fwc_55 : List Int → Option Value
  | [a0, a1, a2, a3, a4, a5, a6, a7, a8, a9, a10, a11, b0, b1, b2] => some (fIndex ⟨⟨a0, a1, a2, a3, a4, a5, a6, a7, a8⟩, ⟨a9, a10, a11⟩⟩ ⟨b0, b1, b2⟩)
  | _ => none
def Cwc1 (P : Program) : Cx := (Cwc0 P).add 55 [some 12, some 3] Fwc_55
theorem okwc1 : CxOk (Cwc1 Try.prog) := Cx.add_ok okwc0 (n := 60) Try.func55 (by kernel_rfl) fun l v hl h => by
  match l, hl, h with
  | [a0, a1, a2, a3, a4, a5, a6, a7, a8, a9, a10, a11, b0, b1, b2], _, hh => rw [ewc1, tIndex_eq]; exact hh
/-- basis.Metric -/
theorem ewc2 (a0 a1 a2 a3 a4 a5 a6 a7 a8 a9 a10 a11 b0 b1 b2 b3 b4 b5 : Int) : exFun ((Cwc1 Try.prog).at 54) 60 Try.f54 (pack [some 12, some 6] [a0, a1, a2, a3, a4, a5, a6, a7, a8, a9, a10, a11, b0, b1, b2, b3, b4, b5]) = tMetric7 ⟨⟨a0, a1, a2, a3, a4, a5, a6, a7, a8⟩, ⟨a9, a10, a11⟩⟩ ⟨b0, b1, b2, b3, b4, b5⟩ := by kernel_rfl
def Fwc_54 : List Int → Option Value
  | [a0, a1, a2, a3, a4, a5, a6, a7, a8, a9, a10, a11, b0, b1, b2, b3, b4, b5] => some (fMetric ⟨⟨a0, a1, a2, a3, a4, a5, a6, a7, a8⟩, ⟨a9, a10, a11⟩⟩ ⟨b0, b1, b2, b3, b4, b5⟩)
  | _ => none
def Cwc2 (P : Program) : Cx := (Cwc1 P).add 54 [some 12, some 6] Fwc_54
theorem okwc2 : CxOk (Cwc2 Try.prog) := Cx.add_ok okwc1 (n := 60) Try.func54 (by kernel_rfl) fun l v hl h => by
  match l, hl, h with
  | [a0, a1, a2, a3, a4, a5, a6, a7, a8, a9, a10, a11, b0, b1, b2, b3, b4, b5], _, hh => rw [ewc2, tMetric7_eq]; exact hh
/-- facettop.times -/
theorem ewc3 (a0 a1 a2 a3 a4 a5 a6 a7 a8 b0 b1 b2 b3 b4 b5 b6 b7 b8 : Int) : exFun ((Cwc2 Try.prog).at 52) 60 Try.f52 (pack [some 9, some 9] [a0, a1, a2, a3, a4, a5, a6, a7, a8, b0, b1, b2, b3, b4, b5, b6, b7, b8]) = tTimesW ⟨a0, a1, a2, a3, a4, a5, a6, a7, a8⟩ ⟨b0, b1, b2, b3, b4, b5, b6, b7, b8⟩ := by kernel_rfl
def Fwc_52 : List Int → Option Value
  | [a0, a1, a2, a3, a4, a5, a6, a7, a8, b0, b1, b2, b3, b4, b5, b6, b7, b8] => some (fProduct ⟨a0, a1, a2, a3, a4, a5, a6, a7, a8⟩ ⟨b0, b1, b2, b3, b4, b5, b6, b7, b8⟩)
  | _ => none
def Cwc3 (P : Program) : Cx := (Cwc2 P).add 52 [some 9, some 9] Fwc_52
theorem okwc3 : CxOk (Cwc3 Try.prog) := Cx.add_ok okwc2 (n := 60) Try.func52 (by kernel_rfl) fun l v hl h => by
  match l, hl, h with
  | [a0, a1, a2, a3, a4, a5, a6, a7, a8, b0, b1, b2, b3, b4, b5, b6, b7, b8], _, hh => rw [ewc3, tTimesW_eq]; exact hh
/-- facettop.dot -/
theorem ewc4 (a0 a1 a2 b0 b1 b2 : Int) : exFun ((Cwc3 Try.prog).at 105) 60 Try.f105 (pack [some 3, some 3] [a0, a1, a2, b0, b1, b2]) = tTDot ⟨a0, a1, a2⟩ ⟨b0, b1, b2⟩ := by kernel_rfl
def Fwc_105 : List Int → Option Value
  | [a0, a1, a2, b0, b1, b2] => some (fTDot ⟨a0, a1, a2⟩ ⟨b0, b1, b2⟩)
  | _ => none
def Cwc4 (P : Program) : Cx := (Cwc3 P).add 105 [some 3, some 3] Fwc_105
theorem okwc4 : CxOk (Cwc4 Try.prog) := Cx.add_ok okwc3 (n := 60) Try.func105 (by kernel_rfl) fun l v hl h => by
  match l, hl, h with
  | [a0, a1, a2, b0, b1, b2], _, hh => rw [ewc4, tTDot_eq]; exact hh

def CCwc (P : Program) : Cx := Cwc4 P
theorem okCwc : CxOk (CCwc Try.prog) := okwc4

end Go.Proofs.Ytofblakbfmjgkaa
