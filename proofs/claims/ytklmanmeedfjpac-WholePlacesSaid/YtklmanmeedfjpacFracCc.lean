/-
  The functions that the statements of this seat call are called as their rows of tests say, whatever the world. Nothing here is trusted.
-/
import Derived.Test.YtklmanmeedfjpacRows
import Derived.Test.YtklmanmeedfjpacFracS
namespace Go.Proofs.Ytklmanmeedfjpac
open Go Vx

def inlined : List Nat := [6, 7, 8, 9, 10, 11, 12, 13, 14, 15, 16, 17, 18, 19, 20, 21, 22, 23, 24, 25, 26, 27, 28, 29, 30, 31, 32, 33, 34, 35, 36, 37, 38, 39, 40, 41, 42, 43, 44, 45, 46, 47]
def C0 (P : Program) : Cx := base P inlined
theorem ok0 : CxOk (C0 Try.prog) := base_ok (by kernel_rfl) (by kernel_rfl)
/-- frac.residue -/
theorem e1 (n m : Int) : exFun (C0 Try.prog) 60 Try.f44 (pack [none, none] [n, m]) = mdO n m := by kernel_rfl
def C1 (P : Program) : Cx := (C0 P).addD 44 [none, none] FMod
theorem ok1 : CxOk (C1 Try.prog) := Cx.addD_ok ok0 (n := 60) Try.func44 (by kernel_rfl) fun l v hl h => by
  match l, hl, h with
  | [n, m], _, hh => simp only [FMod, Option.some.injEq, Prod.mk.injEq] at hh; rw [e1, mdO_eq n m hh.1, hh.2]
/-- frac.Add -/
theorem e2 (a b c d e f : Int) : exFun (C1 Try.prog) 60 Try.f24 (pack [some 3, some 3] [a, b, c, d, e, f]) = some (mkVec [add1 a d, add1 b e, add1 c f]) := by kernel_rfl
def C2 (P : Program) : Cx := (C1 P).add 24 [some 3, some 3] FAdd
theorem ok2 : CxOk (C2 Try.prog) := Cx.add_ok ok1 (n := 60) Try.func24 (by kernel_rfl) fun l v hl h => by
  match l, hl, h with
  | [a, b, c, d, e, f], _, hh => rw [e2]; exact hh
/-- frac.Neg -/
theorem e3 (a b c : Int) : exFun (C2 Try.prog) 60 Try.f26 (pack [some 3] [a, b, c]) = some (mkVec [neg1 a, neg1 b, neg1 c]) := by kernel_rfl
def C3 (P : Program) : Cx := (C2 P).add 26 [some 3] FNeg
theorem ok3 : CxOk (C3 Try.prog) := Cx.add_ok ok2 (n := 60) Try.func26 (by kernel_rfl) fun l v hl h => by
  match l, hl, h with
  | [a, b, c], _, hh => rw [e3]; exact hh
/-- frac.Sub -/
theorem e4 (a b c d e f : Int) : exFun (C3 Try.prog) 60 Try.f25 (pack [some 3, some 3] [a, b, c, d, e, f]) = some (mkVec [add1 a (neg1 d), add1 b (neg1 e), add1 c (neg1 f)]) := by kernel_rfl
def C4 (P : Program) : Cx := (C3 P).add 25 [some 3, some 3] FSub
theorem ok4 : CxOk (C4 Try.prog) := Cx.add_ok ok3 (n := 60) Try.func25 (by kernel_rfl) fun l v hl h => by
  match l, hl, h with
  | [a, b, c, d, e, f], _, hh => rw [e4]; exact hh
/-- frac.Times -/
theorem e5 (n a b c : Int) : exFun (C4 Try.prog) 60 Try.f28 (pack [none, some 3] [n, a, b, c]) = some (mkVec [times1 n a, times1 n b, times1 n c]) := by kernel_rfl
def C5 (P : Program) : Cx := (C4 P).add 28 [none, some 3] FTimes
theorem ok5 : CxOk (C5 Try.prog) := Cx.add_ok ok4 (n := 60) Try.func28 (by kernel_rfl) fun l v hl h => by
  match l, hl, h with
  | [n, a, b, c], _, hh => rw [e5]; exact hh
/-- frac.isFineness -/
theorem e6 (m : Int) : exFun (C5 Try.prog) 60 Try.f34 (pack [none] [m]) = isFO m := by kernel_rfl
def C6 (P : Program) : Cx := (C5 P).add 34 [none] FFine
theorem ok6 : CxOk (C6 Try.prog) := Cx.add_ok ok5 (n := 60) Try.func34 (by kernel_rfl) fun l v hl h => by
  match l, hl, h with
  | [m], _, hh => rw [e6, isFO_eq]; exact hh
/-- frac.Form -/
theorem e7 (m x y z : Int) : exFun (C6 Try.prog) 60 Try.f8 (pack [some 4] [m, x, y, z]) = formO m x y z := by kernel_rfl
def C7 (P : Program) : Cx := (C6 P).add 8 [some 4] FForm
theorem ok7 : CxOk (C7 Try.prog) := Cx.add_ok ok6 (n := 60) Try.func8 (by kernel_rfl) fun l v hl h => by
  match l, hl, h with
  | [m, x, y, z], _, hh => rw [e7, formO_eq]; exact hh
/-- frac.Place -/
theorem e8 (m x y z : Int) : exFun (C7 Try.prog) 60 Try.f30 (pack [none, some 3] [m, x, y, z]) = placeO m x y z := by kernel_rfl
def C8 (P : Program) : Cx := (C7 P).add 30 [none, some 3] FPlace
theorem ok8 : CxOk (C8 Try.prog) := Cx.add_ok ok7 (n := 60) Try.func30 (by kernel_rfl) fun l v hl h => by
  match l, hl, h with
  | [m, x, y, z], _, hh => rw [e8, placeO_eq]; exact hh
/-- frac.Finer -/
theorem e9 (m x y z n : Int) : exFun (C8 Try.prog) 60 Try.f9 (pack [some 4, none] [m, x, y, z, n]) = finO m x y z n := by kernel_rfl
def C9 (P : Program) : Cx := (C8 P).add 9 [some 4, none] FFiner
theorem ok9 : CxOk (C9 Try.prog) := Cx.add_ok ok8 (n := 60) Try.func9 (by kernel_rfl) fun l v hl h => by
  match l, hl, h with
  | [m, x, y, z, n], _, hh => rw [e9, finO_eq]; exact hh
/-- frac.Shift -/
theorem e10 (m x y z t u v : Int) : exFun (C9 Try.prog) 60 Try.f31 (pack [some 4, some 3] [m, x, y, z, t, u, v]) = shiftO m x y z t u v := by kernel_rfl
def C10 (P : Program) : Cx := (C9 P).add 31 [some 4, some 3] FShift
theorem ok10 : CxOk (C10 Try.prog) := Cx.add_ok ok9 (n := 60) Try.func31 (by kernel_rfl) fun l v hl h => by
  match l, hl, h with
  | [m, x, y, z, t, u, v], _, hh => rw [e10, shiftO_eq]; exact hh
/-- frac.Opposite -/
theorem e11 (m x y z : Int) : exFun (C10 Try.prog) 60 Try.f10 (pack [some 4] [m, x, y, z]) = oppO m x y z := by kernel_rfl
def C11 (P : Program) : Cx := (C10 P).add 10 [some 4] FOpp
theorem ok11 : CxOk (C11 Try.prog) := Cx.add_ok ok10 (n := 60) Try.func10 (by kernel_rfl) fun l v hl h => by
  match l, hl, h with
  | [m, x, y, z], _, hh => rw [e11, oppO_eq]; exact hh
/-- frac.Minus -/
theorem e12 (m x y z n a b c : Int) : exFun (C11 Try.prog) 60 Try.f32 (pack [some 4, some 4] [m, x, y, z, n, a, b, c]) = minusO m x y z n a b c := by kernel_rfl
def C12 (P : Program) : Cx := (C11 P).add 32 [some 4, some 4] FMinus
theorem ok12 : CxOk (C12 Try.prog) := Cx.add_ok ok11 (n := 60) Try.func32 (by kernel_rfl) fun l v hl h => by
  match l, hl, h with
  | [m, x, y, z, n, a, b, c], _, hh => rw [e12, minusO_eq]; exact hh
/-- cmp.isNaN[int] -/
theorem e13 (a : Int) : exFun (C12 Try.prog) 60 Try.f45 (pack [none] [a]) = some (.bool (a != a)) := by kernel_rfl
def C13 (P : Program) : Cx := (C12 P).add 45 [none] F50
theorem ok13 : CxOk (C13 Try.prog) := Cx.add_ok ok12 (n := 60) Try.func45 (by kernel_rfl) fun l v hl h => by
  match l, hl, h with
  | [a], _, hh => rw [e13, bne_self_eq_false]; exact hh
/-- cmp.Compare[int] -/
theorem e14 (a b : Int) : exFun (C13 Try.prog) 60 Try.f33 (pack [none, none] [a, b]) = chainO mk1 (cmpT a b) [0] := by kernel_rfl
def C14 (P : Program) : Cx := (C13 P).add 33 [none, none] F47
theorem ok14 : CxOk (C14 Try.prog) := Cx.add_ok ok13 (n := 60) Try.func33 (by kernel_rfl) fun l v hl h => by
  match l, hl, h with
  | [a, b], _, hh => rw [e14, chain_eq]; exact hh
/-- frac.Order -/
theorem e15 (m x y z n a b c : Int) : exFun (C14 Try.prog) 60 Try.f7 (pack [some 4, some 4] [m, x, y, z, n, a, b, c]) = ordO m x y z n a b c := by kernel_rfl
def C15 (P : Program) : Cx := (C14 P).add 7 [some 4, some 4] FOrd
theorem ok15 : CxOk (C15 Try.prog) := Cx.add_ok ok14 (n := 60) Try.func7 (by kernel_rfl) fun l v hl h => by
  match l, hl, h with
  | [m, x, y, z, n, a, b, c], _, hh => rw [e15, ordO_eq]; exact hh
/-- facetlaw02.awake -/
theorem e16 : exFun (C15 Try.prog) 60 Try.f6 (pack [] []) = some (.bool true) := by kernel_rfl
def C16 (P : Program) : Cx := (C15 P).add 6 [] FAwake
theorem ok16 : CxOk (C16 Try.prog) := Cx.add_ok ok15 (n := 60) Try.func6 (by kernel_rfl) fun l v hl h => by
  match l, hl, h with
  | [], _, hh => rw [e16]; exact hh

def CC (P : Program) : Cx := C16 P
theorem okC : CxOk (CC Try.prog) := ok16

end Go.Proofs.Ytklmanmeedfjpac
