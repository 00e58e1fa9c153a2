/-
  The functions that the statements of this seat call are called as their rows of tests say, whatever the world. Nothing here is trusted.
-/
import Derived.Test.YtklmanmeedfjpaaRows
import Derived.Test.YtklmanmeedfjpaaVecS
namespace Go.Proofs.Ytklmanmeedfjpaa
open Go Vx

def inlined : List Nat := [9, 10, 11, 12, 13, 14, 15, 16, 17, 18, 19, 20, 21, 22, 23, 24, 25, 26, 27, 28, 29, 30, 31, 32, 33, 34, 35, 36, 37, 38, 39, 40, 41, 42, 43, 44, 45, 46, 47, 48, 49, 50]
def C0 (P : Program) : Cx := base P inlined
theorem ok0 : CxOk (C0 Try.prog) := base_ok (by kernel_rfl) (by kernel_rfl)
/-- vec.within -/
theorem e1 (a b c n : Int) : exFun (C0 Try.prog) 60 Try.f43 (pack [some 3, none] [a, b, c, n]) = chainO mk1 (withinT a b c n) [0] := by kernel_rfl
def C1 (P : Program) : Cx := (C0 P).add 43 [some 3, none] F43
theorem ok1 : CxOk (C1 Try.prog) := Cx.add_ok ok0 (n := 60) Try.func43 (by kernel_rfl) fun l v hl h => by
  match l, hl, h with
  | [a, b, c, n], _, hh => rw [e1, chain_eq]; exact hh
/-- vec.Check -/
theorem e2 (a b c d e f g h i : Int) : exFun (C1 Try.prog) 60 Try.f24 (pack [some 9] [a, b, c, d, e, f, g, h, i]) = chainO mk1 (checkT a b c d e f g h i) [0] := by kernel_rfl
def C2 (P : Program) : Cx := (C1 P).add 24 [some 9] F24
theorem ok2 : CxOk (C2 Try.prog) := Cx.add_ok ok1 (n := 60) Try.func24 (by kernel_rfl) fun l v hl h => by
  match l, hl, h with
  | [a, b, c, d, e, f, g, h, i], _, hh => rw [e2, chain_eq]; exact hh
/-- vec.checkBoth -/
theorem e3 (a b c d e f g h i x y z : Int) : exFun (C2 Try.prog) 60 Try.f38 (pack [some 9, some 3] [a, b, c, d, e, f, g, h, i, x, y, z]) = chainO mk1 (bothT a b c d e f g h i) [withinR x y z 2147483648] := by kernel_rfl
def C3 (P : Program) : Cx := (C2 P).add 38 [some 9, some 3] F38
theorem ok3 : CxOk (C3 Try.prog) := Cx.add_ok ok2 (n := 60) Try.func38 (by kernel_rfl) fun l v hl h => by
  match l, hl, h with
  | [a, b, c, d, e, f, g, h, i, x, y, z], _, hh => rw [e3, chain_eq]; exact hh
/-- vec.Mul -/
theorem e4 (a b c d e f g h i j k l m n o p q r : Int) : exFun (C3 Try.prog) 60 Try.f10 (pack [some 9, some 9] [a, b, c, d, e, f, g, h, i, j, k, l, m, n, o, p, q, r]) = chainO mkMe (mulT a b c d e f g h i j k l m n o p q r) (mulD a b c d e f g h i j k l m n o p q r) := by kernel_rfl
def C4 (P : Program) : Cx := (C3 P).add 10 [some 9, some 9] F10
theorem ok4 : CxOk (C4 Try.prog) := Cx.add_ok ok3 (n := 60) Try.func10 (by kernel_rfl) fun l v hl h => by
  match l, hl, h with
  | [a, b, c, d, e, f, g, h, i, j, k, l, m, n, o, p, q, r], _, hh => rw [e4, chain_eq]; exact hh
/-- vec.Apply -/
theorem e5 (a b c d e f g h i x y z : Int) : exFun (C4 Try.prog) 60 Try.f11 (pack [some 9, some 3] [a, b, c, d, e, f, g, h, i, x, y, z]) = chainO mkVe (applyT a b c d e f g h i x y z) (applyD a b c d e f g h i x y z) := by kernel_rfl
def C5 (P : Program) : Cx := (C4 P).add 11 [some 9, some 3] F11
theorem ok5 : CxOk (C5 Try.prog) := Cx.add_ok ok4 (n := 60) Try.func11 (by kernel_rfl) fun l v hl h => by
  match l, hl, h with
  | [a, b, c, d, e, f, g, h, i, x, y, z], _, hh => rw [e5, chain_eq]; exact hh
/-- vec.Left -/
theorem e6 (x y z a b c d e f g h i : Int) : exFun (C5 Try.prog) 60 Try.f12 (pack [some 3, some 9] [x, y, z, a, b, c, d, e, f, g, h, i]) = chainO mkVe (applyT a b c d e f g h i x y z) (leftD a b c d e f g h i x y z) := by kernel_rfl
def C6 (P : Program) : Cx := (C5 P).add 12 [some 3, some 9] F12
theorem ok6 : CxOk (C6 Try.prog) := Cx.add_ok ok5 (n := 60) Try.func12 (by kernel_rfl) fun l v hl h => by
  match l, hl, h with
  | [x, y, z, a, b, c, d, e, f, g, h, i], _, hh => rw [e6, chain_eq]; exact hh
/-- facetref01.Mat -/
theorem e7 (a b c d e f g h i : Int) : exFun (C6 Try.prog) 60 Try.f13 (pack [some 9] [a, b, c, d, e, f, g, h, i]) = chainO mk1 (rangeT 1000 [a, b, c, d, e, f, g, h, i]) [0] := by kernel_rfl
def C7 (P : Program) : Cx := (C6 P).add 13 [some 9] F13
theorem ok7 : CxOk (C7 Try.prog) := Cx.add_ok ok6 (n := 60) Try.func13 (by kernel_rfl) fun l v hl h => by
  match l, hl, h with
  | [a, b, c, d, e, f, g, h, i], _, hh => rw [e7, chain_eq]; exact hh
/-- facetref01.Column -/
theorem e8 (x y z : Int) : exFun (C7 Try.prog) 60 Try.f15 (pack [some 3] [x, y, z]) = chainO mk1 (rangeT 2147483648 [x, y, z]) [0] := by kernel_rfl
def C8 (P : Program) : Cx := (C7 P).add 15 [some 3] F15
theorem ok8 : CxOk (C8 Try.prog) := Cx.add_ok ok7 (n := 60) Try.func15 (by kernel_rfl) fun l v hl h => by
  match l, hl, h with
  | [x, y, z], _, hh => rw [e8, chain_eq]; exact hh
/-- vec.Transpose -/
theorem e9 (a b c d e f g h i : Int) : exFun (C8 Try.prog) 60 Try.f20 (pack [some 9] [a, b, c, d, e, f, g, h, i]) = chainO mkMe (err9T a b c d e f g h i) [a, d, g, b, e, h, c, f, i, 0] := by kernel_rfl
def C9 (P : Program) : Cx := (C8 P).add 20 [some 9] F20
theorem ok9 : CxOk (C9 Try.prog) := Cx.add_ok ok8 (n := 60) Try.func20 (by kernel_rfl) fun l v hl h => by
  match l, hl, h with
  | [a, b, c, d, e, f, g, h, i], _, hh => rw [e9, chain_eq]; exact hh
/-- vec.Det -/
theorem e10 (a b c d e f g h i : Int) : exFun (C9 Try.prog) 60 Try.f21 (pack [some 9] [a, b, c, d, e, f, g, h, i]) = chainO mkIe (err1T a b c d e f g h i) [detR a b c d e f g h i, 0] := by kernel_rfl
def C10 (P : Program) : Cx := (C9 P).add 21 [some 9] F21
theorem ok10 : CxOk (C10 Try.prog) := Cx.add_ok ok9 (n := 60) Try.func21 (by kernel_rfl) fun l v hl h => by
  match l, hl, h with
  | [a, b, c, d, e, f, g, h, i], _, hh => rw [e10, chain_eq]; exact hh
/-- vec.Trace -/
theorem e11 (a b c d e f g h i : Int) : exFun (C10 Try.prog) 60 Try.f22 (pack [some 9] [a, b, c, d, e, f, g, h, i]) = chainO mkIe (err1T a b c d e f g h i) [W (W (a + e) + i), 0] := by kernel_rfl
def C11 (P : Program) : Cx := (C10 P).add 22 [some 9] F22
theorem ok11 : CxOk (C11 Try.prog) := Cx.add_ok ok10 (n := 60) Try.func22 (by kernel_rfl) fun l v hl h => by
  match l, hl, h with
  | [a, b, c, d, e, f, g, h, i], _, hh => rw [e11, chain_eq]; exact hh
/-- vec.Adjugate -/
theorem e12 (a b c d e f g h i : Int) : exFun (C11 Try.prog) 60 Try.f23 (pack [some 9] [a, b, c, d, e, f, g, h, i]) = chainO mkMe (err9T a b c d e f g h i) (cofL a b c d e f g h i ++ [0]) := by kernel_rfl
def C12 (P : Program) : Cx := (C11 P).add 23 [some 9] F23
theorem ok12 : CxOk (C12 Try.prog) := Cx.add_ok ok11 (n := 60) Try.func23 (by kernel_rfl) fun l v hl h => by
  match l, hl, h with
  | [a, b, c, d, e, f, g, h, i], _, hh => rw [e12, chain_eq]; exact hh
/-- cmp.isNaN[int] -/
theorem e13 (a : Int) : exFun (C12 Try.prog) 60 Try.f50 (pack [none] [a]) = some (.bool (a != a)) := by kernel_rfl
def C13 (P : Program) : Cx := (C12 P).add 50 [none] F50
theorem ok13 : CxOk (C13 Try.prog) := Cx.add_ok ok12 (n := 60) Try.func50 (by kernel_rfl) fun l v hl h => by
  match l, hl, h with
  | [a], _, hh => rw [e13, bne_self_eq_false]; exact hh
/-- cmp.Compare[int] -/
theorem e14 (a b : Int) : exFun (C13 Try.prog) 60 Try.f47 (pack [none, none] [a, b]) = chainO mk1 (cmpT a b) [0] := by kernel_rfl
def C14 (P : Program) : Cx := (C13 P).add 47 [none, none] F47
theorem ok14 : CxOk (C14 Try.prog) := Cx.add_ok ok13 (n := 60) Try.func47 (by kernel_rfl) fun l v hl h => by
  match l, hl, h with
  | [a, b], _, hh => rw [e14, chain_eq]; exact hh
/-- vec.Compare -/
theorem e15 (a b c d e f g h i j k l m n o p q r : Int) : exFun (C14 Try.prog) 60 Try.f33 (pack [some 9, some 9] [a, b, c, d, e, f, g, h, i, j, k, l, m, n, o, p, q, r]) = chainO mk1 (compT [a, b, c, d, e, f, g, h, i] [j, k, l, m, n, o, p, q, r]) [0] := by kernel_rfl
def C15 (P : Program) : Cx := (C14 P).add 33 [some 9, some 9] F33
theorem ok15 : CxOk (C15 Try.prog) := Cx.add_ok ok14 (n := 60) Try.func33 (by kernel_rfl) fun l v hl h => by
  match l, hl, h with
  | [a, b, c, d, e, f, g, h, i, j, k, l, m, n, o, p, q, r], _, hh => rw [e15, chain_eq]; exact hh
/-- facetref01.Compare -/
theorem e16 (a b c d e f g h i j k l m n o p q r : Int) : exFun (C15 Try.prog) 60 Try.f34 (pack [some 9, some 9] [a, b, c, d, e, f, g, h, i, j, k, l, m, n, o, p, q, r]) = chainO mk1 (dcompT [a, b, c, d, e, f, g, h, i] [j, k, l, m, n, o, p, q, r]) [0] := by kernel_rfl
def C16 (P : Program) : Cx := (C15 P).add 34 [some 9, some 9] F34
theorem ok16 : CxOk (C16 Try.prog) := Cx.add_ok ok15 (n := 60) Try.func34 (by kernel_rfl) fun l v hl h => by
  match l, hl, h with
  | [a, b, c, d, e, f, g, h, i, j, k, l, m, n, o, p, q, r], _, hh => rw [e16, chain_eq]; exact hh
/-- facetlaw01.awake -/
theorem e17 : exFun (C16 Try.prog) 60 Try.f9 (pack [] []) = some (.bool true) := by kernel_rfl
def C17 (P : Program) : Cx := (C16 P).add 9 [] F9
theorem ok17 : CxOk (C17 Try.prog) := Cx.add_ok ok16 (n := 60) Try.func9 (by kernel_rfl) fun l v hl h => by
  match l, hl, h with
  | [], _, hh => rw [e17]; exact hh
/-- vec.Inverse -/
theorem e18 (a b c d e f g h i : Int) : exFun (C17 Try.prog) 60 Try.f29 (pack [some 9] [a, b, c, d, e, f, g, h, i]) = invO a b c d e f g h i := by kernel_rfl
def C18 (P : Program) : Cx := (C17 P).add 29 [some 9] F29
theorem ok18 : CxOk (C18 Try.prog) := Cx.add_ok ok17 (n := 60) Try.func29 (by kernel_rfl) fun l v hl h => by
  match l, hl, h with
  | [a, b, c, d, e, f, g, h, i], _, hh => rw [e18, invO_eq]; exact hh
/-- vec.Order -/
theorem e19 (a b c d e f g h i : Int) : exFun (C18 Try.prog) 60 Try.f31 (pack [some 9] [a, b, c, d, e, f, g, h, i]) = chainO mkIe (orderT a b c d e f g h i) [0, 9] := by kernel_rfl
def C19 (P : Program) : Cx := (C18 P).add 31 [some 9] F31
theorem ok19 : CxOk (C19 Try.prog) := Cx.add_ok ok18 (n := 60) Try.func31 (by kernel_rfl) fun l v hl h => by
  match l, hl, h with
  | [a, b, c, d, e, f, g, h, i], _, hh => rw [e19, chain_eq]; exact hh
/-- facetref01.Form -/
theorem e20 (a b c d e f g h i : Int) : exFun (C19 Try.prog) 60 Try.f44 (pack [some 9] [a, b, c, d, e, f, g, h, i]) = formO a b c d e f g h i := by kernel_rfl
def C20 (P : Program) : Cx := (C19 P).add 44 [some 9] F44
theorem ok20 : CxOk (C20 Try.prog) := Cx.add_ok ok19 (n := 60) Try.func44 (by kernel_rfl) fun l v hl h => by
  match l, hl, h with
  | [a, b, c, d, e, f, g, h, i], _, hh => rw [e20, formO_eq]; exact hh
/-- facetref01.DocInverse -/
theorem e21 (a b c d e f g h i : Int) : exFun (C20 Try.prog) 60 Try.f30 (pack [some 9] [a, b, c, d, e, f, g, h, i]) = chainO mkMe [(formR a b c d e f g h i != 0, zeros9 (formR a b c d e f g h i))] (rinvL a b c d e f g h i ++ [0]) := by kernel_rfl
def C21 (P : Program) : Cx := (C20 P).add 30 [some 9] F30
theorem ok21 : CxOk (C21 Try.prog) := Cx.add_ok ok20 (n := 60) Try.func30 (by kernel_rfl) fun l v hl h => by
  match l, hl, h with
  | [a, b, c, d, e, f, g, h, i], _, hh => rw [e21, chain_eq]; exact hh

def CC (P : Program) : Cx := C21 P
theorem okC : CxOk (CC Try.prog) := ok21

end Go.Proofs.Ytklmanmeedfjpaa
