/-
  The functions that the statements of this seat call are called as their rows of tests say, whatever the world. Nothing here is trusted.
-/
import Derived.Test.YtklmanmeedfjpabRows
import Derived.Test.YtklmanmeedfjpabFracS
namespace Go.Proofs.Ytklmanmeedfjpab
open Go Vx

def inlined : List Nat := [9, 10, 11, 12, 13, 14, 15, 16, 17, 18, 19, 20, 21, 22, 23, 24, 25, 26, 27, 28, 29, 30, 31, 32, 33, 34, 35, 36, 37, 38, 39, 40, 41, 42, 43, 44, 45, 46, 47, 48, 49, 50, 51, 52, 53, 54, 55, 56, 57, 58, 59, 60, 61, 62, 63]
def C0 (P : Program) : Cx := base P inlined
theorem ok0 : CxOk (C0 Try.prog) := base_ok (by kernel_rfl) (by kernel_rfl)
/-- frac.residue -/
theorem e1 (n m : Int) : exFun (C0 Try.prog) 60 Try.f49 (pack [none, none] [n, m]) = mdO n m := by kernel_rfl
def C1 (P : Program) : Cx := (C0 P).addD 49 [none, none] FMod
theorem ok1 : CxOk (C1 Try.prog) := Cx.addD_ok ok0 (n := 60) Try.func49 (by kernel_rfl) fun l v hl h => by
  match l, hl, h with
  | [n, m], _, hh => simp only [FMod, Option.some.injEq, Prod.mk.injEq] at hh; rw [e1, mdO_eq n m hh.1, hh.2]
/-- facetref02.Mod -/
theorem e2 (n m : Int) : exFun (C1 Try.prog) 60 Try.f52 (pack [none, none] [n, m]) = mdO n m := by kernel_rfl
def C2 (P : Program) : Cx := (C1 P).addD 52 [none, none] FMod
theorem ok2 : CxOk (C2 Try.prog) := Cx.addD_ok ok1 (n := 60) Try.func52 (by kernel_rfl) fun l v hl h => by
  match l, hl, h with
  | [n, m], _, hh => simp only [FMod, Option.some.injEq, Prod.mk.injEq] at hh; rw [e2, mdO_eq n m hh.1, hh.2]
/-- frac.Add -/
theorem e3 (a b c d e f : Int) : exFun (C2 Try.prog) 60 Try.f17 (pack [some 3, some 3] [a, b, c, d, e, f]) = some (mkVec [add1 a d, add1 b e, add1 c f]) := by kernel_rfl
def C3 (P : Program) : Cx := (C2 P).add 17 [some 3, some 3] FAdd
theorem ok3 : CxOk (C3 Try.prog) := Cx.add_ok ok2 (n := 60) Try.func17 (by kernel_rfl) fun l v hl h => by
  match l, hl, h with
  | [a, b, c, d, e, f], _, hh => rw [e3]; exact hh
/-- frac.Neg -/
theorem e4 (a b c : Int) : exFun (C3 Try.prog) 60 Try.f21 (pack [some 3] [a, b, c]) = some (mkVec [neg1 a, neg1 b, neg1 c]) := by kernel_rfl
def C4 (P : Program) : Cx := (C3 P).add 21 [some 3] FNeg
theorem ok4 : CxOk (C4 Try.prog) := Cx.add_ok ok3 (n := 60) Try.func21 (by kernel_rfl) fun l v hl h => by
  match l, hl, h with
  | [a, b, c], _, hh => rw [e4]; exact hh
/-- frac.Sub -/
theorem e5 (a b c d e f : Int) : exFun (C4 Try.prog) 60 Try.f19 (pack [some 3, some 3] [a, b, c, d, e, f]) = some (mkVec [add1 a (neg1 d), add1 b (neg1 e), add1 c (neg1 f)]) := by kernel_rfl
def C5 (P : Program) : Cx := (C4 P).add 19 [some 3, some 3] FSub
theorem ok5 : CxOk (C5 Try.prog) := Cx.add_ok ok4 (n := 60) Try.func19 (by kernel_rfl) fun l v hl h => by
  match l, hl, h with
  | [a, b, c, d, e, f], _, hh => rw [e5]; exact hh
/-- frac.Times -/
theorem e6 (n a b c : Int) : exFun (C5 Try.prog) 60 Try.f23 (pack [none, some 3] [n, a, b, c]) = some (mkVec [times1 n a, times1 n b, times1 n c]) := by kernel_rfl
def C6 (P : Program) : Cx := (C5 P).add 23 [none, some 3] FTimes
theorem ok6 : CxOk (C6 Try.prog) := Cx.add_ok ok5 (n := 60) Try.func23 (by kernel_rfl) fun l v hl h => by
  match l, hl, h with
  | [n, a, b, c], _, hh => rw [e6]; exact hh
/-- frac.isFineness -/
theorem e7 (m : Int) : exFun (C6 Try.prog) 60 Try.f53 (pack [none] [m]) = isFO m := by kernel_rfl
def C7 (P : Program) : Cx := (C6 P).add 53 [none] FFine
theorem ok7 : CxOk (C7 Try.prog) := Cx.add_ok ok6 (n := 60) Try.func53 (by kernel_rfl) fun l v hl h => by
  match l, hl, h with
  | [m], _, hh => rw [e7, isFO_eq]; exact hh
/-- facetref02.Right -/
theorem e8 (m : Int) : exFun (C7 Try.prog) 60 Try.f54 (pack [none] [m]) = isFO m := by kernel_rfl
def C8 (P : Program) : Cx := (C7 P).add 54 [none] FFine
theorem ok8 : CxOk (C8 Try.prog) := Cx.add_ok ok7 (n := 60) Try.func54 (by kernel_rfl) fun l v hl h => by
  match l, hl, h with
  | [m], _, hh => rw [e8, isFO_eq]; exact hh
/-- frac.Form -/
theorem e9 (m x y z : Int) : exFun (C8 Try.prog) 60 Try.f25 (pack [some 4] [m, x, y, z]) = formO m x y z := by kernel_rfl
def C9 (P : Program) : Cx := (C8 P).add 25 [some 4] FForm
theorem ok9 : CxOk (C9 Try.prog) := Cx.add_ok ok8 (n := 60) Try.func25 (by kernel_rfl) fun l v hl h => by
  match l, hl, h with
  | [m, x, y, z], _, hh => rw [e9, formO_eq]; exact hh
/-- facetref02.Form -/
theorem e10 (m x y z : Int) : exFun (C9 Try.prog) 60 Try.f26 (pack [some 4] [m, x, y, z]) = formO m x y z := by kernel_rfl
def C10 (P : Program) : Cx := (C9 P).add 26 [some 4] FForm
theorem ok10 : CxOk (C10 Try.prog) := Cx.add_ok ok9 (n := 60) Try.func26 (by kernel_rfl) fun l v hl h => by
  match l, hl, h with
  | [m, x, y, z], _, hh => rw [e10, formO_eq]; exact hh
/-- frac.Place -/
theorem e11 (m x y z : Int) : exFun (C10 Try.prog) 60 Try.f27 (pack [none, some 3] [m, x, y, z]) = placeO m x y z := by kernel_rfl
def C11 (P : Program) : Cx := (C10 P).add 27 [none, some 3] FPlace
theorem ok11 : CxOk (C11 Try.prog) := Cx.add_ok ok10 (n := 60) Try.func27 (by kernel_rfl) fun l v hl h => by
  match l, hl, h with
  | [m, x, y, z], _, hh => rw [e11, placeO_eq]; exact hh
/-- facetref02.DocPlace -/
theorem e12 (m x y z : Int) : exFun (C11 Try.prog) 60 Try.f28 (pack [none, some 3] [m, x, y, z]) = placeO m x y z := by kernel_rfl
def C12 (P : Program) : Cx := (C11 P).add 28 [none, some 3] FPlace
theorem ok12 : CxOk (C12 Try.prog) := Cx.add_ok ok11 (n := 60) Try.func28 (by kernel_rfl) fun l v hl h => by
  match l, hl, h with
  | [m, x, y, z], _, hh => rw [e12, placeO_eq]; exact hh
/-- frac.Finer -/
theorem e13 (m x y z n : Int) : exFun (C12 Try.prog) 60 Try.f29 (pack [some 4, none] [m, x, y, z, n]) = finO m x y z n := by kernel_rfl
def C13 (P : Program) : Cx := (C12 P).add 29 [some 4, none] FFiner
theorem ok13 : CxOk (C13 Try.prog) := Cx.add_ok ok12 (n := 60) Try.func29 (by kernel_rfl) fun l v hl h => by
  match l, hl, h with
  | [m, x, y, z, n], _, hh => rw [e13, finO_eq]; exact hh
/-- facetref02.DocFiner -/
theorem e14 (m x y z n : Int) : exFun (C13 Try.prog) 60 Try.f30 (pack [some 4, none] [m, x, y, z, n]) = dfinO m x y z n := by kernel_rfl
def C14 (P : Program) : Cx := (C13 P).add 30 [some 4, none] FDFiner
theorem ok14 : CxOk (C14 Try.prog) := Cx.add_ok ok13 (n := 60) Try.func30 (by kernel_rfl) fun l v hl h => by
  match l, hl, h with
  | [m, x, y, z, n], _, hh => rw [e14, dfinO_eq]; exact hh
/-- frac.Shift -/
theorem e15 (m x y z t u v : Int) : exFun (C14 Try.prog) 60 Try.f31 (pack [some 4, some 3] [m, x, y, z, t, u, v]) = shiftO m x y z t u v := by kernel_rfl
def C15 (P : Program) : Cx := (C14 P).add 31 [some 4, some 3] FShift
theorem ok15 : CxOk (C15 Try.prog) := Cx.add_ok ok14 (n := 60) Try.func31 (by kernel_rfl) fun l v hl h => by
  match l, hl, h with
  | [m, x, y, z, t, u, v], _, hh => rw [e15, shiftO_eq]; exact hh
/-- facetref02.DocShift -/
theorem e16 (m x y z t u v : Int) : exFun (C15 Try.prog) 60 Try.f32 (pack [some 4, some 3] [m, x, y, z, t, u, v]) = dshiftO m x y z t u v := by kernel_rfl
def C16 (P : Program) : Cx := (C15 P).add 32 [some 4, some 3] FDShift
theorem ok16 : CxOk (C16 Try.prog) := Cx.add_ok ok15 (n := 60) Try.func32 (by kernel_rfl) fun l v hl h => by
  match l, hl, h with
  | [m, x, y, z, t, u, v], _, hh => rw [e16, dshiftO_eq]; exact hh
/-- frac.Opposite -/
theorem e17 (m x y z : Int) : exFun (C16 Try.prog) 60 Try.f35 (pack [some 4] [m, x, y, z]) = oppO m x y z := by kernel_rfl
def C17 (P : Program) : Cx := (C16 P).add 35 [some 4] FOpp
theorem ok17 : CxOk (C17 Try.prog) := Cx.add_ok ok16 (n := 60) Try.func35 (by kernel_rfl) fun l v hl h => by
  match l, hl, h with
  | [m, x, y, z], _, hh => rw [e17, oppO_eq]; exact hh
/-- facetref02.DocOpposite -/
theorem e18 (m x y z : Int) : exFun (C17 Try.prog) 60 Try.f36 (pack [some 4] [m, x, y, z]) = oppO m x y z := by kernel_rfl
def C18 (P : Program) : Cx := (C17 P).add 36 [some 4] FOpp
theorem ok18 : CxOk (C18 Try.prog) := Cx.add_ok ok17 (n := 60) Try.func36 (by kernel_rfl) fun l v hl h => by
  match l, hl, h with
  | [m, x, y, z], _, hh => rw [e18, oppO_eq]; exact hh
/-- frac.Minus -/
theorem e19 (m x y z n a b c : Int) : exFun (C18 Try.prog) 60 Try.f33 (pack [some 4, some 4] [m, x, y, z, n, a, b, c]) = minusO m x y z n a b c := by kernel_rfl
def C19 (P : Program) : Cx := (C18 P).add 33 [some 4, some 4] FMinus
theorem ok19 : CxOk (C19 Try.prog) := Cx.add_ok ok18 (n := 60) Try.func33 (by kernel_rfl) fun l v hl h => by
  match l, hl, h with
  | [m, x, y, z, n, a, b, c], _, hh => rw [e19, minusO_eq]; exact hh
/-- facetref02.DocMinus -/
theorem e20 (m x y z n a b c : Int) : exFun (C19 Try.prog) 60 Try.f34 (pack [some 4, some 4] [m, x, y, z, n, a, b, c]) = dminusO m x y z n a b c := by kernel_rfl
def C20 (P : Program) : Cx := (C19 P).add 34 [some 4, some 4] FDMinus
theorem ok20 : CxOk (C20 Try.prog) := Cx.add_ok ok19 (n := 60) Try.func34 (by kernel_rfl) fun l v hl h => by
  match l, hl, h with
  | [m, x, y, z, n, a, b, c], _, hh => rw [e20, dminusO_eq]; exact hh
/-- cmp.isNaN[int] -/
theorem e21 (a : Int) : exFun (C20 Try.prog) 60 Try.f61 (pack [none] [a]) = some (.bool (a != a)) := by kernel_rfl
def C21 (P : Program) : Cx := (C20 P).add 61 [none] F50
theorem ok21 : CxOk (C21 Try.prog) := Cx.add_ok ok20 (n := 60) Try.func61 (by kernel_rfl) fun l v hl h => by
  match l, hl, h with
  | [a], _, hh => rw [e21, bne_self_eq_false]; exact hh
/-- cmp.Compare[int] -/
theorem e22 (a b : Int) : exFun (C21 Try.prog) 60 Try.f55 (pack [none, none] [a, b]) = chainO mk1 (cmpT a b) [0] := by kernel_rfl
def C22 (P : Program) : Cx := (C21 P).add 55 [none, none] F47
theorem ok22 : CxOk (C22 Try.prog) := Cx.add_ok ok21 (n := 60) Try.func55 (by kernel_rfl) fun l v hl h => by
  match l, hl, h with
  | [a, b], _, hh => rw [e22, chain_eq]; exact hh
/-- frac.Order -/
theorem e23 (m x y z n a b c : Int) : exFun (C22 Try.prog) 60 Try.f37 (pack [some 4, some 4] [m, x, y, z, n, a, b, c]) = ordO m x y z n a b c := by kernel_rfl
def C23 (P : Program) : Cx := (C22 P).add 37 [some 4, some 4] FOrd
theorem ok23 : CxOk (C23 Try.prog) := Cx.add_ok ok22 (n := 60) Try.func37 (by kernel_rfl) fun l v hl h => by
  match l, hl, h with
  | [m, x, y, z, n, a, b, c], _, hh => rw [e23, ordO_eq]; exact hh
/-- facetref02.Compare -/
theorem e24 (a b c d e f : Int) : exFun (C23 Try.prog) 60 Try.f62 (pack [some 3, some 3] [a, b, c, d, e, f]) = chainO mk1 (dcT [a, b, c] [d, e, f]) [0] := by kernel_rfl
def C24 (P : Program) : Cx := (C23 P).add 62 [some 3, some 3] FDComp
theorem ok24 : CxOk (C24 Try.prog) := Cx.add_ok ok23 (n := 60) Try.func62 (by kernel_rfl) fun l v hl h => by
  match l, hl, h with
  | [a, b, c, d, e, f], _, hh => rw [e24, chain_eq]; exact hh
/-- facetref02.DocOrder -/
theorem e25 (m x y z n a b c : Int) : exFun (C24 Try.prog) 60 Try.f38 (pack [some 4, some 4] [m, x, y, z, n, a, b, c]) = dordO m x y z n a b c := by kernel_rfl
def C25 (P : Program) : Cx := (C24 P).add 38 [some 4, some 4] FDOrd
theorem ok25 : CxOk (C25 Try.prog) := Cx.add_ok ok24 (n := 60) Try.func38 (by kernel_rfl) fun l v hl h => by
  match l, hl, h with
  | [m, x, y, z, n, a, b, c], _, hh => rw [e25, dordO_eq]; exact hh
/-- facetlaw02.awake -/
theorem e26 : exFun (C25 Try.prog) 60 Try.f16 (pack [] []) = some (.bool true) := by kernel_rfl
def C26 (P : Program) : Cx := (C25 P).add 16 [] FAwake
theorem ok26 : CxOk (C26 Try.prog) := Cx.add_ok ok25 (n := 60) Try.func16 (by kernel_rfl) fun l v hl h => by
  match l, hl, h with
  | [], _, hh => rw [e26]; exact hh

def CC (P : Program) : Cx := C26 P
theorem okC : CxOk (CC Try.prog) := ok26

end Go.Proofs.Ytklmanmeedfjpab
