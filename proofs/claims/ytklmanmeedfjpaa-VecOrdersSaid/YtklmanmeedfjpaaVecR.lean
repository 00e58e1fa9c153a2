/-
  What the document's own functions of matrices answer, whatever the world. Nothing here is trusted.
-/
import Derived.Test.YtklmanmeedfjpaaVecD
import Derived.Test.YtklmanmeedfjpaaVecM
namespace Go.Proofs.Ytklmanmeedfjpaa
open Go Vx

def FR14 : List Int → Option Value
  | [a, b, c, d, e, f, g, h, i, j, k, l, m, n, o, p, q, r] => some (mkM [rdot a b c j m p, rdot a b c k n q, rdot a b c l o r, rdot d e f j m p, rdot d e f k n q, rdot d e f l o r, rdot g h i j m p, rdot g h i k n q, rdot g h i l o r])
  | _ => none
theorem eR14 (a b c d e f g h i j k l m n o p q r : Int) : exFun (CC Try.prog) 60 Try.f14 (pack [some 9, some 9] [a, b, c, d, e, f, g, h, i, j, k, l, m, n, o, p, q, r]) = FR14 [a, b, c, d, e, f, g, h, i, j, k, l, m, n, o, p, q, r] := by kernel_rfl
def CR14 (P : Program) : Cx := (CC P).add 14 [some 9, some 9] FR14
theorem okR14 : CxOk (CR14 Try.prog) := Cx.add_ok okC (n := 60) Try.func14 (by kernel_rfl) fun l v hl h => by
  match l, hl, h with
  | [a, b, c, d, e, f, g, hh, i, j, k, l, m, n, o, p, q, r], _, hv => rw [eR14]; exact hv
def FR19 : List Int → Option Value
  | [n] => some (mkM [n, 0, 0, 0, n, 0, 0, 0, n])
  | _ => none
theorem eR19 (n : Int) : exFun (CR14 Try.prog) 60 Try.f19 (pack [none] [n]) = FR19 [n] := by kernel_rfl
def CR19 (P : Program) : Cx := (CR14 P).add 19 [none] FR19
theorem okR19 : CxOk (CR19 Try.prog) := Cx.add_ok okR14 (n := 60) Try.func19 (by kernel_rfl) fun l v hl h => by
  match l, hl, h with
  | [n], _, hv => rw [eR19]; exact hv
def FR26 : List Int → Option Value
  | [a, b, c, d, e, f, g, h, i] => some (.int .i64 (rdet a b c d e f g h i))
  | _ => none
theorem eR26 (a b c d e f g h i : Int) : exFun (CR19 Try.prog) 60 Try.f26 (pack [some 9] [a, b, c, d, e, f, g, h, i]) = FR26 [a, b, c, d, e, f, g, h, i] := by kernel_rfl
def CR26 (P : Program) : Cx := (CR19 P).add 26 [some 9] FR26
theorem okR26 : CxOk (CR26 Try.prog) := Cx.add_ok okR19 (n := 60) Try.func26 (by kernel_rfl) fun l v hl h => by
  match l, hl, h with
  | [a, b, c, d, e, f, g, hh, i], _, hv => rw [eR26]; exact hv
def FR27 : List Int → Option Value
  | [a, _, _, _, e, _, _, _, i] => some (.int .i64 (W (W (a + e) + i)))
  | _ => none
theorem eR27 (a b c d e f g h i : Int) : exFun (CR26 Try.prog) 60 Try.f27 (pack [some 9] [a, b, c, d, e, f, g, h, i]) = FR27 [a, b, c, d, e, f, g, h, i] := by kernel_rfl
def CR27 (P : Program) : Cx := (CR26 P).add 27 [some 9] FR27
theorem okR27 : CxOk (CR27 Try.prog) := Cx.add_ok okR26 (n := 60) Try.func27 (by kernel_rfl) fun l v hl h => by
  match l, hl, h with
  | [a, b, c, d, e, f, g, hh, i], _, hv => rw [eR27]; exact hv
def FR28 : List Int → Option Value
  | [a, b, c, d, e, f, g, h, i] => some (mkM (cofL a b c d e f g h i))
  | _ => none
theorem eR28 (a b c d e f g h i : Int) : exFun (CR27 Try.prog) 60 Try.f28 (pack [some 9] [a, b, c, d, e, f, g, h, i]) = FR28 [a, b, c, d, e, f, g, h, i] := by kernel_rfl
def CR28 (P : Program) : Cx := (CR27 P).add 28 [some 9] FR28
theorem okR28 : CxOk (CR28 Try.prog) := Cx.add_ok okR27 (n := 60) Try.func28 (by kernel_rfl) fun l v hl h => by
  match l, hl, h with
  | [a, b, c, d, e, f, g, hh, i], _, hv => rw [eR28]; exact hv
def CR (P : Program) : Cx := CR28 P
theorem okR : CxOk (CR Try.prog) := okR28

end Go.Proofs.Ytklmanmeedfjpaa
