/-
  The document's order with its errors, and the run of facetlaw01.VecOrders. Nothing here is trusted.
-/
import Derived.Test.YtklmanmeedfjpaaVecO
namespace Go.Proofs.Ytklmanmeedfjpaa
open Go Vx

def and3N (a b c : Bool) (y n : Int) : Int := match a && (b && c) with
  | true => y
  | false => n
def rordN (m q : Bool) (t s d : Int) : Int :=
  match m with
  | true => 1
  | false => match q with
    | true => 2
    | false => and3N (t == 0) (s == 0) (d == 1) 3
      (and3N (t == 1) (s == 1) (d == 1) 4 (and3N (t == -1) (s == 1) (d == -1) 4
      (and3N (t == 0) (s == 0) (d == -1) 6 (and3N (t == 2) (s == 2) (d == 1) 6 (and3N (t == -2) (s == 2) (d == -1) 6 0)))))
theorem and3_int (a b c : Bool) (y n : Int) : and3 a b c (some (.int .i64 y)) (some (.int .i64 n)) = some (.int .i64 (and3N a b c y n)) := by
  cases a <;> cases b <;> cases c <;> rfl
theorem rord_int (m q : Bool) (t s d : Int) : rordE m q t s d = some (.int .i64 (rordN m q t s d)) := by
  cases m with
  | true => rfl
  | false =>
    cases q with
    | true => rfl
    | false => simp only [rordE, rordN, and3_int]
def rordR (a b c d e f g h i : Int) : Int := rordN (eqM [a, b, c, d, e, f, g, h, i] one9) (eqM (rsq a b c d e f g h i) one9) (tr1 a b c d e f g h i) (tr2 a b c d e f g h i) (rdet a b c d e f g h i)
def F46 : List Int → Option Value
  | [a, b, c, d, e, f, g, h, i] => some (.int .i64 (rordR a b c d e f g h i))
  | _ => none
def CO (P : Program) : Cx := (CR P).add 46 [some 9] F46
theorem okO : CxOk (CO Try.prog) := Cx.add_ok okR (n := 70) Try.func46 (by kernel_rfl) fun l v hl h => by
  match l, hl, h with
  | [a, b, c, d, e, f, g, h, i], _, hh => rw [e46]; unfold rordO; rw [rord_int]; exact hh
def dordT (a b c d e f g h i : Int) : List (Bool × List Int) := [(formR a b c d e f g h i != 0, [0, formR a b c d e f g h i]), (rordR a b c d e f g h i == 0, [0, 9])]
def dordR (a b c d e f g h i : Int) : List Int := chainL (dordT a b c d e f g h i) [rordR a b c d e f g h i, 0]
theorem e32 (a b c d e f g h i : Int) : exFun (CO Try.prog) 60 Try.f32 (pack [some 9] [a, b, c, d, e, f, g, h, i]) = chainO mkIe (dordT a b c d e f g h i) [rordR a b c d e f g h i, 0] := by kernel_rfl
def F32 : List Int → Option Value
  | [a, b, c, d, e, f, g, h, i] => some (mkIe (dordR a b c d e f g h i))
  | _ => none
def CQ (P : Program) : Cx := (CO P).add 32 [some 9] F32
theorem okQ : CxOk (CQ Try.prog) := Cx.add_ok okO (n := 60) Try.func32 (by kernel_rfl) fun l v hl h => by
  match l, hl, h with
  | [a, b, c, d, e, f, g, h, i], _, hh => rw [e32, chain_eq]; exact hh
def dinvE (a b c d e f g h i : Int) : List Int := chainL [(formR a b c d e f g h i != 0, zeros9 (formR a b c d e f g h i))] (rinvL a b c d e f g h i ++ [0])
theorem orders_run (a b c d e f g h i : Int) : exFun (CQ Try.prog) 60 Try.f5 [.agg (intsK .i64 [a, b, c, d, e, f, g, h, i]).toArray] =
    andO [eqM (invE a b c d e f g h i) (dinvE a b c d e f g h i), nth (invE a b c d e f g h i) 9 == nth (dinvE a b c d e f g h i) 9, nth (orderR a b c d e f g h i) 0 == nth (dordR a b c d e f g h i) 0, nth (orderR a b c d e f g h i) 1 == nth (dordR a b c d e f g h i) 1] := by kernel_rfl

end Go.Proofs.Ytklmanmeedfjpaa
