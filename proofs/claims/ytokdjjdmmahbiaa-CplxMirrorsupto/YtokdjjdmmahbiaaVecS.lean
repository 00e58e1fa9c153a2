/-
  The functions of layer 1 (vec) and of the document's answer for it, as the executor finds them: rows of tests over whole numbers. Nothing here is trusted.
-/
import Derived.Test.YtokdjjdmmahbiaaChain
namespace Go.Proofs.Ytokdjjdmmahbiaa.Vx
open Go

def eq3 (a b c d e f : Int) : Bool := (a == d) && ((b == e) && ((c == f) && true))
def eq9 (a b c d e f g h i j k l m n o p q r : Int) : Bool := eq3 a b c j k l && (eq3 d e f m n o && (eq3 g h i p q r && true))

/-- within (43): three numbers against a bound. -/
def withinT (a b c n : Int) : List (Bool × List Int) :=
  [(decide (a < W (0 - n)), [4]), (decide (a > n), [4]), (decide (b < W (0 - n)), [4]), (decide (b > n), [4]), (decide (c < W (0 - n)), [4]), (decide (c > n), [4])]
def withinR (a b c n : Int) : Int := nth (chainL (withinT a b c n) [0]) 0
def F43 : List Int → Option Value
  | [a, b, c, n] => some (mk1 (chainL (withinT a b c n) [0]))
  | _ => none

/-- Check (24). -/
def checkT (a b c d e f g h i : Int) : List (Bool × List Int) :=
  [(withinR a b c 1000 != 0, [withinR a b c 1000]), (withinR d e f 1000 != 0, [withinR d e f 1000]), (withinR g h i 1000 != 0, [withinR g h i 1000])]
def chk (a b c d e f g h i : Int) : Int := nth (chainL (checkT a b c d e f g h i) [0]) 0
def F24 : List Int → Option Value
  | [a, b, c, d, e, f, g, h, i] => some (mk1 (chainL (checkT a b c d e f g h i) [0]))
  | _ => none

/-- checkBoth (38). -/
def bothT (a b c d e f g h i : Int) : List (Bool × List Int) := [(chk a b c d e f g h i != 0, [chk a b c d e f g h i])]
def both (a b c d e f g h i x y z : Int) : Int := nth (chainL (bothT a b c d e f g h i) [withinR x y z 2147483648]) 0
def F38 : List Int → Option Value
  | [a, b, c, d, e, f, g, h, i, x, y, z] => some (mk1 (chainL (bothT a b c d e f g h i) [withinR x y z 2147483648]))
  | _ => none

def dotR (a b c d e f : Int) : Int := W (W (W (a * d) + W (b * e)) + W (c * f))
def prodL (a b c d e f g h i j k l m n o p q r : Int) : List Int :=
  [dotR a b c j m p, dotR a b c k n q, dotR a b c l o r, dotR d e f j m p, dotR d e f k n q, dotR d e f l o r, dotR g h i j m p, dotR g h i k n q, dotR g h i l o r]

/-- Mul (10). -/
def mulT (a b c d e f g h i j k l m n o p q r : Int) : List (Bool × List Int) :=
  [(chk a b c d e f g h i != 0, [0, 0, 0, 0, 0, 0, 0, 0, 0, chk a b c d e f g h i]), (chk j k l m n o p q r != 0, [0, 0, 0, 0, 0, 0, 0, 0, 0, chk j k l m n o p q r])]
def mulD (a b c d e f g h i j k l m n o p q r : Int) : List Int := prodL a b c d e f g h i j k l m n o p q r ++ [0]
def mulR (a b c d e f g h i j k l m n o p q r : Int) : List Int := chainL (mulT a b c d e f g h i j k l m n o p q r) (mulD a b c d e f g h i j k l m n o p q r)
def F10 : List Int → Option Value
  | [a, b, c, d, e, f, g, h, i, j, k, l, m, n, o, p, q, r] => some (mkMe (mulR a b c d e f g h i j k l m n o p q r))
  | _ => none

/-- Apply (11), Left (12). -/
def applyT (a b c d e f g h i x y z : Int) : List (Bool × List Int) := [(both a b c d e f g h i x y z != 0, [0, 0, 0, both a b c d e f g h i x y z])]
def applyD (a b c d e f g h i x y z : Int) : List Int := [dotR a b c x y z, dotR d e f x y z, dotR g h i x y z, 0]
def leftD (a b c d e f g h i x y z : Int) : List Int := [dotR x y z a d g, dotR x y z b e h, dotR x y z c f i, 0]
def applyR (a b c d e f g h i x y z : Int) : List Int := chainL (applyT a b c d e f g h i x y z) (applyD a b c d e f g h i x y z)
def leftR (a b c d e f g h i x y z : Int) : List Int := chainL (applyT a b c d e f g h i x y z) (leftD a b c d e f g h i x y z)
def F11 : List Int → Option Value
  | [a, b, c, d, e, f, g, h, i, x, y, z] => some (mkVe (applyR a b c d e f g h i x y z))
  | _ => none
def F12 : List Int → Option Value
  | [x, y, z, a, b, c, d, e, f, g, h, i] => some (mkVe (leftR a b c d e f g h i x y z))
  | _ => none

/-- The document's Mat (13) and Column (15). -/
def rangeT (n : Int) : List Int → List (Bool × List Int)
  | [] => []
  | a :: l => (decide (a < -n), [4]) :: (decide (a > n), [4]) :: rangeT n l
def matR (a b c d e f g h i : Int) : Int := nth (chainL (rangeT 1000 [a, b, c, d, e, f, g, h, i]) [0]) 0
def colR (x y z : Int) : Int := nth (chainL (rangeT 2147483648 [x, y, z]) [0]) 0
def F13 : List Int → Option Value
  | [a, b, c, d, e, f, g, h, i] => some (mk1 (chainL (rangeT 1000 [a, b, c, d, e, f, g, h, i]) [0]))
  | _ => none
def F15 : List Int → Option Value
  | [x, y, z] => some (mk1 (chainL (rangeT 2147483648 [x, y, z]) [0]))
  | _ => none

/-- Transpose (20), Det (21), Trace (22), Adjugate (23). -/
def err9T (a b c d e f g h i : Int) : List (Bool × List Int) := [(chk a b c d e f g h i != 0, [0, 0, 0, 0, 0, 0, 0, 0, 0, chk a b c d e f g h i])]
def err1T (a b c d e f g h i : Int) : List (Bool × List Int) := [(chk a b c d e f g h i != 0, [0, chk a b c d e f g h i])]
def minR (a b c d : Int) : Int := W (W (a * b) - W (c * d))
def detR (a b c d e f g h i : Int) : Int := W (W (W (a * minR e i f h) + W (b * minR f g d i)) + W (c * minR d h e g))
def cofL (a b c d e f g h i : Int) : List Int := [minR e i f h, minR h c i b, minR b f c e, minR f g d i, minR i a g c, minR c d a f, minR d h e g, minR g b h a, minR a e b d]
def transR (a b c d e f g h i : Int) : List Int := chainL (err9T a b c d e f g h i) [a, d, g, b, e, h, c, f, i, 0]
def detE (a b c d e f g h i : Int) : List Int := chainL (err1T a b c d e f g h i) [detR a b c d e f g h i, 0]
def traceE (a b c d e f g h i : Int) : List Int := chainL (err1T a b c d e f g h i) [W (W (a + e) + i), 0]
def adjE (a b c d e f g h i : Int) : List Int := chainL (err9T a b c d e f g h i) (cofL a b c d e f g h i ++ [0])
def F20 : List Int → Option Value
  | [a, b, c, d, e, f, g, h, i] => some (mkMe (transR a b c d e f g h i))
  | _ => none
def F21 : List Int → Option Value
  | [a, b, c, d, e, f, g, h, i] => some (mkIe (detE a b c d e f g h i))
  | _ => none
def F22 : List Int → Option Value
  | [a, b, c, d, e, f, g, h, i] => some (mkIe (traceE a b c d e f g h i))
  | _ => none
def F23 : List Int → Option Value
  | [a, b, c, d, e, f, g, h, i] => some (mkMe (adjE a b c d e f g h i))
  | _ => none

def F50 : List Int → Option Value
  | [_] => some (.bool false)
  | _ => none
/-- cmp.Compare (47), Compare (33), the document's (34). -/
def cmpT (a b : Int) : List (Bool × List Int) := [(decide (a < b), [-1]), (decide (a > b), [1])]
def cmpR (a b : Int) : Int := nth (chainL (cmpT a b) [0]) 0
def F47 : List Int → Option Value
  | [a, b] => some (mk1 (chainL (cmpT a b) [0]))
  | _ => none
def compT : List Int → List Int → List (Bool × List Int)
  | a :: l, b :: m => (cmpR a b != 0, [cmpR a b]) :: compT l m
  | _, _ => []
def compR (l m : List Int) : Int := nth (chainL (compT l m) [0]) 0
def dcompT : List Int → List Int → List (Bool × List Int)
  | a :: l, b :: m => (decide (a < b), [-1]) :: (decide (a > b), [1]) :: dcompT l m
  | _, _ => []
def dcompR (l m : List Int) : Int := nth (chainL (dcompT l m) [0]) 0
def F33 : List Int → Option Value
  | [a, b, c, d, e, f, g, h, i, j, k, l, m, n, o, p, q, r] => some (mk1 (chainL (compT [a, b, c, d, e, f, g, h, i] [j, k, l, m, n, o, p, q, r]) [0]))
  | _ => none
def F34 : List Int → Option Value
  | [a, b, c, d, e, f, g, h, i, j, k, l, m, n, o, p, q, r] => some (mk1 (chainL (dcompT [a, b, c, d, e, f, g, h, i] [j, k, l, m, n, o, p, q, r]) [0]))
  | _ => none

def F9 : List Int → Option Value
  | [] => some (.bool true)
  | _ => none

def zeros9 (e : Int) : List Int := [0, 0, 0, 0, 0, 0, 0, 0, 0, e]
/-- Inverse (29). -/
def invL (a b c d e f g h i : Int) : List Int :=
  [W (minR e i f h * detR a b c d e f g h i), W (minR h c i b * detR a b c d e f g h i), W (minR b f c e * detR a b c d e f g h i), W (minR f g d i * detR a b c d e f g h i), W (minR i a g c * detR a b c d e f g h i), W (minR c d a f * detR a b c d e f g h i), W (minR d h e g * detR a b c d e f g h i), W (minR g b h a * detR a b c d e f g h i), W (minR a e b d * detR a b c d e f g h i)]
def invE (a b c d e f g h i : Int) : List Int :=
  chainL [(chk a b c d e f g h i != 0, zeros9 (chk a b c d e f g h i)), (detR a b c d e f g h i != 1 && detR a b c d e f g h i != -1, zeros9 3)] (invL a b c d e f g h i ++ [0])
def invO (a b c d e f g h i : Int) : Option Value :=
  match chk a b c d e f g h i != 0 with
  | true => some (mkMe (zeros9 (chk a b c d e f g h i)))
  | false => match detR a b c d e f g h i != 1 with
    | true => match detR a b c d e f g h i != -1 with
      | true => some (mkMe (zeros9 3))
      | false => some (mkMe (invL a b c d e f g h i ++ [0]))
    | false => some (mkMe (invL a b c d e f g h i ++ [0]))
theorem invO_eq (a b c d e f g h i : Int) : invO a b c d e f g h i = some (mkMe (invE a b c d e f g h i)) := by
  unfold invO invE
  cases chk a b c d e f g h i != 0 <;> cases detR a b c d e f g h i != 1 <;> cases detR a b c d e f g h i != -1 <;> rfl
def F29 : List Int → Option Value
  | [a, b, c, d, e, f, g, h, i] => some (mkMe (invE a b c d e f g h i))
  | _ => none

/-- Functions of rows of nine numbers (and an error's behind them). -/
def mulL (x y : List Int) : List Int := mulR (nth x 0) (nth x 1) (nth x 2) (nth x 3) (nth x 4) (nth x 5) (nth x 6) (nth x 7) (nth x 8) (nth y 0) (nth y 1) (nth y 2) (nth y 3) (nth y 4) (nth y 5) (nth y 6) (nth y 7) (nth y 8)
def prodM (x y : List Int) : List Int := prodL (nth x 0) (nth x 1) (nth x 2) (nth x 3) (nth x 4) (nth x 5) (nth x 6) (nth x 7) (nth x 8) (nth y 0) (nth y 1) (nth y 2) (nth y 3) (nth y 4) (nth y 5) (nth y 6) (nth y 7) (nth y 8)
def eqM (x y : List Int) : Bool := eq9 (nth x 0) (nth x 1) (nth x 2) (nth x 3) (nth x 4) (nth x 5) (nth x 6) (nth x 7) (nth x 8) (nth y 0) (nth y 1) (nth y 2) (nth y 3) (nth y 4) (nth y 5) (nth y 6) (nth y 7) (nth y 8)
def applyL (x v : List Int) : List Int := applyR (nth x 0) (nth x 1) (nth x 2) (nth x 3) (nth x 4) (nth x 5) (nth x 6) (nth x 7) (nth x 8) (nth v 0) (nth v 1) (nth v 2)
def leftL (v x : List Int) : List Int := leftR (nth x 0) (nth x 1) (nth x 2) (nth x 3) (nth x 4) (nth x 5) (nth x 6) (nth x 7) (nth x 8) (nth v 0) (nth v 1) (nth v 2)
def detM (x : List Int) : List Int := detE (nth x 0) (nth x 1) (nth x 2) (nth x 3) (nth x 4) (nth x 5) (nth x 6) (nth x 7) (nth x 8)
def traceM (x : List Int) : List Int := traceE (nth x 0) (nth x 1) (nth x 2) (nth x 3) (nth x 4) (nth x 5) (nth x 6) (nth x 7) (nth x 8)
def transM (x : List Int) : List Int := transR (nth x 0) (nth x 1) (nth x 2) (nth x 3) (nth x 4) (nth x 5) (nth x 6) (nth x 7) (nth x 8)
def adjM (x : List Int) : List Int := adjE (nth x 0) (nth x 1) (nth x 2) (nth x 3) (nth x 4) (nth x 5) (nth x 6) (nth x 7) (nth x 8)
def invM (x : List Int) : List Int := invE (nth x 0) (nth x 1) (nth x 2) (nth x 3) (nth x 4) (nth x 5) (nth x 6) (nth x 7) (nth x 8)
def eqV3 (x y : List Int) : Bool := eq3 (nth x 0) (nth x 1) (nth x 2) (nth y 0) (nth y 1) (nth y 2)
def one9 : List Int := [1, 0, 0, 0, 1, 0, 0, 0, 1]

/-- Order (31). -/
def orderT (a b c d e f g h i : Int) : List (Bool × List Int) :=
  [(nth (invE a b c d e f g h i) 9 != 0, [0, nth (invE a b c d e f g h i) 9]),
   (eqM [a, b, c, d, e, f, g, h, i] one9, [1, 0]),
   (eqM [a, b, c, d, e, f, g, h, i] (invE a b c d e f g h i), [2, 0]),
   (eqM (prodM [a, b, c, d, e, f, g, h, i] [a, b, c, d, e, f, g, h, i]) (invE a b c d e f g h i), [3, 0]),
   (eqM (prodM [a, b, c, d, e, f, g, h, i] [a, b, c, d, e, f, g, h, i]) (prodM (invE a b c d e f g h i) (invE a b c d e f g h i)), [4, 0]),
   (eqM (prodM (prodM [a, b, c, d, e, f, g, h, i] [a, b, c, d, e, f, g, h, i]) (prodM [a, b, c, d, e, f, g, h, i] [a, b, c, d, e, f, g, h, i])) (prodM (invE a b c d e f g h i) (invE a b c d e f g h i)), [6, 0])]
def orderR (a b c d e f g h i : Int) : List Int := chainL (orderT a b c d e f g h i) [0, 9]
def orderM (x : List Int) : List Int := orderR (nth x 0) (nth x 1) (nth x 2) (nth x 3) (nth x 4) (nth x 5) (nth x 6) (nth x 7) (nth x 8)
def F31 : List Int → Option Value
  | [a, b, c, d, e, f, g, h, i] => some (mkIe (orderR a b c d e f g h i))
  | _ => none

/-- The document's Form (44) and DocInverse (30). -/
def rdet (a b c d e f g h i : Int) : Int :=
  W (W (W (0 + W (W (W (a * e) * i) - W (W (a * f) * h))) + W (W (W (b * f) * g) - W (W (b * d) * i))) + W (W (W (c * d) * h) - W (W (c * e) * g)))
def formR (a b c d e f g h i : Int) : Int := nth (chainL [(matR a b c d e f g h i != 0, [4]), (rdet a b c d e f g h i != 1 && rdet a b c d e f g h i != -1, [3])] [0]) 0
def formO (a b c d e f g h i : Int) : Option Value :=
  match matR a b c d e f g h i != 0 with
  | true => some (.int .i64 4)
  | false => match rdet a b c d e f g h i != 1 with
    | true => match rdet a b c d e f g h i != -1 with
      | true => some (.int .i64 3)
      | false => some (.int .i64 0)
    | false => some (.int .i64 0)
def F44 : List Int → Option Value
  | [a, b, c, d, e, f, g, h, i] => some (.int .i64 (formR a b c d e f g h i))
  | _ => none
theorem formO_eq (a b c d e f g h i : Int) : formO a b c d e f g h i = some (.int .i64 (formR a b c d e f g h i)) := by
  unfold formO formR
  cases matR a b c d e f g h i != 0 <;> cases rdet a b c d e f g h i != 1 <;> cases rdet a b c d e f g h i != -1 <;> rfl
def rinvL (a b c d e f g h i : Int) : List Int :=
  [W (minR e i f h * rdet a b c d e f g h i), W (minR h c i b * rdet a b c d e f g h i), W (minR b f c e * rdet a b c d e f g h i), W (minR f g d i * rdet a b c d e f g h i), W (minR i a g c * rdet a b c d e f g h i), W (minR c d a f * rdet a b c d e f g h i), W (minR d h e g * rdet a b c d e f g h i), W (minR g b h a * rdet a b c d e f g h i), W (minR a e b d * rdet a b c d e f g h i)]
def F30 : List Int → Option Value
  | [a, b, c, d, e, f, g, h, i] => some (mkMe (chainL [(formR a b c d e f g h i != 0, zeros9 (formR a b c d e f g h i))] (rinvL a b c d e f g h i ++ [0])))
  | _ => none

end Go.Proofs.Ytokdjjdmmahbiaa.Vx
