/-
  Where a loop stands within a body, and what comes behind it: definitions over the executor. Nothing here is trusted.
-/
import Derived.Test.YtklmanmeedfjpaaVx9
namespace Go.Proofs.Ytklmanmeedfjpaa.Vx
open Go

abbrev Kont := Exit → St → Option Value
def seqK (C : Cx) (n : Nat) (y : Code) (K : Kont) : Kont := fun e s => match e with
  | .normal => exCode C n y s K
  | e => K e s
def blockK (id : Nat) (K : Kont) : Kont := fun e s => match e with
  | .exit i => if i = id then K .normal s else K (.exit i) s
  | e => K e s
def loopK (L : St → Option Value) (K : Kont) : Kont := fun e s => match e with
  | .normal => L s
  | e => K e s
/-- The code at a place of a body: 0 the first part, 1 the second. -/
def codeAt : List Nat → Code → Code
  | [], c => c
  | d :: r, c => match c with
    | .seq x y => match d with
      | 0 => codeAt r x
      | _ => codeAt r y
    | .cond _ x y => match d with
      | 0 => codeAt r x
      | _ => codeAt r y
    | .block _ x => codeAt r x
    | .loop x => codeAt r x
    | c => c
/-- What comes behind the code at a place (no loop on the way). -/
def kAt (C : Cx) : List Nat → Nat → Code → Kont → Kont
  | [], _, _, K => K
  | _ :: _, 0, _, K => K
  | d :: r, n + 1, c, K => match c with
    | .seq x y => match d with
      | 0 => kAt C r n x (seqK C n y K)
      | _ => kAt C r n y K
    | .cond _ x y => match d with
      | 0 => kAt C r n x K
      | _ => kAt C r n y K
    | .block id x => kAt C r n x (blockK id K)
    | _ => K
def bodyOf (fn : Func) : Code := fn.body.getD .skip
theorem loop_step (C : Cx) (n : Nat) (x : Code) (st : St) (K : Kont) :
    exCode C (n + 1) (.loop x) st K = exCode C n x st (loopK (fun s => exCode C n (.loop x) s K) K) := by
  conv => lhs; unfold exCode
  rfl
def up (u : Nat → Value) (i : Nat) (v : Value) : Nat → Value := fun j => match Nat.beq j i with
  | true => v
  | false => u j
def ofL (l : List Value) : Nat → Value := fun j => l.getD j undef
/-- Loops cut out, for looking. -/
def cutL : Code → Code
  | .seq x y => .seq (cutL x) (cutL y)
  | .cond c x y => .cond c (cutL x) (cutL y)
  | .block i x => .block i (cutL x)
  | .loop _ => .exit 999
  | c => c
/-- The code at a place cut out, for looking. -/
def cutP : List Nat → Code → Code
  | [], _ => .exit 999
  | d :: r, c => match c with
    | .seq x y => match d with
      | 0 => .seq (cutP r x) y
      | _ => .seq x (cutP r y)
    | .cond t x y => match d with
      | 0 => .cond t (cutP r x) y
      | _ => .cond t x (cutP r y)
    | .block i x => .block i (cutP r x)
    | c => c
def encV (s : St) : Option Value := some (.tuple #[.tuple s.tmps.toArray, .tuple (s.mem.map fun r => match r with | some l => Value.tuple l.toArray | none => .bool false).toArray])
end Go.Proofs.Ytklmanmeedfjpaa.Vx
