/-
  Tests of the runs. Nothing here is trusted.
-/
import Derived.Test.YtggdbakgiknogaaHSeD
import Derived.Test.YtggdbakgiknogaaMaj
namespace Go.Proofs.Ytggdbakgiknogaa
open Go Vx Go.RowKit
def gn {α : Type} (b : Bool) (x : Option α) : Option α := match b with
  | true => none
  | false => x
theorem gn_false {α : Type} (x : Option α) : gn false x = x := rfl
/-- So many rows are lent. -/
def lk (k : Nat) : Bool := Nat.ble (0 + k) k && true
theorem lk_true (k : Nat) : lk k = true := by unfold lk; rw [Nat.zero_add, Nat.ble_self_eq_true k]; rfl
def oTc (n : Nat) (row : Nat → List Value) : Bool := Nat.beq n n && okOps n row
theorem stmt_in {C : Cx} {f B k : Nat} {fn : Func} {b : Code} (hf : C.P.funcs[f]? = some fn) (hb : fn.body = some b) : InBody (C.into f B) (stmt k b) := by
  refine Or.inl ⟨fn, b, hf, hb, fun x hx => seqDrop_loops k b x ?_⟩
  unfold stmt at hx
  cases hc : seqDrop k b with
  | seq p q => rw [hc] at hx; simp only at hx; simp [loopsIn, hx]
  | _ => rw [hc] at hx; simp [loopsIn] at hx
end Go.Proofs.Ytggdbakgiknogaa
