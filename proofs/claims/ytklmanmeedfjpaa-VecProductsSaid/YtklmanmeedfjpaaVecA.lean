/-
  The examples that the statements of layer 1 ask first. Nothing here is trusted.
-/
import Derived.Test.YtklmanmeedfjpaaVecC
namespace Go.Proofs.Ytklmanmeedfjpaa
open Go Vx
def F9 : List Int → Option Value
  | [] => some (.bool true)
  | _ => none
def C17 (P : Program) : Cx := (C16 P).add 9 [] F9
theorem e9 : exFun (C16 Try.prog) 60 Try.f9 (pack [] []) = some (.bool true) := by kernel_rfl
theorem ok17 : CxOk (C17 Try.prog) := Cx.add_ok ok16 (n := 60) Try.func9 (by kernel_rfl) fun l v hl h => by
  match l, hl, h with
  | [], _, hh => rw [e9]; exact hh

end Go.Proofs.Ytklmanmeedfjpaa
