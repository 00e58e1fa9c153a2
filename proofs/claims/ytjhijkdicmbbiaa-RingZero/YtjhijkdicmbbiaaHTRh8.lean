/-
  RingOnes by pieces. Nothing here is trusted.
-/
import Derived.Test.YtjhijkdicmbbiaaHTRh7
namespace Go.Proofs.Ytjhijkdicmbbiaa
open Go Vx Go.RowKit
theorem smV_self (M : Int) (n : Nat) (a : Nat → Int) : smV M M n n a a = true := smV_on fun _ _ => rfl
end Go.Proofs.Ytjhijkdicmbbiaa
