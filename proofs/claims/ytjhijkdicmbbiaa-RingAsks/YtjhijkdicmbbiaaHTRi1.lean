/-
  RingProducts, run. Nothing here is trusted.
-/
import Derived.Test.YtjhijkdicmbbiaaHTRi0
namespace Go.Proofs.Ytjhijkdicmbbiaa
open Go Vx Go.RowKit
end Go.Proofs.Ytjhijkdicmbbiaa
