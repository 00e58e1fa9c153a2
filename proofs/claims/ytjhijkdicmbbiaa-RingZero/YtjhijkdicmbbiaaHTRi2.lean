/-
  RingProducts told. Nothing here is trusted.
-/
import Derived.Test.YtjhijkdicmbbiaaHTRi1
import Derived.Test.YtjhijkdicmbbiaaHTRh8
namespace Go.Proofs.Ytjhijkdicmbbiaa
open Go Vx Go.RowKit
end Go.Proofs.Ytjhijkdicmbbiaa
