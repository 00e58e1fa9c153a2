/-
  RingSums run. Nothing here is trusted.
-/
import Derived.Test.YtjhijkdicmbbiaaKai
namespace Go.Proofs.Ytjhijkdicmbbiaa
open Go Vx Go.RowKit
end Go.Proofs.Ytjhijkdicmbbiaa
