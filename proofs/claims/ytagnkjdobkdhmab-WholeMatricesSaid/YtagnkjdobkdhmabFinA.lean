/-
  The finitely many traces, gone through by the kernel. Nothing here is trusted.
-/
import Derived.Test.YtagnkjdobkdhmabFinT
namespace Go.Proofs.Ytagnkjdobkdhmab.Vx
open Go
theorem allT_true : allT = true := by decide +kernel
end Go.Proofs.Ytagnkjdobkdhmab.Vx
