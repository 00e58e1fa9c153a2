/-
  The document's step, run round by round. Nothing here is trusted.
-/
import Derived.Test.YtofblakbfmjgkaaHTSt9
namespace Go.Proofs.Ytofblakbfmjgkaa
open Go Vx Go.RowKit
def tl0 : List Int := [1, 1, 0, 0, 0, -1, 0, 0, 0, 0, 1, 0, 0, 1, 0, 1]
def en0 (F : List Int) : List Int := [entG tl0 F 0 0 0, entG tl0 F 0 0 1, entG tl0 F 0 0 2, entG tl0 F 0 0 3, entG tl0 F 0 1 0, entG tl0 F 0 1 1, entG tl0 F 0 1 2, entG tl0 F 0 1 3, entG tl0 F 0 2 0, entG tl0 F 0 2 1, entG tl0 F 0 2 2, entG tl0 F 0 2 3, entG tl0 F 0 3 0, entG tl0 F 0 3 1, entG tl0 F 0 3 2, entG tl0 F 0 3 3]
theorem s2R0 (f0 f1 f2 f3 f4 f5 f6 f7 f8 f9 f10 f11 f12 f13 f14 f15 : Int) : roundR ((CCm Try.prog).into 93 0) 120 (s2X Try.prog) [1, 2, 3, 18, 19] [2, 3, 4] [.slot 1, .slot 2, .slot 3] [.slot 2, .slot 3] (s2H [f0, f1, f2, f3, f4, f5, f6, f7, f8, f9, f10, f11, f12, f13, f14, f15] 0) = (match decide (f6 ≤ 0) with
  | true => some (.normal, s2H [f0, f1, f2, f3, f4, f5, f6, f7, f8, f9, f10, f11, f12, f13, f14, f15] 1)
  | false => some (.ret, s2O (en0 [f0, f1, f2, f3, f4, f5, f6, f7, f8, f9, f10, f11, f12, f13, f14, f15]) stp0 true)) := by kernel_rfl
theorem en0_eq (f0 f1 f2 f3 f4 f5 f6 f7 f8 f9 f10 f11 f12 f13 f14 f15 : Int) : en0 [f0, f1, f2, f3, f4, f5, f6, f7, f8, f9, f10, f11, f12, f13, f14, f15] = ents [f0, f1, f2, f3, f4, f5, f6, f7, f8, f9, f10, f11, f12, f13, f14, f15] 1 2 := by kernel_rfl
end Go.Proofs.Ytofblakbfmjgkaa
