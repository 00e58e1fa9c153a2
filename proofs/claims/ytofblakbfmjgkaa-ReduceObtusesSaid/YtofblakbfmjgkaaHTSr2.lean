/-
  The document's step, run round by round. Nothing here is trusted.
-/
import Derived.Test.YtofblakbfmjgkaaHTSt9
namespace Go.Proofs.Ytofblakbfmjgkaa
open Go Vx Go.RowKit
def tl2 : List Int := [-1, 0, 0, 0, 0, 1, 0, 0, 1, 0, 1, 0, 1, 0, 0, 1]
def en2 (F : List Int) : List Int := [entG tl2 F 0 0 0, entG tl2 F 0 0 1, entG tl2 F 0 0 2, entG tl2 F 0 0 3, entG tl2 F 0 1 0, entG tl2 F 0 1 1, entG tl2 F 0 1 2, entG tl2 F 0 1 3, entG tl2 F 0 2 0, entG tl2 F 0 2 1, entG tl2 F 0 2 2, entG tl2 F 0 2 3, entG tl2 F 0 3 0, entG tl2 F 0 3 1, entG tl2 F 0 3 2, entG tl2 F 0 3 3]
theorem s2R2 (f0 f1 f2 f3 f4 f5 f6 f7 f8 f9 f10 f11 f12 f13 f14 f15 : Int) : roundR ((CCm Try.prog).into 93 0) 120 (s2X Try.prog) [1, 2, 3, 18, 19] [2, 3, 4] [.slot 1, .slot 2, .slot 3] [.slot 2, .slot 3] (s2H [f0, f1, f2, f3, f4, f5, f6, f7, f8, f9, f10, f11, f12, f13, f14, f15] 2) = (match decide (f1 ≤ 0) with
  | true => some (.normal, s2H [f0, f1, f2, f3, f4, f5, f6, f7, f8, f9, f10, f11, f12, f13, f14, f15] 3)
  | false => some (.ret, s2O (en2 [f0, f1, f2, f3, f4, f5, f6, f7, f8, f9, f10, f11, f12, f13, f14, f15]) stp2 true)) := by kernel_rfl
theorem en2_eq (f0 f1 f2 f3 f4 f5 f6 f7 f8 f9 f10 f11 f12 f13 f14 f15 : Int) : en2 [f0, f1, f2, f3, f4, f5, f6, f7, f8, f9, f10, f11, f12, f13, f14, f15] = ents [f0, f1, f2, f3, f4, f5, f6, f7, f8, f9, f10, f11, f12, f13, f14, f15] 0 1 := by kernel_rfl
end Go.Proofs.Ytofblakbfmjgkaa
