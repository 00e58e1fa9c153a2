/-
  The document's step, run round by round. Nothing here is trusted.
-/
import Derived.Test.YtofblakbfmjgkaaHTLad
namespace Go.Proofs.Ytofblakbfmjgkaa
open Go Vx Go.RowKit
def s2B (P : Program) : Code := bodyOf P 93
theorem s2B_eq : Try.f93.body = some (s2B Try.prog) := by kernel_rfl
def s2X (P : Program) : Code := forBody (stmt 1 (s2B P))
def prV : Value := .agg #[.int .i64 1, .int .i64 2, .int .i64 0, .int .i64 2, .int .i64 0, .int .i64 1, .int .i64 0, .int .i64 3, .int .i64 1, .int .i64 3, .int .i64 2, .int .i64 3]
def fC (l : List Int) : Blk := .cells true 0 (l.map (.int .i64))
def s2M (l : List Int) : Mem := [fC l, fC [0, 0, 0, 0, 0, 0, 0, 0, 0, 0, 0, 0, 0, 0, 0, 0], .cells true 0 M3.zero.cells]
def s2H (l : List Int) (i : Int) : St := stOf 122 [obPt 1 0, obPt 2 1, obPt 3 2, (18, prV), (19, vI i)] (s2M l)
def s2O (l : List Int) (p : M3) (b : Bool) : St := stOf 122 [obPt 2 0, obPt 3 1, (4, .bool b)] [fC l, .cells true 0 p.cells]
def s2F (l : List Int) : St := stOf 122 [obPt 1 0, obPt 2 1, obPt 3 2] (s2M l)
theorem s2E (f0 f1 f2 f3 f4 f5 f6 f7 f8 f9 f10 f11 f12 f13 f14 f15 : Int) : segR ((CCl Try.prog).into 93 0) 60 1 (s2B Try.prog) [1, 2, 3] [.slot 1, .slot 2, .slot 3] (enter Try.f93 [agI [f0, f1, f2, f3, f4, f5, f6, f7, f8, f9, f10, f11, f12, f13, f14, f15]] []) = some (s2F [f0, f1, f2, f3, f4, f5, f6, f7, f8, f9, f10, f11, f12, f13, f14, f15]) := by kernel_rfl
theorem s2For : isFor 0 (stmt 1 (s2B Try.prog)) = true := by kernel_rfl
theorem s2Has : hasStmt 1 (s2B Try.prog) = true := by kernel_rfl
theorem s2Head (f0 f1 f2 f3 f4 f5 f6 f7 f8 f9 f10 f11 f12 f13 f14 f15 : Int) : roundR ((CCl Try.prog).into 93 0) 60 (forHead (stmt 1 (s2B Try.prog))) [1, 2, 3, 18, 19] [1, 2, 3, 18, 19] [.slot 1, .slot 2, .slot 3] [.slot 1, .slot 2, .slot 3] (s2F [f0, f1, f2, f3, f4, f5, f6, f7, f8, f9, f10, f11, f12, f13, f14, f15]) = some (.normal, s2H [f0, f1, f2, f3, f4, f5, f6, f7, f8, f9, f10, f11, f12, f13, f14, f15] 0) := by kernel_rfl
theorem s2Last (f0 f1 f2 f3 f4 f5 f6 f7 f8 f9 f10 f11 f12 f13 f14 f15 : Int) : roundR ((CCl Try.prog).into 93 0) 60 (s2X Try.prog) [1, 2, 3, 18, 19] [1, 2, 3] [.slot 1, .slot 2, .slot 3] [.slot 1, .slot 2, .slot 3] (s2H [f0, f1, f2, f3, f4, f5, f6, f7, f8, f9, f10, f11, f12, f13, f14, f15] 6) = some (.exit 0, s2F [f0, f1, f2, f3, f4, f5, f6, f7, f8, f9, f10, f11, f12, f13, f14, f15]) := by kernel_rfl
theorem s2End (f0 f1 f2 f3 f4 f5 f6 f7 f8 f9 f10 f11 f12 f13 f14 f15 : Int) : roundR ((CCl Try.prog).into 93 0) 60 (seqDrop 2 (s2B Try.prog)) [1, 2, 3] [2, 3, 4] [.slot 1, .slot 2, .slot 3] [.slot 2, .slot 3] (s2F [f0, f1, f2, f3, f4, f5, f6, f7, f8, f9, f10, f11, f12, f13, f14, f15]) = some (.ret, s2O [f0, f1, f2, f3, f4, f5, f6, f7, f8, f9, f10, f11, f12, f13, f14, f15] M3.one false) := by kernel_rfl
theorem s2Ret (f0 f1 f2 f3 f4 f5 f6 f7 f8 f9 f10 f11 f12 f13 f14 f15 : Int) (p : M3) (b : Bool) : (retA Try.prog Try.f93 (.ret, s2O [f0, f1, f2, f3, f4, f5, f6, f7, f8, f9, f10, f11, f12, f13, f14, f15] p b)).res = some (p3v (agI [f0, f1, f2, f3, f4, f5, f6, f7, f8, f9, f10, f11, f12, f13, f14, f15]) p.v (.bool b), [fC [f0, f1, f2, f3, f4, f5, f6, f7, f8, f9, f10, f11, f12, f13, f14, f15], .cells true 0 p.cells]) := by kernel_rfl
end Go.Proofs.Ytofblakbfmjgkaa
