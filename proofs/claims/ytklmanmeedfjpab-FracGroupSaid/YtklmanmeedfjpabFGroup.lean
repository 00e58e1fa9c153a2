/-
  PROVED: for every three columns and every number, facetlaw02.FracGroup answers true: translations are a group.
  No condition beyond the statement's own.
-/
import Derived.Test.YtklmanmeedfjpabFracC
import Derived.Test.YtklmanmeedfjpabFracM
import Derived.Test.YtklmanmeedfjpabLoop
import Derived.WalkKit
import Derived.ProofKit
import Derived.OpenShut
import Derived.ShutString
import Derived.ChangeOld
import Derived.Below
namespace Go.Proofs.Ytklmanmeedfjpab
open Go Vx
open Go.ChangeShapes Go.WideShapes Go.ChangeAt Go.RowKit

theorem own : ownKnob Try.prog.godebug = none := by kernel_rfl
theorem laidOut : laidOutB Try.prog = true := by kernel_rfl

abbrev LP : List Nat := [1, 1, 1, 1, 1, 1, 0, 1, 0]
def hst (u : Nat → Value) (a b c d e f g h i x y z N k p q r : Int) : St := ⟨[u 0, u 1, u 2, .int .i64 N, .pointer (some ⟨0, 0, none⟩), .pointer (some ⟨1, 0, none⟩), .pointer (some ⟨2, 0, none⟩), u 7, u 8, .pointer (some ⟨3, 0, none⟩), .pointer (some ⟨4, 0, none⟩), u 11, u 12, u 13, u 14, u 15, u 16, u 17, u 18, u 19, u 20, u 21, u 22, u 23, u 24, u 25, u 26, u 27, u 28, u 29, u 30, u 31, u 32, u 33, u 34, u 35, u 36, u 37, u 38, u 39, u 40, u 41, u 42, u 43, u 44, u 45, u 46, u 47, u 48, u 49, u 50, u 51, u 52, u 53, u 54, u 55, u 56, u 57, u 58, u 59, u 60, u 61, u 62, u 63, u 64, u 65, .int .i64 N, .int .i64 k, u 68, u 69, u 70, u 71, u 72, u 73, u 74, u 75, u 76, u 77, u 78, u 79, u 80, u 81, u 82, u 83, u 84, u 85, u 86, u 87, u 88, u 89, u 90, u 91, u 92, u 93, u 94, u 95, u 96, u 97, u 98, u 99, u 100, u 101, u 102, u 103], [some [.int .i64 a, .int .i64 b, .int .i64 c], some [.int .i64 d, .int .i64 e, .int .i64 f], some [.int .i64 g, .int .i64 h, .int .i64 i], some [.int .i64 x, .int .i64 y, .int .i64 z], some [.int .i64 p, .int .i64 q, .int .i64 r]]⟩
def grpEnd (a b c d e f N p q r : Int) : Option Value :=
  guardF [!(eq3 p q r (times1 N a) (times1 N b) (times1 N c)), !(eq3 (times1 (W (0 - N)) a) (times1 (W (0 - N)) b) (times1 (W (0 - N)) c) (neg1 p) (neg1 q) (neg1 r)), !(eq3 (times1 24 a) (times1 24 b) (times1 24 c) 0 0 0)]
    (guardF [decide (add1 a d < 0), decide (add1 a d > 23), decide (add1 b e < 0), decide (add1 b e > 23), decide (add1 c f < 0), decide (add1 c f > 23)] (some (.bool true)))

/-- The statement's first tests, in its order. -/
def headT (a b c d e f g h i : Int) (r : Option Value) : Option Value :=
  guardF [!(eq3 (add1 a d) (add1 b e) (add1 c f) (add1 d a) (add1 e b) (add1 f c)), !(eq3 (add1 (add1 a d) g) (add1 (add1 b e) h) (add1 (add1 c f) i) (add1 a (add1 d g)) (add1 b (add1 e h)) (add1 c (add1 f i))),
      !(eq3 (add1 (add1 a d) (neg1 d)) (add1 (add1 b e) (neg1 e)) (add1 (add1 c f) (neg1 f)) (add1 a 0) (add1 b 0) (add1 c 0)), !(eq3 (add1 a (neg1 a)) (add1 b (neg1 b)) (add1 c (neg1 c)) 0 0 0),
      !(eq3 (add1 a (neg1 d)) (add1 b (neg1 e)) (add1 c (neg1 f)) (add1 a (neg1 d)) (add1 b (neg1 e)) (add1 c (neg1 f)))]
    r
def junk0 (a b c d e f g h i n : Int) : Nat → Value := ofL [.agg #[.int .i64 (a), .int .i64 (b), .int .i64 (c)], .agg #[.int .i64 (d), .int .i64 (e), .int .i64 (f)], .agg #[.int .i64 (g), .int .i64 (h), .int .i64 (i)], undef, undef, undef, undef, undef, .bool false, undef, undef, undef, undef, .bool true, .bool false, .agg #[.int .i64 (a), .int .i64 (b), .int .i64 (c)], .agg #[.int .i64 (d), .int .i64 (e), .int .i64 (f)], .agg #[.int .i64 (nth [add1 a d, add1 b e, add1 c f] 0), .int .i64 (nth [add1 a d, add1 b e, add1 c f] 1), .int .i64 (nth [add1 a d, add1 b e, add1 c f] 2)], .agg #[.int .i64 (nth [add1 a d, add1 b e, add1 c f] 0), .int .i64 (nth [add1 a d, add1 b e, add1 c f] 1), .int .i64 (nth [add1 a d, add1 b e, add1 c f] 2)], .agg #[.int .i64 (d), .int .i64 (e), .int .i64 (f)], .agg #[.int .i64 (a), .int .i64 (b), .int .i64 (c)], .agg #[.int .i64 (nth [add1 d a, add1 e b, add1 f c] 0), .int .i64 (nth [add1 d a, add1 e b, add1 f c] 1), .int .i64 (nth [add1 d a, add1 e b, add1 f c] 2)], .bool (!(nth [add1 a d, add1 b e, add1 c f] 0 == nth [add1 d a, add1 e b, add1 f c] 0 && (nth [add1 a d, add1 b e, add1 c f] 1 == nth [add1 d a, add1 e b, add1 f c] 1 && (nth [add1 a d, add1 b e, add1 c f] 2 == nth [add1 d a, add1 e b, add1 f c] 2 && true)))), .bool false, .agg #[.int .i64 (nth [add1 a d, add1 b e, add1 c f] 0), .int .i64 (nth [add1 a d, add1 b e, add1 c f] 1), .int .i64 (nth [add1 a d, add1 b e, add1 c f] 2)], .agg #[.int .i64 (g), .int .i64 (h), .int .i64 (i)], .agg #[.int .i64 (nth [add1 (nth [add1 a d, add1 b e, add1 c f] 0) g, add1 (nth [add1 a d, add1 b e, add1 c f] 1) h, add1 (nth [add1 a d, add1 b e, add1 c f] 2) i] 0), .int .i64 (nth [add1 (nth [add1 a d, add1 b e, add1 c f] 0) g, add1 (nth [add1 a d, add1 b e, add1 c f] 1) h, add1 (nth [add1 a d, add1 b e, add1 c f] 2) i] 1), .int .i64 (nth [add1 (nth [add1 a d, add1 b e, add1 c f] 0) g, add1 (nth [add1 a d, add1 b e, add1 c f] 1) h, add1 (nth [add1 a d, add1 b e, add1 c f] 2) i] 2)], .agg #[.int .i64 (a), .int .i64 (b), .int .i64 (c)], .agg #[.int .i64 (d), .int .i64 (e), .int .i64 (f)], .agg #[.int .i64 (g), .int .i64 (h), .int .i64 (i)], .agg #[.int .i64 (nth [add1 d g, add1 e h, add1 f i] 0), .int .i64 (nth [add1 d g, add1 e h, add1 f i] 1), .int .i64 (nth [add1 d g, add1 e h, add1 f i] 2)], .agg #[.int .i64 (nth [add1 a (nth [add1 d g, add1 e h, add1 f i] 0), add1 b (nth [add1 d g, add1 e h, add1 f i] 1), add1 c (nth [add1 d g, add1 e h, add1 f i] 2)] 0), .int .i64 (nth [add1 a (nth [add1 d g, add1 e h, add1 f i] 0), add1 b (nth [add1 d g, add1 e h, add1 f i] 1), add1 c (nth [add1 d g, add1 e h, add1 f i] 2)] 1), .int .i64 (nth [add1 a (nth [add1 d g, add1 e h, add1 f i] 0), add1 b (nth [add1 d g, add1 e h, add1 f i] 1), add1 c (nth [add1 d g, add1 e h, add1 f i] 2)] 2)], .bool (!(nth [add1 (nth [add1 a d, add1 b e, add1 c f] 0) g, add1 (nth [add1 a d, add1 b e, add1 c f] 1) h, add1 (nth [add1 a d, add1 b e, add1 c f] 2) i] 0 == nth [add1 a (nth [add1 d g, add1 e h, add1 f i] 0), add1 b (nth [add1 d g, add1 e h, add1 f i] 1), add1 c (nth [add1 d g, add1 e h, add1 f i] 2)] 0 && (nth [add1 (nth [add1 a d, add1 b e, add1 c f] 0) g, add1 (nth [add1 a d, add1 b e, add1 c f] 1) h, add1 (nth [add1 a d, add1 b e, add1 c f] 2) i] 1 == nth [add1 a (nth [add1 d g, add1 e h, add1 f i] 0), add1 b (nth [add1 d g, add1 e h, add1 f i] 1), add1 c (nth [add1 d g, add1 e h, add1 f i] 2)] 1 && (nth [add1 (nth [add1 a d, add1 b e, add1 c f] 0) g, add1 (nth [add1 a d, add1 b e, add1 c f] 1) h, add1 (nth [add1 a d, add1 b e, add1 c f] 2) i] 2 == nth [add1 a (nth [add1 d g, add1 e h, add1 f i] 0), add1 b (nth [add1 d g, add1 e h, add1 f i] 1), add1 c (nth [add1 d g, add1 e h, add1 f i] 2)] 2 && true)))), .bool (!(nth [add1 (nth [add1 a d, add1 b e, add1 c f] 0) g, add1 (nth [add1 a d, add1 b e, add1 c f] 1) h, add1 (nth [add1 a d, add1 b e, add1 c f] 2) i] 0 == nth [add1 a (nth [add1 d g, add1 e h, add1 f i] 0), add1 b (nth [add1 d g, add1 e h, add1 f i] 1), add1 c (nth [add1 d g, add1 e h, add1 f i] 2)] 0 && (nth [add1 (nth [add1 a d, add1 b e, add1 c f] 0) g, add1 (nth [add1 a d, add1 b e, add1 c f] 1) h, add1 (nth [add1 a d, add1 b e, add1 c f] 2) i] 1 == nth [add1 a (nth [add1 d g, add1 e h, add1 f i] 0), add1 b (nth [add1 d g, add1 e h, add1 f i] 1), add1 c (nth [add1 d g, add1 e h, add1 f i] 2)] 1 && (nth [add1 (nth [add1 a d, add1 b e, add1 c f] 0) g, add1 (nth [add1 a d, add1 b e, add1 c f] 1) h, add1 (nth [add1 a d, add1 b e, add1 c f] 2) i] 2 == nth [add1 a (nth [add1 d g, add1 e h, add1 f i] 0), add1 b (nth [add1 d g, add1 e h, add1 f i] 1), add1 c (nth [add1 d g, add1 e h, add1 f i] 2)] 2 && true)))), .bool false, .agg #[.int .i64 (nth [add1 a d, add1 b e, add1 c f] 0), .int .i64 (nth [add1 a d, add1 b e, add1 c f] 1), .int .i64 (nth [add1 a d, add1 b e, add1 c f] 2)], .agg #[.int .i64 (d), .int .i64 (e), .int .i64 (f)], .agg #[.int .i64 (nth [add1 (nth [add1 a d, add1 b e, add1 c f] 0) (neg1 d), add1 (nth [add1 a d, add1 b e, add1 c f] 1) (neg1 e), add1 (nth [add1 a d, add1 b e, add1 c f] 2) (neg1 f)] 0), .int .i64 (nth [add1 (nth [add1 a d, add1 b e, add1 c f] 0) (neg1 d), add1 (nth [add1 a d, add1 b e, add1 c f] 1) (neg1 e), add1 (nth [add1 a d, add1 b e, add1 c f] 2) (neg1 f)] 1), .int .i64 (nth [add1 (nth [add1 a d, add1 b e, add1 c f] 0) (neg1 d), add1 (nth [add1 a d, add1 b e, add1 c f] 1) (neg1 e), add1 (nth [add1 a d, add1 b e, add1 c f] 2) (neg1 f)] 2)], .agg #[.int .i64 (a), .int .i64 (b), .int .i64 (c)], .agg #[.int .i64 (0), .int .i64 (0), .int .i64 (0)], .agg #[.int .i64 (nth [add1 a 0, add1 b 0, add1 c 0] 0), .int .i64 (nth [add1 a 0, add1 b 0, add1 c 0] 1), .int .i64 (nth [add1 a 0, add1 b 0, add1 c 0] 2)], .bool (!(nth [add1 (nth [add1 a d, add1 b e, add1 c f] 0) (neg1 d), add1 (nth [add1 a d, add1 b e, add1 c f] 1) (neg1 e), add1 (nth [add1 a d, add1 b e, add1 c f] 2) (neg1 f)] 0 == nth [add1 a 0, add1 b 0, add1 c 0] 0 && (nth [add1 (nth [add1 a d, add1 b e, add1 c f] 0) (neg1 d), add1 (nth [add1 a d, add1 b e, add1 c f] 1) (neg1 e), add1 (nth [add1 a d, add1 b e, add1 c f] 2) (neg1 f)] 1 == nth [add1 a 0, add1 b 0, add1 c 0] 1 && (nth [add1 (nth [add1 a d, add1 b e, add1 c f] 0) (neg1 d), add1 (nth [add1 a d, add1 b e, add1 c f] 1) (neg1 e), add1 (nth [add1 a d, add1 b e, add1 c f] 2) (neg1 f)] 2 == nth [add1 a 0, add1 b 0, add1 c 0] 2 && true)))), .bool (!(nth [add1 (nth [add1 a d, add1 b e, add1 c f] 0) (neg1 d), add1 (nth [add1 a d, add1 b e, add1 c f] 1) (neg1 e), add1 (nth [add1 a d, add1 b e, add1 c f] 2) (neg1 f)] 0 == nth [add1 a 0, add1 b 0, add1 c 0] 0 && (nth [add1 (nth [add1 a d, add1 b e, add1 c f] 0) (neg1 d), add1 (nth [add1 a d, add1 b e, add1 c f] 1) (neg1 e), add1 (nth [add1 a d, add1 b e, add1 c f] 2) (neg1 f)] 1 == nth [add1 a 0, add1 b 0, add1 c 0] 1 && (nth [add1 (nth [add1 a d, add1 b e, add1 c f] 0) (neg1 d), add1 (nth [add1 a d, add1 b e, add1 c f] 1) (neg1 e), add1 (nth [add1 a d, add1 b e, add1 c f] 2) (neg1 f)] 2 == nth [add1 a 0, add1 b 0, add1 c 0] 2 && true)))), .bool false, .agg #[.int .i64 (a), .int .i64 (b), .int .i64 (c)], .agg #[.int .i64 (a), .int .i64 (b), .int .i64 (c)], .agg #[.int .i64 (nth [neg1 a, neg1 b, neg1 c] 0), .int .i64 (nth [neg1 a, neg1 b, neg1 c] 1), .int .i64 (nth [neg1 a, neg1 b, neg1 c] 2)], .agg #[.int .i64 (nth [add1 a (nth [neg1 a, neg1 b, neg1 c] 0), add1 b (nth [neg1 a, neg1 b, neg1 c] 1), add1 c (nth [neg1 a, neg1 b, neg1 c] 2)] 0), .int .i64 (nth [add1 a (nth [neg1 a, neg1 b, neg1 c] 0), add1 b (nth [neg1 a, neg1 b, neg1 c] 1), add1 c (nth [neg1 a, neg1 b, neg1 c] 2)] 1), .int .i64 (nth [add1 a (nth [neg1 a, neg1 b, neg1 c] 0), add1 b (nth [neg1 a, neg1 b, neg1 c] 1), add1 c (nth [neg1 a, neg1 b, neg1 c] 2)] 2)], .agg #[.int .i64 (0), .int .i64 (0), .int .i64 (0)], .bool (!(nth [add1 a (nth [neg1 a, neg1 b, neg1 c] 0), add1 b (nth [neg1 a, neg1 b, neg1 c] 1), add1 c (nth [neg1 a, neg1 b, neg1 c] 2)] 0 == 0 && (nth [add1 a (nth [neg1 a, neg1 b, neg1 c] 0), add1 b (nth [neg1 a, neg1 b, neg1 c] 1), add1 c (nth [neg1 a, neg1 b, neg1 c] 2)] 1 == 0 && (nth [add1 a (nth [neg1 a, neg1 b, neg1 c] 0), add1 b (nth [neg1 a, neg1 b, neg1 c] 1), add1 c (nth [neg1 a, neg1 b, neg1 c] 2)] 2 == 0 && true)))), .bool (!(nth [add1 a (nth [neg1 a, neg1 b, neg1 c] 0), add1 b (nth [neg1 a, neg1 b, neg1 c] 1), add1 c (nth [neg1 a, neg1 b, neg1 c] 2)] 0 == 0 && (nth [add1 a (nth [neg1 a, neg1 b, neg1 c] 0), add1 b (nth [neg1 a, neg1 b, neg1 c] 1), add1 c (nth [neg1 a, neg1 b, neg1 c] 2)] 1 == 0 && (nth [add1 a (nth [neg1 a, neg1 b, neg1 c] 0), add1 b (nth [neg1 a, neg1 b, neg1 c] 1), add1 c (nth [neg1 a, neg1 b, neg1 c] 2)] 2 == 0 && true)))), .bool false, .agg #[.int .i64 (a), .int .i64 (b), .int .i64 (c)], .agg #[.int .i64 (d), .int .i64 (e), .int .i64 (f)], .agg #[.int .i64 (nth [add1 a (neg1 d), add1 b (neg1 e), add1 c (neg1 f)] 0), .int .i64 (nth [add1 a (neg1 d), add1 b (neg1 e), add1 c (neg1 f)] 1), .int .i64 (nth [add1 a (neg1 d), add1 b (neg1 e), add1 c (neg1 f)] 2)], .agg #[.int .i64 (a), .int .i64 (b), .int .i64 (c)], .agg #[.int .i64 (d), .int .i64 (e), .int .i64 (f)], .agg #[.int .i64 (nth [neg1 d, neg1 e, neg1 f] 0), .int .i64 (nth [neg1 d, neg1 e, neg1 f] 1), .int .i64 (nth [neg1 d, neg1 e, neg1 f] 2)], .agg #[.int .i64 (nth [add1 a (nth [neg1 d, neg1 e, neg1 f] 0), add1 b (nth [neg1 d, neg1 e, neg1 f] 1), add1 c (nth [neg1 d, neg1 e, neg1 f] 2)] 0), .int .i64 (nth [add1 a (nth [neg1 d, neg1 e, neg1 f] 0), add1 b (nth [neg1 d, neg1 e, neg1 f] 1), add1 c (nth [neg1 d, neg1 e, neg1 f] 2)] 1), .int .i64 (nth [add1 a (nth [neg1 d, neg1 e, neg1 f] 0), add1 b (nth [neg1 d, neg1 e, neg1 f] 1), add1 c (nth [neg1 d, neg1 e, neg1 f] 2)] 2)], .bool (!(nth [add1 a (neg1 d), add1 b (neg1 e), add1 c (neg1 f)] 0 == nth [add1 a (nth [neg1 d, neg1 e, neg1 f] 0), add1 b (nth [neg1 d, neg1 e, neg1 f] 1), add1 c (nth [neg1 d, neg1 e, neg1 f] 2)] 0 && (nth [add1 a (neg1 d), add1 b (neg1 e), add1 c (neg1 f)] 1 == nth [add1 a (nth [neg1 d, neg1 e, neg1 f] 0), add1 b (nth [neg1 d, neg1 e, neg1 f] 1), add1 c (nth [neg1 d, neg1 e, neg1 f] 2)] 1 && (nth [add1 a (neg1 d), add1 b (neg1 e), add1 c (neg1 f)] 2 == nth [add1 a (nth [neg1 d, neg1 e, neg1 f] 0), add1 b (nth [neg1 d, neg1 e, neg1 f] 1), add1 c (nth [neg1 d, neg1 e, neg1 f] 2)] 2 && true)))), .bool false, .int .i64 (n), .int .i64 (n.tmod 50), .int .i64 (IntKind.i64.wrap (n.tmod 50 + 50)), .int .i64 ((IntKind.i64.wrap (n.tmod 50 + 50)).tmod 50), .agg #[.int .i64 (0), .int .i64 (0), .int .i64 (0)], undef, undef, undef, undef, undef, undef, undef, undef, undef, undef, undef, undef, undef, undef, undef, undef, undef, undef, undef, undef, undef, undef, undef, undef, undef, undef, undef, undef, undef, undef, undef, undef, undef, undef, undef, undef, undef, undef]
theorem start (m : Nat) (a b c d e f g h i n : Int) : exFun (CC Try.prog) (m + 9) Try.f7 [.agg (intsK .i64 [a, b, c]).toArray, .agg (intsK .i64 [d, e, f]).toArray, .agg (intsK .i64 [g, h, i]).toArray, .int .i64 n] =
    headT a b c d e f g h i (exCode (CC Try.prog) m (codeAt LP (bodyOf Try.f7)) (hst (junk0 a b c d e f g h i n) a b c d e f g h i (add1 a d) (add1 b e) (add1 c f) (Int.tmod (W (Int.tmod n 50 + 50)) 50) 0 0 0 0) (kAt (CC Try.prog) LP (m + 9) (bodyOf Try.f7) (retK Try.prog Try.f7))) := by kernel_rfl
theorem step (m : Nat) (u : Nat → Value) (L : St → Option Value) (K : Kont) (a b c d e f g h i x y z N k p q r : Int) : exCode (CC Try.prog) (m + 20) (codeAt (LP ++ [0]) (bodyOf Try.f7)) (hst u a b c d e f g h i x y z N k p q r) (loopK L K) = match decide (k < N) with
    | true => L (hst (up (up (up (up (up u 68 (.bool true)) 69 (.agg #[.int .i64 (p), .int .i64 (q), .int .i64 (r)])) 70 (.agg #[.int .i64 (a), .int .i64 (b), .int .i64 (c)])) 71 (.agg #[.int .i64 (nth [add1 p a, add1 q b, add1 r c] 0), .int .i64 (nth [add1 p a, add1 q b, add1 r c] 1), .int .i64 (nth [add1 p a, add1 q b, add1 r c] 2)])) 72 (.int .i64 (IntKind.i64.wrap (k + 1)))) a b c d e f g h i x y z N (W (k + 1)) (add1 p a) (add1 q b) (add1 r c))
    | false => K (.exit 0) (hst (up u 68 (.bool false)) a b c d e f g h i x y z N k p q r) := by kernel_rfl
theorem atLoop : codeAt LP (bodyOf Try.f7) = .loop (codeAt (LP ++ [0]) (bodyOf Try.f7)) := by kernel_rfl
theorem fin (m : Nat) (u : Nat → Value) (a b c d e f g h i N k p q r : Int) : kAt (CC Try.prog) LP (m + 60) (bodyOf Try.f7) (retK Try.prog Try.f7) (.exit 0) (hst u a b c d e f g h i (add1 a d) (add1 b e) (add1 c f) N k p q r) = grpEnd a b c d e f N p q r := by kernel_rfl
theorem grpEnd_true (a b c d e f N p q r : Int) (hN : 0 ≤ N ∧ N ≤ 49) (hp : p = (N * a) % 24) (hq : q = (N * b) % 24) (hr : r = (N * c) % 24) : grpEnd a b c d e f N p q r = some (.bool true) := by
  have key : ∀ x : Int, W (0 - N) * x % 24 = (-(N * x % 24)) % 24 := by
    intro x
    rw [W_id (by omega) (by omega), show (0 - N) * x = -(N * x) by rw [Int.zero_sub, Int.neg_mul]]
    omega
  have k24 : ∀ x : Int, 24 * x % 24 = 0 := fun x => by omega
  unfold grpEnd
  simp only [times1_eq, neg1_eq, add1_eq, key, k24]
  rw [guardF_eq, guardF_eq]
  · simp only [List.mem_cons, List.not_mem_nil, or_false, forall_eq_or_imp, forall_eq, decide_eq_false_iff_not]
    omega
  · simp [eq3, hp, hq, hr]
theorem loop_true (a b c d e f g h i N : Int) (hN : 0 ≤ N ∧ N ≤ 49) (K : Kont) (hK : ∀ u k p q r, K (.exit 0) (hst u a b c d e f g h i (add1 a d) (add1 b e) (add1 c f) N k p q r) = grpEnd a b c d e f N p q r) :
    ∀ (m : Nat) (u : Nat → Value) (k p q r : Int), 0 ≤ k → k ≤ N → N - k < m → p = (k * a) % 24 → q = (k * b) % 24 → r = (k * c) % 24 → exCode (CC Try.prog) (m + 20) (codeAt LP (bodyOf Try.f7)) (hst u a b c d e f g h i (add1 a d) (add1 b e) (add1 c f) N k p q r) K = some (.bool true)
  | 0, u, k, p, q, r, _, _, h, _, _, _ => by omega
  | m + 1, u, k, p, q, r, h0, h1, h2, hp, hq, hr => by
    rw [atLoop, show m + 1 + 20 = (m + 20) + 1 by omega, loop_step, step]
    by_cases hi : k < N
    · have : decide (k < N) = true := by simpa using hi
      rw [this]
      simp only
      rw [W_id (by omega) (by omega), ← atLoop]
      refine loop_true a b c d e f g h i N hN K hK m _ (k + 1) _ _ _ (by omega) (by omega) (by omega) ?_ ?_ ?_
      · rw [add1_eq, hp, show (k + 1) * a = k * a + a by rw [Int.add_mul, Int.one_mul]]; omega
      · rw [add1_eq, hq, show (k + 1) * b = k * b + b by rw [Int.add_mul, Int.one_mul]]; omega
      · rw [add1_eq, hr, show (k + 1) * c = k * c + c by rw [Int.add_mul, Int.one_mul]]; omega
    · have hiN : k = N := by omega
      have : decide (k < N) = false := by simpa using hi
      rw [this]
      simp only
      rw [hK]
      subst hiN
      exact grpEnd_true a b c d e f k p q r hN hp hq hr
theorem tmod_pos (x n : Int) (hx : 0 ≤ x) (hn : 0 < n) : 0 ≤ Int.tmod x n ∧ Int.tmod x n ≤ n - 1 := by
  rw [Int.tmod_eq_emod_of_nonneg hx]
  have := Int.emod_nonneg x (show n ≠ 0 by omega)
  have := Int.emod_lt_of_pos x hn
  omega
theorem head_true (a b c d e f g h i : Int) (r : Option Value) : headT a b c d e f g h i r = r := by
  unfold headT
  have e3 : ∀ {a b c d e f : Int}, a = d → b = e → c = f → (!(eq3 a b c d e f)) = false := fun h1 h2 h3 => by subst h1; subst h2; subst h3; simp [eq3]
  refine guardF_eq _ _ fun t ht => ?_
  simp only [List.mem_cons, List.not_mem_nil, or_false] at ht
  rcases ht with rfl | rfl | rfl | rfl | rfl <;> refine e3 ?_ ?_ ?_ <;> simp only [add1_eq, neg1_eq] <;> omega
theorem group_law (l0 : List Int) (e0 : l0.length = 3) (_ : ∀ x ∈ l0, (Lit.int .i64 x).wf = true) (l1 : List Int) (e1 : l1.length = 3) (_ : ∀ x ∈ l1, (Lit.int .i64 x).wf = true) (l2 : List Int) (e2 : l2.length = 3) (_ : ∀ x ∈ l2, (Lit.int .i64 x).wf = true) (n : Int) (_ : (Lit.int .i64 n).wf = true) :
    exFun (CC Try.prog) 79 Try.f7 [.agg (intsK .i64 l0).toArray, .agg (intsK .i64 l1).toArray, .agg (intsK .i64 l2).toArray, .int .i64 n] = some (.bool true) := by
  match l0, e0, l1, e1, l2, e2 with
  | [a, b, c], _, [d, e, f], _, [g, h, i], _ =>
    have h50 : -50 < Int.tmod n 50 ∧ Int.tmod n 50 < 50 := by
      have h1 := Int.tmod_lt_of_pos n (show (0 : Int) < 50 by omega)
      have h2 := Int.tmod_lt_of_pos (-n) (show (0 : Int) < 50 by omega)
      rw [Int.neg_tmod] at h2
      omega
    have hN : 0 ≤ Int.tmod (W (Int.tmod n 50 + 50)) 50 ∧ Int.tmod (W (Int.tmod n 50 + 50)) 50 ≤ 49 := by
      rw [W_id (by omega) (by omega)]
      exact tmod_pos _ 50 (by omega) (by omega)
    rw [start 70, head_true]
    exact loop_true a b c d e f g h i _ hN _ (fun u k p q r => fin 19 u a b c d e f g h i _ k p q r) 50 _ 0 0 0 0 (by omega) hN.1 (by omega) (by simp) (by simp) (by simp)

theorem fracGroup_walk (l0 : List Int) (e0 : l0.length = 3) (u0 : ∀ x ∈ l0, (Lit.int .i64 x).wf = true) (l1 : List Int) (e1 : l1.length = 3) (u1 : ∀ x ∈ l1, (Lit.int .i64 x).wf = true) (l2 : List Int) (e2 : l2.length = 3) (u2 : ∀ x ∈ l2, (Lit.int .i64 x).wf = true) (x3 : Int) (u3 : (Lit.int .i64 x3).wf = true) (w : World) : Calls Try.prog 7 #[.agg (intsK .i64 l0).toArray, .agg (intsK .i64 l1).toArray, .agg (intsK .i64 l2).toArray, .int .i64 x3] w fun e w' => e = .returned (.bool true) ∧ Below w.heap.size w w' :=
  exFun_calls okC Try.func7 (args := [.agg (intsK .i64 l0).toArray, .agg (intsK .i64 l1).toArray, .agg (intsK .i64 l2).toArray, .int .i64 x3]) (by
    intro x hx
    simp only [List.mem_cons, List.not_mem_nil, or_false] at hx
    rcases hx with rfl | rfl | rfl | rfl <;> rfl) (group_law l0 e0 u0 l1 e1 u1 l2 e2 u2 x3 u3) w

set_option maxRecDepth 100000 in
theorem fracGroup_lifted (os : Os) (started : os.Started) (H : Type) (enc : TypeId × Value → H) :
    ReturnsInHanded {} Try.checked os 7 .any (Rows.fracGroupSpec.pre6 enc Try.prog Try.f7 Rows.fracGroupRow.domain false) (Rows.fracGroupSpec.post enc Try.prog Try.f7 false true false false) := by
  refine returnsInHanded_of_change (C := Try.checked) own started (by kernel_rfl) Try.func7
    (ChangeSpec.witness6 (enc := enc) (C := Try.checked) false ⟨#[], #[.agg #[.int .i64 0, .int .i64 0, .int .i64 0], .agg #[.int .i64 0, .int .i64 0, .int .i64 0], .agg #[.int .i64 0, .int .i64 0, .int .i64 0], .int .i64 0], []⟩ 8 (by kernel_rfl) (by kernel_rfl) (by kernel_rfl) (by kernel_rfl)) ?_
  intro W base args ds gs before hval0 hW _ _
  have hval : ∀ (j : Nat) t v, Try.f7.params[j]? = some t → args[j]? = some v → Value.okWide Try.prog W .any base t v := hval0
  have hW' := hW
  obtain ⟨p, q, hA0, hV, rfl, _, _⟩ := hW
  have hA : DataW.TrodAll enc Try.prog W 0 (fun _ => true) true Try.f7.params.toList args.toList ds p := hA0
  rw [Try.params7] at hA hval
  obtain ⟨v0, vs0, d0, ds0, p0, q0, hargs, rfl, rfl, h0, r0⟩ := trodAll_cons hA
  obtain ⟨v1, vs1, d1, ds1, p1, q1, rfl, rfl, rfl, h1, r1⟩ := trodAll_cons r0
  obtain ⟨v2, vs2, d2, ds2, p2, q2, rfl, rfl, rfl, h2, r2⟩ := trodAll_cons r1
  obtain ⟨v3, vs3, d3, ds3, p3, q3, rfl, rfl, rfl, h3, r3⟩ := trodAll_cons r2
  obtain ⟨rfl, rfl, rfl⟩ := trodAll_nil r3
  obtain rfl : args = #[v0, v1, v2, v3] := by cases args; simp_all
  obtain ⟨rfl, rfl⟩ := trodVars_none hV
  have lt0 : ∀ x ∈ p0, x.block < W.heap.size := by obtain ⟨m, hm⟩ := h0; exact DataW.trod_lt m _ _ _ hm
  obtain ⟨l0, e0, rfl, u0⟩ := open_rowK (n := 3) (k := .i64) (by kernel_rfl) (by kernel_rfl) (hval 0 36 v0 rfl rfl) h0
  have lt1 : ∀ x ∈ p1, x.block < W.heap.size := by obtain ⟨m, hm⟩ := h1; exact DataW.trod_lt m _ _ _ hm
  obtain ⟨l1, e1, rfl, u1⟩ := open_rowK (n := 3) (k := .i64) (by kernel_rfl) (by kernel_rfl) (hval 1 36 v1 rfl rfl) h1
  have lt2 : ∀ x ∈ p2, x.block < W.heap.size := by obtain ⟨m, hm⟩ := h2; exact DataW.trod_lt m _ _ _ hm
  obtain ⟨l2, e2, rfl, u2⟩ := open_rowK (n := 3) (k := .i64) (by kernel_rfl) (by kernel_rfl) (hval 2 36 v2 rfl rfl) h2
  have lt3 : ∀ x ∈ p3, x.block < W.heap.size := by obtain ⟨m, hm⟩ := h3; exact DataW.trod_lt m _ _ _ hm
  obtain ⟨x3, rfl, _, _, u3⟩ := open_int Try.underlying3 (hval 3 3 v3 rfl rfl) h3
  clear hA0 hval0
  refine (fracGroup_walk l0 e0 u0 l1 e1 u1 l2 e2 u2 x3 u3 W).mono fun e W' ⟨he, bel⟩ => ?_
  subst he
  exact ⟨_, rfl, _, _, _, [], _, [], hW', trodAll_mk1 (shut_bool Try.underlying4 _), (trodAll_cons_mk (Below.trod laidOut (by kernel_rfl) (of_decide_eq_true (by kernel_rfl)) h0 bel lt0) (trodAll_cons_mk (Below.trod laidOut (by kernel_rfl) (of_decide_eq_true (by kernel_rfl)) h1 bel lt1) (trodAll_cons_mk (Below.trod laidOut (by kernel_rfl) (of_decide_eq_true (by kernel_rfl)) h2 bel lt2) (trodAll_cons_mk (Below.trod laidOut (by kernel_rfl) (of_decide_eq_true (by kernel_rfl)) h3 bel lt3) trodAll_mk0)))), rfl, bel.frame _, fun h => by cases h⟩

theorem fracGroup_holds : Rows.FracGroupSaid :=
  OpenClaim.holds_of_wide 7 Try.f7 rfl rfl rfl rfl rfl rfl rfl ⟨rfl, rfl, rfl, rfl, rfl⟩ rfl rfl rfl rfl rfl (by kernel_rfl) Try.func7 (by kernel_rfl)
    (of_decide_eq_true (by kernel_rfl)) (by unfold Func.isWrapper; first | (rw [if_pos (by decide +kernel)]; kernel_rfl) | (rw [if_neg (by decide +kernel)]; exact ⟨rfl, rfl⟩))
    (fun os started H enc _ => fracGroup_lifted os started H enc)

end Go.Proofs.Ytklmanmeedfjpab
