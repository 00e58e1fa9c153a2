/-
  WholeCells run by pieces. Nothing here is trusted.
-/
import Derived.Test.YtofblakbfmjgkaaHTWcR
namespace Go.Proofs.Ytofblakbfmjgkaa
open Go Vx Go.RowKit
def a3 (a b c : Int) : Value := .agg #[v8 a, v8 b, v8 c]
def c3 (a b c : Int) : List Value := [v8 a, v8 b, v8 c]
def cu3 (a b c : Int) : List Value := [vu8 a, vu8 b, vu8 c]
def wcB (P : Program) : Code := bodyOf P 17
theorem wcB_eq : Try.f17.body = some (wcB Try.prog) := by kernel_rfl
def wcM (x y z u v w i j l : Int) (m : G6) : Mem := [.cells true 0 (c3 x y z), .cells true 0 (c3 u v w), .cells true 0 (cu3 i j l), .cells true 0 (G6.cells m)]
def wcP : List (Nat × Value) := [obPt 6 0, obPt 7 1, obPt 8 2, obPt 11 3]
def wc3 (x y z u v w i j l k : Int) (m : G6) (b : Bool) (D K : Int) : St := stOf 398 ((4, vu8 k) :: wcP ++ [(12, .bool b), (13, vI D), (14, vI K)]) (wcM x y z u v w i j l m)
def wc4 (x y z u v w i j l k : Int) (m : G6) (b : Bool) : St := stOf 398 ((4, vu8 k) :: wcP ++ [(12, .bool b)]) (wcM x y z u v w i j l m)
def wc5 (x y z u v w i j l k : Int) (m : G6) : St := stOf 398 ((4, vu8 k) :: wcP) (wcM x y z u v w i j l m)
def wcR (b : Bool) : St := stOf 398 [(10, .bool b)] []
def rF : Option (Exit × St) := some (.ret, wcR false)
def orr : List Bool → Option (Exit × St) → Option (Exit × St)
  | [], k => k
  | c :: l, k => match c with
    | true => rF
    | false => orr l k
theorem wcE0 (R : RC) (b0 b1 b2 b3 b4 b5 b6 b7 b8 x y z u v w i j l k : Int) : segR ((Cz R Try.prog).into 17 0) 60 3 (wcB Try.prog) [4, 6, 7, 8, 11, 12, 13, 14] [.slot 6, .slot 7, .slot 8, .slot 11] (enter Try.f17 [a9 b0 b1 b2 b3 b4 b5 b6 b7 b8, a3 x y z, a3 u v w, u3 i j l, vu8 k] []) = some (wc3 x y z u v w i j l k (R.mt (w12M b0 b1 b2 b3 b4 b5 b6 b7 b8)) (R.mb (w12M b0 b1 b2 b3 b4 b5 b6 b7 b8)) (R.D ⟨2, 2, 2, 0, 0, 0⟩) (R.K ⟨2, 2, 2, 0, 0, 0⟩)) := by kernel_rfl
theorem wcE3 (R : RC) (x y z u v w i j l k : Int) (m : G6) (b : Bool) (D K : Int) : roundR ((Cz R Try.prog).into 17 0) 60 (stmt 3 (wcB Try.prog)) [4, 6, 7, 8, 11, 12] [10] [.slot 6, .slot 7, .slot 8, .slot 11] [] (wc3 x y z u v w i j l k m b D K) = orr [K != 0, D != 8] (some (.normal, wc4 x y z u v w i j l k m b)) := by kernel_rfl
theorem wcE4 (R : RC) (x y z u v w i j l k : Int) (m : G6) (b : Bool) : roundR ((Cz R Try.prog).into 17 0) 60 (stmt 4 (wcB Try.prog)) [4, 6, 7, 8, 11] [10] [.slot 6, .slot 7, .slot 8, .slot 11] [] (wc4 x y z u v w i j l k m b) = (match !b with
  | true => some (.ret, wcR (R.K m != 0))
  | false => some (.normal, wc5 x y z u v w i j l k m)) := by kernel_rfl
theorem wcE5 (R : RC) (x y z u v w i j l k : Int) (m : G6) : roundR ((Cz R Try.prog).into 17 0) 60 (stmt 5 (wcB Try.prog)) [4, 6, 7, 8, 11] [10] [.slot 6, .slot 7, .slot 8, .slot 11] [] (wc5 x y z u v w i j l k m) = orr [R.K m != 0] (some (.normal, wc5 x y z u v w i j l k m)) := by kernel_rfl
structure W19 where
  (be eu ev d ed d' ed' ej : Int) (s : Q2) (es : Int) (s' : Q2) (es' D K D' K' : Int)
def q19 (q : W19) (i j l : Int) (m n : G6) : St := stOf 398 [obPt 8 0, obPt 11 1, obPt 18 2, (19, vI q.be), (21, vI q.eu), (23, vI q.ev), (24, vI q.d), (25, vI q.ed), (26, vI q.d'), (27, vI q.ed'), (29, vI q.ej), obPt 30 3, (31, vI q.es), obPt 32 4, (33, vI q.es'), (34, vI q.D), (35, vI q.K), (36, vI q.D'), (37, vI q.K')] [.cells true 0 (cu3 i j l), .cells true 0 (G6.cells m), .cells true 0 (G6.cells n), .cells true 0 (Q2.cells q.s), .cells true 0 (Q2.cells q.s')]
def Q19 (R : RC) (m n : G6) (c : O3) (u v h : V3) : W19 := ⟨R.be c m, R.ae c.r u, R.ae c.r v, R.d m u v, R.f m u v, R.d n (R.ap c.r u) (R.ap c.r v), R.f n (R.ap c.r u) (R.ap c.r v), R.bie c h, R.s m h, R.e m h, R.s n (R.bi c h), R.e n (R.bi c h), R.D m, R.K m, R.D n, R.K n⟩
theorem wcE6 (R : RC) (x y z u v w i j l k : Int) (m : G6) : segR ((Cz R Try.prog).into 17 0) 60 13 (seqDrop 6 (wcB Try.prog)) [8, 11, 18, 19, 21, 23, 24, 25, 26, 27, 29, 30, 31, 32, 33, 34, 35, 36, 37] [.slot 8, .slot 11, .slot 18, .slot 30, .slot 32] (wc5 x y z u v w i j l k m) = gd (decide (0 ≤ k) && decide (k < 256)) (some (q19 (Q19 R m (R.bm ⟨R.tm (R.sg k) shr3, ⟨0, 0, 0⟩⟩ m) ⟨R.tm (R.sg k) shr3, ⟨0, 0, 0⟩⟩ ⟨W x, W y, W z⟩ ⟨W u, W v, W w⟩ ⟨w11 i, w11 j, w11 l⟩) i j l m (R.bm ⟨R.tm (R.sg k) shr3, ⟨0, 0, 0⟩⟩ m))) := by kernel_rfl
def wc20 (m n : G6) : St := stOf 398 [obPt 11 0, obPt 18 1] [.cells true 0 (G6.cells m), .cells true 0 (G6.cells n)]
theorem wcE19 (R : RC) (q : W19) (i j l : Int) (m n : G6) : roundR ((Cz R Try.prog).into 17 0) 60 (stmt 19 (wcB Try.prog)) [11, 18] [10] [.slot 11, .slot 18] [] (q19 q i j l m n) = orr [q.be != 0, q.eu != 0, q.ev != 0, q.ed != 0, q.ed' != 0, q.ej != 0, q.es != 0, q.es' != 0, q.K != 0, q.K' != 0, q.d != q.d', !(q.s.eqB q.s'), q.D != q.D', (q.s.num == 0) != eq3 (w11 i) (w11 j) (w11 l) 0 0 0] (some (.normal, wc20 m n)) := by kernel_rfl
structure W26 where
  (N eG eT dp ep hh eh hn ehn : Int) (B : Bool) (eS : Int)
def q26 (q : W26) (m g : G6) (p : M3) (t : G6) : St := stOf 398 [obPt 11 0, obPt 38 1, obPt 39 2, (40, vI q.N), (41, vI q.eG), obPt 42 3, (43, vI q.eT), (44, vI q.dp), (45, vI q.ep), (46, vI q.hh), (47, vI q.eh), (48, vI q.hn), (49, vI q.ehn), (52, .bool q.B), (53, vI q.eS)] [.cells true 0 (G6.cells m), .cells true 0 (G6.cells g), .cells true 0 p.cells, .cells true 0 (G6.cells t)]
theorem wcE20 (R : RC) (m n : G6) : segR ((Cz R Try.prog).into 17 0) 60 6 (seqDrop 20 (wcB Try.prog)) [11, 38, 39, 40, 41, 42, 43, 44, 45, 46, 47, 48, 49, 52, 53] [.slot 11, .slot 38, .slot 39, .slot 42] (wc20 m n) = some (q26 ⟨R.N m, R.K m, R.E m (R.P m), R.vd (R.P m), R.ve (R.P m), R.h m, R.K m, R.h n, R.K n, R.sB (R.G m), R.K (R.G m)⟩ m (R.G m) (R.P m) (R.T m (R.P m))) := by kernel_rfl
def q27 (m g : G6) (p : M3) (t : G6) (eT dp ep hh : Int) : St := stOf 398 [obPt 11 0, obPt 38 1, obPt 39 2, obPt 42 3, (43, vI eT), (44, vI dp), (45, vI ep), (46, vI hh)] [.cells true 0 (G6.cells m), .cells true 0 (G6.cells g), .cells true 0 p.cells, .cells true 0 (G6.cells t)]
def q28 (m g : G6) (t : G6) (eT dp ep hh : Int) : St := stOf 398 [obPt 11 0, obPt 38 1, obPt 42 2, (43, vI eT), (44, vI dp), (45, vI ep), (46, vI hh)] [.cells true 0 (G6.cells m), .cells true 0 (G6.cells g), .cells true 0 (G6.cells t)]
def q29 (m g : G6) (hh : Int) : St := stOf 398 [obPt 11 0, obPt 38 1, (46, vI hh)] [.cells true 0 (G6.cells m), .cells true 0 (G6.cells g)]
theorem wcE26 (R : RC) (q : W26) (m g : G6) (p : M3) (t : G6) : roundR ((Cz R Try.prog).into 17 0) 60 (stmt 26 (wcB Try.prog)) [11, 38, 39, 42, 43, 44, 45, 46] [10] [.slot 11, .slot 38, .slot 39, .slot 42] [] (q26 q m g p t) = orr [q.eG != 0, q.eh != 0, q.ehn != 0, q.eS != 0, q.hh != q.hn, q.B, decide (q.N < 0)] (some (.normal, q27 m g p t q.eT q.dp q.ep q.hh)) := by kernel_rfl
theorem wcE27 (R : RC) (m g : G6) (p : M3) (t : G6) (eT dp ep hh : Int) : roundR ((Cz R Try.prog).into 17 0) 60 (stmt 27 (wcB Try.prog)) [11, 38, 42, 43, 44, 45, 46] [10] [.slot 11, .slot 38, .slot 42] [] (q27 m g p t eT dp ep hh) = (match R.ve p != 0 with
  | true => match eT == 4 with
    | true => some (.ret, wcR (ep == 4))
    | false => rF
  | false => some (.normal, q28 m g t eT dp ep hh)) := by kernel_rfl
theorem wcE28 (R : RC) (m g : G6) (t : G6) (eT dp ep hh : Int) : roundR ((Cz R Try.prog).into 17 0) 60 (stmt 28 (wcB Try.prog)) [11, 38, 46] [10] [.slot 11, .slot 38] [] (q28 m g t eT dp ep hh) = orr [eT != 0, ep != 0, !(t.eqB g), W (dp * dp) != 1] (some (.normal, q29 m g hh)) := by kernel_rfl
def anr : List Bool → Option (Exit × St) → Option (Exit × St)
  | [], k => k
  | c :: l, k => match c with
    | true => anr l k
    | false => rF
theorem wcE29 (R : RC) (m g : G6) (hh : Int) : roundR ((Cz R Try.prog).into 17 0) 60 (seqDrop 29 (wcB Try.prog)) [11] [10] [] [] (q29 m g hh) = anr [decide (g.bc ≤ 0), decide (g.ac ≤ 0), decide (g.ab ≤ 0), decide (W (W (W (0 - g.aa) - g.ab) - g.ac) ≤ 0), decide (W (W (W (0 - g.ab) - g.bb) - g.bc) ≤ 0), decide (W (W (W (0 - g.ac) - g.bc) - g.cc) ≤ 0), decide (hh ≤ g.aa), decide (hh ≤ g.bb), decide (hh ≤ g.cc)] (gd (R.ns m hh) (some (.ret, wcR true))) := by kernel_rfl
theorem wcRet (b : Bool) : (retA Try.prog Try.f17 (.ret, wcR b)).res = some (.bool b, []) := by kernel_rfl
theorem wcHas : hasStmt 3 (wcB Try.prog) = true ∧ hasStmt 4 (wcB Try.prog) = true ∧ hasStmt 5 (wcB Try.prog) = true ∧ hasStmt 19 (wcB Try.prog) = true ∧ hasStmt 26 (wcB Try.prog) = true ∧ hasStmt 27 (wcB Try.prog) = true ∧ hasStmt 28 (wcB Try.prog) = true := ⟨by kernel_rfl, by kernel_rfl, by kernel_rfl, by kernel_rfl, by kernel_rfl, by kernel_rfl, by kernel_rfl⟩
end Go.Proofs.Ytofblakbfmjgkaa
