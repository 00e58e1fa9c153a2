/-
  facetlaw14.AbsentSees, run. Nothing here is trusted.
-/
import Derived.Test.YtjpfnfckpgilgaaHTHk3
namespace Go.Proofs.Ytjpfnfckpgilgaa
open Go Vx Go.RowKit

def asB (P : Program) : Code := bodyOf P 7
theorem asB_eq : Try.f7.body = some (asB Try.prog) := by kernel_rfl
def asS (own : Bool) (n : Nat) (xs : List O3) (h : V3) (o : O3) (e6 : Int) (b7 : Bool) (e8 n9 : Int) (b10 : Bool) (e11 : Int) : St := stOf 179 [(0, .slice (some ⟨0, 0, some 0⟩) n 12), (3, .pointer (some ⟨1, 0, none⟩)), (4, .bool false), (5, .pointer (some ⟨2, 0, none⟩)), (6, vI e6), (7, .bool b7), (8, vI e8), (9, vI n9), (10, .bool b10), (11, vI e11)] [.rows own true 12 n (opRow xs), .cells true 0 h.cells, .cells true 0 o.cells]
def asK (own : Bool) (n : Nat) (xs : List O3) (h : V3) (o : O3) (b : Bool) (n9 : Int) (b10 : Bool) : St := stOf 179 [(0, .slice (some ⟨0, 0, some 0⟩) n 12), (3, .pointer (some ⟨1, 0, none⟩)), (4, .bool false), (5, .pointer (some ⟨2, 0, none⟩)), (7, .bool b), (9, vI n9), (10, .bool b10)] [.rows own true 12 n (opRow xs), .cells true 0 h.cells, .cells true 0 o.cells]
def asH (own : Bool) (n : Nat) (xs : List O3) (h : V3) (o : O3) (b : Bool) (n9 : Int) (b10 : Bool) (i : Int) : St := stOf 179 [(0, .slice (some ⟨0, 0, some 0⟩) n 12), (3, .pointer (some ⟨1, 0, none⟩)), (4, .bool false), (5, .pointer (some ⟨2, 0, none⟩)), (7, .bool b), (9, vI n9), (10, .bool b10), (86, .slice (some ⟨0, 0, some 0⟩) n 12), (87, vI n), (88, vI i)] [.rows own true 12 n (opRow xs), .cells true 0 h.cells, .cells true 0 o.cells]
def asZ (own : Bool) (n : Nat) (xs : List O3) (h : V3) (n9 : Int) (b10 : Bool) : St := stOf 179 [(0, .slice (some ⟨0, 0, some 0⟩) n 12), (3, .pointer (some ⟨1, 0, none⟩)), (4, .bool false), (9, vI n9), (10, .bool b10)] [.rows own true 12 n (opRow xs), .cells true 0 h.cells]
def asL (own : Bool) (n : Nat) (xs : List O3) (h : V3) (n9 : Int) (b10 : Bool) (k m : Nat) (Y : List V3) : St := stOf 179 [(3, .pointer (some ⟨1, 0, none⟩)), (4, .bool false), (9, vI n9), (10, .bool b10), (18, .slice (some ⟨2, 0, some 0⟩) k 3), (19, .bool false)] [.rows own true 12 n (opRow xs), .cells true 0 h.cells, .rows true true 3 m (vcRow Y)]
def asI (own : Bool) (n : Nat) (xs : List O3) (h : V3) (n9 : Int) (b10 : Bool) (k m : Nat) (Y : List V3) (c : Bool) (j : Int) : St := stOf 179 [(3, .pointer (some ⟨1, 0, none⟩)), (4, .bool false), (9, vI n9), (10, .bool b10), (19, .bool c), (139, .slice (some ⟨2, 0, some 0⟩) k 3), (140, vI k), (141, vI j)] [.rows own true 12 n (opRow xs), .cells true 0 h.cells, .rows true true 3 m (vcRow Y)]
def asY (own : Bool) (n : Nat) (xs : List O3) (n9 : Int) (b10 c : Bool) : St := stOf 179 [(4, .bool false), (9, vI n9), (10, .bool b10), (19, .bool c)] [.rows own true 12 n (opRow xs)]
theorem asP (own : Bool) (n : Nat) (xs : List O3) (h : V3) : segR ((Cow Try.prog).into 7 1) 60 5 (asB Try.prog) [0, 3, 4, 5, 6, 7, 8, 9, 10, 11] [.fix 0, .slot 3, .slot 5] (enter Try.f7 [.slice (some ⟨0, 0, some 0⟩) n 12, h.v] [.rows own true 12 n (opRow xs)]) =
    gd (lk n) (gd (ghT alwB n (opRow xs) h) (gd (lk n) (gd (ghT alwB n (opRow xs) h) (gd (lk n) (gd (ghT alwB n (opRow xs) h) (some (asS own n xs h (whO (opsOf n (opRow xs)) h) (whE (opsOf n (opRow xs)) h) (isb (opsOf n (opRow xs)) h) (acI (opsOf n (opRow xs)) h) (ceN (opsOf n (opRow xs)) h) (ceC (opsOf n (opRow xs)) h) (acI (opsOf n (opRow xs)) h)))))))) := by kernel_rfl
theorem asEr (own : Bool) (n : Nat) (xs : List O3) (h : V3) (e : Int) : roundR ((Cow Try.prog).into 7 1) 60 (stmt 5 (asB Try.prog)) [4] [4] [.fix 0] [.fix 0] (asS own n xs h O3.zero e false e 0 false e) =
    (match e != 0 with
    | true => match e == e with
      | true => match e == e with
        | true => some (.ret, stOf 179 [(4, .bool true)] [.rows own true 12 n (opRow xs)])
        | false => some (.ret, stOf 179 [(4, .bool false)] [.rows own true 12 n (opRow xs)])
      | false => some (.ret, stOf 179 [(4, .bool false)] [.rows own true 12 n (opRow xs)])
    | false => some (.normal, stOf 179 [(4, .bool false)] [.rows own true 12 n (opRow xs)])) := by kernel_rfl
theorem asHas : hasStmt 5 (asB Try.prog) = true ∧ hasStmt 7 (asB Try.prog) = true ∧ hasStmt 11 (asB Try.prog) = true := ⟨by kernel_rfl, by kernel_rfl, by kernel_rfl⟩
theorem asTt (own : Bool) (n : Nat) (xs : List O3) (h : V3) (o : O3) (n9 : Int) (b10 : Bool) : segR ((Cow Try.prog).into 7 1) 60 2 (seqDrop 5 (asB Try.prog)) [0, 3, 4, 5, 7, 9, 10] [.fix 0, .slot 3, .slot 5] (asS own n xs h o 0 true 0 n9 b10 0) = some (asK own n xs h o true n9 b10) := by kernel_rfl
theorem asTf (own : Bool) (n : Nat) (xs : List O3) (h : V3) (o : O3) (n9 : Int) (b10 : Bool) : segR ((Cow Try.prog).into 7 1) 60 2 (seqDrop 5 (asB Try.prog)) [0, 3, 4, 5, 7, 9, 10] [.fix 0, .slot 3, .slot 5] (asS own n xs h o 9 false 0 n9 b10 0) = some (asK own n xs h o false n9 b10) := by kernel_rfl
theorem asFor : isFor 0 (stmt 7 (asB Try.prog)) = true ∧ isFor 2 (stmt 11 (asB Try.prog)) = true := ⟨by kernel_rfl, by kernel_rfl⟩
theorem asHd (own : Bool) (n : Nat) (xs : List O3) (h : V3) (o : O3) (b : Bool) (n9 : Int) (b10 : Bool) : roundR ((Cow Try.prog).into 7 1) 60 (forHead (stmt 7 (asB Try.prog))) [0, 3, 4, 5, 7, 9, 10, 86, 87, 88] [0, 3, 4, 5, 7, 9, 10, 86, 87, 88] [.fix 0, .slot 3, .slot 5] [.fix 0, .slot 3, .slot 5] (asK own n xs h o b n9 b10) = some (.normal, asH own n xs h o b n9 b10 0) := by kernel_rfl
theorem asRt (own : Bool) (n : Nat) (xs : List O3) (h : V3) (o : O3) (n9 : Int) (b10 : Bool) (i : Nat) : (roundR ((Cow Try.prog).into 7 1) 60 (forBody (stmt 7 (asB Try.prog))) [0, 3, 4, 5, 7, 9, 10, 86, 87, 88] [0, 3, 4, 9, 10] [.fix 0, .slot 3, .slot 5] [.fix 0, .slot 3] (asH own n xs h o true n9 b10 (i : Int))) =
    (match decide ((i : Int) < (n : Int)) with
    | true => gd (boundsI (i : Int) n) (match phE (atO xs (i : Int)) h != 0 with
      | true => some (.ret, asZ own n xs h n9 b10)
      | false => match phE (atO xs (i : Int)) h != 0 with
        | true => some (.ret, asZ own n xs h n9 b10)
        | false => match (tnV (atO xs (i : Int)) h).eqB h with
          | true => (match phV (atO xs (i : Int)) h != 0 with
            | true => (match !((atO xs (i : Int)).eqB o) with
            | true => some (.ret, asZ own n xs h n9 b10)
            | false => some (.exit 0, asZ own n xs h n9 b10))
            | false => (match (atO xs (i : Int)).eqB o with
            | true => some (.ret, asZ own n xs h n9 b10)
            | false => some (.normal, asH own n xs h o true n9 b10 (W ((i : Int) + 1)))))
          | false => (match (atO xs (i : Int)).eqB o with
            | true => some (.ret, asZ own n xs h n9 b10)
            | false => some (.normal, asH own n xs h o true n9 b10 (W ((i : Int) + 1)))))
    | false => some (.exit 0, asZ own n xs h n9 b10)) := by kernel_rfl
theorem asRf (own : Bool) (n : Nat) (xs : List O3) (h : V3) (o : O3) (n9 : Int) (b10 : Bool) (i : Nat) : (roundR ((Cow Try.prog).into 7 1) 60 (forBody (stmt 7 (asB Try.prog))) [0, 3, 4, 5, 7, 9, 10, 86, 87, 88] [0, 3, 4, 9, 10] [.fix 0, .slot 3, .slot 5] [.fix 0, .slot 3] (asH own n xs h o false n9 b10 (i : Int))) =
    (match decide ((i : Int) < (n : Int)) with
    | true => gd (boundsI (i : Int) n) (match phE (atO xs (i : Int)) h != 0 with
      | true => some (.ret, asZ own n xs h n9 b10)
      | false => match phE (atO xs (i : Int)) h != 0 with
        | true => some (.ret, asZ own n xs h n9 b10)
        | false => match (tnV (atO xs (i : Int)) h).eqB h with
          | true => (match phV (atO xs (i : Int)) h != 0 with
            | true => (some (.ret, asZ own n xs h n9 b10))
            | false => (some (.normal, asH own n xs h o false n9 b10 (W ((i : Int) + 1)))))
          | false => (some (.normal, asH own n xs h o false n9 b10 (W ((i : Int) + 1)))))
    | false => some (.exit 0, asZ own n xs h n9 b10)) := by kernel_rfl
theorem asO (own : Bool) (n : Nat) (xs : List O3) (h : V3) (n9 : Int) (b10 : Bool) : segR ((Cog Try.prog).into 7 1) 60 3 (seqDrop 8 (asB Try.prog)) [3, 4, 9, 10, 18, 19] [.fix 0, .slot 3, .slot 18] (asZ own n xs h n9 b10) = gd (lk n) (gd (oT n (opRow xs)) (gn (acI (opsOf n (opRow xs)) h != 0) (some (asL own n xs h n9 b10 (ofL (opsOf n (opRow xs)) h).length (trn (opsOf n (opRow xs)) h).length (ofA (opsOf n (opRow xs)) h))))) := by kernel_rfl
theorem asHd2 (own : Bool) (n : Nat) (xs : List O3) (h : V3) (n9 : Int) (b10 : Bool) (k m : Nat) (Y : List V3) : roundR ((Cow Try.prog).into 7 1) 60 (forHead (stmt 11 (asB Try.prog))) [3, 4, 9, 10, 19, 139, 140, 141] [3, 4, 9, 10, 19, 139, 140, 141] [.fix 0, .slot 3, .slot 139] [.fix 0, .slot 3, .slot 139] (asL own n xs h n9 b10 k m Y) = some (.normal, asI own n xs h n9 b10 k m Y false 0) := by kernel_rfl
theorem asR2 (own : Bool) (n : Nat) (xs : List O3) (h : V3) (n9 : Int) (b10 : Bool) (k m : Nat) (Y : List V3) (c : Bool) (j : Nat) : roundR ((Cow Try.prog).into 7 1) 60 (forBody (stmt 11 (asB Try.prog))) [3, 4, 9, 10, 19, 139, 140, 141] [4, 9, 10, 19] [.fix 0, .slot 3, .slot 139] [.fix 0] (asI own n xs h n9 b10 k m Y c (j : Int)) =
    (match decide ((j : Int) < (k : Int)) with
    | true => gd (boundsI (j : Int) k) (match c with
      | true => some (.normal, asI own n xs h n9 b10 k m Y true (W ((j : Int) + 1)))
      | false => some (.normal, asI own n xs h n9 b10 k m Y ((atV Y j).eqB (oppW h)) (W ((j : Int) + 1))))
    | false => some (.exit 2, asY own n xs n9 b10 c)) := by kernel_rfl
theorem asFt (own : Bool) (n : Nat) (xs : List O3) (n9 : Int) : roundR ((Cow Try.prog).into 7 1) 60 (seqDrop 12 (asB Try.prog)) [4] [4] [.fix 0] [.fix 0] (asY own n xs n9 true true) = (match decide (n9 ≥ 0) with
    | true => some (.ret, stOf 179 [(4, .bool (decide (n9 < 24)))] [.rows own true 12 n (opRow xs)])
    | false => some (.ret, stOf 179 [(4, .bool false)] [.rows own true 12 n (opRow xs)])) := by kernel_rfl
theorem asFf (own : Bool) (n : Nat) (xs : List O3) : roundR ((Cow Try.prog).into 7 1) 60 (seqDrop 12 (asB Try.prog)) [4] [4] [.fix 0] [.fix 0] (asY own n xs 0 false false) = some (.ret, stOf 179 [(4, .bool true)] [.rows own true 12 n (opRow xs)]) := by kernel_rfl
theorem asQ (own : Bool) (n : Nat) (xs : List O3) : (retA Try.prog Try.f7 (.ret, stOf 179 [(4, .bool true)] [.rows own true 12 n (opRow xs)])).res = some (.bool true, [.rows own true 12 n (opRow xs)]) := by kernel_rfl
end Go.Proofs.Ytjpfnfckpgilgaa
