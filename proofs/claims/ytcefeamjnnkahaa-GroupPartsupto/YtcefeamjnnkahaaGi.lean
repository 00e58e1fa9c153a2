/-
  The inner loop of group's take. Nothing here is trusted.
-/
import Derived.Test.YtcefeamjnnkahaaGh

namespace Go.Proofs.Ytcefeamjnnkahaa
open Go Vx
def tkX (P : Program) : Code := (loopsOf P 31 10).headD .skip
theorem tkX_eq : loopsOf Try.prog 31 10 = [tkX Try.prog] := by kernel_rfl

def tkNE (o : O3) (n : Nat) (xs : List O3) (es : ES) (k : Nat) (ms : List O3) : Mem := [.cells true 0 [.slice (some ⟨1, 0, some 0⟩) n 12, .map (some 2), .slice (some ⟨6, 0, some 0⟩) k 12], .rows true true 12 n (opRow xs), .mp true 12 es, .cells true 0 o.cells, .cells true 0 [], .rows true true 12 1 (chop 12 0 o.cells), .rows true true 12 k (opRow ms)]
def tkNA (o : O3) (n : Nat) (xs : List O3) (es : ES) (k : Nat) (ms : List O3) : Mem := [.cells true 0 [.slice (some ⟨1, 0, some 0⟩) n 12, .map (some 2), .slice (some ⟨6, 0, some 0⟩) k 12], .rows true true 12 n (opRow xs), .mp true 12 es, .cells true 0 o.cells, .cells true 0 [], .rows true true 12 1 (chop 12 0 o.cells), .rows true true 12 k (opRow ms), .no]
def tkNB (o : O3) (n : Nat) (xs : List O3) (es : ES) (k : Nat) (ms : List O3) : Mem := [.cells true 0 [.slice (some ⟨7, 0, some 0⟩) n 12, .map (some 2), .slice (some ⟨6, 0, some 0⟩) k 12], .gone, .mp true 12 es, .cells true 0 o.cells, .cells true 0 [], .rows true true 12 1 (chop 12 0 o.cells), .rows true true 12 k (opRow ms), .rows true true 12 n (opRow xs)]
def tkNX (o : O3) : Mem := [.gone, .gone, .gone, .cells true 0 o.cells, .cells true 0 [], .rows true true 12 1 (chop 12 0 o.cells), .no, .no]
def tkNH (m : Mem) (k : Nat) (q f i : Int) : St := stOf 68 [(0, .pointer (some ⟨0, 0, none⟩)), (4, .bool false), (7, vI q), (8, vI f), (49, .slice (some ⟨6, 0, some 0⟩) k 12), (50, vI k), (51, vI i)] m
theorem tkNRE (o : O3) (n : Nat) (xs : List O3) (es : ES) (k : Nat) (ms : List O3) (q f i : Int) : roundR ((Ctd Try.prog).into 31 3) 40 (tkX Try.prog) [0, 4, 7, 8, 49, 50, 51] [0, 4, 7, 8] [.fix 0, .fix 1, .fix 2, .fix 3, .fix 4, .fix 5, .cell 0 2, .cellN 0 0 3] [.fix 0, .fix 1, .fix 2, .fix 3, .fix 4, .fix 5, .cell 0 2, .cellN 0 0 3] (tkNH (tkNE o n xs es k ms) k q f i) =
    (match decide (i < (k : Int)) with
    | true => match boundsI i k with
      | true => match boundsI f n with
        | true => match tcT n n k k (opRow xs) (opRow ms) q with
          | true => match (atO ms i).mulE (atO xs f) != 0 with
            | true => some (.ret, stOf 68 [(0, .pointer (some ⟨0, 0, none⟩)), (4, .bool false), (7, vI q), (8, vI f)] (tkNX o))
            | false => match mHas (key ((atO ms i).mulF (atO xs f))) es with
              | true => some (.normal, tkNH (tkNA o n (opsOf n (opRow xs)) es k (opsOf k (opRow ms))) k q f (W (i + 1)))
              | false => match decide ((n : Int) + q > 192) with
                | true => some (.ret, stOf 68 [(0, .pointer (some ⟨0, 0, none⟩)), (4, .bool false), (7, vI q), (8, vI f)] (tkNX o))
                | false => match (cosL ((atO ms i).mulF (atO xs f)) ((opsOf n (opRow xs)).take q.toNat) (opsOf n (opRow xs)) es).1 with
                  | true => some (.normal, tkNH (tkNB o (cosL ((atO ms i).mulF (atO xs f)) ((opsOf n (opRow xs)).take q.toNat) (opsOf n (opRow xs)) es).2.1.length (cosL ((atO ms i).mulF (atO xs f)) ((opsOf n (opRow xs)).take q.toNat) (opsOf n (opRow xs)) es).2.1 (cosL ((atO ms i).mulF (atO xs f)) ((opsOf n (opRow xs)).take q.toNat) (opsOf n (opRow xs)) es).2.2 k (opsOf k (opRow ms))) k q f (W (i + 1)))
                  | false => some (.ret, stOf 68 [(0, .pointer (some ⟨0, 0, none⟩)), (4, .bool false), (7, vI q), (8, vI f)] (tkNX o))
          | false => none
        | false => none
      | false => none
    | false => some (.exit 2, stOf 68 [(0, .pointer (some ⟨0, 0, none⟩)), (4, .bool false), (7, vI q), (8, vI f)] (tkNA o n xs es k ms))) := by kernel_rfl
theorem tkNRA (o : O3) (n : Nat) (xs : List O3) (es : ES) (k : Nat) (ms : List O3) (q f i : Int) : roundR ((Ctd Try.prog).into 31 3) 40 (tkX Try.prog) [0, 4, 7, 8, 49, 50, 51] [0, 4, 7, 8] [.fix 0, .fix 1, .fix 2, .fix 3, .fix 4, .fix 5, .cell 0 2, .cellN 0 0 3] [.fix 0, .fix 1, .fix 2, .fix 3, .fix 4, .fix 5, .cell 0 2, .cellN 0 0 3] (tkNH (tkNA o n xs es k ms) k q f i) =
    (match decide (i < (k : Int)) with
    | true => match boundsI i k with
      | true => match boundsI f n with
        | true => match tcT n n k k (opRow xs) (opRow ms) q with
          | true => match (atO ms i).mulE (atO xs f) != 0 with
            | true => some (.ret, stOf 68 [(0, .pointer (some ⟨0, 0, none⟩)), (4, .bool false), (7, vI q), (8, vI f)] (tkNX o))
            | false => match mHas (key ((atO ms i).mulF (atO xs f))) es with
              | true => some (.normal, tkNH (tkNA o n (opsOf n (opRow xs)) es k (opsOf k (opRow ms))) k q f (W (i + 1)))
              | false => match decide ((n : Int) + q > 192) with
                | true => some (.ret, stOf 68 [(0, .pointer (some ⟨0, 0, none⟩)), (4, .bool false), (7, vI q), (8, vI f)] (tkNX o))
                | false => match (cosL ((atO ms i).mulF (atO xs f)) ((opsOf n (opRow xs)).take q.toNat) (opsOf n (opRow xs)) es).1 with
                  | true => some (.normal, tkNH (tkNB o (cosL ((atO ms i).mulF (atO xs f)) ((opsOf n (opRow xs)).take q.toNat) (opsOf n (opRow xs)) es).2.1.length (cosL ((atO ms i).mulF (atO xs f)) ((opsOf n (opRow xs)).take q.toNat) (opsOf n (opRow xs)) es).2.1 (cosL ((atO ms i).mulF (atO xs f)) ((opsOf n (opRow xs)).take q.toNat) (opsOf n (opRow xs)) es).2.2 k (opsOf k (opRow ms))) k q f (W (i + 1)))
                  | false => some (.ret, stOf 68 [(0, .pointer (some ⟨0, 0, none⟩)), (4, .bool false), (7, vI q), (8, vI f)] (tkNX o))
          | false => none
        | false => none
      | false => none
    | false => some (.exit 2, stOf 68 [(0, .pointer (some ⟨0, 0, none⟩)), (4, .bool false), (7, vI q), (8, vI f)] (tkNA o n xs es k ms))) := by kernel_rfl
theorem tkNRB (o : O3) (n : Nat) (xs : List O3) (es : ES) (k : Nat) (ms : List O3) (q f i : Int) : roundR ((Ctd Try.prog).into 31 3) 40 (tkX Try.prog) [0, 4, 7, 8, 49, 50, 51] [0, 4, 7, 8] [.fix 0, .fix 1, .fix 2, .fix 3, .fix 4, .fix 5, .cell 0 2, .cellN 0 0 3] [.fix 0, .fix 1, .fix 2, .fix 3, .fix 4, .fix 5, .cell 0 2, .cellN 0 0 3] (tkNH (tkNB o n xs es k ms) k q f i) =
    (match decide (i < (k : Int)) with
    | true => match boundsI i k with
      | true => match boundsI f n with
        | true => match tcT n n k k (opRow xs) (opRow ms) q with
          | true => match (atO ms i).mulE (atO xs f) != 0 with
            | true => some (.ret, stOf 68 [(0, .pointer (some ⟨0, 0, none⟩)), (4, .bool false), (7, vI q), (8, vI f)] (tkNX o))
            | false => match mHas (key ((atO ms i).mulF (atO xs f))) es with
              | true => some (.normal, tkNH (tkNB o n (opsOf n (opRow xs)) es k (opsOf k (opRow ms))) k q f (W (i + 1)))
              | false => match decide ((n : Int) + q > 192) with
                | true => some (.ret, stOf 68 [(0, .pointer (some ⟨0, 0, none⟩)), (4, .bool false), (7, vI q), (8, vI f)] (tkNX o))
                | false => match (cosL ((atO ms i).mulF (atO xs f)) ((opsOf n (opRow xs)).take q.toNat) (opsOf n (opRow xs)) es).1 with
                  | true => some (.normal, tkNH (tkNB o (cosL ((atO ms i).mulF (atO xs f)) ((opsOf n (opRow xs)).take q.toNat) (opsOf n (opRow xs)) es).2.1.length (cosL ((atO ms i).mulF (atO xs f)) ((opsOf n (opRow xs)).take q.toNat) (opsOf n (opRow xs)) es).2.1 (cosL ((atO ms i).mulF (atO xs f)) ((opsOf n (opRow xs)).take q.toNat) (opsOf n (opRow xs)) es).2.2 k (opsOf k (opRow ms))) k q f (W (i + 1)))
                  | false => some (.ret, stOf 68 [(0, .pointer (some ⟨0, 0, none⟩)), (4, .bool false), (7, vI q), (8, vI f)] (tkNX o))
          | false => none
        | false => none
      | false => none
    | false => some (.exit 2, stOf 68 [(0, .pointer (some ⟨0, 0, none⟩)), (4, .bool false), (7, vI q), (8, vI f)] (tkNB o n xs es k ms))) := by kernel_rfl


def tkME (o : O3) (n : Nat) (xs : List O3) (es : ES) (k : Nat) (ms : List O3) : Mem := [.cells true 0 [.slice (some ⟨1, 0, some 0⟩) n 12, .map (some 2), .slice (some ⟨7, 0, some 0⟩) k 12], .rows true true 12 n (opRow xs), .mp true 12 es, .gone, .cells true 0 o.cells, .cells true 0 [], .rows true true 12 1 (chop 12 0 o.cells), .rows true true 12 k (opRow ms)]
def tkMA (o : O3) (n : Nat) (xs : List O3) (es : ES) (k : Nat) (ms : List O3) : Mem := [.cells true 0 [.slice (some ⟨1, 0, some 0⟩) n 12, .map (some 2), .slice (some ⟨7, 0, some 0⟩) k 12], .rows true true 12 n (opRow xs), .mp true 12 es, .gone, .cells true 0 o.cells, .cells true 0 [], .rows true true 12 1 (chop 12 0 o.cells), .rows true true 12 k (opRow ms), .no]
def tkMB (o : O3) (n : Nat) (xs : List O3) (es : ES) (k : Nat) (ms : List O3) : Mem := [.cells true 0 [.slice (some ⟨8, 0, some 0⟩) n 12, .map (some 2), .slice (some ⟨7, 0, some 0⟩) k 12], .gone, .mp true 12 es, .gone, .cells true 0 o.cells, .cells true 0 [], .rows true true 12 1 (chop 12 0 o.cells), .rows true true 12 k (opRow ms), .rows true true 12 n (opRow xs)]
def tkMX (o : O3) : Mem := [.gone, .gone, .gone, .gone, .cells true 0 o.cells, .cells true 0 [], .rows true true 12 1 (chop 12 0 o.cells), .no, .no]
def tkMH (m : Mem) (k : Nat) (q f i : Int) : St := stOf 68 [(0, .pointer (some ⟨0, 0, none⟩)), (4, .bool false), (7, vI q), (8, vI f), (49, .slice (some ⟨7, 0, some 0⟩) k 12), (50, vI k), (51, vI i)] m
theorem tkMRE (o : O3) (n : Nat) (xs : List O3) (es : ES) (k : Nat) (ms : List O3) (q f i : Int) : roundR ((Ctd Try.prog).into 31 4) 40 (tkX Try.prog) [0, 4, 7, 8, 49, 50, 51] [0, 4, 7, 8] [.fix 0, .fix 1, .fix 2, .fix 3, .fix 4, .fix 5, .fix 6, .cell 0 2, .cellN 0 0 4] [.fix 0, .fix 1, .fix 2, .fix 3, .fix 4, .fix 5, .fix 6, .cell 0 2, .cellN 0 0 4] (tkMH (tkME o n xs es k ms) k q f i) =
    (match decide (i < (k : Int)) with
    | true => match boundsI i k with
      | true => match boundsI f n with
        | true => match tcT n n k k (opRow xs) (opRow ms) q with
          | true => match (atO ms i).mulE (atO xs f) != 0 with
            | true => some (.ret, stOf 68 [(0, .pointer (some ⟨0, 0, none⟩)), (4, .bool false), (7, vI q), (8, vI f)] (tkMX o))
            | false => match mHas (key ((atO ms i).mulF (atO xs f))) es with
              | true => some (.normal, tkMH (tkMA o n (opsOf n (opRow xs)) es k (opsOf k (opRow ms))) k q f (W (i + 1)))
              | false => match decide ((n : Int) + q > 192) with
                | true => some (.ret, stOf 68 [(0, .pointer (some ⟨0, 0, none⟩)), (4, .bool false), (7, vI q), (8, vI f)] (tkMX o))
                | false => match (cosL ((atO ms i).mulF (atO xs f)) ((opsOf n (opRow xs)).take q.toNat) (opsOf n (opRow xs)) es).1 with
                  | true => some (.normal, tkMH (tkMB o (cosL ((atO ms i).mulF (atO xs f)) ((opsOf n (opRow xs)).take q.toNat) (opsOf n (opRow xs)) es).2.1.length (cosL ((atO ms i).mulF (atO xs f)) ((opsOf n (opRow xs)).take q.toNat) (opsOf n (opRow xs)) es).2.1 (cosL ((atO ms i).mulF (atO xs f)) ((opsOf n (opRow xs)).take q.toNat) (opsOf n (opRow xs)) es).2.2 k (opsOf k (opRow ms))) k q f (W (i + 1)))
                  | false => some (.ret, stOf 68 [(0, .pointer (some ⟨0, 0, none⟩)), (4, .bool false), (7, vI q), (8, vI f)] (tkMX o))
          | false => none
        | false => none
      | false => none
    | false => some (.exit 2, stOf 68 [(0, .pointer (some ⟨0, 0, none⟩)), (4, .bool false), (7, vI q), (8, vI f)] (tkMA o n xs es k ms))) := by kernel_rfl
theorem tkMRA (o : O3) (n : Nat) (xs : List O3) (es : ES) (k : Nat) (ms : List O3) (q f i : Int) : roundR ((Ctd Try.prog).into 31 4) 40 (tkX Try.prog) [0, 4, 7, 8, 49, 50, 51] [0, 4, 7, 8] [.fix 0, .fix 1, .fix 2, .fix 3, .fix 4, .fix 5, .fix 6, .cell 0 2, .cellN 0 0 4] [.fix 0, .fix 1, .fix 2, .fix 3, .fix 4, .fix 5, .fix 6, .cell 0 2, .cellN 0 0 4] (tkMH (tkMA o n xs es k ms) k q f i) =
    (match decide (i < (k : Int)) with
    | true => match boundsI i k with
      | true => match boundsI f n with
        | true => match tcT n n k k (opRow xs) (opRow ms) q with
          | true => match (atO ms i).mulE (atO xs f) != 0 with
            | true => some (.ret, stOf 68 [(0, .pointer (some ⟨0, 0, none⟩)), (4, .bool false), (7, vI q), (8, vI f)] (tkMX o))
            | false => match mHas (key ((atO ms i).mulF (atO xs f))) es with
              | true => some (.normal, tkMH (tkMA o n (opsOf n (opRow xs)) es k (opsOf k (opRow ms))) k q f (W (i + 1)))
              | false => match decide ((n : Int) + q > 192) with
                | true => some (.ret, stOf 68 [(0, .pointer (some ⟨0, 0, none⟩)), (4, .bool false), (7, vI q), (8, vI f)] (tkMX o))
                | false => match (cosL ((atO ms i).mulF (atO xs f)) ((opsOf n (opRow xs)).take q.toNat) (opsOf n (opRow xs)) es).1 with
                  | true => some (.normal, tkMH (tkMB o (cosL ((atO ms i).mulF (atO xs f)) ((opsOf n (opRow xs)).take q.toNat) (opsOf n (opRow xs)) es).2.1.length (cosL ((atO ms i).mulF (atO xs f)) ((opsOf n (opRow xs)).take q.toNat) (opsOf n (opRow xs)) es).2.1 (cosL ((atO ms i).mulF (atO xs f)) ((opsOf n (opRow xs)).take q.toNat) (opsOf n (opRow xs)) es).2.2 k (opsOf k (opRow ms))) k q f (W (i + 1)))
                  | false => some (.ret, stOf 68 [(0, .pointer (some ⟨0, 0, none⟩)), (4, .bool false), (7, vI q), (8, vI f)] (tkMX o))
          | false => none
        | false => none
      | false => none
    | false => some (.exit 2, stOf 68 [(0, .pointer (some ⟨0, 0, none⟩)), (4, .bool false), (7, vI q), (8, vI f)] (tkMA o n xs es k ms))) := by kernel_rfl
theorem tkMRB (o : O3) (n : Nat) (xs : List O3) (es : ES) (k : Nat) (ms : List O3) (q f i : Int) : roundR ((Ctd Try.prog).into 31 4) 40 (tkX Try.prog) [0, 4, 7, 8, 49, 50, 51] [0, 4, 7, 8] [.fix 0, .fix 1, .fix 2, .fix 3, .fix 4, .fix 5, .fix 6, .cell 0 2, .cellN 0 0 4] [.fix 0, .fix 1, .fix 2, .fix 3, .fix 4, .fix 5, .fix 6, .cell 0 2, .cellN 0 0 4] (tkMH (tkMB o n xs es k ms) k q f i) =
    (match decide (i < (k : Int)) with
    | true => match boundsI i k with
      | true => match boundsI f n with
        | true => match tcT n n k k (opRow xs) (opRow ms) q with
          | true => match (atO ms i).mulE (atO xs f) != 0 with
            | true => some (.ret, stOf 68 [(0, .pointer (some ⟨0, 0, none⟩)), (4, .bool false), (7, vI q), (8, vI f)] (tkMX o))
            | false => match mHas (key ((atO ms i).mulF (atO xs f))) es with
              | true => some (.normal, tkMH (tkMB o n (opsOf n (opRow xs)) es k (opsOf k (opRow ms))) k q f (W (i + 1)))
              | false => match decide ((n : Int) + q > 192) with
                | true => some (.ret, stOf 68 [(0, .pointer (some ⟨0, 0, none⟩)), (4, .bool false), (7, vI q), (8, vI f)] (tkMX o))
                | false => match (cosL ((atO ms i).mulF (atO xs f)) ((opsOf n (opRow xs)).take q.toNat) (opsOf n (opRow xs)) es).1 with
                  | true => some (.normal, tkMH (tkMB o (cosL ((atO ms i).mulF (atO xs f)) ((opsOf n (opRow xs)).take q.toNat) (opsOf n (opRow xs)) es).2.1.length (cosL ((atO ms i).mulF (atO xs f)) ((opsOf n (opRow xs)).take q.toNat) (opsOf n (opRow xs)) es).2.1 (cosL ((atO ms i).mulF (atO xs f)) ((opsOf n (opRow xs)).take q.toNat) (opsOf n (opRow xs)) es).2.2 k (opsOf k (opRow ms))) k q f (W (i + 1)))
                  | false => some (.ret, stOf 68 [(0, .pointer (some ⟨0, 0, none⟩)), (4, .bool false), (7, vI q), (8, vI f)] (tkMX o))
          | false => none
        | false => none
      | false => none
    | false => some (.exit 2, stOf 68 [(0, .pointer (some ⟨0, 0, none⟩)), (4, .bool false), (7, vI q), (8, vI f)] (tkMB o n xs es k ms))) := by kernel_rfl

end Go.Proofs.Ytcefeamjnnkahaa


namespace Go.Proofs.Ytcefeamjnnkahaa
open Go Vx
inductive Sh where
  | e | a | b
def Sh.next : Sh → Sh
  | .b => .b
  | _ => .a
/-- Have the maps moved? -/
def Sh.ok (sh : Sh) (n0 n : Nat) : Prop := match sh with
  | .b => n0 < n
  | _ => n = n0
def shOf (n0 : Nat) (xs : List O3) : Sh := match Nat.blt n0 xs.length with
  | true => .b
  | false => .a
theorem shOf_ok {sh : Sh} {n0 n : Nat} {xs : List O3} (hx : xs.length = n) (h : n0 ≤ n ∧ sh.ok n0 n) : shOf n0 xs = sh.next := by
  unfold shOf
  rw [hx]
  cases sh with
  | b => rw [show Nat.blt n0 n = true by rw [Nat.blt_eq]; exact h.2]; rfl
  | e => have := h.2; simp only [Sh.ok] at this; subst this; rw [blt_ff (Nat.lt_irrefl _)]; rfl
  | a => have := h.2; simp only [Sh.ok] at this; subst this; rw [blt_ff (Nat.lt_irrefl _)]; rfl
/-- The coset of m behind b, unless it is there. -/
def tcStep (m b : O3) (q : Int) (xs : List O3) (es : ES) : Option (List O3 × ES) := match m.mulE b != 0 with
  | true => none
  | false => match mHas (key (m.mulF b)) es with
    | true => some (xs, es)
    | false => match decide ((xs.length : Int) + q > 192) with
      | true => none
      | false => match (cosL (m.mulF b) (xs.take q.toNat) xs es).1 with
        | true => some (cosL (m.mulF b) (xs.take q.toNat) xs es).2
        | false => none
/-- The cosets of each maker behind a map. -/
def mkL (f q : Int) : List O3 → List O3 → ES → Option (List O3 × ES)
  | [], xs, es => some (xs, es)
  | m :: l, xs, es => match tcStep m (atO xs f) q xs es with
    | some r => mkL f q l r.1 r.2
    | none => none
structure tkG where
  (sh : Sh) (o : O3) (n0 n : Nat) (xs : List O3) (es : ES) (k : Nat) (ms : List O3) (q f i : Int)
def tkRes (g : tkG) : Option (List O3 × ES) := mkL g.f g.q (g.ms.drop g.i.toNat) g.xs g.es
def tkInv (g : tkG) : Prop := g.xs.length = g.n ∧ g.ms.length = g.k ∧ 0 < g.q ∧ g.q ≤ (g.n : Int) ∧ g.n ≤ 192 ∧ 0 ≤ g.f ∧ g.f < (g.n : Int) ∧ 0 ≤ g.i ∧ g.k ≤ 1000 ∧ g.i ≤ (g.k : Int) ∧ g.n0 ≤ g.n ∧ g.sh.ok g.n0 g.n
theorem tcT_ok {n k : Nat} {xs ms : List O3} {q : Int} (h3 : 0 < q) (h4 : q ≤ (n : Int)) (h5 : n ≤ 192) : tcT n n k k (opRow xs) (opRow ms) q = true := by
  unfold tcT
  rw [Nat.beq_refl, Nat.beq_refl, okOps_opRow, okOps_opRow]
  simp [h3, h4, h5]

def tkNM (sh : Sh) (o : O3) (n : Nat) (xs : List O3) (es : ES) (k : Nat) (ms : List O3) : Mem := match sh with
  | .e => tkNE o n xs es k ms
  | .a => tkNA o n xs es k ms
  | .b => tkNB o n xs es k ms
def tkNHg (g : tkG) : St := tkNH (tkNM g.sh g.o g.n g.xs g.es g.k g.ms) g.k g.q g.f g.i
/-- What a round comes to. -/
theorem tkNRd (sh : Sh) (o : O3) (n : Nat) (xs : List O3) (es : ES) (k : Nat) (ms : List O3) (q f i : Int) (hx : xs.length = n) (hm : ms.length = k) : roundR ((Ctd Try.prog).into 31 3) 40 (tkX Try.prog) [0, 4, 7, 8, 49, 50, 51] [0, 4, 7, 8] [.fix 0, .fix 1, .fix 2, .fix 3, .fix 4, .fix 5, .cell 0 2, .cellN 0 0 3] [.fix 0, .fix 1, .fix 2, .fix 3, .fix 4, .fix 5, .cell 0 2, .cellN 0 0 3] (tkNH (tkNM sh o n xs es k ms) k q f i) =
    (match decide (i < (k : Int)) with
    | true => match boundsI i k with
      | true => match boundsI f n with
        | true => match tcT n n k k (opRow xs) (opRow ms) q with
          | true => match (atO ms i).mulE (atO xs f) != 0 with
            | true => some (.ret, stOf 68 [(0, .pointer (some ⟨0, 0, none⟩)), (4, .bool false), (7, vI q), (8, vI f)] (tkNX o))
            | false => match mHas (key ((atO ms i).mulF (atO xs f))) es with
              | true => some (.normal, tkNH (tkNM sh.next o n xs es k ms) k q f (W (i + 1)))
              | false => match decide ((n : Int) + q > 192) with
                | true => some (.ret, stOf 68 [(0, .pointer (some ⟨0, 0, none⟩)), (4, .bool false), (7, vI q), (8, vI f)] (tkNX o))
                | false => match (cosL ((atO ms i).mulF (atO xs f)) (xs.take q.toNat) xs es).1 with
                  | true => some (.normal, tkNH (tkNM .b o (cosL ((atO ms i).mulF (atO xs f)) (xs.take q.toNat) xs es).2.1.length (cosL ((atO ms i).mulF (atO xs f)) (xs.take q.toNat) xs es).2.1 (cosL ((atO ms i).mulF (atO xs f)) (xs.take q.toNat) xs es).2.2 k ms) k q f (W (i + 1)))
                  | false => some (.ret, stOf 68 [(0, .pointer (some ⟨0, 0, none⟩)), (4, .bool false), (7, vI q), (8, vI f)] (tkNX o))
          | false => none
        | false => none
      | false => none
    | false => some (.exit 2, stOf 68 [(0, .pointer (some ⟨0, 0, none⟩)), (4, .bool false), (7, vI q), (8, vI f)] (tkNM sh.next o n xs es k ms))) := by
  cases sh with
  | e => have := tkNRE o n xs es k ms q f i; rw [opsOf_row hx, opsOf_row hm] at this; exact this
  | a => have := tkNRA o n xs es k ms q f i; rw [opsOf_row hx, opsOf_row hm] at this; exact this
  | b => have := tkNRB o n xs es k ms q f i; rw [opsOf_row hx, opsOf_row hm] at this; exact this
def tkNO (g : tkG) : Exit × St := match tkRes g with
  | some r => (.exit 2, stOf 68 [(0, .pointer (some ⟨0, 0, none⟩)), (4, .bool false), (7, vI g.q), (8, vI g.f)] (tkNM (shOf g.n0 r.1) g.o r.1.length r.1 r.2 g.k g.ms))
  | none => (.ret, stOf 68 [(0, .pointer (some ⟨0, 0, none⟩)), (4, .bool false), (7, vI g.q), (8, vI g.f)] (tkNX g.o))
theorem tkNL (g : tkG) (hg : tkInv g) : LoopSem Try.prog 3 (tkX Try.prog) (tkNHg g) (tkNO g).1 (tkNO g).2 := by
  refine loop_rule2 (C := Ctd Try.prog) oktd (f := 31) (B := 3) (loopsOf_in (k := 10) tkX_eq) 40 [0, 4, 7, 8, 49, 50, 51] [0, 4, 7, 8] [.fix 0, .fix 1, .fix 2, .fix 3, .fix 4, .fix 5, .cell 0 2, .cellN 0 0 3] [.fix 0, .fix 1, .fix 2, .fix 3, .fix 4, .fix 5, .cell 0 2, .cellN 0 0 3] tkNHg (fun g => (g.k - g.i).toNat) tkInv tkNO ?_ g hg
  clear hg g
  rintro ⟨sh, o, n0, n, xs, es, k, ms, q, f, i⟩ hg
  unfold tkInv at hg
  simp only at hg
  obtain ⟨h1, h2, h3, h4, h5, h6, h7, h8, h9, h10, h11⟩ := hg
  have hR := tkNRd sh o n xs es k ms q f i h1 h2
  by_cases hi : i < (k : Int)
  · have hd : decide (i < (k : Int)) = true := by simpa using hi
    have hb : boundsI i k = true := by simp [boundsI, h8, hi]
    have hbf : boundsI f n = true := by simp [boundsI, h6, h7]
    have hw : W (i + 1) = i + 1 := W_in (by omega)
    have ht : tcT n n k k (opRow xs) (opRow ms) q = true := tcT_ok h3 h4 h5
    have hdr := drop_at (xs := ms) h8 (by omega)
    rw [hd, hb, hbf, ht, hw] at hR
    cases he : (atO ms i).mulE (atO xs f) != 0 with
    | true =>
      right
      have hres : tkRes ⟨sh, o, n0, n, xs, es, k, ms, q, f, i⟩ = none := by unfold tkRes; simp only [hdr, mkL, tcStep, he]
      rw [he] at hR
      exact ⟨stOf 68 [(0, .pointer (some ⟨0, 0, none⟩)), (4, .bool false), (7, vI q), (8, vI f)] (tkNX o), by unfold tkNHg tkNO; simp only [hres]; exact hR, by unfold tkNO; simp only [hres]; exact StLike.refl _, by unfold tkNO; simp [hres]⟩
    | false =>
      rw [he] at hR
      cases hh : mHas (key ((atO ms i).mulF (atO xs f))) es with
      | true =>
        left
        simp only [hh] at hR
        refine ⟨⟨sh.next, o, n0, n, xs, es, k, ms, q, f, i + 1⟩, _, hR, StLike.refl _, ?_, by simp only; omega, ?_⟩
        · unfold tkInv
          simp only
          exact ⟨h1, h2, h3, h4, h5, h6, h7, by omega, h9, by omega, by cases sh <;> simpa [Sh.next, Sh.ok] using h11⟩
        · have hres : tkRes ⟨sh.next, o, n0, n, xs, es, k, ms, q, f, i + 1⟩ = tkRes ⟨sh, o, n0, n, xs, es, k, ms, q, f, i⟩ := by unfold tkRes; simp only [hdr, mkL, tcStep, he, hh]
          unfold tkNO
          simp only [hres]
      | false =>
        simp only [hh] at hR
        by_cases hbig : (n : Int) + q > 192
        · right
          have hdb : decide ((n : Int) + q > 192) = true := by simpa using hbig
          have hres : tkRes ⟨sh, o, n0, n, xs, es, k, ms, q, f, i⟩ = none := by unfold tkRes; simp only [hdr, mkL, tcStep, he, hh, h1, hdb]
          simp only [hdb] at hR
          exact ⟨stOf 68 [(0, .pointer (some ⟨0, 0, none⟩)), (4, .bool false), (7, vI q), (8, vI f)] (tkNX o), by unfold tkNHg tkNO; simp only [hres]; exact hR, by unfold tkNO; simp only [hres]; exact StLike.refl _, by unfold tkNO; simp [hres]⟩
        · have hdb : decide ((n : Int) + q > 192) = false := by simpa using hbig
          simp only [hdb] at hR
          cases hc : (cosL ((atO ms i).mulF (atO xs f)) (xs.take q.toNat) xs es).1 with
          | false =>
            right
            have hres : tkRes ⟨sh, o, n0, n, xs, es, k, ms, q, f, i⟩ = none := by unfold tkRes; simp only [hdr, mkL, tcStep, he, hh, h1, hdb, hc]
            simp only [hc] at hR
            exact ⟨stOf 68 [(0, .pointer (some ⟨0, 0, none⟩)), (4, .bool false), (7, vI q), (8, vI f)] (tkNX o), by unfold tkNHg tkNO; simp only [hres]; exact hR, by unfold tkNO; simp only [hres]; exact StLike.refl _, by unfold tkNO; simp [hres]⟩
          | true =>
            left
            simp only [hc] at hR
            have hl := cosL_true _ _ _ _ hc
            have hl' : (cosL ((atO ms i).mulF (atO xs f)) (xs.take q.toNat) xs es).2.1.length = n + q.toNat := by rw [hl, h1]; simp; omega
            refine ⟨⟨.b, o, n0, (cosL ((atO ms i).mulF (atO xs f)) (xs.take q.toNat) xs es).2.1.length, (cosL ((atO ms i).mulF (atO xs f)) (xs.take q.toNat) xs es).2.1, (cosL ((atO ms i).mulF (atO xs f)) (xs.take q.toNat) xs es).2.2, k, ms, q, f, i + 1⟩, _, hR, StLike.refl _, ?_, by simp only; omega, ?_⟩
            · unfold tkInv
              simp only
              have hsh : n0 ≤ n := h11.1
              exact ⟨trivial, h2, h3, by omega, by omega, h6, by omega, by omega, h9, by omega, by omega, by simp only [Sh.ok]; omega⟩
            · have hres : tkRes ⟨.b, o, n0, (cosL ((atO ms i).mulF (atO xs f)) (xs.take q.toNat) xs es).2.1.length, (cosL ((atO ms i).mulF (atO xs f)) (xs.take q.toNat) xs es).2.1, (cosL ((atO ms i).mulF (atO xs f)) (xs.take q.toNat) xs es).2.2, k, ms, q, f, i + 1⟩ = tkRes ⟨sh, o, n0, n, xs, es, k, ms, q, f, i⟩ := by unfold tkRes; simp only [hdr, mkL, tcStep, he, hh, h1, hdb, hc]
              unfold tkNO
              simp only [hres]
  · have hd : decide (i < (k : Int)) = false := by simpa using hi
    rw [hd] at hR
    right
    have hn : ms.drop i.toNat = [] := List.drop_eq_nil_of_le (by omega)
    have hres : tkRes ⟨sh, o, n0, n, xs, es, k, ms, q, f, i⟩ = some (xs, es) := by unfold tkRes; simp only [hn, mkL]
    have hsh : shOf n0 xs = sh.next := shOf_ok h1 h11
    exact ⟨stOf 68 [(0, .pointer (some ⟨0, 0, none⟩)), (4, .bool false), (7, vI q), (8, vI f)] (tkNM sh.next o n xs es k ms), by unfold tkNHg tkNO; simp only [hres]; exact hR, by unfold tkNO; simp only [hres, h1, hsh]; exact StLike.refl _, by unfold tkNO; simp [hres]⟩


def tkMM (sh : Sh) (o : O3) (n : Nat) (xs : List O3) (es : ES) (k : Nat) (ms : List O3) : Mem := match sh with
  | .e => tkME o n xs es k ms
  | .a => tkMA o n xs es k ms
  | .b => tkMB o n xs es k ms
def tkMHg (g : tkG) : St := tkMH (tkMM g.sh g.o g.n g.xs g.es g.k g.ms) g.k g.q g.f g.i
/-- What a round comes to. -/
theorem tkMRd (sh : Sh) (o : O3) (n : Nat) (xs : List O3) (es : ES) (k : Nat) (ms : List O3) (q f i : Int) (hx : xs.length = n) (hm : ms.length = k) : roundR ((Ctd Try.prog).into 31 4) 40 (tkX Try.prog) [0, 4, 7, 8, 49, 50, 51] [0, 4, 7, 8] [.fix 0, .fix 1, .fix 2, .fix 3, .fix 4, .fix 5, .fix 6, .cell 0 2, .cellN 0 0 4] [.fix 0, .fix 1, .fix 2, .fix 3, .fix 4, .fix 5, .fix 6, .cell 0 2, .cellN 0 0 4] (tkMH (tkMM sh o n xs es k ms) k q f i) =
    (match decide (i < (k : Int)) with
    | true => match boundsI i k with
      | true => match boundsI f n with
        | true => match tcT n n k k (opRow xs) (opRow ms) q with
          | true => match (atO ms i).mulE (atO xs f) != 0 with
            | true => some (.ret, stOf 68 [(0, .pointer (some ⟨0, 0, none⟩)), (4, .bool false), (7, vI q), (8, vI f)] (tkMX o))
            | false => match mHas (key ((atO ms i).mulF (atO xs f))) es with
              | true => some (.normal, tkMH (tkMM sh.next o n xs es k ms) k q f (W (i + 1)))
              | false => match decide ((n : Int) + q > 192) with
                | true => some (.ret, stOf 68 [(0, .pointer (some ⟨0, 0, none⟩)), (4, .bool false), (7, vI q), (8, vI f)] (tkMX o))
                | false => match (cosL ((atO ms i).mulF (atO xs f)) (xs.take q.toNat) xs es).1 with
                  | true => some (.normal, tkMH (tkMM .b o (cosL ((atO ms i).mulF (atO xs f)) (xs.take q.toNat) xs es).2.1.length (cosL ((atO ms i).mulF (atO xs f)) (xs.take q.toNat) xs es).2.1 (cosL ((atO ms i).mulF (atO xs f)) (xs.take q.toNat) xs es).2.2 k ms) k q f (W (i + 1)))
                  | false => some (.ret, stOf 68 [(0, .pointer (some ⟨0, 0, none⟩)), (4, .bool false), (7, vI q), (8, vI f)] (tkMX o))
          | false => none
        | false => none
      | false => none
    | false => some (.exit 2, stOf 68 [(0, .pointer (some ⟨0, 0, none⟩)), (4, .bool false), (7, vI q), (8, vI f)] (tkMM sh.next o n xs es k ms))) := by
  cases sh with
  | e => have := tkMRE o n xs es k ms q f i; rw [opsOf_row hx, opsOf_row hm] at this; exact this
  | a => have := tkMRA o n xs es k ms q f i; rw [opsOf_row hx, opsOf_row hm] at this; exact this
  | b => have := tkMRB o n xs es k ms q f i; rw [opsOf_row hx, opsOf_row hm] at this; exact this
def tkMO (g : tkG) : Exit × St := match tkRes g with
  | some r => (.exit 2, stOf 68 [(0, .pointer (some ⟨0, 0, none⟩)), (4, .bool false), (7, vI g.q), (8, vI g.f)] (tkMM (shOf g.n0 r.1) g.o r.1.length r.1 r.2 g.k g.ms))
  | none => (.ret, stOf 68 [(0, .pointer (some ⟨0, 0, none⟩)), (4, .bool false), (7, vI g.q), (8, vI g.f)] (tkMX g.o))
theorem tkML (g : tkG) (hg : tkInv g) : LoopSem Try.prog 4 (tkX Try.prog) (tkMHg g) (tkMO g).1 (tkMO g).2 := by
  refine loop_rule2 (C := Ctd Try.prog) oktd (f := 31) (B := 4) (loopsOf_in (k := 10) tkX_eq) 40 [0, 4, 7, 8, 49, 50, 51] [0, 4, 7, 8] [.fix 0, .fix 1, .fix 2, .fix 3, .fix 4, .fix 5, .fix 6, .cell 0 2, .cellN 0 0 4] [.fix 0, .fix 1, .fix 2, .fix 3, .fix 4, .fix 5, .fix 6, .cell 0 2, .cellN 0 0 4] tkMHg (fun g => (g.k - g.i).toNat) tkInv tkMO ?_ g hg
  clear hg g
  rintro ⟨sh, o, n0, n, xs, es, k, ms, q, f, i⟩ hg
  unfold tkInv at hg
  simp only at hg
  obtain ⟨h1, h2, h3, h4, h5, h6, h7, h8, h9, h10, h11⟩ := hg
  have hR := tkMRd sh o n xs es k ms q f i h1 h2
  by_cases hi : i < (k : Int)
  · have hd : decide (i < (k : Int)) = true := by simpa using hi
    have hb : boundsI i k = true := by simp [boundsI, h8, hi]
    have hbf : boundsI f n = true := by simp [boundsI, h6, h7]
    have hw : W (i + 1) = i + 1 := W_in (by omega)
    have ht : tcT n n k k (opRow xs) (opRow ms) q = true := tcT_ok h3 h4 h5
    have hdr := drop_at (xs := ms) h8 (by omega)
    rw [hd, hb, hbf, ht, hw] at hR
    cases he : (atO ms i).mulE (atO xs f) != 0 with
    | true =>
      right
      have hres : tkRes ⟨sh, o, n0, n, xs, es, k, ms, q, f, i⟩ = none := by unfold tkRes; simp only [hdr, mkL, tcStep, he]
      rw [he] at hR
      exact ⟨stOf 68 [(0, .pointer (some ⟨0, 0, none⟩)), (4, .bool false), (7, vI q), (8, vI f)] (tkMX o), by unfold tkMHg tkMO; simp only [hres]; exact hR, by unfold tkMO; simp only [hres]; exact StLike.refl _, by unfold tkMO; simp [hres]⟩
    | false =>
      rw [he] at hR
      cases hh : mHas (key ((atO ms i).mulF (atO xs f))) es with
      | true =>
        left
        simp only [hh] at hR
        refine ⟨⟨sh.next, o, n0, n, xs, es, k, ms, q, f, i + 1⟩, _, hR, StLike.refl _, ?_, by simp only; omega, ?_⟩
        · unfold tkInv
          simp only
          exact ⟨h1, h2, h3, h4, h5, h6, h7, by omega, h9, by omega, by cases sh <;> simpa [Sh.next, Sh.ok] using h11⟩
        · have hres : tkRes ⟨sh.next, o, n0, n, xs, es, k, ms, q, f, i + 1⟩ = tkRes ⟨sh, o, n0, n, xs, es, k, ms, q, f, i⟩ := by unfold tkRes; simp only [hdr, mkL, tcStep, he, hh]
          unfold tkMO
          simp only [hres]
      | false =>
        simp only [hh] at hR
        by_cases hbig : (n : Int) + q > 192
        · right
          have hdb : decide ((n : Int) + q > 192) = true := by simpa using hbig
          have hres : tkRes ⟨sh, o, n0, n, xs, es, k, ms, q, f, i⟩ = none := by unfold tkRes; simp only [hdr, mkL, tcStep, he, hh, h1, hdb]
          simp only [hdb] at hR
          exact ⟨stOf 68 [(0, .pointer (some ⟨0, 0, none⟩)), (4, .bool false), (7, vI q), (8, vI f)] (tkMX o), by unfold tkMHg tkMO; simp only [hres]; exact hR, by unfold tkMO; simp only [hres]; exact StLike.refl _, by unfold tkMO; simp [hres]⟩
        · have hdb : decide ((n : Int) + q > 192) = false := by simpa using hbig
          simp only [hdb] at hR
          cases hc : (cosL ((atO ms i).mulF (atO xs f)) (xs.take q.toNat) xs es).1 with
          | false =>
            right
            have hres : tkRes ⟨sh, o, n0, n, xs, es, k, ms, q, f, i⟩ = none := by unfold tkRes; simp only [hdr, mkL, tcStep, he, hh, h1, hdb, hc]
            simp only [hc] at hR
            exact ⟨stOf 68 [(0, .pointer (some ⟨0, 0, none⟩)), (4, .bool false), (7, vI q), (8, vI f)] (tkMX o), by unfold tkMHg tkMO; simp only [hres]; exact hR, by unfold tkMO; simp only [hres]; exact StLike.refl _, by unfold tkMO; simp [hres]⟩
          | true =>
            left
            simp only [hc] at hR
            have hl := cosL_true _ _ _ _ hc
            have hl' : (cosL ((atO ms i).mulF (atO xs f)) (xs.take q.toNat) xs es).2.1.length = n + q.toNat := by rw [hl, h1]; simp; omega
            refine ⟨⟨.b, o, n0, (cosL ((atO ms i).mulF (atO xs f)) (xs.take q.toNat) xs es).2.1.length, (cosL ((atO ms i).mulF (atO xs f)) (xs.take q.toNat) xs es).2.1, (cosL ((atO ms i).mulF (atO xs f)) (xs.take q.toNat) xs es).2.2, k, ms, q, f, i + 1⟩, _, hR, StLike.refl _, ?_, by simp only; omega, ?_⟩
            · unfold tkInv
              simp only
              have hsh : n0 ≤ n := h11.1
              exact ⟨trivial, h2, h3, by omega, by omega, h6, by omega, by omega, h9, by omega, by omega, by simp only [Sh.ok]; omega⟩
            · have hres : tkRes ⟨.b, o, n0, (cosL ((atO ms i).mulF (atO xs f)) (xs.take q.toNat) xs es).2.1.length, (cosL ((atO ms i).mulF (atO xs f)) (xs.take q.toNat) xs es).2.1, (cosL ((atO ms i).mulF (atO xs f)) (xs.take q.toNat) xs es).2.2, k, ms, q, f, i + 1⟩ = tkRes ⟨sh, o, n0, n, xs, es, k, ms, q, f, i⟩ := by unfold tkRes; simp only [hdr, mkL, tcStep, he, hh, h1, hdb, hc]
              unfold tkMO
              simp only [hres]
  · have hd : decide (i < (k : Int)) = false := by simpa using hi
    rw [hd] at hR
    right
    have hn : ms.drop i.toNat = [] := List.drop_eq_nil_of_le (by omega)
    have hres : tkRes ⟨sh, o, n0, n, xs, es, k, ms, q, f, i⟩ = some (xs, es) := by unfold tkRes; simp only [hn, mkL]
    have hsh : shOf n0 xs = sh.next := shOf_ok h1 h11
    exact ⟨stOf 68 [(0, .pointer (some ⟨0, 0, none⟩)), (4, .bool false), (7, vI q), (8, vI f)] (tkMM sh.next o n xs es k ms), by unfold tkMHg tkMO; simp only [hres]; exact hR, by unfold tkMO; simp only [hres, h1, hsh]; exact StLike.refl _, by unfold tkMO; simp [hres]⟩

end Go.Proofs.Ytcefeamjnnkahaa
