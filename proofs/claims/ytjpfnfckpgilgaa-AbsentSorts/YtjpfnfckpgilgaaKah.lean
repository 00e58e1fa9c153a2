/-
  group's takeCoset: what it is told by. Nothing here is trusted.
-/
import Derived.Test.YtjpfnfckpgilgaaKag

namespace Go.Proofs.Ytjpfnfckpgilgaa
open Go Vx
theorem cosL_true (f : O3) : ∀ (l xs : List O3) (es : ES), (cosL f l xs es).1 = true → (cosL f l xs es).2.1.length = xs.length + l.length
  | [], xs, es, _ => rfl
  | a :: l, xs, es, h => by
    simp only [cosL] at h ⊢
    cases he : f.mulE a != 0 with
    | true => rw [he] at h; cases h
    | false =>
      rw [he] at h
      rw [cosL_true f l _ _ h]
      simp; omega
/-- What is told of a call, put together. -/
theorem tcSem (m b : O3) (q : Int) (n : Nat) (xs : List O3) (es : ES) (k : Nat) (ms : List O3) (hx : xs.length = n) (hm : ms.length = k) (h0 : 0 < q) (h1 : q ≤ (n : Int)) (h2 : n ≤ 192) {v : Value} {m' : Mem}
    (h : Ans.res (.br (m.mulE b != 0) (.out (.bool false, goneAll 4)) (.br (mHas (key (m.mulF b)) es) (.out (.bool true, tcM0 n (xs) es k (ms))) (.br (decide ((n : Int) + q > 192)) (.out (.bool false, goneAll 4)) (.br (cosL (m.mulF b) ((xs).take q.toNat) (xs) es).1 (.out (.bool true, tcM1 (cosL (m.mulF b) ((xs).take q.toNat) (xs) es).2.1.length (cosL (m.mulF b) ((xs).take q.toNat) (xs) es).2.1 (cosL (m.mulF b) ((xs).take q.toNat) (xs) es).2.2 k (ms))) (.out (.bool false, goneAll 4)))))) = some (v, m')) : MemSem Try.prog 114 [.pointer (some ⟨0, 0, none⟩), m.v, b.v, vI q] (spanM n xs es k ms) v m' := by
  have hE := tcF1 m b q n xs es k ms
  have sem : ∀ {v : Value} {m' : Mem}, exT ((Ctc Try.prog).at 114) 60 Try.f114 [.pointer (some ⟨0, 0, none⟩), m.v, b.v, vI q] (spanM n xs es k ms) [.fix 0, .fix 1, .fix 2, .fix 3, .cellN 0 0 4] = some (v, m') → MemSem Try.prog 114 [.pointer (some ⟨0, 0, none⟩), m.v, b.v, vI q] (spanM n xs es k ms) v m' := fun hh => exT_ok oktc Try.func114 (by kernel_rfl) hh
  have hlen : (spanM n xs es k ms).length = 4 := rfl
  rcases Ans.br_some h with ⟨hq, h⟩ | ⟨hq, h⟩
  · rw [hq] at hE
    simp only [Ans.res, Option.some.injEq, Prod.mk.injEq] at h
    obtain ⟨rfl, rfl⟩ := h
    exact (sem hE).forget rfl
  · rw [hq] at hE
    rcases Ans.br_some h with ⟨hq, h⟩ | ⟨hq, h⟩
    · simp only [hq] at hE
      simp only [Ans.res, Option.some.injEq, Prod.mk.injEq] at h
      obtain ⟨rfl, rfl⟩ := h
      exact sem hE
    · simp only [hq] at hE
      have hw : W ((n : Int) + q) = (n : Int) + q := W_in (by omega)
      rw [hw] at hE
      rcases Ans.br_some h with ⟨hq, h⟩ | ⟨hq, h⟩
      · simp only [hq] at hE
        simp only [Ans.res, Option.some.injEq, Prod.mk.injEq] at h
        obtain ⟨rfl, rfl⟩ := h
        exact (sem hE).forget rfl
      · simp only [hq] at hE
        have hq' : ¬ ((n : Int) + q > 192) := by simpa using hq
        have hle : leI q n = true := by simp [leI]; omega
        rw [hle] at hE
        unfold cosR tcTest at hE
        rw [opsOf_row hx, opsOf_row hm, okOps_opRow, okOps_opRow, Nat.beq_refl, Nat.beq_refl, show Nat.ble 1 q.toNat = true by rw [Nat.ble_eq]; omega, show Nat.ble q.toNat n = true by rw [Nat.ble_eq]; omega, show decide (n + q.toNat ≤ 192) = true by simp; omega] at hE
        simp only [decide_true, Bool.and_self, gd] at hE
        rcases Ans.br_some h with ⟨hq2, h⟩ | ⟨hq2, h⟩
        · have hl := cosL_true _ _ _ _ hq2
          have hbl : Nat.blt n (cosL (m.mulF b) (xs.take q.toNat) xs es).2.1.length = true := by
            rw [hl, Nat.blt_eq]; simp; omega
          simp only [hq2, hbl] at hE
          simp only [Ans.res, Option.some.injEq, Prod.mk.injEq] at h
          obtain ⟨rfl, rfl⟩ := h
          exact sem hE
        · simp only [hq2] at hE
          simp only [Ans.res, Option.some.injEq, Prod.mk.injEq] at h
          obtain ⟨rfl, rfl⟩ := h
          split at hE
          · exact (sem hE).forget rfl
          · exact (sem hE).forget rfl
def tcT (n n2 k k2 : Nat) (row row2 : Nat → List Value) (q : Int) : Bool := Nat.beq n n2 && (okOps n row && (Nat.beq k k2 && (okOps k row2 && (decide (0 < q) && (decide (q ≤ (n : Int)) && decide (n ≤ 192))))))
def tcFn : List Value → Mem → Option (Ans (Value × Mem))
  | [.pointer (some ⟨0, 0, none⟩), .agg cm, .agg cb, .int .i64 q], [.cells true 0 cs, .rows true true 12 n2 row, .mp true 12 es, .rows true true 12 k2 row2] => match cs, opCells cm.toList, opCells cb.toList with
    | [.slice (some ⟨1, 0, some 0⟩) n 12, .map (some 2), .slice (some ⟨3, 0, some 0⟩) k 12], some m, some b => some (.br (tcT n n2 k k2 row row2 q) (.br (m.mulE b != 0) (.out (.bool false, goneAll 4)) (.br (mHas (key (m.mulF b)) es) (.out (.bool true, tcM0 n (opsOf n row) es k (opsOf k row2))) (.br (decide ((n : Int) + q > 192)) (.out (.bool false, goneAll 4)) (.br (cosL (m.mulF b) ((opsOf n row).take q.toNat) (opsOf n row) es).1 (.out (.bool true, tcM1 (cosL (m.mulF b) ((opsOf n row).take q.toNat) (opsOf n row) es).2.1.length (cosL (m.mulF b) ((opsOf n row).take q.toNat) (opsOf n row) es).2.1 (cosL (m.mulF b) ((opsOf n row).take q.toNat) (opsOf n row) es).2.2 k (opsOf k row2))) (.out (.bool false, goneAll 4)))))) .fail)
    | _, _, _ => none
  | _, _ => none
def Ctd (P : Program) : Cx := (Ctc P).addF 114 tcFn
theorem oktd : CxOk (Ctd Try.prog) := Cx.addF_ok oktc fun args mm ans v m' h hr => by
  unfold tcFn at h
  split at h
  · rename_i cm cb q cs n2 row es k2 row2
    split at h
    · rename_i n k m b hc1 hc2
      simp only [Option.some.injEq] at h
      subst h
      rcases Ans.br_some hr with ⟨hc, hr1⟩ | ⟨_, hr1⟩
      · clear hr
        unfold tcT at hc
        simp only [Bool.and_eq_true, decide_eq_true_eq] at hc
        obtain ⟨c1, c2, c3, c4, c5, c6, c7⟩ := hc
        have c1 := beq_len c1
        subst c1
        have c3 := beq_len c3
        subst c3
        have e1 : cm = m.cells.toArray := by rw [← opCells_spec hc1]
        have e2 : cb = b.cells.toArray := by rw [← opCells_spec hc2]
        subst e1
        subst e2
        exact (tcSem m b q n (opsOf n row) es k (opsOf k row2) (opsOf_length n row) (opsOf_length k row2) c5 c6 c7 hr1).like ⟨.refl _, .rows (ops_like c2), .refl _, .rows (ops_like c4), trivial⟩
      · simp [Ans.res] at hr1
    · cases h
  · cases h
end Go.Proofs.Ytjpfnfckpgilgaa


namespace Go.Proofs.Ytjpfnfckpgilgaa
open Go Vx
def tkX (P : Program) : Code := (loopsOf P 78 10).headD .skip
theorem tkX_eq : loopsOf Try.prog 78 10 = [tkX Try.prog] := by kernel_rfl

def tkNE (o : O3) (n : Nat) (xs : List O3) (es : ES) (k : Nat) (ms : List O3) : Mem := [.cells true 0 [.slice (some ⟨1, 0, some 0⟩) n 12, .map (some 2), .slice (some ⟨6, 0, some 0⟩) k 12], .rows true true 12 n (opRow xs), .mp true 12 es, .cells true 0 o.cells, .cells true 0 [], .rows true true 12 1 (chop 12 0 o.cells), .rows true true 12 k (opRow ms)]
def tkNA (o : O3) (n : Nat) (xs : List O3) (es : ES) (k : Nat) (ms : List O3) : Mem := [.cells true 0 [.slice (some ⟨1, 0, some 0⟩) n 12, .map (some 2), .slice (some ⟨6, 0, some 0⟩) k 12], .rows true true 12 n (opRow xs), .mp true 12 es, .cells true 0 o.cells, .cells true 0 [], .rows true true 12 1 (chop 12 0 o.cells), .rows true true 12 k (opRow ms), .no]
def tkNB (o : O3) (n : Nat) (xs : List O3) (es : ES) (k : Nat) (ms : List O3) : Mem := [.cells true 0 [.slice (some ⟨7, 0, some 0⟩) n 12, .map (some 2), .slice (some ⟨6, 0, some 0⟩) k 12], .gone, .mp true 12 es, .cells true 0 o.cells, .cells true 0 [], .rows true true 12 1 (chop 12 0 o.cells), .rows true true 12 k (opRow ms), .rows true true 12 n (opRow xs)]
def tkNX (o : O3) : Mem := [.gone, .gone, .gone, .cells true 0 o.cells, .cells true 0 [], .rows true true 12 1 (chop 12 0 o.cells), .no, .no]
def tkNH (m : Mem) (k : Nat) (q f i : Int) : St := stOf 68 [(0, .pointer (some ⟨0, 0, none⟩)), (4, .bool false), (7, vI q), (8, vI f), (49, .slice (some ⟨6, 0, some 0⟩) k 12), (50, vI k), (51, vI i)] m
theorem tkNRE (o : O3) (n : Nat) (xs : List O3) (es : ES) (k : Nat) (ms : List O3) (q f i : Int) : roundR ((Ctd Try.prog).into 78 3) 40 (tkX Try.prog) [0, 4, 7, 8, 49, 50, 51] [0, 4, 7, 8] [.fix 0, .fix 1, .fix 2, .fix 3, .fix 4, .fix 5, .cell 0 2, .cellN 0 0 3] [.fix 0, .fix 1, .fix 2, .fix 3, .fix 4, .fix 5, .cell 0 2, .cellN 0 0 3] (tkNH (tkNE o n xs es k ms) k q f i) =
    (match decide (i < (k : Int)) with
    | true => match boundsI i k with
      | true => match boundsI f n with
        | true => match tcT n n k k (opRow xs) (opRow ms) q with
          | true => match (atO ms i).mulE (atO xs f) != 0 with
            | true => some (.ret, stOf 68 [(0, .pointer (some ⟨0, 0, none⟩)), (4, .bool false), (7, vI q), (8, vI f)] (tkNX o))
            | false => match mHas (key ((atO ms i).mulF (atO xs f))) es with
              | true => some (.normal, tkNH (tkNA o n (opsOf n (opRow xs)) es k (opsOf k (opRow ms))) k q f (W (i + 1)))
              | false => match decide ((n : Int) + q > 192) with
                | true => some (.ret, stOf 68 [(0, .pointer (some ⟨0, 0, none⟩)), (4, .bool false), (7, vI q), (8, vI f)] (tkNX o))
                | false => match (cosL ((atO ms i).mulF (atO xs f)) ((opsOf n (opRow xs)).take q.toNat) (opsOf n (opRow xs)) es).1 with
                  | true => some (.normal, tkNH (tkNB o (cosL ((atO ms i).mulF (atO xs f)) ((opsOf n (opRow xs)).take q.toNat) (opsOf n (opRow xs)) es).2.1.length (cosL ((atO ms i).mulF (atO xs f)) ((opsOf n (opRow xs)).take q.toNat) (opsOf n (opRow xs)) es).2.1 (cosL ((atO ms i).mulF (atO xs f)) ((opsOf n (opRow xs)).take q.toNat) (opsOf n (opRow xs)) es).2.2 k (opsOf k (opRow ms))) k q f (W (i + 1)))
                  | false => some (.ret, stOf 68 [(0, .pointer (some ⟨0, 0, none⟩)), (4, .bool false), (7, vI q), (8, vI f)] (tkNX o))
          | false => none
        | false => none
      | false => none
    | false => some (.exit 2, stOf 68 [(0, .pointer (some ⟨0, 0, none⟩)), (4, .bool false), (7, vI q), (8, vI f)] (tkNA o n xs es k ms))) := by kernel_rfl
theorem tkNRA (o : O3) (n : Nat) (xs : List O3) (es : ES) (k : Nat) (ms : List O3) (q f i : Int) : roundR ((Ctd Try.prog).into 78 3) 40 (tkX Try.prog) [0, 4, 7, 8, 49, 50, 51] [0, 4, 7, 8] [.fix 0, .fix 1, .fix 2, .fix 3, .fix 4, .fix 5, .cell 0 2, .cellN 0 0 3] [.fix 0, .fix 1, .fix 2, .fix 3, .fix 4, .fix 5, .cell 0 2, .cellN 0 0 3] (tkNH (tkNA o n xs es k ms) k q f i) =
    (match decide (i < (k : Int)) with
    | true => match boundsI i k with
      | true => match boundsI f n with
        | true => match tcT n n k k (opRow xs) (opRow ms) q with
          | true => match (atO ms i).mulE (atO xs f) != 0 with
            | true => some (.ret, stOf 68 [(0, .pointer (some ⟨0, 0, none⟩)), (4, .bool false), (7, vI q), (8, vI f)] (tkNX o))
            | false => match mHas (key ((atO ms i).mulF (atO xs f))) es with
              | true => some (.normal, tkNH (tkNA o n (opsOf n (opRow xs)) es k (opsOf k (opRow ms))) k q f (W (i + 1)))
              | false => match decide ((n : Int) + q > 192) with
                | true => some (.ret, stOf 68 [(0, .pointer (some ⟨0, 0, none⟩)), (4, .bool false), (7, vI q), (8, vI f)] (tkNX o))
                | false => match (cosL ((atO ms i).mulF (atO xs f)) ((opsOf n (opRow xs)).take q.toNat) (opsOf n (opRow xs)) es).1 with
                  | true => some (.normal, tkNH (tkNB o (cosL ((atO ms i).mulF (atO xs f)) ((opsOf n (opRow xs)).take q.toNat) (opsOf n (opRow xs)) es).2.1.length (cosL ((atO ms i).mulF (atO xs f)) ((opsOf n (opRow xs)).take q.toNat) (opsOf n (opRow xs)) es).2.1 (cosL ((atO ms i).mulF (atO xs f)) ((opsOf n (opRow xs)).take q.toNat) (opsOf n (opRow xs)) es).2.2 k (opsOf k (opRow ms))) k q f (W (i + 1)))
                  | false => some (.ret, stOf 68 [(0, .pointer (some ⟨0, 0, none⟩)), (4, .bool false), (7, vI q), (8, vI f)] (tkNX o))
          | false => none
        | false => none
      | false => none
    | false => some (.exit 2, stOf 68 [(0, .pointer (some ⟨0, 0, none⟩)), (4, .bool false), (7, vI q), (8, vI f)] (tkNA o n xs es k ms))) := by kernel_rfl
theorem tkNRB (o : O3) (n : Nat) (xs : List O3) (es : ES) (k : Nat) (ms : List O3) (q f i : Int) : roundR ((Ctd Try.prog).into 78 3) 40 (tkX Try.prog) [0, 4, 7, 8, 49, 50, 51] [0, 4, 7, 8] [.fix 0, .fix 1, .fix 2, .fix 3, .fix 4, .fix 5, .cell 0 2, .cellN 0 0 3] [.fix 0, .fix 1, .fix 2, .fix 3, .fix 4, .fix 5, .cell 0 2, .cellN 0 0 3] (tkNH (tkNB o n xs es k ms) k q f i) =
    (match decide (i < (k : Int)) with
    | true => match boundsI i k with
      | true => match boundsI f n with
        | true => match tcT n n k k (opRow xs) (opRow ms) q with
          | true => match (atO ms i).mulE (atO xs f) != 0 with
            | true => some (.ret, stOf 68 [(0, .pointer (some ⟨0, 0, none⟩)), (4, .bool false), (7, vI q), (8, vI f)] (tkNX o))
            | false => match mHas (key ((atO ms i).mulF (atO xs f))) es with
              | true => some (.normal, tkNH (tkNB o n (opsOf n (opRow xs)) es k (opsOf k (opRow ms))) k q f (W (i + 1)))
              | false => match decide ((n : Int) + q > 192) with
                | true => some (.ret, stOf 68 [(0, .pointer (some ⟨0, 0, none⟩)), (4, .bool false), (7, vI q), (8, vI f)] (tkNX o))
                | false => match (cosL ((atO ms i).mulF (atO xs f)) ((opsOf n (opRow xs)).take q.toNat) (opsOf n (opRow xs)) es).1 with
                  | true => some (.normal, tkNH (tkNB o (cosL ((atO ms i).mulF (atO xs f)) ((opsOf n (opRow xs)).take q.toNat) (opsOf n (opRow xs)) es).2.1.length (cosL ((atO ms i).mulF (atO xs f)) ((opsOf n (opRow xs)).take q.toNat) (opsOf n (opRow xs)) es).2.1 (cosL ((atO ms i).mulF (atO xs f)) ((opsOf n (opRow xs)).take q.toNat) (opsOf n (opRow xs)) es).2.2 k (opsOf k (opRow ms))) k q f (W (i + 1)))
                  | false => some (.ret, stOf 68 [(0, .pointer (some ⟨0, 0, none⟩)), (4, .bool false), (7, vI q), (8, vI f)] (tkNX o))
          | false => none
        | false => none
      | false => none
    | false => some (.exit 2, stOf 68 [(0, .pointer (some ⟨0, 0, none⟩)), (4, .bool false), (7, vI q), (8, vI f)] (tkNB o n xs es k ms))) := by kernel_rfl


def tkME (o : O3) (n : Nat) (xs : List O3) (es : ES) (k : Nat) (ms : List O3) : Mem := [.cells true 0 [.slice (some ⟨1, 0, some 0⟩) n 12, .map (some 2), .slice (some ⟨7, 0, some 0⟩) k 12], .rows true true 12 n (opRow xs), .mp true 12 es, .gone, .cells true 0 o.cells, .cells true 0 [], .rows true true 12 1 (chop 12 0 o.cells), .rows true true 12 k (opRow ms)]
def tkMA (o : O3) (n : Nat) (xs : List O3) (es : ES) (k : Nat) (ms : List O3) : Mem := [.cells true 0 [.slice (some ⟨1, 0, some 0⟩) n 12, .map (some 2), .slice (some ⟨7, 0, some 0⟩) k 12], .rows true true 12 n (opRow xs), .mp true 12 es, .gone, .cells true 0 o.cells, .cells true 0 [], .rows true true 12 1 (chop 12 0 o.cells), .rows true true 12 k (opRow ms), .no]
def tkMB (o : O3) (n : Nat) (xs : List O3) (es : ES) (k : Nat) (ms : List O3) : Mem := [.cells true 0 [.slice (some ⟨8, 0, some 0⟩) n 12, .map (some 2), .slice (some ⟨7, 0, some 0⟩) k 12], .gone, .mp true 12 es, .gone, .cells true 0 o.cells, .cells true 0 [], .rows true true 12 1 (chop 12 0 o.cells), .rows true true 12 k (opRow ms), .rows true true 12 n (opRow xs)]
def tkMX (o : O3) : Mem := [.gone, .gone, .gone, .gone, .cells true 0 o.cells, .cells true 0 [], .rows true true 12 1 (chop 12 0 o.cells), .no, .no]
def tkMH (m : Mem) (k : Nat) (q f i : Int) : St := stOf 68 [(0, .pointer (some ⟨0, 0, none⟩)), (4, .bool false), (7, vI q), (8, vI f), (49, .slice (some ⟨7, 0, some 0⟩) k 12), (50, vI k), (51, vI i)] m
theorem tkMRE (o : O3) (n : Nat) (xs : List O3) (es : ES) (k : Nat) (ms : List O3) (q f i : Int) : roundR ((Ctd Try.prog).into 78 4) 40 (tkX Try.prog) [0, 4, 7, 8, 49, 50, 51] [0, 4, 7, 8] [.fix 0, .fix 1, .fix 2, .fix 3, .fix 4, .fix 5, .fix 6, .cell 0 2, .cellN 0 0 4] [.fix 0, .fix 1, .fix 2, .fix 3, .fix 4, .fix 5, .fix 6, .cell 0 2, .cellN 0 0 4] (tkMH (tkME o n xs es k ms) k q f i) =
    (match decide (i < (k : Int)) with
    | true => match boundsI i k with
      | true => match boundsI f n with
        | true => match tcT n n k k (opRow xs) (opRow ms) q with
          | true => match (atO ms i).mulE (atO xs f) != 0 with
            | true => some (.ret, stOf 68 [(0, .pointer (some ⟨0, 0, none⟩)), (4, .bool false), (7, vI q), (8, vI f)] (tkMX o))
            | false => match mHas (key ((atO ms i).mulF (atO xs f))) es with
              | true => some (.normal, tkMH (tkMA o n (opsOf n (opRow xs)) es k (opsOf k (opRow ms))) k q f (W (i + 1)))
              | false => match decide ((n : Int) + q > 192) with
                | true => some (.ret, stOf 68 [(0, .pointer (some ⟨0, 0, none⟩)), (4, .bool false), (7, vI q), (8, vI f)] (tkMX o))
                | false => match (cosL ((atO ms i).mulF (atO xs f)) ((opsOf n (opRow xs)).take q.toNat) (opsOf n (opRow xs)) es).1 with
                  | true => some (.normal, tkMH (tkMB o (cosL ((atO ms i).mulF (atO xs f)) ((opsOf n (opRow xs)).take q.toNat) (opsOf n (opRow xs)) es).2.1.length (cosL ((atO ms i).mulF (atO xs f)) ((opsOf n (opRow xs)).take q.toNat) (opsOf n (opRow xs)) es).2.1 (cosL ((atO ms i).mulF (atO xs f)) ((opsOf n (opRow xs)).take q.toNat) (opsOf n (opRow xs)) es).2.2 k (opsOf k (opRow ms))) k q f (W (i + 1)))
                  | false => some (.ret, stOf 68 [(0, .pointer (some ⟨0, 0, none⟩)), (4, .bool false), (7, vI q), (8, vI f)] (tkMX o))
          | false => none
        | false => none
      | false => none
    | false => some (.exit 2, stOf 68 [(0, .pointer (some ⟨0, 0, none⟩)), (4, .bool false), (7, vI q), (8, vI f)] (tkMA o n xs es k ms))) := by kernel_rfl
theorem tkMRA (o : O3) (n : Nat) (xs : List O3) (es : ES) (k : Nat) (ms : List O3) (q f i : Int) : roundR ((Ctd Try.prog).into 78 4) 40 (tkX Try.prog) [0, 4, 7, 8, 49, 50, 51] [0, 4, 7, 8] [.fix 0, .fix 1, .fix 2, .fix 3, .fix 4, .fix 5, .fix 6, .cell 0 2, .cellN 0 0 4] [.fix 0, .fix 1, .fix 2, .fix 3, .fix 4, .fix 5, .fix 6, .cell 0 2, .cellN 0 0 4] (tkMH (tkMA o n xs es k ms) k q f i) =
    (match decide (i < (k : Int)) with
    | true => match boundsI i k with
      | true => match boundsI f n with
        | true => match tcT n n k k (opRow xs) (opRow ms) q with
          | true => match (atO ms i).mulE (atO xs f) != 0 with
            | true => some (.ret, stOf 68 [(0, .pointer (some ⟨0, 0, none⟩)), (4, .bool false), (7, vI q), (8, vI f)] (tkMX o))
            | false => match mHas (key ((atO ms i).mulF (atO xs f))) es with
              | true => some (.normal, tkMH (tkMA o n (opsOf n (opRow xs)) es k (opsOf k (opRow ms))) k q f (W (i + 1)))
              | false => match decide ((n : Int) + q > 192) with
                | true => some (.ret, stOf 68 [(0, .pointer (some ⟨0, 0, none⟩)), (4, .bool false), (7, vI q), (8, vI f)] (tkMX o))
                | false => match (cosL ((atO ms i).mulF (atO xs f)) ((opsOf n (opRow xs)).take q.toNat) (opsOf n (opRow xs)) es).1 with
                  | true => some (.normal, tkMH (tkMB o (cosL ((atO ms i).mulF (atO xs f)) ((opsOf n (opRow xs)).take q.toNat) (opsOf n (opRow xs)) es).2.1.length (cosL ((atO ms i).mulF (atO xs f)) ((opsOf n (opRow xs)).take q.toNat) (opsOf n (opRow xs)) es).2.1 (cosL ((atO ms i).mulF (atO xs f)) ((opsOf n (opRow xs)).take q.toNat) (opsOf n (opRow xs)) es).2.2 k (opsOf k (opRow ms))) k q f (W (i + 1)))
                  | false => some (.ret, stOf 68 [(0, .pointer (some ⟨0, 0, none⟩)), (4, .bool false), (7, vI q), (8, vI f)] (tkMX o))
          | false => none
        | false => none
      | false => none
    | false => some (.exit 2, stOf 68 [(0, .pointer (some ⟨0, 0, none⟩)), (4, .bool false), (7, vI q), (8, vI f)] (tkMA o n xs es k ms))) := by kernel_rfl
theorem tkMRB (o : O3) (n : Nat) (xs : List O3) (es : ES) (k : Nat) (ms : List O3) (q f i : Int) : roundR ((Ctd Try.prog).into 78 4) 40 (tkX Try.prog) [0, 4, 7, 8, 49, 50, 51] [0, 4, 7, 8] [.fix 0, .fix 1, .fix 2, .fix 3, .fix 4, .fix 5, .fix 6, .cell 0 2, .cellN 0 0 4] [.fix 0, .fix 1, .fix 2, .fix 3, .fix 4, .fix 5, .fix 6, .cell 0 2, .cellN 0 0 4] (tkMH (tkMB o n xs es k ms) k q f i) =
    (match decide (i < (k : Int)) with
    | true => match boundsI i k with
      | true => match boundsI f n with
        | true => match tcT n n k k (opRow xs) (opRow ms) q with
          | true => match (atO ms i).mulE (atO xs f) != 0 with
            | true => some (.ret, stOf 68 [(0, .pointer (some ⟨0, 0, none⟩)), (4, .bool false), (7, vI q), (8, vI f)] (tkMX o))
            | false => match mHas (key ((atO ms i).mulF (atO xs f))) es with
              | true => some (.normal, tkMH (tkMB o n (opsOf n (opRow xs)) es k (opsOf k (opRow ms))) k q f (W (i + 1)))
              | false => match decide ((n : Int) + q > 192) with
                | true => some (.ret, stOf 68 [(0, .pointer (some ⟨0, 0, none⟩)), (4, .bool false), (7, vI q), (8, vI f)] (tkMX o))
                | false => match (cosL ((atO ms i).mulF (atO xs f)) ((opsOf n (opRow xs)).take q.toNat) (opsOf n (opRow xs)) es).1 with
                  | true => some (.normal, tkMH (tkMB o (cosL ((atO ms i).mulF (atO xs f)) ((opsOf n (opRow xs)).take q.toNat) (opsOf n (opRow xs)) es).2.1.length (cosL ((atO ms i).mulF (atO xs f)) ((opsOf n (opRow xs)).take q.toNat) (opsOf n (opRow xs)) es).2.1 (cosL ((atO ms i).mulF (atO xs f)) ((opsOf n (opRow xs)).take q.toNat) (opsOf n (opRow xs)) es).2.2 k (opsOf k (opRow ms))) k q f (W (i + 1)))
                  | false => some (.ret, stOf 68 [(0, .pointer (some ⟨0, 0, none⟩)), (4, .bool false), (7, vI q), (8, vI f)] (tkMX o))
          | false => none
        | false => none
      | false => none
    | false => some (.exit 2, stOf 68 [(0, .pointer (some ⟨0, 0, none⟩)), (4, .bool false), (7, vI q), (8, vI f)] (tkMB o n xs es k ms))) := by kernel_rfl

end Go.Proofs.Ytjpfnfckpgilgaa


namespace Go.Proofs.Ytjpfnfckpgilgaa
open Go Vx
inductive Sh where
  | e | a | b
def Sh.next : Sh → Sh
  | .b => .b
  | _ => .a
/-- Have the maps moved? -/
def Sh.ok (sh : Sh) (n0 n : Nat) : Prop := match sh with
  | .b => n0 < n
  | _ => n = n0
def shOf (n0 : Nat) (xs : List O3) : Sh := match Nat.blt n0 xs.length with
  | true => .b
  | false => .a
theorem shOf_ok {sh : Sh} {n0 n : Nat} {xs : List O3} (hx : xs.length = n) (h : n0 ≤ n ∧ sh.ok n0 n) : shOf n0 xs = sh.next := by
  unfold shOf
  rw [hx]
  cases sh with
  | b => rw [show Nat.blt n0 n = true by rw [Nat.blt_eq]; exact h.2]; rfl
  | e => have := h.2; simp only [Sh.ok] at this; subst this; rw [blt_ff (Nat.lt_irrefl _)]; rfl
  | a => have := h.2; simp only [Sh.ok] at this; subst this; rw [blt_ff (Nat.lt_irrefl _)]; rfl
/-- The coset of m behind b, unless it is there. -/
def tcStep (m b : O3) (q : Int) (xs : List O3) (es : ES) : Option (List O3 × ES) := match m.mulE b != 0 with
  | true => none
  | false => match mHas (key (m.mulF b)) es with
    | true => some (xs, es)
    | false => match decide ((xs.length : Int) + q > 192) with
      | true => none
      | false => match (cosL (m.mulF b) (xs.take q.toNat) xs es).1 with
        | true => some (cosL (m.mulF b) (xs.take q.toNat) xs es).2
        | false => none
/-- The cosets of each maker behind a map. -/
def mkL (f q : Int) : List O3 → List O3 → ES → Option (List O3 × ES)
  | [], xs, es => some (xs, es)
  | m :: l, xs, es => match tcStep m (atO xs f) q xs es with
    | some r => mkL f q l r.1 r.2
    | none => none
structure tkG where
  (sh : Sh) (o : O3) (n0 n : Nat) (xs : List O3) (es : ES) (k : Nat) (ms : List O3) (q f i : Int)
def tkRes (g : tkG) : Option (List O3 × ES) := mkL g.f g.q (g.ms.drop g.i.toNat) g.xs g.es
def tkInv (g : tkG) : Prop := g.xs.length = g.n ∧ g.ms.length = g.k ∧ 0 < g.q ∧ g.q ≤ (g.n : Int) ∧ g.n ≤ 192 ∧ 0 ≤ g.f ∧ g.f < (g.n : Int) ∧ 0 ≤ g.i ∧ g.k ≤ 1000 ∧ g.i ≤ (g.k : Int) ∧ g.n0 ≤ g.n ∧ g.sh.ok g.n0 g.n
theorem tcT_ok {n k : Nat} {xs ms : List O3} {q : Int} (h3 : 0 < q) (h4 : q ≤ (n : Int)) (h5 : n ≤ 192) : tcT n n k k (opRow xs) (opRow ms) q = true := by
  unfold tcT
  rw [Nat.beq_refl, Nat.beq_refl, okOps_opRow, okOps_opRow]
  simp [h3, h4, h5]

def tkNM (sh : Sh) (o : O3) (n : Nat) (xs : List O3) (es : ES) (k : Nat) (ms : List O3) : Mem := match sh with
  | .e => tkNE o n xs es k ms
  | .a => tkNA o n xs es k ms
  | .b => tkNB o n xs es k ms
def tkNHg (g : tkG) : St := tkNH (tkNM g.sh g.o g.n g.xs g.es g.k g.ms) g.k g.q g.f g.i
/-- What a round comes to. -/
theorem tkNRd (sh : Sh) (o : O3) (n : Nat) (xs : List O3) (es : ES) (k : Nat) (ms : List O3) (q f i : Int) (hx : xs.length = n) (hm : ms.length = k) : roundR ((Ctd Try.prog).into 78 3) 40 (tkX Try.prog) [0, 4, 7, 8, 49, 50, 51] [0, 4, 7, 8] [.fix 0, .fix 1, .fix 2, .fix 3, .fix 4, .fix 5, .cell 0 2, .cellN 0 0 3] [.fix 0, .fix 1, .fix 2, .fix 3, .fix 4, .fix 5, .cell 0 2, .cellN 0 0 3] (tkNH (tkNM sh o n xs es k ms) k q f i) =
    (match decide (i < (k : Int)) with
    | true => match boundsI i k with
      | true => match boundsI f n with
        | true => match tcT n n k k (opRow xs) (opRow ms) q with
          | true => match (atO ms i).mulE (atO xs f) != 0 with
            | true => some (.ret, stOf 68 [(0, .pointer (some ⟨0, 0, none⟩)), (4, .bool false), (7, vI q), (8, vI f)] (tkNX o))
            | false => match mHas (key ((atO ms i).mulF (atO xs f))) es with
              | true => some (.normal, tkNH (tkNM sh.next o n xs es k ms) k q f (W (i + 1)))
              | false => match decide ((n : Int) + q > 192) with
                | true => some (.ret, stOf 68 [(0, .pointer (some ⟨0, 0, none⟩)), (4, .bool false), (7, vI q), (8, vI f)] (tkNX o))
                | false => match (cosL ((atO ms i).mulF (atO xs f)) (xs.take q.toNat) xs es).1 with
                  | true => some (.normal, tkNH (tkNM .b o (cosL ((atO ms i).mulF (atO xs f)) (xs.take q.toNat) xs es).2.1.length (cosL ((atO ms i).mulF (atO xs f)) (xs.take q.toNat) xs es).2.1 (cosL ((atO ms i).mulF (atO xs f)) (xs.take q.toNat) xs es).2.2 k ms) k q f (W (i + 1)))
                  | false => some (.ret, stOf 68 [(0, .pointer (some ⟨0, 0, none⟩)), (4, .bool false), (7, vI q), (8, vI f)] (tkNX o))
          | false => none
        | false => none
      | false => none
    | false => some (.exit 2, stOf 68 [(0, .pointer (some ⟨0, 0, none⟩)), (4, .bool false), (7, vI q), (8, vI f)] (tkNM sh.next o n xs es k ms))) := by
  cases sh with
  | e => have := tkNRE o n xs es k ms q f i; rw [opsOf_row hx, opsOf_row hm] at this; exact this
  | a => have := tkNRA o n xs es k ms q f i; rw [opsOf_row hx, opsOf_row hm] at this; exact this
  | b => have := tkNRB o n xs es k ms q f i; rw [opsOf_row hx, opsOf_row hm] at this; exact this
def tkNO (g : tkG) : Exit × St := match tkRes g with
  | some r => (.exit 2, stOf 68 [(0, .pointer (some ⟨0, 0, none⟩)), (4, .bool false), (7, vI g.q), (8, vI g.f)] (tkNM (shOf g.n0 r.1) g.o r.1.length r.1 r.2 g.k g.ms))
  | none => (.ret, stOf 68 [(0, .pointer (some ⟨0, 0, none⟩)), (4, .bool false), (7, vI g.q), (8, vI g.f)] (tkNX g.o))
theorem tkNL (g : tkG) (hg : tkInv g) : LoopSem Try.prog 3 (tkX Try.prog) (tkNHg g) (tkNO g).1 (tkNO g).2 := by
  refine loop_rule2 (C := Ctd Try.prog) oktd (f := 78) (B := 3) (loopsOf_in (k := 10) tkX_eq) 40 [0, 4, 7, 8, 49, 50, 51] [0, 4, 7, 8] [.fix 0, .fix 1, .fix 2, .fix 3, .fix 4, .fix 5, .cell 0 2, .cellN 0 0 3] [.fix 0, .fix 1, .fix 2, .fix 3, .fix 4, .fix 5, .cell 0 2, .cellN 0 0 3] tkNHg (fun g => (g.k - g.i).toNat) tkInv tkNO ?_ g hg
  clear hg g
  rintro ⟨sh, o, n0, n, xs, es, k, ms, q, f, i⟩ hg
  unfold tkInv at hg
  simp only at hg
  obtain ⟨h1, h2, h3, h4, h5, h6, h7, h8, h9, h10, h11⟩ := hg
  have hR := tkNRd sh o n xs es k ms q f i h1 h2
  by_cases hi : i < (k : Int)
  · have hd : decide (i < (k : Int)) = true := by simpa using hi
    have hb : boundsI i k = true := by simp [boundsI, h8, hi]
    have hbf : boundsI f n = true := by simp [boundsI, h6, h7]
    have hw : W (i + 1) = i + 1 := W_in (by omega)
    have ht : tcT n n k k (opRow xs) (opRow ms) q = true := tcT_ok h3 h4 h5
    have hdr := drop_at (xs := ms) h8 (by omega)
    rw [hd, hb, hbf, ht, hw] at hR
    cases he : (atO ms i).mulE (atO xs f) != 0 with
    | true =>
      right
      have hres : tkRes ⟨sh, o, n0, n, xs, es, k, ms, q, f, i⟩ = none := by unfold tkRes; simp only [hdr, mkL, tcStep, he]
      rw [he] at hR
      exact ⟨stOf 68 [(0, .pointer (some ⟨0, 0, none⟩)), (4, .bool false), (7, vI q), (8, vI f)] (tkNX o), by unfold tkNHg tkNO; simp only [hres]; exact hR, by unfold tkNO; simp only [hres]; exact StLike.refl _, by unfold tkNO; simp [hres]⟩
    | false =>
      rw [he] at hR
      cases hh : mHas (key ((atO ms i).mulF (atO xs f))) es with
      | true =>
        left
        simp only [hh] at hR
        refine ⟨⟨sh.next, o, n0, n, xs, es, k, ms, q, f, i + 1⟩, _, hR, StLike.refl _, ?_, by simp only; omega, ?_⟩
        · unfold tkInv
          simp only
          exact ⟨h1, h2, h3, h4, h5, h6, h7, by omega, h9, by omega, by cases sh <;> simpa [Sh.next, Sh.ok] using h11⟩
        · have hres : tkRes ⟨sh.next, o, n0, n, xs, es, k, ms, q, f, i + 1⟩ = tkRes ⟨sh, o, n0, n, xs, es, k, ms, q, f, i⟩ := by unfold tkRes; simp only [hdr, mkL, tcStep, he, hh]
          unfold tkNO
          simp only [hres]
      | false =>
        simp only [hh] at hR
        by_cases hbig : (n : Int) + q > 192
        · right
          have hdb : decide ((n : Int) + q > 192) = true := by simpa using hbig
          have hres : tkRes ⟨sh, o, n0, n, xs, es, k, ms, q, f, i⟩ = none := by unfold tkRes; simp only [hdr, mkL, tcStep, he, hh, h1, hdb]
          simp only [hdb] at hR
          exact ⟨stOf 68 [(0, .pointer (some ⟨0, 0, none⟩)), (4, .bool false), (7, vI q), (8, vI f)] (tkNX o), by unfold tkNHg tkNO; simp only [hres]; exact hR, by unfold tkNO; simp only [hres]; exact StLike.refl _, by unfold tkNO; simp [hres]⟩
        · have hdb : decide ((n : Int) + q > 192) = false := by simpa using hbig
          simp only [hdb] at hR
          cases hc : (cosL ((atO ms i).mulF (atO xs f)) (xs.take q.toNat) xs es).1 with
          | false =>
            right
            have hres : tkRes ⟨sh, o, n0, n, xs, es, k, ms, q, f, i⟩ = none := by unfold tkRes; simp only [hdr, mkL, tcStep, he, hh, h1, hdb, hc]
            simp only [hc] at hR
            exact ⟨stOf 68 [(0, .pointer (some ⟨0, 0, none⟩)), (4, .bool false), (7, vI q), (8, vI f)] (tkNX o), by unfold tkNHg tkNO; simp only [hres]; exact hR, by unfold tkNO; simp only [hres]; exact StLike.refl _, by unfold tkNO; simp [hres]⟩
          | true =>
            left
            simp only [hc] at hR
            have hl := cosL_true _ _ _ _ hc
            have hl' : (cosL ((atO ms i).mulF (atO xs f)) (xs.take q.toNat) xs es).2.1.length = n + q.toNat := by rw [hl, h1]; simp; omega
            refine ⟨⟨.b, o, n0, (cosL ((atO ms i).mulF (atO xs f)) (xs.take q.toNat) xs es).2.1.length, (cosL ((atO ms i).mulF (atO xs f)) (xs.take q.toNat) xs es).2.1, (cosL ((atO ms i).mulF (atO xs f)) (xs.take q.toNat) xs es).2.2, k, ms, q, f, i + 1⟩, _, hR, StLike.refl _, ?_, by simp only; omega, ?_⟩
            · unfold tkInv
              simp only
              have hsh : n0 ≤ n := h11.1
              exact ⟨trivial, h2, h3, by omega, by omega, h6, by omega, by omega, h9, by omega, by omega, by simp only [Sh.ok]; omega⟩
            · have hres : tkRes ⟨.b, o, n0, (cosL ((atO ms i).mulF (atO xs f)) (xs.take q.toNat) xs es).2.1.length, (cosL ((atO ms i).mulF (atO xs f)) (xs.take q.toNat) xs es).2.1, (cosL ((atO ms i).mulF (atO xs f)) (xs.take q.toNat) xs es).2.2, k, ms, q, f, i + 1⟩ = tkRes ⟨sh, o, n0, n, xs, es, k, ms, q, f, i⟩ := by unfold tkRes; simp only [hdr, mkL, tcStep, he, hh, h1, hdb, hc]
              unfold tkNO
              simp only [hres]
  · have hd : decide (i < (k : Int)) = false := by simpa using hi
    rw [hd] at hR
    right
    have hn : ms.drop i.toNat = [] := List.drop_eq_nil_of_le (by omega)
    have hres : tkRes ⟨sh, o, n0, n, xs, es, k, ms, q, f, i⟩ = some (xs, es) := by unfold tkRes; simp only [hn, mkL]
    have hsh : shOf n0 xs = sh.next := shOf_ok h1 h11
    exact ⟨stOf 68 [(0, .pointer (some ⟨0, 0, none⟩)), (4, .bool false), (7, vI q), (8, vI f)] (tkNM sh.next o n xs es k ms), by unfold tkNHg tkNO; simp only [hres]; exact hR, by unfold tkNO; simp only [hres, h1, hsh]; exact StLike.refl _, by unfold tkNO; simp [hres]⟩


def tkMM (sh : Sh) (o : O3) (n : Nat) (xs : List O3) (es : ES) (k : Nat) (ms : List O3) : Mem := match sh with
  | .e => tkME o n xs es k ms
  | .a => tkMA o n xs es k ms
  | .b => tkMB o n xs es k ms
def tkMHg (g : tkG) : St := tkMH (tkMM g.sh g.o g.n g.xs g.es g.k g.ms) g.k g.q g.f g.i
/-- What a round comes to. -/
theorem tkMRd (sh : Sh) (o : O3) (n : Nat) (xs : List O3) (es : ES) (k : Nat) (ms : List O3) (q f i : Int) (hx : xs.length = n) (hm : ms.length = k) : roundR ((Ctd Try.prog).into 78 4) 40 (tkX Try.prog) [0, 4, 7, 8, 49, 50, 51] [0, 4, 7, 8] [.fix 0, .fix 1, .fix 2, .fix 3, .fix 4, .fix 5, .fix 6, .cell 0 2, .cellN 0 0 4] [.fix 0, .fix 1, .fix 2, .fix 3, .fix 4, .fix 5, .fix 6, .cell 0 2, .cellN 0 0 4] (tkMH (tkMM sh o n xs es k ms) k q f i) =
    (match decide (i < (k : Int)) with
    | true => match boundsI i k with
      | true => match boundsI f n with
        | true => match tcT n n k k (opRow xs) (opRow ms) q with
          | true => match (atO ms i).mulE (atO xs f) != 0 with
            | true => some (.ret, stOf 68 [(0, .pointer (some ⟨0, 0, none⟩)), (4, .bool false), (7, vI q), (8, vI f)] (tkMX o))
            | false => match mHas (key ((atO ms i).mulF (atO xs f))) es with
              | true => some (.normal, tkMH (tkMM sh.next o n xs es k ms) k q f (W (i + 1)))
              | false => match decide ((n : Int) + q > 192) with
                | true => some (.ret, stOf 68 [(0, .pointer (some ⟨0, 0, none⟩)), (4, .bool false), (7, vI q), (8, vI f)] (tkMX o))
                | false => match (cosL ((atO ms i).mulF (atO xs f)) (xs.take q.toNat) xs es).1 with
                  | true => some (.normal, tkMH (tkMM .b o (cosL ((atO ms i).mulF (atO xs f)) (xs.take q.toNat) xs es).2.1.length (cosL ((atO ms i).mulF (atO xs f)) (xs.take q.toNat) xs es).2.1 (cosL ((atO ms i).mulF (atO xs f)) (xs.take q.toNat) xs es).2.2 k ms) k q f (W (i + 1)))
                  | false => some (.ret, stOf 68 [(0, .pointer (some ⟨0, 0, none⟩)), (4, .bool false), (7, vI q), (8, vI f)] (tkMX o))
          | false => none
        | false => none
      | false => none
    | false => some (.exit 2, stOf 68 [(0, .pointer (some ⟨0, 0, none⟩)), (4, .bool false), (7, vI q), (8, vI f)] (tkMM sh.next o n xs es k ms))) := by
  cases sh with
  | e => have := tkMRE o n xs es k ms q f i; rw [opsOf_row hx, opsOf_row hm] at this; exact this
  | a => have := tkMRA o n xs es k ms q f i; rw [opsOf_row hx, opsOf_row hm] at this; exact this
  | b => have := tkMRB o n xs es k ms q f i; rw [opsOf_row hx, opsOf_row hm] at this; exact this
def tkMO (g : tkG) : Exit × St := match tkRes g with
  | some r => (.exit 2, stOf 68 [(0, .pointer (some ⟨0, 0, none⟩)), (4, .bool false), (7, vI g.q), (8, vI g.f)] (tkMM (shOf g.n0 r.1) g.o r.1.length r.1 r.2 g.k g.ms))
  | none => (.ret, stOf 68 [(0, .pointer (some ⟨0, 0, none⟩)), (4, .bool false), (7, vI g.q), (8, vI g.f)] (tkMX g.o))
theorem tkML (g : tkG) (hg : tkInv g) : LoopSem Try.prog 4 (tkX Try.prog) (tkMHg g) (tkMO g).1 (tkMO g).2 := by
  refine loop_rule2 (C := Ctd Try.prog) oktd (f := 78) (B := 4) (loopsOf_in (k := 10) tkX_eq) 40 [0, 4, 7, 8, 49, 50, 51] [0, 4, 7, 8] [.fix 0, .fix 1, .fix 2, .fix 3, .fix 4, .fix 5, .fix 6, .cell 0 2, .cellN 0 0 4] [.fix 0, .fix 1, .fix 2, .fix 3, .fix 4, .fix 5, .fix 6, .cell 0 2, .cellN 0 0 4] tkMHg (fun g => (g.k - g.i).toNat) tkInv tkMO ?_ g hg
  clear hg g
  rintro ⟨sh, o, n0, n, xs, es, k, ms, q, f, i⟩ hg
  unfold tkInv at hg
  simp only at hg
  obtain ⟨h1, h2, h3, h4, h5, h6, h7, h8, h9, h10, h11⟩ := hg
  have hR := tkMRd sh o n xs es k ms q f i h1 h2
  by_cases hi : i < (k : Int)
  · have hd : decide (i < (k : Int)) = true := by simpa using hi
    have hb : boundsI i k = true := by simp [boundsI, h8, hi]
    have hbf : boundsI f n = true := by simp [boundsI, h6, h7]
    have hw : W (i + 1) = i + 1 := W_in (by omega)
    have ht : tcT n n k k (opRow xs) (opRow ms) q = true := tcT_ok h3 h4 h5
    have hdr := drop_at (xs := ms) h8 (by omega)
    rw [hd, hb, hbf, ht, hw] at hR
    cases he : (atO ms i).mulE (atO xs f) != 0 with
    | true =>
      right
      have hres : tkRes ⟨sh, o, n0, n, xs, es, k, ms, q, f, i⟩ = none := by unfold tkRes; simp only [hdr, mkL, tcStep, he]
      rw [he] at hR
      exact ⟨stOf 68 [(0, .pointer (some ⟨0, 0, none⟩)), (4, .bool false), (7, vI q), (8, vI f)] (tkMX o), by unfold tkMHg tkMO; simp only [hres]; exact hR, by unfold tkMO; simp only [hres]; exact StLike.refl _, by unfold tkMO; simp [hres]⟩
    | false =>
      rw [he] at hR
      cases hh : mHas (key ((atO ms i).mulF (atO xs f))) es with
      | true =>
        left
        simp only [hh] at hR
        refine ⟨⟨sh.next, o, n0, n, xs, es, k, ms, q, f, i + 1⟩, _, hR, StLike.refl _, ?_, by simp only; omega, ?_⟩
        · unfold tkInv
          simp only
          exact ⟨h1, h2, h3, h4, h5, h6, h7, by omega, h9, by omega, by cases sh <;> simpa [Sh.next, Sh.ok] using h11⟩
        · have hres : tkRes ⟨sh.next, o, n0, n, xs, es, k, ms, q, f, i + 1⟩ = tkRes ⟨sh, o, n0, n, xs, es, k, ms, q, f, i⟩ := by unfold tkRes; simp only [hdr, mkL, tcStep, he, hh]
          unfold tkMO
          simp only [hres]
      | false =>
        simp only [hh] at hR
        by_cases hbig : (n : Int) + q > 192
        · right
          have hdb : decide ((n : Int) + q > 192) = true := by simpa using hbig
          have hres : tkRes ⟨sh, o, n0, n, xs, es, k, ms, q, f, i⟩ = none := by unfold tkRes; simp only [hdr, mkL, tcStep, he, hh, h1, hdb]
          simp only [hdb] at hR
          exact ⟨stOf 68 [(0, .pointer (some ⟨0, 0, none⟩)), (4, .bool false), (7, vI q), (8, vI f)] (tkMX o), by unfold tkMHg tkMO; simp only [hres]; exact hR, by unfold tkMO; simp only [hres]; exact StLike.refl _, by unfold tkMO; simp [hres]⟩
        · have hdb : decide ((n : Int) + q > 192) = false := by simpa using hbig
          simp only [hdb] at hR
          cases hc : (cosL ((atO ms i).mulF (atO xs f)) (xs.take q.toNat) xs es).1 with
          | false =>
            right
            have hres : tkRes ⟨sh, o, n0, n, xs, es, k, ms, q, f, i⟩ = none := by unfold tkRes; simp only [hdr, mkL, tcStep, he, hh, h1, hdb, hc]
            simp only [hc] at hR
            exact ⟨stOf 68 [(0, .pointer (some ⟨0, 0, none⟩)), (4, .bool false), (7, vI q), (8, vI f)] (tkMX o), by unfold tkMHg tkMO; simp only [hres]; exact hR, by unfold tkMO; simp only [hres]; exact StLike.refl _, by unfold tkMO; simp [hres]⟩
          | true =>
            left
            simp only [hc] at hR
            have hl := cosL_true _ _ _ _ hc
            have hl' : (cosL ((atO ms i).mulF (atO xs f)) (xs.take q.toNat) xs es).2.1.length = n + q.toNat := by rw [hl, h1]; simp; omega
            refine ⟨⟨.b, o, n0, (cosL ((atO ms i).mulF (atO xs f)) (xs.take q.toNat) xs es).2.1.length, (cosL ((atO ms i).mulF (atO xs f)) (xs.take q.toNat) xs es).2.1, (cosL ((atO ms i).mulF (atO xs f)) (xs.take q.toNat) xs es).2.2, k, ms, q, f, i + 1⟩, _, hR, StLike.refl _, ?_, by simp only; omega, ?_⟩
            · unfold tkInv
              simp only
              have hsh : n0 ≤ n := h11.1
              exact ⟨trivial, h2, h3, by omega, by omega, h6, by omega, by omega, h9, by omega, by omega, by simp only [Sh.ok]; omega⟩
            · have hres : tkRes ⟨.b, o, n0, (cosL ((atO ms i).mulF (atO xs f)) (xs.take q.toNat) xs es).2.1.length, (cosL ((atO ms i).mulF (atO xs f)) (xs.take q.toNat) xs es).2.1, (cosL ((atO ms i).mulF (atO xs f)) (xs.take q.toNat) xs es).2.2, k, ms, q, f, i + 1⟩ = tkRes ⟨sh, o, n0, n, xs, es, k, ms, q, f, i⟩ := by unfold tkRes; simp only [hdr, mkL, tcStep, he, hh, h1, hdb, hc]
              unfold tkMO
              simp only [hres]
  · have hd : decide (i < (k : Int)) = false := by simpa using hi
    rw [hd] at hR
    right
    have hn : ms.drop i.toNat = [] := List.drop_eq_nil_of_le (by omega)
    have hres : tkRes ⟨sh, o, n0, n, xs, es, k, ms, q, f, i⟩ = some (xs, es) := by unfold tkRes; simp only [hn, mkL]
    have hsh : shOf n0 xs = sh.next := shOf_ok h1 h11
    exact ⟨stOf 68 [(0, .pointer (some ⟨0, 0, none⟩)), (4, .bool false), (7, vI q), (8, vI f)] (tkMM sh.next o n xs es k ms), by unfold tkMHg tkMO; simp only [hres]; exact hR, by unfold tkMO; simp only [hres, h1, hsh]; exact StLike.refl _, by unfold tkMO; simp [hres]⟩

end Go.Proofs.Ytjpfnfckpgilgaa


namespace Go.Proofs.Ytjpfnfckpgilgaa
open Go Vx
def n0Of (sh : Sh) (n : Nat) : Nat := match sh with
  | .b => 0
  | _ => n
def mkR (f q : Int) (l xs : List O3) (es : ES) : List O3 × ES := (mkL f q l xs es).getD ([], [])
def tkTest (n n2 k k2 kk : Nat) (row row2 : Nat → List Value) (lk q f i : Int) (o o2 : O3) : Bool := Nat.beq n n2 && (okOps n row && (Nat.beq k k2 && (okOps k row2 && (Nat.beq k kk && (decide ((k : Int) = lk) && (o.eqB o2 && (decide (0 < q) && (decide (q ≤ (n : Int)) && (decide (n ≤ 192) && (decide (0 ≤ f) && (decide (f < (n : Int)) && (decide (0 ≤ i) && decide (k ≤ 1000 ∧ i ≤ (k : Int))))))))))))))

/-- The memory at the inner loop, read. -/
def tkND (m : Mem) : Option (Sh × List Value × Nat × (Nat → List Value) × ES × List Value × List Value × Nat × (Nat → List Value)) := match m with
  | [.cells true 0 cs, .rows true true 12 n2 row, .mp true 12 es, .cells true 0 co, .cells true 0 [], .rows true true 12 1 row3, .rows true true 12 k2 row2] => some (.e, cs, n2, row, es, co, row3 0, k2, row2)
  | [.cells true 0 cs, .rows true true 12 n2 row, .mp true 12 es, .cells true 0 co, .cells true 0 [], .rows true true 12 1 row3, .rows true true 12 k2 row2, .no] => some (.a, cs, n2, row, es, co, row3 0, k2, row2)
  | [.cells true 0 cs, .gone, .mp true 12 es, .cells true 0 co, .cells true 0 [], .rows true true 12 1 row3, .rows true true 12 k2 row2, .rows true true 12 n2 row] => some (.b, cs, n2, row, es, co, row3 0, k2, row2)
  | _ => none
def tkNat (sh : Sh) : Nat := match sh with
  | .b => 7
  | _ => 1
theorem one_like {row3 : Nat → List Value} {o : O3} (h : row3 0 = o.cells) : rowsLike 1 row3 (chop 12 0 o.cells) := fun i hi => by
  have : i = 0 := by omega
  subst this
  exact h
theorem tkND_spec {m : Mem} {sh : Sh} {cs co co2 : List Value} {n n2 k k2 : Nat} {row row2 : Nat → List Value} {es : ES} {o : O3} (h : tkND m = some (sh, cs, n2, row, es, co, co2, k2, row2)) (hcs : cs = [.slice (some ⟨tkNat sh, 0, some 0⟩) n 12, .map (some 2), .slice (some ⟨6, 0, some 0⟩) k 12]) (h1 : n = n2) (h2 : k = k2) (h3 : co = o.cells) (h4 : co2 = o.cells) (h5 : okOps n row = true) (h6 : okOps k row2 = true) :
    LikeL m (tkNM sh o n (opsOf n row) es k (opsOf k row2)) := by
  subst h1 h2 hcs h3
  unfold tkND at h
  split at h
  all_goals first | (simp only [Option.some.injEq, Prod.mk.injEq] at h; obtain ⟨rfl, rfl, rfl, rfl, rfl, rfl, rfl, rfl, rfl⟩ := h) | cases h
  · exact ⟨.refl _, .rows (ops_like h5), .refl _, .refl _, .refl _, .rows (one_like h4), .rows (ops_like h6), trivial⟩
  · exact ⟨.refl _, .rows (ops_like h5), .refl _, .refl _, .refl _, .rows (one_like h4), .rows (ops_like h6), .refl _, trivial⟩
  · exact ⟨.refl _, .refl _, .refl _, .refl _, .refl _, .rows (one_like h4), .rows (ops_like h6), .rows (ops_like h5), trivial⟩
def tkNS (st : St) : Option (Ans (Exit × St)) :=
  match Nat.beq st.tmps.length 68, tAt st 0, tAt st 4, tAt st 7, tAt st 8, tAt st 49, tAt st 50, tAt st 51, tkND (thaw (killV st.mem)) with
  | true, some (.pointer (some ⟨0, 0, none⟩)), some (.bool b4), some (.int .i64 q), some (.int .i64 f), some (.slice (some ⟨6, 0, some 0⟩) kk 12), some (.int .i64 lk), some (.int .i64 i), some (sh, cs, n2, row, es, co, co2, k2, row2) =>
    match b4, cs, opCells co, opCells co2 with
    | false, [.slice (some ⟨a, 0, some 0⟩) n 12, .map (some 2), .slice (some ⟨6, 0, some 0⟩) k 12], some o, some o2 => match Nat.beq a (tkNat sh) with
      | true => some (.br (tkTest n n2 k k2 kk row row2 lk q f i o o2) (.br (mkL f q ((opsOf k row2).drop i.toNat) (opsOf n row) es).isSome
        (.br (Nat.blt (n0Of sh n) (mkR f q ((opsOf k row2).drop i.toNat) (opsOf n row) es).1.length)
          (.out (.exit 2, stOf 68 [(0, .pointer (some ⟨0, 0, none⟩)), (4, .bool false), (7, vI q), (8, vI f)] (tkNB o (mkR f q ((opsOf k row2).drop i.toNat) (opsOf n row) es).1.length (mkR f q ((opsOf k row2).drop i.toNat) (opsOf n row) es).1 (mkR f q ((opsOf k row2).drop i.toNat) (opsOf n row) es).2 k (opsOf k row2))))
          (.out (.exit 2, stOf 68 [(0, .pointer (some ⟨0, 0, none⟩)), (4, .bool false), (7, vI q), (8, vI f)] (tkNA o (mkR f q ((opsOf k row2).drop i.toNat) (opsOf n row) es).1.length (mkR f q ((opsOf k row2).drop i.toNat) (opsOf n row) es).1 (mkR f q ((opsOf k row2).drop i.toNat) (opsOf n row) es).2 k (opsOf k row2)))))
        (.out (.ret, stOf 68 [(0, .pointer (some ⟨0, 0, none⟩)), (4, .bool false), (7, vI q), (8, vI f)] (tkNX o)))) .fail)
      | false => none
    | _, _, _, _ => none
  | _, _, _, _, _, _, _, _, _ => none
theorem tkNK {st : St} {ans : Ans (Exit × St)} {e_ : Exit} {s_ : St} (h : tkNS st = some ans) (hr : ans.res = some (e_, s_)) : LoopSem Try.prog 3 (tkX Try.prog) st e_ s_ := by
  unfold tkNS at h
  split at h
  rotate_left
  · cases h
  rename_i b4 q f kk lk i sh cs n2 row es co co2 k2 row2 hb hs0 hs1 hs2 hs3 hs4 hs5 hs6 hD
  split at h
  rotate_left
  · cases h
  rename_i a n k o o2 hc1 hc2
  split at h
  rotate_left
  · cases h
  rename_i ha
  simp only [Option.some.injEq] at h
  subst h
  rcases Ans.br_some hr with ⟨hc, hr1⟩ | ⟨_, hr1⟩
  rotate_left
  · simp [Ans.res] at hr1
  clear hr
  have ha := beq_len ha
  unfold tkTest at hc
  simp only [Bool.and_eq_true, decide_eq_true_eq] at hc
  obtain ⟨c1, c2, c3, c4, c5, c6, c7, c8, c9, c10, c11, c12, c13, c14⟩ := hc
  have c1 := beq_len c1
  have c3 := beq_len c3
  have c5 := beq_len c5
  have hoo : o2 = o := (O3.eqB_iff.1 c7).symm
  subst hoo
  have hlike := tkND_spec (o := o2) (n := n) (k := k) hD (by rw [ha]) c1 c3 (opCells_spec hc1) (opCells_spec hc2) c2 c4
  have hI : tkInv ⟨sh, o2, n0Of sh n, n, opsOf n row, es, k, opsOf k row2, q, f, i⟩ := by
    unfold tkInv
    simp only
    refine ⟨opsOf_length n row, opsOf_length k row2, c8, c9, c10, c11, c12, c13, by omega, by omega, ?_, ?_⟩
    · cases sh <;> simp [n0Of]
    · cases sh <;> simp [n0Of, Sh.ok]
      omega
  have key := tkNL _ hI
  have key := LoopSem.like (tm := (tkNHg ⟨sh, o2, n0Of sh n, n, opsOf n row, es, k, opsOf k row2, q, f, i⟩).tmps) (m := thaw (killV st.mem)) key hlike
  have key := LoopSem.fresh key
  have hk : keepL [0, 4, 7, 8, 49, 50, 51] 0 st.tmps = (tkNHg ⟨sh, o2, n0Of sh n, n, opsOf n row, es, k, opsOf k row2, q, f, i⟩).tmps := by
    have := keep_eq [(0, .pointer (some ⟨0, 0, none⟩)), (4, .bool false), (7, vI q), (8, vI f), (49, .slice (some ⟨6, 0, some 0⟩) k 12), (50, vI k), (51, vI i)] st.tmps 0 (by
      intro x hx _
      simp only [List.mem_cons, List.not_mem_nil, or_false] at hx
      rcases hx with rfl | rfl | rfl | rfl | rfl | rfl | rfl
      · exact hs0
      · exact hs1
      · exact hs2
      · exact hs3
      · rw [← c5] at hs4; exact hs4
      · rw [← c6] at hs5; exact hs5
      · exact hs6)
    rw [show (keepL [0, 4, 7, 8, 49, 50, 51] 0 st.tmps) = _ from this, beq_len hb]
    rfl
  rw [← hk] at key
  have key : LoopSem Try.prog 3 (tkX Try.prog) st _ _ := LoopSem.clean (mask := [0, 4, 7, 8, 49, 50, 51]) key
  have hres : tkRes ⟨sh, o2, n0Of sh n, n, opsOf n row, es, k, opsOf k row2, q, f, i⟩ = mkL f q ((opsOf k row2).drop i.toNat) (opsOf n row) es := rfl
  unfold tkNO at key
  simp only [hres] at key
  rcases Ans.br_some hr1 with ⟨hq, hr2⟩ | ⟨hq, hr2⟩
  · obtain ⟨r, hr'⟩ := Option.isSome_iff_exists.1 hq
    have hmr : mkR f q ((opsOf k row2).drop i.toNat) (opsOf n row) es = r := by unfold mkR; rw [hr']; rfl
    rw [hmr] at hr2
    rw [hr'] at key
    simp only [shOf] at key
    rcases Ans.br_some hr2 with ⟨hq2, hr3⟩ | ⟨hq2, hr3⟩
    · rw [hq2] at key
      simp only [Ans.res, Option.some.injEq, Prod.mk.injEq] at hr3
      obtain ⟨rfl, rfl⟩ := hr3
      exact key
    · rw [hq2] at key
      simp only [Ans.res, Option.some.injEq, Prod.mk.injEq] at hr3
      obtain ⟨rfl, rfl⟩ := hr3
      exact key
  · have hn : mkL f q ((opsOf k row2).drop i.toNat) (opsOf n row) es = none := by
      cases hm : mkL f q ((opsOf k row2).drop i.toNat) (opsOf n row) es with
      | none => rfl
      | some r => rw [hm] at hq; cases hq
    rw [hn] at key
    simp only [Ans.res, Option.some.injEq, Prod.mk.injEq] at hr2
    obtain ⟨rfl, rfl⟩ := hr2
    exact key


/-- The memory at the inner loop, read. -/
def tkMD (m : Mem) : Option (Sh × List Value × Nat × (Nat → List Value) × ES × List Value × List Value × Nat × (Nat → List Value)) := match m with
  | [.cells true 0 cs, .rows true true 12 n2 row, .mp true 12 es, .gone, .cells true 0 co, .cells true 0 [], .rows true true 12 1 row3, .rows true true 12 k2 row2] => some (.e, cs, n2, row, es, co, row3 0, k2, row2)
  | [.cells true 0 cs, .rows true true 12 n2 row, .mp true 12 es, .gone, .cells true 0 co, .cells true 0 [], .rows true true 12 1 row3, .rows true true 12 k2 row2, .no] => some (.a, cs, n2, row, es, co, row3 0, k2, row2)
  | [.cells true 0 cs, .gone, .mp true 12 es, .gone, .cells true 0 co, .cells true 0 [], .rows true true 12 1 row3, .rows true true 12 k2 row2, .rows true true 12 n2 row] => some (.b, cs, n2, row, es, co, row3 0, k2, row2)
  | _ => none
def tkMat (sh : Sh) : Nat := match sh with
  | .b => 8
  | _ => 1
theorem tkMD_spec {m : Mem} {sh : Sh} {cs co co2 : List Value} {n n2 k k2 : Nat} {row row2 : Nat → List Value} {es : ES} {o : O3} (h : tkMD m = some (sh, cs, n2, row, es, co, co2, k2, row2)) (hcs : cs = [.slice (some ⟨tkMat sh, 0, some 0⟩) n 12, .map (some 2), .slice (some ⟨7, 0, some 0⟩) k 12]) (h1 : n = n2) (h2 : k = k2) (h3 : co = o.cells) (h4 : co2 = o.cells) (h5 : okOps n row = true) (h6 : okOps k row2 = true) :
    LikeL m (tkMM sh o n (opsOf n row) es k (opsOf k row2)) := by
  subst h1 h2 hcs h3
  unfold tkMD at h
  split at h
  all_goals first | (simp only [Option.some.injEq, Prod.mk.injEq] at h; obtain ⟨rfl, rfl, rfl, rfl, rfl, rfl, rfl, rfl, rfl⟩ := h) | cases h
  · exact ⟨.refl _, .rows (ops_like h5), .refl _, .refl _, .refl _, .refl _, .rows (one_like h4), .rows (ops_like h6), trivial⟩
  · exact ⟨.refl _, .rows (ops_like h5), .refl _, .refl _, .refl _, .refl _, .rows (one_like h4), .rows (ops_like h6), .refl _, trivial⟩
  · exact ⟨.refl _, .refl _, .refl _, .refl _, .refl _, .refl _, .rows (one_like h4), .rows (ops_like h6), .rows (ops_like h5), trivial⟩
def tkMS (st : St) : Option (Ans (Exit × St)) :=
  match Nat.beq st.tmps.length 68, tAt st 0, tAt st 4, tAt st 7, tAt st 8, tAt st 49, tAt st 50, tAt st 51, tkMD (thaw (killV st.mem)) with
  | true, some (.pointer (some ⟨0, 0, none⟩)), some (.bool b4), some (.int .i64 q), some (.int .i64 f), some (.slice (some ⟨7, 0, some 0⟩) kk 12), some (.int .i64 lk), some (.int .i64 i), some (sh, cs, n2, row, es, co, co2, k2, row2) =>
    match b4, cs, opCells co, opCells co2 with
    | false, [.slice (some ⟨a, 0, some 0⟩) n 12, .map (some 2), .slice (some ⟨7, 0, some 0⟩) k 12], some o, some o2 => match Nat.beq a (tkMat sh) with
      | true => some (.br (tkTest n n2 k k2 kk row row2 lk q f i o o2) (.br (mkL f q ((opsOf k row2).drop i.toNat) (opsOf n row) es).isSome
        (.br (Nat.blt (n0Of sh n) (mkR f q ((opsOf k row2).drop i.toNat) (opsOf n row) es).1.length)
          (.out (.exit 2, stOf 68 [(0, .pointer (some ⟨0, 0, none⟩)), (4, .bool false), (7, vI q), (8, vI f)] (tkMB o (mkR f q ((opsOf k row2).drop i.toNat) (opsOf n row) es).1.length (mkR f q ((opsOf k row2).drop i.toNat) (opsOf n row) es).1 (mkR f q ((opsOf k row2).drop i.toNat) (opsOf n row) es).2 k (opsOf k row2))))
          (.out (.exit 2, stOf 68 [(0, .pointer (some ⟨0, 0, none⟩)), (4, .bool false), (7, vI q), (8, vI f)] (tkMA o (mkR f q ((opsOf k row2).drop i.toNat) (opsOf n row) es).1.length (mkR f q ((opsOf k row2).drop i.toNat) (opsOf n row) es).1 (mkR f q ((opsOf k row2).drop i.toNat) (opsOf n row) es).2 k (opsOf k row2)))))
        (.out (.ret, stOf 68 [(0, .pointer (some ⟨0, 0, none⟩)), (4, .bool false), (7, vI q), (8, vI f)] (tkMX o)))) .fail)
      | false => none
    | _, _, _, _ => none
  | _, _, _, _, _, _, _, _, _ => none
theorem tkMK {st : St} {ans : Ans (Exit × St)} {e_ : Exit} {s_ : St} (h : tkMS st = some ans) (hr : ans.res = some (e_, s_)) : LoopSem Try.prog 4 (tkX Try.prog) st e_ s_ := by
  unfold tkMS at h
  split at h
  rotate_left
  · cases h
  rename_i b4 q f kk lk i sh cs n2 row es co co2 k2 row2 hb hs0 hs1 hs2 hs3 hs4 hs5 hs6 hD
  split at h
  rotate_left
  · cases h
  rename_i a n k o o2 hc1 hc2
  split at h
  rotate_left
  · cases h
  rename_i ha
  simp only [Option.some.injEq] at h
  subst h
  rcases Ans.br_some hr with ⟨hc, hr1⟩ | ⟨_, hr1⟩
  rotate_left
  · simp [Ans.res] at hr1
  clear hr
  have ha := beq_len ha
  unfold tkTest at hc
  simp only [Bool.and_eq_true, decide_eq_true_eq] at hc
  obtain ⟨c1, c2, c3, c4, c5, c6, c7, c8, c9, c10, c11, c12, c13, c14⟩ := hc
  have c1 := beq_len c1
  have c3 := beq_len c3
  have c5 := beq_len c5
  have hoo : o2 = o := (O3.eqB_iff.1 c7).symm
  subst hoo
  have hlike := tkMD_spec (o := o2) (n := n) (k := k) hD (by rw [ha]) c1 c3 (opCells_spec hc1) (opCells_spec hc2) c2 c4
  have hI : tkInv ⟨sh, o2, n0Of sh n, n, opsOf n row, es, k, opsOf k row2, q, f, i⟩ := by
    unfold tkInv
    simp only
    refine ⟨opsOf_length n row, opsOf_length k row2, c8, c9, c10, c11, c12, c13, by omega, by omega, ?_, ?_⟩
    · cases sh <;> simp [n0Of]
    · cases sh <;> simp [n0Of, Sh.ok]
      omega
  have key := tkML _ hI
  have key := LoopSem.like (tm := (tkMHg ⟨sh, o2, n0Of sh n, n, opsOf n row, es, k, opsOf k row2, q, f, i⟩).tmps) (m := thaw (killV st.mem)) key hlike
  have key := LoopSem.fresh key
  have hk : keepL [0, 4, 7, 8, 49, 50, 51] 0 st.tmps = (tkMHg ⟨sh, o2, n0Of sh n, n, opsOf n row, es, k, opsOf k row2, q, f, i⟩).tmps := by
    have := keep_eq [(0, .pointer (some ⟨0, 0, none⟩)), (4, .bool false), (7, vI q), (8, vI f), (49, .slice (some ⟨7, 0, some 0⟩) k 12), (50, vI k), (51, vI i)] st.tmps 0 (by
      intro x hx _
      simp only [List.mem_cons, List.not_mem_nil, or_false] at hx
      rcases hx with rfl | rfl | rfl | rfl | rfl | rfl | rfl
      · exact hs0
      · exact hs1
      · exact hs2
      · exact hs3
      · rw [← c5] at hs4; exact hs4
      · rw [← c6] at hs5; exact hs5
      · exact hs6)
    rw [show (keepL [0, 4, 7, 8, 49, 50, 51] 0 st.tmps) = _ from this, beq_len hb]
    rfl
  rw [← hk] at key
  have key : LoopSem Try.prog 4 (tkX Try.prog) st _ _ := LoopSem.clean (mask := [0, 4, 7, 8, 49, 50, 51]) key
  have hres : tkRes ⟨sh, o2, n0Of sh n, n, opsOf n row, es, k, opsOf k row2, q, f, i⟩ = mkL f q ((opsOf k row2).drop i.toNat) (opsOf n row) es := rfl
  unfold tkMO at key
  simp only [hres] at key
  rcases Ans.br_some hr1 with ⟨hq, hr2⟩ | ⟨hq, hr2⟩
  · obtain ⟨r, hr'⟩ := Option.isSome_iff_exists.1 hq
    have hmr : mkR f q ((opsOf k row2).drop i.toNat) (opsOf n row) es = r := by unfold mkR; rw [hr']; rfl
    rw [hmr] at hr2
    rw [hr'] at key
    simp only [shOf] at key
    rcases Ans.br_some hr2 with ⟨hq2, hr3⟩ | ⟨hq2, hr3⟩
    · rw [hq2] at key
      simp only [Ans.res, Option.some.injEq, Prod.mk.injEq] at hr3
      obtain ⟨rfl, rfl⟩ := hr3
      exact key
    · rw [hq2] at key
      simp only [Ans.res, Option.some.injEq, Prod.mk.injEq] at hr3
      obtain ⟨rfl, rfl⟩ := hr3
      exact key
  · have hn : mkL f q ((opsOf k row2).drop i.toNat) (opsOf n row) es = none := by
      cases hm : mkL f q ((opsOf k row2).drop i.toNat) (opsOf n row) es with
      | none => rfl
      | some r => rw [hm] at hq; cases hq
    rw [hn] at key
    simp only [Ans.res, Option.some.injEq, Prod.mk.injEq] at hr2
    obtain ⟨rfl, rfl⟩ := hr2
    exact key

def Ctk (P : Program) : Cx := ((Ctd P).addLB 78 10 4 tkMS).addLB 78 10 3 tkNS
theorem oktk : CxOk (Ctk Try.prog) := Cx.addLB_ok (Cx.addLB_ok oktd tkX_eq fun _ _ _ _ h hr => tkMK h hr) tkX_eq fun _ _ _ _ h hr => tkNK h hr
end Go.Proofs.Ytjpfnfckpgilgaa


namespace Go.Proofs.Ytjpfnfckpgilgaa
open Go Vx
def otX (P : Program) : Code := (loopsOf P 78 7).headD .skip
theorem otX_eq : loopsOf Try.prog 78 7 = [otX Try.prog] := by kernel_rfl

def otNH (m : Mem) (q f : Int) : St := stOf 68 [(0, .pointer (some ⟨0, 0, none⟩)), (4, .bool false), (7, vI q), (8, vI f)] m
theorem otNRE (o : O3) (n : Nat) (xs : List O3) (es : ES) (k : Nat) (ms : List O3) (q f : Int) : roundR ((Ctk Try.prog).into 78 3) 40 (otX Try.prog) [0, 4, 7, 8] [4] [.fix 0, .fix 1, .fix 2, .fix 3, .fix 4, .fix 5, .cell 0 2, .cellN 0 0 3] [.fix 0, .fix 1, .fix 2, .fix 3, .fix 4, .fix 5, .cell 0 2, .cellN 0 0 3] (otNH (tkNE o n xs es k ms) q f) =
    (match decide (f < (n : Int)) with
    | true => match tkTest n n k k k (opRow xs) (opRow ms) k q f 0 o o with
      | true => match (mkL f q ((opsOf k (opRow ms)).drop (0 : Int).toNat) (opsOf n (opRow xs)) es).isSome with
        | true => match Nat.blt (n0Of .e n) (mkR f q ((opsOf k (opRow ms)).drop (0 : Int).toNat) (opsOf n (opRow xs)) es).1.length with
          | true => some (.normal, otNH (tkNB o (mkR f q ((opsOf k (opRow ms)).drop (0 : Int).toNat) (opsOf n (opRow xs)) es).1.length (mkR f q ((opsOf k (opRow ms)).drop (0 : Int).toNat) (opsOf n (opRow xs)) es).1 (mkR f q ((opsOf k (opRow ms)).drop (0 : Int).toNat) (opsOf n (opRow xs)) es).2 k (opsOf k (opRow ms))) q (W (f + q)))
          | false => some (.normal, otNH (tkNA o (mkR f q ((opsOf k (opRow ms)).drop (0 : Int).toNat) (opsOf n (opRow xs)) es).1.length (mkR f q ((opsOf k (opRow ms)).drop (0 : Int).toNat) (opsOf n (opRow xs)) es).1 (mkR f q ((opsOf k (opRow ms)).drop (0 : Int).toNat) (opsOf n (opRow xs)) es).2 k (opsOf k (opRow ms))) q (W (f + q)))
        | false => some (.ret, stOf 68 [(4, .bool false)] (tkNX o))
      | false => none
    | false => some (.exit 0, stOf 68 [(4, .bool false)] (tkNA o n xs es k ms))) := by kernel_rfl
theorem otNRA (o : O3) (n : Nat) (xs : List O3) (es : ES) (k : Nat) (ms : List O3) (q f : Int) : roundR ((Ctk Try.prog).into 78 3) 40 (otX Try.prog) [0, 4, 7, 8] [4] [.fix 0, .fix 1, .fix 2, .fix 3, .fix 4, .fix 5, .cell 0 2, .cellN 0 0 3] [.fix 0, .fix 1, .fix 2, .fix 3, .fix 4, .fix 5, .cell 0 2, .cellN 0 0 3] (otNH (tkNA o n xs es k ms) q f) =
    (match decide (f < (n : Int)) with
    | true => match tkTest n n k k k (opRow xs) (opRow ms) k q f 0 o o with
      | true => match (mkL f q ((opsOf k (opRow ms)).drop (0 : Int).toNat) (opsOf n (opRow xs)) es).isSome with
        | true => match Nat.blt (n0Of .a n) (mkR f q ((opsOf k (opRow ms)).drop (0 : Int).toNat) (opsOf n (opRow xs)) es).1.length with
          | true => some (.normal, otNH (tkNB o (mkR f q ((opsOf k (opRow ms)).drop (0 : Int).toNat) (opsOf n (opRow xs)) es).1.length (mkR f q ((opsOf k (opRow ms)).drop (0 : Int).toNat) (opsOf n (opRow xs)) es).1 (mkR f q ((opsOf k (opRow ms)).drop (0 : Int).toNat) (opsOf n (opRow xs)) es).2 k (opsOf k (opRow ms))) q (W (f + q)))
          | false => some (.normal, otNH (tkNA o (mkR f q ((opsOf k (opRow ms)).drop (0 : Int).toNat) (opsOf n (opRow xs)) es).1.length (mkR f q ((opsOf k (opRow ms)).drop (0 : Int).toNat) (opsOf n (opRow xs)) es).1 (mkR f q ((opsOf k (opRow ms)).drop (0 : Int).toNat) (opsOf n (opRow xs)) es).2 k (opsOf k (opRow ms))) q (W (f + q)))
        | false => some (.ret, stOf 68 [(4, .bool false)] (tkNX o))
      | false => none
    | false => some (.exit 0, stOf 68 [(4, .bool false)] (tkNA o n xs es k ms))) := by kernel_rfl
theorem otNRB (o : O3) (n : Nat) (xs : List O3) (es : ES) (k : Nat) (ms : List O3) (q f : Int) : roundR ((Ctk Try.prog).into 78 3) 40 (otX Try.prog) [0, 4, 7, 8] [4] [.fix 0, .fix 1, .fix 2, .fix 3, .fix 4, .fix 5, .cell 0 2, .cellN 0 0 3] [.fix 0, .fix 1, .fix 2, .fix 3, .fix 4, .fix 5, .cell 0 2, .cellN 0 0 3] (otNH (tkNB o n xs es k ms) q f) =
    (match decide (f < (n : Int)) with
    | true => match tkTest n n k k k (opRow xs) (opRow ms) k q f 0 o o with
      | true => match (mkL f q ((opsOf k (opRow ms)).drop (0 : Int).toNat) (opsOf n (opRow xs)) es).isSome with
        | true => match Nat.blt (n0Of .b n) (mkR f q ((opsOf k (opRow ms)).drop (0 : Int).toNat) (opsOf n (opRow xs)) es).1.length with
          | true => some (.normal, otNH (tkNB o (mkR f q ((opsOf k (opRow ms)).drop (0 : Int).toNat) (opsOf n (opRow xs)) es).1.length (mkR f q ((opsOf k (opRow ms)).drop (0 : Int).toNat) (opsOf n (opRow xs)) es).1 (mkR f q ((opsOf k (opRow ms)).drop (0 : Int).toNat) (opsOf n (opRow xs)) es).2 k (opsOf k (opRow ms))) q (W (f + q)))
          | false => some (.normal, otNH (tkNA o (mkR f q ((opsOf k (opRow ms)).drop (0 : Int).toNat) (opsOf n (opRow xs)) es).1.length (mkR f q ((opsOf k (opRow ms)).drop (0 : Int).toNat) (opsOf n (opRow xs)) es).1 (mkR f q ((opsOf k (opRow ms)).drop (0 : Int).toNat) (opsOf n (opRow xs)) es).2 k (opsOf k (opRow ms))) q (W (f + q)))
        | false => some (.ret, stOf 68 [(4, .bool false)] (tkNX o))
      | false => none
    | false => some (.exit 0, stOf 68 [(4, .bool false)] (tkNB o n xs es k ms))) := by kernel_rfl


def otMH (m : Mem) (q f : Int) : St := stOf 68 [(0, .pointer (some ⟨0, 0, none⟩)), (4, .bool false), (7, vI q), (8, vI f)] m
theorem otMRE (o : O3) (n : Nat) (xs : List O3) (es : ES) (k : Nat) (ms : List O3) (q f : Int) : roundR ((Ctk Try.prog).into 78 4) 40 (otX Try.prog) [0, 4, 7, 8] [4] [.fix 0, .fix 1, .fix 2, .fix 3, .fix 4, .fix 5, .fix 6, .cell 0 2, .cellN 0 0 4] [.fix 0, .fix 1, .fix 2, .fix 3, .fix 4, .fix 5, .fix 6, .cell 0 2, .cellN 0 0 4] (otMH (tkME o n xs es k ms) q f) =
    (match decide (f < (n : Int)) with
    | true => match tkTest n n k k k (opRow xs) (opRow ms) k q f 0 o o with
      | true => match (mkL f q ((opsOf k (opRow ms)).drop (0 : Int).toNat) (opsOf n (opRow xs)) es).isSome with
        | true => match Nat.blt (n0Of .e n) (mkR f q ((opsOf k (opRow ms)).drop (0 : Int).toNat) (opsOf n (opRow xs)) es).1.length with
          | true => some (.normal, otMH (tkMB o (mkR f q ((opsOf k (opRow ms)).drop (0 : Int).toNat) (opsOf n (opRow xs)) es).1.length (mkR f q ((opsOf k (opRow ms)).drop (0 : Int).toNat) (opsOf n (opRow xs)) es).1 (mkR f q ((opsOf k (opRow ms)).drop (0 : Int).toNat) (opsOf n (opRow xs)) es).2 k (opsOf k (opRow ms))) q (W (f + q)))
          | false => some (.normal, otMH (tkMA o (mkR f q ((opsOf k (opRow ms)).drop (0 : Int).toNat) (opsOf n (opRow xs)) es).1.length (mkR f q ((opsOf k (opRow ms)).drop (0 : Int).toNat) (opsOf n (opRow xs)) es).1 (mkR f q ((opsOf k (opRow ms)).drop (0 : Int).toNat) (opsOf n (opRow xs)) es).2 k (opsOf k (opRow ms))) q (W (f + q)))
        | false => some (.ret, stOf 68 [(4, .bool false)] (tkMX o))
      | false => none
    | false => some (.exit 0, stOf 68 [(4, .bool false)] (tkMA o n xs es k ms))) := by kernel_rfl
theorem otMRA (o : O3) (n : Nat) (xs : List O3) (es : ES) (k : Nat) (ms : List O3) (q f : Int) : roundR ((Ctk Try.prog).into 78 4) 40 (otX Try.prog) [0, 4, 7, 8] [4] [.fix 0, .fix 1, .fix 2, .fix 3, .fix 4, .fix 5, .fix 6, .cell 0 2, .cellN 0 0 4] [.fix 0, .fix 1, .fix 2, .fix 3, .fix 4, .fix 5, .fix 6, .cell 0 2, .cellN 0 0 4] (otMH (tkMA o n xs es k ms) q f) =
    (match decide (f < (n : Int)) with
    | true => match tkTest n n k k k (opRow xs) (opRow ms) k q f 0 o o with
      | true => match (mkL f q ((opsOf k (opRow ms)).drop (0 : Int).toNat) (opsOf n (opRow xs)) es).isSome with
        | true => match Nat.blt (n0Of .a n) (mkR f q ((opsOf k (opRow ms)).drop (0 : Int).toNat) (opsOf n (opRow xs)) es).1.length with
          | true => some (.normal, otMH (tkMB o (mkR f q ((opsOf k (opRow ms)).drop (0 : Int).toNat) (opsOf n (opRow xs)) es).1.length (mkR f q ((opsOf k (opRow ms)).drop (0 : Int).toNat) (opsOf n (opRow xs)) es).1 (mkR f q ((opsOf k (opRow ms)).drop (0 : Int).toNat) (opsOf n (opRow xs)) es).2 k (opsOf k (opRow ms))) q (W (f + q)))
          | false => some (.normal, otMH (tkMA o (mkR f q ((opsOf k (opRow ms)).drop (0 : Int).toNat) (opsOf n (opRow xs)) es).1.length (mkR f q ((opsOf k (opRow ms)).drop (0 : Int).toNat) (opsOf n (opRow xs)) es).1 (mkR f q ((opsOf k (opRow ms)).drop (0 : Int).toNat) (opsOf n (opRow xs)) es).2 k (opsOf k (opRow ms))) q (W (f + q)))
        | false => some (.ret, stOf 68 [(4, .bool false)] (tkMX o))
      | false => none
    | false => some (.exit 0, stOf 68 [(4, .bool false)] (tkMA o n xs es k ms))) := by kernel_rfl
theorem otMRB (o : O3) (n : Nat) (xs : List O3) (es : ES) (k : Nat) (ms : List O3) (q f : Int) : roundR ((Ctk Try.prog).into 78 4) 40 (otX Try.prog) [0, 4, 7, 8] [4] [.fix 0, .fix 1, .fix 2, .fix 3, .fix 4, .fix 5, .fix 6, .cell 0 2, .cellN 0 0 4] [.fix 0, .fix 1, .fix 2, .fix 3, .fix 4, .fix 5, .fix 6, .cell 0 2, .cellN 0 0 4] (otMH (tkMB o n xs es k ms) q f) =
    (match decide (f < (n : Int)) with
    | true => match tkTest n n k k k (opRow xs) (opRow ms) k q f 0 o o with
      | true => match (mkL f q ((opsOf k (opRow ms)).drop (0 : Int).toNat) (opsOf n (opRow xs)) es).isSome with
        | true => match Nat.blt (n0Of .b n) (mkR f q ((opsOf k (opRow ms)).drop (0 : Int).toNat) (opsOf n (opRow xs)) es).1.length with
          | true => some (.normal, otMH (tkMB o (mkR f q ((opsOf k (opRow ms)).drop (0 : Int).toNat) (opsOf n (opRow xs)) es).1.length (mkR f q ((opsOf k (opRow ms)).drop (0 : Int).toNat) (opsOf n (opRow xs)) es).1 (mkR f q ((opsOf k (opRow ms)).drop (0 : Int).toNat) (opsOf n (opRow xs)) es).2 k (opsOf k (opRow ms))) q (W (f + q)))
          | false => some (.normal, otMH (tkMA o (mkR f q ((opsOf k (opRow ms)).drop (0 : Int).toNat) (opsOf n (opRow xs)) es).1.length (mkR f q ((opsOf k (opRow ms)).drop (0 : Int).toNat) (opsOf n (opRow xs)) es).1 (mkR f q ((opsOf k (opRow ms)).drop (0 : Int).toNat) (opsOf n (opRow xs)) es).2 k (opsOf k (opRow ms))) q (W (f + q)))
        | false => some (.ret, stOf 68 [(4, .bool false)] (tkMX o))
      | false => none
    | false => some (.exit 0, stOf 68 [(4, .bool false)] (tkMB o n xs es k ms))) := by kernel_rfl

end Go.Proofs.Ytjpfnfckpgilgaa


namespace Go.Proofs.Ytjpfnfckpgilgaa
open Go Vx
/-- The makers behind the first map of each coset, one coset after the other. -/
def outL (q : Int) (ms : List O3) : Nat → Int → List O3 → ES → Option (List O3 × ES)
  | 0, _, xs, es => some (xs, es)
  | N + 1, f, xs, es => match decide (f < (xs.length : Int)) with
    | true => match mkL f q ms xs es with
      | some r => outL q ms N (f + q) r.1 r.2
      | none => none
    | false => some (xs, es)
theorem tcStep_len {m b : O3} {q : Int} (hq : 0 < q) {xs : List O3} {es : ES} (h : xs.length ≤ 192) {r : List O3 × ES} (hr : tcStep m b q xs es = some r) : xs.length ≤ r.1.length ∧ r.1.length ≤ 192 := by
  unfold tcStep at hr
  split at hr
  · cases hr
  · split at hr
    · simp only [Option.some.injEq] at hr; subst hr; exact ⟨Nat.le_refl _, h⟩
    · split at hr
      · cases hr
      · rename_i hb
        split at hr
        · rename_i hc
          simp only [Option.some.injEq] at hr
          subst hr
          have hl := cosL_true _ _ _ _ hc
          have hb' : ¬ ((xs.length : Int) + q > 192) := by simpa using hb
          rw [hl]
          simp
          omega
        · cases hr
theorem mkL_len {f q : Int} (hq : 0 < q) : ∀ (l : List O3) {xs : List O3} {es : ES}, xs.length ≤ 192 → ∀ {r : List O3 × ES}, mkL f q l xs es = some r → xs.length ≤ r.1.length ∧ r.1.length ≤ 192
  | [], xs, es, h, r, hr => by simp only [mkL, Option.some.injEq] at hr; subst hr; exact ⟨Nat.le_refl _, h⟩
  | m :: l, xs, es, h, r, hr => by
    simp only [mkL] at hr
    split at hr
    · rename_i s hs
      obtain ⟨h1, h2⟩ := tcStep_len hq h hs
      obtain ⟨h3, h4⟩ := mkL_len hq l h2 hr
      exact ⟨by omega, h4⟩
    · cases hr
structure otG where
  (sh : Sh) (o : O3) (n0 n : Nat) (xs : List O3) (es : ES) (k : Nat) (ms : List O3) (q f : Int) (N : Nat)
def otInv (g : otG) : Prop := g.xs.length = g.n ∧ g.ms.length = g.k ∧ 0 < g.q ∧ g.q ≤ (g.n : Int) ∧ g.n ≤ 192 ∧ 0 ≤ g.f ∧ g.k ≤ 1000 ∧ (193 : Int) ≤ g.N + g.f ∧ g.f ≤ 400 ∧ g.n0 ≤ g.n ∧ g.n0 ≤ g.n ∧ g.sh.ok g.n0 g.n
theorem tkTest_ok {n k : Nat} {xs ms : List O3} {q f : Int} {o : O3} (h3 : 0 < q) (h4 : q ≤ (n : Int)) (h5 : n ≤ 192) (h6 : 0 ≤ f) (h7 : f < (n : Int)) (h8 : k ≤ 1000) : tkTest n n k k k (opRow xs) (opRow ms) k q f 0 o o = true := by
  unfold tkTest
  rw [Nat.beq_refl, Nat.beq_refl, okOps_opRow, okOps_opRow, O3.eqB_refl]
  simp [h3, h4, h5, h6, h7, h8]

def otNHg (g : otG) : St := otNH (tkNM g.sh g.o g.n g.xs g.es g.k g.ms) g.q g.f
theorem otNRd (sh : Sh) (o : O3) (n : Nat) (xs : List O3) (es : ES) (k : Nat) (ms : List O3) (q f : Int) (hx : xs.length = n) (hm : ms.length = k) : roundR ((Ctk Try.prog).into 78 3) 40 (otX Try.prog) [0, 4, 7, 8] [4] [.fix 0, .fix 1, .fix 2, .fix 3, .fix 4, .fix 5, .cell 0 2, .cellN 0 0 3] [.fix 0, .fix 1, .fix 2, .fix 3, .fix 4, .fix 5, .cell 0 2, .cellN 0 0 3] (otNH (tkNM sh o n xs es k ms) q f) =
    (match decide (f < (n : Int)) with
    | true => match tkTest n n k k k (opRow xs) (opRow ms) k q f 0 o o with
      | true => match (mkL f q ms xs es).isSome with
        | true => some (.normal, otNH (tkNM (shOf (n0Of sh n) (mkR f q ms xs es).1) o (mkR f q ms xs es).1.length (mkR f q ms xs es).1 (mkR f q ms xs es).2 k ms) q (W (f + q)))
        | false => some (.ret, stOf 68 [(4, .bool false)] (tkNX o))
      | false => none
    | false => some (.exit 0, stOf 68 [(4, .bool false)] (tkNM sh.next o n xs es k ms))) := by
  have e0 : ms.drop (0 : Int).toNat = ms := rfl
  cases sh with
  | e =>
    have := otNRE o n xs es k ms q f
    rw [opsOf_row hx, opsOf_row hm, e0] at this
    rw [show otNH (tkNM .e o n xs es k ms) q f = otNH (tkNE o n xs es k ms) q f from rfl, this]
    unfold shOf
    cases Nat.blt (n0Of .e n) (mkR f q ms xs es).1.length <;> rfl
  | a =>
    have := otNRA o n xs es k ms q f
    rw [opsOf_row hx, opsOf_row hm, e0] at this
    rw [show otNH (tkNM .a o n xs es k ms) q f = otNH (tkNA o n xs es k ms) q f from rfl, this]
    unfold shOf
    cases Nat.blt (n0Of .a n) (mkR f q ms xs es).1.length <;> rfl
  | b =>
    have := otNRB o n xs es k ms q f
    rw [opsOf_row hx, opsOf_row hm, e0] at this
    rw [show otNH (tkNM .b o n xs es k ms) q f = otNH (tkNB o n xs es k ms) q f from rfl, this]
    unfold shOf
    cases Nat.blt (n0Of .b n) (mkR f q ms xs es).1.length <;> rfl
def otNO (g : otG) : Exit × St := match outL g.q g.ms g.N g.f g.xs g.es with
  | some r => (.exit 0, stOf 68 [(4, .bool false)] (tkNM (shOf g.n0 r.1) g.o r.1.length r.1 r.2 g.k g.ms))
  | none => (.ret, stOf 68 [(4, .bool false)] (tkNX g.o))
theorem otNL (g : otG) (hg : otInv g) : LoopSem Try.prog 3 (otX Try.prog) (otNHg g) (otNO g).1 (otNO g).2 := by
  refine loop_rule2 (C := Ctk Try.prog) oktk (f := 78) (B := 3) (loopsOf_in (k := 7) otX_eq) 40 [0, 4, 7, 8] [4] [.fix 0, .fix 1, .fix 2, .fix 3, .fix 4, .fix 5, .cell 0 2, .cellN 0 0 3] [.fix 0, .fix 1, .fix 2, .fix 3, .fix 4, .fix 5, .cell 0 2, .cellN 0 0 3] otNHg (fun g => g.N) otInv otNO ?_ g hg
  clear hg g
  rintro ⟨sh, o, n0, n, xs, es, k, ms, q, f, N⟩ hg
  unfold otInv at hg
  simp only at hg
  obtain ⟨h1, h2, h3, h4, h5, h6, h7, h8, h9, h10, h11⟩ := hg
  have hR := otNRd sh o n xs es k ms q f h1 h2
  by_cases hf : f < (n : Int)
  · have hd : decide (f < (n : Int)) = true := by simpa using hf
    have ht : tkTest n n k k k (opRow xs) (opRow ms) k q f 0 o o = true := tkTest_ok h3 h4 h5 h6 hf h7
    have hw : W (f + q) = f + q := W_in (by omega)
    rw [hd, ht, hw] at hR
    obtain ⟨N, rfl⟩ : ∃ N', N = N' + 1 := ⟨N - 1, by omega⟩
    cases hm : mkL f q ms xs es with
    | none =>
      right
      have hres : outL q ms (N + 1) f xs es = none := by simp only [outL, h1, hd, hm]
      simp only [hm, Option.isSome_none] at hR
      exact ⟨stOf 68 [(4, .bool false)] (tkNX o), by unfold otNHg otNO; simp only [hres]; exact hR, by unfold otNO; simp only [hres]; exact StLike.refl _, by unfold otNO; simp [hres]⟩
    | some r =>
      left
      have hmr : mkR f q ms xs es = r := by unfold mkR; rw [hm]; rfl
      simp only [hm, Option.isSome_some, hmr] at hR
      obtain ⟨l1, l2⟩ := mkL_len h3 ms (by omega) hm
      have hsh : shOf (n0Of sh n) r.1 = shOf n0 r.1 := by
        unfold shOf
        cases sh with
        | b =>
          have : n0 < n := h11.2
          rw [show Nat.blt (n0Of .b n) r.1.length = true by rw [Nat.blt_eq]; simp only [n0Of]; omega, show Nat.blt n0 r.1.length = true by rw [Nat.blt_eq]; omega]
        | e => have : n = n0 := h11.2; simp only [n0Of, this]
        | a => have : n = n0 := h11.2; simp only [n0Of, this]
      rw [hsh] at hR
      refine ⟨⟨shOf n0 r.1, o, n0, r.1.length, r.1, r.2, k, ms, q, f + q, N⟩, _, hR, StLike.refl _, ?_, by simp only; omega, ?_⟩
      · unfold otInv
        simp only
        refine ⟨trivial, h2, h3, by omega, l2, by omega, h7, by omega, by omega, by omega, ?_⟩
        unfold shOf
        by_cases hlt : n0 < r.1.length
        · rw [show Nat.blt n0 r.1.length = true by rw [Nat.blt_eq]; exact hlt]
          exact ⟨by omega, hlt⟩
        · rw [blt_ff hlt]
          simp only [Sh.ok]
          omega
      · unfold otNO
        simp only [outL, h1, hd, hm]
  · have hd : decide (f < (n : Int)) = false := by simpa using hf
    rw [hd] at hR
    right
    have hres : outL q ms N f xs es = some (xs, es) := by
      cases N with
      | zero => rfl
      | succ N => simp only [outL, h1, hd]
    have hsh : shOf n0 xs = sh.next := shOf_ok h1 h11
    exact ⟨stOf 68 [(4, .bool false)] (tkNM sh.next o n xs es k ms), by unfold otNHg otNO; simp only [hres]; exact hR, by unfold otNO; simp only [hres, h1, hsh]; exact StLike.refl _, by unfold otNO; simp [hres]⟩


def otMHg (g : otG) : St := otMH (tkMM g.sh g.o g.n g.xs g.es g.k g.ms) g.q g.f
theorem otMRd (sh : Sh) (o : O3) (n : Nat) (xs : List O3) (es : ES) (k : Nat) (ms : List O3) (q f : Int) (hx : xs.length = n) (hm : ms.length = k) : roundR ((Ctk Try.prog).into 78 4) 40 (otX Try.prog) [0, 4, 7, 8] [4] [.fix 0, .fix 1, .fix 2, .fix 3, .fix 4, .fix 5, .fix 6, .cell 0 2, .cellN 0 0 4] [.fix 0, .fix 1, .fix 2, .fix 3, .fix 4, .fix 5, .fix 6, .cell 0 2, .cellN 0 0 4] (otMH (tkMM sh o n xs es k ms) q f) =
    (match decide (f < (n : Int)) with
    | true => match tkTest n n k k k (opRow xs) (opRow ms) k q f 0 o o with
      | true => match (mkL f q ms xs es).isSome with
        | true => some (.normal, otMH (tkMM (shOf (n0Of sh n) (mkR f q ms xs es).1) o (mkR f q ms xs es).1.length (mkR f q ms xs es).1 (mkR f q ms xs es).2 k ms) q (W (f + q)))
        | false => some (.ret, stOf 68 [(4, .bool false)] (tkMX o))
      | false => none
    | false => some (.exit 0, stOf 68 [(4, .bool false)] (tkMM sh.next o n xs es k ms))) := by
  have e0 : ms.drop (0 : Int).toNat = ms := rfl
  cases sh with
  | e =>
    have := otMRE o n xs es k ms q f
    rw [opsOf_row hx, opsOf_row hm, e0] at this
    rw [show otMH (tkMM .e o n xs es k ms) q f = otMH (tkME o n xs es k ms) q f from rfl, this]
    unfold shOf
    cases Nat.blt (n0Of .e n) (mkR f q ms xs es).1.length <;> rfl
  | a =>
    have := otMRA o n xs es k ms q f
    rw [opsOf_row hx, opsOf_row hm, e0] at this
    rw [show otMH (tkMM .a o n xs es k ms) q f = otMH (tkMA o n xs es k ms) q f from rfl, this]
    unfold shOf
    cases Nat.blt (n0Of .a n) (mkR f q ms xs es).1.length <;> rfl
  | b =>
    have := otMRB o n xs es k ms q f
    rw [opsOf_row hx, opsOf_row hm, e0] at this
    rw [show otMH (tkMM .b o n xs es k ms) q f = otMH (tkMB o n xs es k ms) q f from rfl, this]
    unfold shOf
    cases Nat.blt (n0Of .b n) (mkR f q ms xs es).1.length <;> rfl
def otMO (g : otG) : Exit × St := match outL g.q g.ms g.N g.f g.xs g.es with
  | some r => (.exit 0, stOf 68 [(4, .bool false)] (tkMM (shOf g.n0 r.1) g.o r.1.length r.1 r.2 g.k g.ms))
  | none => (.ret, stOf 68 [(4, .bool false)] (tkMX g.o))
theorem otML (g : otG) (hg : otInv g) : LoopSem Try.prog 4 (otX Try.prog) (otMHg g) (otMO g).1 (otMO g).2 := by
  refine loop_rule2 (C := Ctk Try.prog) oktk (f := 78) (B := 4) (loopsOf_in (k := 7) otX_eq) 40 [0, 4, 7, 8] [4] [.fix 0, .fix 1, .fix 2, .fix 3, .fix 4, .fix 5, .fix 6, .cell 0 2, .cellN 0 0 4] [.fix 0, .fix 1, .fix 2, .fix 3, .fix 4, .fix 5, .fix 6, .cell 0 2, .cellN 0 0 4] otMHg (fun g => g.N) otInv otMO ?_ g hg
  clear hg g
  rintro ⟨sh, o, n0, n, xs, es, k, ms, q, f, N⟩ hg
  unfold otInv at hg
  simp only at hg
  obtain ⟨h1, h2, h3, h4, h5, h6, h7, h8, h9, h10, h11⟩ := hg
  have hR := otMRd sh o n xs es k ms q f h1 h2
  by_cases hf : f < (n : Int)
  · have hd : decide (f < (n : Int)) = true := by simpa using hf
    have ht : tkTest n n k k k (opRow xs) (opRow ms) k q f 0 o o = true := tkTest_ok h3 h4 h5 h6 hf h7
    have hw : W (f + q) = f + q := W_in (by omega)
    rw [hd, ht, hw] at hR
    obtain ⟨N, rfl⟩ : ∃ N', N = N' + 1 := ⟨N - 1, by omega⟩
    cases hm : mkL f q ms xs es with
    | none =>
      right
      have hres : outL q ms (N + 1) f xs es = none := by simp only [outL, h1, hd, hm]
      simp only [hm, Option.isSome_none] at hR
      exact ⟨stOf 68 [(4, .bool false)] (tkMX o), by unfold otMHg otMO; simp only [hres]; exact hR, by unfold otMO; simp only [hres]; exact StLike.refl _, by unfold otMO; simp [hres]⟩
    | some r =>
      left
      have hmr : mkR f q ms xs es = r := by unfold mkR; rw [hm]; rfl
      simp only [hm, Option.isSome_some, hmr] at hR
      obtain ⟨l1, l2⟩ := mkL_len h3 ms (by omega) hm
      have hsh : shOf (n0Of sh n) r.1 = shOf n0 r.1 := by
        unfold shOf
        cases sh with
        | b =>
          have : n0 < n := h11.2
          rw [show Nat.blt (n0Of .b n) r.1.length = true by rw [Nat.blt_eq]; simp only [n0Of]; omega, show Nat.blt n0 r.1.length = true by rw [Nat.blt_eq]; omega]
        | e => have : n = n0 := h11.2; simp only [n0Of, this]
        | a => have : n = n0 := h11.2; simp only [n0Of, this]
      rw [hsh] at hR
      refine ⟨⟨shOf n0 r.1, o, n0, r.1.length, r.1, r.2, k, ms, q, f + q, N⟩, _, hR, StLike.refl _, ?_, by simp only; omega, ?_⟩
      · unfold otInv
        simp only
        refine ⟨trivial, h2, h3, by omega, l2, by omega, h7, by omega, by omega, by omega, ?_⟩
        unfold shOf
        by_cases hlt : n0 < r.1.length
        · rw [show Nat.blt n0 r.1.length = true by rw [Nat.blt_eq]; exact hlt]
          exact ⟨by omega, hlt⟩
        · rw [blt_ff hlt]
          simp only [Sh.ok]
          omega
      · unfold otMO
        simp only [outL, h1, hd, hm]
  · have hd : decide (f < (n : Int)) = false := by simpa using hf
    rw [hd] at hR
    right
    have hres : outL q ms N f xs es = some (xs, es) := by
      cases N with
      | zero => rfl
      | succ N => simp only [outL, h1, hd]
    have hsh : shOf n0 xs = sh.next := shOf_ok h1 h11
    exact ⟨stOf 68 [(4, .bool false)] (tkMM sh.next o n xs es k ms), by unfold otMHg otMO; simp only [hres]; exact hR, by unfold otMO; simp only [hres, h1, hsh]; exact StLike.refl _, by unfold otMO; simp [hres]⟩

end Go.Proofs.Ytjpfnfckpgilgaa


namespace Go.Proofs.Ytjpfnfckpgilgaa
open Go Vx
def otR (q : Int) (ms xs : List O3) (es : ES) : List O3 × ES := (outL q ms 193 0 xs es).getD ([], [])
def otTest (n n2 k k2 : Nat) (row row2 : Nat → List Value) (q f : Int) (o o2 : O3) : Bool := Nat.beq n n2 && (okOps n row && (Nat.beq k k2 && (okOps k row2 && (o.eqB o2 && (decide (0 < q) && (decide (q ≤ (n : Int)) && (decide (n ≤ 192) && (decide (0 = f) && decide (k ≤ 1000)))))))))

def otNS (st : St) : Option (Ans (Exit × St)) :=
  match Nat.beq st.tmps.length 68, tAt st 0, tAt st 4, tAt st 7, tAt st 8, tkND (thaw (killV st.mem)) with
  | true, some (.pointer (some ⟨0, 0, none⟩)), some (.bool b4), some (.int .i64 q), some (.int .i64 f), some (sh, cs, n2, row, es, co, co2, k2, row2) =>
    match sh, b4, cs, opCells co, opCells co2 with
    | .e, false, [.slice (some ⟨1, 0, some 0⟩) n 12, .map (some 2), .slice (some ⟨6, 0, some 0⟩) k 12], some o, some o2 => some (.br (otTest n n2 k k2 row row2 q f o o2) (.br (outL q (opsOf k row2) 193 0 (opsOf n row) es).isSome
        (.br (Nat.blt n (otR q (opsOf k row2) (opsOf n row) es).1.length)
          (.out (.exit 0, stOf 68 [(4, .bool false)] (tkNB o (otR q (opsOf k row2) (opsOf n row) es).1.length (otR q (opsOf k row2) (opsOf n row) es).1 (otR q (opsOf k row2) (opsOf n row) es).2 k (opsOf k row2))))
          (.out (.exit 0, stOf 68 [(4, .bool false)] (tkNA o (otR q (opsOf k row2) (opsOf n row) es).1.length (otR q (opsOf k row2) (opsOf n row) es).1 (otR q (opsOf k row2) (opsOf n row) es).2 k (opsOf k row2)))))
        (.out (.ret, stOf 68 [(4, .bool false)] (tkNX o)))) .fail)
    | _, _, _, _, _ => none
  | _, _, _, _, _, _ => none
theorem otNK {st : St} {ans : Ans (Exit × St)} {e_ : Exit} {s_ : St} (h : otNS st = some ans) (hr : ans.res = some (e_, s_)) : LoopSem Try.prog 3 (otX Try.prog) st e_ s_ := by
  unfold otNS at h
  split at h
  rotate_left
  · cases h
  rename_i b4 q f sh cs n2 row es co co2 k2 row2 hb hs0 hs1 hs2 hs3 hD
  split at h
  rotate_left
  · cases h
  rename_i n k o o2 hc1 hc2
  simp only [Option.some.injEq] at h
  subst h
  rcases Ans.br_some hr with ⟨hc, hr1⟩ | ⟨_, hr1⟩
  rotate_left
  · simp [Ans.res] at hr1
  clear hr
  unfold otTest at hc
  simp only [Bool.and_eq_true, decide_eq_true_eq] at hc
  obtain ⟨c1, c2, c3, c4, c7, c8, c9, c10, c11, c12⟩ := hc
  have c1 := beq_len c1
  have c3 := beq_len c3
  have hoo : o2 = o := (O3.eqB_iff.1 c7).symm
  subst hoo
  subst c11
  have hlike := tkND_spec (o := o2) (n := n) (k := k) hD rfl c1 c3 (opCells_spec hc1) (opCells_spec hc2) c2 c4
  have hI : otInv ⟨.e, o2, n, n, opsOf n row, es, k, opsOf k row2, q, 0, 193⟩ := by
    unfold otInv
    simp only
    exact ⟨opsOf_length n row, opsOf_length k row2, c8, c9, c10, by omega, c12, by omega, by omega, Nat.le_refl _, Nat.le_refl _, rfl⟩
  have key := otNL _ hI
  have key := LoopSem.like (tm := (otNHg ⟨.e, o2, n, n, opsOf n row, es, k, opsOf k row2, q, 0, 193⟩).tmps) (m := thaw (killV st.mem)) key hlike
  have key := LoopSem.fresh key
  have hk : keepL [0, 4, 7, 8] 0 st.tmps = (otNHg ⟨.e, o2, n, n, opsOf n row, es, k, opsOf k row2, q, 0, 193⟩).tmps := by
    have := keep_eq [(0, .pointer (some ⟨0, 0, none⟩)), (4, .bool false), (7, vI q), (8, vI 0)] st.tmps 0 (by
      intro x hx _
      simp only [List.mem_cons, List.not_mem_nil, or_false] at hx
      rcases hx with rfl | rfl | rfl | rfl
      · exact hs0
      · exact hs1
      · exact hs2
      · exact hs3)
    rw [show (keepL [0, 4, 7, 8] 0 st.tmps) = _ from this, beq_len hb]
    rfl
  rw [← hk] at key
  have key : LoopSem Try.prog 3 (otX Try.prog) st _ _ := LoopSem.clean (mask := [0, 4, 7, 8]) key
  unfold otNO at key
  simp only at key
  rcases Ans.br_some hr1 with ⟨hq, hr2⟩ | ⟨hq, hr2⟩
  · obtain ⟨r, hr'⟩ := Option.isSome_iff_exists.1 hq
    have hmr : (otR q (opsOf k row2) (opsOf n row) es) = r := by unfold otR; rw [hr']; rfl
    rw [hmr] at hr2
    rw [hr'] at key
    simp only [shOf] at key
    rcases Ans.br_some hr2 with ⟨hq2, hr3⟩ | ⟨hq2, hr3⟩
    · rw [hq2] at key
      simp only [Ans.res, Option.some.injEq, Prod.mk.injEq] at hr3
      obtain ⟨rfl, rfl⟩ := hr3
      exact key
    · rw [hq2] at key
      simp only [Ans.res, Option.some.injEq, Prod.mk.injEq] at hr3
      obtain ⟨rfl, rfl⟩ := hr3
      exact key
  · have hn : (outL q (opsOf k row2) 193 0 (opsOf n row) es) = none := by
      cases hm : (outL q (opsOf k row2) 193 0 (opsOf n row) es) with
      | none => rfl
      | some r => rw [hm] at hq; cases hq
    rw [hn] at key
    simp only [Ans.res, Option.some.injEq, Prod.mk.injEq] at hr2
    obtain ⟨rfl, rfl⟩ := hr2
    exact key


def otMS (st : St) : Option (Ans (Exit × St)) :=
  match Nat.beq st.tmps.length 68, tAt st 0, tAt st 4, tAt st 7, tAt st 8, tkMD (thaw (killV st.mem)) with
  | true, some (.pointer (some ⟨0, 0, none⟩)), some (.bool b4), some (.int .i64 q), some (.int .i64 f), some (sh, cs, n2, row, es, co, co2, k2, row2) =>
    match sh, b4, cs, opCells co, opCells co2 with
    | .e, false, [.slice (some ⟨1, 0, some 0⟩) n 12, .map (some 2), .slice (some ⟨7, 0, some 0⟩) k 12], some o, some o2 => some (.br (otTest n n2 k k2 row row2 q f o o2) (.br (outL q (opsOf k row2) 193 0 (opsOf n row) es).isSome
        (.br (Nat.blt n (otR q (opsOf k row2) (opsOf n row) es).1.length)
          (.out (.exit 0, stOf 68 [(4, .bool false)] (tkMB o (otR q (opsOf k row2) (opsOf n row) es).1.length (otR q (opsOf k row2) (opsOf n row) es).1 (otR q (opsOf k row2) (opsOf n row) es).2 k (opsOf k row2))))
          (.out (.exit 0, stOf 68 [(4, .bool false)] (tkMA o (otR q (opsOf k row2) (opsOf n row) es).1.length (otR q (opsOf k row2) (opsOf n row) es).1 (otR q (opsOf k row2) (opsOf n row) es).2 k (opsOf k row2)))))
        (.out (.ret, stOf 68 [(4, .bool false)] (tkMX o)))) .fail)
    | _, _, _, _, _ => none
  | _, _, _, _, _, _ => none
theorem otMK {st : St} {ans : Ans (Exit × St)} {e_ : Exit} {s_ : St} (h : otMS st = some ans) (hr : ans.res = some (e_, s_)) : LoopSem Try.prog 4 (otX Try.prog) st e_ s_ := by
  unfold otMS at h
  split at h
  rotate_left
  · cases h
  rename_i b4 q f sh cs n2 row es co co2 k2 row2 hb hs0 hs1 hs2 hs3 hD
  split at h
  rotate_left
  · cases h
  rename_i n k o o2 hc1 hc2
  simp only [Option.some.injEq] at h
  subst h
  rcases Ans.br_some hr with ⟨hc, hr1⟩ | ⟨_, hr1⟩
  rotate_left
  · simp [Ans.res] at hr1
  clear hr
  unfold otTest at hc
  simp only [Bool.and_eq_true, decide_eq_true_eq] at hc
  obtain ⟨c1, c2, c3, c4, c7, c8, c9, c10, c11, c12⟩ := hc
  have c1 := beq_len c1
  have c3 := beq_len c3
  have hoo : o2 = o := (O3.eqB_iff.1 c7).symm
  subst hoo
  subst c11
  have hlike := tkMD_spec (o := o2) (n := n) (k := k) hD rfl c1 c3 (opCells_spec hc1) (opCells_spec hc2) c2 c4
  have hI : otInv ⟨.e, o2, n, n, opsOf n row, es, k, opsOf k row2, q, 0, 193⟩ := by
    unfold otInv
    simp only
    exact ⟨opsOf_length n row, opsOf_length k row2, c8, c9, c10, by omega, c12, by omega, by omega, Nat.le_refl _, Nat.le_refl _, rfl⟩
  have key := otML _ hI
  have key := LoopSem.like (tm := (otMHg ⟨.e, o2, n, n, opsOf n row, es, k, opsOf k row2, q, 0, 193⟩).tmps) (m := thaw (killV st.mem)) key hlike
  have key := LoopSem.fresh key
  have hk : keepL [0, 4, 7, 8] 0 st.tmps = (otMHg ⟨.e, o2, n, n, opsOf n row, es, k, opsOf k row2, q, 0, 193⟩).tmps := by
    have := keep_eq [(0, .pointer (some ⟨0, 0, none⟩)), (4, .bool false), (7, vI q), (8, vI 0)] st.tmps 0 (by
      intro x hx _
      simp only [List.mem_cons, List.not_mem_nil, or_false] at hx
      rcases hx with rfl | rfl | rfl | rfl
      · exact hs0
      · exact hs1
      · exact hs2
      · exact hs3)
    rw [show (keepL [0, 4, 7, 8] 0 st.tmps) = _ from this, beq_len hb]
    rfl
  rw [← hk] at key
  have key : LoopSem Try.prog 4 (otX Try.prog) st _ _ := LoopSem.clean (mask := [0, 4, 7, 8]) key
  unfold otMO at key
  simp only at key
  rcases Ans.br_some hr1 with ⟨hq, hr2⟩ | ⟨hq, hr2⟩
  · obtain ⟨r, hr'⟩ := Option.isSome_iff_exists.1 hq
    have hmr : (otR q (opsOf k row2) (opsOf n row) es) = r := by unfold otR; rw [hr']; rfl
    rw [hmr] at hr2
    rw [hr'] at key
    simp only [shOf] at key
    rcases Ans.br_some hr2 with ⟨hq2, hr3⟩ | ⟨hq2, hr3⟩
    · rw [hq2] at key
      simp only [Ans.res, Option.some.injEq, Prod.mk.injEq] at hr3
      obtain ⟨rfl, rfl⟩ := hr3
      exact key
    · rw [hq2] at key
      simp only [Ans.res, Option.some.injEq, Prod.mk.injEq] at hr3
      obtain ⟨rfl, rfl⟩ := hr3
      exact key
  · have hn : (outL q (opsOf k row2) 193 0 (opsOf n row) es) = none := by
      cases hm : (outL q (opsOf k row2) 193 0 (opsOf n row) es) with
      | none => rfl
      | some r => rw [hm] at hq; cases hq
    rw [hn] at key
    simp only [Ans.res, Option.some.injEq, Prod.mk.injEq] at hr2
    obtain ⟨rfl, rfl⟩ := hr2
    exact key

def Cot (P : Program) : Cx := ((Ctk P).addLB 78 7 4 otMS).addLB 78 7 3 otNS
theorem okot : CxOk (Cot Try.prog) := Cx.addLB_ok (Cx.addLB_ok oktk otX_eq fun _ _ _ _ h hr => otMK h hr) otX_eq fun _ _ _ _ h hr => otNK h hr
end Go.Proofs.Ytjpfnfckpgilgaa


namespace Go.Proofs.Ytjpfnfckpgilgaa
open Go Vx
def strucC (a n m k : Nat) : Blk := .cells true 0 [.slice (some ⟨a, 0, some 0⟩) n 12, .map (some 2), .slice (some ⟨m, 0, some 0⟩) k 12]
def spanM0 (n : Nat) (xs : List O3) (es : ES) : Mem := [.cells true 0 [.slice (some ⟨1, 0, some 0⟩) n 12, .map (some 2), .slice none 0 0], .rows true true 12 n (opRow xs), .mp true 12 es]
def resNA (n : Nat) (xs : List O3) (es : ES) (k : Nat) (ms : List O3) : Mem := [strucC 1 n 3 k, .rows true true 12 n (opRow xs), .mp true 12 es, .rows true true 12 k (opRow ms), .no]
def resNB (n : Nat) (xs : List O3) (es : ES) (k : Nat) (ms : List O3) : Mem := [strucC 4 n 3 k, .gone, .mp true 12 es, .rows true true 12 k (opRow ms), .rows true true 12 n (opRow xs)]
def resNX : Mem := [.gone, .gone, .gone, .no, .no]
def resMA (n : Nat) (xs : List O3) (es : ES) (k : Nat) (ms : List O3) : Mem := [strucC 1 n 4 k, .rows true true 12 n (opRow xs), .mp true 12 es, .gone, .rows true true 12 k (opRow ms), .no]
def resMB (n : Nat) (xs : List O3) (es : ES) (k : Nat) (ms : List O3) : Mem := [strucC 5 n 4 k, .gone, .mp true 12 es, .gone, .rows true true 12 k (opRow ms), .rows true true 12 n (opRow xs)]
def resMX : Mem := [.gone, .gone, .gone, .gone, .no, .no]
theorem takeN (o : O3) (n : Nat) (xs : List O3) (es : ES) : exT ((Cot Try.prog).at 78) 60 Try.f78 [.pointer (some ⟨0, 0, none⟩), o.v] (spanM0 n xs es) [.fix 0, .fix 1, .fix 2, .cellN 0 2 3, .cellN 0 0 3] =
    (match mHas (key o) es with
    | true => some (.bool true, spanM0 n xs es ++ [.no, .no])
    | false => (gd (otTest n n 1 1 (opRow xs) (chop 12 0 o.cells) n 0 o o) (match (outL (n : Int) (opsOf 1 (chop 12 0 o.cells)) 193 0 (opsOf n (opRow xs)) es).isSome with
      | true => match Nat.blt n (otR (n : Int) (opsOf 1 (chop 12 0 o.cells)) (opsOf n (opRow xs)) es).1.length with
        | true => some (.bool true, resNB (otR (n : Int) (opsOf 1 (chop 12 0 o.cells)) (opsOf n (opRow xs)) es).1.length (otR (n : Int) (opsOf 1 (chop 12 0 o.cells)) (opsOf n (opRow xs)) es).1 (otR (n : Int) (opsOf 1 (chop 12 0 o.cells)) (opsOf n (opRow xs)) es).2 1 (opsOf 1 (chop 12 0 o.cells)))
        | false => some (.bool true, resNA (otR (n : Int) (opsOf 1 (chop 12 0 o.cells)) (opsOf n (opRow xs)) es).1.length (otR (n : Int) (opsOf 1 (chop 12 0 o.cells)) (opsOf n (opRow xs)) es).1 (otR (n : Int) (opsOf 1 (chop 12 0 o.cells)) (opsOf n (opRow xs)) es).2 1 (opsOf 1 (chop 12 0 o.cells)))
      | false => some (.bool false, resNX)))) := by kernel_rfl
theorem takeM (o : O3) (n : Nat) (xs : List O3) (es : ES) (k : Nat) (ms : List O3) : exT ((Cot Try.prog).at 78) 60 Try.f78 [.pointer (some ⟨0, 0, none⟩), o.v] (spanM n xs es k ms) [.fix 0, .fix 1, .fix 2, .fix 3, .cellN 0 2 4, .cellN 0 0 4] =
    (match mHas (key o) es with
    | true => some (.bool true, spanM n xs es k ms ++ [.no, .no])
    | false => gd (fits k) (gd (otTest n n (k + 1) (k + 1) (opRow xs) (catR k (opRow ms) (chop 12 0 o.cells)) n 0 o o) (match (outL (n : Int) (opsOf (k + 1) (catR k (opRow ms) (chop 12 0 o.cells))) 193 0 (opsOf n (opRow xs)) es).isSome with
      | true => match Nat.blt n (otR (n : Int) (opsOf (k + 1) (catR k (opRow ms) (chop 12 0 o.cells))) (opsOf n (opRow xs)) es).1.length with
        | true => some (.bool true, resMB (otR (n : Int) (opsOf (k + 1) (catR k (opRow ms) (chop 12 0 o.cells))) (opsOf n (opRow xs)) es).1.length (otR (n : Int) (opsOf (k + 1) (catR k (opRow ms) (chop 12 0 o.cells))) (opsOf n (opRow xs)) es).1 (otR (n : Int) (opsOf (k + 1) (catR k (opRow ms) (chop 12 0 o.cells))) (opsOf n (opRow xs)) es).2 (k + 1) (opsOf (k + 1) (catR k (opRow ms) (chop 12 0 o.cells))))
        | false => some (.bool true, resMA (otR (n : Int) (opsOf (k + 1) (catR k (opRow ms) (chop 12 0 o.cells))) (opsOf n (opRow xs)) es).1.length (otR (n : Int) (opsOf (k + 1) (catR k (opRow ms) (chop 12 0 o.cells))) (opsOf n (opRow xs)) es).1 (otR (n : Int) (opsOf (k + 1) (catR k (opRow ms) (chop 12 0 o.cells))) (opsOf n (opRow xs)) es).2 (k + 1) (opsOf (k + 1) (catR k (opRow ms) (chop 12 0 o.cells))))
      | false => some (.bool false, resMX)))) := by kernel_rfl
end Go.Proofs.Ytjpfnfckpgilgaa


namespace Go.Proofs.Ytjpfnfckpgilgaa
open Go Vx
theorem ops_cat {k : Nat} {ms : List O3} (hm : ms.length = k) (o : O3) : opsOf (k + 1) (catR k (opRow ms) (chop 12 0 o.cells)) = ms ++ [o] ∧ okOps (k + 1) (catR k (opRow ms) (chop 12 0 o.cells)) = true := by
  subst hm
  constructor
  · have := opsOf_opRow (ms ++ [o])
    rw [List.length_append, List.length_singleton] at this
    rw [← this]
    unfold opsOf
    refine List.map_congr_left fun i hi => ?_
    rw [catR_one ms o i (List.mem_range.1 hi)]
  · unfold okOps
    refine List.all_eq_true.2 fun i hi => ?_
    rw [catR_one ms o i (List.mem_range.1 hi)]
    exact isO_cells _

theorem takeNS (o : O3) (n : Nat) (xs : List O3) (es : ES) (hx : xs.length = n) (h1 : 1 ≤ n) (h2 : n ≤ 192) {v : Value} {m' : Mem}
    (h : Ans.res (.br (mHas (key o) es) (.out (.bool true, spanM0 n xs es ++ [.no, .no])) (.br (outL (n : Int) ([o]) 193 0 (xs) es).isSome (.br (Nat.blt n (otR (n : Int) ([o]) (xs) es).1.length) (.out (.bool true, resNB (otR (n : Int) ([o]) (xs) es).1.length (otR (n : Int) ([o]) (xs) es).1 (otR (n : Int) ([o]) (xs) es).2 1 ([o]))) (.out (.bool true, resNA (otR (n : Int) ([o]) (xs) es).1.length (otR (n : Int) ([o]) (xs) es).1 (otR (n : Int) ([o]) (xs) es).2 1 ([o])))) (.out (.bool false, goneAll 3)))) = some (v, m')) : MemSem Try.prog 78 [.pointer (some ⟨0, 0, none⟩), o.v] (spanM0 n xs es) v m' := by
  have sem : ∀ {v : Value} {m' : Mem}, exT ((Cot Try.prog).at 78) 60 Try.f78 [.pointer (some ⟨0, 0, none⟩), o.v] (spanM0 n xs es) [.fix 0, .fix 1, .fix 2, .cellN 0 2 3, .cellN 0 0 3] = some (v, m') → MemSem Try.prog 78 [.pointer (some ⟨0, 0, none⟩), o.v] (spanM0 n xs es) v m' := fun hh => exT_ok okot Try.func78 (by kernel_rfl) hh
  have hE := takeN o n xs es
  have ht : otTest n n 1 1 (opRow xs) (chop 12 0 o.cells) n 0 o o = true := by
    unfold otTest
    rw [Nat.beq_refl, okOps_opRow, O3.eqB_refl, show okOps 1 (chop 12 0 o.cells) = true from rfl]
    simp; omega
  rw [opsOf_row hx, show opsOf 1 (chop 12 0 o.cells) = [o] from rfl, ht] at hE
  simp only [gd] at hE
  rcases Ans.br_some h with ⟨hq, h⟩ | ⟨hq, h⟩
  · rw [hq] at hE
    simp only [Ans.res, Option.some.injEq, Prod.mk.injEq] at h
    obtain ⟨rfl, rfl⟩ := h
    exact sem hE
  · simp only [hq] at hE
    rcases Ans.br_some h with ⟨hq, h⟩ | ⟨hq, h⟩
    · simp only [hq] at hE
      rcases Ans.br_some h with ⟨hq, h⟩ | ⟨hq, h⟩
      · simp only [hq] at hE
        simp only [Ans.res, Option.some.injEq, Prod.mk.injEq] at h
        obtain ⟨rfl, rfl⟩ := h
        exact sem hE
      · simp only [hq] at hE
        simp only [Ans.res, Option.some.injEq, Prod.mk.injEq] at h
        obtain ⟨rfl, rfl⟩ := h
        exact sem hE
    · simp only [hq] at hE
      simp only [Ans.res, Option.some.injEq, Prod.mk.injEq] at h
      obtain ⟨rfl, rfl⟩ := h
      exact (sem hE).forget rfl


theorem takeMS (o : O3) (n : Nat) (xs : List O3) (es : ES) (k : Nat) (ms : List O3) (hx : xs.length = n) (h1 : 1 ≤ n) (h2 : n ≤ 192) (hm : ms.length = k) (h3 : k ≤ 900) {v : Value} {m' : Mem}
    (h : Ans.res (.br (mHas (key o) es) (.out (.bool true, spanM n xs es k ms ++ [.no, .no])) (.br (outL (n : Int) (ms ++ [o]) 193 0 (xs) es).isSome (.br (Nat.blt n (otR (n : Int) (ms ++ [o]) (xs) es).1.length) (.out (.bool true, resMB (otR (n : Int) (ms ++ [o]) (xs) es).1.length (otR (n : Int) (ms ++ [o]) (xs) es).1 (otR (n : Int) (ms ++ [o]) (xs) es).2 (k + 1) (ms ++ [o]))) (.out (.bool true, resMA (otR (n : Int) (ms ++ [o]) (xs) es).1.length (otR (n : Int) (ms ++ [o]) (xs) es).1 (otR (n : Int) (ms ++ [o]) (xs) es).2 (k + 1) (ms ++ [o])))) (.out (.bool false, goneAll 4)))) = some (v, m')) : MemSem Try.prog 78 [.pointer (some ⟨0, 0, none⟩), o.v] (spanM n xs es k ms) v m' := by
  have sem : ∀ {v : Value} {m' : Mem}, exT ((Cot Try.prog).at 78) 60 Try.f78 [.pointer (some ⟨0, 0, none⟩), o.v] (spanM n xs es k ms) [.fix 0, .fix 1, .fix 2, .fix 3, .cellN 0 2 4, .cellN 0 0 4] = some (v, m') → MemSem Try.prog 78 [.pointer (some ⟨0, 0, none⟩), o.v] (spanM n xs es k ms) v m' := fun hh => exT_ok okot Try.func78 (by kernel_rfl) hh
  have hE := takeM o n xs es k ms
  obtain ⟨e1, e2⟩ := ops_cat hm o
  have ht : otTest n n (k + 1) (k + 1) (opRow xs) (catR k (opRow ms) (chop 12 0 o.cells)) n 0 o o = true := by
    unfold otTest
    rw [Nat.beq_refl, Nat.beq_refl, okOps_opRow, O3.eqB_refl, e2]
    simp; omega
  rw [opsOf_row hx, e1, ht, fits_ok (by omega)] at hE
  simp only [gd] at hE
  rcases Ans.br_some h with ⟨hq, h⟩ | ⟨hq, h⟩
  · rw [hq] at hE
    simp only [Ans.res, Option.some.injEq, Prod.mk.injEq] at h
    obtain ⟨rfl, rfl⟩ := h
    exact sem hE
  · simp only [hq] at hE
    rcases Ans.br_some h with ⟨hq, h⟩ | ⟨hq, h⟩
    · simp only [hq] at hE
      rcases Ans.br_some h with ⟨hq, h⟩ | ⟨hq, h⟩
      · simp only [hq] at hE
        simp only [Ans.res, Option.some.injEq, Prod.mk.injEq] at h
        obtain ⟨rfl, rfl⟩ := h
        exact sem hE
      · simp only [hq] at hE
        simp only [Ans.res, Option.some.injEq, Prod.mk.injEq] at h
        obtain ⟨rfl, rfl⟩ := h
        exact sem hE
    · simp only [hq] at hE
      simp only [Ans.res, Option.some.injEq, Prod.mk.injEq] at h
      obtain ⟨rfl, rfl⟩ := h
      exact (sem hE).forget rfl

def takeF : List Value → Mem → Option (Ans (Value × Mem))
  | [.pointer (some ⟨0, 0, none⟩), .agg co], [.cells true 0 cs, .rows true true 12 n2 row, .mp true 12 es] => match cs, opCells co.toList with
    | [.slice (some ⟨1, 0, some 0⟩) n 12, .map (some 2), .slice none 0 0], some o => some (.br (Nat.beq n n2 && (okOps n row && (decide (1 ≤ n) && decide (n ≤ 192)))) (.br (mHas (key o) es) (.out (.bool true, spanM0 n (opsOf n row) es ++ [.no, .no])) (.br (outL (n : Int) ([o]) 193 0 (opsOf n row) es).isSome (.br (Nat.blt n (otR (n : Int) ([o]) (opsOf n row) es).1.length) (.out (.bool true, resNB (otR (n : Int) ([o]) (opsOf n row) es).1.length (otR (n : Int) ([o]) (opsOf n row) es).1 (otR (n : Int) ([o]) (opsOf n row) es).2 1 ([o]))) (.out (.bool true, resNA (otR (n : Int) ([o]) (opsOf n row) es).1.length (otR (n : Int) ([o]) (opsOf n row) es).1 (otR (n : Int) ([o]) (opsOf n row) es).2 1 ([o])))) (.out (.bool false, goneAll 3)))) .fail)
    | _, _ => none
  | [.pointer (some ⟨0, 0, none⟩), .agg co], [.cells true 0 cs, .rows true true 12 n2 row, .mp true 12 es, .rows true true 12 k2 row2] => match cs, opCells co.toList with
    | [.slice (some ⟨1, 0, some 0⟩) n 12, .map (some 2), .slice (some ⟨3, 0, some 0⟩) k 12], some o => some (.br (Nat.beq n n2 && (okOps n row && (Nat.beq k k2 && (okOps k row2 && (decide (1 ≤ n) && (decide (n ≤ 192) && decide (k ≤ 900))))))) (.br (mHas (key o) es) (.out (.bool true, spanM n (opsOf n row) es k (opsOf k row2) ++ [.no, .no])) (.br (outL (n : Int) (opsOf k row2 ++ [o]) 193 0 (opsOf n row) es).isSome (.br (Nat.blt n (otR (n : Int) (opsOf k row2 ++ [o]) (opsOf n row) es).1.length) (.out (.bool true, resMB (otR (n : Int) (opsOf k row2 ++ [o]) (opsOf n row) es).1.length (otR (n : Int) (opsOf k row2 ++ [o]) (opsOf n row) es).1 (otR (n : Int) (opsOf k row2 ++ [o]) (opsOf n row) es).2 (k + 1) (opsOf k row2 ++ [o]))) (.out (.bool true, resMA (otR (n : Int) (opsOf k row2 ++ [o]) (opsOf n row) es).1.length (otR (n : Int) (opsOf k row2 ++ [o]) (opsOf n row) es).1 (otR (n : Int) (opsOf k row2 ++ [o]) (opsOf n row) es).2 (k + 1) (opsOf k row2 ++ [o])))) (.out (.bool false, goneAll 4)))) .fail)
    | _, _ => none
  | _, _ => none
def Cta (P : Program) : Cx := (Cot P).addF 78 takeF
theorem okta : CxOk (Cta Try.prog) := Cx.addF_ok okot fun args mm ans v m' h hr => by
  unfold takeF at h
  split at h
  · rename_i co cs n2 row es
    split at h
    rotate_left
    · cases h
    rename_i n o hc1
    simp only [Option.some.injEq] at h
    subst h
    rcases Ans.br_some hr with ⟨hc, hr1⟩ | ⟨_, hr1⟩
    rotate_left
    · simp [Ans.res] at hr1
    clear hr
    simp only [Bool.and_eq_true, decide_eq_true_eq] at hc
    obtain ⟨c1, c2, c3, c4⟩ := hc
    have c1 := beq_len c1
    subst c1
    have e1 : co = o.cells.toArray := by rw [← opCells_spec hc1]
    subst e1
    exact (takeNS o n (opsOf n row) es (opsOf_length n row) c3 c4 hr1).like ⟨.refl _, .rows (ops_like c2), .refl _, trivial⟩
  · rename_i co cs n2 row es k2 row2
    split at h
    rotate_left
    · cases h
    rename_i n k o hc1
    simp only [Option.some.injEq] at h
    subst h
    rcases Ans.br_some hr with ⟨hc, hr1⟩ | ⟨_, hr1⟩
    rotate_left
    · simp [Ans.res] at hr1
    clear hr
    simp only [Bool.and_eq_true, decide_eq_true_eq] at hc
    obtain ⟨c1, c2, c3, c4, c5, c6, c7⟩ := hc
    have c1 := beq_len c1
    subst c1
    have c3 := beq_len c3
    subst c3
    have e1 : co = o.cells.toArray := by rw [← opCells_spec hc1]
    subst e1
    exact (takeMS o n (opsOf n row) es k (opsOf k row2) (opsOf_length n row) c5 c6 (opsOf_length k row2) c7 hr1).like ⟨.refl _, .rows (ops_like c2), .refl _, .rows (ops_like c4), trivial⟩
  · cases h
end Go.Proofs.Ytjpfnfckpgilgaa
