/-
  group's take. Nothing here is trusted.
-/
import Derived.Test.YtmpkkmhielkggaaKam
import Derived.Shelf.SlSortCmp.WholeK
import Derived.Test.YtmpkkmhielkggaaProg
import Derived.Test.YtmpkkmhielkggaaKak

namespace Go.Proofs.Ytmpkkmhielkggaa
open Go Vx
def strucC (a n m k : Nat) : Blk := .cells true 0 [.slice (some ⟨a, 0, some 0⟩) n 12, .map (some 2), .slice (some ⟨m, 0, some 0⟩) k 12]
def spanM0 (n : Nat) (xs : List O3) (es : ES) : Mem := [.cells true 0 [.slice (some ⟨1, 0, some 0⟩) n 12, .map (some 2), .slice none 0 0], .rows true true 12 n (opRow xs), .mp true 12 es]
def resNA (n : Nat) (xs : List O3) (es : ES) (k : Nat) (ms : List O3) : Mem := [strucC 1 n 3 k, .rows true true 12 n (opRow xs), .mp true 12 es, .rows true true 12 k (opRow ms), .no]
def resNB (n : Nat) (xs : List O3) (es : ES) (k : Nat) (ms : List O3) : Mem := [strucC 4 n 3 k, .gone, .mp true 12 es, .rows true true 12 k (opRow ms), .rows true true 12 n (opRow xs)]
def resNX : Mem := [.gone, .gone, .gone, .no, .no]
def resMA (n : Nat) (xs : List O3) (es : ES) (k : Nat) (ms : List O3) : Mem := [strucC 1 n 4 k, .rows true true 12 n (opRow xs), .mp true 12 es, .gone, .rows true true 12 k (opRow ms), .no]
def resMB (n : Nat) (xs : List O3) (es : ES) (k : Nat) (ms : List O3) : Mem := [strucC 5 n 4 k, .gone, .mp true 12 es, .gone, .rows true true 12 k (opRow ms), .rows true true 12 n (opRow xs)]
def resMX : Mem := [.gone, .gone, .gone, .gone, .no, .no]
theorem takeN (o : O3) (n : Nat) (xs : List O3) (es : ES) : exT ((Cot Try.prog).at 38) 60 Try.f38 [.pointer (some ⟨0, 0, none⟩), o.v] (spanM0 n xs es) [.fix 0, .fix 1, .fix 2, .cellN 0 2 3, .cellN 0 0 3] =
    (match mHas (key o) es with
    | true => some (.bool true, spanM0 n xs es ++ [.no, .no])
    | false => (gd (otTest n n 1 1 (opRow xs) (chop 12 0 o.cells) n 0 o o) (match (outL (n : Int) (opsOf 1 (chop 12 0 o.cells)) 193 0 (opsOf n (opRow xs)) es).isSome with
      | true => match Nat.blt n (otR (n : Int) (opsOf 1 (chop 12 0 o.cells)) (opsOf n (opRow xs)) es).1.length with
        | true => some (.bool true, resNB (otR (n : Int) (opsOf 1 (chop 12 0 o.cells)) (opsOf n (opRow xs)) es).1.length (otR (n : Int) (opsOf 1 (chop 12 0 o.cells)) (opsOf n (opRow xs)) es).1 (otR (n : Int) (opsOf 1 (chop 12 0 o.cells)) (opsOf n (opRow xs)) es).2 1 (opsOf 1 (chop 12 0 o.cells)))
        | false => some (.bool true, resNA (otR (n : Int) (opsOf 1 (chop 12 0 o.cells)) (opsOf n (opRow xs)) es).1.length (otR (n : Int) (opsOf 1 (chop 12 0 o.cells)) (opsOf n (opRow xs)) es).1 (otR (n : Int) (opsOf 1 (chop 12 0 o.cells)) (opsOf n (opRow xs)) es).2 1 (opsOf 1 (chop 12 0 o.cells)))
      | false => some (.bool false, resNX)))) := by kernel_rfl
theorem takeM (o : O3) (n : Nat) (xs : List O3) (es : ES) (k : Nat) (ms : List O3) : exT ((Cot Try.prog).at 38) 60 Try.f38 [.pointer (some ⟨0, 0, none⟩), o.v] (spanM n xs es k ms) [.fix 0, .fix 1, .fix 2, .fix 3, .cellN 0 2 4, .cellN 0 0 4] =
    (match mHas (key o) es with
    | true => some (.bool true, spanM n xs es k ms ++ [.no, .no])
    | false => gd (fits k) (gd (otTest n n (k + 1) (k + 1) (opRow xs) (catR k (opRow ms) (chop 12 0 o.cells)) n 0 o o) (match (outL (n : Int) (opsOf (k + 1) (catR k (opRow ms) (chop 12 0 o.cells))) 193 0 (opsOf n (opRow xs)) es).isSome with
      | true => match Nat.blt n (otR (n : Int) (opsOf (k + 1) (catR k (opRow ms) (chop 12 0 o.cells))) (opsOf n (opRow xs)) es).1.length with
        | true => some (.bool true, resMB (otR (n : Int) (opsOf (k + 1) (catR k (opRow ms) (chop 12 0 o.cells))) (opsOf n (opRow xs)) es).1.length (otR (n : Int) (opsOf (k + 1) (catR k (opRow ms) (chop 12 0 o.cells))) (opsOf n (opRow xs)) es).1 (otR (n : Int) (opsOf (k + 1) (catR k (opRow ms) (chop 12 0 o.cells))) (opsOf n (opRow xs)) es).2 (k + 1) (opsOf (k + 1) (catR k (opRow ms) (chop 12 0 o.cells))))
        | false => some (.bool true, resMA (otR (n : Int) (opsOf (k + 1) (catR k (opRow ms) (chop 12 0 o.cells))) (opsOf n (opRow xs)) es).1.length (otR (n : Int) (opsOf (k + 1) (catR k (opRow ms) (chop 12 0 o.cells))) (opsOf n (opRow xs)) es).1 (otR (n : Int) (opsOf (k + 1) (catR k (opRow ms) (chop 12 0 o.cells))) (opsOf n (opRow xs)) es).2 (k + 1) (opsOf (k + 1) (catR k (opRow ms) (chop 12 0 o.cells))))
      | false => some (.bool false, resMX)))) := by kernel_rfl
end Go.Proofs.Ytmpkkmhielkggaa


namespace Go.Proofs.Ytmpkkmhielkggaa
open Go Vx
theorem ops_cat {k : Nat} {ms : List O3} (hm : ms.length = k) (o : O3) : opsOf (k + 1) (catR k (opRow ms) (chop 12 0 o.cells)) = ms ++ [o] ∧ okOps (k + 1) (catR k (opRow ms) (chop 12 0 o.cells)) = true := by
  subst hm
  constructor
  · have := opsOf_opRow (ms ++ [o])
    rw [List.length_append, List.length_singleton] at this
    rw [← this]
    unfold opsOf
    refine List.map_congr_left fun i hi => ?_
    rw [catR_one ms o i (List.mem_range.1 hi)]
  · unfold okOps
    refine List.all_eq_true.2 fun i hi => ?_
    rw [catR_one ms o i (List.mem_range.1 hi)]
    exact isO_cells _

theorem takeNS (o : O3) (n : Nat) (xs : List O3) (es : ES) (hx : xs.length = n) (h1 : 1 ≤ n) (h2 : n ≤ 192) {v : Value} {m' : Mem}
    (h : Ans.res (.br (mHas (key o) es) (.out (.bool true, spanM0 n xs es ++ [.no, .no])) (.br (outL (n : Int) ([o]) 193 0 (xs) es).isSome (.br (Nat.blt n (otR (n : Int) ([o]) (xs) es).1.length) (.out (.bool true, resNB (otR (n : Int) ([o]) (xs) es).1.length (otR (n : Int) ([o]) (xs) es).1 (otR (n : Int) ([o]) (xs) es).2 1 ([o]))) (.out (.bool true, resNA (otR (n : Int) ([o]) (xs) es).1.length (otR (n : Int) ([o]) (xs) es).1 (otR (n : Int) ([o]) (xs) es).2 1 ([o])))) (.out (.bool false, goneAll 3)))) = some (v, m')) : MemSem Try.prog 38 [.pointer (some ⟨0, 0, none⟩), o.v] (spanM0 n xs es) v m' := by
  have sem : ∀ {v : Value} {m' : Mem}, exT ((Cot Try.prog).at 38) 60 Try.f38 [.pointer (some ⟨0, 0, none⟩), o.v] (spanM0 n xs es) [.fix 0, .fix 1, .fix 2, .cellN 0 2 3, .cellN 0 0 3] = some (v, m') → MemSem Try.prog 38 [.pointer (some ⟨0, 0, none⟩), o.v] (spanM0 n xs es) v m' := fun hh => exT_ok okot Try.func38 (by kernel_rfl) hh
  have hE := takeN o n xs es
  have ht : otTest n n 1 1 (opRow xs) (chop 12 0 o.cells) n 0 o o = true := by
    unfold otTest
    rw [Nat.beq_refl, okOps_opRow, O3.eqB_refl, show okOps 1 (chop 12 0 o.cells) = true from rfl]
    simp; omega
  rw [opsOf_row hx, show opsOf 1 (chop 12 0 o.cells) = [o] from rfl, ht] at hE
  simp only [gd] at hE
  rcases Ans.br_some h with ⟨hq, h⟩ | ⟨hq, h⟩
  · rw [hq] at hE
    simp only [Ans.res, Option.some.injEq, Prod.mk.injEq] at h
    obtain ⟨rfl, rfl⟩ := h
    exact sem hE
  · simp only [hq] at hE
    rcases Ans.br_some h with ⟨hq, h⟩ | ⟨hq, h⟩
    · simp only [hq] at hE
      rcases Ans.br_some h with ⟨hq, h⟩ | ⟨hq, h⟩
      · simp only [hq] at hE
        simp only [Ans.res, Option.some.injEq, Prod.mk.injEq] at h
        obtain ⟨rfl, rfl⟩ := h
        exact sem hE
      · simp only [hq] at hE
        simp only [Ans.res, Option.some.injEq, Prod.mk.injEq] at h
        obtain ⟨rfl, rfl⟩ := h
        exact sem hE
    · simp only [hq] at hE
      simp only [Ans.res, Option.some.injEq, Prod.mk.injEq] at h
      obtain ⟨rfl, rfl⟩ := h
      exact (sem hE).forget rfl


theorem takeMS (o : O3) (n : Nat) (xs : List O3) (es : ES) (k : Nat) (ms : List O3) (hx : xs.length = n) (h1 : 1 ≤ n) (h2 : n ≤ 192) (hm : ms.length = k) (h3 : k ≤ 900) {v : Value} {m' : Mem}
    (h : Ans.res (.br (mHas (key o) es) (.out (.bool true, spanM n xs es k ms ++ [.no, .no])) (.br (outL (n : Int) (ms ++ [o]) 193 0 (xs) es).isSome (.br (Nat.blt n (otR (n : Int) (ms ++ [o]) (xs) es).1.length) (.out (.bool true, resMB (otR (n : Int) (ms ++ [o]) (xs) es).1.length (otR (n : Int) (ms ++ [o]) (xs) es).1 (otR (n : Int) (ms ++ [o]) (xs) es).2 (k + 1) (ms ++ [o]))) (.out (.bool true, resMA (otR (n : Int) (ms ++ [o]) (xs) es).1.length (otR (n : Int) (ms ++ [o]) (xs) es).1 (otR (n : Int) (ms ++ [o]) (xs) es).2 (k + 1) (ms ++ [o])))) (.out (.bool false, goneAll 4)))) = some (v, m')) : MemSem Try.prog 38 [.pointer (some ⟨0, 0, none⟩), o.v] (spanM n xs es k ms) v m' := by
  have sem : ∀ {v : Value} {m' : Mem}, exT ((Cot Try.prog).at 38) 60 Try.f38 [.pointer (some ⟨0, 0, none⟩), o.v] (spanM n xs es k ms) [.fix 0, .fix 1, .fix 2, .fix 3, .cellN 0 2 4, .cellN 0 0 4] = some (v, m') → MemSem Try.prog 38 [.pointer (some ⟨0, 0, none⟩), o.v] (spanM n xs es k ms) v m' := fun hh => exT_ok okot Try.func38 (by kernel_rfl) hh
  have hE := takeM o n xs es k ms
  obtain ⟨e1, e2⟩ := ops_cat hm o
  have ht : otTest n n (k + 1) (k + 1) (opRow xs) (catR k (opRow ms) (chop 12 0 o.cells)) n 0 o o = true := by
    unfold otTest
    rw [Nat.beq_refl, Nat.beq_refl, okOps_opRow, O3.eqB_refl, e2]
    simp; omega
  rw [opsOf_row hx, e1, ht, fits_ok (by omega)] at hE
  simp only [gd] at hE
  rcases Ans.br_some h with ⟨hq, h⟩ | ⟨hq, h⟩
  · rw [hq] at hE
    simp only [Ans.res, Option.some.injEq, Prod.mk.injEq] at h
    obtain ⟨rfl, rfl⟩ := h
    exact sem hE
  · simp only [hq] at hE
    rcases Ans.br_some h with ⟨hq, h⟩ | ⟨hq, h⟩
    · simp only [hq] at hE
      rcases Ans.br_some h with ⟨hq, h⟩ | ⟨hq, h⟩
      · simp only [hq] at hE
        simp only [Ans.res, Option.some.injEq, Prod.mk.injEq] at h
        obtain ⟨rfl, rfl⟩ := h
        exact sem hE
      · simp only [hq] at hE
        simp only [Ans.res, Option.some.injEq, Prod.mk.injEq] at h
        obtain ⟨rfl, rfl⟩ := h
        exact sem hE
    · simp only [hq] at hE
      simp only [Ans.res, Option.some.injEq, Prod.mk.injEq] at h
      obtain ⟨rfl, rfl⟩ := h
      exact (sem hE).forget rfl

def takeF : List Value → Mem → Option (Ans (Value × Mem))
  | [.pointer (some ⟨0, 0, none⟩), .agg co], [.cells true 0 cs, .rows true true 12 n2 row, .mp true 12 es] => match cs, opCells co.toList with
    | [.slice (some ⟨1, 0, some 0⟩) n 12, .map (some 2), .slice none 0 0], some o => some (.br (Nat.beq n n2 && (okOps n row && (decide (1 ≤ n) && decide (n ≤ 192)))) (.br (mHas (key o) es) (.out (.bool true, spanM0 n (opsOf n row) es ++ [.no, .no])) (.br (outL (n : Int) ([o]) 193 0 (opsOf n row) es).isSome (.br (Nat.blt n (otR (n : Int) ([o]) (opsOf n row) es).1.length) (.out (.bool true, resNB (otR (n : Int) ([o]) (opsOf n row) es).1.length (otR (n : Int) ([o]) (opsOf n row) es).1 (otR (n : Int) ([o]) (opsOf n row) es).2 1 ([o]))) (.out (.bool true, resNA (otR (n : Int) ([o]) (opsOf n row) es).1.length (otR (n : Int) ([o]) (opsOf n row) es).1 (otR (n : Int) ([o]) (opsOf n row) es).2 1 ([o])))) (.out (.bool false, goneAll 3)))) .fail)
    | _, _ => none
  | [.pointer (some ⟨0, 0, none⟩), .agg co], [.cells true 0 cs, .rows true true 12 n2 row, .mp true 12 es, .rows true true 12 k2 row2] => match cs, opCells co.toList with
    | [.slice (some ⟨1, 0, some 0⟩) n 12, .map (some 2), .slice (some ⟨3, 0, some 0⟩) k 12], some o => some (.br (Nat.beq n n2 && (okOps n row && (Nat.beq k k2 && (okOps k row2 && (decide (1 ≤ n) && (decide (n ≤ 192) && decide (k ≤ 900))))))) (.br (mHas (key o) es) (.out (.bool true, spanM n (opsOf n row) es k (opsOf k row2) ++ [.no, .no])) (.br (outL (n : Int) (opsOf k row2 ++ [o]) 193 0 (opsOf n row) es).isSome (.br (Nat.blt n (otR (n : Int) (opsOf k row2 ++ [o]) (opsOf n row) es).1.length) (.out (.bool true, resMB (otR (n : Int) (opsOf k row2 ++ [o]) (opsOf n row) es).1.length (otR (n : Int) (opsOf k row2 ++ [o]) (opsOf n row) es).1 (otR (n : Int) (opsOf k row2 ++ [o]) (opsOf n row) es).2 (k + 1) (opsOf k row2 ++ [o]))) (.out (.bool true, resMA (otR (n : Int) (opsOf k row2 ++ [o]) (opsOf n row) es).1.length (otR (n : Int) (opsOf k row2 ++ [o]) (opsOf n row) es).1 (otR (n : Int) (opsOf k row2 ++ [o]) (opsOf n row) es).2 (k + 1) (opsOf k row2 ++ [o])))) (.out (.bool false, goneAll 4)))) .fail)
    | _, _ => none
  | _, _ => none
def Cta (P : Program) : Cx := (Cot P).addF 38 takeF
theorem okta : CxOk (Cta Try.prog) := Cx.addF_ok okot fun args mm ans v m' h hr => by
  unfold takeF at h
  split at h
  · rename_i co cs n2 row es
    split at h
    rotate_left
    · cases h
    rename_i n o hc1
    simp only [Option.some.injEq] at h
    subst h
    rcases Ans.br_some hr with ⟨hc, hr1⟩ | ⟨_, hr1⟩
    rotate_left
    · simp [Ans.res] at hr1
    clear hr
    simp only [Bool.and_eq_true, decide_eq_true_eq] at hc
    obtain ⟨c1, c2, c3, c4⟩ := hc
    have c1 := beq_len c1
    subst c1
    have e1 : co = o.cells.toArray := by rw [← opCells_spec hc1]
    subst e1
    exact (takeNS o n (opsOf n row) es (opsOf_length n row) c3 c4 hr1).like ⟨.refl _, .rows (ops_like c2), .refl _, trivial⟩
  · rename_i co cs n2 row es k2 row2
    split at h
    rotate_left
    · cases h
    rename_i n k o hc1
    simp only [Option.some.injEq] at h
    subst h
    rcases Ans.br_some hr with ⟨hc, hr1⟩ | ⟨_, hr1⟩
    rotate_left
    · simp [Ans.res] at hr1
    clear hr
    simp only [Bool.and_eq_true, decide_eq_true_eq] at hc
    obtain ⟨c1, c2, c3, c4, c5, c6, c7⟩ := hc
    have c1 := beq_len c1
    subst c1
    have c3 := beq_len c3
    subst c3
    have e1 : co = o.cells.toArray := by rw [← opCells_spec hc1]
    subst e1
    exact (takeMS o n (opsOf n row) es k (opsOf k row2) (opsOf_length n row) c5 c6 (opsOf_length k row2) c7 hr1).like ⟨.refl _, .rows (ops_like c2), .refl _, .rows (ops_like c4), trivial⟩
  · cases h
end Go.Proofs.Ytmpkkmhielkggaa


namespace Go.Proofs.Ytmpkkmhielkggaa
open Go Vx
/-- newSpan: the identity alone. -/
theorem nsE : exT ((Cta Try.prog).at 37) 60 Try.f37 [] [] [.fix 1, .fix 4, .fix 0] = some (.pointer (some ⟨0, 0, none⟩), [.cells true 0 [.slice (some ⟨1, 0, some 0⟩) 1 12, .map (some 2), .slice none 0 0], .rows true true 12 1 (chop 12 0 O3.one.cells), .mp true 12 [(key O3.one, 0)]]) := by kernel_rfl
def nsF : List Value → Mem → Option (Ans (Value × Mem))
  | [], [] => some (.out (.pointer (some ⟨0, 0, none⟩), spanM0 1 [O3.one] [(key O3.one, 0)]))
  | _, _ => none
def Cns (P : Program) : Cx := (Cta P).addF 37 nsF
theorem okns : CxOk (Cns Try.prog) := Cx.addF_ok okta fun args mm ans v m' h hr => by
  unfold nsF at h
  split at h
  · simp only [Option.some.injEq] at h
    subst h
    simp only [Ans.res, Option.some.injEq, Prod.mk.injEq] at hr
    obtain ⟨rfl, rfl⟩ := hr
    exact (exT_ok okta Try.func37 (by kernel_rfl) nsE).likes ⟨.refl _, like_chop _, .refl _, trivial⟩
  · cases h
def clX' (P : Program) : Code := (loopsOf P 12 6).headD .skip
theorem clX_eq : loopsOf Try.prog 12 6 = [clX' Try.prog] := by kernel_rfl
def clE (own : Bool) (N : Nat) (ls : List O3) (n : Nat) (xs : List O3) (es : ES) : Mem := [.rows own true 12 N (opRow ls), .cells true 0 [.slice (some ⟨2, 0, some 0⟩) n 12, .map (some 3), .slice none 0 0], .rows true true 12 n (opRow xs), .mp true 12 es]
def clN (own : Bool) (N : Nat) (ls : List O3) (n : Nat) (xs : List O3) (es : ES) : Mem := [.rows own true 12 N (opRow ls), .cells true 0 [.slice (some ⟨2, 0, some 0⟩) n 12, .map (some 3), .slice none 0 0], .rows true true 12 n (opRow xs), .mp true 12 es, .no]
def clM (own : Bool) (N : Nat) (ls : List O3) (n : Nat) (xs : List O3) (es : ES) (k : Nat) (ms : List O3) : Mem := [.rows own true 12 N (opRow ls), .cells true 0 [.slice (some ⟨2, 0, some 0⟩) n 12, .map (some 3), .slice (some ⟨4, 0, some 0⟩) k 12], .rows true true 12 n (opRow xs), .mp true 12 es, .rows true true 12 k (opRow ms)]
def clX (own : Bool) (N : Nat) (ls : List O3) : Mem := [.rows own true 12 N (opRow ls), .gone, .no, .no, .no]
def clH (m : Mem) (N : Nat) (i : Int) : St := stOf 34 [(2, .slice none 0 0), (3, vI 0), (5, .pointer (some ⟨1, 0, none⟩)), (14, .slice (some ⟨0, 0, some 0⟩) N 12), (15, vI N), (16, vI i)] m
theorem clRE (own : Bool) (N : Nat) (ls : List O3) (n : Nat) (xs : List O3) (es : ES) (i : Int) : roundR ((Cns Try.prog).into 12 1) 40 (clX' Try.prog) [2, 3, 5, 14, 15, 16] [2, 3, 5] [.fix 0, .fix 1, .cell 1 0, .cell 1 1, .cell 1 2] [.fix 0, .fix 1, .cell 1 0, .cell 1 1, .cell 1 2] (clH (clE own N ls n xs es) N i) =
    (match decide (i < (N : Int)) with
    | true => match boundsI i N with
      | true => match (Nat.beq n n && (okOps n (opRow xs) && (decide (1 ≤ n) && decide (n ≤ 192)))) with
        | true => match mHas (key (atO ls i)) es with
          | true => some (.normal, clH (clN own N ls n (opsOf n (opRow xs)) es) N (W (i + 1)))
          | false => match (outL (n : Int) [(atO ls i)] 193 0 (opsOf n (opRow xs)) es).isSome with
            | true => match Nat.blt n (otR (n : Int) [(atO ls i)] (opsOf n (opRow xs)) es).1.length with
              | true => some (.normal, clH (clM own N ls (otR (n : Int) [(atO ls i)] (opsOf n (opRow xs)) es).1.length (otR (n : Int) [(atO ls i)] (opsOf n (opRow xs)) es).1 (otR (n : Int) [(atO ls i)] (opsOf n (opRow xs)) es).2 1 [(atO ls i)]) N (W (i + 1)))
              | false => some (.normal, clH (clM own N ls (otR (n : Int) [(atO ls i)] (opsOf n (opRow xs)) es).1.length (otR (n : Int) [(atO ls i)] (opsOf n (opRow xs)) es).1 (otR (n : Int) [(atO ls i)] (opsOf n (opRow xs)) es).2 1 [(atO ls i)]) N (W (i + 1)))
            | false => some (.ret, stOf 34 [(2, .slice none 0 0), (3, vI 5), (5, .pointer (some ⟨1, 0, none⟩))] (clX own N ls))
        | false => none
      | false => none
    | false => some (.exit 0, stOf 34 [(2, .slice none 0 0), (3, vI 0), (5, .pointer (some ⟨1, 0, none⟩))] (clN own N ls n xs es))) := by kernel_rfl
theorem clRN (own : Bool) (N : Nat) (ls : List O3) (n : Nat) (xs : List O3) (es : ES) (i : Int) : roundR ((Cns Try.prog).into 12 1) 40 (clX' Try.prog) [2, 3, 5, 14, 15, 16] [2, 3, 5] [.fix 0, .fix 1, .cell 1 0, .cell 1 1, .cell 1 2] [.fix 0, .fix 1, .cell 1 0, .cell 1 1, .cell 1 2] (clH (clN own N ls n xs es) N i) =
    (match decide (i < (N : Int)) with
    | true => match boundsI i N with
      | true => match (Nat.beq n n && (okOps n (opRow xs) && (decide (1 ≤ n) && decide (n ≤ 192)))) with
        | true => match mHas (key (atO ls i)) es with
          | true => some (.normal, clH (clN own N ls n (opsOf n (opRow xs)) es) N (W (i + 1)))
          | false => match (outL (n : Int) [(atO ls i)] 193 0 (opsOf n (opRow xs)) es).isSome with
            | true => match Nat.blt n (otR (n : Int) [(atO ls i)] (opsOf n (opRow xs)) es).1.length with
              | true => some (.normal, clH (clM own N ls (otR (n : Int) [(atO ls i)] (opsOf n (opRow xs)) es).1.length (otR (n : Int) [(atO ls i)] (opsOf n (opRow xs)) es).1 (otR (n : Int) [(atO ls i)] (opsOf n (opRow xs)) es).2 1 [(atO ls i)]) N (W (i + 1)))
              | false => some (.normal, clH (clM own N ls (otR (n : Int) [(atO ls i)] (opsOf n (opRow xs)) es).1.length (otR (n : Int) [(atO ls i)] (opsOf n (opRow xs)) es).1 (otR (n : Int) [(atO ls i)] (opsOf n (opRow xs)) es).2 1 [(atO ls i)]) N (W (i + 1)))
            | false => some (.ret, stOf 34 [(2, .slice none 0 0), (3, vI 5), (5, .pointer (some ⟨1, 0, none⟩))] (clX own N ls))
        | false => none
      | false => none
    | false => some (.exit 0, stOf 34 [(2, .slice none 0 0), (3, vI 0), (5, .pointer (some ⟨1, 0, none⟩))] (clN own N ls n xs es))) := by kernel_rfl
theorem clRM (own : Bool) (N : Nat) (ls : List O3) (n : Nat) (xs : List O3) (es : ES) (k : Nat) (ms : List O3) (i : Int) : roundR ((Cns Try.prog).into 12 1) 40 (clX' Try.prog) [2, 3, 5, 14, 15, 16] [2, 3, 5] [.fix 0, .fix 1, .cell 1 0, .cell 1 1, .cell 1 2] [.fix 0, .fix 1, .cell 1 0, .cell 1 1, .cell 1 2] (clH (clM own N ls n xs es k ms) N i) =
    (match decide (i < (N : Int)) with
    | true => match boundsI i N with
      | true => match (Nat.beq n n && (okOps n (opRow xs) && (Nat.beq k k && (okOps k (opRow ms) && (decide (1 ≤ n) && (decide (n ≤ 192) && decide (k ≤ 900))))))) with
        | true => match mHas (key (atO ls i)) es with
          | true => some (.normal, clH (clM own N ls n (opsOf n (opRow xs)) es k (opsOf k (opRow ms))) N (W (i + 1)))
          | false => match (outL (n : Int) ((opsOf k (opRow ms)) ++ [(atO ls i)]) 193 0 (opsOf n (opRow xs)) es).isSome with
            | true => match Nat.blt n (otR (n : Int) ((opsOf k (opRow ms)) ++ [(atO ls i)]) (opsOf n (opRow xs)) es).1.length with
              | true => some (.normal, clH (clM own N ls (otR (n : Int) ((opsOf k (opRow ms)) ++ [(atO ls i)]) (opsOf n (opRow xs)) es).1.length (otR (n : Int) ((opsOf k (opRow ms)) ++ [(atO ls i)]) (opsOf n (opRow xs)) es).1 (otR (n : Int) ((opsOf k (opRow ms)) ++ [(atO ls i)]) (opsOf n (opRow xs)) es).2 (k + 1) ((opsOf k (opRow ms)) ++ [(atO ls i)])) N (W (i + 1)))
              | false => some (.normal, clH (clM own N ls (otR (n : Int) ((opsOf k (opRow ms)) ++ [(atO ls i)]) (opsOf n (opRow xs)) es).1.length (otR (n : Int) ((opsOf k (opRow ms)) ++ [(atO ls i)]) (opsOf n (opRow xs)) es).1 (otR (n : Int) ((opsOf k (opRow ms)) ++ [(atO ls i)]) (opsOf n (opRow xs)) es).2 (k + 1) ((opsOf k (opRow ms)) ++ [(atO ls i)])) N (W (i + 1)))
            | false => some (.ret, stOf 34 [(2, .slice none 0 0), (3, vI 5), (5, .pointer (some ⟨1, 0, none⟩))] (clX own N ls))
        | false => none
      | false => none
    | false => some (.exit 0, stOf 34 [(2, .slice none 0 0), (3, vI 0), (5, .pointer (some ⟨1, 0, none⟩))] (clM own N ls n xs es k ms))) := by kernel_rfl
end Go.Proofs.Ytmpkkmhielkggaa


namespace Go.Proofs.Ytmpkkmhielkggaa
open Go Vx
theorem outL_len {q : Int} (hq : 0 < q) {ms : List O3} : ∀ (N : Nat) {f : Int} {xs : List O3} {es : ES}, xs.length ≤ 192 → ∀ {r : List O3 × ES}, outL q ms N f xs es = some r → xs.length ≤ r.1.length ∧ r.1.length ≤ 192
  | 0, f, xs, es, h, r, hr => by simp only [outL, Option.some.injEq] at hr; subst hr; exact ⟨Nat.le_refl _, h⟩
  | N + 1, f, xs, es, h, r, hr => by
    simp only [outL] at hr
    split at hr
    · split at hr
      · rename_i s hs
        obtain ⟨h1, h2⟩ := mkL_len hq ms h hs
        obtain ⟨h3, h4⟩ := outL_len hq N h2 hr
        exact ⟨by omega, h4⟩
      · cases hr
    · simp only [Option.some.injEq] at hr; subst hr; exact ⟨Nat.le_refl _, h⟩
/-- What a span has taken: its maps, its makers, what it has. -/
def clL : List O3 → List O3 → List O3 → ES → Option (List O3 × List O3 × ES)
  | [], xs, ms, es => some (xs, ms, es)
  | o :: l, xs, ms, es => match mHas (key o) es with
    | true => clL l xs ms es
    | false => match outL (xs.length : Int) (ms ++ [o]) 193 0 xs es with
      | some r => clL l r.1 (ms ++ [o]) r.2
      | none => none
structure clG where
  (sh : Sh) (own : Bool) (N : Nat) (ls : List O3) (n : Nat) (xs : List O3) (es : ES) (k : Nat) (ms : List O3) (i : Int)
def clMm (sh : Sh) (own : Bool) (N : Nat) (ls : List O3) (n : Nat) (xs : List O3) (es : ES) (k : Nat) (ms : List O3) : Mem := match sh with
  | .e => clE own N ls n xs es
  | .a => clN own N ls n xs es
  | .b => clM own N ls n xs es k ms
def clHg (g : clG) : St := clH (clMm g.sh g.own g.N g.ls g.n g.xs g.es g.k g.ms) g.N g.i
def Sh.no (sh : Sh) (ms : List O3) : Prop := match sh with
  | .b => ms ≠ []
  | _ => ms = []
def clInv (g : clG) : Prop := g.ls.length = g.N ∧ g.N ≤ 192 ∧ g.xs.length = g.n ∧ 1 ≤ g.n ∧ g.n ≤ 192 ∧ g.ms.length = g.k ∧ (g.k : Int) ≤ g.i ∧ 0 ≤ g.i ∧ g.i ≤ (g.N : Int) ∧ g.sh.no g.ms
def shMs (ms : List O3) : Sh := match ms with
  | [] => .a
  | _ :: _ => .b
theorem shMs_ok {sh : Sh} {ms : List O3} (h : sh.no ms) : shMs ms = sh.next := by
  cases sh with
  | b => cases ms with
    | nil => exact absurd rfl h
    | cons m ms => rfl
  | e => have : ms = [] := h; subst this; rfl
  | a => have : ms = [] := h; subst this; rfl
def clO (g : clG) : Exit × St := match clL (g.ls.drop g.i.toNat) g.xs g.ms g.es with
  | some r => (.exit 0, stOf 34 [(2, .slice none 0 0), (3, vI 0), (5, .pointer (some ⟨1, 0, none⟩))] (clMm (shMs r.2.1) g.own g.N g.ls r.1.length r.1 r.2.2 r.2.1.length r.2.1))
  | none => (.ret, stOf 34 [(2, .slice none 0 0), (3, vI 5), (5, .pointer (some ⟨1, 0, none⟩))] (clX g.own g.N g.ls))
theorem clRd (sh : Sh) (own : Bool) (N : Nat) (ls : List O3) (n : Nat) (xs : List O3) (es : ES) (k : Nat) (ms : List O3) (i : Int) (hx : xs.length = n) (hm : ms.length = k) (h1 : 1 ≤ n) (h2 : n ≤ 192) (h3 : k ≤ 900) (hs : sh.no ms) :
    roundR ((Cns Try.prog).into 12 1) 40 (clX' Try.prog) [2, 3, 5, 14, 15, 16] [2, 3, 5] [.fix 0, .fix 1, .cell 1 0, .cell 1 1, .cell 1 2] [.fix 0, .fix 1, .cell 1 0, .cell 1 1, .cell 1 2] (clH (clMm sh own N ls n xs es k ms) N i) =
    (match decide (i < (N : Int)) with
    | true => match boundsI i N with
      | true => match mHas (key (atO ls i)) es with
        | true => some (.normal, clH (clMm sh.next own N ls n xs es k ms) N (W (i + 1)))
        | false => match outL (n : Int) (ms ++ [atO ls i]) 193 0 xs es with
          | some r => some (.normal, clH (clMm .b own N ls r.1.length r.1 r.2 (k + 1) (ms ++ [atO ls i])) N (W (i + 1)))
          | none => some (.ret, stOf 34 [(2, .slice none 0 0), (3, vI 5), (5, .pointer (some ⟨1, 0, none⟩))] (clX own N ls))
      | false => none
    | false => some (.exit 0, stOf 34 [(2, .slice none 0 0), (3, vI 0), (5, .pointer (some ⟨1, 0, none⟩))] (clMm sh.next own N ls n xs es k ms))) := by
  have tN : (Nat.beq n n && (okOps n (opRow xs) && (decide (1 ≤ n) && decide (n ≤ 192)))) = true := by
    rw [Nat.beq_refl, okOps_opRow]; simp [h1, h2]
  have tM : (Nat.beq n n && (okOps n (opRow xs) && (Nat.beq k k && (okOps k (opRow ms) && (decide (1 ≤ n) && (decide (n ≤ 192) && decide (k ≤ 900))))))) = true := by
    rw [Nat.beq_refl, Nat.beq_refl, okOps_opRow, okOps_opRow]; simp [h1, h2, h3]
  cases sh with
  | e =>
    have hms : ms = [] := hs
    subst hms
    have hk : k = 0 := hm.symm
    subst hk
    have hE := clRE own N ls n xs es i
    rw [opsOf_row hx, tN] at hE
    refine hE.trans ?_
    unfold otR
    cases decide (i < (N : Int)) with
    | false => rfl
    | true =>
      cases boundsI i N with
      | false => rfl
      | true =>
        cases mHas (key (atO ls i)) es with
        | true => rfl
        | false =>
          simp only [List.nil_append]
          cases outL (n : Int) [atO ls i] 193 0 xs es with
          | none => rfl
          | some r =>
            simp only [Option.isSome_some, Option.getD_some]
            cases Nat.blt n r.1.length <;> rfl
  | a =>
    have hms : ms = [] := hs
    subst hms
    have hk : k = 0 := hm.symm
    subst hk
    have hE := clRN own N ls n xs es i
    rw [opsOf_row hx, tN] at hE
    refine hE.trans ?_
    unfold otR
    cases decide (i < (N : Int)) with
    | false => rfl
    | true =>
      cases boundsI i N with
      | false => rfl
      | true =>
        cases mHas (key (atO ls i)) es with
        | true => rfl
        | false =>
          simp only [List.nil_append]
          cases outL (n : Int) [atO ls i] 193 0 xs es with
          | none => rfl
          | some r =>
            simp only [Option.isSome_some, Option.getD_some]
            cases Nat.blt n r.1.length <;> rfl
  | b =>
    have hE := clRM own N ls n xs es k ms i
    rw [opsOf_row hx, opsOf_row hm, tM] at hE
    refine hE.trans ?_
    unfold otR
    cases decide (i < (N : Int)) with
    | false => rfl
    | true =>
      cases boundsI i N with
      | false => rfl
      | true =>
        cases mHas (key (atO ls i)) es with
        | true => rfl
        | false =>
          cases outL (n : Int) (ms ++ [atO ls i]) 193 0 xs es with
          | none => rfl
          | some r =>
            simp only [Option.isSome_some, Option.getD_some]
            cases Nat.blt n r.1.length <;> rfl
theorem clLp (g : clG) (hg : clInv g) : LoopSem Try.prog 1 (clX' Try.prog) (clHg g) (clO g).1 (clO g).2 := by
  refine loop_rule2 (C := Cns Try.prog) okns (f := 12) (B := 1) (loopsOf_in (k := 6) clX_eq) 40 [2, 3, 5, 14, 15, 16] [2, 3, 5] [.fix 0, .fix 1, .cell 1 0, .cell 1 1, .cell 1 2] [.fix 0, .fix 1, .cell 1 0, .cell 1 1, .cell 1 2] clHg (fun g => (g.N - g.i).toNat) clInv clO ?_ g hg
  clear hg g
  rintro ⟨sh, own, N, ls, n, xs, es, k, ms, i⟩ hg
  unfold clInv at hg
  simp only at hg
  obtain ⟨h1, h2, h3, h4, h5, h6, h7, h8, h9, h10⟩ := hg
  have hR := clRd sh own N ls n xs es k ms i h3 h6 h4 h5 (by omega) h10
  by_cases hi : i < (N : Int)
  · have hd : decide (i < (N : Int)) = true := by simpa using hi
    have hb : boundsI i N = true := by simp [boundsI, h8, hi]
    have hw : W (i + 1) = i + 1 := W_in (by omega)
    have hdr := drop_at (xs := ls) h8 (by omega)
    rw [hd, hb, hw] at hR
    cases hh : mHas (key (atO ls i)) es with
    | true =>
      left
      rw [hh] at hR
      refine ⟨⟨sh.next, own, N, ls, n, xs, es, k, ms, i + 1⟩, _, hR, StLike.refl _, ?_, by simp only; omega, ?_⟩
      · unfold clInv
        simp only
        exact ⟨h1, h2, h3, h4, h5, h6, by omega, by omega, by omega, by cases sh <;> exact h10⟩
      · unfold clO
        simp only [hdr, clL, hh]
    | false =>
      rw [hh] at hR
      cases ho : outL (n : Int) (ms ++ [atO ls i]) 193 0 xs es with
      | none =>
        right
        simp only [ho] at hR
        have hres : clL (ls.drop i.toNat) xs ms es = none := by simp only [hdr, clL, hh, h3, ho]
        exact ⟨stOf 34 [(2, .slice none 0 0), (3, vI 5), (5, .pointer (some ⟨1, 0, none⟩))] (clX own N ls), by unfold clHg clO; simp only [hres]; exact hR, by unfold clO; simp only [hres]; exact StLike.refl _, by unfold clO; simp [hres]⟩
      | some r =>
        left
        simp only [ho] at hR
        obtain ⟨l1, l2⟩ := outL_len (by omega) _ (by omega) ho
        refine ⟨⟨.b, own, N, ls, r.1.length, r.1, r.2, k + 1, ms ++ [atO ls i], i + 1⟩, _, hR, StLike.refl _, ?_, by simp only; omega, ?_⟩
        · unfold clInv
          simp only
          exact ⟨h1, h2, trivial, by omega, l2, by simp [h6], by omega, by omega, by omega, by simp [Sh.no]⟩
        · unfold clO
          simp only [hdr, clL, hh, h3, ho]
  · have hd : decide (i < (N : Int)) = false := by simpa using hi
    rw [hd] at hR
    right
    have hn : ls.drop i.toNat = [] := List.drop_eq_nil_of_le (by omega)
    have hres : clL (ls.drop i.toNat) xs ms es = some (xs, ms, es) := by simp only [hn, clL]
    have hsh := shMs_ok h10
    exact ⟨stOf 34 [(2, .slice none 0 0), (3, vI 0), (5, .pointer (some ⟨1, 0, none⟩))] (clMm sh.next own N ls n xs es k ms), by unfold clHg clO; simp only [hres]; exact hR, by unfold clO; simp only [hres, hsh, h3, h6]; exact StLike.refl _, by unfold clO; simp [hres]⟩
end Go.Proofs.Ytmpkkmhielkggaa


namespace Go.Proofs.Ytmpkkmhielkggaa
open Go Go.Proofs Go.Shelf
def sortOp_ren : Go.Shelf.Ren := ⟨fun | 6 => 39 | 15 => 76 | 14 => 75 | 28 => 106 | 29 => 107 | 20 => 98 | 21 => 99 | 22 => 100 | 23 => 101 | 24 => 102 | 25 => 103 | 26 => 104 | 27 => 105 | 46 => 124 | 47 => 125 | 48 => 126 | 49 => 127 | 50 => 128 | 57 => 135 | n => n, fun | 22 => 22 | 24 => 34 | 25 => 37 | 3 => 3 | 39 => 128 | 0 => 0 | 53 => 154 | 55 => 156 | 4 => 4 | 46 => 148 | 45 => 147 | 50 => 91 | 5 => 5 | 9 => 9 | 66 => 169 | 70 => 173 | 76 => 179 | 77 => 49 | n => n, fun | n => n⟩
theorem sortOp : Go.Proofs.SlLaysF0.n6 Try.prog sortOp_ren := {
  mixed := by kernel_rfl
  f6 := ⟨Try.f39.name, by decide, Try.func39.trans (congrArg some (by kernel_rfl))⟩
  f14 := ⟨Try.f75.name, by decide, Try.func75.trans (congrArg some (by kernel_rfl))⟩
  f15 := Try.func76.trans (congrArg some (by kernel_rfl))
  f20 := ⟨Try.f98.name, by decide, Try.func98.trans (congrArg some (by kernel_rfl))⟩
  f21 := ⟨Try.f99.name, by decide, Try.func99.trans (congrArg some (by kernel_rfl))⟩
  f22 := ⟨Try.f100.name, by decide, Try.func100.trans (congrArg some (by kernel_rfl))⟩
  f23 := ⟨Try.f101.name, by decide, Try.func101.trans (congrArg some (by kernel_rfl))⟩
  f24 := ⟨Try.f102.name, by decide, Try.func102.trans (congrArg some (by kernel_rfl))⟩
  f25 := ⟨Try.f103.name, by decide, Try.func103.trans (congrArg some (by kernel_rfl))⟩
  f26 := ⟨Try.f104.name, by decide, Try.func104.trans (congrArg some (by kernel_rfl))⟩
  f27 := ⟨Try.f105.name, by decide, Try.func105.trans (congrArg some (by kernel_rfl))⟩
  f28 := Try.func106.trans (congrArg some (by kernel_rfl))
  f29 := Try.func107.trans (congrArg some (by kernel_rfl))
  f46 := ⟨Try.f124.name, by decide, Try.func124.trans (congrArg some (by kernel_rfl))⟩
  f47 := Try.func125.trans (congrArg some (by kernel_rfl))
  f48 := Try.func126.trans (congrArg some (by kernel_rfl))
  f49 := ⟨Try.f127.name, by decide, Try.func127.trans (congrArg some (by kernel_rfl))⟩
  f50 := ⟨Try.f128.name, by decide, Try.func128.trans (congrArg some (by kernel_rfl))⟩
  f57 := ⟨Try.f135.name, by decide, Try.func135.trans (congrArg some (by kernel_rfl))⟩
  t0 := Try.underlying0
  a0 := Try.isAgg0
  z0 := Try.sizeOf0
  v0 := Try.zeroValue0
  t3 := Try.underlying3
  a3 := Try.isAgg3
  z3 := Try.sizeOf3
  v3 := Try.zeroValue3
  t4 := Try.underlying4
  a4 := Try.isAgg4
  z4 := Try.sizeOf4
  v4 := Try.zeroValue4
  t5 := Try.underlying5
  a5 := Try.isAgg5
  z5 := Try.sizeOf5
  v5 := Try.zeroValue5
  t9 := Try.underlying9
  a9 := Try.isAgg9
  z9 := Try.sizeOf9
  v9 := Try.zeroValue9
  t22 := Try.underlying22
  a22 := Try.isAgg22
  z22 := Try.sizeOf22
  v22 := Try.zeroValue22
  t25 := Try.underlying37
  a25 := Try.isAgg37
  z25 := Try.sizeOf37
  v25 := Try.zeroValue37
  t39 := Try.underlying128
  a39 := Try.isAgg128
  z39 := Try.sizeOf128
  v39 := Try.zeroValue128
  t45 := Try.underlying147
  a45 := Try.isAgg147
  z45 := Try.sizeOf147
  v45 := Try.zeroValue147
  t46 := Try.underlying148
  a46 := Try.isAgg148
  z46 := Try.sizeOf148
  v46 := Try.zeroValue148
  t50 := Try.underlying91
  a50 := Try.isAgg91
  z50 := Try.sizeOf91
  v50 := Try.zeroValue91
  t53 := Try.underlying154
  a53 := Try.isAgg154
  z53 := Try.sizeOf154
  v53 := Try.zeroValue154
  t55 := Try.underlying156
  a55 := Try.isAgg156
  z55 := Try.sizeOf156
  v55 := Try.zeroValue156
  t66 := Try.underlying169
  a66 := Try.isAgg169
  z66 := Try.sizeOf169
  v66 := Try.zeroValue169
  t70 := Try.underlying173
  a70 := Try.isAgg173
  z70 := Try.sizeOf173
  v70 := Try.zeroValue173
  t76 := Try.underlying179
  a76 := Try.isAgg179
  z76 := Try.sizeOf179
  v76 := Try.zeroValue179
  t77 := Try.underlying49
  a77 := Try.isAgg49
  z77 := Try.sizeOf49
  v77 := Try.zeroValue49 }
end Go.Proofs.Ytmpkkmhielkggaa


namespace Go.Proofs.Ytmpkkmhielkggaa
open Go Vx Go.Shelf Go.RowKit
instance : Inhabited O3 := ⟨O3.zero⟩
def cmpO (a b : O3) : Int := lexI a.l b.l
theorem below_grow {W w' : World} (hb : Below W.heap.size W w') (hd : W.drawn ≤ w'.drawn) : ∃ q os', w' = Go.Sort.grow (W.drewN q) os' := by
  refine ⟨w'.drawn - W.drawn, w'.heap.extract W.heap.size w'.heap.size, ?_⟩
  obtain ⟨h1, h2, h3, h4, h5⟩ := hb
  cases w' with | mk heap tape drawn os output =>
  cases W with | mk heap0 tape0 drawn0 os0 output0 =>
  simp only at h1 h2 h3 h4 h5 hd
  subst h1 h2 h3
  simp only [Go.Sort.grow, World.drewN, World.mk.injEq, true_and, and_true]
  refine ⟨?_, by omega⟩
  apply Array.ext_getElem?
  intro i
  by_cases hi : i < heap0.size
  · rw [Array.getElem?_append_left hi, h5 i hi]
  · rw [Array.getElem?_append_right (by omega), Array.getElem?_extract]
    by_cases hj : i < heap.size
    · rw [if_pos (by omega), show heap0.size + (i - heap0.size) = i by omega]
    · rw [if_neg (by omega), Array.getElem?_eq_none (by omega)]
theorem cmpSem (a b : O3) : PlainSem Try.prog 16 [a.v, b.v] (vI (cmpO a b)) := okCg.tbl 16 [a.v, b.v] (vI (cmpO a b)) (by intro x hx; simp only [List.mem_cons, List.not_mem_nil, or_false] at hx; rcases hx with rfl | rfl <;> rfl) rfl rfl
theorem lt_t {x y : O3} : Go.Proofs.ltOf cmpO x y = true ↔ lexI x.l y.l < 0 := decide_eq_true_iff
theorem lt_f {x y : O3} : Go.Proofs.ltOf cmpO x y = false ↔ ¬ lexI x.l y.l < 0 := decide_eq_false_iff_not
theorem cmp_swo : Go.Sort.SWO (Go.Proofs.ltOf cmpO) where
  irrefl x := by
    have := (lexI_zero (l := x.l) (m := x.l) rfl).2 rfl
    rw [lt_f, this]
    omega
  trans x y z h1 h2 := by
    rw [lt_t] at *
    have h3 := lexI_trans (l := x.l) (m := y.l) (n := z.l) rfl rfl (by omega) (by omega)
    by_cases h0 : lexI x.l z.l = 0
    · have e := (lexI_zero (l := x.l) (m := z.l) rfl).1 h0
      rw [e, lexI_neg y.l z.l] at h1
      omega
    · omega
  ntrans x y z h1 h2 := by
    rw [lt_f] at *
    have e1 := lexI_neg x.l y.l
    have e2 := lexI_neg y.l z.l
    have e3 := lexI_neg x.l z.l
    have h3 := lexI_trans (l := z.l) (m := y.l) (n := x.l) rfl rfl (by omega) (by omega)
    omega
/-- A list in order. -/
def insO (o : O3) : List O3 → List O3
  | [] => [o]
  | x :: l => match decide (lexI x.l o.l < 0) with
    | true => x :: insO o l
    | false => o :: x :: l
def sortO : List O3 → List O3
  | [] => []
  | o :: l => insO o (sortO l)
def SortedO (l : List O3) : Prop := l.Pairwise fun a b => lexI a.l b.l ≤ 0
theorem insO_perm (o : O3) : ∀ (l : List O3), (insO o l).Perm (o :: l)
  | [] => List.Perm.refl _
  | x :: l => by
    simp only [insO]
    split
    · exact ((insO_perm o l).cons x).trans (List.Perm.swap o x l)
    · exact List.Perm.refl _
theorem sortO_perm : ∀ (l : List O3), (sortO l).Perm l
  | [] => List.Perm.refl _
  | o :: l => (insO_perm o (sortO l)).trans ((sortO_perm l).cons o)
theorem insO_sorted (o : O3) : ∀ (l : List O3), SortedO l → SortedO (insO o l)
  | [], _ => by simp [insO, SortedO]
  | x :: l, h => by
    unfold SortedO at h
    rw [List.pairwise_cons] at h
    simp only [insO]
    split
    · rename_i hd
      have hd' : lexI x.l o.l < 0 := by simpa using hd
      unfold SortedO
      rw [List.pairwise_cons]
      refine ⟨fun y hy => ?_, insO_sorted o l h.2⟩
      rcases List.mem_cons.1 ((insO_perm o l).mem_iff.1 hy) with rfl | hy
      · omega
      · exact h.1 y hy
    · rename_i hd
      have hd' : ¬ lexI x.l o.l < 0 := by simpa using hd
      have ho : lexI o.l x.l ≤ 0 := by rw [lexI_neg x.l o.l]; omega
      unfold SortedO
      rw [List.pairwise_cons]
      refine ⟨fun y hy => ?_, List.pairwise_cons.2 h⟩
      rcases List.mem_cons.1 hy with rfl | hy
      · exact ho
      · exact lexI_trans (l := o.l) (m := x.l) (n := y.l) rfl rfl ho (h.1 y hy)
theorem sortO_sorted : ∀ (l : List O3), SortedO (sortO l)
  | [] => List.Pairwise.nil
  | o :: l => insO_sorted o _ (sortO_sorted l)
/-- Lists in order with the same members are one. -/
theorem sorted_one : ∀ {l m : List O3}, SortedO l → SortedO m → l.Perm m → l = m
  | [], m, _, _, hp => by rw [List.nil_perm.1 hp]
  | x :: l, m, hl, hm, hp => by
    cases m with
    | nil => exact absurd hp.symm (by simp)
    | cons y m =>
      unfold SortedO at hl hm
      rw [List.pairwise_cons] at hl hm
      have hxy : x = y := by
        have hx : x ∈ y :: m := hp.mem_iff.1 (by simp)
        have hy : y ∈ x :: l := hp.mem_iff.2 (by simp)
        rcases List.mem_cons.1 hx with rfl | hx
        · rfl
        · rcases List.mem_cons.1 hy with rfl | hy
          · rfl
          · have h1 := hm.1 x hx
            have h2 := hl.1 y hy
            have h3 := lexI_neg x.l y.l
            exact O3.l_inj ((lexI_zero (l := x.l) (m := y.l) rfl).1 (by omega))
      subst hxy
      rw [sorted_one hl.2 hm.2 ((List.perm_cons x).1 hp)]
/-- What the library says of the sort, as a list. -/
theorem sorted_list {d d' : Array O3} (hp : Go.Sort.PermIn 0 d.size d d') (hs : Go.Sort.SortedIn (Go.Proofs.ltOf cmpO) 0 d.size d') : d'.toList = sortO d.toList := by
  obtain ⟨h1, -, h3⟩ := hp
  rw [Array.extract_size, show d'.extract 0 d.size = d' by rw [← h1, Array.extract_size]] at h3
  refine sorted_one ?_ (sortO_sorted _) (h3.trans (sortO_perm _).symm)
  unfold SortedO
  rw [List.pairwise_iff_getElem]
  intro i j hi hj hij
  have hi' : i < d'.size := by simpa using hi
  have hj' : j < d'.size := by simpa using hj
  have h := hs i j (Nat.zero_le _) hij (by omega)
  rw [getElem!_pos d' j hj', getElem!_pos d' i hi', lt_f] at h
  have h4 := lexI_neg d'[j].l d'[i].l
  simp only [Array.getElem_toList]
  omega
end Go.Proofs.Ytmpkkmhielkggaa


namespace Go.Proofs.Ytmpkkmhielkggaa
open Go Vx Go.Shelf Go.RowKit Go.Sort
theorem O3.cells_len (o : O3) : o.cells.length = 12 := rfl
theorem O3.cells_plain (o : O3) : allL plain0 o.cells = true := rfl
theorem O3.cells_cell (o : O3) (k : Nat) (hk : k < 12) : o.cells[k]? = some o.cells[k]! ∧ plain0 o.cells[k]! = true := by
  match k, hk with
  | 0, _ => exact ⟨rfl, rfl⟩
  | 1, _ => exact ⟨rfl, rfl⟩
  | 2, _ => exact ⟨rfl, rfl⟩
  | 3, _ => exact ⟨rfl, rfl⟩
  | 4, _ => exact ⟨rfl, rfl⟩
  | 5, _ => exact ⟨rfl, rfl⟩
  | 6, _ => exact ⟨rfl, rfl⟩
  | 7, _ => exact ⟨rfl, rfl⟩
  | 8, _ => exact ⟨rfl, rfl⟩
  | 9, _ => exact ⟨rfl, rfl⟩
  | 10, _ => exact ⟨rfl, rfl⟩
  | 11, _ => exact ⟨rfl, rfl⟩
  | k + 12, h => omega
theorem opRow_arr {xs : List O3} {i : Nat} (hi : i < xs.length) : opRow xs i = (xs.toArray[i]!).cells := by
  unfold opRow
  rw [getElem!_pos xs.toArray i (by simpa using hi)]
  simp [hi]
/-- A list of maps, held as the library's sort wants it. -/
theorem holds_ops {w : World} {r : Vx.Ren} {p : Vx.Place} {xs : List O3} (h : BlkRel w r p (.rows true true 12 xs.length (opRow xs))) : HoldsK O3.cells 12 w p.blk p.off xs.toArray := by
  obtain ⟨_, _, _, _, cs, T, fz, _, h3, h4, h5⟩ := h
  obtain ⟨rfl, -⟩ := h4 rfl
  intro t ht
  rw [size_flatK] at ht
  have ht' : t < xs.length * 12 := by simpa using ht
  rw [get_flatK _ _ _ t ht]
  have hi : t / 12 < xs.length := by omega
  obtain ⟨h6, h7⟩ := O3.cells_cell (xs.toArray[t / 12]!) (t % 12) (by omega)
  obtain ⟨v', h8, h9⟩ := (h5 (t / 12) hi).2 (t % 12) _ (by rw [opRow_arr hi]; exact h6)
  rw [R0_plain h7] at h9
  subst h9
  refine ⟨?_, ?_⟩
  · rw [show p.off + t = p.off + t / 12 * 12 + t % 12 by omega, cell_of h3]
    exact h8
  · simp [World.frozen?, h3]
/-- The row laid anew: only this block changes. -/
theorem put_only (w : World) (blk off : Nat) (d : Array O3) : Only blk w (putRowK O3.cells 12 w blk off d) := by
  refine ⟨fun k hk => ?_, ?_, rfl, rfl, rfl, rfl⟩
  · simp only [putRowK, Go.Sort.putRow, Go.Sort.mapBlock, Array.getElem?_modify, if_neg (Ne.symm hk)]
  · simp only [putRowK, Go.Sort.putRow, Go.Sort.mapBlock, Array.size_modify]
theorem put_rel {w : World} {r : Vx.Ren} {p : Vx.Place} {xs ys : List O3} (hl : ys.length = xs.length) (h : BlkRel w r p (.rows true true 12 xs.length (opRow xs))) : BlkRel (putRowK O3.cells 12 w p.blk p.off ys.toArray) r p (.rows true true 12 xs.length (opRow ys)) := by
  have hh := holdsK_putRowK O3.cells 12 w p.blk p.off xs.toArray ys.toArray (holds_ops h) (by simpa using hl)
  obtain ⟨h1, h2, h0, _, cs, T, fz, h6, h3, h4, h5⟩ := h
  have hw : (putRowK O3.cells 12 w p.blk p.off ys.toArray).heap[p.blk]? = some (.cells (Go.Sort.putCells id p.off (flatK O3.cells 12 ys.toArray) cs) T fz) := by
    simp only [putRowK, Go.Sort.putRow, Go.Sort.mapBlock, Array.getElem?_modify, h3]
    rfl
  refine ⟨h1, h2, h0, fun _ i hi => O3.cells_plain _, _, T, fz, h6, hw, fun ho => ⟨(h4 ho).1, by simpa [Go.Sort.putCells] using (h4 ho).2⟩, fun i hi => ⟨rfl, fun k v hv => ?_⟩⟩
  have hk : k < 12 := (List.getElem?_eq_some_iff.1 hv).1
  have hi' : i < ys.length := by omega
  rw [opRow_arr hi'] at hv
  obtain ⟨h7, h8⟩ := O3.cells_cell (ys.toArray[i]!) k hk
  rw [h7] at hv
  have ht : i * 12 + k < ys.toArray.size * 12 := by simp; omega
  have := (hh (i * 12 + k) (by rw [size_flatK]; exact ht)).1
  rw [get_flatK _ _ _ _ ht, show (i * 12 + k) / 12 = i by omega, show (i * 12 + k) % 12 = k by omega] at this
  simp only [World.cell?, hw, id] at this
  simp only [Option.some.injEq] at hv
  subst hv
  exact ⟨_, by rw [Nat.add_assoc]; exact this, (R0_plain h8).2 rfl⟩
end Go.Proofs.Ytmpkkmhielkggaa


namespace Go.Proofs.Ytmpkkmhielkggaa
open Go Vx Go.Shelf Go.RowKit Go.Sort
theorem cmpLays (blk off size : Nat) (w : World) : CmpLays Try.prog 16 #[] O3.cells 12 cmpO blk off size w := fun _ _ _ _ x y =>
  ((cmpSem x y).2 _).mono fun _ _ ⟨he, hb, hd⟩ => ⟨he, below_grow hb hd⟩
theorem sortO_len (xs : List O3) : (sortO xs).length = xs.length := (sortO_perm xs).length_eq
theorem below_ahead (w : World) (n : Nat) : Below w.heap.size w (Go.Sort.ahead w n) := ⟨rfl, rfl, rfl, Nat.le_refl _, fun _ _ => rfl⟩
theorem below_grown (w : World) (os : Array Obj) : Below w.heap.size w (Go.Sort.grow w os) := ⟨rfl, rfl, rfl, by simp [Go.Sort.grow], fun k hk => by simp only [Go.Sort.grow]; rw [Array.getElem?_append_left hk]⟩
theorem sortSem (xs : List O3) (hl : xs.length ≤ 1000) : MemSem Try.prog 39 [.slice (some ⟨0, 0, some 0⟩) xs.length 12, .func (.func 16) #[] #[]] [.rows true true 12 xs.length (opRow xs)] (.tuple #[]) [.rows true true 12 xs.length (opRow (sortO xs))] := by
  refine ⟨okFunc_spec (by kernel_rfl), fun w0 keep r args' w ha hm => ?_⟩
  match args', ha with
  | [a', f'], ha =>
    obtain ⟨h1, h2, -⟩ := ha
    have hf : f' = .func (.func 16) #[] #[] := (R_plain (v := .func (.func 16) #[] #[]) rfl).1 h2
    subst hf
    have h1' : R0 r (.slice (some ⟨0, 0, some 0⟩) xs.length 12) a' := h1
    unfold R0 at h1'
    simp only at h1'
    cases hr : r 0 with
    | none => rw [hr] at h1'; exact h1'.elim
    | some q =>
      rw [hr] at h1'
      cases q with
      | none => have := hm.dead 0 hr; simp at this
      | some p =>
        obtain ⟨c, rfl, hsl⟩ := h1'
        obtain ⟨k, hk1, hk2⟩ := hm.blk 0 p hr
        simp only [List.getElem?_cons_zero, Option.some.injEq] at hk1
        subst hk1
        have hown : p.own = true := hk2.1
        have hcon := AnyQ.slices_SortFunc sortOp 12 Try.isAgg34 Try.sizeOf34 O3.cells O3.cells_len (fun x v hv => by
          have := allL_iff.1 (O3.cells_plain x) v hv
          cases v <;> first | rfl | cases this) cmpO cmp_swo 16 #[] p.blk p.off c xs.toArray w (enters_of Try.func16 (by kernel_rfl) rfl) (cmpLays _ _ _ _) (holds_ops hk2) hk2.lt (by simp; omega)
        change Calls Try.prog 39 _ _ _ at hcon
        have hadr : p.addr ⟨0, 0, some 0⟩ = ⟨p.blk, p.off, none⟩ := by simp [Vx.Place.addr]
        rw [hadr]
        have hsz : xs.toArray.size = xs.length := by simp
        rw [hsz] at hcon
        refine hcon.mono ?_
        rintro e w' ⟨rfl, d', n, os, hp, hs, rfl⟩
        have hd : d'.toList = sortO xs := by
          have := sorted_list (d := xs.toArray) (d' := d') (by rw [hsz]; exact hp) (by rw [hsz]; exact hs)
          simpa using this
        have hd2 : d' = (sortO xs).toArray := by rw [← hd]
        subst hd2
        refine ⟨.tuple #[], r, rfl, ⟨#[], rfl, trivial⟩, ?_, Ext.refl r⟩
        unfold sortWorldK
        have m1 := hm.later (below_ahead w n) (by simp [Go.Sort.ahead])
        have b1 : BlkRel (Go.Sort.ahead w n) r p (.rows true true 12 xs.length (opRow xs)) := hk2.mono rfl (Ext.refl r)
        have m2 := m1.turn hr hown (by simp [isGrow]) (put_only _ _ _ _) (put_rel (ys := sortO xs) (sortO_len xs) b1)
        exact m2.later (below_grown _ os) (Nat.le_refl _)
  | [], ha => exact ha.elim
  | [_], ha => exact ha.2.elim
  | _ :: _ :: _ :: _, ha => exact ha.2.2.elim
end Go.Proofs.Ytmpkkmhielkggaa


namespace Go.Proofs.Ytmpkkmhielkggaa.Vx
open Go

instance : DecidableEq O3 := fun a b => match h : a.eqB b with
  | true => isTrue (O3.eqB_iff.1 h)
  | false => isFalse (O3.eqB_false.1 h)

/-! Lists without doubles -/
theorem nodup_sub {α : Type} [DecidableEq α] : ∀ {l m : List α}, l.Nodup → (∀ x ∈ l, x ∈ m) → l.length ≤ m.length
  | [], m, _, _ => Nat.zero_le _
  | x :: l, m, h, hs => by
    rw [List.nodup_cons] at h
    have hx : x ∈ m := hs x (by simp)
    have := nodup_sub (l := l) (m := m.erase x) h.2 fun y hy => by
      have hne : y ≠ x := fun e => h.1 (e ▸ hy)
      exact (List.mem_erase_of_ne hne).2 (hs y (by simp [hy]))
    rw [List.length_erase_of_mem hx] at this
    have : 0 < m.length := List.length_pos_of_mem hx
    simp only [List.length_cons]; omega
theorem nodup_onto {α : Type} [DecidableEq α] {l m : List α} (h : l.Nodup) (hs : ∀ x ∈ l, x ∈ m) (hl : m.length ≤ l.length) : ∀ x ∈ m, x ∈ l := by
  intro x hx
  by_cases hxl : x ∈ l
  · exact hxl
  · exfalso
    have := nodup_sub (l := x :: l) (m := m) (List.nodup_cons.2 ⟨hxl, h⟩) fun y hy => by
      rcases List.mem_cons.1 hy with rfl | hy
      · exact hx
      · exact hs y hy
    simp only [List.length_cons] at this; omega
theorem nodup_map {α β : Type} {f : α → β} {l : List α} (h : l.Nodup) (hf : ∀ a ∈ l, ∀ b ∈ l, f a = f b → a = b) : (l.map f).Nodup := by
  unfold List.Nodup at *
  rw [List.pairwise_map]
  exact h.imp_of_mem fun ha hb hne e => hne (hf _ ha _ hb e)

/-! Maps that can be undone -/
def O3.Inv (a : O3) : Prop := a.t.part = true ∧ a.r.U
theorem O3.inv_ck {a : O3} (h : a.ck = 0) : a.Inv := ⟨(O3.ck_zero.1 h).1, (O3.ck_zero.1 h).2.2⟩
theorem O3.ck_of {a : O3} (h : a.Inv) (hk : a.r.ok = true) : a.ck = 0 := O3.ck_zero.2 ⟨h.1, hk, h.2⟩
theorem O3.Inv.one : O3.one.Inv := ⟨by decide, M3.U_one⟩
theorem O3.one_ck : O3.one.ck = 0 := O3.ck_of O3.Inv.one (by decide)
theorem O3.Inv.mul {a b : O3} (ha : a.Inv) (hb : b.Inv) : (a.mul b).Inv := ⟨V3.md_part _, M3.U_mul ha.2 hb.2⟩
theorem O3.cancel_l {a b c : O3} (ha : a.Inv) (hb : b.Inv) (hc : c.Inv) (h : a.mul b = a.mul c) : b = c := by
  have := congrArg (O3.mul a.inv) h
  rwa [← O3.mul_assoc, ← O3.mul_assoc, O3.inv_mul ha.2, O3.one_mul hb.1, O3.one_mul hc.1] at this
theorem O3.mulE_iff {a b : O3} (ha : a.ck = 0) (hb : b.ck = 0) : a.mulE b = 0 ↔ (a.mul b).r.ok = true := by
  unfold O3.mulE
  rw [leastI_zero.2 ⟨ha, hb⟩]
  unfold O3.smallE
  cases (a.mul b).r.ok <;> simp

/-! What maps generate -/
inductive Gen (xs : List O3) : O3 → Prop
  | one : Gen xs O3.one
  | step {g x : O3} : Gen xs g → x ∈ xs → Gen xs (g.mul x)
def AllInv (xs : List O3) : Prop := ∀ x ∈ xs, x.Inv
theorem Gen.inv {xs : List O3} (hx : AllInv xs) {g : O3} (h : Gen xs g) : g.Inv := by
  induction h with
  | one => exact O3.Inv.one
  | step _ hm ih => exact ih.mul (hx _ hm)
theorem Gen.of {xs : List O3} (hx : AllInv xs) {x : O3} (h : x ∈ xs) : Gen xs x := by
  have := Gen.step (xs := xs) Gen.one h
  rwa [O3.one_mul (hx x h).1] at this
theorem Gen.mul {xs : List O3} (hx : AllInv xs) {g h : O3} (hg : Gen xs g) (hh : Gen xs h) : Gen xs (g.mul h) := by
  induction hh with
  | one => rwa [O3.mul_one (hg.inv hx).1]
  | step _ hm ih => rw [← O3.mul_assoc]; exact Gen.step ih hm
theorem Gen.mono {xs ys : List O3} (hy : AllInv ys) (h : ∀ x ∈ xs, Gen ys x) {g : O3} (hg : Gen xs g) : Gen ys g := by
  induction hg with
  | one => exact Gen.one
  | step _ hm ih => exact ih.mul hy (h _ hm)
/-- There is no group of at most so many maps. -/
def Bad (xs : List O3) : Prop := (∃ g, Gen xs g ∧ g.r.ok = false) ∨ ∃ l : List O3, l.Nodup ∧ 192 < l.length ∧ ∀ g ∈ l, Gen xs g
/-- The group, as a list. -/
def IsGrp (xs l : List O3) : Prop := l.Nodup ∧ l.length ≤ 192 ∧ (∀ g, g ∈ l ↔ Gen xs g) ∧ ∀ g ∈ l, g.ck = 0
theorem IsGrp.not_bad {xs l : List O3} (h : IsGrp xs l) : ¬ Bad xs := by
  obtain ⟨h1, h2, h3, h4⟩ := h
  rintro (⟨g, hg, hk⟩ | ⟨m, k1, k2, k3⟩)
  · have := (O3.ck_zero.1 (h4 g ((h3 g).2 hg))).2.1
    rw [hk] at this; cases this
  · have := nodup_sub k1 fun x hx => (h3 x).2 (k3 x hx)
    omega
theorem Bad.mono {xs ys : List O3} (hy : AllInv ys) (h : ∀ x ∈ xs, Gen ys x) (hb : Bad xs) : Bad ys := by
  rcases hb with ⟨g, hg, hk⟩ | ⟨m, k1, k2, k3⟩
  · exact Or.inl ⟨g, hg.mono hy h, hk⟩
  · exact Or.inr ⟨m, k1, k2, fun g hg => (k3 g hg).mono hy h⟩
theorem IsGrp.perm {xs l m : List O3} (h : IsGrp xs l) (k : IsGrp xs m) : l.Perm m := (List.perm_ext_iff_of_nodup h.1 k.1).2 fun g => by rw [h.2.2.1, k.2.2.1]
/-- A group: each of its maps is undone by one of them. -/
theorem grp_undo {H : List O3} (hn : H.Nodup) (hi : ∀ h ∈ H, h.Inv) (h1 : O3.one ∈ H) (hm : ∀ a ∈ H, ∀ b ∈ H, a.mul b ∈ H) {a : O3} (ha : a ∈ H) : ∃ b ∈ H, a.mul b = O3.one := by
  have hnd : (H.map a.mul).Nodup := nodup_map hn fun x hx y hy e => O3.cancel_l (hi a ha) (hi x hx) (hi y hy) e
  have := nodup_onto hnd (m := H) (fun x hx => by
    obtain ⟨y, hy, rfl⟩ := List.mem_map.1 hx
    exact hm a ha y hy) (by simp) O3.one h1
  obtain ⟨b, hb, e⟩ := List.mem_map.1 this
  exact ⟨b, hb, e⟩

/-! Cosets -/
/-- The cosets of H that begin with these maps. -/
def cosets (H bs : List O3) : List O3 := bs.flatMap fun b => H.map b.mul
theorem cosets_len (H : List O3) : ∀ (bs : List O3), (cosets H bs).length = bs.length * H.length
  | [] => by simp [cosets]
  | b :: bs => by
    have := cosets_len H bs
    unfold cosets at this ⊢
    simp only [List.flatMap_cons, List.length_append, List.length_map, List.length_cons, this]
    rw [Nat.add_mul]; omega
theorem cosets_snoc (H bs : List O3) (b : O3) : cosets H (bs ++ [b]) = cosets H bs ++ H.map b.mul := by
  unfold cosets; rw [List.flatMap_append]; simp
theorem mem_cosets {H bs : List O3} {g : O3} : g ∈ cosets H bs ↔ ∃ b ∈ bs, ∃ h ∈ H, b.mul h = g := by
  unfold cosets
  simp only [List.mem_flatMap, List.mem_map]
structure Grp (H : List O3) : Prop where
  nd : H.Nodup
  ck : ∀ h ∈ H, h.ck = 0
  one : O3.one ∈ H
  mul : ∀ a ∈ H, ∀ b ∈ H, a.mul b ∈ H
theorem IsGrp.grp {xs l : List O3} (hx : AllInv xs) (h : IsGrp xs l) : Grp l := ⟨h.1, h.2.2.2, (h.2.2.1 _).2 Gen.one, fun a ha b hb => (h.2.2.1 _).2 (((h.2.2.1 a).1 ha).mul hx ((h.2.2.1 b).1 hb))⟩
/-- A coset whose first map is new has no map in common with the others. -/
theorem coset_new {H bs : List O3} (hH : Grp H) {f : O3} (hf : f.Inv) (hn : f ∉ cosets H bs) : (∀ g ∈ H.map f.mul, g ∉ cosets H bs) ∧ (H.map f.mul).Nodup := by
  have hi : ∀ h ∈ H, h.Inv := fun h hh => O3.inv_ck (hH.ck h hh)
  constructor
  · intro g hg hc
    obtain ⟨a, ha, rfl⟩ := List.mem_map.1 hg
    obtain ⟨b, hb', h, hh, e⟩ := mem_cosets.1 hc
    obtain ⟨a', ha', e'⟩ := grp_undo hH.nd hi hH.one hH.mul ha
    apply hn
    refine mem_cosets.2 ⟨b, hb', h.mul a', hH.mul h hh a' ha', ?_⟩
    rw [← O3.mul_assoc, e, O3.mul_assoc, e', O3.mul_one hf.1]
  · exact nodup_map hH.nd fun x hx y hy e => O3.cancel_l hf (hi x hx) (hi y hy) e
/-- Cosets that the makers keep among themselves are all that the makers generate. -/
theorem cosets_all {H bs ms : List O3} (hm : AllInv ms) (hH : Grp H) (hb : ∀ b ∈ bs, Gen ms b) (hHg : ∀ h ∈ H, Gen ms h) (h1 : O3.one ∈ bs) (hc : ∀ b ∈ bs, ∀ m ∈ ms, m.mul b ∈ cosets H bs) (g : O3) : g ∈ cosets H bs ↔ Gen ms g := by
  constructor
  · intro h
    obtain ⟨b, hb', k, hk, rfl⟩ := mem_cosets.1 h
    exact (hb b hb').mul hm (hHg k hk)
  · intro h
    have hcl : ∀ m ∈ ms, ∀ y ∈ cosets H bs, m.mul y ∈ cosets H bs := fun m hmm y hy => by
      obtain ⟨b, hb', k, hk, rfl⟩ := mem_cosets.1 hy
      obtain ⟨b', hb2, k', hk', e⟩ := mem_cosets.1 (hc b hb' m hmm)
      exact mem_cosets.2 ⟨b', hb2, k'.mul k, hH.mul _ hk' _ hk, by rw [← O3.mul_assoc, e, O3.mul_assoc]⟩
    have hall : ∀ g, Gen ms g → ∀ y ∈ cosets H bs, g.mul y ∈ cosets H bs := by
      intro g hg
      induction hg with
      | one =>
        intro y hy
        obtain ⟨b, hb', k, hk, rfl⟩ := mem_cosets.1 hy
        rw [O3.one_mul (V3.md_part _)]
        exact hy
      | step _ hmm ih => intro y hy; rw [O3.mul_assoc]; exact ih _ (hcl _ hmm y hy)
    have h1' : O3.one ∈ cosets H bs := mem_cosets.2 ⟨O3.one, h1, O3.one, hH.one, O3.one_mul (by decide)⟩
    have := hall g h O3.one h1'
    rwa [O3.mul_one (h.inv hm).1] at this
end Go.Proofs.Ytmpkkmhielkggaa.Vx
