/-
  The outer loop of group's take: what it is told by. Nothing here is trusted.
-/
import Derived.Test.YtcefeamjnnkahaaGj

namespace Go.Proofs.Ytcefeamjnnkahaa
open Go Vx
def otR (q : Int) (ms xs : List O3) (es : ES) : List O3 × ES := (outL q ms 193 0 xs es).getD ([], [])
def otTest (n n2 k k2 : Nat) (row row2 : Nat → List Value) (q f : Int) (o o2 : O3) : Bool := Nat.beq n n2 && (okOps n row && (Nat.beq k k2 && (okOps k row2 && (o.eqB o2 && (decide (0 < q) && (decide (q ≤ (n : Int)) && (decide (n ≤ 192) && (decide (0 = f) && decide (k ≤ 1000)))))))))

def otNS (st : St) : Option (Ans (Exit × St)) :=
  match Nat.beq st.tmps.length 68, tAt st 0, tAt st 4, tAt st 7, tAt st 8, tkND (thaw (killV st.mem)) with
  | true, some (.pointer (some ⟨0, 0, none⟩)), some (.bool b4), some (.int .i64 q), some (.int .i64 f), some (sh, cs, n2, row, es, co, co2, k2, row2) =>
    match sh, b4, cs, opCells co, opCells co2 with
    | .e, false, [.slice (some ⟨1, 0, some 0⟩) n 12, .map (some 2), .slice (some ⟨6, 0, some 0⟩) k 12], some o, some o2 => some (.br (otTest n n2 k k2 row row2 q f o o2) (.br (outL q (opsOf k row2) 193 0 (opsOf n row) es).isSome
        (.br (Nat.blt n (otR q (opsOf k row2) (opsOf n row) es).1.length)
          (.out (.exit 0, stOf 68 [(4, .bool false)] (tkNB o (otR q (opsOf k row2) (opsOf n row) es).1.length (otR q (opsOf k row2) (opsOf n row) es).1 (otR q (opsOf k row2) (opsOf n row) es).2 k (opsOf k row2))))
          (.out (.exit 0, stOf 68 [(4, .bool false)] (tkNA o (otR q (opsOf k row2) (opsOf n row) es).1.length (otR q (opsOf k row2) (opsOf n row) es).1 (otR q (opsOf k row2) (opsOf n row) es).2 k (opsOf k row2)))))
        (.out (.ret, stOf 68 [(4, .bool false)] (tkNX o)))) .fail)
    | _, _, _, _, _ => none
  | _, _, _, _, _, _ => none
theorem otNK {st : St} {ans : Ans (Exit × St)} {e_ : Exit} {s_ : St} (h : otNS st = some ans) (hr : ans.res = some (e_, s_)) : LoopSem Try.prog 3 (otX Try.prog) st e_ s_ := by
  unfold otNS at h
  split at h
  rotate_left
  · cases h
  rename_i b4 q f sh cs n2 row es co co2 k2 row2 hb hs0 hs1 hs2 hs3 hD
  split at h
  rotate_left
  · cases h
  rename_i n k o o2 hc1 hc2
  simp only [Option.some.injEq] at h
  subst h
  rcases Ans.br_some hr with ⟨hc, hr1⟩ | ⟨_, hr1⟩
  rotate_left
  · simp [Ans.res] at hr1
  clear hr
  unfold otTest at hc
  simp only [Bool.and_eq_true, decide_eq_true_eq] at hc
  obtain ⟨c1, c2, c3, c4, c7, c8, c9, c10, c11, c12⟩ := hc
  have c1 := beq_len c1
  have c3 := beq_len c3
  have hoo : o2 = o := (O3.eqB_iff.1 c7).symm
  subst hoo
  subst c11
  have hlike := tkND_spec (o := o2) (n := n) (k := k) hD rfl c1 c3 (opCells_spec hc1) (opCells_spec hc2) c2 c4
  have hI : otInv ⟨.e, o2, n, n, opsOf n row, es, k, opsOf k row2, q, 0, 193⟩ := by
    unfold otInv
    simp only
    exact ⟨opsOf_length n row, opsOf_length k row2, c8, c9, c10, by omega, c12, by omega, by omega, Nat.le_refl _, Nat.le_refl _, rfl⟩
  have key := otNL _ hI
  have key := LoopSem.like (tm := (otNHg ⟨.e, o2, n, n, opsOf n row, es, k, opsOf k row2, q, 0, 193⟩).tmps) (m := thaw (killV st.mem)) key hlike
  have key := LoopSem.fresh key
  have hk : keepL [0, 4, 7, 8] 0 st.tmps = (otNHg ⟨.e, o2, n, n, opsOf n row, es, k, opsOf k row2, q, 0, 193⟩).tmps := by
    have := keep_eq [(0, .pointer (some ⟨0, 0, none⟩)), (4, .bool false), (7, vI q), (8, vI 0)] st.tmps 0 (by
      intro x hx _
      simp only [List.mem_cons, List.not_mem_nil, or_false] at hx
      rcases hx with rfl | rfl | rfl | rfl
      · exact hs0
      · exact hs1
      · exact hs2
      · exact hs3)
    rw [show (keepL [0, 4, 7, 8] 0 st.tmps) = _ from this, beq_len hb]
    rfl
  rw [← hk] at key
  have key : LoopSem Try.prog 3 (otX Try.prog) st _ _ := LoopSem.clean (mask := [0, 4, 7, 8]) key
  unfold otNO at key
  simp only at key
  rcases Ans.br_some hr1 with ⟨hq, hr2⟩ | ⟨hq, hr2⟩
  · obtain ⟨r, hr'⟩ := Option.isSome_iff_exists.1 hq
    have hmr : (otR q (opsOf k row2) (opsOf n row) es) = r := by unfold otR; rw [hr']; rfl
    rw [hmr] at hr2
    rw [hr'] at key
    simp only [shOf] at key
    rcases Ans.br_some hr2 with ⟨hq2, hr3⟩ | ⟨hq2, hr3⟩
    · rw [hq2] at key
      simp only [Ans.res, Option.some.injEq, Prod.mk.injEq] at hr3
      obtain ⟨rfl, rfl⟩ := hr3
      exact key
    · rw [hq2] at key
      simp only [Ans.res, Option.some.injEq, Prod.mk.injEq] at hr3
      obtain ⟨rfl, rfl⟩ := hr3
      exact key
  · have hn : (outL q (opsOf k row2) 193 0 (opsOf n row) es) = none := by
      cases hm : (outL q (opsOf k row2) 193 0 (opsOf n row) es) with
      | none => rfl
      | some r => rw [hm] at hq; cases hq
    rw [hn] at key
    simp only [Ans.res, Option.some.injEq, Prod.mk.injEq] at hr2
    obtain ⟨rfl, rfl⟩ := hr2
    exact key


def otMS (st : St) : Option (Ans (Exit × St)) :=
  match Nat.beq st.tmps.length 68, tAt st 0, tAt st 4, tAt st 7, tAt st 8, tkMD (thaw (killV st.mem)) with
  | true, some (.pointer (some ⟨0, 0, none⟩)), some (.bool b4), some (.int .i64 q), some (.int .i64 f), some (sh, cs, n2, row, es, co, co2, k2, row2) =>
    match sh, b4, cs, opCells co, opCells co2 with
    | .e, false, [.slice (some ⟨1, 0, some 0⟩) n 12, .map (some 2), .slice (some ⟨7, 0, some 0⟩) k 12], some o, some o2 => some (.br (otTest n n2 k k2 row row2 q f o o2) (.br (outL q (opsOf k row2) 193 0 (opsOf n row) es).isSome
        (.br (Nat.blt n (otR q (opsOf k row2) (opsOf n row) es).1.length)
          (.out (.exit 0, stOf 68 [(4, .bool false)] (tkMB o (otR q (opsOf k row2) (opsOf n row) es).1.length (otR q (opsOf k row2) (opsOf n row) es).1 (otR q (opsOf k row2) (opsOf n row) es).2 k (opsOf k row2))))
          (.out (.exit 0, stOf 68 [(4, .bool false)] (tkMA o (otR q (opsOf k row2) (opsOf n row) es).1.length (otR q (opsOf k row2) (opsOf n row) es).1 (otR q (opsOf k row2) (opsOf n row) es).2 k (opsOf k row2)))))
        (.out (.ret, stOf 68 [(4, .bool false)] (tkMX o)))) .fail)
    | _, _, _, _, _ => none
  | _, _, _, _, _, _ => none
theorem otMK {st : St} {ans : Ans (Exit × St)} {e_ : Exit} {s_ : St} (h : otMS st = some ans) (hr : ans.res = some (e_, s_)) : LoopSem Try.prog 4 (otX Try.prog) st e_ s_ := by
  unfold otMS at h
  split at h
  rotate_left
  · cases h
  rename_i b4 q f sh cs n2 row es co co2 k2 row2 hb hs0 hs1 hs2 hs3 hD
  split at h
  rotate_left
  · cases h
  rename_i n k o o2 hc1 hc2
  simp only [Option.some.injEq] at h
  subst h
  rcases Ans.br_some hr with ⟨hc, hr1⟩ | ⟨_, hr1⟩
  rotate_left
  · simp [Ans.res] at hr1
  clear hr
  unfold otTest at hc
  simp only [Bool.and_eq_true, decide_eq_true_eq] at hc
  obtain ⟨c1, c2, c3, c4, c7, c8, c9, c10, c11, c12⟩ := hc
  have c1 := beq_len c1
  have c3 := beq_len c3
  have hoo : o2 = o := (O3.eqB_iff.1 c7).symm
  subst hoo
  subst c11
  have hlike := tkMD_spec (o := o2) (n := n) (k := k) hD rfl c1 c3 (opCells_spec hc1) (opCells_spec hc2) c2 c4
  have hI : otInv ⟨.e, o2, n, n, opsOf n row, es, k, opsOf k row2, q, 0, 193⟩ := by
    unfold otInv
    simp only
    exact ⟨opsOf_length n row, opsOf_length k row2, c8, c9, c10, by omega, c12, by omega, by omega, Nat.le_refl _, Nat.le_refl _, rfl⟩
  have key := otML _ hI
  have key := LoopSem.like (tm := (otMHg ⟨.e, o2, n, n, opsOf n row, es, k, opsOf k row2, q, 0, 193⟩).tmps) (m := thaw (killV st.mem)) key hlike
  have key := LoopSem.fresh key
  have hk : keepL [0, 4, 7, 8] 0 st.tmps = (otMHg ⟨.e, o2, n, n, opsOf n row, es, k, opsOf k row2, q, 0, 193⟩).tmps := by
    have := keep_eq [(0, .pointer (some ⟨0, 0, none⟩)), (4, .bool false), (7, vI q), (8, vI 0)] st.tmps 0 (by
      intro x hx _
      simp only [List.mem_cons, List.not_mem_nil, or_false] at hx
      rcases hx with rfl | rfl | rfl | rfl
      · exact hs0
      · exact hs1
      · exact hs2
      · exact hs3)
    rw [show (keepL [0, 4, 7, 8] 0 st.tmps) = _ from this, beq_len hb]
    rfl
  rw [← hk] at key
  have key : LoopSem Try.prog 4 (otX Try.prog) st _ _ := LoopSem.clean (mask := [0, 4, 7, 8]) key
  unfold otMO at key
  simp only at key
  rcases Ans.br_some hr1 with ⟨hq, hr2⟩ | ⟨hq, hr2⟩
  · obtain ⟨r, hr'⟩ := Option.isSome_iff_exists.1 hq
    have hmr : (otR q (opsOf k row2) (opsOf n row) es) = r := by unfold otR; rw [hr']; rfl
    rw [hmr] at hr2
    rw [hr'] at key
    simp only [shOf] at key
    rcases Ans.br_some hr2 with ⟨hq2, hr3⟩ | ⟨hq2, hr3⟩
    · rw [hq2] at key
      simp only [Ans.res, Option.some.injEq, Prod.mk.injEq] at hr3
      obtain ⟨rfl, rfl⟩ := hr3
      exact key
    · rw [hq2] at key
      simp only [Ans.res, Option.some.injEq, Prod.mk.injEq] at hr3
      obtain ⟨rfl, rfl⟩ := hr3
      exact key
  · have hn : (outL q (opsOf k row2) 193 0 (opsOf n row) es) = none := by
      cases hm : (outL q (opsOf k row2) 193 0 (opsOf n row) es) with
      | none => rfl
      | some r => rw [hm] at hq; cases hq
    rw [hn] at key
    simp only [Ans.res, Option.some.injEq, Prod.mk.injEq] at hr2
    obtain ⟨rfl, rfl⟩ := hr2
    exact key

def Cot (P : Program) : Cx := ((Ctk P).addLB 31 7 4 otMS).addLB 31 7 3 otNS
theorem okot : CxOk (Cot Try.prog) := Cx.addLB_ok (Cx.addLB_ok oktk otX_eq fun _ _ _ _ h hr => otMK h hr) otX_eq fun _ _ _ _ h hr => otNK h hr
end Go.Proofs.Ytcefeamjnnkahaa


namespace Go.Proofs.Ytcefeamjnnkahaa
open Go Vx
def strucC (a n m k : Nat) : Blk := .cells true 0 [.slice (some ⟨a, 0, some 0⟩) n 12, .map (some 2), .slice (some ⟨m, 0, some 0⟩) k 12]
def spanM0 (n : Nat) (xs : List O3) (es : ES) : Mem := [.cells true 0 [.slice (some ⟨1, 0, some 0⟩) n 12, .map (some 2), .slice none 0 0], .rows true true 12 n (opRow xs), .mp true 12 es]
def resNA (n : Nat) (xs : List O3) (es : ES) (k : Nat) (ms : List O3) : Mem := [strucC 1 n 3 k, .rows true true 12 n (opRow xs), .mp true 12 es, .rows true true 12 k (opRow ms), .no]
def resNB (n : Nat) (xs : List O3) (es : ES) (k : Nat) (ms : List O3) : Mem := [strucC 4 n 3 k, .gone, .mp true 12 es, .rows true true 12 k (opRow ms), .rows true true 12 n (opRow xs)]
def resNX : Mem := [.gone, .gone, .gone, .no, .no]
def resMA (n : Nat) (xs : List O3) (es : ES) (k : Nat) (ms : List O3) : Mem := [strucC 1 n 4 k, .rows true true 12 n (opRow xs), .mp true 12 es, .gone, .rows true true 12 k (opRow ms), .no]
def resMB (n : Nat) (xs : List O3) (es : ES) (k : Nat) (ms : List O3) : Mem := [strucC 5 n 4 k, .gone, .mp true 12 es, .gone, .rows true true 12 k (opRow ms), .rows true true 12 n (opRow xs)]
def resMX : Mem := [.gone, .gone, .gone, .gone, .no, .no]
theorem takeN (o : O3) (n : Nat) (xs : List O3) (es : ES) : exT ((Cot Try.prog).at 31) 60 Try.f31 [.pointer (some ⟨0, 0, none⟩), o.v] (spanM0 n xs es) [.fix 0, .fix 1, .fix 2, .cellN 0 2 3, .cellN 0 0 3] =
    (match mHas (key o) es with
    | true => some (.bool true, spanM0 n xs es ++ [.no, .no])
    | false => (gd (otTest n n 1 1 (opRow xs) (chop 12 0 o.cells) n 0 o o) (match (outL (n : Int) (opsOf 1 (chop 12 0 o.cells)) 193 0 (opsOf n (opRow xs)) es).isSome with
      | true => match Nat.blt n (otR (n : Int) (opsOf 1 (chop 12 0 o.cells)) (opsOf n (opRow xs)) es).1.length with
        | true => some (.bool true, resNB (otR (n : Int) (opsOf 1 (chop 12 0 o.cells)) (opsOf n (opRow xs)) es).1.length (otR (n : Int) (opsOf 1 (chop 12 0 o.cells)) (opsOf n (opRow xs)) es).1 (otR (n : Int) (opsOf 1 (chop 12 0 o.cells)) (opsOf n (opRow xs)) es).2 1 (opsOf 1 (chop 12 0 o.cells)))
        | false => some (.bool true, resNA (otR (n : Int) (opsOf 1 (chop 12 0 o.cells)) (opsOf n (opRow xs)) es).1.length (otR (n : Int) (opsOf 1 (chop 12 0 o.cells)) (opsOf n (opRow xs)) es).1 (otR (n : Int) (opsOf 1 (chop 12 0 o.cells)) (opsOf n (opRow xs)) es).2 1 (opsOf 1 (chop 12 0 o.cells)))
      | false => some (.bool false, resNX)))) := by kernel_rfl
theorem takeM (o : O3) (n : Nat) (xs : List O3) (es : ES) (k : Nat) (ms : List O3) : exT ((Cot Try.prog).at 31) 60 Try.f31 [.pointer (some ⟨0, 0, none⟩), o.v] (spanM n xs es k ms) [.fix 0, .fix 1, .fix 2, .fix 3, .cellN 0 2 4, .cellN 0 0 4] =
    (match mHas (key o) es with
    | true => some (.bool true, spanM n xs es k ms ++ [.no, .no])
    | false => gd (fits k) (gd (otTest n n (k + 1) (k + 1) (opRow xs) (catR k (opRow ms) (chop 12 0 o.cells)) n 0 o o) (match (outL (n : Int) (opsOf (k + 1) (catR k (opRow ms) (chop 12 0 o.cells))) 193 0 (opsOf n (opRow xs)) es).isSome with
      | true => match Nat.blt n (otR (n : Int) (opsOf (k + 1) (catR k (opRow ms) (chop 12 0 o.cells))) (opsOf n (opRow xs)) es).1.length with
        | true => some (.bool true, resMB (otR (n : Int) (opsOf (k + 1) (catR k (opRow ms) (chop 12 0 o.cells))) (opsOf n (opRow xs)) es).1.length (otR (n : Int) (opsOf (k + 1) (catR k (opRow ms) (chop 12 0 o.cells))) (opsOf n (opRow xs)) es).1 (otR (n : Int) (opsOf (k + 1) (catR k (opRow ms) (chop 12 0 o.cells))) (opsOf n (opRow xs)) es).2 (k + 1) (opsOf (k + 1) (catR k (opRow ms) (chop 12 0 o.cells))))
        | false => some (.bool true, resMA (otR (n : Int) (opsOf (k + 1) (catR k (opRow ms) (chop 12 0 o.cells))) (opsOf n (opRow xs)) es).1.length (otR (n : Int) (opsOf (k + 1) (catR k (opRow ms) (chop 12 0 o.cells))) (opsOf n (opRow xs)) es).1 (otR (n : Int) (opsOf (k + 1) (catR k (opRow ms) (chop 12 0 o.cells))) (opsOf n (opRow xs)) es).2 (k + 1) (opsOf (k + 1) (catR k (opRow ms) (chop 12 0 o.cells))))
      | false => some (.bool false, resMX)))) := by kernel_rfl
end Go.Proofs.Ytcefeamjnnkahaa


namespace Go.Proofs.Ytcefeamjnnkahaa
open Go Vx
theorem ops_cat {k : Nat} {ms : List O3} (hm : ms.length = k) (o : O3) : opsOf (k + 1) (catR k (opRow ms) (chop 12 0 o.cells)) = ms ++ [o] ∧ okOps (k + 1) (catR k (opRow ms) (chop 12 0 o.cells)) = true := by
  subst hm
  constructor
  · have := opsOf_opRow (ms ++ [o])
    rw [List.length_append, List.length_singleton] at this
    rw [← this]
    unfold opsOf
    refine List.map_congr_left fun i hi => ?_
    rw [catR_one ms o i (List.mem_range.1 hi)]
  · unfold okOps
    refine List.all_eq_true.2 fun i hi => ?_
    rw [catR_one ms o i (List.mem_range.1 hi)]
    exact isO_cells _

theorem takeNS (o : O3) (n : Nat) (xs : List O3) (es : ES) (hx : xs.length = n) (h1 : 1 ≤ n) (h2 : n ≤ 192) {v : Value} {m' : Mem}
    (h : Ans.res (.br (mHas (key o) es) (.out (.bool true, spanM0 n xs es ++ [.no, .no])) (.br (outL (n : Int) ([o]) 193 0 (xs) es).isSome (.br (Nat.blt n (otR (n : Int) ([o]) (xs) es).1.length) (.out (.bool true, resNB (otR (n : Int) ([o]) (xs) es).1.length (otR (n : Int) ([o]) (xs) es).1 (otR (n : Int) ([o]) (xs) es).2 1 ([o]))) (.out (.bool true, resNA (otR (n : Int) ([o]) (xs) es).1.length (otR (n : Int) ([o]) (xs) es).1 (otR (n : Int) ([o]) (xs) es).2 1 ([o])))) (.out (.bool false, goneAll 3)))) = some (v, m')) : MemSem Try.prog 31 [.pointer (some ⟨0, 0, none⟩), o.v] (spanM0 n xs es) v m' := by
  have sem : ∀ {v : Value} {m' : Mem}, exT ((Cot Try.prog).at 31) 60 Try.f31 [.pointer (some ⟨0, 0, none⟩), o.v] (spanM0 n xs es) [.fix 0, .fix 1, .fix 2, .cellN 0 2 3, .cellN 0 0 3] = some (v, m') → MemSem Try.prog 31 [.pointer (some ⟨0, 0, none⟩), o.v] (spanM0 n xs es) v m' := fun hh => exT_ok okot Try.func31 (by kernel_rfl) hh
  have hE := takeN o n xs es
  have ht : otTest n n 1 1 (opRow xs) (chop 12 0 o.cells) n 0 o o = true := by
    unfold otTest
    rw [Nat.beq_refl, okOps_opRow, O3.eqB_refl, show okOps 1 (chop 12 0 o.cells) = true from rfl]
    simp; omega
  rw [opsOf_row hx, show opsOf 1 (chop 12 0 o.cells) = [o] from rfl, ht] at hE
  simp only [gd] at hE
  rcases Ans.br_some h with ⟨hq, h⟩ | ⟨hq, h⟩
  · rw [hq] at hE
    simp only [Ans.res, Option.some.injEq, Prod.mk.injEq] at h
    obtain ⟨rfl, rfl⟩ := h
    exact sem hE
  · simp only [hq] at hE
    rcases Ans.br_some h with ⟨hq, h⟩ | ⟨hq, h⟩
    · simp only [hq] at hE
      rcases Ans.br_some h with ⟨hq, h⟩ | ⟨hq, h⟩
      · simp only [hq] at hE
        simp only [Ans.res, Option.some.injEq, Prod.mk.injEq] at h
        obtain ⟨rfl, rfl⟩ := h
        exact sem hE
      · simp only [hq] at hE
        simp only [Ans.res, Option.some.injEq, Prod.mk.injEq] at h
        obtain ⟨rfl, rfl⟩ := h
        exact sem hE
    · simp only [hq] at hE
      simp only [Ans.res, Option.some.injEq, Prod.mk.injEq] at h
      obtain ⟨rfl, rfl⟩ := h
      exact (sem hE).forget rfl


theorem takeMS (o : O3) (n : Nat) (xs : List O3) (es : ES) (k : Nat) (ms : List O3) (hx : xs.length = n) (h1 : 1 ≤ n) (h2 : n ≤ 192) (hm : ms.length = k) (h3 : k ≤ 900) {v : Value} {m' : Mem}
    (h : Ans.res (.br (mHas (key o) es) (.out (.bool true, spanM n xs es k ms ++ [.no, .no])) (.br (outL (n : Int) (ms ++ [o]) 193 0 (xs) es).isSome (.br (Nat.blt n (otR (n : Int) (ms ++ [o]) (xs) es).1.length) (.out (.bool true, resMB (otR (n : Int) (ms ++ [o]) (xs) es).1.length (otR (n : Int) (ms ++ [o]) (xs) es).1 (otR (n : Int) (ms ++ [o]) (xs) es).2 (k + 1) (ms ++ [o]))) (.out (.bool true, resMA (otR (n : Int) (ms ++ [o]) (xs) es).1.length (otR (n : Int) (ms ++ [o]) (xs) es).1 (otR (n : Int) (ms ++ [o]) (xs) es).2 (k + 1) (ms ++ [o])))) (.out (.bool false, goneAll 4)))) = some (v, m')) : MemSem Try.prog 31 [.pointer (some ⟨0, 0, none⟩), o.v] (spanM n xs es k ms) v m' := by
  have sem : ∀ {v : Value} {m' : Mem}, exT ((Cot Try.prog).at 31) 60 Try.f31 [.pointer (some ⟨0, 0, none⟩), o.v] (spanM n xs es k ms) [.fix 0, .fix 1, .fix 2, .fix 3, .cellN 0 2 4, .cellN 0 0 4] = some (v, m') → MemSem Try.prog 31 [.pointer (some ⟨0, 0, none⟩), o.v] (spanM n xs es k ms) v m' := fun hh => exT_ok okot Try.func31 (by kernel_rfl) hh
  have hE := takeM o n xs es k ms
  obtain ⟨e1, e2⟩ := ops_cat hm o
  have ht : otTest n n (k + 1) (k + 1) (opRow xs) (catR k (opRow ms) (chop 12 0 o.cells)) n 0 o o = true := by
    unfold otTest
    rw [Nat.beq_refl, Nat.beq_refl, okOps_opRow, O3.eqB_refl, e2]
    simp; omega
  rw [opsOf_row hx, e1, ht, fits_ok (by omega)] at hE
  simp only [gd] at hE
  rcases Ans.br_some h with ⟨hq, h⟩ | ⟨hq, h⟩
  · rw [hq] at hE
    simp only [Ans.res, Option.some.injEq, Prod.mk.injEq] at h
    obtain ⟨rfl, rfl⟩ := h
    exact sem hE
  · simp only [hq] at hE
    rcases Ans.br_some h with ⟨hq, h⟩ | ⟨hq, h⟩
    · simp only [hq] at hE
      rcases Ans.br_some h with ⟨hq, h⟩ | ⟨hq, h⟩
      · simp only [hq] at hE
        simp only [Ans.res, Option.some.injEq, Prod.mk.injEq] at h
        obtain ⟨rfl, rfl⟩ := h
        exact sem hE
      · simp only [hq] at hE
        simp only [Ans.res, Option.some.injEq, Prod.mk.injEq] at h
        obtain ⟨rfl, rfl⟩ := h
        exact sem hE
    · simp only [hq] at hE
      simp only [Ans.res, Option.some.injEq, Prod.mk.injEq] at h
      obtain ⟨rfl, rfl⟩ := h
      exact (sem hE).forget rfl

def takeF : List Value → Mem → Option (Ans (Value × Mem))
  | [.pointer (some ⟨0, 0, none⟩), .agg co], [.cells true 0 cs, .rows true true 12 n2 row, .mp true 12 es] => match cs, opCells co.toList with
    | [.slice (some ⟨1, 0, some 0⟩) n 12, .map (some 2), .slice none 0 0], some o => some (.br (Nat.beq n n2 && (okOps n row && (decide (1 ≤ n) && decide (n ≤ 192)))) (.br (mHas (key o) es) (.out (.bool true, spanM0 n (opsOf n row) es ++ [.no, .no])) (.br (outL (n : Int) ([o]) 193 0 (opsOf n row) es).isSome (.br (Nat.blt n (otR (n : Int) ([o]) (opsOf n row) es).1.length) (.out (.bool true, resNB (otR (n : Int) ([o]) (opsOf n row) es).1.length (otR (n : Int) ([o]) (opsOf n row) es).1 (otR (n : Int) ([o]) (opsOf n row) es).2 1 ([o]))) (.out (.bool true, resNA (otR (n : Int) ([o]) (opsOf n row) es).1.length (otR (n : Int) ([o]) (opsOf n row) es).1 (otR (n : Int) ([o]) (opsOf n row) es).2 1 ([o])))) (.out (.bool false, goneAll 3)))) .fail)
    | _, _ => none
  | [.pointer (some ⟨0, 0, none⟩), .agg co], [.cells true 0 cs, .rows true true 12 n2 row, .mp true 12 es, .rows true true 12 k2 row2] => match cs, opCells co.toList with
    | [.slice (some ⟨1, 0, some 0⟩) n 12, .map (some 2), .slice (some ⟨3, 0, some 0⟩) k 12], some o => some (.br (Nat.beq n n2 && (okOps n row && (Nat.beq k k2 && (okOps k row2 && (decide (1 ≤ n) && (decide (n ≤ 192) && decide (k ≤ 900))))))) (.br (mHas (key o) es) (.out (.bool true, spanM n (opsOf n row) es k (opsOf k row2) ++ [.no, .no])) (.br (outL (n : Int) (opsOf k row2 ++ [o]) 193 0 (opsOf n row) es).isSome (.br (Nat.blt n (otR (n : Int) (opsOf k row2 ++ [o]) (opsOf n row) es).1.length) (.out (.bool true, resMB (otR (n : Int) (opsOf k row2 ++ [o]) (opsOf n row) es).1.length (otR (n : Int) (opsOf k row2 ++ [o]) (opsOf n row) es).1 (otR (n : Int) (opsOf k row2 ++ [o]) (opsOf n row) es).2 (k + 1) (opsOf k row2 ++ [o]))) (.out (.bool true, resMA (otR (n : Int) (opsOf k row2 ++ [o]) (opsOf n row) es).1.length (otR (n : Int) (opsOf k row2 ++ [o]) (opsOf n row) es).1 (otR (n : Int) (opsOf k row2 ++ [o]) (opsOf n row) es).2 (k + 1) (opsOf k row2 ++ [o])))) (.out (.bool false, goneAll 4)))) .fail)
    | _, _ => none
  | _, _ => none
def Cta (P : Program) : Cx := (Cot P).addF 31 takeF
theorem okta : CxOk (Cta Try.prog) := Cx.addF_ok okot fun args mm ans v m' h hr => by
  unfold takeF at h
  split at h
  · rename_i co cs n2 row es
    split at h
    rotate_left
    · cases h
    rename_i n o hc1
    simp only [Option.some.injEq] at h
    subst h
    rcases Ans.br_some hr with ⟨hc, hr1⟩ | ⟨_, hr1⟩
    rotate_left
    · simp [Ans.res] at hr1
    clear hr
    simp only [Bool.and_eq_true, decide_eq_true_eq] at hc
    obtain ⟨c1, c2, c3, c4⟩ := hc
    have c1 := beq_len c1
    subst c1
    have e1 : co = o.cells.toArray := by rw [← opCells_spec hc1]
    subst e1
    exact (takeNS o n (opsOf n row) es (opsOf_length n row) c3 c4 hr1).like ⟨.refl _, .rows (ops_like c2), .refl _, trivial⟩
  · rename_i co cs n2 row es k2 row2
    split at h
    rotate_left
    · cases h
    rename_i n k o hc1
    simp only [Option.some.injEq] at h
    subst h
    rcases Ans.br_some hr with ⟨hc, hr1⟩ | ⟨_, hr1⟩
    rotate_left
    · simp [Ans.res] at hr1
    clear hr
    simp only [Bool.and_eq_true, decide_eq_true_eq] at hc
    obtain ⟨c1, c2, c3, c4, c5, c6, c7⟩ := hc
    have c1 := beq_len c1
    subst c1
    have c3 := beq_len c3
    subst c3
    have e1 : co = o.cells.toArray := by rw [← opCells_spec hc1]
    subst e1
    exact (takeMS o n (opsOf n row) es k (opsOf k row2) (opsOf_length n row) c5 c6 (opsOf_length k row2) c7 hr1).like ⟨.refl _, .rows (ops_like c2), .refl _, .rows (ops_like c4), trivial⟩
  · cases h
end Go.Proofs.Ytcefeamjnnkahaa
