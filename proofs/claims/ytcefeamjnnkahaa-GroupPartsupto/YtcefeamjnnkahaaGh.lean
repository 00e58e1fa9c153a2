/-
  The loop of group's takeCoset. Nothing here is trusted.
-/
import Derived.Test.YtcefeamjnnkahaaGg

namespace Go.Proofs.Ytcefeamjnnkahaa
open Go Vx
def strucB (a n k : Nat) : Blk := .cells true 0 [.slice (some ⟨a, 0, some 0⟩) n 12, .map (some 2), .slice (some ⟨3, 0, some 0⟩) k 12]
def tcX (P : Program) : Code := (loopsOf P 48 10).headD .skip
theorem tcX_eq : loopsOf Try.prog 48 10 = [tcX Try.prog] := by kernel_rfl
/-- Ahead of the first round. -/
def tcE (n : Nat) (xs : List O3) (es : List (List Int × Int)) (mm bb : O3) (k : Nat) (ms : List O3) (f : O3) (p : Nat) (i : Int) : St := stOf 66 [(0, .pointer (some ⟨0, 0, none⟩)), (9, .pointer (some ⟨6, 0, none⟩)), (48, .slice (some ⟨1, 0, some 0⟩) p 12), (49, vI p), (50, vI i)] [strucB 1 n k, .rows true true 12 n (opRow xs), .mp true 12 es, .rows true true 12 k (opRow ms), .cells true 0 mm.cells, .cells true 0 bb.cells, .cells true 0 f.cells, .cells true 0 []]
/-- Behind a round. -/
def tcB (n0 : Nat) (xs0 : List O3) (n : Nat) (row : Nat → List Value) (es : List (List Int × Int)) (k : Nat) (ms : List O3) (f : O3) (p : Nat) (i : Int) : St := stOf 66 [(0, .pointer (some ⟨0, 0, none⟩)), (9, .pointer (some ⟨4, 0, none⟩)), (48, .slice (some ⟨1, 0, some 0⟩) p 12), (49, vI p), (50, vI i)] [strucB 5 n k, .view true 12 n0 (opRow xs0), .mp true 12 es, .rows true true 12 k (opRow ms), .cells true 0 f.cells, .grow true 12 n row]
def tcM0 (n : Nat) (xs : List O3) (es : List (List Int × Int)) (k : Nat) (ms : List O3) : Mem := [strucB 1 n k, .rows true true 12 n (opRow xs), .mp true 12 es, .rows true true 12 k (opRow ms), .no]
def tcM1 (n : Nat) (xs : List O3) (es : List (List Int × Int)) (k : Nat) (ms : List O3) : Mem := [strucB 4 n k, .gone, .mp true 12 es, .rows true true 12 k (opRow ms), .rows true true 12 n (opRow xs)]
def fits (n : Nat) : Bool := Nat.beq n n && (decide ((n + 1) * 96 ≤ 2 ^ 47) && decide (n + 1 ≤ 2 ^ 62))
theorem tcRE (n : Nat) (xs : List O3) (es : List (List Int × Int)) (mm bb : O3) (k : Nat) (ms : List O3) (f : O3) (p : Nat) (i : Int) : roundR ((Ck Try.prog).into 48 4) 40 (tcX Try.prog) [0, 9, 48, 49, 50] [8] [.fix 0, .fix 1, .fix 2, .fix 3, .slot 9, .cellN 0 0 4] [.fix 0, .fix 1, .fix 2, .fix 3, .cellN 0 0 4] (tcE n xs es mm bb k ms f p i) =
    (match decide (i < (p : Int)) with
    | true => match boundsI i p with
      | true => match f.mulE (atO xs i) != 0 with
        | true => some (.ret, stOf 66 [(8, .bool false)] (tcM0 n xs es k ms))
        | false => match fits n with
          | true => some (.normal, tcB n xs (n + 1) (catR n (opRow xs) (chop 12 0 (f.mulF (atO xs i)).cells)) (mPut (key (f.mulF (atO xs i))) 0 es) k ms f p (W (i + 1)))
          | false => none
      | false => none
    | false => some (.exit 0, stOf 66 [] (tcM0 n xs es k ms))) := by kernel_rfl
theorem tcRB (n0 : Nat) (xs0 : List O3) (n : Nat) (xs : List O3) (es : List (List Int × Int)) (k : Nat) (ms : List O3) (f : O3) (p : Nat) (i : Int) : roundR ((Ck Try.prog).into 48 4) 40 (tcX Try.prog) [0, 9, 48, 49, 50] [8] [.fix 0, .fix 1, .fix 2, .fix 3, .slot 9, .cellN 0 0 4] [.fix 0, .fix 1, .fix 2, .fix 3, .cellN 0 0 4] (tcB n0 xs0 n (opRow xs) es k ms f p i) =
    (match decide (i < (p : Int)) with
    | true => match boundsI i p with
      | true => match f.mulE (atO xs0 i) != 0 with
        | true => some (.ret, stOf 66 [(8, .bool false)] (tcM1 n xs es k ms))
        | false => match fits n with
          | true => some (.normal, tcB n0 xs0 (n + 1) (catR n (opRow xs) (chop 12 0 (f.mulF (atO xs0 i)).cells)) (mPut (key (f.mulF (atO xs0 i))) 0 es) k ms f p (W (i + 1)))
          | false => none
      | false => none
    | false => some (.exit 0, stOf 66 [] (tcM1 n xs es k ms))) := by kernel_rfl
end Go.Proofs.Ytcefeamjnnkahaa


namespace Go.Proofs.Ytcefeamjnnkahaa
open Go Vx
abbrev ES := List (List Int × Int)
/-- Each map of a list, then f: appended to the maps, until one is too great. -/
def cosL (f : O3) : List O3 → List O3 → ES → Bool × List O3 × ES
  | [], xs, es => (true, xs, es)
  | a :: l, xs, es => match f.mulE a != 0 with
    | true => (false, xs, es)
    | false => cosL f l (xs ++ [f.mulF a]) (mPut (key (f.mulF a)) 0 es)
theorem cosL_len (f : O3) : ∀ (l xs : List O3) (es : ES), xs.length ≤ (cosL f l xs es).2.1.length
  | [], xs, es => Nat.le_refl _
  | a :: l, xs, es => by
    simp only [cosL]
    cases f.mulE a != 0 with
    | true => exact Nat.le_refl _
    | false => have := cosL_len f l (xs ++ [f.mulF a]) (mPut (key (f.mulF a)) 0 es); simp at this ⊢; omega
structure tcG where
  (b : Bool) (n0 : Nat) (xs0 : List O3) (n : Nat) (xs : List O3) (es : ES) (mm bb : O3) (k : Nat) (ms : List O3) (f : O3) (p : Nat) (i : Int)
def tcH (g : tcG) : St := match g.b with
  | false => tcE g.n g.xs g.es g.mm g.bb g.k g.ms g.f g.p g.i
  | true => tcB g.n0 g.xs0 g.n (opRow g.xs) g.es g.k g.ms g.f g.p g.i
def tcInv (g : tcG) : Prop := g.xs0.length = g.n0 ∧ g.xs.length = g.n ∧ 1 ≤ g.p ∧ g.p ≤ g.n0 ∧ 0 ≤ g.i ∧ g.i ≤ (g.p : Int) ∧ (g.n : Int) + (g.p - g.i) ≤ 192 ∧ (g.b = false → g.i = 0 ∧ g.n = g.n0 ∧ g.xs = g.xs0) ∧ (g.b = true → g.n0 < g.n) ∧ g.n0 ≤ g.n
def tcRes (g : tcG) : Bool × List O3 × ES := cosL g.f ((g.xs0.take g.p).drop g.i.toNat) g.xs g.es
def tcMem (n0 : Nat) (xs0 : List O3) (r : Bool × List O3 × ES) (k : Nat) (ms : List O3) : Mem := match Nat.blt n0 r.2.1.length with
  | true => tcM1 r.2.1.length r.2.1 r.2.2 k ms
  | false => tcM0 n0 xs0 r.2.2 k ms
def tcO (g : tcG) : Exit × St := match (tcRes g).1 with
  | true => (.exit 0, stOf 66 [] (tcMem g.n0 g.xs0 (tcRes g) g.k g.ms))
  | false => (.ret, stOf 66 [(8, .bool false)] (tcMem g.n0 g.xs0 (tcRes g) g.k g.ms))
theorem take_at {xs : List O3} {p : Nat} {i : Int} (h0 : 0 ≤ i) (h : i < (p : Int)) (hp : p ≤ xs.length) : (xs.take p).drop i.toNat = atO xs i :: (xs.take p).drop (i + 1).toNat := by
  have hl : (xs.take p).length = p := by simp; omega
  rw [drop_at h0 (by omega)]
  congr 1
  unfold atO
  rw [List.getElem?_take, if_pos (by omega)]
theorem fits_ok {n : Nat} (h : n ≤ 1000) : fits n = true := by
  unfold fits
  rw [Nat.beq_refl]
  simp; omega
theorem tcL (g : tcG) (hg : tcInv g) : LoopSem Try.prog 4 (tcX Try.prog) (tcH g) (tcO g).1 (tcO g).2 := by
  refine loop_rule2 (C := Ck Try.prog) okk (f := 48) (B := 4) (loopsOf_in (k := 10) tcX_eq) 40 [0, 9, 48, 49, 50] [8] [.fix 0, .fix 1, .fix 2, .fix 3, .slot 9, .cellN 0 0 4] [.fix 0, .fix 1, .fix 2, .fix 3, .cellN 0 0 4] tcH (fun g => (g.p - g.i).toNat) tcInv tcO ?_ g hg
  clear hg g
  rintro ⟨b, n0, xs0, n, xs, es, mm, bb, k, ms, f, p, i⟩ hg
  unfold tcInv at hg
  simp only at hg
  obtain ⟨h1, h2, h3, h4, h5, h6, h7, h8, h9, h10⟩ := hg
  by_cases hi : i < (p : Int)
  · have hd : decide (i < (p : Int)) = true := by simpa using hi
    have hb : boundsI i p = true := by simp [boundsI, h5, hi]
    have hw : W (i + 1) = i + 1 := W_in (by omega)
    have hf : fits n = true := fits_ok (by omega)
    have htk := take_at (xs := xs0) h5 hi (by omega)
    cases he : f.mulE (atO xs0 i) != 0 with
    | true =>
      right
      have hres : tcRes ⟨b, n0, xs0, n, xs, es, mm, bb, k, ms, f, p, i⟩ = (false, xs, es) := by unfold tcRes; simp only [htk, cosL, he]
      cases b with
      | false =>
        obtain ⟨rfl, rfl, rfl⟩ := h8 rfl
        refine ⟨stOf 66 [(8, .bool false)] (tcM0 n xs es k ms), ?_, ?_, ?_⟩
        · unfold tcH
          simp only [tcRE, hd, hb, he]
          unfold tcO
          simp only [hres]
        · unfold tcO tcMem
          simp only [hres, h2, blt_ff (Nat.lt_irrefl n)]
          exact StLike.refl _
        · unfold tcO; simp [hres]
      | true =>
        have hlt := h9 rfl
        refine ⟨stOf 66 [(8, .bool false)] (tcM1 n xs es k ms), ?_, ?_, ?_⟩
        · unfold tcH
          simp only [tcRB, hd, hb, he]
          unfold tcO
          simp only [hres]
        · unfold tcO tcMem
          simp only [hres, h2, show Nat.blt n0 n = true by simpa [Nat.blt_eq] using hlt]
          exact StLike.refl _
        · unfold tcO; simp [hres]
    | false =>
      left
      refine ⟨⟨true, n0, xs0, n + 1, xs ++ [f.mulF (atO xs0 i)], mPut (key (f.mulF (atO xs0 i))) 0 es, mm, bb, k, ms, f, p, i + 1⟩, tcB n0 xs0 (n + 1) (catR n (opRow xs) (chop 12 0 (f.mulF (atO xs0 i)).cells)) (mPut (key (f.mulF (atO xs0 i))) 0 es) k ms f p (i + 1), ?_, ?_, ?_, ?_, ?_⟩
      · cases b with
        | false =>
          obtain ⟨rfl, rfl, rfl⟩ := h8 rfl
          unfold tcH
          simp only [tcRE, hd, hb, he, hf, hw]
        | true =>
          unfold tcH
          simp only [tcRB, hd, hb, he, hf, hw]
      · exact ⟨rfl, .refl _, .refl _, .refl _, .refl _, .refl _, like_ng h2 _, trivial⟩
      · unfold tcInv
        simp only
        refine ⟨h1, by simp [h2], h3, h4, by omega, by omega, by omega, (fun h => by cases h), fun _ => ?_, by omega⟩
        cases b with
        | false => obtain ⟨_, e, _⟩ := h8 rfl; omega
        | true => have := h9 rfl; omega
      · simp only; omega
      · have hres : tcRes ⟨b, n0, xs0, n, xs, es, mm, bb, k, ms, f, p, i⟩ = tcRes ⟨true, n0, xs0, n + 1, xs ++ [f.mulF (atO xs0 i)], mPut (key (f.mulF (atO xs0 i))) 0 es, mm, bb, k, ms, f, p, i + 1⟩ := by unfold tcRes; simp only [htk, cosL, he]
        unfold tcO
        simp only [hres, tcMem]
  · have hd : decide (i < (p : Int)) = false := by simpa using hi
    have hip : i = (p : Int) := by omega
    right
    have hn : (xs0.take p).drop i.toNat = [] := List.drop_eq_nil_of_le (by simp; omega)
    have hres : tcRes ⟨b, n0, xs0, n, xs, es, mm, bb, k, ms, f, p, i⟩ = (true, xs, es) := by unfold tcRes; simp only [hn, cosL]
    cases b with
    | false =>
      obtain ⟨e, _, _⟩ := h8 rfl
      omega
    | true =>
      have hlt := h9 rfl
      refine ⟨stOf 66 [] (tcM1 n xs es k ms), ?_, ?_, ?_⟩
      · unfold tcH
        simp only [tcRB, hd]
        unfold tcO
        simp only [hres]
      · unfold tcO tcMem
        simp only [hres, h2, show Nat.blt n0 n = true by simpa [Nat.blt_eq] using hlt]
        exact StLike.refl _
      · unfold tcO; simp [hres]
end Go.Proofs.Ytcefeamjnnkahaa


namespace Go.Proofs.Ytcefeamjnnkahaa
open Go Vx
def tcTest (n n2 k k2 p : Nat) (row row2 : Nat → List Value) (lp i : Int) : Bool := Nat.beq n n2 && (okOps n row && (Nat.beq k k2 && (okOps k row2 && (decide ((p : Int) = lp) && (decide (i = 0) && (Nat.ble 1 p && (Nat.ble p n && decide (n + p ≤ 192))))))))
def tcS (st : St) : Option (Ans (Exit × St)) :=
  match sized st 66 8, tAt st 0, tAt st 9, tAt st 48, tAt st 49, tAt st 50, st.mem with
  | true, some (.pointer (some ⟨0, 0, none⟩)), some (.pointer (some ⟨6, 0, none⟩)), some (.slice (some ⟨1, 0, some 0⟩) p 12), some (.int .i64 lp), some (.int .i64 i), [.cells true 0 cs, .rows true true 12 n2 row, .mp true 12 es, .rows true true 12 k2 row2, .cells true 0 cm, .cells true 0 cb, .cells true 0 cf, .cells true 0 []] =>
    match cs, opCells cm, opCells cb, opCells cf with
    | [.slice (some ⟨1, 0, some 0⟩) n 12, .map (some 2), .slice (some ⟨3, 0, some 0⟩) k 12], some _, some _, some f => some (.br (tcTest n n2 k k2 p row row2 lp i) (.br (cosL f ((opsOf n row).take p) (opsOf n row) es).1 (.br (Nat.blt n (cosL f ((opsOf n row).take p) (opsOf n row) es).2.1.length) (.out (.exit 0, stOf 66 [] (tcM1 (cosL f ((opsOf n row).take p) (opsOf n row) es).2.1.length (cosL f ((opsOf n row).take p) (opsOf n row) es).2.1 (cosL f ((opsOf n row).take p) (opsOf n row) es).2.2 k (opsOf k row2)))) (.out (.exit 0, stOf 66 [] (tcM0 n (opsOf n row) (cosL f ((opsOf n row).take p) (opsOf n row) es).2.2 k (opsOf k row2))))) (.br (Nat.blt n (cosL f ((opsOf n row).take p) (opsOf n row) es).2.1.length) (.out (.ret, stOf 66 [(8, .bool false)] (tcM1 (cosL f ((opsOf n row).take p) (opsOf n row) es).2.1.length (cosL f ((opsOf n row).take p) (opsOf n row) es).2.1 (cosL f ((opsOf n row).take p) (opsOf n row) es).2.2 k (opsOf k row2)))) (.out (.ret, stOf 66 [(8, .bool false)] (tcM0 n (opsOf n row) (cosL f ((opsOf n row).take p) (opsOf n row) es).2.2 k (opsOf k row2)))))) .fail)
    | _, _, _, _ => none
  | _, _, _, _, _, _, _ => none
theorem tcK {st : St} {ans : Ans (Exit × St)} {e_ : Exit} {s_ : St} (h : tcS st = some ans) (hr : ans.res = some (e_, s_)) : LoopSem Try.prog 4 (tcX Try.prog) st e_ s_ := by
  unfold tcS at h
  split at h
  · rename_i p lp i cs n2 row es k2 row2 cm cb cf hb hs0 hs1 hs2 hs3 hs4 hm
    split at h
    rotate_left
    · cases h
    rename_i n k m b f hm0 hm1 hm2
    rw [opCells_spec hm0, opCells_spec hm1, opCells_spec hm2] at hm
    simp only [Option.some.injEq] at h
    subst h
    rcases Ans.br_some hr with ⟨hc, hr1⟩ | ⟨_, hr1⟩
    · clear hr
      unfold tcTest at hc
      simp only [Bool.and_eq_true, decide_eq_true_eq] at hc
      obtain ⟨c1, c2, c3, c4, c5, c6, c7, c8, c9⟩ := hc
      have c1 := beq_len c1
      subst c1
      have c3 := beq_len c3
      subst c3
      subst c5
      subst c6
      have c7 := Nat.le_of_ble_eq_true c7
      have c8 := Nat.le_of_ble_eq_true c8
      have hk := stOf_keep hb [(0, .pointer (some ⟨0, 0, none⟩)), (9, .pointer (some ⟨6, 0, none⟩)), (48, .slice (some ⟨1, 0, some 0⟩) p 12), (49, vI p), (50, vI 0)] (by
        intro x hx
        simp only [List.mem_cons, List.not_mem_nil, or_false] at hx
        rcases hx with rfl | rfl | rfl | rfl | rfl
        · exact hs0
        · exact hs1
        · exact hs2
        · exact hs3
        · exact hs4) hm
      have key := tcL ⟨false, n, opsOf n row, n, opsOf n row, es, m, b, k, opsOf k row2, f, p, 0⟩ (by
        unfold tcInv
        simp only
        exact ⟨opsOf_length n row, opsOf_length n row, c7, c8, by omega, by omega, by omega, fun _ => ⟨trivial, trivial, trivial⟩, (fun h => by cases h), Nat.le_refl _⟩)
      have key := LoopSem.like (tm := (tcE n (opsOf n row) es m b k (opsOf k row2) f p 0).tmps) (m := st.mem) (m2 := (tcE n (opsOf n row) es m b k (opsOf k row2) f p 0).mem) key (by
        rw [hm]
        exact ⟨.refl _, .rows (ops_like c2), .refl _, .rows (ops_like c4), .refl _, .refl _, .refl _, .refl _, trivial⟩)
      have e0 : (⟨(tcE n (opsOf n row) es m b k (opsOf k row2) f p 0).tmps, st.mem⟩ : St) = ⟨keepL [0, 9, 48, 49, 50] 0 st.tmps, st.mem⟩ := by
        have := congrArg St.tmps hk
        rw [show keepL [0, 9, 48, 49, 50] 0 st.tmps = (tcE n (opsOf n row) es m b k (opsOf k row2) f p 0).tmps from this]
      rw [e0] at key
      have key := LoopSem.clean key
      have hres : tcRes ⟨false, n, opsOf n row, n, opsOf n row, es, m, b, k, opsOf k row2, f, p, 0⟩ = (cosL f ((opsOf n row).take p) (opsOf n row) es) := rfl
      unfold tcO tcMem at key
      simp only [hres] at key
      rcases Ans.br_some hr1 with ⟨hq, hr2⟩ | ⟨hq, hr2⟩
      · simp only [hq] at key
        rcases Ans.br_some hr2 with ⟨hq2, hr3⟩ | ⟨hq2, hr3⟩
        · simp only [hq2] at key
          simp only [Ans.res, Option.some.injEq, Prod.mk.injEq] at hr3
          obtain ⟨rfl, rfl⟩ := hr3
          exact key
        · simp only [hq2] at key
          simp only [Ans.res, Option.some.injEq, Prod.mk.injEq] at hr3
          obtain ⟨rfl, rfl⟩ := hr3
          exact key
      · simp only [hq] at key
        rcases Ans.br_some hr2 with ⟨hq2, hr3⟩ | ⟨hq2, hr3⟩
        · simp only [hq2] at key
          simp only [Ans.res, Option.some.injEq, Prod.mk.injEq] at hr3
          obtain ⟨rfl, rfl⟩ := hr3
          exact key
        · simp only [hq2] at key
          simp only [Ans.res, Option.some.injEq, Prod.mk.injEq] at hr3
          obtain ⟨rfl, rfl⟩ := hr3
          exact key
    · simp [Ans.res] at hr1
  · cases h
def Ctc (P : Program) : Cx := (Ck P).addLB 48 10 4 tcS
theorem oktc : CxOk (Ctc Try.prog) := Cx.addLB_ok okk tcX_eq fun _ _ _ _ h hr => tcK h hr
def spanM (n : Nat) (xs : List O3) (es : ES) (k : Nat) (ms : List O3) : Mem := [strucB 1 n k, .rows true true 12 n (opRow xs), .mp true 12 es, .rows true true 12 k (opRow ms)]
def cosR (n k : Nat) (xs ms : List O3) (es : ES) (f : O3) (p : Nat) : Option (Value × Mem) := gd (tcTest n n k k p (opRow xs) (opRow ms) p 0)
  (match (cosL f ((opsOf n (opRow xs)).take p) (opsOf n (opRow xs)) es).1 with
  | true => match Nat.blt n (cosL f ((opsOf n (opRow xs)).take p) (opsOf n (opRow xs)) es).2.1.length with
    | true => some (.bool true, tcM1 (cosL f ((opsOf n (opRow xs)).take p) (opsOf n (opRow xs)) es).2.1.length (cosL f ((opsOf n (opRow xs)).take p) (opsOf n (opRow xs)) es).2.1 (cosL f ((opsOf n (opRow xs)).take p) (opsOf n (opRow xs)) es).2.2 k (opsOf k (opRow ms)))
    | false => some (.bool true, tcM0 n (opsOf n (opRow xs)) (cosL f ((opsOf n (opRow xs)).take p) (opsOf n (opRow xs)) es).2.2 k (opsOf k (opRow ms)))
  | false => match Nat.blt n (cosL f ((opsOf n (opRow xs)).take p) (opsOf n (opRow xs)) es).2.1.length with
    | true => some (.bool false, tcM1 (cosL f ((opsOf n (opRow xs)).take p) (opsOf n (opRow xs)) es).2.1.length (cosL f ((opsOf n (opRow xs)).take p) (opsOf n (opRow xs)) es).2.1 (cosL f ((opsOf n (opRow xs)).take p) (opsOf n (opRow xs)) es).2.2 k (opsOf k (opRow ms)))
    | false => some (.bool false, tcM0 n (opsOf n (opRow xs)) (cosL f ((opsOf n (opRow xs)).take p) (opsOf n (opRow xs)) es).2.2 k (opsOf k (opRow ms))))
theorem tcF1 (m b : O3) (q : Int) (n : Nat) (xs : List O3) (es : ES) (k : Nat) (ms : List O3) : exT ((Ctc Try.prog).at 48) 60 Try.f48 [.pointer (some ⟨0, 0, none⟩), m.v, b.v, vI q] (spanM n xs es k ms) [.fix 0, .fix 1, .fix 2, .fix 3, .cellN 0 0 4] =
    (match m.mulE b != 0 with
    | true => some (.bool false, tcM0 n xs es k ms)
    | false => match mHas (key (m.mulF b)) es with
      | true => some (.bool true, tcM0 n xs es k ms)
      | false => match decide (W ((n : Int) + q) > 192) with
        | true => some (.bool false, tcM0 n xs es k ms)
        | false => match leI q n with
          | true => cosR n k xs ms es (m.mulF b) q.toNat
          | false => none) := by kernel_rfl
end Go.Proofs.Ytcefeamjnnkahaa


namespace Go.Proofs.Ytcefeamjnnkahaa
open Go Vx
theorem cosL_true (f : O3) : ∀ (l xs : List O3) (es : ES), (cosL f l xs es).1 = true → (cosL f l xs es).2.1.length = xs.length + l.length
  | [], xs, es, _ => rfl
  | a :: l, xs, es, h => by
    simp only [cosL] at h ⊢
    cases he : f.mulE a != 0 with
    | true => rw [he] at h; cases h
    | false =>
      rw [he] at h
      rw [cosL_true f l _ _ h]
      simp; omega
/-- What is told of a call, put together. -/
theorem tcSem (m b : O3) (q : Int) (n : Nat) (xs : List O3) (es : ES) (k : Nat) (ms : List O3) (hx : xs.length = n) (hm : ms.length = k) (h0 : 0 < q) (h1 : q ≤ (n : Int)) (h2 : n ≤ 192) {v : Value} {m' : Mem}
    (h : Ans.res (.br (m.mulE b != 0) (.out (.bool false, goneAll 4)) (.br (mHas (key (m.mulF b)) es) (.out (.bool true, tcM0 n (xs) es k (ms))) (.br (decide ((n : Int) + q > 192)) (.out (.bool false, goneAll 4)) (.br (cosL (m.mulF b) ((xs).take q.toNat) (xs) es).1 (.out (.bool true, tcM1 (cosL (m.mulF b) ((xs).take q.toNat) (xs) es).2.1.length (cosL (m.mulF b) ((xs).take q.toNat) (xs) es).2.1 (cosL (m.mulF b) ((xs).take q.toNat) (xs) es).2.2 k (ms))) (.out (.bool false, goneAll 4)))))) = some (v, m')) : MemSem Try.prog 48 [.pointer (some ⟨0, 0, none⟩), m.v, b.v, vI q] (spanM n xs es k ms) v m' := by
  have hE := tcF1 m b q n xs es k ms
  have sem : ∀ {v : Value} {m' : Mem}, exT ((Ctc Try.prog).at 48) 60 Try.f48 [.pointer (some ⟨0, 0, none⟩), m.v, b.v, vI q] (spanM n xs es k ms) [.fix 0, .fix 1, .fix 2, .fix 3, .cellN 0 0 4] = some (v, m') → MemSem Try.prog 48 [.pointer (some ⟨0, 0, none⟩), m.v, b.v, vI q] (spanM n xs es k ms) v m' := fun hh => exT_ok oktc Try.func48 (by kernel_rfl) hh
  have hlen : (spanM n xs es k ms).length = 4 := rfl
  rcases Ans.br_some h with ⟨hq, h⟩ | ⟨hq, h⟩
  · rw [hq] at hE
    simp only [Ans.res, Option.some.injEq, Prod.mk.injEq] at h
    obtain ⟨rfl, rfl⟩ := h
    exact (sem hE).forget rfl
  · rw [hq] at hE
    rcases Ans.br_some h with ⟨hq, h⟩ | ⟨hq, h⟩
    · simp only [hq] at hE
      simp only [Ans.res, Option.some.injEq, Prod.mk.injEq] at h
      obtain ⟨rfl, rfl⟩ := h
      exact sem hE
    · simp only [hq] at hE
      have hw : W ((n : Int) + q) = (n : Int) + q := W_in (by omega)
      rw [hw] at hE
      rcases Ans.br_some h with ⟨hq, h⟩ | ⟨hq, h⟩
      · simp only [hq] at hE
        simp only [Ans.res, Option.some.injEq, Prod.mk.injEq] at h
        obtain ⟨rfl, rfl⟩ := h
        exact (sem hE).forget rfl
      · simp only [hq] at hE
        have hq' : ¬ ((n : Int) + q > 192) := by simpa using hq
        have hle : leI q n = true := by simp [leI]; omega
        rw [hle] at hE
        unfold cosR tcTest at hE
        rw [opsOf_row hx, opsOf_row hm, okOps_opRow, okOps_opRow, Nat.beq_refl, Nat.beq_refl, show Nat.ble 1 q.toNat = true by rw [Nat.ble_eq]; omega, show Nat.ble q.toNat n = true by rw [Nat.ble_eq]; omega, show decide (n + q.toNat ≤ 192) = true by simp; omega] at hE
        simp only [decide_true, Bool.and_self, gd] at hE
        rcases Ans.br_some h with ⟨hq2, h⟩ | ⟨hq2, h⟩
        · have hl := cosL_true _ _ _ _ hq2
          have hbl : Nat.blt n (cosL (m.mulF b) (xs.take q.toNat) xs es).2.1.length = true := by
            rw [hl, Nat.blt_eq]; simp; omega
          simp only [hq2, hbl] at hE
          simp only [Ans.res, Option.some.injEq, Prod.mk.injEq] at h
          obtain ⟨rfl, rfl⟩ := h
          exact sem hE
        · simp only [hq2] at hE
          simp only [Ans.res, Option.some.injEq, Prod.mk.injEq] at h
          obtain ⟨rfl, rfl⟩ := h
          split at hE
          · exact (sem hE).forget rfl
          · exact (sem hE).forget rfl
def tcT (n n2 k k2 : Nat) (row row2 : Nat → List Value) (q : Int) : Bool := Nat.beq n n2 && (okOps n row && (Nat.beq k k2 && (okOps k row2 && (decide (0 < q) && (decide (q ≤ (n : Int)) && decide (n ≤ 192))))))
def tcFn : List Value → Mem → Option (Ans (Value × Mem))
  | [.pointer (some ⟨0, 0, none⟩), .agg cm, .agg cb, .int .i64 q], [.cells true 0 cs, .rows true true 12 n2 row, .mp true 12 es, .rows true true 12 k2 row2] => match cs, opCells cm.toList, opCells cb.toList with
    | [.slice (some ⟨1, 0, some 0⟩) n 12, .map (some 2), .slice (some ⟨3, 0, some 0⟩) k 12], some m, some b => some (.br (tcT n n2 k k2 row row2 q) (.br (m.mulE b != 0) (.out (.bool false, goneAll 4)) (.br (mHas (key (m.mulF b)) es) (.out (.bool true, tcM0 n (opsOf n row) es k (opsOf k row2))) (.br (decide ((n : Int) + q > 192)) (.out (.bool false, goneAll 4)) (.br (cosL (m.mulF b) ((opsOf n row).take q.toNat) (opsOf n row) es).1 (.out (.bool true, tcM1 (cosL (m.mulF b) ((opsOf n row).take q.toNat) (opsOf n row) es).2.1.length (cosL (m.mulF b) ((opsOf n row).take q.toNat) (opsOf n row) es).2.1 (cosL (m.mulF b) ((opsOf n row).take q.toNat) (opsOf n row) es).2.2 k (opsOf k row2))) (.out (.bool false, goneAll 4)))))) .fail)
    | _, _, _ => none
  | _, _ => none
def Ctd (P : Program) : Cx := (Ctc P).addF 48 tcFn
theorem oktd : CxOk (Ctd Try.prog) := Cx.addF_ok oktc fun args mm ans v m' h hr => by
  unfold tcFn at h
  split at h
  · rename_i cm cb q cs n2 row es k2 row2
    split at h
    · rename_i n k m b hc1 hc2
      simp only [Option.some.injEq] at h
      subst h
      rcases Ans.br_some hr with ⟨hc, hr1⟩ | ⟨_, hr1⟩
      · clear hr
        unfold tcT at hc
        simp only [Bool.and_eq_true, decide_eq_true_eq] at hc
        obtain ⟨c1, c2, c3, c4, c5, c6, c7⟩ := hc
        have c1 := beq_len c1
        subst c1
        have c3 := beq_len c3
        subst c3
        have e1 : cm = m.cells.toArray := by rw [← opCells_spec hc1]
        have e2 : cb = b.cells.toArray := by rw [← opCells_spec hc2]
        subst e1
        subst e2
        exact (tcSem m b q n (opsOf n row) es k (opsOf k row2) (opsOf_length n row) (opsOf_length k row2) c5 c6 c7 hr1).like ⟨.refl _, .rows (ops_like c2), .refl _, .rows (ops_like c4), trivial⟩
      · simp [Ans.res] at hr1
    · cases h
  · cases h
end Go.Proofs.Ytcefeamjnnkahaa
