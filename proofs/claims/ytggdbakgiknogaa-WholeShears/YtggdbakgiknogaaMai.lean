/-
  The loop of group.Close. Nothing here is trusted.
-/
import Derived.Test.YtggdbakgiknogaaMah
import Derived.Shelf.SlSortCmp.WholeK
import Derived.Test.YtggdbakgiknogaaProg
import Derived.Test.YtggdbakgiknogaaMag
import Derived.Test.YtggdbakgiknogaaMaf

namespace Go.Proofs.Ytggdbakgiknogaa
open Go Vx
/-- newSpan: the identity alone. -/
theorem nsE : exT ((Cta Try.prog).at 37) 60 Try.f37 [] [] [.fix 1, .fix 4, .fix 0] = some (.pointer (some ⟨0, 0, none⟩), [.cells true 0 [.slice (some ⟨1, 0, some 0⟩) 1 12, .map (some 2), .slice none 0 0], .rows true true 12 1 (chop 12 0 O3.one.cells), .mp true 12 [(key O3.one, 0)]]) := by kernel_rfl
def nsF : List Value → Mem → Option (Ans (Value × Mem))
  | [], [] => some (.out (.pointer (some ⟨0, 0, none⟩), spanM0 1 [O3.one] [(key O3.one, 0)]))
  | _, _ => none
def Cns (P : Program) : Cx := (Cta P).addF 37 nsF
theorem okns : CxOk (Cns Try.prog) := Cx.addF_ok okta fun args mm ans v m' h hr => by
  unfold nsF at h
  split at h
  · simp only [Option.some.injEq] at h
    subst h
    simp only [Ans.res, Option.some.injEq, Prod.mk.injEq] at hr
    obtain ⟨rfl, rfl⟩ := hr
    exact (exT_ok okta Try.func37 (by kernel_rfl) nsE).likes ⟨.refl _, like_chop _, .refl _, trivial⟩
  · cases h
def clX' (P : Program) : Code := (loopsOf P 12 6).headD .skip
theorem clX_eq : loopsOf Try.prog 12 6 = [clX' Try.prog] := by kernel_rfl
def clE (own : Bool) (N : Nat) (ls : List O3) (n : Nat) (xs : List O3) (es : ES) : Mem := [.rows own true 12 N (opRow ls), .cells true 0 [.slice (some ⟨2, 0, some 0⟩) n 12, .map (some 3), .slice none 0 0], .rows true true 12 n (opRow xs), .mp true 12 es]
def clN (own : Bool) (N : Nat) (ls : List O3) (n : Nat) (xs : List O3) (es : ES) : Mem := [.rows own true 12 N (opRow ls), .cells true 0 [.slice (some ⟨2, 0, some 0⟩) n 12, .map (some 3), .slice none 0 0], .rows true true 12 n (opRow xs), .mp true 12 es, .no]
def clM (own : Bool) (N : Nat) (ls : List O3) (n : Nat) (xs : List O3) (es : ES) (k : Nat) (ms : List O3) : Mem := [.rows own true 12 N (opRow ls), .cells true 0 [.slice (some ⟨2, 0, some 0⟩) n 12, .map (some 3), .slice (some ⟨4, 0, some 0⟩) k 12], .rows true true 12 n (opRow xs), .mp true 12 es, .rows true true 12 k (opRow ms)]
def clX (own : Bool) (N : Nat) (ls : List O3) : Mem := [.rows own true 12 N (opRow ls), .gone, .no, .no, .no]
def clH (m : Mem) (N : Nat) (i : Int) : St := stOf 34 [(2, .slice none 0 0), (3, vI 0), (5, .pointer (some ⟨1, 0, none⟩)), (14, .slice (some ⟨0, 0, some 0⟩) N 12), (15, vI N), (16, vI i)] m
theorem clRE (own : Bool) (N : Nat) (ls : List O3) (n : Nat) (xs : List O3) (es : ES) (i : Int) : roundR ((Cns Try.prog).into 12 1) 40 (clX' Try.prog) [2, 3, 5, 14, 15, 16] [2, 3, 5] [.fix 0, .fix 1, .cell 1 0, .cell 1 1, .cell 1 2] [.fix 0, .fix 1, .cell 1 0, .cell 1 1, .cell 1 2] (clH (clE own N ls n xs es) N i) =
    (match decide (i < (N : Int)) with
    | true => match boundsI i N with
      | true => match (Nat.beq n n && (okOps n (opRow xs) && (decide (1 ≤ n) && decide (n ≤ 192)))) with
        | true => match mHas (key (atO ls i)) es with
          | true => some (.normal, clH (clN own N ls n (opsOf n (opRow xs)) es) N (W (i + 1)))
          | false => match (outL (n : Int) [(atO ls i)] 193 0 (opsOf n (opRow xs)) es).isSome with
            | true => match Nat.blt n (otR (n : Int) [(atO ls i)] (opsOf n (opRow xs)) es).1.length with
              | true => some (.normal, clH (clM own N ls (otR (n : Int) [(atO ls i)] (opsOf n (opRow xs)) es).1.length (otR (n : Int) [(atO ls i)] (opsOf n (opRow xs)) es).1 (otR (n : Int) [(atO ls i)] (opsOf n (opRow xs)) es).2 1 [(atO ls i)]) N (W (i + 1)))
              | false => some (.normal, clH (clM own N ls (otR (n : Int) [(atO ls i)] (opsOf n (opRow xs)) es).1.length (otR (n : Int) [(atO ls i)] (opsOf n (opRow xs)) es).1 (otR (n : Int) [(atO ls i)] (opsOf n (opRow xs)) es).2 1 [(atO ls i)]) N (W (i + 1)))
            | false => some (.ret, stOf 34 [(2, .slice none 0 0), (3, vI 5), (5, .pointer (some ⟨1, 0, none⟩))] (clX own N ls))
        | false => none
      | false => none
    | false => some (.exit 0, stOf 34 [(2, .slice none 0 0), (3, vI 0), (5, .pointer (some ⟨1, 0, none⟩))] (clN own N ls n xs es))) := by kernel_rfl
theorem clRN (own : Bool) (N : Nat) (ls : List O3) (n : Nat) (xs : List O3) (es : ES) (i : Int) : roundR ((Cns Try.prog).into 12 1) 40 (clX' Try.prog) [2, 3, 5, 14, 15, 16] [2, 3, 5] [.fix 0, .fix 1, .cell 1 0, .cell 1 1, .cell 1 2] [.fix 0, .fix 1, .cell 1 0, .cell 1 1, .cell 1 2] (clH (clN own N ls n xs es) N i) =
    (match decide (i < (N : Int)) with
    | true => match boundsI i N with
      | true => match (Nat.beq n n && (okOps n (opRow xs) && (decide (1 ≤ n) && decide (n ≤ 192)))) with
        | true => match mHas (key (atO ls i)) es with
          | true => some (.normal, clH (clN own N ls n (opsOf n (opRow xs)) es) N (W (i + 1)))
          | false => match (outL (n : Int) [(atO ls i)] 193 0 (opsOf n (opRow xs)) es).isSome with
            | true => match Nat.blt n (otR (n : Int) [(atO ls i)] (opsOf n (opRow xs)) es).1.length with
              | true => some (.normal, clH (clM own N ls (otR (n : Int) [(atO ls i)] (opsOf n (opRow xs)) es).1.length (otR (n : Int) [(atO ls i)] (opsOf n (opRow xs)) es).1 (otR (n : Int) [(atO ls i)] (opsOf n (opRow xs)) es).2 1 [(atO ls i)]) N (W (i + 1)))
              | false => some (.normal, clH (clM own N ls (otR (n : Int) [(atO ls i)] (opsOf n (opRow xs)) es).1.length (otR (n : Int) [(atO ls i)] (opsOf n (opRow xs)) es).1 (otR (n : Int) [(atO ls i)] (opsOf n (opRow xs)) es).2 1 [(atO ls i)]) N (W (i + 1)))
            | false => some (.ret, stOf 34 [(2, .slice none 0 0), (3, vI 5), (5, .pointer (some ⟨1, 0, none⟩))] (clX own N ls))
        | false => none
      | false => none
    | false => some (.exit 0, stOf 34 [(2, .slice none 0 0), (3, vI 0), (5, .pointer (some ⟨1, 0, none⟩))] (clN own N ls n xs es))) := by kernel_rfl
theorem clRM (own : Bool) (N : Nat) (ls : List O3) (n : Nat) (xs : List O3) (es : ES) (k : Nat) (ms : List O3) (i : Int) : roundR ((Cns Try.prog).into 12 1) 40 (clX' Try.prog) [2, 3, 5, 14, 15, 16] [2, 3, 5] [.fix 0, .fix 1, .cell 1 0, .cell 1 1, .cell 1 2] [.fix 0, .fix 1, .cell 1 0, .cell 1 1, .cell 1 2] (clH (clM own N ls n xs es k ms) N i) =
    (match decide (i < (N : Int)) with
    | true => match boundsI i N with
      | true => match (Nat.beq n n && (okOps n (opRow xs) && (Nat.beq k k && (okOps k (opRow ms) && (decide (1 ≤ n) && (decide (n ≤ 192) && decide (k ≤ 900))))))) with
        | true => match mHas (key (atO ls i)) es with
          | true => some (.normal, clH (clM own N ls n (opsOf n (opRow xs)) es k (opsOf k (opRow ms))) N (W (i + 1)))
          | false => match (outL (n : Int) ((opsOf k (opRow ms)) ++ [(atO ls i)]) 193 0 (opsOf n (opRow xs)) es).isSome with
            | true => match Nat.blt n (otR (n : Int) ((opsOf k (opRow ms)) ++ [(atO ls i)]) (opsOf n (opRow xs)) es).1.length with
              | true => some (.normal, clH (clM own N ls (otR (n : Int) ((opsOf k (opRow ms)) ++ [(atO ls i)]) (opsOf n (opRow xs)) es).1.length (otR (n : Int) ((opsOf k (opRow ms)) ++ [(atO ls i)]) (opsOf n (opRow xs)) es).1 (otR (n : Int) ((opsOf k (opRow ms)) ++ [(atO ls i)]) (opsOf n (opRow xs)) es).2 (k + 1) ((opsOf k (opRow ms)) ++ [(atO ls i)])) N (W (i + 1)))
              | false => some (.normal, clH (clM own N ls (otR (n : Int) ((opsOf k (opRow ms)) ++ [(atO ls i)]) (opsOf n (opRow xs)) es).1.length (otR (n : Int) ((opsOf k (opRow ms)) ++ [(atO ls i)]) (opsOf n (opRow xs)) es).1 (otR (n : Int) ((opsOf k (opRow ms)) ++ [(atO ls i)]) (opsOf n (opRow xs)) es).2 (k + 1) ((opsOf k (opRow ms)) ++ [(atO ls i)])) N (W (i + 1)))
            | false => some (.ret, stOf 34 [(2, .slice none 0 0), (3, vI 5), (5, .pointer (some ⟨1, 0, none⟩))] (clX own N ls))
        | false => none
      | false => none
    | false => some (.exit 0, stOf 34 [(2, .slice none 0 0), (3, vI 0), (5, .pointer (some ⟨1, 0, none⟩))] (clM own N ls n xs es k ms))) := by kernel_rfl
end Go.Proofs.Ytggdbakgiknogaa


namespace Go.Proofs.Ytggdbakgiknogaa
open Go Vx
theorem outL_len {q : Int} (hq : 0 < q) {ms : List O3} : ∀ (N : Nat) {f : Int} {xs : List O3} {es : ES}, xs.length ≤ 192 → ∀ {r : List O3 × ES}, outL q ms N f xs es = some r → xs.length ≤ r.1.length ∧ r.1.length ≤ 192
  | 0, f, xs, es, h, r, hr => by simp only [outL, Option.some.injEq] at hr; subst hr; exact ⟨Nat.le_refl _, h⟩
  | N + 1, f, xs, es, h, r, hr => by
    simp only [outL] at hr
    split at hr
    · split at hr
      · rename_i s hs
        obtain ⟨h1, h2⟩ := mkL_len hq ms h hs
        obtain ⟨h3, h4⟩ := outL_len hq N h2 hr
        exact ⟨by omega, h4⟩
      · cases hr
    · simp only [Option.some.injEq] at hr; subst hr; exact ⟨Nat.le_refl _, h⟩
/-- What a span has taken: its maps, its makers, what it has. -/
def clL : List O3 → List O3 → List O3 → ES → Option (List O3 × List O3 × ES)
  | [], xs, ms, es => some (xs, ms, es)
  | o :: l, xs, ms, es => match mHas (key o) es with
    | true => clL l xs ms es
    | false => match outL (xs.length : Int) (ms ++ [o]) 193 0 xs es with
      | some r => clL l r.1 (ms ++ [o]) r.2
      | none => none
structure clG where
  (sh : Sh) (own : Bool) (N : Nat) (ls : List O3) (n : Nat) (xs : List O3) (es : ES) (k : Nat) (ms : List O3) (i : Int)
def clMm (sh : Sh) (own : Bool) (N : Nat) (ls : List O3) (n : Nat) (xs : List O3) (es : ES) (k : Nat) (ms : List O3) : Mem := match sh with
  | .e => clE own N ls n xs es
  | .a => clN own N ls n xs es
  | .b => clM own N ls n xs es k ms
def clHg (g : clG) : St := clH (clMm g.sh g.own g.N g.ls g.n g.xs g.es g.k g.ms) g.N g.i
def Sh.no (sh : Sh) (ms : List O3) : Prop := match sh with
  | .b => ms ≠ []
  | _ => ms = []
def clInv (g : clG) : Prop := g.ls.length = g.N ∧ g.N ≤ 192 ∧ g.xs.length = g.n ∧ 1 ≤ g.n ∧ g.n ≤ 192 ∧ g.ms.length = g.k ∧ (g.k : Int) ≤ g.i ∧ 0 ≤ g.i ∧ g.i ≤ (g.N : Int) ∧ g.sh.no g.ms
def shMs (ms : List O3) : Sh := match ms with
  | [] => .a
  | _ :: _ => .b
theorem shMs_ok {sh : Sh} {ms : List O3} (h : sh.no ms) : shMs ms = sh.next := by
  cases sh with
  | b => cases ms with
    | nil => exact absurd rfl h
    | cons m ms => rfl
  | e => have : ms = [] := h; subst this; rfl
  | a => have : ms = [] := h; subst this; rfl
def clO (g : clG) : Exit × St := match clL (g.ls.drop g.i.toNat) g.xs g.ms g.es with
  | some r => (.exit 0, stOf 34 [(2, .slice none 0 0), (3, vI 0), (5, .pointer (some ⟨1, 0, none⟩))] (clMm (shMs r.2.1) g.own g.N g.ls r.1.length r.1 r.2.2 r.2.1.length r.2.1))
  | none => (.ret, stOf 34 [(2, .slice none 0 0), (3, vI 5), (5, .pointer (some ⟨1, 0, none⟩))] (clX g.own g.N g.ls))
theorem clRd (sh : Sh) (own : Bool) (N : Nat) (ls : List O3) (n : Nat) (xs : List O3) (es : ES) (k : Nat) (ms : List O3) (i : Int) (hx : xs.length = n) (hm : ms.length = k) (h1 : 1 ≤ n) (h2 : n ≤ 192) (h3 : k ≤ 900) (hs : sh.no ms) :
    roundR ((Cns Try.prog).into 12 1) 40 (clX' Try.prog) [2, 3, 5, 14, 15, 16] [2, 3, 5] [.fix 0, .fix 1, .cell 1 0, .cell 1 1, .cell 1 2] [.fix 0, .fix 1, .cell 1 0, .cell 1 1, .cell 1 2] (clH (clMm sh own N ls n xs es k ms) N i) =
    (match decide (i < (N : Int)) with
    | true => match boundsI i N with
      | true => match mHas (key (atO ls i)) es with
        | true => some (.normal, clH (clMm sh.next own N ls n xs es k ms) N (W (i + 1)))
        | false => match outL (n : Int) (ms ++ [atO ls i]) 193 0 xs es with
          | some r => some (.normal, clH (clMm .b own N ls r.1.length r.1 r.2 (k + 1) (ms ++ [atO ls i])) N (W (i + 1)))
          | none => some (.ret, stOf 34 [(2, .slice none 0 0), (3, vI 5), (5, .pointer (some ⟨1, 0, none⟩))] (clX own N ls))
      | false => none
    | false => some (.exit 0, stOf 34 [(2, .slice none 0 0), (3, vI 0), (5, .pointer (some ⟨1, 0, none⟩))] (clMm sh.next own N ls n xs es k ms))) := by
  have tN : (Nat.beq n n && (okOps n (opRow xs) && (decide (1 ≤ n) && decide (n ≤ 192)))) = true := by
    rw [Nat.beq_refl, okOps_opRow]; simp [h1, h2]
  have tM : (Nat.beq n n && (okOps n (opRow xs) && (Nat.beq k k && (okOps k (opRow ms) && (decide (1 ≤ n) && (decide (n ≤ 192) && decide (k ≤ 900))))))) = true := by
    rw [Nat.beq_refl, Nat.beq_refl, okOps_opRow, okOps_opRow]; simp [h1, h2, h3]
  cases sh with
  | e =>
    have hms : ms = [] := hs
    subst hms
    have hk : k = 0 := hm.symm
    subst hk
    have hE := clRE own N ls n xs es i
    rw [opsOf_row hx, tN] at hE
    refine hE.trans ?_
    unfold otR
    cases decide (i < (N : Int)) with
    | false => rfl
    | true =>
      cases boundsI i N with
      | false => rfl
      | true =>
        cases mHas (key (atO ls i)) es with
        | true => rfl
        | false =>
          simp only [List.nil_append]
          cases outL (n : Int) [atO ls i] 193 0 xs es with
          | none => rfl
          | some r =>
            simp only [Option.isSome_some, Option.getD_some]
            cases Nat.blt n r.1.length <;> rfl
  | a =>
    have hms : ms = [] := hs
    subst hms
    have hk : k = 0 := hm.symm
    subst hk
    have hE := clRN own N ls n xs es i
    rw [opsOf_row hx, tN] at hE
    refine hE.trans ?_
    unfold otR
    cases decide (i < (N : Int)) with
    | false => rfl
    | true =>
      cases boundsI i N with
      | false => rfl
      | true =>
        cases mHas (key (atO ls i)) es with
        | true => rfl
        | false =>
          simp only [List.nil_append]
          cases outL (n : Int) [atO ls i] 193 0 xs es with
          | none => rfl
          | some r =>
            simp only [Option.isSome_some, Option.getD_some]
            cases Nat.blt n r.1.length <;> rfl
  | b =>
    have hE := clRM own N ls n xs es k ms i
    rw [opsOf_row hx, opsOf_row hm, tM] at hE
    refine hE.trans ?_
    unfold otR
    cases decide (i < (N : Int)) with
    | false => rfl
    | true =>
      cases boundsI i N with
      | false => rfl
      | true =>
        cases mHas (key (atO ls i)) es with
        | true => rfl
        | false =>
          cases outL (n : Int) (ms ++ [atO ls i]) 193 0 xs es with
          | none => rfl
          | some r =>
            simp only [Option.isSome_some, Option.getD_some]
            cases Nat.blt n r.1.length <;> rfl
theorem clLp (g : clG) (hg : clInv g) : LoopSem Try.prog 1 (clX' Try.prog) (clHg g) (clO g).1 (clO g).2 := by
  refine loop_rule2 (C := Cns Try.prog) okns (f := 12) (B := 1) (loopsOf_in (k := 6) clX_eq) 40 [2, 3, 5, 14, 15, 16] [2, 3, 5] [.fix 0, .fix 1, .cell 1 0, .cell 1 1, .cell 1 2] [.fix 0, .fix 1, .cell 1 0, .cell 1 1, .cell 1 2] clHg (fun g => (g.N - g.i).toNat) clInv clO ?_ g hg
  clear hg g
  rintro ⟨sh, own, N, ls, n, xs, es, k, ms, i⟩ hg
  unfold clInv at hg
  simp only at hg
  obtain ⟨h1, h2, h3, h4, h5, h6, h7, h8, h9, h10⟩ := hg
  have hR := clRd sh own N ls n xs es k ms i h3 h6 h4 h5 (by omega) h10
  by_cases hi : i < (N : Int)
  · have hd : decide (i < (N : Int)) = true := by simpa using hi
    have hb : boundsI i N = true := by simp [boundsI, h8, hi]
    have hw : W (i + 1) = i + 1 := W_in (by omega)
    have hdr := drop_at (xs := ls) h8 (by omega)
    rw [hd, hb, hw] at hR
    cases hh : mHas (key (atO ls i)) es with
    | true =>
      left
      rw [hh] at hR
      refine ⟨⟨sh.next, own, N, ls, n, xs, es, k, ms, i + 1⟩, _, hR, StLike.refl _, ?_, by simp only; omega, ?_⟩
      · unfold clInv
        simp only
        exact ⟨h1, h2, h3, h4, h5, h6, by omega, by omega, by omega, by cases sh <;> exact h10⟩
      · unfold clO
        simp only [hdr, clL, hh]
    | false =>
      rw [hh] at hR
      cases ho : outL (n : Int) (ms ++ [atO ls i]) 193 0 xs es with
      | none =>
        right
        simp only [ho] at hR
        have hres : clL (ls.drop i.toNat) xs ms es = none := by simp only [hdr, clL, hh, h3, ho]
        exact ⟨stOf 34 [(2, .slice none 0 0), (3, vI 5), (5, .pointer (some ⟨1, 0, none⟩))] (clX own N ls), by unfold clHg clO; simp only [hres]; exact hR, by unfold clO; simp only [hres]; exact StLike.refl _, by unfold clO; simp [hres]⟩
      | some r =>
        left
        simp only [ho] at hR
        obtain ⟨l1, l2⟩ := outL_len (by omega) _ (by omega) ho
        refine ⟨⟨.b, own, N, ls, r.1.length, r.1, r.2, k + 1, ms ++ [atO ls i], i + 1⟩, _, hR, StLike.refl _, ?_, by simp only; omega, ?_⟩
        · unfold clInv
          simp only
          exact ⟨h1, h2, trivial, by omega, l2, by simp [h6], by omega, by omega, by omega, by simp [Sh.no]⟩
        · unfold clO
          simp only [hdr, clL, hh, h3, ho]
  · have hd : decide (i < (N : Int)) = false := by simpa using hi
    rw [hd] at hR
    right
    have hn : ls.drop i.toNat = [] := List.drop_eq_nil_of_le (by omega)
    have hres : clL (ls.drop i.toNat) xs ms es = some (xs, ms, es) := by simp only [hn, clL]
    have hsh := shMs_ok h10
    exact ⟨stOf 34 [(2, .slice none 0 0), (3, vI 0), (5, .pointer (some ⟨1, 0, none⟩))] (clMm sh.next own N ls n xs es k ms), by unfold clHg clO; simp only [hres]; exact hR, by unfold clO; simp only [hres, hsh, h3, h6]; exact StLike.refl _, by unfold clO; simp [hres]⟩
end Go.Proofs.Ytggdbakgiknogaa


namespace Go.Proofs.Ytggdbakgiknogaa
open Go Go.Proofs Go.Shelf
def sortOp_ren : Go.Shelf.Ren := ⟨fun | 6 => 39 | 15 => 76 | 14 => 75 | 28 => 106 | 29 => 107 | 20 => 98 | 21 => 99 | 22 => 100 | 23 => 101 | 24 => 102 | 25 => 103 | 26 => 104 | 27 => 105 | 46 => 124 | 47 => 125 | 48 => 126 | 49 => 127 | 50 => 128 | 57 => 135 | n => n, fun | 22 => 22 | 24 => 34 | 25 => 37 | 3 => 3 | 39 => 128 | 0 => 0 | 53 => 154 | 55 => 156 | 4 => 4 | 46 => 148 | 45 => 147 | 50 => 91 | 5 => 5 | 9 => 9 | 66 => 169 | 70 => 173 | 76 => 179 | 77 => 49 | n => n, fun | n => n⟩
theorem sortOp : Go.Proofs.SlLaysF0.n6 Try.prog sortOp_ren := {
  mixed := by kernel_rfl
  f6 := ⟨Try.f39.name, by decide, Try.func39.trans (congrArg some (by kernel_rfl))⟩
  f14 := ⟨Try.f75.name, by decide, Try.func75.trans (congrArg some (by kernel_rfl))⟩
  f15 := Try.func76.trans (congrArg some (by kernel_rfl))
  f20 := ⟨Try.f98.name, by decide, Try.func98.trans (congrArg some (by kernel_rfl))⟩
  f21 := ⟨Try.f99.name, by decide, Try.func99.trans (congrArg some (by kernel_rfl))⟩
  f22 := ⟨Try.f100.name, by decide, Try.func100.trans (congrArg some (by kernel_rfl))⟩
  f23 := ⟨Try.f101.name, by decide, Try.func101.trans (congrArg some (by kernel_rfl))⟩
  f24 := ⟨Try.f102.name, by decide, Try.func102.trans (congrArg some (by kernel_rfl))⟩
  f25 := ⟨Try.f103.name, by decide, Try.func103.trans (congrArg some (by kernel_rfl))⟩
  f26 := ⟨Try.f104.name, by decide, Try.func104.trans (congrArg some (by kernel_rfl))⟩
  f27 := ⟨Try.f105.name, by decide, Try.func105.trans (congrArg some (by kernel_rfl))⟩
  f28 := Try.func106.trans (congrArg some (by kernel_rfl))
  f29 := Try.func107.trans (congrArg some (by kernel_rfl))
  f46 := ⟨Try.f124.name, by decide, Try.func124.trans (congrArg some (by kernel_rfl))⟩
  f47 := Try.func125.trans (congrArg some (by kernel_rfl))
  f48 := Try.func126.trans (congrArg some (by kernel_rfl))
  f49 := ⟨Try.f127.name, by decide, Try.func127.trans (congrArg some (by kernel_rfl))⟩
  f50 := ⟨Try.f128.name, by decide, Try.func128.trans (congrArg some (by kernel_rfl))⟩
  f57 := ⟨Try.f135.name, by decide, Try.func135.trans (congrArg some (by kernel_rfl))⟩
  t0 := Try.underlying0
  a0 := Try.isAgg0
  z0 := Try.sizeOf0
  v0 := Try.zeroValue0
  t3 := Try.underlying3
  a3 := Try.isAgg3
  z3 := Try.sizeOf3
  v3 := Try.zeroValue3
  t4 := Try.underlying4
  a4 := Try.isAgg4
  z4 := Try.sizeOf4
  v4 := Try.zeroValue4
  t5 := Try.underlying5
  a5 := Try.isAgg5
  z5 := Try.sizeOf5
  v5 := Try.zeroValue5
  t9 := Try.underlying9
  a9 := Try.isAgg9
  z9 := Try.sizeOf9
  v9 := Try.zeroValue9
  t22 := Try.underlying22
  a22 := Try.isAgg22
  z22 := Try.sizeOf22
  v22 := Try.zeroValue22
  t25 := Try.underlying37
  a25 := Try.isAgg37
  z25 := Try.sizeOf37
  v25 := Try.zeroValue37
  t39 := Try.underlying128
  a39 := Try.isAgg128
  z39 := Try.sizeOf128
  v39 := Try.zeroValue128
  t45 := Try.underlying147
  a45 := Try.isAgg147
  z45 := Try.sizeOf147
  v45 := Try.zeroValue147
  t46 := Try.underlying148
  a46 := Try.isAgg148
  z46 := Try.sizeOf148
  v46 := Try.zeroValue148
  t50 := Try.underlying91
  a50 := Try.isAgg91
  z50 := Try.sizeOf91
  v50 := Try.zeroValue91
  t53 := Try.underlying154
  a53 := Try.isAgg154
  z53 := Try.sizeOf154
  v53 := Try.zeroValue154
  t55 := Try.underlying156
  a55 := Try.isAgg156
  z55 := Try.sizeOf156
  v55 := Try.zeroValue156
  t66 := Try.underlying169
  a66 := Try.isAgg169
  z66 := Try.sizeOf169
  v66 := Try.zeroValue169
  t70 := Try.underlying173
  a70 := Try.isAgg173
  z70 := Try.sizeOf173
  v70 := Try.zeroValue173
  t76 := Try.underlying179
  a76 := Try.isAgg179
  z76 := Try.sizeOf179
  v76 := Try.zeroValue179
  t77 := Try.underlying49
  a77 := Try.isAgg49
  z77 := Try.sizeOf49
  v77 := Try.zeroValue49 }
end Go.Proofs.Ytggdbakgiknogaa


namespace Go.Proofs.Ytggdbakgiknogaa
open Go Vx Go.Shelf Go.RowKit
instance : Inhabited O3 := ⟨O3.zero⟩
def cmpO (a b : O3) : Int := lexI a.l b.l
theorem below_grow {W w' : World} (hb : Below W.heap.size W w') (hd : W.drawn ≤ w'.drawn) : ∃ q os', w' = Go.Sort.grow (W.drewN q) os' := by
  refine ⟨w'.drawn - W.drawn, w'.heap.extract W.heap.size w'.heap.size, ?_⟩
  obtain ⟨h1, h2, h3, h4, h5⟩ := hb
  cases w' with | mk heap tape drawn os output =>
  cases W with | mk heap0 tape0 drawn0 os0 output0 =>
  simp only at h1 h2 h3 h4 h5 hd
  subst h1 h2 h3
  simp only [Go.Sort.grow, World.drewN, World.mk.injEq, true_and, and_true]
  refine ⟨?_, by omega⟩
  apply Array.ext_getElem?
  intro i
  by_cases hi : i < heap0.size
  · rw [Array.getElem?_append_left hi, h5 i hi]
  · rw [Array.getElem?_append_right (by omega), Array.getElem?_extract]
    by_cases hj : i < heap.size
    · rw [if_pos (by omega), show heap0.size + (i - heap0.size) = i by omega]
    · rw [if_neg (by omega), Array.getElem?_eq_none (by omega)]
theorem cmpSem (a b : O3) : PlainSem Try.prog 16 [a.v, b.v] (vI (cmpO a b)) := okCg.tbl 16 [a.v, b.v] (vI (cmpO a b)) (by intro x hx; simp only [List.mem_cons, List.not_mem_nil, or_false] at hx; rcases hx with rfl | rfl <;> rfl) rfl rfl
theorem lt_t {x y : O3} : Go.Proofs.ltOf cmpO x y = true ↔ lexI x.l y.l < 0 := decide_eq_true_iff
theorem lt_f {x y : O3} : Go.Proofs.ltOf cmpO x y = false ↔ ¬ lexI x.l y.l < 0 := decide_eq_false_iff_not
theorem cmp_swo : Go.Sort.SWO (Go.Proofs.ltOf cmpO) where
  irrefl x := by
    have := (lexI_zero (l := x.l) (m := x.l) rfl).2 rfl
    rw [lt_f, this]
    omega
  trans x y z h1 h2 := by
    rw [lt_t] at *
    have h3 := lexI_trans (l := x.l) (m := y.l) (n := z.l) rfl rfl (by omega) (by omega)
    by_cases h0 : lexI x.l z.l = 0
    · have e := (lexI_zero (l := x.l) (m := z.l) rfl).1 h0
      rw [e, lexI_neg y.l z.l] at h1
      omega
    · omega
  ntrans x y z h1 h2 := by
    rw [lt_f] at *
    have e1 := lexI_neg x.l y.l
    have e2 := lexI_neg y.l z.l
    have e3 := lexI_neg x.l z.l
    have h3 := lexI_trans (l := z.l) (m := y.l) (n := x.l) rfl rfl (by omega) (by omega)
    omega
/-- A list in order. -/
def insO (o : O3) : List O3 → List O3
  | [] => [o]
  | x :: l => match decide (lexI x.l o.l < 0) with
    | true => x :: insO o l
    | false => o :: x :: l
def sortO : List O3 → List O3
  | [] => []
  | o :: l => insO o (sortO l)
def SortedO (l : List O3) : Prop := l.Pairwise fun a b => lexI a.l b.l ≤ 0
theorem insO_perm (o : O3) : ∀ (l : List O3), (insO o l).Perm (o :: l)
  | [] => List.Perm.refl _
  | x :: l => by
    simp only [insO]
    split
    · exact ((insO_perm o l).cons x).trans (List.Perm.swap o x l)
    · exact List.Perm.refl _
theorem sortO_perm : ∀ (l : List O3), (sortO l).Perm l
  | [] => List.Perm.refl _
  | o :: l => (insO_perm o (sortO l)).trans ((sortO_perm l).cons o)
theorem insO_sorted (o : O3) : ∀ (l : List O3), SortedO l → SortedO (insO o l)
  | [], _ => by simp [insO, SortedO]
  | x :: l, h => by
    unfold SortedO at h
    rw [List.pairwise_cons] at h
    simp only [insO]
    split
    · rename_i hd
      have hd' : lexI x.l o.l < 0 := by simpa using hd
      unfold SortedO
      rw [List.pairwise_cons]
      refine ⟨fun y hy => ?_, insO_sorted o l h.2⟩
      rcases List.mem_cons.1 ((insO_perm o l).mem_iff.1 hy) with rfl | hy
      · omega
      · exact h.1 y hy
    · rename_i hd
      have hd' : ¬ lexI x.l o.l < 0 := by simpa using hd
      have ho : lexI o.l x.l ≤ 0 := by rw [lexI_neg x.l o.l]; omega
      unfold SortedO
      rw [List.pairwise_cons]
      refine ⟨fun y hy => ?_, List.pairwise_cons.2 h⟩
      rcases List.mem_cons.1 hy with rfl | hy
      · exact ho
      · exact lexI_trans (l := o.l) (m := x.l) (n := y.l) rfl rfl ho (h.1 y hy)
theorem sortO_sorted : ∀ (l : List O3), SortedO (sortO l)
  | [] => List.Pairwise.nil
  | o :: l => insO_sorted o _ (sortO_sorted l)
/-- Lists in order with the same members are one. -/
theorem sorted_one : ∀ {l m : List O3}, SortedO l → SortedO m → l.Perm m → l = m
  | [], m, _, _, hp => by rw [List.nil_perm.1 hp]
  | x :: l, m, hl, hm, hp => by
    cases m with
    | nil => exact absurd hp.symm (by simp)
    | cons y m =>
      unfold SortedO at hl hm
      rw [List.pairwise_cons] at hl hm
      have hxy : x = y := by
        have hx : x ∈ y :: m := hp.mem_iff.1 (by simp)
        have hy : y ∈ x :: l := hp.mem_iff.2 (by simp)
        rcases List.mem_cons.1 hx with rfl | hx
        · rfl
        · rcases List.mem_cons.1 hy with rfl | hy
          · rfl
          · have h1 := hm.1 x hx
            have h2 := hl.1 y hy
            have h3 := lexI_neg x.l y.l
            exact O3.l_inj ((lexI_zero (l := x.l) (m := y.l) rfl).1 (by omega))
      subst hxy
      rw [sorted_one hl.2 hm.2 ((List.perm_cons x).1 hp)]
/-- What the library says of the sort, as a list. -/
theorem sorted_list {d d' : Array O3} (hp : Go.Sort.PermIn 0 d.size d d') (hs : Go.Sort.SortedIn (Go.Proofs.ltOf cmpO) 0 d.size d') : d'.toList = sortO d.toList := by
  obtain ⟨h1, -, h3⟩ := hp
  rw [Array.extract_size, show d'.extract 0 d.size = d' by rw [← h1, Array.extract_size]] at h3
  refine sorted_one ?_ (sortO_sorted _) (h3.trans (sortO_perm _).symm)
  unfold SortedO
  rw [List.pairwise_iff_getElem]
  intro i j hi hj hij
  have hi' : i < d'.size := by simpa using hi
  have hj' : j < d'.size := by simpa using hj
  have h := hs i j (Nat.zero_le _) hij (by omega)
  rw [getElem!_pos d' j hj', getElem!_pos d' i hi', lt_f] at h
  have h4 := lexI_neg d'[j].l d'[i].l
  simp only [Array.getElem_toList]
  omega
end Go.Proofs.Ytggdbakgiknogaa


namespace Go.Proofs.Ytggdbakgiknogaa
open Go Vx Go.Shelf Go.RowKit Go.Sort
theorem O3.cells_len (o : O3) : o.cells.length = 12 := rfl
theorem O3.cells_plain (o : O3) : allL plain0 o.cells = true := rfl
theorem O3.cells_cell (o : O3) (k : Nat) (hk : k < 12) : o.cells[k]? = some o.cells[k]! ∧ plain0 o.cells[k]! = true := by
  match k, hk with
  | 0, _ => exact ⟨rfl, rfl⟩
  | 1, _ => exact ⟨rfl, rfl⟩
  | 2, _ => exact ⟨rfl, rfl⟩
  | 3, _ => exact ⟨rfl, rfl⟩
  | 4, _ => exact ⟨rfl, rfl⟩
  | 5, _ => exact ⟨rfl, rfl⟩
  | 6, _ => exact ⟨rfl, rfl⟩
  | 7, _ => exact ⟨rfl, rfl⟩
  | 8, _ => exact ⟨rfl, rfl⟩
  | 9, _ => exact ⟨rfl, rfl⟩
  | 10, _ => exact ⟨rfl, rfl⟩
  | 11, _ => exact ⟨rfl, rfl⟩
  | k + 12, h => omega
theorem opRow_arr {xs : List O3} {i : Nat} (hi : i < xs.length) : opRow xs i = (xs.toArray[i]!).cells := by
  unfold opRow
  rw [getElem!_pos xs.toArray i (by simpa using hi)]
  simp [hi]
/-- A list of maps, held as the library's sort wants it. -/
theorem holds_ops {w : World} {r : Vx.Ren} {p : Vx.Place} {xs : List O3} (h : BlkRel w r p (.rows true true 12 xs.length (opRow xs))) : HoldsK O3.cells 12 w p.blk p.off xs.toArray := by
  obtain ⟨_, _, _, _, cs, T, fz, _, h3, h4, h5⟩ := h
  obtain ⟨rfl, -⟩ := h4 rfl
  intro t ht
  rw [size_flatK] at ht
  have ht' : t < xs.length * 12 := by simpa using ht
  rw [get_flatK _ _ _ t ht]
  have hi : t / 12 < xs.length := by omega
  obtain ⟨h6, h7⟩ := O3.cells_cell (xs.toArray[t / 12]!) (t % 12) (by omega)
  obtain ⟨v', h8, h9⟩ := (h5 (t / 12) hi).2 (t % 12) _ (by rw [opRow_arr hi]; exact h6)
  rw [R0_plain h7] at h9
  subst h9
  refine ⟨?_, ?_⟩
  · rw [show p.off + t = p.off + t / 12 * 12 + t % 12 by omega, cell_of h3]
    exact h8
  · simp [World.frozen?, h3]
/-- The row laid anew: only this block changes. -/
theorem put_only (w : World) (blk off : Nat) (d : Array O3) : Only blk w (putRowK O3.cells 12 w blk off d) := by
  refine ⟨fun k hk => ?_, ?_, rfl, rfl, rfl, rfl⟩
  · simp only [putRowK, Go.Sort.putRow, Go.Sort.mapBlock, Array.getElem?_modify, if_neg (Ne.symm hk)]
  · simp only [putRowK, Go.Sort.putRow, Go.Sort.mapBlock, Array.size_modify]
theorem put_rel {w : World} {r : Vx.Ren} {p : Vx.Place} {xs ys : List O3} (hl : ys.length = xs.length) (h : BlkRel w r p (.rows true true 12 xs.length (opRow xs))) : BlkRel (putRowK O3.cells 12 w p.blk p.off ys.toArray) r p (.rows true true 12 xs.length (opRow ys)) := by
  have hh := holdsK_putRowK O3.cells 12 w p.blk p.off xs.toArray ys.toArray (holds_ops h) (by simpa using hl)
  obtain ⟨h1, h2, h0, _, cs, T, fz, h6, h3, h4, h5⟩ := h
  have hw : (putRowK O3.cells 12 w p.blk p.off ys.toArray).heap[p.blk]? = some (.cells (Go.Sort.putCells id p.off (flatK O3.cells 12 ys.toArray) cs) T fz) := by
    simp only [putRowK, Go.Sort.putRow, Go.Sort.mapBlock, Array.getElem?_modify, h3]
    rfl
  refine ⟨h1, h2, h0, fun _ i hi => O3.cells_plain _, _, T, fz, h6, hw, fun ho => ⟨(h4 ho).1, by simpa [Go.Sort.putCells] using (h4 ho).2⟩, fun i hi => ⟨rfl, fun k v hv => ?_⟩⟩
  have hk : k < 12 := (List.getElem?_eq_some_iff.1 hv).1
  have hi' : i < ys.length := by omega
  rw [opRow_arr hi'] at hv
  obtain ⟨h7, h8⟩ := O3.cells_cell (ys.toArray[i]!) k hk
  rw [h7] at hv
  have ht : i * 12 + k < ys.toArray.size * 12 := by simp; omega
  have := (hh (i * 12 + k) (by rw [size_flatK]; exact ht)).1
  rw [get_flatK _ _ _ _ ht, show (i * 12 + k) / 12 = i by omega, show (i * 12 + k) % 12 = k by omega] at this
  simp only [World.cell?, hw, id] at this
  simp only [Option.some.injEq] at hv
  subst hv
  exact ⟨_, by rw [Nat.add_assoc]; exact this, (R0_plain h8).2 rfl⟩
end Go.Proofs.Ytggdbakgiknogaa


namespace Go.Proofs.Ytggdbakgiknogaa
open Go Vx Go.Shelf Go.RowKit Go.Sort
theorem cmpLays (blk off size : Nat) (w : World) : CmpLays Try.prog 16 #[] O3.cells 12 cmpO blk off size w := fun _ _ _ _ x y =>
  ((cmpSem x y).2 _).mono fun _ _ ⟨he, hb, hd⟩ => ⟨he, below_grow hb hd⟩
theorem sortO_len (xs : List O3) : (sortO xs).length = xs.length := (sortO_perm xs).length_eq
theorem below_ahead (w : World) (n : Nat) : Below w.heap.size w (Go.Sort.ahead w n) := ⟨rfl, rfl, rfl, Nat.le_refl _, fun _ _ => rfl⟩
theorem below_grown (w : World) (os : Array Obj) : Below w.heap.size w (Go.Sort.grow w os) := ⟨rfl, rfl, rfl, by simp [Go.Sort.grow], fun k hk => by simp only [Go.Sort.grow]; rw [Array.getElem?_append_left hk]⟩
theorem sortSem (xs : List O3) (hl : xs.length ≤ 1000) : MemSem Try.prog 39 [.slice (some ⟨0, 0, some 0⟩) xs.length 12, .func (.func 16) #[] #[]] [.rows true true 12 xs.length (opRow xs)] (.tuple #[]) [.rows true true 12 xs.length (opRow (sortO xs))] := by
  refine ⟨okFunc_spec (by kernel_rfl), fun w0 keep r args' w ha hm => ?_⟩
  match args', ha with
  | [a', f'], ha =>
    obtain ⟨h1, h2, -⟩ := ha
    have hf : f' = .func (.func 16) #[] #[] := (R_plain (v := .func (.func 16) #[] #[]) rfl).1 h2
    subst hf
    have h1' : R0 r (.slice (some ⟨0, 0, some 0⟩) xs.length 12) a' := h1
    unfold R0 at h1'
    simp only at h1'
    cases hr : r 0 with
    | none => rw [hr] at h1'; exact h1'.elim
    | some q =>
      rw [hr] at h1'
      cases q with
      | none => have := hm.dead 0 hr; simp at this
      | some p =>
        obtain ⟨c, rfl, hsl⟩ := h1'
        obtain ⟨k, hk1, hk2⟩ := hm.blk 0 p hr
        simp only [List.getElem?_cons_zero, Option.some.injEq] at hk1
        subst hk1
        have hown : p.own = true := hk2.1
        have hcon := AnyQ.slices_SortFunc sortOp 12 Try.isAgg34 Try.sizeOf34 O3.cells O3.cells_len (fun x v hv => by
          have := allL_iff.1 (O3.cells_plain x) v hv
          cases v <;> first | rfl | cases this) cmpO cmp_swo 16 #[] p.blk p.off c xs.toArray w (enters_of Try.func16 (by kernel_rfl) rfl) (cmpLays _ _ _ _) (holds_ops hk2) hk2.lt (by simp; omega)
        change Calls Try.prog 39 _ _ _ at hcon
        have hadr : p.addr ⟨0, 0, some 0⟩ = ⟨p.blk, p.off, none⟩ := by simp [Vx.Place.addr]
        rw [hadr]
        have hsz : xs.toArray.size = xs.length := by simp
        rw [hsz] at hcon
        refine hcon.mono ?_
        rintro e w' ⟨rfl, d', n, os, hp, hs, rfl⟩
        have hd : d'.toList = sortO xs := by
          have := sorted_list (d := xs.toArray) (d' := d') (by rw [hsz]; exact hp) (by rw [hsz]; exact hs)
          simpa using this
        have hd2 : d' = (sortO xs).toArray := by rw [← hd]
        subst hd2
        refine ⟨.tuple #[], r, rfl, ⟨#[], rfl, trivial⟩, ?_, Ext.refl r⟩
        unfold sortWorldK
        have m1 := hm.later (below_ahead w n) (by simp [Go.Sort.ahead])
        have b1 : BlkRel (Go.Sort.ahead w n) r p (.rows true true 12 xs.length (opRow xs)) := hk2.mono rfl (Ext.refl r)
        have m2 := m1.turn hr hown (by simp [isGrow]) (put_only _ _ _ _) (put_rel (ys := sortO xs) (sortO_len xs) b1)
        exact m2.later (below_grown _ os) (Nat.le_refl _)
  | [], ha => exact ha.elim
  | [_], ha => exact ha.2.elim
  | _ :: _ :: _ :: _, ha => exact ha.2.2.elim
end Go.Proofs.Ytggdbakgiknogaa


namespace Go.Proofs.Ytggdbakgiknogaa.Vx
open Go

instance : DecidableEq O3 := fun a b => match h : a.eqB b with
  | true => isTrue (O3.eqB_iff.1 h)
  | false => isFalse (O3.eqB_false.1 h)

/-! Lists without doubles -/
theorem nodup_sub {α : Type} [DecidableEq α] : ∀ {l m : List α}, l.Nodup → (∀ x ∈ l, x ∈ m) → l.length ≤ m.length
  | [], m, _, _ => Nat.zero_le _
  | x :: l, m, h, hs => by
    rw [List.nodup_cons] at h
    have hx : x ∈ m := hs x (by simp)
    have := nodup_sub (l := l) (m := m.erase x) h.2 fun y hy => by
      have hne : y ≠ x := fun e => h.1 (e ▸ hy)
      exact (List.mem_erase_of_ne hne).2 (hs y (by simp [hy]))
    rw [List.length_erase_of_mem hx] at this
    have : 0 < m.length := List.length_pos_of_mem hx
    simp only [List.length_cons]; omega
theorem nodup_onto {α : Type} [DecidableEq α] {l m : List α} (h : l.Nodup) (hs : ∀ x ∈ l, x ∈ m) (hl : m.length ≤ l.length) : ∀ x ∈ m, x ∈ l := by
  intro x hx
  by_cases hxl : x ∈ l
  · exact hxl
  · exfalso
    have := nodup_sub (l := x :: l) (m := m) (List.nodup_cons.2 ⟨hxl, h⟩) fun y hy => by
      rcases List.mem_cons.1 hy with rfl | hy
      · exact hx
      · exact hs y hy
    simp only [List.length_cons] at this; omega
theorem nodup_map {α β : Type} {f : α → β} {l : List α} (h : l.Nodup) (hf : ∀ a ∈ l, ∀ b ∈ l, f a = f b → a = b) : (l.map f).Nodup := by
  unfold List.Nodup at *
  rw [List.pairwise_map]
  exact h.imp_of_mem fun ha hb hne e => hne (hf _ ha _ hb e)

/-! Maps that can be undone -/
def O3.Inv (a : O3) : Prop := a.t.part = true ∧ a.r.U
theorem O3.inv_ck {a : O3} (h : a.ck = 0) : a.Inv := ⟨(O3.ck_zero.1 h).1, (O3.ck_zero.1 h).2.2⟩
theorem O3.ck_of {a : O3} (h : a.Inv) (hk : a.r.ok = true) : a.ck = 0 := O3.ck_zero.2 ⟨h.1, hk, h.2⟩
theorem O3.Inv.one : O3.one.Inv := ⟨by decide, M3.U_one⟩
theorem O3.one_ck : O3.one.ck = 0 := O3.ck_of O3.Inv.one (by decide)
theorem O3.Inv.mul {a b : O3} (ha : a.Inv) (hb : b.Inv) : (a.mul b).Inv := ⟨V3.md_part _, M3.U_mul ha.2 hb.2⟩
theorem O3.cancel_l {a b c : O3} (ha : a.Inv) (hb : b.Inv) (hc : c.Inv) (h : a.mul b = a.mul c) : b = c := by
  have := congrArg (O3.mul a.inv) h
  rwa [← O3.mul_assoc, ← O3.mul_assoc, O3.inv_mul ha.2, O3.one_mul hb.1, O3.one_mul hc.1] at this
theorem O3.mulE_iff {a b : O3} (ha : a.ck = 0) (hb : b.ck = 0) : a.mulE b = 0 ↔ (a.mul b).r.ok = true := by
  unfold O3.mulE
  rw [leastI_zero.2 ⟨ha, hb⟩]
  unfold O3.smallE
  cases (a.mul b).r.ok <;> simp

/-! What maps generate -/
inductive Gen (xs : List O3) : O3 → Prop
  | one : Gen xs O3.one
  | step {g x : O3} : Gen xs g → x ∈ xs → Gen xs (g.mul x)
def AllInv (xs : List O3) : Prop := ∀ x ∈ xs, x.Inv
theorem Gen.inv {xs : List O3} (hx : AllInv xs) {g : O3} (h : Gen xs g) : g.Inv := by
  induction h with
  | one => exact O3.Inv.one
  | step _ hm ih => exact ih.mul (hx _ hm)
theorem Gen.of {xs : List O3} (hx : AllInv xs) {x : O3} (h : x ∈ xs) : Gen xs x := by
  have := Gen.step (xs := xs) Gen.one h
  rwa [O3.one_mul (hx x h).1] at this
theorem Gen.mul {xs : List O3} (hx : AllInv xs) {g h : O3} (hg : Gen xs g) (hh : Gen xs h) : Gen xs (g.mul h) := by
  induction hh with
  | one => rwa [O3.mul_one (hg.inv hx).1]
  | step _ hm ih => rw [← O3.mul_assoc]; exact Gen.step ih hm
theorem Gen.mono {xs ys : List O3} (hy : AllInv ys) (h : ∀ x ∈ xs, Gen ys x) {g : O3} (hg : Gen xs g) : Gen ys g := by
  induction hg with
  | one => exact Gen.one
  | step _ hm ih => exact ih.mul hy (h _ hm)
/-- There is no group of at most so many maps. -/
def Bad (xs : List O3) : Prop := (∃ g, Gen xs g ∧ g.r.ok = false) ∨ ∃ l : List O3, l.Nodup ∧ 192 < l.length ∧ ∀ g ∈ l, Gen xs g
/-- The group, as a list. -/
def IsGrp (xs l : List O3) : Prop := l.Nodup ∧ l.length ≤ 192 ∧ (∀ g, g ∈ l ↔ Gen xs g) ∧ ∀ g ∈ l, g.ck = 0
theorem IsGrp.not_bad {xs l : List O3} (h : IsGrp xs l) : ¬ Bad xs := by
  obtain ⟨h1, h2, h3, h4⟩ := h
  rintro (⟨g, hg, hk⟩ | ⟨m, k1, k2, k3⟩)
  · have := (O3.ck_zero.1 (h4 g ((h3 g).2 hg))).2.1
    rw [hk] at this; cases this
  · have := nodup_sub k1 fun x hx => (h3 x).2 (k3 x hx)
    omega
theorem Bad.mono {xs ys : List O3} (hy : AllInv ys) (h : ∀ x ∈ xs, Gen ys x) (hb : Bad xs) : Bad ys := by
  rcases hb with ⟨g, hg, hk⟩ | ⟨m, k1, k2, k3⟩
  · exact Or.inl ⟨g, hg.mono hy h, hk⟩
  · exact Or.inr ⟨m, k1, k2, fun g hg => (k3 g hg).mono hy h⟩
theorem IsGrp.perm {xs l m : List O3} (h : IsGrp xs l) (k : IsGrp xs m) : l.Perm m := (List.perm_ext_iff_of_nodup h.1 k.1).2 fun g => by rw [h.2.2.1, k.2.2.1]
/-- A group: each of its maps is undone by one of them. -/
theorem grp_undo {H : List O3} (hn : H.Nodup) (hi : ∀ h ∈ H, h.Inv) (h1 : O3.one ∈ H) (hm : ∀ a ∈ H, ∀ b ∈ H, a.mul b ∈ H) {a : O3} (ha : a ∈ H) : ∃ b ∈ H, a.mul b = O3.one := by
  have hnd : (H.map a.mul).Nodup := nodup_map hn fun x hx y hy e => O3.cancel_l (hi a ha) (hi x hx) (hi y hy) e
  have := nodup_onto hnd (m := H) (fun x hx => by
    obtain ⟨y, hy, rfl⟩ := List.mem_map.1 hx
    exact hm a ha y hy) (by simp) O3.one h1
  obtain ⟨b, hb, e⟩ := List.mem_map.1 this
  exact ⟨b, hb, e⟩

/-! Cosets -/
/-- The cosets of H that begin with these maps. -/
def cosets (H bs : List O3) : List O3 := bs.flatMap fun b => H.map b.mul
theorem cosets_len (H : List O3) : ∀ (bs : List O3), (cosets H bs).length = bs.length * H.length
  | [] => by simp [cosets]
  | b :: bs => by
    have := cosets_len H bs
    unfold cosets at this ⊢
    simp only [List.flatMap_cons, List.length_append, List.length_map, List.length_cons, this]
    rw [Nat.add_mul]; omega
theorem cosets_snoc (H bs : List O3) (b : O3) : cosets H (bs ++ [b]) = cosets H bs ++ H.map b.mul := by
  unfold cosets; rw [List.flatMap_append]; simp
theorem mem_cosets {H bs : List O3} {g : O3} : g ∈ cosets H bs ↔ ∃ b ∈ bs, ∃ h ∈ H, b.mul h = g := by
  unfold cosets
  simp only [List.mem_flatMap, List.mem_map]
structure Grp (H : List O3) : Prop where
  nd : H.Nodup
  ck : ∀ h ∈ H, h.ck = 0
  one : O3.one ∈ H
  mul : ∀ a ∈ H, ∀ b ∈ H, a.mul b ∈ H
theorem IsGrp.grp {xs l : List O3} (hx : AllInv xs) (h : IsGrp xs l) : Grp l := ⟨h.1, h.2.2.2, (h.2.2.1 _).2 Gen.one, fun a ha b hb => (h.2.2.1 _).2 (((h.2.2.1 a).1 ha).mul hx ((h.2.2.1 b).1 hb))⟩
/-- A coset whose first map is new has no map in common with the others. -/
theorem coset_new {H bs : List O3} (hH : Grp H) {f : O3} (hf : f.Inv) (hn : f ∉ cosets H bs) : (∀ g ∈ H.map f.mul, g ∉ cosets H bs) ∧ (H.map f.mul).Nodup := by
  have hi : ∀ h ∈ H, h.Inv := fun h hh => O3.inv_ck (hH.ck h hh)
  constructor
  · intro g hg hc
    obtain ⟨a, ha, rfl⟩ := List.mem_map.1 hg
    obtain ⟨b, hb', h, hh, e⟩ := mem_cosets.1 hc
    obtain ⟨a', ha', e'⟩ := grp_undo hH.nd hi hH.one hH.mul ha
    apply hn
    refine mem_cosets.2 ⟨b, hb', h.mul a', hH.mul h hh a' ha', ?_⟩
    rw [← O3.mul_assoc, e, O3.mul_assoc, e', O3.mul_one hf.1]
  · exact nodup_map hH.nd fun x hx y hy e => O3.cancel_l hf (hi x hx) (hi y hy) e
/-- Cosets that the makers keep among themselves are all that the makers generate. -/
theorem cosets_all {H bs ms : List O3} (hm : AllInv ms) (hH : Grp H) (hb : ∀ b ∈ bs, Gen ms b) (hHg : ∀ h ∈ H, Gen ms h) (h1 : O3.one ∈ bs) (hc : ∀ b ∈ bs, ∀ m ∈ ms, m.mul b ∈ cosets H bs) (g : O3) : g ∈ cosets H bs ↔ Gen ms g := by
  constructor
  · intro h
    obtain ⟨b, hb', k, hk, rfl⟩ := mem_cosets.1 h
    exact (hb b hb').mul hm (hHg k hk)
  · intro h
    have hcl : ∀ m ∈ ms, ∀ y ∈ cosets H bs, m.mul y ∈ cosets H bs := fun m hmm y hy => by
      obtain ⟨b, hb', k, hk, rfl⟩ := mem_cosets.1 hy
      obtain ⟨b', hb2, k', hk', e⟩ := mem_cosets.1 (hc b hb' m hmm)
      exact mem_cosets.2 ⟨b', hb2, k'.mul k, hH.mul _ hk' _ hk, by rw [← O3.mul_assoc, e, O3.mul_assoc]⟩
    have hall : ∀ g, Gen ms g → ∀ y ∈ cosets H bs, g.mul y ∈ cosets H bs := by
      intro g hg
      induction hg with
      | one =>
        intro y hy
        obtain ⟨b, hb', k, hk, rfl⟩ := mem_cosets.1 hy
        rw [O3.one_mul (V3.md_part _)]
        exact hy
      | step _ hmm ih => intro y hy; rw [O3.mul_assoc]; exact ih _ (hcl _ hmm y hy)
    have h1' : O3.one ∈ cosets H bs := mem_cosets.2 ⟨O3.one, h1, O3.one, hH.one, O3.one_mul (by decide)⟩
    have := hall g h O3.one h1'
    rwa [O3.mul_one (h.inv hm).1] at this
end Go.Proofs.Ytggdbakgiknogaa.Vx


namespace Go.Proofs.Ytggdbakgiknogaa
open Go Vx

theorem mHas_put (k j : List Int) (v : Int) : ∀ (es : ES), mHas j (mPut k v es) = true ↔ j = k ∨ mHas j es = true
  | [] => by
    simp only [mPut, mHas]
    by_cases h : k = j
    · subst h; simp
    · simp [h, Ne.symm h]
  | e :: es => by
    have ih := mHas_put k j v es
    simp only [mPut]
    by_cases h : e.1 = k
    · rw [show decide (e.1 = k) = true by simpa using h]
      simp only [mHas]
      by_cases hj : k = j
      · subst hj; simp
      · have hj' : ¬ e.1 = j := by rw [h]; exact hj
        simp [hj, hj', Ne.symm hj]
    · rw [show decide (e.1 = k) = false by simpa using h]
      simp only [mHas]
      by_cases hj : e.1 = j
      · simp [hj]
      · rw [show decide (e.1 = j) = false by simpa using hj]
        exact ih
/-- The keys are the maps. -/
def Keys (xs : List O3) (es : ES) : Prop := ∀ o, mHas (key o) es = true ↔ o ∈ xs
theorem Keys.put {xs : List O3} {es : ES} (h : Keys xs es) (o : O3) : Keys (xs ++ [o]) (mPut (key o) 0 es) := fun p => by
  rw [mHas_put, h p, List.mem_append, List.mem_singleton]
  constructor
  · rintro (e | e)
    · exact Or.inr (key_inj e)
    · exact Or.inl e
  · rintro (e | e)
    · exact Or.inr e
    · exact Or.inl (by rw [e])
/-- A coset that goes through. -/
theorem cosL_spec {f : O3} (hf : f.ck = 0) : ∀ (l : List O3) (xs : List O3) (es : ES), (∀ a ∈ l, a.ck = 0) → Keys xs es →
    ((cosL f l xs es).1 = true ∧ (cosL f l xs es).2.1 = xs ++ l.map f.mul ∧ Keys (xs ++ l.map f.mul) (cosL f l xs es).2.2 ∧ ∀ a ∈ l, (f.mul a).ck = 0) ∨ ((cosL f l xs es).1 = false ∧ ∃ a ∈ l, (f.mul a).r.ok = false)
  | [], xs, es, _, hk => Or.inl ⟨rfl, by simp [cosL], by simpa [cosL] using hk, by simp⟩
  | a :: l, xs, es, hl, hk => by
    have ha := hl a (by simp)
    simp only [cosL]
    by_cases he : f.mulE a = 0
    · obtain ⟨e1, e2⟩ := O3.mulF_of hf ha he
      rw [(beq_true he).2, e1]
      rcases cosL_spec hf l (xs ++ [f.mul a]) (mPut (key (f.mul a)) 0 es) (fun x hx => hl x (by simp [hx])) (hk.put _) with ⟨h1, h2, h3, h4⟩ | ⟨h1, b, hb, h2⟩
      · left
        refine ⟨h1, by rw [h2]; simp, by simpa using h3, fun x hx => ?_⟩
        rcases List.mem_cons.1 hx with rfl | hx
        · exact e2
        · exact h4 x hx
      · right
        exact ⟨h1, b, by simp [hb], h2⟩
    · right
      rw [(bif_beq he).2]
      refine ⟨rfl, a, by simp, ?_⟩
      rw [O3.mulE_iff hf ha] at he
      simpa using he
/-- A span on its way: cosets of a group, each with its first map. -/
structure Way (H ms bs xs : List O3) (es : ES) : Prop where
  eq : xs = cosets H bs
  keys : Keys xs es
  nd : xs.Nodup
  ck : ∀ g ∈ xs, g.ck = 0
  gen : ∀ b ∈ bs, Gen ms b
  bck : ∀ b ∈ bs, b.ck = 0
  head : xs.take H.length = H
  len : xs.length ≤ 192
structure Base (H ms : List O3) : Prop where
  grp : Grp H
  gen : ∀ h ∈ H, Gen ms h
  inv : AllInv ms
  mck : ∀ m ∈ ms, m.ck = 0
  first : ∃ l, H = O3.one :: l
theorem tcStep_spec {H ms bs xs : List O3} {es : ES} (hB : Base H ms) (hW : Way H ms bs xs es) {m b : O3} (hm : m ∈ ms) (hb : b ∈ bs) :
    (∃ r bs', tcStep m b (H.length : Int) xs es = some r ∧ Way H ms (bs ++ bs') r.1 r.2 ∧ m.mul b ∈ r.1) ∨ (tcStep m b (H.length : Int) xs es = none ∧ Bad ms) := by
  have hmk := hB.mck m hm
  have hbk := hW.bck b hb
  have hg : Gen ms (m.mul b) := (Gen.of hB.inv hm).mul hB.inv (hW.gen b hb)
  unfold tcStep
  by_cases he : m.mulE b = 0
  · obtain ⟨e1, e2⟩ := O3.mulF_of hmk hbk he
    rw [(beq_true he).2, e1]
    simp only
    by_cases hh : mHas (key (m.mul b)) es = true
    · rw [hh]
      left
      refine ⟨(xs, es), [], rfl, by simpa using hW, (hW.keys _).1 hh⟩
    · have hnm : m.mul b ∉ xs := fun h => hh ((hW.keys _).2 h)
      rw [Bool.not_eq_true] at hh
      rw [hh]
      simp only
      have hnew := coset_new hB.grp (O3.inv_ck e2) (by rw [← hW.eq]; exact hnm)
      have hnd : (xs ++ H.map (m.mul b).mul).Nodup := List.nodup_append.2 ⟨hW.nd, hnew.2, fun a ha c hc e => by
        subst e
        exact hnew.1 a hc (by rw [← hW.eq]; exact ha)⟩
      have hgen : ∀ g ∈ xs ++ H.map (m.mul b).mul, Gen ms g := fun g hg' => by
        rcases List.mem_append.1 hg' with h | h
        · rw [hW.eq] at h
          obtain ⟨c, hc, k, hk, rfl⟩ := mem_cosets.1 h
          exact (hW.gen c hc).mul hB.inv (hB.gen k hk)
        · obtain ⟨k, hk, rfl⟩ := List.mem_map.1 h
          exact hg.mul hB.inv (hB.gen k hk)
      by_cases hl : (xs.length : Int) + (H.length : Int) > 192
      · rw [show decide ((xs.length : Int) + (H.length : Int) > 192) = true by simpa using hl]
        right
        exact ⟨rfl, Or.inr ⟨_, hnd, by simp; omega, hgen⟩⟩
      · rw [show decide ((xs.length : Int) + (H.length : Int) > 192) = false by simpa using hl]
        simp only [Int.toNat_natCast, hW.head]
        rcases cosL_spec e2 H xs es hB.grp.ck hW.keys with ⟨h1, h2, h3, h4⟩ | ⟨h1, a, ha, h2⟩
        · rw [h1]
          left
          refine ⟨_, [m.mul b], rfl, ?_, ?_⟩
          · rw [h2]
            refine ⟨by rw [cosets_snoc, ← hW.eq], h3, hnd, fun g hg' => ?_, fun c hc => ?_, fun c hc => ?_, ?_, ?_⟩
            · rcases List.mem_append.1 hg' with h | h
              · exact hW.ck g h
              · obtain ⟨k, hk, rfl⟩ := List.mem_map.1 h
                exact h4 k hk
            · rcases List.mem_append.1 hc with h | h
              · exact hW.gen c h
              · rw [List.mem_singleton] at h; subst h; exact hg
            · rcases List.mem_append.1 hc with h | h
              · exact hW.bck c h
              · rw [List.mem_singleton] at h; subst h; exact e2
            · have hle : H.length ≤ xs.length := by
                have := congrArg List.length hW.head
                rw [List.length_take] at this
                omega
              rw [List.take_append_of_le_length hle, hW.head]
            · simp; omega
          · rw [h2]
            refine List.mem_append_right _ (List.mem_map.2 ⟨O3.one, hB.grp.one, O3.mul_one (V3.md_part _)⟩)
        · rw [h1]
          right
          exact ⟨rfl, Or.inl ⟨_, hg.mul hB.inv (hB.gen a ha), h2⟩⟩
  · right
    rw [(bif_beq he).2]
    refine ⟨rfl, Or.inl ⟨_, hg, ?_⟩⟩
    rw [O3.mulE_iff hmk hbk] at he
    simpa using he
theorem Way.sub {H ms bs bs' xs xs' : List O3} {es es' : ES} (h : Way H ms bs xs es) (h' : Way H ms (bs ++ bs') xs' es') : ∀ g ∈ xs, g ∈ xs' := fun g hg => by
  rw [h.eq] at hg
  rw [h'.eq]
  obtain ⟨b, hb, k, hk, e⟩ := mem_cosets.1 hg
  exact mem_cosets.2 ⟨b, List.mem_append_left _ hb, k, hk, e⟩
/-- The first map of a coset, by its place. -/
theorem Way.at {H ms bs xs : List O3} {es : ES} (hB : Base H ms) (h : Way H ms bs xs es) {j : Nat} (hj : j < bs.length) : atO xs ((j * H.length : Nat) : Int) = bs[j] := by
  obtain ⟨l, hl⟩ := hB.first
  have key : ∀ (bs : List O3) (j : Nat) (hj : j < bs.length), (cosets H bs)[j * H.length]? = some (bs[j].mul O3.one) := by
    intro bs
    induction bs with
    | nil => intro j hj; simp at hj
    | cons b bs ih =>
      intro j hj
      have hc : cosets H (b :: bs) = H.map b.mul ++ cosets H bs := by unfold cosets; simp
      rw [hc]
      cases j with
      | zero => rw [Nat.zero_mul, hl]; simp
      | succ j =>
        have hj' : j < bs.length := by simpa using hj
        rw [List.getElem?_append_right (by rw [List.length_map, Nat.add_mul]; omega)]
        rw [List.length_map, show (j + 1) * H.length - H.length = j * H.length by rw [Nat.add_mul]; omega, ih j hj']
        simp
  unfold atO
  rw [Int.toNat_natCast, h.eq, key bs j hj, Option.getD_some, O3.mul_one]
  exact (O3.inv_ck (h.bck _ (List.getElem_mem hj))).1
theorem mkL_spec {H ms : List O3} (hB : Base H ms) : ∀ (l : List O3), (∀ m ∈ l, m ∈ ms) → ∀ (bs xs : List O3) (es : ES), Way H ms bs xs es → ∀ (j : Nat) (hj : j < bs.length),
    (∃ r bs', mkL ((j * H.length : Nat) : Int) (H.length : Int) l xs es = some r ∧ Way H ms (bs ++ bs') r.1 r.2 ∧ ∀ m ∈ l, m.mul bs[j] ∈ r.1) ∨ (mkL ((j * H.length : Nat) : Int) (H.length : Int) l xs es = none ∧ Bad ms)
  | [], _, bs, xs, es, hW, j, hj => Or.inl ⟨(xs, es), [], rfl, by simpa using hW, by simp⟩
  | m :: l, hl, bs, xs, es, hW, j, hj => by
    simp only [mkL]
    rw [hW.at hB hj]
    rcases tcStep_spec hB hW (hl m (by simp)) (List.getElem_mem hj) with ⟨r, b1, h1, h2, h3⟩ | ⟨h1, h2⟩
    · rw [h1]
      simp only
      rcases mkL_spec hB l (fun x hx => hl x (by simp [hx])) (bs ++ b1) r.1 r.2 h2 j (by simp; omega) with ⟨s, b2, k1, k2, k3⟩ | ⟨k1, k2⟩
      · left
        refine ⟨s, b1 ++ b2, k1, by rw [← List.append_assoc]; exact k2, fun x hx => ?_⟩
        rcases List.mem_cons.1 hx with rfl | hx
        · exact h2.sub k2 _ h3
        · have := k3 x hx
          rwa [List.getElem_append_left hj] at this
      · right; exact ⟨k1, k2⟩
    · right
      rw [h1]
      exact ⟨rfl, h2⟩
theorem outL_spec {H ms : List O3} (hB : Base H ms) : ∀ (N : Nat) (bs xs : List O3) (es : ES), Way H ms bs xs es → ∀ (j : Nat), j ≤ bs.length → N + j = 193 → (∀ (i : Nat) (hi : i < bs.length), i < j → ∀ m ∈ ms, m.mul bs[i] ∈ xs) →
    (∃ r bs', outL (H.length : Int) ms N ((j * H.length : Nat) : Int) xs es = some r ∧ Way H ms (bs ++ bs') r.1 r.2 ∧ ∀ b ∈ bs ++ bs', ∀ m ∈ ms, m.mul b ∈ r.1) ∨ (outL (H.length : Int) ms N ((j * H.length : Nat) : Int) xs es = none ∧ Bad ms)
  | 0, bs, xs, es, hW, j, hj, hN, hd => by
    exfalso
    have h1 := cosets_len H bs
    rw [← hW.eq] at h1
    have h2 := hW.len
    obtain ⟨l, hl⟩ := hB.first
    have h3 : 1 ≤ H.length := by rw [hl]; simp
    have : bs.length * 1 ≤ bs.length * H.length := Nat.mul_le_mul_left _ h3
    omega
  | N + 1, bs, xs, es, hW, j, hj, hN, hd => by
    simp only [outL]
    have h1 := cosets_len H bs
    rw [← hW.eq] at h1
    obtain ⟨l, hl⟩ := hB.first
    have h3 : 1 ≤ H.length := by rw [hl]; simp
    by_cases hlt : j < bs.length
    · have : j * H.length < bs.length * H.length := Nat.mul_lt_mul_of_lt_of_le hlt (Nat.le_refl _) h3
      rw [show decide (((j * H.length : Nat) : Int) < (xs.length : Int)) = true by simp only [decide_eq_true_eq]; omega]
      simp only
      rcases mkL_spec hB ms (fun _ h => h) bs xs es hW j hlt with ⟨r, b1, k1, k2, k3⟩ | ⟨k1, k2⟩
      · rw [k1]
        simp only
        have hnext := outL_spec hB N (bs ++ b1) r.1 r.2 k2 (j + 1) (by simp; omega) (by omega) fun i hi hij m hm => by
          by_cases hi2 : i < bs.length
          · rw [List.getElem_append_left hi2]
            by_cases hij2 : i < j
            · exact hW.sub k2 _ (hd i hi2 hij2 m hm)
            · obtain rfl : i = j := by omega
              exact k3 m hm
          · omega
        rw [show ((j * H.length : Nat) : Int) + (H.length : Int) = (((j + 1) * H.length : Nat) : Int) by rw [Nat.add_mul]; omega]
        rcases hnext with ⟨s, b2, e1, e2, e3⟩ | ⟨e1, e2⟩
        · left
          exact ⟨s, b1 ++ b2, e1, by rw [← List.append_assoc]; exact e2, by rw [← List.append_assoc]; exact e3⟩
        · right; exact ⟨e1, e2⟩
      · right
        rw [k1]
        exact ⟨rfl, k2⟩
    · obtain rfl : j = bs.length := by omega
      rw [show decide (((bs.length * H.length : Nat) : Int) < (xs.length : Int)) = false by simp only [decide_eq_false_iff_not]; omega]
      left
      refine ⟨(xs, es), [], rfl, by simpa using hW, fun b hb m hm => ?_⟩
      rw [List.append_nil] at hb
      obtain ⟨i, hi, rfl⟩ := List.mem_iff_getElem.1 hb
      exact hd i hi hi m hm
/-- A span that holds what its makers generate. -/
structure Span (xs ms : List O3) (es : ES) : Prop where
  grp : IsGrp ms xs
  keys : Keys xs es
  mck : ∀ m ∈ ms, m.ck = 0
  first : ∃ l, xs = O3.one :: l
theorem all_inv {l : List O3} (h : ∀ x ∈ l, x.ck = 0) : AllInv l := fun x hx => O3.inv_ck (h x hx)
theorem take_spec {xs ms : List O3} {es : ES} (hS : Span xs ms es) {o : O3} (ho : o.ck = 0) :
    (∃ r, outL (xs.length : Int) (ms ++ [o]) 193 0 xs es = some r ∧ Span r.1 (ms ++ [o]) r.2) ∨ (outL (xs.length : Int) (ms ++ [o]) 193 0 xs es = none ∧ Bad (ms ++ [o])) := by
  have hck : ∀ m ∈ ms ++ [o], m.ck = 0 := fun m hm => by
    rcases List.mem_append.1 hm with h | h
    · exact hS.mck m h
    · rw [List.mem_singleton] at h; subst h; exact ho
  have hi := all_inv hck
  have hg : ∀ h ∈ xs, Gen (ms ++ [o]) h := fun h hh => ((hS.grp.2.2.1 h).1 hh).mono hi fun x hx => Gen.of hi (List.mem_append_left _ hx)
  have hB : Base xs (ms ++ [o]) := ⟨hS.grp.grp (all_inv hS.mck), hg, hi, hck, hS.first⟩
  have h1 : xs.map O3.one.mul = xs := by
    conv => rhs; rw [← List.map_id xs]
    exact List.map_congr_left fun x hx => O3.one_mul (O3.inv_ck (hS.grp.2.2.2 x hx)).1
  have hW : Way xs (ms ++ [o]) [O3.one] xs es := by
    refine ⟨by unfold cosets; simp [h1], hS.keys, hS.grp.1, hS.grp.2.2.2, fun b hb => ?_, fun b hb => ?_, by simp, hS.grp.2.1⟩
    · rw [List.mem_singleton] at hb; subst hb; exact Gen.one
    · rw [List.mem_singleton] at hb; subst hb; exact O3.one_ck
  have := outL_spec hB 193 [O3.one] xs es hW 0 (by simp) rfl (by omega)
  rw [Nat.zero_mul] at this
  rcases this with ⟨r, bs, k1, k2, k3⟩ | ⟨k1, k2⟩
  · left
    refine ⟨r, k1, ⟨k2.nd, k2.len, fun g => ?_, k2.ck⟩, k2.keys, hck, ?_⟩
    · rw [k2.eq] at k3 ⊢
      exact cosets_all hi hB.grp k2.gen hg (by simp) k3 g
    · obtain ⟨l, hl⟩ := hS.first
      have := k2.head
      rw [hl] at this
      cases hr : r.1 with
      | nil => rw [hr] at this; simp at this
      | cons x l' =>
        rw [hr] at this
        simp only [List.length_cons, List.take_succ_cons, List.cons.injEq] at this
        exact ⟨l', by rw [this.1]⟩
  · right; exact ⟨k1, k2⟩
theorem Gen.app {xs : List O3} {ys : List O3} {g : O3} (hi : AllInv (xs ++ ys)) (h : Gen xs g) : Gen (xs ++ ys) g := h.mono hi fun _ hx => Gen.of hi (List.mem_append_left _ hx)
/-- Close's loop: the maps that are left, behind those that were taken. -/
theorem clL_spec : ∀ (l done xs ms : List O3) (es : ES), (∀ o ∈ done ++ l, o.ck = 0) → Span xs ms es → (∀ m ∈ ms, m ∈ done) → (∀ o ∈ done, o ∈ xs) →
    (∃ r, clL l xs ms es = some r ∧ IsGrp (done ++ l) r.1) ∨ (clL l xs ms es = none ∧ Bad (done ++ l))
  | [], done, xs, ms, es, hck, hS, hm, hd => by
    left
    rw [List.append_nil] at hck ⊢
    have hi := all_inv hck
    refine ⟨(xs, ms, es), rfl, hS.grp.1, hS.grp.2.1, fun g => ?_, hS.grp.2.2.2⟩
    rw [hS.grp.2.2.1]
    exact ⟨fun h => h.mono hi fun x hx => Gen.of hi (hm x hx), fun h => h.mono (all_inv hS.mck) fun x hx => (hS.grp.2.2.1 x).1 (hd x hx)⟩
  | o :: l, done, xs, ms, es, hck, hS, hm, hd => by
    simp only [clL]
    have ho : o.ck = 0 := hck o (by simp)
    have e : done ++ o :: l = (done ++ [o]) ++ l := by simp
    rw [e] at hck ⊢
    by_cases hh : mHas (key o) es = true
    · rw [hh]
      refine clL_spec l (done ++ [o]) xs ms es hck hS (fun m hx => List.mem_append_left _ (hm m hx)) fun x hx => ?_
      rcases List.mem_append.1 hx with h | h
      · exact hd x h
      · rw [List.mem_singleton] at h; subst h; exact (hS.keys _).1 hh
    · rw [Bool.not_eq_true] at hh
      rw [hh]
      simp only
      have hms : ∀ m ∈ ms ++ [o], m ∈ done ++ [o] := fun m hx => by
        rcases List.mem_append.1 hx with h | h
        · exact List.mem_append_left _ (hm m h)
        · exact List.mem_append_right _ h
      rcases take_spec hS ho with ⟨r, k1, k2⟩ | ⟨k1, k2⟩
      · rw [k1]
        simp only
        refine clL_spec l (done ++ [o]) r.1 (ms ++ [o]) r.2 hck k2 hms fun x hx => ?_
        have hi2 := all_inv k2.mck
        rw [k2.grp.2.2.1]
        rcases List.mem_append.1 hx with h | h
        · exact Gen.app hi2 ((hS.grp.2.2.1 x).1 (hd x h))
        · exact Gen.of hi2 (List.mem_append_right _ h)
      · right
        rw [k1]
        have hi := all_inv hck
        exact ⟨rfl, k2.mono hi fun x hx => Gen.of hi (List.mem_append_left _ (hms x hx))⟩
theorem span_one : Span [O3.one] [] [(key O3.one, 0)] := by
  refine ⟨⟨by simp, by simp, fun g => ?_, by simp [O3.one_ck]⟩, fun o => ?_, by simp, ⟨[], rfl⟩⟩
  · rw [List.mem_singleton]
    constructor
    · rintro rfl; exact Gen.one
    · intro h
      cases h with
      | one => rfl
      | step _ hx => simp at hx
  · simp only [mHas, List.mem_singleton]
    by_cases h : key O3.one = key o
    · simp [h, (key_inj h).symm]
    · have : ¬ o = O3.one := fun e => h (by rw [e])
      simp [h, this]
/-- What Close's loop comes to. -/
def clR (ls : List O3) : Option (List O3 × List O3 × ES) := clL ls [O3.one] [] [(key O3.one, 0)]
theorem clR_spec {ls : List O3} (h : ∀ o ∈ ls, o.ck = 0) : (∃ r, clR ls = some r ∧ IsGrp ls r.1) ∨ (clR ls = none ∧ Bad ls) :=
  clL_spec ls [] [O3.one] [] _ h span_one (by simp) (by simp)
end Go.Proofs.Ytggdbakgiknogaa


namespace Go.Proofs.Ytggdbakgiknogaa
open Go Vx
def sortF : List Value → Mem → Option (Ans (Value × Mem))
  | [.slice (some ⟨0, 0, some 0⟩) n 12, .func (.func 16) f c], [.rows true true 12 n2 row] => match f.toList, c.toList with
    | [], [] => some (.br (Nat.beq n n2 && (okOps n row && decide (n ≤ 1000))) (.out (.tuple #[], [.rows true true 12 n (opRow (sortO (opsOf n row)))])) .fail)
    | _, _ => none
  | _, _ => none
def Cso (P : Program) : Cx := (Cns P).addF 39 sortF
theorem okso : CxOk (Cso Try.prog) := Cx.addF_ok okns fun args m ans v m' h hr => by
  unfold sortF at h
  split at h
  rotate_left
  · cases h
  rename_i n f c n2 row
  split at h
  rotate_left
  · cases h
  rename_i hf hc0
  simp only [Option.some.injEq] at h
  subst h
  rcases Ans.br_some hr with ⟨hc, hr1⟩ | ⟨_, hr1⟩
  rotate_left
  · simp [Ans.res] at hr1
  clear hr
  simp only [Bool.and_eq_true, decide_eq_true_eq] at hc
  obtain ⟨c1, c2, c3⟩ := hc
  have c1 := beq_len c1
  subst c1
  simp only [Ans.res, Option.some.injEq, Prod.mk.injEq] at hr1
  obtain ⟨rfl, rfl⟩ := hr1
  have e1 : f = #[] := by cases f; simp_all
  have e2 : c = #[] := by cases c; simp_all
  subst e1
  subst e2
  have := sortSem (opsOf n row) (by rw [opsOf_length]; exact c3)
  rw [opsOf_length] at this
  exact this.like ⟨.rows (ops_like c2), trivial⟩
/-! The loop -/
def clD : Mem → Option (Bool × Nat × (Nat → List Value) × List Value × Nat × (Nat → List Value) × ES)
  | [.rows own true 12 N2 row, .cells true 0 cs, .rows true true 12 n2 row2, .mp true 12 es] => some (own, N2, row, cs, n2, row2, es)
  | _ => none
theorem clD_spec {m : Mem} {own : Bool} {N2 n2 : Nat} {row row2 : Nat → List Value} {cs : List Value} {es : ES} (h : clD m = some (own, N2, row, cs, n2, row2, es)) : m = [.rows own true 12 N2 row, .cells true 0 cs, .rows true true 12 n2 row2, .mp true 12 es] := by
  unfold clD at h
  split at h
  · simp only [Option.some.injEq, Prod.mk.injEq] at h
    obtain ⟨rfl, rfl, rfl, rfl, rfl, rfl, rfl⟩ := h
    rfl
  · cases h
def clT (N N2 n n2 : Nat) (row row2 : Nat → List Value) (L i : Int) : Bool := Nat.beq N N2 && (okOps N row && (Nat.beq n n2 && (okOps n row2 && (decide (L = (N : Int)) && (decide (0 = i) && (decide (1 ≤ n) && (decide (n ≤ 192) && decide (N ≤ 192))))))))
def emptyB : List O3 → Bool
  | [] => true
  | _ :: _ => false
def clG0 (ls xs : List O3) (es : ES) : List O3 × List O3 × ES := (clL ls xs [] es).getD ([], [], [])
def clS (st : St) : Option (Ans (Exit × St)) :=
  match Nat.beq st.tmps.length 34, tAt st 2, tAt st 3, tAt st 5, tAt st 14, tAt st 15, tAt st 16, clD (thaw (killV st.mem)) with
  | true, some (.slice none 0 0), some (.int .i64 0), some (.pointer (some ⟨1, 0, none⟩)), some (.slice (some ⟨0, 0, some 0⟩) N 12), some (.int .i64 L), some (.int .i64 i), some (own, N2, row, cs, n2, row2, es) =>
    match cs with
    | [.slice (some ⟨2, 0, some 0⟩) n 12, .map (some 3), .slice none 0 0] => some (.br (clT N N2 n n2 row row2 L i) (.br (clL (opsOf N row) (opsOf n row2) [] es).isSome
        (.br (emptyB (clG0 (opsOf N row) (opsOf n row2) es).2.1)
          (.out (.exit 0, stOf 34 [(2, .slice none 0 0), (3, vI 0), (5, .pointer (some ⟨1, 0, none⟩))] (clN own N (opsOf N row) (clG0 (opsOf N row) (opsOf n row2) es).1.length (clG0 (opsOf N row) (opsOf n row2) es).1 (clG0 (opsOf N row) (opsOf n row2) es).2.2)))
          (.out (.exit 0, stOf 34 [(2, .slice none 0 0), (3, vI 0), (5, .pointer (some ⟨1, 0, none⟩))] (clM own N (opsOf N row) (clG0 (opsOf N row) (opsOf n row2) es).1.length (clG0 (opsOf N row) (opsOf n row2) es).1 (clG0 (opsOf N row) (opsOf n row2) es).2.2 (clG0 (opsOf N row) (opsOf n row2) es).2.1.length (clG0 (opsOf N row) (opsOf n row2) es).2.1))))
        (.out (.ret, stOf 34 [(2, .slice none 0 0), (3, vI 5), (5, .pointer (some ⟨1, 0, none⟩))] (clX own N (opsOf N row))))) .fail)
    | _ => none
  | _, _, _, _, _, _, _, _ => none
theorem clK {st : St} {ans : Ans (Exit × St)} {e_ : Exit} {s_ : St} (h : clS st = some ans) (hr : ans.res = some (e_, s_)) : LoopSem Try.prog 1 (clX' Try.prog) st e_ s_ := by
  unfold clS at h
  split at h
  rotate_left
  · cases h
  rename_i N L i own N2 row cs n2 row2 es hb hs2 hs3 hs5 hs14 hs15 hs16 hD
  split at h
  rotate_left
  · cases h
  rename_i n
  simp only [Option.some.injEq] at h
  subst h
  rcases Ans.br_some hr with ⟨hc, hr1⟩ | ⟨_, hr1⟩
  rotate_left
  · simp [Ans.res] at hr1
  clear hr
  unfold clT at hc
  simp only [Bool.and_eq_true, decide_eq_true_eq] at hc
  obtain ⟨c1, c2, c3, c4, c5, c6, c7, c8, c9⟩ := hc
  have c1 := beq_len c1
  have c3 := beq_len c3
  subst c1
  subst c3
  subst c5
  subst c6
  have hmem := clD_spec hD
  have hI : clInv ⟨.e, own, N, opsOf N row, n, opsOf n row2, es, 0, [], 0⟩ := by
    unfold clInv
    simp only
    exact ⟨opsOf_length N row, c9, opsOf_length n row2, c7, c8, rfl, by omega, by omega, by omega, rfl⟩
  have key := clLp _ hI
  have hlike : LikeL (thaw (killV st.mem)) (clHg ⟨.e, own, N, opsOf N row, n, opsOf n row2, es, 0, [], 0⟩).mem := by
    rw [hmem]
    exact ⟨.rows (ops_like c2), .refl _, .rows (ops_like c4), .refl _, trivial⟩
  have key := LoopSem.like (tm := (clHg ⟨.e, own, N, opsOf N row, n, opsOf n row2, es, 0, [], 0⟩).tmps) (m := thaw (killV st.mem)) key hlike
  have key := LoopSem.fresh key
  have hk : keepL [2, 3, 5, 14, 15, 16] 0 st.tmps = (clHg ⟨.e, own, N, opsOf N row, n, opsOf n row2, es, 0, [], 0⟩).tmps := by
    have := keep_eq [(2, .slice none 0 0), (3, vI 0), (5, .pointer (some ⟨1, 0, none⟩)), (14, .slice (some ⟨0, 0, some 0⟩) N 12), (15, vI N), (16, vI 0)] st.tmps 0 (by
      intro x hx _
      simp only [List.mem_cons, List.not_mem_nil, or_false] at hx
      rcases hx with rfl | rfl | rfl | rfl | rfl | rfl
      · exact hs2
      · exact hs3
      · exact hs5
      · exact hs14
      · exact hs15
      · exact hs16)
    rw [show (keepL [2, 3, 5, 14, 15, 16] 0 st.tmps) = _ from this, beq_len hb]
    rfl
  rw [← hk] at key
  have key : LoopSem Try.prog 1 (clX' Try.prog) st _ _ := LoopSem.clean (mask := [2, 3, 5, 14, 15, 16]) key
  unfold clO at key
  simp only [Int.toNat_zero, List.drop_zero] at key
  rcases Ans.br_some hr1 with ⟨hq, hr2⟩ | ⟨hq, hr2⟩
  · obtain ⟨r, hr'⟩ := Option.isSome_iff_exists.1 hq
    have hmr : clG0 (opsOf N row) (opsOf n row2) es = r := by unfold clG0; rw [hr']; rfl
    rw [hmr] at hr2
    rw [hr'] at key
    simp only at key
    rcases Ans.br_some hr2 with ⟨hq2, hr3⟩ | ⟨hq2, hr3⟩
    · simp only [Ans.res, Option.some.injEq, Prod.mk.injEq] at hr3
      obtain ⟨rfl, rfl⟩ := hr3
      cases hms : r.2.1 with
      | nil => rw [hms] at key; exact key
      | cons m l => rw [hms] at hq2; cases hq2
    · simp only [Ans.res, Option.some.injEq, Prod.mk.injEq] at hr3
      obtain ⟨rfl, rfl⟩ := hr3
      cases hms : r.2.1 with
      | nil => rw [hms] at hq2; cases hq2
      | cons m l => rw [hms] at key; exact key
  · have hn : clL (opsOf N row) (opsOf n row2) [] es = none := by
      cases hm : clL (opsOf N row) (opsOf n row2) [] es with
      | none => rfl
      | some r => rw [hm] at hq; cases hq
    rw [hn] at key
    simp only [Ans.res, Option.some.injEq, Prod.mk.injEq] at hr2
    obtain ⟨rfl, rfl⟩ := hr2
    exact key
def Ccl (P : Program) : Cx := (Cso P).addLB 12 6 1 clS
theorem okcl : CxOk (Ccl Try.prog) := Cx.addLB_ok okso clX_eq fun _ _ _ _ h hr => clK h hr
end Go.Proofs.Ytggdbakgiknogaa


namespace Go.Proofs.Ytggdbakgiknogaa
open Go Vx
def es1 : ES := [(key O3.one, 0)]
def nilE (e : Int) : Value := .tuple #[.slice none 0 0, vI e]
def slE (n : Nat) : Value := .tuple #[.slice (some ⟨1, 0, some 0⟩) n 12, vI 0]
def sortT (n : Nat) (row : Nat → List Value) : Bool := Nat.beq n n && (okOps n row && decide (n ≤ 1000))
def clsEnd (own : Bool) (N : Nat) (ls xs : List O3) (n : Nat) : Option (Value × Mem) := gd (sortT n (opRow xs)) (some (slE n, [.rows own true 12 N (opRow ls), .rows true true 12 n (opRow (sortO (opsOf n (opRow xs))))]))
def clsMid (own : Bool) (N : Nat) (ls2 : List O3) (x1 : List O3) : Option (Value × Mem) := match (clL ls2 x1 [] es1).isSome with
  | true => match emptyB (clG0 ls2 x1 es1).2.1 with
    | true => clsEnd own N ls2 (clG0 ls2 x1 es1).1 (clG0 ls2 x1 es1).1.length
    | false => clsEnd own N ls2 (clG0 ls2 x1 es1).1 (clG0 ls2 x1 es1).1.length
  | false => some (nilE 5, [.rows own true 12 N (opRow ls2), .no])
theorem clsR (own : Bool) (N : Nat) (ls : List O3) : exT ((Ccl Try.prog).at 12) 60 Try.f12 [.slice (some ⟨0, 0, some 0⟩) N 12] [.rows own true 12 N (opRow ls)] [.fix 0, .slot 0] =
    gd (Nat.beq N N && okOps N (opRow ls)) (match ckMaps (opsOf N (opRow ls)) != 0 with
      | true => some (nilE (ckMaps (opsOf N (opRow ls))), [.rows own true 12 N (opRow (opsOf N (opRow ls))), .no])
      | false => gd (clT N N 1 1 (opRow (opsOf N (opRow ls))) (opRow [O3.one]) N 0) (clsMid own N (opsOf N (opRow (opsOf N (opRow ls)))) (opsOf 1 (opRow [O3.one])))) := by kernel_rfl
theorem clsR0 : exT ((Ccl Try.prog).at 12) 60 Try.f12 [.slice none 0 0] [] [.slot 0] = some (.tuple #[.slice (some ⟨0, 0, some 0⟩) 1 12, vI 0], [.rows true true 12 1 (opRow (sortO [O3.one]))]) := by kernel_rfl
/-- What Close answers. -/
def clsOk (ls : List O3) : Bool := (ckMaps ls == 0) && (clR ls).isSome
def clsG (ls : List O3) : List O3 := sortO (clG0 ls [O3.one] es1).1
def clsErr (ls : List O3) : Int := bif ckMaps ls == 0 then 5 else ckMaps ls
theorem leastL_zero : ∀ {l : List O3} {e : Int}, leastL l e = 0 → e = 0 ∧ ∀ o ∈ l, o.ck = 0
  | [], e, h => ⟨h, by simp⟩
  | o :: l, e, h => by
    obtain ⟨h1, h2⟩ := leastL_zero (l := l) h
    have h3 : e = 0 ∧ o.ck = 0 := by
      unfold leastN at h1
      by_cases he : e = 0
      · subst he; exact ⟨rfl, by simpa using h1⟩
      · rw [(bif_beq he).1] at h1
        by_cases ho : o.ck = 0
        · rw [ho] at h1; simp at h1; exact absurd h1 he
        · rw [(bif_beq ho).2] at h1
          simp only at h1
          cases hd : decide (o.ck < e) with
          | true => rw [hd] at h1; exact absurd h1 ho
          | false => rw [hd] at h1; exact absurd h1 he
    refine ⟨h3.1, fun x hx => ?_⟩
    rcases List.mem_cons.1 hx with rfl | hx
    · exact h3.2
    · exact h2 x hx
theorem ckMaps_zero {ls : List O3} (h : ckMaps ls = 0) : ls.length ≤ 192 ∧ ∀ o ∈ ls, o.ck = 0 := by
  unfold ckMaps at h
  split at h
  · cases h
  · exact ⟨by omega, (leastL_zero h).2⟩
/-- A group in order, out of what was found. -/
theorem clsOk_spec {ls : List O3} (h : clsOk ls = true) : ls.length ≤ 192 ∧ (∀ o ∈ ls, o.ck = 0) ∧ IsGrp ls (clG0 ls [O3.one] es1).1 := by
  unfold clsOk at h
  rw [Bool.and_eq_true, beq_iff_eq] at h
  obtain ⟨h1, h2⟩ := ckMaps_zero h.1
  refine ⟨h1, h2, ?_⟩
  rcases clR_spec h2 with ⟨r, k1, k2⟩ | ⟨k1, _⟩
  · have e : clG0 ls [O3.one] es1 = r := by unfold clG0; rw [show clL ls [O3.one] [] es1 = some r from k1]; rfl
    rw [e]; exact k2
  · rw [k1] at h; cases h.2
theorem clsOk_len {ls : List O3} (h : clsOk ls = true) : (clsG ls).length ≤ 192 := by
  unfold clsG
  rw [sortO_len]
  exact (clsOk_spec h).2.2.2.1
def clsF : List Value → Mem → Option (Ans (Value × Mem))
  | [.slice none 0 0], [] => some (.out (.tuple #[.slice (some ⟨0, 0, some 0⟩) 1 12, vI 0], [.rows true true 12 1 (opRow [O3.one])]))
  | [.slice (some ⟨0, 0, some 0⟩) N 12], [.rows own true 12 N2 row] => some (.br (Nat.beq N N2 && okOps N row) (.br (clsOk (opsOf N row)) (.out (slE (clsG (opsOf N row)).length, [.rows own true 12 N (opRow (opsOf N row)), .rows true true 12 (clsG (opsOf N row)).length (opRow (clsG (opsOf N row)))])) (.out (nilE (clsErr (opsOf N row)), [.rows own true 12 N (opRow (opsOf N row)), .no]))) .fail)
  | _, _ => none
def Ccs (P : Program) : Cx := (Ccl P).addF 12 clsF
theorem okcs : CxOk (Ccs Try.prog) := Cx.addF_ok okcl fun args m ans v m' h hr => by
  unfold clsF at h
  split at h
  · simp only [Option.some.injEq] at h
    subst h
    simp only [Ans.res, Option.some.injEq, Prod.mk.injEq] at hr
    obtain ⟨rfl, rfl⟩ := hr
    exact exT_ok okcl Try.func12 (by kernel_rfl) clsR0
  · rename_i N own N2 row
    simp only [Option.some.injEq] at h
    subst h
    rcases Ans.br_some hr with ⟨hc, hr1⟩ | ⟨_, hr1⟩
    rotate_left
    · simp [Ans.res] at hr1
    clear hr
    simp only [Bool.and_eq_true] at hc
    obtain ⟨c1, c2⟩ := hc
    have c1 := beq_len c1
    subst c1
    have hl := opsOf_length N row
    have hE := clsR own N (opsOf N row)
    rw [opsOf_row hl, opsOf_row hl, okOps_opRow, Nat.beq_refl] at hE
    simp only [Bool.and_self, gd_true] at hE
    have sem : ∀ {v : Value} {m' : Mem}, exT ((Ccl Try.prog).at 12) 60 Try.f12 [.slice (some ⟨0, 0, some 0⟩) N 12] [.rows own true 12 N (opRow (opsOf N row))] [.fix 0, .slot 0] = some (v, m') → MemSem Try.prog 12 [.slice (some ⟨0, 0, some 0⟩) N 12] [.rows own true 12 N row] v m' := fun hh => (exT_ok okcl Try.func12 (by kernel_rfl) hh).like ⟨.rows (ops_like c2), trivial⟩
    generalize opsOf N row = ls at hl hE hr1 sem
    by_cases h0 : ckMaps ls = 0
    · obtain ⟨k1, k2⟩ := ckMaps_zero h0
      have ht : clT N N 1 1 (opRow ls) (opRow [O3.one]) N 0 = true := by
        unfold clT
        rw [Nat.beq_refl, okOps_opRow, okOps_opRow, show Nat.beq 1 1 = true from rfl]
        simp; omega
      rw [h0, ht] at hE
      simp only [bne_self_eq_false, gd_true, show opsOf 1 (opRow [O3.one]) = [O3.one] from rfl] at hE
      unfold clsMid at hE
      rcases Ans.br_some hr1 with ⟨hq, hr2⟩ | ⟨hq, hr2⟩
      · have hlen := clsOk_len hq
        have hsome : (clL ls [O3.one] [] es1).isSome = true := by
          unfold clsOk at hq
          rw [Bool.and_eq_true] at hq
          exact hq.2
        rw [hsome] at hE
        have hlen' : (clG0 ls [O3.one] es1).1.length ≤ 192 := (clsOk_spec hq).2.2.2.1
        have hend : clsEnd own N ls (clG0 ls [O3.one] es1).1 (clG0 ls [O3.one] es1).1.length = some (slE (clsG ls).length, [.rows own true 12 N (opRow ls), .rows true true 12 (clsG ls).length (opRow (clsG ls))]) := by
          unfold clsEnd sortT
          rw [Nat.beq_refl, okOps_opRow, opsOf_row rfl, show decide ((clG0 ls [O3.one] es1).1.length ≤ 1000) = true by simp; omega]
          unfold clsG
          rw [sortO_len]
          rfl
        rw [hend] at hE
        simp only [Ans.res, Option.some.injEq, Prod.mk.injEq] at hr2
        obtain ⟨rfl, rfl⟩ := hr2
        refine sem ?_
        rw [hE]
        cases emptyB (clG0 ls [O3.one] es1).2.1 <;> rfl
      · have hnone : (clL ls [O3.one] [] es1).isSome = false := by
          unfold clsOk at hq
          rw [h0] at hq
          have hq2 : (clR ls).isSome = false := by simpa using hq
          exact hq2
        rw [hnone] at hE
        simp only [Ans.res, Option.some.injEq, Prod.mk.injEq] at hr2
        obtain ⟨rfl, rfl⟩ := hr2
        refine sem ?_
        rw [hE]
        unfold clsErr
        rw [h0]; rfl
    · rw [(bif_beq h0).2] at hE
      rcases Ans.br_some hr1 with ⟨hq, hr2⟩ | ⟨hq, hr2⟩
      · unfold clsOk at hq
        rw [(bif_beq h0).1] at hq
        cases hq
      · simp only [Ans.res, Option.some.injEq, Prod.mk.injEq] at hr2
        obtain ⟨rfl, rfl⟩ := hr2
        refine sem ?_
        rw [hE]
        unfold clsErr
        rw [(bif_beq h0).1]; rfl
  · cases h
end Go.Proofs.Ytggdbakgiknogaa


namespace Go.Proofs.Ytggdbakgiknogaa.Vx
open Go Go.RowKit

def shiftR (i : Nat) (row : Nat → List Value) : Nat → List Value := match i with
  | 0 => row
  | i + 1 => fun j => row (i + 1 + j)
theorem shiftR_at (i : Nat) (row : Nat → List Value) (j : Nat) : shiftR i row j = row (i + j) := by cases i <;> simp [shiftR]
/-- Rows that can be lent. -/
def rowsAt : Option Blk → Option (Nat × Nat × (Nat → List Value))
  | some (.rows _ true e n row) => some (e, n, row)
  | some (.grow true e n row) => some (e, n, row)
  | _ => none
def sliceAt : Value → Option (Nat × Nat × Nat × Nat)
  | .slice (some a) n e => match a.off, a.spot with
    | 0, some i => some (a.block, i, n, e)
    | _, _ => none
  | _ => none
/-- Each slice that is handed in is a block of its own, which is only read. -/
def lendA (m : Mem) : List Value → Nat → Option (List Value × Mem × Bool)
  | [], _ => some ([], [], true)
  | v :: l, k => match sliceAt v with
    | some (b, i, n, e) => match rowsAt m[b]? with
      | some (e2, n2, row) => match Nat.beq e2 e with
        | true => match lendA m l (k + 1) with
          | some (ags, ms, c) => some (.slice (some ⟨k, 0, some 0⟩) n e :: ags, .rows false true e n (shiftR i row) :: ms, Nat.ble (i + n) n2 && c)
          | none => none
        | false => none
      | none => none
    | none => match plain v with
      | true => match lendA m l k with
        | some (ags, ms, c) => some (v :: ags, ms, c)
        | none => none
      | false => none
theorem sliceAt_spec {v : Value} {b i n e : Nat} (h : sliceAt v = some (b, i, n, e)) : v = .slice (some ⟨b, 0, some i⟩) n e := by
  cases v with
  | slice a n2 e2 =>
    cases a with
    | none => cases h
    | some a =>
      obtain ⟨b2, off, spot⟩ := a
      cases off with
      | succ o => cases h
      | zero =>
        cases spot with
        | none => cases h
        | some j =>
          simp only [sliceAt, Option.some.injEq, Prod.mk.injEq] at h
          obtain ⟨rfl, rfl, rfl, rfl⟩ := h
          rfl
  | _ => cases h
theorem rowsAt_rel {w : World} {r : Ren} {p : Place} {kk : Blk} {e n : Nat} {row : Nat → List Value} (hb : BlkRel w r p kk) (h : rowsAt (some kk) = some (e, n, row)) :
    p.esz = e ∧ p.n = n ∧ (∀ i, i < n → allL plain0 (row i) = true) ∧ ∃ cs T fz, w.heap[p.blk]? = some (.cells cs T fz) ∧ ∀ i, i < n → (row i).length = e ∧ CellsAt r cs (p.off + i * e) (row i) := by
  cases kk with
  | rows own pl e2 n2 row2 =>
    cases pl with
    | false => cases h
    | true =>
      simp only [rowsAt, Option.some.injEq, Prod.mk.injEq] at h
      obtain ⟨rfl, rfl, rfl⟩ := h
      obtain ⟨h1, h2, h0, hp, cs, T, fz, h6, h3, h4, h5⟩ := hb
      exact ⟨h2, h0, hp rfl, cs, T, fz, h3, h5⟩
  | grow pl e2 n2 row2 =>
    cases pl with
    | false => cases h
    | true =>
      simp only [rowsAt, Option.some.injEq, Prod.mk.injEq] at h
      obtain ⟨rfl, rfl, rfl⟩ := h
      obtain ⟨h1, h2, h0, hp, cs, T, fz, h3, h4, h5⟩ := hb
      exact ⟨h2, h0, hp rfl, cs, T, fz, h3, h5⟩
  | _ => cases h
theorem lend_ok {w0 w : World} {keep : Keep} {r : Ren} {m : Mem} (hm : MemRel w0 keep r m w) : ∀ (args : List Value) (k : Nat) {ags : List Value} {ms : Mem} {c : Bool} {args' : List Value}, lendA m args k = some (ags, ms, c) → c = true → RL (R r) args args' →
    ∃ ps : List Place, ps.length = ms.length ∧ (∀ (rl : Ren), (∀ (i : Nat) p, ps[i]? = some p → rl (k + i) = some (some p)) → RL (R rl) ags args') ∧ ∀ (i : Nat) p, ps[i]? = some p → p.own = false ∧ p.room = 0 ∧ (∃ b q, r b = some (some q) ∧ q.blk = p.blk) ∧ ∃ kk, ms[i]? = some kk ∧ ∀ rl : Ren, BlkRel w rl p kk
  | [], k, ags, ms, c, args', h, hc, ha => by
    simp only [lendA, Option.some.injEq, Prod.mk.injEq] at h
    obtain ⟨rfl, rfl, -⟩ := h
    exact ⟨[], rfl, fun _ _ => by cases args' with | nil => trivial | cons => exact ha.elim, fun i p hp => by simp at hp⟩
  | v :: l, k, ags, ms, c, [], h, hc, ha => ha.elim
  | v :: l, k, ags, ms, c, v' :: l', h, hc, ha => by
    simp only [lendA] at h
    split at h
    · rename_i b i n e hv
      have hv := sliceAt_spec hv
      subst hv
      split at h
      · rename_i e2 n2 row hrow
        split at h
        · rename_i he
          have he := Nat.eq_of_beq_eq_true he
          subst he
          split at h
          · rename_i ags1 ms1 c1 hl
            simp only [Option.some.injEq, Prod.mk.injEq] at h
            obtain ⟨rfl, rfl, rfl⟩ := h
            rw [Bool.and_eq_true] at hc
            obtain ⟨ps, h1, h2, h3⟩ := lend_ok hm l (k + 1) hl hc.2 ha.2
            have hle : i + n ≤ n2 := Nat.le_of_ble_eq_true hc.1
            have hv : R0 r (.slice (some ⟨b, 0, some i⟩) n e2) v' := ha.1
            unfold R0 at hv
            simp only at hv
            cases hr : r b with
            | none => rw [hr] at hv; exact hv.elim
            | some q =>
              cases q with
              | none =>
                rw [hm.dead b hr] at hrow
                cases hrow
              | some p =>
                rw [hr] at hv
                simp only at hv
                obtain ⟨cc, rfl, s1, s2, s3, s4, s5⟩ := hv
                obtain ⟨kk, hkb, hrel⟩ := hm.blk b p hr
                rw [hkb] at hrow
                obtain ⟨q1, q2, q3, cs, T, fz, q4, q5⟩ := rowsAt_rel hrel hrow
                refine ⟨⟨p.blk, p.off + i * e2, e2, n, 0, false⟩ :: ps, by simp [h1], fun rl hrl => ⟨?_, h2 rl fun j q hq => ?_⟩, fun j q hq => ?_⟩
                · have := hrl 0 _ rfl
                  simp only [Nat.add_zero] at this
                  have hg : R0 rl (.slice (some ⟨k, 0, some 0⟩) n e2) (.slice (some (p.addr ⟨b, 0, some i⟩)) n cc) := by
                    unfold R0
                    simp only [this]
                    refine ⟨cc, by simp [Place.addr, q1], s1, fun j hj => ?_, fun _ => rfl, fun _ => rfl, fun h => by cases h⟩
                    simp only [Option.some.injEq] at hj
                    subst hj
                    simp
                  exact hg
                · have := hrl (j + 1) q (by simpa using hq)
                  rw [← this]; congr 1; omega
                · cases j with
                  | zero =>
                    simp only [List.getElem?_cons_zero, Option.some.injEq] at hq
                    subst hq
                    refine ⟨rfl, rfl, ⟨b, p, hr, rfl⟩, _, rfl, fun rl => ⟨rfl, rfl, rfl, fun _ j hj => ?_, cs, T, fz, fun _ => rfl, q4, (fun h => by cases h), fun j hj => ?_⟩⟩
                    · rw [shiftR_at]; exact q3 _ (by omega)
                    · rw [shiftR_at]
                      refine ⟨(q5 _ (by omega)).1, fun t u hu => ?_⟩
                      have hpu := allL_iff.1 (q3 (i + j) (by omega)) u (List.mem_of_getElem? hu)
                      obtain ⟨u', g1, g2⟩ := (q5 (i + j) (by omega)).2 t u hu
                      refine ⟨u', ?_, (R0_plain hpu).2 ((R0_plain hpu).1 g2)⟩
                      simp only
                      rw [Nat.add_assoc p.off, ← Nat.add_mul]
                      exact g1
                  | succ j =>
                    simp only [List.getElem?_cons_succ] at hq ⊢
                    exact h3 j q hq
          · cases h
        · cases h
      · cases h
    · split at h
      · rename_i hp
        split at h
        · rename_i ags1 ms1 c1 hl
          simp only [Option.some.injEq, Prod.mk.injEq] at h
          obtain ⟨rfl, rfl, rfl⟩ := h
          obtain ⟨ps, h1, h2, h3⟩ := lend_ok hm l k hl hc ha.2
          exact ⟨ps, h1, fun rl hrl => ⟨(R_plain hp).2 ((R_plain hp).1 ha.1), h2 rl hrl⟩, h3⟩
        · cases h
      · cases h

def ownB : Blk → Bool
  | .cells own _ _ => own
  | .rows own _ _ _ _ => own
  | .view .. => false
  | _ => true
theorem ownB_own {w : World} {r : Ren} {p : Place} {k : Blk} (h : BlkRel w r p k) (ho : ownB k = true) : p.own = true := by
  cases k with
  | cells own e c => simp only [ownB] at ho; rw [h.1, ho]
  | rows own pl e n row => simp only [ownB] at ho; rw [h.1, ho]
  | grow pl e n row => exact h.1
  | view pl e n row => cases ho
  | iter s pos => exact h.1
  | mp u n es => exact h.1
  | no => exact h.elim
  | gone => exact h.elim
/-- What is made beside what is there. -/
theorem MemRel.join {w0 w w' : World} {keep kp : Keep} {r rn : Ren} {m mn : Mem} (hm : MemRel w0 keep r m w) (g : MemRel w kp rn mn w') (hk : ∀ j, keep j → kp j) (ho : ∀ b p, r b = some (some p) → kp p.blk) (hown : allB ownB mn = true) :
    MemRel w0 keep (r.back rn [] m.length) (m ++ mapB (unrB [] m.length) mn) w' ∧ Ext r (r.back rn [] m.length) := by
  have hlo : ∀ {b : Nat}, b < m.length → (r.back rn [] m.length) b = r b := fun {b} hb => by simp [Ren.back, idxN, hb]
  have hhi : ∀ {b : Nat}, ¬ b < m.length → (r.back rn [] m.length) b = rn (b - m.length) := fun {b} hb => by simp [Ren.back, idxN, hb]
  have mlo : ∀ {b : Nat}, b < m.length → (m ++ mapB (unrB [] m.length) mn)[b]? = m[b]? := fun {b} hb => List.getElem?_append_left hb
  have mhi : ∀ {b : Nat}, ¬ b < m.length → (m ++ mapB (unrB [] m.length) mn)[b]? = (mn[b - m.length]?).map (unrB [] m.length) := fun {b} hb => by
    rw [List.getElem?_append_right (by omega), mapB_get]
  have newO : ∀ {b : Nat} {p : Place}, rn b = some (some p) → p.own = true := fun {b p} hb => by
    obtain ⟨k, h1, h2⟩ := g.blk b p hb
    exact ownB_own h2 (allB_iff.1 hown k (List.mem_of_getElem? h1))
  have hext : Ext r (r.back rn [] m.length) := fun b => by
    by_cases hb : b < m.length
    · exact Or.inr (Or.inl (hlo hb))
    · exact Or.inl (hm.none b (Or.inl (List.getElem?_eq_none (by omega))))
  refine ⟨⟨g.os.trans hm.os, g.tape.trans hm.tape, g.output.trans hm.output, Nat.le_trans hm.drawn g.drawn, Nat.le_trans hm.size g.size, hm.klt, fun j hj => (g.kept j (hk j hj)).trans (hm.kept j hj), fun b hb => ?_, fun b hb => ?_, fun b p hb => ?_, fun b p hb hp => ?_, fun b p hb hp hz => ?_, fun b p hb hp hz => ?_, fun b c p q hb hc hp hz => ?_, fun b c p q hb hc hp hq he => ?_⟩, hext⟩
  · by_cases hl : b < m.length
    · rw [hlo hl]; rw [mlo hl] at hb; exact hm.none b hb
    · rw [hhi hl]
      rw [mhi hl] at hb
      refine g.none _ ?_
      cases hx : mn[b - m.length]? with
      | none => exact Or.inl rfl
      | some k =>
        rw [hx] at hb
        simp only [Option.map_some, Option.some.injEq, reduceCtorEq, false_or] at hb
        exact Or.inr (by rw [unrB_no.1 hb])
  · by_cases hl : b < m.length
    · rw [hlo hl] at hb; rw [mlo hl]; exact hm.dead b hb
    · rw [hhi hl] at hb
      rw [mhi hl, g.dead _ hb]
      rfl
  · by_cases hl : b < m.length
    · rw [hlo hl] at hb
      rw [mlo hl]
      obtain ⟨k, h1, h2⟩ := hm.blk b p hb
      exact ⟨k, h1, h2.mono (g.kept _ (ho b p hb)) hext⟩
    · rw [hhi hl] at hb
      rw [mhi hl]
      obtain ⟨k, h1, h2⟩ := g.blk _ p hb
      exact ⟨_, by rw [h1]; rfl, BlkRel_back (r := r) (ks := []) rfl rfl h2⟩
  · by_cases hl : b < m.length
    · rw [hlo hl] at hb; exact hm.own b p hb hp
    · rw [hhi hl] at hb; exact fun hk2 => g.own _ p hb hp (hk _ hk2)
  · by_cases hl : b < m.length
    · rw [hlo hl] at hb; exact hm.read b p hb hp hz
    · rw [hhi hl] at hb; rw [newO hb] at hp; cases hp
  · by_cases hl : b < m.length
    · rw [hlo hl] at hb; exact hm.vw b p hb hp hz
    · rw [hhi hl] at hb; rw [newO hb] at hp; cases hp
  · intro hq he
    by_cases hl : b < m.length
    · rw [hlo hl] at hb
      by_cases hl2 : c < m.length
      · rw [hlo hl2] at hc; rw [mlo hl2]; exact hm.sep b c p q hb hc hp hz hq he
      · rw [hhi hl2] at hc
        exact absurd (he ▸ ho b p hb) (g.own _ q hc hq)
    · rw [hhi hl] at hb; rw [newO hb] at hp; cases hp
  · by_cases hl : b < m.length
    · rw [hlo hl] at hb
      by_cases hl2 : c < m.length
      · rw [hlo hl2] at hc; exact hm.inj b c p q hb hc hp hq he
      · rw [hhi hl2] at hc
        exact absurd (he ▸ ho b p hb) (g.own _ q hc hq)
    · rw [hhi hl] at hb
      by_cases hl2 : c < m.length
      · rw [hlo hl2] at hc
        exact absurd (he ▸ ho c q hc) (g.own _ p hb hp)
      · rw [hhi hl2] at hc
        have := g.inj _ _ p q hb hc hp hq he
        omega

def fromN (k : Nat) : Nat → List Nat
  | 0 => []
  | n + 1 => k :: fromN (k + 1) n
def lendG (S : List Value → Mem → Option (Ans (Value × Mem))) (args : List Value) (m : Mem) : Option (Ans (Value × Mem)) := match lendA m args 0 with
  | some (ags, ms, c) => forceL ags fun ags => forceM ms fun ms => match S ags ms with
    | some ans => some (.br c (ans.bind fun vm => forceN (fromN ms.length (vm.2.length - ms.length)) fun ks => match noDup ks && allB noViewB m with
      | true => forceM (renM ks vm.2 ks) fun mn => match allB ownB mn with
        | true => .out (unrV [] m.length (renV ks vm.1), m ++ mapB (unrB [] m.length) mn)
        | false => .fail
      | false => .fail) .fail)
    | none => none
  | none => none
/-- A call that is lent what it reads: what was there is as it was. -/
theorem lend_call {P : Program} {f : FuncId} {args ags : List Value} {m ms mu : Mem} {c : Bool} {u : Value} (hA : lendA m args 0 = some (ags, ms, c)) (hc : c = true) (hS : MemSem P f ags ms u mu) {w0 : World} {keep : Keep} {r : Ren} {args' : List Value} {w : World} (hargs : RL (R r) args args') (hm : MemRel w0 keep r m w) {Q : Ending → World → Prop}
    (hQ : ∀ v' rs w' (kp : Keep), R rs u v' → MemRel w kp rs mu w' → (∀ j, keep j → kp j) → (∀ b p, r b = some (some p) → kp p.blk) → Q (.returned v') w') : Calls P f args'.toArray w Q := by
  obtain ⟨ps, hl, hR, hB⟩ := lend_ok hm args 0 hA hc hargs
  let rl : Ren := fun i => (ps[i]?).map some
  let K : Nat → Prop := fun j => keep j ∨ ∃ b p, r b = some (some p) ∧ p.blk = j
  let kp : Keep := ⟨K, K, fun _ h => h⟩
  have hrl : ∀ {i : Nat} {p : Place}, rl i = some (some p) → ps[i]? = some p := fun {i p} hi => by
    simp only [rl] at hi
    cases hx : ps[i]? with
    | none => rw [hx] at hi; cases hi
    | some q => rw [hx] at hi; simpa using hi
  have hsm : MemRel w kp rl ms w := by
    refine ⟨rfl, rfl, rfl, Nat.le_refl _, Nat.le_refl _, fun j hj => ?_, fun _ _ => rfl, fun b hb => ?_, fun b hb => ?_, fun b p hb => ?_, fun b p hb hp => ?_, fun b p hb hp hz => ?_, fun b p hb hp hz => ?_, fun b c p q hb hc hp hz => ?_, fun b c p q hb hc hp hq he => ?_⟩
    · rcases hj with hj | ⟨b, p, hb, rfl⟩
      · have := hm.klt j hj; have := hm.size; omega
      · obtain ⟨k, _, hk⟩ := hm.blk b p hb
        exact hk.lt
    · simp only [rl]
      cases hx : ps[b]? with
      | none => rfl
      | some p =>
        obtain ⟨_, _, _, kk, h5, h6⟩ := hB b p hx
        rw [h5] at hb
        rcases hb with hb | hb
        · cases hb
        · simp only [Option.some.injEq] at hb
          subst hb
          exact ((h6 rl) : False).elim
    · simp only [rl] at hb
      cases hx : ps[b]? with
      | none => rw [hx] at hb; cases hb
      | some p => rw [hx] at hb; cases hb
    · obtain ⟨_, _, _, kk, h5, h6⟩ := hB b p (hrl hb)
      exact ⟨kk, h5, h6 rl⟩
    · rw [(hB b p (hrl hb)).1] at hp; cases hp
    · exact Or.inr (hB b p (hrl hb)).2.2.1
    · exact absurd (hB b p (hrl hb)).2.1 hz
    · exact absurd (hB b p (hrl hb)).2.1 hz
    · rw [(hB b p (hrl hb)).1] at hp; cases hp
  refine (hS.2 w kp rl args' w (hR rl fun i p hp => by simp only [Nat.zero_add, rl, hp]; rfl) hsm).mono ?_
  rintro e w' ⟨v', rs, rfl, g1, g2, g3⟩
  exact hQ v' rs w' kp g1 g2 (fun j hj => Or.inl hj) (fun b p hb => Or.inr ⟨b, p, hb, rfl⟩)
theorem lendG_ok {P : Program} {f : FuncId} {S : List Value → Mem → Option (Ans (Value × Mem))} (h : ∀ args m ans v m', S args m = some ans → ans.res = some (v, m') → MemSem P f args m v m') {args : List Value} {m m' : Mem} {ans : Ans (Value × Mem)} {v : Value}
    (ha : lendG S args m = some ans) (hr : ans.res = some (v, m')) : MemSem P f args m v m' := by
  unfold lendG at ha
  split at ha
  rotate_left
  · cases ha
  rename_i ags ms c hA
  rw [forceL_eq, forceM_eq] at ha
  split at ha
  rotate_left
  · cases ha
  rename_i ans0 hS
  simp only [Option.some.injEq] at ha
  subst ha
  rcases Ans.br_some hr with ⟨hc, hr⟩ | ⟨_, hr⟩
  rotate_left
  · simp [Ans.res] at hr
  obtain ⟨⟨u, mu⟩, h1, h2⟩ := Ans.bind_some hr
  simp only at h2
  rw [forceN_eq] at h2
  split at h2
  rotate_left
  · simp [Ans.res] at h2
  rename_i hb
  rw [Bool.and_eq_true] at hb
  rw [forceM_eq] at h2
  split at h2
  rotate_left
  · simp [Ans.res] at h2
  rename_i hown
  simp only [Ans.res, Option.some.injEq, Prod.mk.injEq] at h2
  obtain ⟨rfl, rfl⟩ := h2
  have hS := h _ _ _ _ _ hS h1
  refine ⟨hS.1, fun w0 keep r args' w hargs hm => lend_call hA hc hS hargs hm fun v' rs w' kp g1 g2 k1 k2 => ?_⟩
  obtain ⟨j1, j2⟩ := MemRel.join hm (MemRel_via g2 hb.1) k1 k2 hown
  exact ⟨v', _, rfl, R_back (r := r) (ks := []) rfl rfl (R_via (ks := fromN ms.length (mu.length - ms.length)) g1), j1, j2⟩
def lendF (S : List Value → Mem → Option (Ans (Value × Mem))) (args : List Value) (m : Mem) : Option (Ans (Value × Mem)) := forceM (thaw (killV m)) fun m => lendG S args m
theorem lendF_ok {P : Program} {f : FuncId} {S : List Value → Mem → Option (Ans (Value × Mem))} (h : ∀ args m ans v m', S args m = some ans → ans.res = some (v, m') → MemSem P f args m v m') {args : List Value} {m m' : Mem} {ans : Ans (Value × Mem)} {v : Value}
    (ha : lendF S args m = some ans) (hr : ans.res = some (v, m')) : MemSem P f args m v m' := by
  unfold lendF at ha
  rw [forceM_eq] at ha
  exact (lendG_ok h ha hr).fresh
/-- A function that reads what it is handed, and makes what it answers. -/
def Cx.addE (C : Cx) (f : FuncId) (S : List Value → Mem → Option (Ans (Value × Mem))) : Cx := C.addM f (lendF S)
theorem Cx.addE_ok {C : Cx} (hC : CxOk C) {f : FuncId} {S : List Value → Mem → Option (Ans (Value × Mem))} (h : ∀ args m ans v m', S args m = some ans → ans.res = some (v, m') → MemSem C.P f args m v m') : CxOk (C.addE f S) :=
  Cx.addM_ok hC fun _ _ _ _ _ ha hr => lendF_ok h ha hr
/-- What is told of a function, told where it is lent what it reads. -/
def Cx.lend (C : Cx) (f : FuncId) : Cx := C.addM f (lendF fun args m => C.tbm f args m)
theorem Cx.lend_ok {C : Cx} (hC : CxOk C) (f : FuncId) : CxOk (C.lend f) :=
  Cx.addM_ok hC fun _ _ _ _ _ ha hr => lendF_ok (fun args m ans v m' h hr => hC.tbm f args m ans v m' h hr) ha hr
/-- A call that makes nothing and changes nothing. -/
def lendP (S : List Value → Mem → Option (Ans (Value × Mem))) (args : List Value) (m : Mem) : Option (Ans (Value × Mem)) := match lendA m args 0 with
  | some (ags, ms, c) => forceL ags fun ags => forceM ms fun ms => match S ags ms with
    | some ans => some (.br c (ans.bind fun vm => match plain vm.1 with
      | true => .out (vm.1, m)
      | false => .fail) .fail)
    | none => none
  | none => none
theorem lendP_spec {S : List Value → Mem → Option (Ans (Value × Mem))} {args : List Value} {m m' : Mem} {ans : Ans (Value × Mem)} {v : Value} (ha : lendP S args m = some ans) (hr : ans.res = some (v, m')) :
    m' = m ∧ ∃ ags ms mu a0, lendA m args 0 = some (ags, ms, true) ∧ S ags ms = some a0 ∧ a0.res = some (v, mu) ∧ plain v = true := by
  unfold lendP at ha
  split at ha
  rotate_left
  · cases ha
  rename_i ags ms c hA
  rw [forceL_eq, forceM_eq] at ha
  split at ha
  rotate_left
  · cases ha
  rename_i ans0 hS
  simp only [Option.some.injEq] at ha
  subst ha
  rcases Ans.br_some hr with ⟨hc, hr⟩ | ⟨_, hr⟩
  rotate_left
  · simp [Ans.res] at hr
  obtain ⟨⟨u, mu⟩, h1, h2⟩ := Ans.bind_some hr
  simp only at h2
  split at h2
  · rename_i hp
    simp only [Ans.res, Option.some.injEq, Prod.mk.injEq] at h2
    obtain ⟨rfl, rfl⟩ := h2
    exact ⟨rfl, ags, ms, mu, ans0, by rw [hA, hc], hS, h1, hp⟩
  · simp [Ans.res] at h2
theorem lendP_ok {P : Program} {f : FuncId} {S : List Value → Mem → Option (Ans (Value × Mem))} (h : ∀ args m ans v m', S args m = some ans → ans.res = some (v, m') → MemSem P f args m v m') {args : List Value} {m m' : Mem} {ans : Ans (Value × Mem)} {v : Value}
    (ha : lendP S args m = some ans) (hr : ans.res = some (v, m')) : MemSem P f args m v m' := by
  obtain ⟨rfl, ags, ms, mu, a0, hA, hS, h1, hp⟩ := lendP_spec ha hr
  have hS := h _ _ _ _ _ hS h1
  refine ⟨hS.1, fun w0 keep r args' w hargs hm => lend_call hA rfl hS hargs hm fun v' rs w' kp g1 g2 k1 k2 => ?_⟩
  obtain ⟨j1, j2⟩ := MemRel.join hm (MemRel_via (ks := []) g2 rfl) k1 k2 rfl
  simp only [renM, mapB, List.append_nil] at j1
  exact ⟨v', _, rfl, (R_plain hp).2 ((R_plain hp).1 g1), j1, j2⟩
theorem lendA_set {m : Mem} {q : Nat} {k : Blk} (hq : m[q]? = some .no) : ∀ (args : List Value) (i : Nat) (x : List Value × Mem × Bool), lendA m args i = some x → lendA (m.set q k) args i = some x
  | [], _, _, h => h
  | v :: l, i, x, h => by
    simp only [lendA] at h ⊢
    split at h
    · rename_i b j n e hv
      split at h
      · rename_i e2 n2 row hrow
        have hne : q ≠ b := fun e => by subst e; rw [hq] at hrow; cases hrow
        rw [List.getElem?_set_ne hne, hrow]
        simp only
        split at h
        · rename_i he
          try simp only [he]
          split at h
          · rename_i a1 m1 c1 hl
            rw [lendA_set hq l (i + 1) _ hl]
            exact h
          · cases h
        · cases h
      · cases h
    · split at h
      · rename_i hp
        try simp only [hp]
        split at h
        · rename_i a1 m1 c1 hl
          rw [lendA_set hq l i _ hl]
          exact h
        · cases h
      · cases h
theorem allB_set {p : Blk → Bool} {m : Mem} {q : Nat} {k : Blk} (h : allB p m = true) (hk : p k = true) : allB p (m.set q k) = true := allB_iff.2 fun x hx => by
  rcases List.mem_or_eq_of_mem_set hx with h1 | h1
  · exact allB_iff.1 h x h1
  · rw [h1]; exact hk
theorem lendG_new {S : List Value → Mem → Option (Ans (Value × Mem))} {args : List Value} {m m' : Mem} {ans : Ans (Value × Mem)} {v : Value} (ha : lendG S args m = some ans) (hr : ans.res = some (v, m')) : ∃ new, m' = m ++ new ∧ ∀ (q : Nat) k, noViewB k = true → m[q]? = some .no → ∃ ans', lendG S args (m.set q k) = some ans' ∧ ans'.res = some (v, m.set q k ++ new) := by
  unfold lendG at ha
  split at ha
  rotate_left
  · cases ha
  rename_i ags ms c hA
  rw [forceL_eq, forceM_eq] at ha
  split at ha
  rotate_left
  · cases ha
  rename_i a0 hS
  simp only [Option.some.injEq] at ha
  subst ha
  rcases Ans.br_some hr with ⟨hc, hr⟩ | ⟨_, hr⟩
  rotate_left
  · simp [Ans.res] at hr
  obtain ⟨⟨u, mu⟩, h1, h2⟩ := Ans.bind_some hr
  simp only at h2
  rw [forceN_eq] at h2
  split at h2
  rotate_left
  · simp [Ans.res] at h2
  rename_i hb
  rw [forceM_eq] at h2
  split at h2
  rotate_left
  · simp [Ans.res] at h2
  rename_i hown
  simp only [Ans.res, Option.some.injEq, Prod.mk.injEq] at h2
  obtain ⟨rfl, rfl⟩ := h2
  refine ⟨_, rfl, fun q k hk hq => ?_⟩
  unfold lendG
  rw [lendA_set hq args 0 _ hA]
  simp only [forceL_eq, forceM_eq, forceN_eq, hS]
  refine ⟨_, rfl, ?_⟩
  rw [Bool.and_eq_true] at hb
  subst hc
  simp only [Ans.res]
  rw [Ans.res_bind, h1]
  simp only [Option.bind_some, hb.1, allB_set hb.2 hk, Bool.and_self, hown, List.length_set]
  rfl
theorem lendP_rd {S : List Value → Mem → Option (Ans (Value × Mem))} {args : List Value} {m m' : Mem} {ans : Ans (Value × Mem)} {v : Value} (ha : lendP S args m = some ans) (hr : ans.res = some (v, m')) :
    m' = m ∧ ∀ (q : Nat) k, m[q]? = some .no → ∃ ans', lendP S args (m.set q k) = some ans' ∧ ans'.res = some (v, m.set q k) := by
  obtain ⟨e, ags, ms, mu, a0, hA, hS, h1, hp⟩ := lendP_spec ha hr
  refine ⟨e, fun q k hq => ?_⟩
  unfold lendP
  rw [lendA_set hq args 0 _ hA]
  simp only [forceL_eq, forceM_eq, hS]
  refine ⟨_, rfl, ?_⟩
  simp only [Ans.res]
  rw [Ans.res_bind, h1]
  simp only [Option.bind_some, hp]
  rfl
end Go.Proofs.Ytggdbakgiknogaa.Vx


namespace Go.Proofs.Ytggdbakgiknogaa.Vx
open Go Go.RowKit
/-- One road of a tree; on the others nothing is told. -/
def pickA {α : Type} : List Bool → Ans α → Ans α
  | true :: p, .br b t _ => .br b (pickA p t) .fail
  | false :: p, .br b _ f => .br b .fail (pickA p f)
  | _, x => x
theorem pickA_ok {α : Type} {a : α} : ∀ (p : List Bool) (x : Ans α), (pickA p x).res = some a → x.res = some a
  | [], x, h => by cases x <;> exact h
  | true :: p, .br b t f, h => by
    rcases Ans.br_some h with ⟨hb, h1⟩ | ⟨hb, h1⟩
    · subst hb; exact pickA_ok p t h1
    · simp [Ans.res] at h1
  | false :: p, .br b t f, h => by
    rcases Ans.br_some h with ⟨hb, h1⟩ | ⟨hb, h1⟩
    · simp [Ans.res] at h1
    · subst hb; exact pickA_ok p f h1
  | true :: p, .out a, h => h
  | false :: p, .out a, h => h
  | true :: p, .fail, h => h
  | false :: p, .fail, h => h
/-- No error; yes. -/
def asm1 : Value → Bool × Value
  | .int k e => (e == 0, .int k 0)
  | .bool b => (b, .bool true)
  | v => (true, v)
def asmV : Value → Bool × Value
  | .tuple vs => match vs.toList with
    | [a, b] => ((asm1 b).1, .tuple #[a, (asm1 b).2])
    | [a, b, c] => ((asm1 c).1, .tuple #[a, b, (asm1 c).2])
    | _ => (true, .tuple vs)
  | v => asm1 v
theorem asm1_ok {v : Value} (h : (asm1 v).1 = true) : (asm1 v).2 = v := by
  cases v with
  | int k e => simp only [asm1] at h ⊢; rw [(beq_iff_eq.1 h)]
  | bool b => simp only [asm1] at h ⊢; rw [h]
  | _ => rfl
theorem asmV_ok {v : Value} (h : (asmV v).1 = true) : (asmV v).2 = v := by
  cases v with
  | tuple vs =>
    unfold asmV at h ⊢
    simp only at h ⊢
    split at h
    · rename_i a b he
      rw [asm1_ok h]
      congr 1
      rw [← he]
    · rename_i a b c he
      rw [asm1_ok h]
      congr 1
      rw [← he]
    · rfl
  | int k e => exact asm1_ok (v := .int k e) h
  | bool b => exact asm1_ok (v := .bool b) h
  | _ => rfl
def asmA (x : Ans (Value × Mem)) : Ans (Value × Mem) := x.bind fun vm => .br (asmV vm.1).1 (.out ((asmV vm.1).2, vm.2)) .fail
theorem asmA_ok {x : Ans (Value × Mem)} {v : Value} {m : Mem} (h : (asmA x).res = some (v, m)) : x.res = some (v, m) := by
  obtain ⟨⟨u, mu⟩, h1, h2⟩ := Ans.bind_some h
  rcases Ans.br_some h2 with ⟨hb, h3⟩ | ⟨_, h3⟩
  · simp only [Ans.res, Option.some.injEq, Prod.mk.injEq] at h3
    obtain ⟨rfl, rfl⟩ := h3
    rw [h1, asmV_ok hb]
  · simp [Ans.res] at h3
/-- A function of which one road is wanted, with no error; it is lent what it reads. -/
def Cx.good (C : Cx) (f : FuncId) (p : List Bool) : Cx := C.addM f (lendF fun args m => match C.tbm f args m with
  | some ans => some (asmA (pickA p ans))
  | none => none)
theorem Cx.good_ok {C : Cx} (hC : CxOk C) (f : FuncId) (p : List Bool) : CxOk (C.good f p) :=
  Cx.addM_ok hC fun _ _ _ _ _ ha hr => lendF_ok (fun args m ans v m' h hr => by
    split at h
    · rename_i a0 h0
      simp only [Option.some.injEq] at h
      subst h
      exact hC.tbm f args m a0 v m' h0 (pickA_ok p a0 (asmA_ok hr))
    · cases h) ha hr
/-- The same, with what it answers as it is. -/
def Cx.road (C : Cx) (f : FuncId) (p : List Bool) : Cx := C.addM f (lendF fun args m => match C.tbm f args m with
  | some ans => some (pickA p ans)
  | none => none)
theorem Cx.road_ok {C : Cx} (hC : CxOk C) (f : FuncId) (p : List Bool) : CxOk (C.road f p) :=
  Cx.addM_ok hC fun _ _ _ _ _ ha hr => lendF_ok (fun args m ans v m' h hr => by
    split at h
    · rename_i a0 h0
      simp only [Option.some.injEq] at h
      subst h
      exact hC.tbm f args m a0 v m' h0 (pickA_ok p a0 hr)
    · cases h) ha hr
/-- A function that only looks (1), or that makes something beside what is there (2). -/
def Cx.roadS (C : Cx) (f : FuncId) (p : List Bool) (args : List Value) (m : Mem) : Option (Ans (Value × Mem)) := match C.tbm f args m with
  | some ans => some (pickA p ans)
  | none => none
theorem Cx.roadS_ok {C : Cx} (hC : CxOk C) {f : FuncId} {p : List Bool} (args : List Value) (m : Mem) (ans : Ans (Value × Mem)) (v : Value) (m' : Mem) (h : C.roadS f p args m = some ans) (hr : ans.res = some (v, m')) : MemSem C.P f args m v m' := by
  unfold Cx.roadS at h
  split at h
  · rename_i a0 h0
    simp only [Option.some.injEq] at h
    subst h
    exact hC.tbm f args m a0 v m' h0 (pickA_ok p a0 hr)
  · cases h
def Cx.putRd (C : Cx) (f : FuncId) (z : Nat) (F : List Value → Mem → Option (Ans (Value × Mem))) : Cx := { C with
  tbm := fun g args m => match Nat.beq g f with
    | true => F args m
    | false => C.tbm g args m
  rd := fun g => match Nat.beq g f with
    | true => z
    | false => C.rd g
  inl := fun g => match Nat.beq g f with
    | true => none
    | false => C.inl g }
theorem Cx.putRd_ok {C : Cx} (hC : CxOk C) {f : FuncId} {z : Nat} {F : List Value → Mem → Option (Ans (Value × Mem))} (h0 : ∀ args m ans v m', F args m = some ans → ans.res = some (v, m') → MemSem C.P f args m v m')
    (h1 : z = 1 → ∀ args m ans v m', F args m = some ans → ans.res = some (v, m') → m' = m ∧ ∀ (q : Nat) k, m[q]? = some .no → ∃ ans', F args (m.set q k) = some ans' ∧ ans'.res = some (v, m.set q k))
    (h2 : z = 2 → ∀ args m ans v m', F args m = some ans → ans.res = some (v, m') → ∃ new, m' = m ++ new ∧ ∀ (q : Nat) k, noViewB k = true → m[q]? = some .no → ∃ ans', F args (m.set q k) = some ans' ∧ ans'.res = some (v, m.set q k ++ new)) : CxOk (C.putRd f z F) := by
  refine ⟨hC.mixed, hC.tbl, ?_, hC.keys, fun g fn hg => ?_, hC.lp, ?_, ?_⟩
  rotate_left
  · simp only [Cx.putRd] at hg
    cases hb : Nat.beq g f with
    | true => simp only [hb] at hg; cases hg
    | false => simp only [hb] at hg; exact hC.inl g fn hg
  rotate_right
  · intro g args m ans v m' ha hr
    simp only [Cx.putRd] at ha
    cases hg : Nat.beq g f with
    | false => simp only [hg] at ha; exact hC.tbm g args m ans v m' ha hr
    | true =>
      have hgf := Nat.eq_of_beq_eq_true hg
      subst hgf
      simp only [hg] at ha
      exact h0 args m ans v m' ha hr
  · intro g hg args m ans v m' ha hr
    simp only [Cx.putRd] at hg ha ⊢
    cases hb : Nat.beq g f with
    | false => simp only [hb] at hg ha ⊢; exact hC.rd g hg args m ans v m' ha hr
    | true => simp only [hb] at hg ha ⊢; exact h1 hg args m ans v m' ha hr
  · intro g hg args m ans v m' ha hr
    simp only [Cx.putRd] at hg ha ⊢
    cases hb : Nat.beq g f with
    | false => simp only [hb] at hg ha ⊢; exact hC.rd2 g hg args m ans v m' ha hr
    | true => simp only [hb] at hg ha ⊢; exact h2 hg args m ans v m' ha hr
def Cx.looks (C : Cx) (f : FuncId) (p : List Bool) : Cx := C.putRd f 1 (lendP (C.roadS f p))
theorem Cx.looks_ok {C : Cx} (hC : CxOk C) (f : FuncId) (p : List Bool) : CxOk (C.looks f p) :=
  Cx.putRd_ok hC (fun _ _ _ _ _ ha hr => lendP_ok (Cx.roadS_ok hC) ha hr) (fun _ _ _ _ _ _ ha hr => lendP_rd ha hr) (fun h => by cases h)
def Cx.makes (C : Cx) (f : FuncId) (p : List Bool) : Cx := C.putRd f 2 (lendG (C.roadS f p))
theorem Cx.makes_ok {C : Cx} (hC : CxOk C) (f : FuncId) (p : List Bool) : CxOk (C.makes f p) :=
  Cx.putRd_ok hC (fun _ _ _ _ _ ha hr => lendG_ok (Cx.roadS_ok hC) ha hr) (fun h => by cases h) (fun _ _ _ _ _ _ ha hr => lendG_new ha hr)
end Go.Proofs.Ytggdbakgiknogaa.Vx
