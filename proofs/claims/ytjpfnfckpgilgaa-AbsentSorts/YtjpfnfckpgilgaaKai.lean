/-
  The loop of group.Close. Nothing here is trusted.
-/
import Derived.Test.YtjpfnfckpgilgaaKah
import Derived.Shelf.SlSortCmp.WholeK
import Derived.Test.YtjpfnfckpgilgaaProg
import Derived.Test.YtjpfnfckpgilgaaKag

namespace Go.Proofs.Ytjpfnfckpgilgaa
open Go Vx
/-- newSpan: the identity alone. -/
theorem nsE : exT ((Cta Try.prog).at 77) 60 Try.f77 [] [] [.fix 1, .fix 4, .fix 0] = some (.pointer (some ⟨0, 0, none⟩), [.cells true 0 [.slice (some ⟨1, 0, some 0⟩) 1 12, .map (some 2), .slice none 0 0], .rows true true 12 1 (chop 12 0 O3.one.cells), .mp true 12 [(key O3.one, 0)]]) := by kernel_rfl
def nsF : List Value → Mem → Option (Ans (Value × Mem))
  | [], [] => some (.out (.pointer (some ⟨0, 0, none⟩), spanM0 1 [O3.one] [(key O3.one, 0)]))
  | _, _ => none
def Cns (P : Program) : Cx := (Cta P).addF 77 nsF
theorem okns : CxOk (Cns Try.prog) := Cx.addF_ok okta fun args mm ans v m' h hr => by
  unfold nsF at h
  split at h
  · simp only [Option.some.injEq] at h
    subst h
    simp only [Ans.res, Option.some.injEq, Prod.mk.injEq] at hr
    obtain ⟨rfl, rfl⟩ := hr
    exact (exT_ok okta Try.func77 (by kernel_rfl) nsE).likes ⟨.refl _, like_chop _, .refl _, trivial⟩
  · cases h
def clX' (P : Program) : Code := (loopsOf P 36 6).headD .skip
theorem clX_eq : loopsOf Try.prog 36 6 = [clX' Try.prog] := by kernel_rfl
def clE (own : Bool) (N : Nat) (ls : List O3) (n : Nat) (xs : List O3) (es : ES) : Mem := [.rows own true 12 N (opRow ls), .cells true 0 [.slice (some ⟨2, 0, some 0⟩) n 12, .map (some 3), .slice none 0 0], .rows true true 12 n (opRow xs), .mp true 12 es]
def clN (own : Bool) (N : Nat) (ls : List O3) (n : Nat) (xs : List O3) (es : ES) : Mem := [.rows own true 12 N (opRow ls), .cells true 0 [.slice (some ⟨2, 0, some 0⟩) n 12, .map (some 3), .slice none 0 0], .rows true true 12 n (opRow xs), .mp true 12 es, .no]
def clM (own : Bool) (N : Nat) (ls : List O3) (n : Nat) (xs : List O3) (es : ES) (k : Nat) (ms : List O3) : Mem := [.rows own true 12 N (opRow ls), .cells true 0 [.slice (some ⟨2, 0, some 0⟩) n 12, .map (some 3), .slice (some ⟨4, 0, some 0⟩) k 12], .rows true true 12 n (opRow xs), .mp true 12 es, .rows true true 12 k (opRow ms)]
def clX (own : Bool) (N : Nat) (ls : List O3) : Mem := [.rows own true 12 N (opRow ls), .gone, .no, .no, .no]
def clH (m : Mem) (N : Nat) (i : Int) : St := stOf 34 [(2, .slice none 0 0), (3, vI 0), (5, .pointer (some ⟨1, 0, none⟩)), (14, .slice (some ⟨0, 0, some 0⟩) N 12), (15, vI N), (16, vI i)] m
theorem clRE (own : Bool) (N : Nat) (ls : List O3) (n : Nat) (xs : List O3) (es : ES) (i : Int) : roundR ((Cns Try.prog).into 36 1) 40 (clX' Try.prog) [2, 3, 5, 14, 15, 16] [2, 3, 5] [.fix 0, .fix 1, .cell 1 0, .cell 1 1, .cell 1 2] [.fix 0, .fix 1, .cell 1 0, .cell 1 1, .cell 1 2] (clH (clE own N ls n xs es) N i) =
    (match decide (i < (N : Int)) with
    | true => match boundsI i N with
      | true => match (Nat.beq n n && (okOps n (opRow xs) && (decide (1 ≤ n) && decide (n ≤ 192)))) with
        | true => match mHas (key (atO ls i)) es with
          | true => some (.normal, clH (clN own N ls n (opsOf n (opRow xs)) es) N (W (i + 1)))
          | false => match (outL (n : Int) [(atO ls i)] 193 0 (opsOf n (opRow xs)) es).isSome with
            | true => match Nat.blt n (otR (n : Int) [(atO ls i)] (opsOf n (opRow xs)) es).1.length with
              | true => some (.normal, clH (clM own N ls (otR (n : Int) [(atO ls i)] (opsOf n (opRow xs)) es).1.length (otR (n : Int) [(atO ls i)] (opsOf n (opRow xs)) es).1 (otR (n : Int) [(atO ls i)] (opsOf n (opRow xs)) es).2 1 [(atO ls i)]) N (W (i + 1)))
              | false => some (.normal, clH (clM own N ls (otR (n : Int) [(atO ls i)] (opsOf n (opRow xs)) es).1.length (otR (n : Int) [(atO ls i)] (opsOf n (opRow xs)) es).1 (otR (n : Int) [(atO ls i)] (opsOf n (opRow xs)) es).2 1 [(atO ls i)]) N (W (i + 1)))
            | false => some (.ret, stOf 34 [(2, .slice none 0 0), (3, vI 5), (5, .pointer (some ⟨1, 0, none⟩))] (clX own N ls))
        | false => none
      | false => none
    | false => some (.exit 0, stOf 34 [(2, .slice none 0 0), (3, vI 0), (5, .pointer (some ⟨1, 0, none⟩))] (clN own N ls n xs es))) := by kernel_rfl
theorem clRN (own : Bool) (N : Nat) (ls : List O3) (n : Nat) (xs : List O3) (es : ES) (i : Int) : roundR ((Cns Try.prog).into 36 1) 40 (clX' Try.prog) [2, 3, 5, 14, 15, 16] [2, 3, 5] [.fix 0, .fix 1, .cell 1 0, .cell 1 1, .cell 1 2] [.fix 0, .fix 1, .cell 1 0, .cell 1 1, .cell 1 2] (clH (clN own N ls n xs es) N i) =
    (match decide (i < (N : Int)) with
    | true => match boundsI i N with
      | true => match (Nat.beq n n && (okOps n (opRow xs) && (decide (1 ≤ n) && decide (n ≤ 192)))) with
        | true => match mHas (key (atO ls i)) es with
          | true => some (.normal, clH (clN own N ls n (opsOf n (opRow xs)) es) N (W (i + 1)))
          | false => match (outL (n : Int) [(atO ls i)] 193 0 (opsOf n (opRow xs)) es).isSome with
            | true => match Nat.blt n (otR (n : Int) [(atO ls i)] (opsOf n (opRow xs)) es).1.length with
              | true => some (.normal, clH (clM own N ls (otR (n : Int) [(atO ls i)] (opsOf n (opRow xs)) es).1.length (otR (n : Int) [(atO ls i)] (opsOf n (opRow xs)) es).1 (otR (n : Int) [(atO ls i)] (opsOf n (opRow xs)) es).2 1 [(atO ls i)]) N (W (i + 1)))
              | false => some (.normal, clH (clM own N ls (otR (n : Int) [(atO ls i)] (opsOf n (opRow xs)) es).1.length (otR (n : Int) [(atO ls i)] (opsOf n (opRow xs)) es).1 (otR (n : Int) [(atO ls i)] (opsOf n (opRow xs)) es).2 1 [(atO ls i)]) N (W (i + 1)))
            | false => some (.ret, stOf 34 [(2, .slice none 0 0), (3, vI 5), (5, .pointer (some ⟨1, 0, none⟩))] (clX own N ls))
        | false => none
      | false => none
    | false => some (.exit 0, stOf 34 [(2, .slice none 0 0), (3, vI 0), (5, .pointer (some ⟨1, 0, none⟩))] (clN own N ls n xs es))) := by kernel_rfl
theorem clRM (own : Bool) (N : Nat) (ls : List O3) (n : Nat) (xs : List O3) (es : ES) (k : Nat) (ms : List O3) (i : Int) : roundR ((Cns Try.prog).into 36 1) 40 (clX' Try.prog) [2, 3, 5, 14, 15, 16] [2, 3, 5] [.fix 0, .fix 1, .cell 1 0, .cell 1 1, .cell 1 2] [.fix 0, .fix 1, .cell 1 0, .cell 1 1, .cell 1 2] (clH (clM own N ls n xs es k ms) N i) =
    (match decide (i < (N : Int)) with
    | true => match boundsI i N with
      | true => match (Nat.beq n n && (okOps n (opRow xs) && (Nat.beq k k && (okOps k (opRow ms) && (decide (1 ≤ n) && (decide (n ≤ 192) && decide (k ≤ 900))))))) with
        | true => match mHas (key (atO ls i)) es with
          | true => some (.normal, clH (clM own N ls n (opsOf n (opRow xs)) es k (opsOf k (opRow ms))) N (W (i + 1)))
          | false => match (outL (n : Int) ((opsOf k (opRow ms)) ++ [(atO ls i)]) 193 0 (opsOf n (opRow xs)) es).isSome with
            | true => match Nat.blt n (otR (n : Int) ((opsOf k (opRow ms)) ++ [(atO ls i)]) (opsOf n (opRow xs)) es).1.length with
              | true => some (.normal, clH (clM own N ls (otR (n : Int) ((opsOf k (opRow ms)) ++ [(atO ls i)]) (opsOf n (opRow xs)) es).1.length (otR (n : Int) ((opsOf k (opRow ms)) ++ [(atO ls i)]) (opsOf n (opRow xs)) es).1 (otR (n : Int) ((opsOf k (opRow ms)) ++ [(atO ls i)]) (opsOf n (opRow xs)) es).2 (k + 1) ((opsOf k (opRow ms)) ++ [(atO ls i)])) N (W (i + 1)))
              | false => some (.normal, clH (clM own N ls (otR (n : Int) ((opsOf k (opRow ms)) ++ [(atO ls i)]) (opsOf n (opRow xs)) es).1.length (otR (n : Int) ((opsOf k (opRow ms)) ++ [(atO ls i)]) (opsOf n (opRow xs)) es).1 (otR (n : Int) ((opsOf k (opRow ms)) ++ [(atO ls i)]) (opsOf n (opRow xs)) es).2 (k + 1) ((opsOf k (opRow ms)) ++ [(atO ls i)])) N (W (i + 1)))
            | false => some (.ret, stOf 34 [(2, .slice none 0 0), (3, vI 5), (5, .pointer (some ⟨1, 0, none⟩))] (clX own N ls))
        | false => none
      | false => none
    | false => some (.exit 0, stOf 34 [(2, .slice none 0 0), (3, vI 0), (5, .pointer (some ⟨1, 0, none⟩))] (clM own N ls n xs es k ms))) := by kernel_rfl
end Go.Proofs.Ytjpfnfckpgilgaa


namespace Go.Proofs.Ytjpfnfckpgilgaa
open Go Vx
theorem outL_len {q : Int} (hq : 0 < q) {ms : List O3} : ∀ (N : Nat) {f : Int} {xs : List O3} {es : ES}, xs.length ≤ 192 → ∀ {r : List O3 × ES}, outL q ms N f xs es = some r → xs.length ≤ r.1.length ∧ r.1.length ≤ 192
  | 0, f, xs, es, h, r, hr => by simp only [outL, Option.some.injEq] at hr; subst hr; exact ⟨Nat.le_refl _, h⟩
  | N + 1, f, xs, es, h, r, hr => by
    simp only [outL] at hr
    split at hr
    · split at hr
      · rename_i s hs
        obtain ⟨h1, h2⟩ := mkL_len hq ms h hs
        obtain ⟨h3, h4⟩ := outL_len hq N h2 hr
        exact ⟨by omega, h4⟩
      · cases hr
    · simp only [Option.some.injEq] at hr; subst hr; exact ⟨Nat.le_refl _, h⟩
/-- What a span has taken: its maps, its makers, what it has. -/
def clL : List O3 → List O3 → List O3 → ES → Option (List O3 × List O3 × ES)
  | [], xs, ms, es => some (xs, ms, es)
  | o :: l, xs, ms, es => match mHas (key o) es with
    | true => clL l xs ms es
    | false => match outL (xs.length : Int) (ms ++ [o]) 193 0 xs es with
      | some r => clL l r.1 (ms ++ [o]) r.2
      | none => none
structure clG where
  (sh : Sh) (own : Bool) (N : Nat) (ls : List O3) (n : Nat) (xs : List O3) (es : ES) (k : Nat) (ms : List O3) (i : Int)
def clMm (sh : Sh) (own : Bool) (N : Nat) (ls : List O3) (n : Nat) (xs : List O3) (es : ES) (k : Nat) (ms : List O3) : Mem := match sh with
  | .e => clE own N ls n xs es
  | .a => clN own N ls n xs es
  | .b => clM own N ls n xs es k ms
def clHg (g : clG) : St := clH (clMm g.sh g.own g.N g.ls g.n g.xs g.es g.k g.ms) g.N g.i
def Sh.no (sh : Sh) (ms : List O3) : Prop := match sh with
  | .b => ms ≠ []
  | _ => ms = []
def clInv (g : clG) : Prop := g.ls.length = g.N ∧ g.N ≤ 192 ∧ g.xs.length = g.n ∧ 1 ≤ g.n ∧ g.n ≤ 192 ∧ g.ms.length = g.k ∧ (g.k : Int) ≤ g.i ∧ 0 ≤ g.i ∧ g.i ≤ (g.N : Int) ∧ g.sh.no g.ms
def shMs (ms : List O3) : Sh := match ms with
  | [] => .a
  | _ :: _ => .b
theorem shMs_ok {sh : Sh} {ms : List O3} (h : sh.no ms) : shMs ms = sh.next := by
  cases sh with
  | b => cases ms with
    | nil => exact absurd rfl h
    | cons m ms => rfl
  | e => have : ms = [] := h; subst this; rfl
  | a => have : ms = [] := h; subst this; rfl
def clO (g : clG) : Exit × St := match clL (g.ls.drop g.i.toNat) g.xs g.ms g.es with
  | some r => (.exit 0, stOf 34 [(2, .slice none 0 0), (3, vI 0), (5, .pointer (some ⟨1, 0, none⟩))] (clMm (shMs r.2.1) g.own g.N g.ls r.1.length r.1 r.2.2 r.2.1.length r.2.1))
  | none => (.ret, stOf 34 [(2, .slice none 0 0), (3, vI 5), (5, .pointer (some ⟨1, 0, none⟩))] (clX g.own g.N g.ls))
theorem clRd (sh : Sh) (own : Bool) (N : Nat) (ls : List O3) (n : Nat) (xs : List O3) (es : ES) (k : Nat) (ms : List O3) (i : Int) (hx : xs.length = n) (hm : ms.length = k) (h1 : 1 ≤ n) (h2 : n ≤ 192) (h3 : k ≤ 900) (hs : sh.no ms) :
    roundR ((Cns Try.prog).into 36 1) 40 (clX' Try.prog) [2, 3, 5, 14, 15, 16] [2, 3, 5] [.fix 0, .fix 1, .cell 1 0, .cell 1 1, .cell 1 2] [.fix 0, .fix 1, .cell 1 0, .cell 1 1, .cell 1 2] (clH (clMm sh own N ls n xs es k ms) N i) =
    (match decide (i < (N : Int)) with
    | true => match boundsI i N with
      | true => match mHas (key (atO ls i)) es with
        | true => some (.normal, clH (clMm sh.next own N ls n xs es k ms) N (W (i + 1)))
        | false => match outL (n : Int) (ms ++ [atO ls i]) 193 0 xs es with
          | some r => some (.normal, clH (clMm .b own N ls r.1.length r.1 r.2 (k + 1) (ms ++ [atO ls i])) N (W (i + 1)))
          | none => some (.ret, stOf 34 [(2, .slice none 0 0), (3, vI 5), (5, .pointer (some ⟨1, 0, none⟩))] (clX own N ls))
      | false => none
    | false => some (.exit 0, stOf 34 [(2, .slice none 0 0), (3, vI 0), (5, .pointer (some ⟨1, 0, none⟩))] (clMm sh.next own N ls n xs es k ms))) := by
  have tN : (Nat.beq n n && (okOps n (opRow xs) && (decide (1 ≤ n) && decide (n ≤ 192)))) = true := by
    rw [Nat.beq_refl, okOps_opRow]; simp [h1, h2]
  have tM : (Nat.beq n n && (okOps n (opRow xs) && (Nat.beq k k && (okOps k (opRow ms) && (decide (1 ≤ n) && (decide (n ≤ 192) && decide (k ≤ 900))))))) = true := by
    rw [Nat.beq_refl, Nat.beq_refl, okOps_opRow, okOps_opRow]; simp [h1, h2, h3]
  cases sh with
  | e =>
    have hms : ms = [] := hs
    subst hms
    have hk : k = 0 := hm.symm
    subst hk
    have hE := clRE own N ls n xs es i
    rw [opsOf_row hx, tN] at hE
    refine hE.trans ?_
    unfold otR
    cases decide (i < (N : Int)) with
    | false => rfl
    | true =>
      cases boundsI i N with
      | false => rfl
      | true =>
        cases mHas (key (atO ls i)) es with
        | true => rfl
        | false =>
          simp only [List.nil_append]
          cases outL (n : Int) [atO ls i] 193 0 xs es with
          | none => rfl
          | some r =>
            simp only [Option.isSome_some, Option.getD_some]
            cases Nat.blt n r.1.length <;> rfl
  | a =>
    have hms : ms = [] := hs
    subst hms
    have hk : k = 0 := hm.symm
    subst hk
    have hE := clRN own N ls n xs es i
    rw [opsOf_row hx, tN] at hE
    refine hE.trans ?_
    unfold otR
    cases decide (i < (N : Int)) with
    | false => rfl
    | true =>
      cases boundsI i N with
      | false => rfl
      | true =>
        cases mHas (key (atO ls i)) es with
        | true => rfl
        | false =>
          simp only [List.nil_append]
          cases outL (n : Int) [atO ls i] 193 0 xs es with
          | none => rfl
          | some r =>
            simp only [Option.isSome_some, Option.getD_some]
            cases Nat.blt n r.1.length <;> rfl
  | b =>
    have hE := clRM own N ls n xs es k ms i
    rw [opsOf_row hx, opsOf_row hm, tM] at hE
    refine hE.trans ?_
    unfold otR
    cases decide (i < (N : Int)) with
    | false => rfl
    | true =>
      cases boundsI i N with
      | false => rfl
      | true =>
        cases mHas (key (atO ls i)) es with
        | true => rfl
        | false =>
          cases outL (n : Int) (ms ++ [atO ls i]) 193 0 xs es with
          | none => rfl
          | some r =>
            simp only [Option.isSome_some, Option.getD_some]
            cases Nat.blt n r.1.length <;> rfl
theorem clLp (g : clG) (hg : clInv g) : LoopSem Try.prog 1 (clX' Try.prog) (clHg g) (clO g).1 (clO g).2 := by
  refine loop_rule2 (C := Cns Try.prog) okns (f := 36) (B := 1) (loopsOf_in (k := 6) clX_eq) 40 [2, 3, 5, 14, 15, 16] [2, 3, 5] [.fix 0, .fix 1, .cell 1 0, .cell 1 1, .cell 1 2] [.fix 0, .fix 1, .cell 1 0, .cell 1 1, .cell 1 2] clHg (fun g => (g.N - g.i).toNat) clInv clO ?_ g hg
  clear hg g
  rintro ⟨sh, own, N, ls, n, xs, es, k, ms, i⟩ hg
  unfold clInv at hg
  simp only at hg
  obtain ⟨h1, h2, h3, h4, h5, h6, h7, h8, h9, h10⟩ := hg
  have hR := clRd sh own N ls n xs es k ms i h3 h6 h4 h5 (by omega) h10
  by_cases hi : i < (N : Int)
  · have hd : decide (i < (N : Int)) = true := by simpa using hi
    have hb : boundsI i N = true := by simp [boundsI, h8, hi]
    have hw : W (i + 1) = i + 1 := W_in (by omega)
    have hdr := drop_at (xs := ls) h8 (by omega)
    rw [hd, hb, hw] at hR
    cases hh : mHas (key (atO ls i)) es with
    | true =>
      left
      rw [hh] at hR
      refine ⟨⟨sh.next, own, N, ls, n, xs, es, k, ms, i + 1⟩, _, hR, StLike.refl _, ?_, by simp only; omega, ?_⟩
      · unfold clInv
        simp only
        exact ⟨h1, h2, h3, h4, h5, h6, by omega, by omega, by omega, by cases sh <;> exact h10⟩
      · unfold clO
        simp only [hdr, clL, hh]
    | false =>
      rw [hh] at hR
      cases ho : outL (n : Int) (ms ++ [atO ls i]) 193 0 xs es with
      | none =>
        right
        simp only [ho] at hR
        have hres : clL (ls.drop i.toNat) xs ms es = none := by simp only [hdr, clL, hh, h3, ho]
        exact ⟨stOf 34 [(2, .slice none 0 0), (3, vI 5), (5, .pointer (some ⟨1, 0, none⟩))] (clX own N ls), by unfold clHg clO; simp only [hres]; exact hR, by unfold clO; simp only [hres]; exact StLike.refl _, by unfold clO; simp [hres]⟩
      | some r =>
        left
        simp only [ho] at hR
        obtain ⟨l1, l2⟩ := outL_len (by omega) _ (by omega) ho
        refine ⟨⟨.b, own, N, ls, r.1.length, r.1, r.2, k + 1, ms ++ [atO ls i], i + 1⟩, _, hR, StLike.refl _, ?_, by simp only; omega, ?_⟩
        · unfold clInv
          simp only
          exact ⟨h1, h2, trivial, by omega, l2, by simp [h6], by omega, by omega, by omega, by simp [Sh.no]⟩
        · unfold clO
          simp only [hdr, clL, hh, h3, ho]
  · have hd : decide (i < (N : Int)) = false := by simpa using hi
    rw [hd] at hR
    right
    have hn : ls.drop i.toNat = [] := List.drop_eq_nil_of_le (by omega)
    have hres : clL (ls.drop i.toNat) xs ms es = some (xs, ms, es) := by simp only [hn, clL]
    have hsh := shMs_ok h10
    exact ⟨stOf 34 [(2, .slice none 0 0), (3, vI 0), (5, .pointer (some ⟨1, 0, none⟩))] (clMm sh.next own N ls n xs es k ms), by unfold clHg clO; simp only [hres]; exact hR, by unfold clO; simp only [hres, hsh, h3, h6]; exact StLike.refl _, by unfold clO; simp [hres]⟩
end Go.Proofs.Ytjpfnfckpgilgaa


namespace Go.Proofs.Ytjpfnfckpgilgaa
open Go Go.Proofs Go.Shelf
def sortOp_ren : Go.Shelf.Ren := ⟨fun | 6 => 79 | 15 => 116 | 14 => 115 | 28 => 142 | 29 => 143 | 20 => 134 | 21 => 135 | 22 => 136 | 23 => 137 | 24 => 138 | 25 => 139 | 26 => 140 | 27 => 141 | 46 => 159 | 47 => 160 | 48 => 161 | 49 => 162 | 50 => 163 | 57 => 171 | n => n, fun | 22 => 24 | 24 => 38 | 25 => 126 | 3 => 3 | 39 => 163 | 0 => 0 | 53 => 183 | 55 => 142 | 4 => 4 | 46 => 177 | 45 => 176 | 50 => 118 | 5 => 5 | 9 => 9 | 66 => 196 | 70 => 200 | 76 => 207 | 77 => 208 | n => n, fun | n => n⟩
theorem sortOp : Go.Proofs.SlLaysF0.n6 Try.prog sortOp_ren := {
  mixed := by kernel_rfl
  f6 := ⟨Try.f79.name, by decide, Try.func79.trans (congrArg some (by kernel_rfl))⟩
  f14 := ⟨Try.f115.name, by decide, Try.func115.trans (congrArg some (by kernel_rfl))⟩
  f15 := Try.func116.trans (congrArg some (by kernel_rfl))
  f20 := ⟨Try.f134.name, by decide, Try.func134.trans (congrArg some (by kernel_rfl))⟩
  f21 := ⟨Try.f135.name, by decide, Try.func135.trans (congrArg some (by kernel_rfl))⟩
  f22 := ⟨Try.f136.name, by decide, Try.func136.trans (congrArg some (by kernel_rfl))⟩
  f23 := ⟨Try.f137.name, by decide, Try.func137.trans (congrArg some (by kernel_rfl))⟩
  f24 := ⟨Try.f138.name, by decide, Try.func138.trans (congrArg some (by kernel_rfl))⟩
  f25 := ⟨Try.f139.name, by decide, Try.func139.trans (congrArg some (by kernel_rfl))⟩
  f26 := ⟨Try.f140.name, by decide, Try.func140.trans (congrArg some (by kernel_rfl))⟩
  f27 := ⟨Try.f141.name, by decide, Try.func141.trans (congrArg some (by kernel_rfl))⟩
  f28 := Try.func142.trans (congrArg some (by kernel_rfl))
  f29 := Try.func143.trans (congrArg some (by kernel_rfl))
  f46 := ⟨Try.f159.name, by decide, Try.func159.trans (congrArg some (by kernel_rfl))⟩
  f47 := Try.func160.trans (congrArg some (by kernel_rfl))
  f48 := Try.func161.trans (congrArg some (by kernel_rfl))
  f49 := ⟨Try.f162.name, by decide, Try.func162.trans (congrArg some (by kernel_rfl))⟩
  f50 := ⟨Try.f163.name, by decide, Try.func163.trans (congrArg some (by kernel_rfl))⟩
  f57 := ⟨Try.f171.name, by decide, Try.func171.trans (congrArg some (by kernel_rfl))⟩
  t0 := Try.underlying0
  a0 := Try.isAgg0
  z0 := Try.sizeOf0
  v0 := Try.zeroValue0
  t3 := Try.underlying3
  a3 := Try.isAgg3
  z3 := Try.sizeOf3
  v3 := Try.zeroValue3
  t4 := Try.underlying4
  a4 := Try.isAgg4
  z4 := Try.sizeOf4
  v4 := Try.zeroValue4
  t5 := Try.underlying5
  a5 := Try.isAgg5
  z5 := Try.sizeOf5
  v5 := Try.zeroValue5
  t9 := Try.underlying9
  a9 := Try.isAgg9
  z9 := Try.sizeOf9
  v9 := Try.zeroValue9
  t22 := Try.underlying24
  a22 := Try.isAgg24
  z22 := Try.sizeOf24
  v22 := Try.zeroValue24
  t25 := Try.underlying126
  a25 := Try.isAgg126
  z25 := Try.sizeOf126
  v25 := Try.zeroValue126
  t39 := Try.underlying163
  a39 := Try.isAgg163
  z39 := Try.sizeOf163
  v39 := Try.zeroValue163
  t45 := Try.underlying176
  a45 := Try.isAgg176
  z45 := Try.sizeOf176
  v45 := Try.zeroValue176
  t46 := Try.underlying177
  a46 := Try.isAgg177
  z46 := Try.sizeOf177
  v46 := Try.zeroValue177
  t50 := Try.underlying118
  a50 := Try.isAgg118
  z50 := Try.sizeOf118
  v50 := Try.zeroValue118
  t53 := Try.underlying183
  a53 := Try.isAgg183
  z53 := Try.sizeOf183
  v53 := Try.zeroValue183
  t55 := Try.underlying142
  a55 := Try.isAgg142
  z55 := Try.sizeOf142
  v55 := Try.zeroValue142
  t66 := Try.underlying196
  a66 := Try.isAgg196
  z66 := Try.sizeOf196
  v66 := Try.zeroValue196
  t70 := Try.underlying200
  a70 := Try.isAgg200
  z70 := Try.sizeOf200
  v70 := Try.zeroValue200
  t76 := Try.underlying207
  a76 := Try.isAgg207
  z76 := Try.sizeOf207
  v76 := Try.zeroValue207
  t77 := Try.underlying208
  a77 := Try.isAgg208
  z77 := Try.sizeOf208
  v77 := Try.zeroValue208 }
end Go.Proofs.Ytjpfnfckpgilgaa


namespace Go.Proofs.Ytjpfnfckpgilgaa
open Go Vx Go.Shelf Go.RowKit
instance : Inhabited O3 := ⟨O3.zero⟩
def cmpO (a b : O3) : Int := lexI a.l b.l
theorem below_grow {W w' : World} (hb : Below W.heap.size W w') (hd : W.drawn ≤ w'.drawn) : ∃ q os', w' = Go.Sort.grow (W.drewN q) os' := by
  refine ⟨w'.drawn - W.drawn, w'.heap.extract W.heap.size w'.heap.size, ?_⟩
  obtain ⟨h1, h2, h3, h4, h5⟩ := hb
  cases w' with | mk heap tape drawn os output =>
  cases W with | mk heap0 tape0 drawn0 os0 output0 =>
  simp only at h1 h2 h3 h4 h5 hd
  subst h1 h2 h3
  simp only [Go.Sort.grow, World.drewN, World.mk.injEq, true_and, and_true]
  refine ⟨?_, by omega⟩
  apply Array.ext_getElem?
  intro i
  by_cases hi : i < heap0.size
  · rw [Array.getElem?_append_left hi, h5 i hi]
  · rw [Array.getElem?_append_right (by omega), Array.getElem?_extract]
    by_cases hj : i < heap.size
    · rw [if_pos (by omega), show heap0.size + (i - heap0.size) = i by omega]
    · rw [if_neg (by omega), Array.getElem?_eq_none (by omega)]
theorem cmpSem (a b : O3) : PlainSem Try.prog 80 [a.v, b.v] (vI (cmpO a b)) := okCg.tbl 80 [a.v, b.v] (vI (cmpO a b)) (by intro x hx; simp only [List.mem_cons, List.not_mem_nil, or_false] at hx; rcases hx with rfl | rfl <;> rfl) rfl rfl
theorem lt_t {x y : O3} : Go.Proofs.ltOf cmpO x y = true ↔ lexI x.l y.l < 0 := decide_eq_true_iff
theorem lt_f {x y : O3} : Go.Proofs.ltOf cmpO x y = false ↔ ¬ lexI x.l y.l < 0 := decide_eq_false_iff_not
theorem cmp_swo : Go.Sort.SWO (Go.Proofs.ltOf cmpO) where
  irrefl x := by
    have := (lexI_zero (l := x.l) (m := x.l) rfl).2 rfl
    rw [lt_f, this]
    omega
  trans x y z h1 h2 := by
    rw [lt_t] at *
    have h3 := lexI_trans (l := x.l) (m := y.l) (n := z.l) rfl rfl (by omega) (by omega)
    by_cases h0 : lexI x.l z.l = 0
    · have e := (lexI_zero (l := x.l) (m := z.l) rfl).1 h0
      rw [e, lexI_neg y.l z.l] at h1
      omega
    · omega
  ntrans x y z h1 h2 := by
    rw [lt_f] at *
    have e1 := lexI_neg x.l y.l
    have e2 := lexI_neg y.l z.l
    have e3 := lexI_neg x.l z.l
    have h3 := lexI_trans (l := z.l) (m := y.l) (n := x.l) rfl rfl (by omega) (by omega)
    omega
/-- A list in order. -/
def insO (o : O3) : List O3 → List O3
  | [] => [o]
  | x :: l => match decide (lexI x.l o.l < 0) with
    | true => x :: insO o l
    | false => o :: x :: l
def sortO : List O3 → List O3
  | [] => []
  | o :: l => insO o (sortO l)
def SortedO (l : List O3) : Prop := l.Pairwise fun a b => lexI a.l b.l ≤ 0
theorem insO_perm (o : O3) : ∀ (l : List O3), (insO o l).Perm (o :: l)
  | [] => List.Perm.refl _
  | x :: l => by
    simp only [insO]
    split
    · exact ((insO_perm o l).cons x).trans (List.Perm.swap o x l)
    · exact List.Perm.refl _
theorem sortO_perm : ∀ (l : List O3), (sortO l).Perm l
  | [] => List.Perm.refl _
  | o :: l => (insO_perm o (sortO l)).trans ((sortO_perm l).cons o)
theorem insO_sorted (o : O3) : ∀ (l : List O3), SortedO l → SortedO (insO o l)
  | [], _ => by simp [insO, SortedO]
  | x :: l, h => by
    unfold SortedO at h
    rw [List.pairwise_cons] at h
    simp only [insO]
    split
    · rename_i hd
      have hd' : lexI x.l o.l < 0 := by simpa using hd
      unfold SortedO
      rw [List.pairwise_cons]
      refine ⟨fun y hy => ?_, insO_sorted o l h.2⟩
      rcases List.mem_cons.1 ((insO_perm o l).mem_iff.1 hy) with rfl | hy
      · omega
      · exact h.1 y hy
    · rename_i hd
      have hd' : ¬ lexI x.l o.l < 0 := by simpa using hd
      have ho : lexI o.l x.l ≤ 0 := by rw [lexI_neg x.l o.l]; omega
      unfold SortedO
      rw [List.pairwise_cons]
      refine ⟨fun y hy => ?_, List.pairwise_cons.2 h⟩
      rcases List.mem_cons.1 hy with rfl | hy
      · exact ho
      · exact lexI_trans (l := o.l) (m := x.l) (n := y.l) rfl rfl ho (h.1 y hy)
theorem sortO_sorted : ∀ (l : List O3), SortedO (sortO l)
  | [] => List.Pairwise.nil
  | o :: l => insO_sorted o _ (sortO_sorted l)
/-- Lists in order with the same members are one. -/
theorem sorted_one : ∀ {l m : List O3}, SortedO l → SortedO m → l.Perm m → l = m
  | [], m, _, _, hp => by rw [List.nil_perm.1 hp]
  | x :: l, m, hl, hm, hp => by
    cases m with
    | nil => exact absurd hp.symm (by simp)
    | cons y m =>
      unfold SortedO at hl hm
      rw [List.pairwise_cons] at hl hm
      have hxy : x = y := by
        have hx : x ∈ y :: m := hp.mem_iff.1 (by simp)
        have hy : y ∈ x :: l := hp.mem_iff.2 (by simp)
        rcases List.mem_cons.1 hx with rfl | hx
        · rfl
        · rcases List.mem_cons.1 hy with rfl | hy
          · rfl
          · have h1 := hm.1 x hx
            have h2 := hl.1 y hy
            have h3 := lexI_neg x.l y.l
            exact O3.l_inj ((lexI_zero (l := x.l) (m := y.l) rfl).1 (by omega))
      subst hxy
      rw [sorted_one hl.2 hm.2 ((List.perm_cons x).1 hp)]
/-- What the library says of the sort, as a list. -/
theorem sorted_list {d d' : Array O3} (hp : Go.Sort.PermIn 0 d.size d d') (hs : Go.Sort.SortedIn (Go.Proofs.ltOf cmpO) 0 d.size d') : d'.toList = sortO d.toList := by
  obtain ⟨h1, -, h3⟩ := hp
  rw [Array.extract_size, show d'.extract 0 d.size = d' by rw [← h1, Array.extract_size]] at h3
  refine sorted_one ?_ (sortO_sorted _) (h3.trans (sortO_perm _).symm)
  unfold SortedO
  rw [List.pairwise_iff_getElem]
  intro i j hi hj hij
  have hi' : i < d'.size := by simpa using hi
  have hj' : j < d'.size := by simpa using hj
  have h := hs i j (Nat.zero_le _) hij (by omega)
  rw [getElem!_pos d' j hj', getElem!_pos d' i hi', lt_f] at h
  have h4 := lexI_neg d'[j].l d'[i].l
  simp only [Array.getElem_toList]
  omega
end Go.Proofs.Ytjpfnfckpgilgaa


namespace Go.Proofs.Ytjpfnfckpgilgaa
open Go Vx Go.Shelf Go.RowKit Go.Sort
theorem O3.cells_len (o : O3) : o.cells.length = 12 := rfl
theorem O3.cells_plain (o : O3) : allL plain0 o.cells = true := rfl
theorem O3.cells_cell (o : O3) (k : Nat) (hk : k < 12) : o.cells[k]? = some o.cells[k]! ∧ plain0 o.cells[k]! = true := by
  match k, hk with
  | 0, _ => exact ⟨rfl, rfl⟩
  | 1, _ => exact ⟨rfl, rfl⟩
  | 2, _ => exact ⟨rfl, rfl⟩
  | 3, _ => exact ⟨rfl, rfl⟩
  | 4, _ => exact ⟨rfl, rfl⟩
  | 5, _ => exact ⟨rfl, rfl⟩
  | 6, _ => exact ⟨rfl, rfl⟩
  | 7, _ => exact ⟨rfl, rfl⟩
  | 8, _ => exact ⟨rfl, rfl⟩
  | 9, _ => exact ⟨rfl, rfl⟩
  | 10, _ => exact ⟨rfl, rfl⟩
  | 11, _ => exact ⟨rfl, rfl⟩
  | k + 12, h => omega
theorem opRow_arr {xs : List O3} {i : Nat} (hi : i < xs.length) : opRow xs i = (xs.toArray[i]!).cells := by
  unfold opRow
  rw [getElem!_pos xs.toArray i (by simpa using hi)]
  simp [hi]
/-- A list of maps, held as the library's sort wants it. -/
theorem holds_ops {w : World} {r : Vx.Ren} {p : Vx.Place} {xs : List O3} (h : BlkRel w r p (.rows true true 12 xs.length (opRow xs))) : HoldsK O3.cells 12 w p.blk p.off xs.toArray := by
  obtain ⟨_, _, _, _, cs, T, fz, _, h3, h4, h5⟩ := h
  obtain ⟨rfl, -⟩ := h4 rfl
  intro t ht
  rw [size_flatK] at ht
  have ht' : t < xs.length * 12 := by simpa using ht
  rw [get_flatK _ _ _ t ht]
  have hi : t / 12 < xs.length := by omega
  obtain ⟨h6, h7⟩ := O3.cells_cell (xs.toArray[t / 12]!) (t % 12) (by omega)
  obtain ⟨v', h8, h9⟩ := (h5 (t / 12) hi).2 (t % 12) _ (by rw [opRow_arr hi]; exact h6)
  rw [R0_plain h7] at h9
  subst h9
  refine ⟨?_, ?_⟩
  · rw [show p.off + t = p.off + t / 12 * 12 + t % 12 by omega, cell_of h3]
    exact h8
  · simp [World.frozen?, h3]
/-- The row laid anew: only this block changes. -/
theorem put_only (w : World) (blk off : Nat) (d : Array O3) : Only blk w (putRowK O3.cells 12 w blk off d) := by
  refine ⟨fun k hk => ?_, ?_, rfl, rfl, rfl, rfl⟩
  · simp only [putRowK, Go.Sort.putRow, Go.Sort.mapBlock, Array.getElem?_modify, if_neg (Ne.symm hk)]
  · simp only [putRowK, Go.Sort.putRow, Go.Sort.mapBlock, Array.size_modify]
theorem put_rel {w : World} {r : Vx.Ren} {p : Vx.Place} {xs ys : List O3} (hl : ys.length = xs.length) (h : BlkRel w r p (.rows true true 12 xs.length (opRow xs))) : BlkRel (putRowK O3.cells 12 w p.blk p.off ys.toArray) r p (.rows true true 12 xs.length (opRow ys)) := by
  have hh := holdsK_putRowK O3.cells 12 w p.blk p.off xs.toArray ys.toArray (holds_ops h) (by simpa using hl)
  obtain ⟨h1, h2, h0, _, cs, T, fz, h6, h3, h4, h5⟩ := h
  have hw : (putRowK O3.cells 12 w p.blk p.off ys.toArray).heap[p.blk]? = some (.cells (Go.Sort.putCells id p.off (flatK O3.cells 12 ys.toArray) cs) T fz) := by
    simp only [putRowK, Go.Sort.putRow, Go.Sort.mapBlock, Array.getElem?_modify, h3]
    rfl
  refine ⟨h1, h2, h0, fun _ i hi => O3.cells_plain _, _, T, fz, h6, hw, fun ho => ⟨(h4 ho).1, by simpa [Go.Sort.putCells] using (h4 ho).2⟩, fun i hi => ⟨rfl, fun k v hv => ?_⟩⟩
  have hk : k < 12 := (List.getElem?_eq_some_iff.1 hv).1
  have hi' : i < ys.length := by omega
  rw [opRow_arr hi'] at hv
  obtain ⟨h7, h8⟩ := O3.cells_cell (ys.toArray[i]!) k hk
  rw [h7] at hv
  have ht : i * 12 + k < ys.toArray.size * 12 := by simp; omega
  have := (hh (i * 12 + k) (by rw [size_flatK]; exact ht)).1
  rw [get_flatK _ _ _ _ ht, show (i * 12 + k) / 12 = i by omega, show (i * 12 + k) % 12 = k by omega] at this
  simp only [World.cell?, hw, id] at this
  simp only [Option.some.injEq] at hv
  subst hv
  exact ⟨_, by rw [Nat.add_assoc]; exact this, (R0_plain h8).2 rfl⟩
end Go.Proofs.Ytjpfnfckpgilgaa


namespace Go.Proofs.Ytjpfnfckpgilgaa
open Go Vx Go.Shelf Go.RowKit Go.Sort
theorem cmpLays (blk off size : Nat) (w : World) : CmpLays Try.prog 80 #[] O3.cells 12 cmpO blk off size w := fun _ _ _ _ x y =>
  ((cmpSem x y).2 _).mono fun _ _ ⟨he, hb, hd⟩ => ⟨he, below_grow hb hd⟩
theorem sortO_len (xs : List O3) : (sortO xs).length = xs.length := (sortO_perm xs).length_eq
theorem below_ahead (w : World) (n : Nat) : Below w.heap.size w (Go.Sort.ahead w n) := ⟨rfl, rfl, rfl, Nat.le_refl _, fun _ _ => rfl⟩
theorem below_grown (w : World) (os : Array Obj) : Below w.heap.size w (Go.Sort.grow w os) := ⟨rfl, rfl, rfl, by simp [Go.Sort.grow], fun k hk => by simp only [Go.Sort.grow]; rw [Array.getElem?_append_left hk]⟩
theorem sortSem (xs : List O3) (hl : xs.length ≤ 1000) : MemSem Try.prog 79 [.slice (some ⟨0, 0, some 0⟩) xs.length 12, .func (.func 80) #[] #[]] [.rows true true 12 xs.length (opRow xs)] (.tuple #[]) [.rows true true 12 xs.length (opRow (sortO xs))] := by
  refine ⟨okFunc_spec (by kernel_rfl), fun w0 keep r args' w ha hm => ?_⟩
  match args', ha with
  | [a', f'], ha =>
    obtain ⟨h1, h2, -⟩ := ha
    have hf : f' = .func (.func 80) #[] #[] := (R_plain (v := .func (.func 80) #[] #[]) rfl).1 h2
    subst hf
    have h1' : R0 r (.slice (some ⟨0, 0, some 0⟩) xs.length 12) a' := h1
    unfold R0 at h1'
    simp only at h1'
    cases hr : r 0 with
    | none => rw [hr] at h1'; exact h1'.elim
    | some q =>
      rw [hr] at h1'
      cases q with
      | none => have := hm.dead 0 hr; simp at this
      | some p =>
        obtain ⟨c, rfl, hsl⟩ := h1'
        obtain ⟨k, hk1, hk2⟩ := hm.blk 0 p hr
        simp only [List.getElem?_cons_zero, Option.some.injEq] at hk1
        subst hk1
        have hown : p.own = true := hk2.1
        have hcon := AnyQ.slices_SortFunc sortOp 12 Try.isAgg38 Try.sizeOf38 O3.cells O3.cells_len (fun x v hv => by
          have := allL_iff.1 (O3.cells_plain x) v hv
          cases v <;> first | rfl | cases this) cmpO cmp_swo 80 #[] p.blk p.off c xs.toArray w (enters_of Try.func80 (by kernel_rfl) rfl) (cmpLays _ _ _ _) (holds_ops hk2) hk2.lt (by simp; omega)
        change Calls Try.prog 79 _ _ _ at hcon
        have hadr : p.addr ⟨0, 0, some 0⟩ = ⟨p.blk, p.off, none⟩ := by simp [Vx.Place.addr]
        rw [hadr]
        have hsz : xs.toArray.size = xs.length := by simp
        rw [hsz] at hcon
        refine hcon.mono ?_
        rintro e w' ⟨rfl, d', n, os, hp, hs, rfl⟩
        have hd : d'.toList = sortO xs := by
          have := sorted_list (d := xs.toArray) (d' := d') (by rw [hsz]; exact hp) (by rw [hsz]; exact hs)
          simpa using this
        have hd2 : d' = (sortO xs).toArray := by rw [← hd]
        subst hd2
        refine ⟨.tuple #[], r, rfl, ⟨#[], rfl, trivial⟩, ?_, Ext.refl r⟩
        unfold sortWorldK
        have m1 := hm.later (below_ahead w n) (by simp [Go.Sort.ahead])
        have b1 : BlkRel (Go.Sort.ahead w n) r p (.rows true true 12 xs.length (opRow xs)) := hk2.mono rfl (Ext.refl r)
        have m2 := m1.turn hr hown (by simp [isGrow]) (put_only _ _ _ _) (put_rel (ys := sortO xs) (sortO_len xs) b1)
        exact m2.later (below_grown _ os) (Nat.le_refl _)
  | [], ha => exact ha.elim
  | [_], ha => exact ha.2.elim
  | _ :: _ :: _ :: _, ha => exact ha.2.2.elim
end Go.Proofs.Ytjpfnfckpgilgaa


namespace Go.Proofs.Ytjpfnfckpgilgaa.Vx
open Go

instance : DecidableEq O3 := fun a b => match h : a.eqB b with
  | true => isTrue (O3.eqB_iff.1 h)
  | false => isFalse (O3.eqB_false.1 h)

/-! Lists without doubles -/
theorem nodup_sub {α : Type} [DecidableEq α] : ∀ {l m : List α}, l.Nodup → (∀ x ∈ l, x ∈ m) → l.length ≤ m.length
  | [], m, _, _ => Nat.zero_le _
  | x :: l, m, h, hs => by
    rw [List.nodup_cons] at h
    have hx : x ∈ m := hs x (by simp)
    have := nodup_sub (l := l) (m := m.erase x) h.2 fun y hy => by
      have hne : y ≠ x := fun e => h.1 (e ▸ hy)
      exact (List.mem_erase_of_ne hne).2 (hs y (by simp [hy]))
    rw [List.length_erase_of_mem hx] at this
    have : 0 < m.length := List.length_pos_of_mem hx
    simp only [List.length_cons]; omega
theorem nodup_onto {α : Type} [DecidableEq α] {l m : List α} (h : l.Nodup) (hs : ∀ x ∈ l, x ∈ m) (hl : m.length ≤ l.length) : ∀ x ∈ m, x ∈ l := by
  intro x hx
  by_cases hxl : x ∈ l
  · exact hxl
  · exfalso
    have := nodup_sub (l := x :: l) (m := m) (List.nodup_cons.2 ⟨hxl, h⟩) fun y hy => by
      rcases List.mem_cons.1 hy with rfl | hy
      · exact hx
      · exact hs y hy
    simp only [List.length_cons] at this; omega
theorem nodup_map {α β : Type} {f : α → β} {l : List α} (h : l.Nodup) (hf : ∀ a ∈ l, ∀ b ∈ l, f a = f b → a = b) : (l.map f).Nodup := by
  unfold List.Nodup at *
  rw [List.pairwise_map]
  exact h.imp_of_mem fun ha hb hne e => hne (hf _ ha _ hb e)

/-! Maps that can be undone -/
def O3.Inv (a : O3) : Prop := a.t.part = true ∧ a.r.U
theorem O3.inv_ck {a : O3} (h : a.ck = 0) : a.Inv := ⟨(O3.ck_zero.1 h).1, (O3.ck_zero.1 h).2.2⟩
theorem O3.ck_of {a : O3} (h : a.Inv) (hk : a.r.ok = true) : a.ck = 0 := O3.ck_zero.2 ⟨h.1, hk, h.2⟩
theorem O3.Inv.one : O3.one.Inv := ⟨by decide, M3.U_one⟩
theorem O3.one_ck : O3.one.ck = 0 := O3.ck_of O3.Inv.one (by decide)
theorem O3.Inv.mul {a b : O3} (ha : a.Inv) (hb : b.Inv) : (a.mul b).Inv := ⟨V3.md_part _, M3.U_mul ha.2 hb.2⟩
theorem O3.cancel_l {a b c : O3} (ha : a.Inv) (hb : b.Inv) (hc : c.Inv) (h : a.mul b = a.mul c) : b = c := by
  have := congrArg (O3.mul a.inv) h
  rwa [← O3.mul_assoc, ← O3.mul_assoc, O3.inv_mul ha.2, O3.one_mul hb.1, O3.one_mul hc.1] at this
theorem O3.mulE_iff {a b : O3} (ha : a.ck = 0) (hb : b.ck = 0) : a.mulE b = 0 ↔ (a.mul b).r.ok = true := by
  unfold O3.mulE
  rw [leastI_zero.2 ⟨ha, hb⟩]
  unfold O3.smallE
  cases (a.mul b).r.ok <;> simp

/-! What maps generate -/
inductive Gen (xs : List O3) : O3 → Prop
  | one : Gen xs O3.one
  | step {g x : O3} : Gen xs g → x ∈ xs → Gen xs (g.mul x)
def AllInv (xs : List O3) : Prop := ∀ x ∈ xs, x.Inv
theorem Gen.inv {xs : List O3} (hx : AllInv xs) {g : O3} (h : Gen xs g) : g.Inv := by
  induction h with
  | one => exact O3.Inv.one
  | step _ hm ih => exact ih.mul (hx _ hm)
theorem Gen.of {xs : List O3} (hx : AllInv xs) {x : O3} (h : x ∈ xs) : Gen xs x := by
  have := Gen.step (xs := xs) Gen.one h
  rwa [O3.one_mul (hx x h).1] at this
theorem Gen.mul {xs : List O3} (hx : AllInv xs) {g h : O3} (hg : Gen xs g) (hh : Gen xs h) : Gen xs (g.mul h) := by
  induction hh with
  | one => rwa [O3.mul_one (hg.inv hx).1]
  | step _ hm ih => rw [← O3.mul_assoc]; exact Gen.step ih hm
theorem Gen.mono {xs ys : List O3} (hy : AllInv ys) (h : ∀ x ∈ xs, Gen ys x) {g : O3} (hg : Gen xs g) : Gen ys g := by
  induction hg with
  | one => exact Gen.one
  | step _ hm ih => exact ih.mul hy (h _ hm)
/-- There is no group of at most so many maps. -/
def Bad (xs : List O3) : Prop := (∃ g, Gen xs g ∧ g.r.ok = false) ∨ ∃ l : List O3, l.Nodup ∧ 192 < l.length ∧ ∀ g ∈ l, Gen xs g
/-- The group, as a list. -/
def IsGrp (xs l : List O3) : Prop := l.Nodup ∧ l.length ≤ 192 ∧ (∀ g, g ∈ l ↔ Gen xs g) ∧ ∀ g ∈ l, g.ck = 0
theorem IsGrp.not_bad {xs l : List O3} (h : IsGrp xs l) : ¬ Bad xs := by
  obtain ⟨h1, h2, h3, h4⟩ := h
  rintro (⟨g, hg, hk⟩ | ⟨m, k1, k2, k3⟩)
  · have := (O3.ck_zero.1 (h4 g ((h3 g).2 hg))).2.1
    rw [hk] at this; cases this
  · have := nodup_sub k1 fun x hx => (h3 x).2 (k3 x hx)
    omega
theorem Bad.mono {xs ys : List O3} (hy : AllInv ys) (h : ∀ x ∈ xs, Gen ys x) (hb : Bad xs) : Bad ys := by
  rcases hb with ⟨g, hg, hk⟩ | ⟨m, k1, k2, k3⟩
  · exact Or.inl ⟨g, hg.mono hy h, hk⟩
  · exact Or.inr ⟨m, k1, k2, fun g hg => (k3 g hg).mono hy h⟩
theorem IsGrp.perm {xs l m : List O3} (h : IsGrp xs l) (k : IsGrp xs m) : l.Perm m := (List.perm_ext_iff_of_nodup h.1 k.1).2 fun g => by rw [h.2.2.1, k.2.2.1]
/-- A group: each of its maps is undone by one of them. -/
theorem grp_undo {H : List O3} (hn : H.Nodup) (hi : ∀ h ∈ H, h.Inv) (h1 : O3.one ∈ H) (hm : ∀ a ∈ H, ∀ b ∈ H, a.mul b ∈ H) {a : O3} (ha : a ∈ H) : ∃ b ∈ H, a.mul b = O3.one := by
  have hnd : (H.map a.mul).Nodup := nodup_map hn fun x hx y hy e => O3.cancel_l (hi a ha) (hi x hx) (hi y hy) e
  have := nodup_onto hnd (m := H) (fun x hx => by
    obtain ⟨y, hy, rfl⟩ := List.mem_map.1 hx
    exact hm a ha y hy) (by simp) O3.one h1
  obtain ⟨b, hb, e⟩ := List.mem_map.1 this
  exact ⟨b, hb, e⟩

/-! Cosets -/
/-- The cosets of H that begin with these maps. -/
def cosets (H bs : List O3) : List O3 := bs.flatMap fun b => H.map b.mul
theorem cosets_len (H : List O3) : ∀ (bs : List O3), (cosets H bs).length = bs.length * H.length
  | [] => by simp [cosets]
  | b :: bs => by
    have := cosets_len H bs
    unfold cosets at this ⊢
    simp only [List.flatMap_cons, List.length_append, List.length_map, List.length_cons, this]
    rw [Nat.add_mul]; omega
theorem cosets_snoc (H bs : List O3) (b : O3) : cosets H (bs ++ [b]) = cosets H bs ++ H.map b.mul := by
  unfold cosets; rw [List.flatMap_append]; simp
theorem mem_cosets {H bs : List O3} {g : O3} : g ∈ cosets H bs ↔ ∃ b ∈ bs, ∃ h ∈ H, b.mul h = g := by
  unfold cosets
  simp only [List.mem_flatMap, List.mem_map]
structure Grp (H : List O3) : Prop where
  nd : H.Nodup
  ck : ∀ h ∈ H, h.ck = 0
  one : O3.one ∈ H
  mul : ∀ a ∈ H, ∀ b ∈ H, a.mul b ∈ H
theorem IsGrp.grp {xs l : List O3} (hx : AllInv xs) (h : IsGrp xs l) : Grp l := ⟨h.1, h.2.2.2, (h.2.2.1 _).2 Gen.one, fun a ha b hb => (h.2.2.1 _).2 (((h.2.2.1 a).1 ha).mul hx ((h.2.2.1 b).1 hb))⟩
/-- A coset whose first map is new has no map in common with the others. -/
theorem coset_new {H bs : List O3} (hH : Grp H) {f : O3} (hf : f.Inv) (hn : f ∉ cosets H bs) : (∀ g ∈ H.map f.mul, g ∉ cosets H bs) ∧ (H.map f.mul).Nodup := by
  have hi : ∀ h ∈ H, h.Inv := fun h hh => O3.inv_ck (hH.ck h hh)
  constructor
  · intro g hg hc
    obtain ⟨a, ha, rfl⟩ := List.mem_map.1 hg
    obtain ⟨b, hb', h, hh, e⟩ := mem_cosets.1 hc
    obtain ⟨a', ha', e'⟩ := grp_undo hH.nd hi hH.one hH.mul ha
    apply hn
    refine mem_cosets.2 ⟨b, hb', h.mul a', hH.mul h hh a' ha', ?_⟩
    rw [← O3.mul_assoc, e, O3.mul_assoc, e', O3.mul_one hf.1]
  · exact nodup_map hH.nd fun x hx y hy e => O3.cancel_l hf (hi x hx) (hi y hy) e
/-- Cosets that the makers keep among themselves are all that the makers generate. -/
theorem cosets_all {H bs ms : List O3} (hm : AllInv ms) (hH : Grp H) (hb : ∀ b ∈ bs, Gen ms b) (hHg : ∀ h ∈ H, Gen ms h) (h1 : O3.one ∈ bs) (hc : ∀ b ∈ bs, ∀ m ∈ ms, m.mul b ∈ cosets H bs) (g : O3) : g ∈ cosets H bs ↔ Gen ms g := by
  constructor
  · intro h
    obtain ⟨b, hb', k, hk, rfl⟩ := mem_cosets.1 h
    exact (hb b hb').mul hm (hHg k hk)
  · intro h
    have hcl : ∀ m ∈ ms, ∀ y ∈ cosets H bs, m.mul y ∈ cosets H bs := fun m hmm y hy => by
      obtain ⟨b, hb', k, hk, rfl⟩ := mem_cosets.1 hy
      obtain ⟨b', hb2, k', hk', e⟩ := mem_cosets.1 (hc b hb' m hmm)
      exact mem_cosets.2 ⟨b', hb2, k'.mul k, hH.mul _ hk' _ hk, by rw [← O3.mul_assoc, e, O3.mul_assoc]⟩
    have hall : ∀ g, Gen ms g → ∀ y ∈ cosets H bs, g.mul y ∈ cosets H bs := by
      intro g hg
      induction hg with
      | one =>
        intro y hy
        obtain ⟨b, hb', k, hk, rfl⟩ := mem_cosets.1 hy
        rw [O3.one_mul (V3.md_part _)]
        exact hy
      | step _ hmm ih => intro y hy; rw [O3.mul_assoc]; exact ih _ (hcl _ hmm y hy)
    have h1' : O3.one ∈ cosets H bs := mem_cosets.2 ⟨O3.one, h1, O3.one, hH.one, O3.one_mul (by decide)⟩
    have := hall g h O3.one h1'
    rwa [O3.mul_one (h.inv hm).1] at this
end Go.Proofs.Ytjpfnfckpgilgaa.Vx


namespace Go.Proofs.Ytjpfnfckpgilgaa
open Go Vx

theorem mHas_put (k j : List Int) (v : Int) : ∀ (es : ES), mHas j (mPut k v es) = true ↔ j = k ∨ mHas j es = true
  | [] => by
    simp only [mPut, mHas]
    by_cases h : k = j
    · subst h; simp
    · simp [h, Ne.symm h]
  | e :: es => by
    have ih := mHas_put k j v es
    simp only [mPut]
    by_cases h : e.1 = k
    · rw [show decide (e.1 = k) = true by simpa using h]
      simp only [mHas]
      by_cases hj : k = j
      · subst hj; simp
      · have hj' : ¬ e.1 = j := by rw [h]; exact hj
        simp [hj, hj', Ne.symm hj]
    · rw [show decide (e.1 = k) = false by simpa using h]
      simp only [mHas]
      by_cases hj : e.1 = j
      · simp [hj]
      · rw [show decide (e.1 = j) = false by simpa using hj]
        exact ih
/-- The keys are the maps. -/
def Keys (xs : List O3) (es : ES) : Prop := ∀ o, mHas (key o) es = true ↔ o ∈ xs
theorem Keys.put {xs : List O3} {es : ES} (h : Keys xs es) (o : O3) : Keys (xs ++ [o]) (mPut (key o) 0 es) := fun p => by
  rw [mHas_put, h p, List.mem_append, List.mem_singleton]
  constructor
  · rintro (e | e)
    · exact Or.inr (key_inj e)
    · exact Or.inl e
  · rintro (e | e)
    · exact Or.inr e
    · exact Or.inl (by rw [e])
/-- A coset that goes through. -/
theorem cosL_spec {f : O3} (hf : f.ck = 0) : ∀ (l : List O3) (xs : List O3) (es : ES), (∀ a ∈ l, a.ck = 0) → Keys xs es →
    ((cosL f l xs es).1 = true ∧ (cosL f l xs es).2.1 = xs ++ l.map f.mul ∧ Keys (xs ++ l.map f.mul) (cosL f l xs es).2.2 ∧ ∀ a ∈ l, (f.mul a).ck = 0) ∨ ((cosL f l xs es).1 = false ∧ ∃ a ∈ l, (f.mul a).r.ok = false)
  | [], xs, es, _, hk => Or.inl ⟨rfl, by simp [cosL], by simpa [cosL] using hk, by simp⟩
  | a :: l, xs, es, hl, hk => by
    have ha := hl a (by simp)
    simp only [cosL]
    by_cases he : f.mulE a = 0
    · obtain ⟨e1, e2⟩ := O3.mulF_of hf ha he
      rw [(beq_true he).2, e1]
      rcases cosL_spec hf l (xs ++ [f.mul a]) (mPut (key (f.mul a)) 0 es) (fun x hx => hl x (by simp [hx])) (hk.put _) with ⟨h1, h2, h3, h4⟩ | ⟨h1, b, hb, h2⟩
      · left
        refine ⟨h1, by rw [h2]; simp, by simpa using h3, fun x hx => ?_⟩
        rcases List.mem_cons.1 hx with rfl | hx
        · exact e2
        · exact h4 x hx
      · right
        exact ⟨h1, b, by simp [hb], h2⟩
    · right
      rw [(bif_beq he).2]
      refine ⟨rfl, a, by simp, ?_⟩
      rw [O3.mulE_iff hf ha] at he
      simpa using he
/-- A span on its way: cosets of a group, each with its first map. -/
structure Way (H ms bs xs : List O3) (es : ES) : Prop where
  eq : xs = cosets H bs
  keys : Keys xs es
  nd : xs.Nodup
  ck : ∀ g ∈ xs, g.ck = 0
  gen : ∀ b ∈ bs, Gen ms b
  bck : ∀ b ∈ bs, b.ck = 0
  head : xs.take H.length = H
  len : xs.length ≤ 192
structure Base (H ms : List O3) : Prop where
  grp : Grp H
  gen : ∀ h ∈ H, Gen ms h
  inv : AllInv ms
  mck : ∀ m ∈ ms, m.ck = 0
  first : ∃ l, H = O3.one :: l
theorem tcStep_spec {H ms bs xs : List O3} {es : ES} (hB : Base H ms) (hW : Way H ms bs xs es) {m b : O3} (hm : m ∈ ms) (hb : b ∈ bs) :
    (∃ r bs', tcStep m b (H.length : Int) xs es = some r ∧ Way H ms (bs ++ bs') r.1 r.2 ∧ m.mul b ∈ r.1) ∨ (tcStep m b (H.length : Int) xs es = none ∧ Bad ms) := by
  have hmk := hB.mck m hm
  have hbk := hW.bck b hb
  have hg : Gen ms (m.mul b) := (Gen.of hB.inv hm).mul hB.inv (hW.gen b hb)
  unfold tcStep
  by_cases he : m.mulE b = 0
  · obtain ⟨e1, e2⟩ := O3.mulF_of hmk hbk he
    rw [(beq_true he).2, e1]
    simp only
    by_cases hh : mHas (key (m.mul b)) es = true
    · rw [hh]
      left
      refine ⟨(xs, es), [], rfl, by simpa using hW, (hW.keys _).1 hh⟩
    · have hnm : m.mul b ∉ xs := fun h => hh ((hW.keys _).2 h)
      rw [Bool.not_eq_true] at hh
      rw [hh]
      simp only
      have hnew := coset_new hB.grp (O3.inv_ck e2) (by rw [← hW.eq]; exact hnm)
      have hnd : (xs ++ H.map (m.mul b).mul).Nodup := List.nodup_append.2 ⟨hW.nd, hnew.2, fun a ha c hc e => by
        subst e
        exact hnew.1 a hc (by rw [← hW.eq]; exact ha)⟩
      have hgen : ∀ g ∈ xs ++ H.map (m.mul b).mul, Gen ms g := fun g hg' => by
        rcases List.mem_append.1 hg' with h | h
        · rw [hW.eq] at h
          obtain ⟨c, hc, k, hk, rfl⟩ := mem_cosets.1 h
          exact (hW.gen c hc).mul hB.inv (hB.gen k hk)
        · obtain ⟨k, hk, rfl⟩ := List.mem_map.1 h
          exact hg.mul hB.inv (hB.gen k hk)
      by_cases hl : (xs.length : Int) + (H.length : Int) > 192
      · rw [show decide ((xs.length : Int) + (H.length : Int) > 192) = true by simpa using hl]
        right
        exact ⟨rfl, Or.inr ⟨_, hnd, by simp; omega, hgen⟩⟩
      · rw [show decide ((xs.length : Int) + (H.length : Int) > 192) = false by simpa using hl]
        simp only [Int.toNat_natCast, hW.head]
        rcases cosL_spec e2 H xs es hB.grp.ck hW.keys with ⟨h1, h2, h3, h4⟩ | ⟨h1, a, ha, h2⟩
        · rw [h1]
          left
          refine ⟨_, [m.mul b], rfl, ?_, ?_⟩
          · rw [h2]
            refine ⟨by rw [cosets_snoc, ← hW.eq], h3, hnd, fun g hg' => ?_, fun c hc => ?_, fun c hc => ?_, ?_, ?_⟩
            · rcases List.mem_append.1 hg' with h | h
              · exact hW.ck g h
              · obtain ⟨k, hk, rfl⟩ := List.mem_map.1 h
                exact h4 k hk
            · rcases List.mem_append.1 hc with h | h
              · exact hW.gen c h
              · rw [List.mem_singleton] at h; subst h; exact hg
            · rcases List.mem_append.1 hc with h | h
              · exact hW.bck c h
              · rw [List.mem_singleton] at h; subst h; exact e2
            · have hle : H.length ≤ xs.length := by
                have := congrArg List.length hW.head
                rw [List.length_take] at this
                omega
              rw [List.take_append_of_le_length hle, hW.head]
            · simp; omega
          · rw [h2]
            refine List.mem_append_right _ (List.mem_map.2 ⟨O3.one, hB.grp.one, O3.mul_one (V3.md_part _)⟩)
        · rw [h1]
          right
          exact ⟨rfl, Or.inl ⟨_, hg.mul hB.inv (hB.gen a ha), h2⟩⟩
  · right
    rw [(bif_beq he).2]
    refine ⟨rfl, Or.inl ⟨_, hg, ?_⟩⟩
    rw [O3.mulE_iff hmk hbk] at he
    simpa using he
theorem Way.sub {H ms bs bs' xs xs' : List O3} {es es' : ES} (h : Way H ms bs xs es) (h' : Way H ms (bs ++ bs') xs' es') : ∀ g ∈ xs, g ∈ xs' := fun g hg => by
  rw [h.eq] at hg
  rw [h'.eq]
  obtain ⟨b, hb, k, hk, e⟩ := mem_cosets.1 hg
  exact mem_cosets.2 ⟨b, List.mem_append_left _ hb, k, hk, e⟩
/-- The first map of a coset, by its place. -/
theorem Way.at {H ms bs xs : List O3} {es : ES} (hB : Base H ms) (h : Way H ms bs xs es) {j : Nat} (hj : j < bs.length) : atO xs ((j * H.length : Nat) : Int) = bs[j] := by
  obtain ⟨l, hl⟩ := hB.first
  have key : ∀ (bs : List O3) (j : Nat) (hj : j < bs.length), (cosets H bs)[j * H.length]? = some (bs[j].mul O3.one) := by
    intro bs
    induction bs with
    | nil => intro j hj; simp at hj
    | cons b bs ih =>
      intro j hj
      have hc : cosets H (b :: bs) = H.map b.mul ++ cosets H bs := by unfold cosets; simp
      rw [hc]
      cases j with
      | zero => rw [Nat.zero_mul, hl]; simp
      | succ j =>
        have hj' : j < bs.length := by simpa using hj
        rw [List.getElem?_append_right (by rw [List.length_map, Nat.add_mul]; omega)]
        rw [List.length_map, show (j + 1) * H.length - H.length = j * H.length by rw [Nat.add_mul]; omega, ih j hj']
        simp
  unfold atO
  rw [Int.toNat_natCast, h.eq, key bs j hj, Option.getD_some, O3.mul_one]
  exact (O3.inv_ck (h.bck _ (List.getElem_mem hj))).1
theorem mkL_spec {H ms : List O3} (hB : Base H ms) : ∀ (l : List O3), (∀ m ∈ l, m ∈ ms) → ∀ (bs xs : List O3) (es : ES), Way H ms bs xs es → ∀ (j : Nat) (hj : j < bs.length),
    (∃ r bs', mkL ((j * H.length : Nat) : Int) (H.length : Int) l xs es = some r ∧ Way H ms (bs ++ bs') r.1 r.2 ∧ ∀ m ∈ l, m.mul bs[j] ∈ r.1) ∨ (mkL ((j * H.length : Nat) : Int) (H.length : Int) l xs es = none ∧ Bad ms)
  | [], _, bs, xs, es, hW, j, hj => Or.inl ⟨(xs, es), [], rfl, by simpa using hW, by simp⟩
  | m :: l, hl, bs, xs, es, hW, j, hj => by
    simp only [mkL]
    rw [hW.at hB hj]
    rcases tcStep_spec hB hW (hl m (by simp)) (List.getElem_mem hj) with ⟨r, b1, h1, h2, h3⟩ | ⟨h1, h2⟩
    · rw [h1]
      simp only
      rcases mkL_spec hB l (fun x hx => hl x (by simp [hx])) (bs ++ b1) r.1 r.2 h2 j (by simp; omega) with ⟨s, b2, k1, k2, k3⟩ | ⟨k1, k2⟩
      · left
        refine ⟨s, b1 ++ b2, k1, by rw [← List.append_assoc]; exact k2, fun x hx => ?_⟩
        rcases List.mem_cons.1 hx with rfl | hx
        · exact h2.sub k2 _ h3
        · have := k3 x hx
          rwa [List.getElem_append_left hj] at this
      · right; exact ⟨k1, k2⟩
    · right
      rw [h1]
      exact ⟨rfl, h2⟩
theorem outL_spec {H ms : List O3} (hB : Base H ms) : ∀ (N : Nat) (bs xs : List O3) (es : ES), Way H ms bs xs es → ∀ (j : Nat), j ≤ bs.length → N + j = 193 → (∀ (i : Nat) (hi : i < bs.length), i < j → ∀ m ∈ ms, m.mul bs[i] ∈ xs) →
    (∃ r bs', outL (H.length : Int) ms N ((j * H.length : Nat) : Int) xs es = some r ∧ Way H ms (bs ++ bs') r.1 r.2 ∧ ∀ b ∈ bs ++ bs', ∀ m ∈ ms, m.mul b ∈ r.1) ∨ (outL (H.length : Int) ms N ((j * H.length : Nat) : Int) xs es = none ∧ Bad ms)
  | 0, bs, xs, es, hW, j, hj, hN, hd => by
    exfalso
    have h1 := cosets_len H bs
    rw [← hW.eq] at h1
    have h2 := hW.len
    obtain ⟨l, hl⟩ := hB.first
    have h3 : 1 ≤ H.length := by rw [hl]; simp
    have : bs.length * 1 ≤ bs.length * H.length := Nat.mul_le_mul_left _ h3
    omega
  | N + 1, bs, xs, es, hW, j, hj, hN, hd => by
    simp only [outL]
    have h1 := cosets_len H bs
    rw [← hW.eq] at h1
    obtain ⟨l, hl⟩ := hB.first
    have h3 : 1 ≤ H.length := by rw [hl]; simp
    by_cases hlt : j < bs.length
    · have : j * H.length < bs.length * H.length := Nat.mul_lt_mul_of_lt_of_le hlt (Nat.le_refl _) h3
      rw [show decide (((j * H.length : Nat) : Int) < (xs.length : Int)) = true by simp only [decide_eq_true_eq]; omega]
      simp only
      rcases mkL_spec hB ms (fun _ h => h) bs xs es hW j hlt with ⟨r, b1, k1, k2, k3⟩ | ⟨k1, k2⟩
      · rw [k1]
        simp only
        have hnext := outL_spec hB N (bs ++ b1) r.1 r.2 k2 (j + 1) (by simp; omega) (by omega) fun i hi hij m hm => by
          by_cases hi2 : i < bs.length
          · rw [List.getElem_append_left hi2]
            by_cases hij2 : i < j
            · exact hW.sub k2 _ (hd i hi2 hij2 m hm)
            · obtain rfl : i = j := by omega
              exact k3 m hm
          · omega
        rw [show ((j * H.length : Nat) : Int) + (H.length : Int) = (((j + 1) * H.length : Nat) : Int) by rw [Nat.add_mul]; omega]
        rcases hnext with ⟨s, b2, e1, e2, e3⟩ | ⟨e1, e2⟩
        · left
          exact ⟨s, b1 ++ b2, e1, by rw [← List.append_assoc]; exact e2, by rw [← List.append_assoc]; exact e3⟩
        · right; exact ⟨e1, e2⟩
      · right
        rw [k1]
        exact ⟨rfl, k2⟩
    · obtain rfl : j = bs.length := by omega
      rw [show decide (((bs.length * H.length : Nat) : Int) < (xs.length : Int)) = false by simp only [decide_eq_false_iff_not]; omega]
      left
      refine ⟨(xs, es), [], rfl, by simpa using hW, fun b hb m hm => ?_⟩
      rw [List.append_nil] at hb
      obtain ⟨i, hi, rfl⟩ := List.mem_iff_getElem.1 hb
      exact hd i hi hi m hm
/-- A span that holds what its makers generate. -/
structure Span (xs ms : List O3) (es : ES) : Prop where
  grp : IsGrp ms xs
  keys : Keys xs es
  mck : ∀ m ∈ ms, m.ck = 0
  first : ∃ l, xs = O3.one :: l
theorem all_inv {l : List O3} (h : ∀ x ∈ l, x.ck = 0) : AllInv l := fun x hx => O3.inv_ck (h x hx)
theorem take_spec {xs ms : List O3} {es : ES} (hS : Span xs ms es) {o : O3} (ho : o.ck = 0) :
    (∃ r, outL (xs.length : Int) (ms ++ [o]) 193 0 xs es = some r ∧ Span r.1 (ms ++ [o]) r.2) ∨ (outL (xs.length : Int) (ms ++ [o]) 193 0 xs es = none ∧ Bad (ms ++ [o])) := by
  have hck : ∀ m ∈ ms ++ [o], m.ck = 0 := fun m hm => by
    rcases List.mem_append.1 hm with h | h
    · exact hS.mck m h
    · rw [List.mem_singleton] at h; subst h; exact ho
  have hi := all_inv hck
  have hg : ∀ h ∈ xs, Gen (ms ++ [o]) h := fun h hh => ((hS.grp.2.2.1 h).1 hh).mono hi fun x hx => Gen.of hi (List.mem_append_left _ hx)
  have hB : Base xs (ms ++ [o]) := ⟨hS.grp.grp (all_inv hS.mck), hg, hi, hck, hS.first⟩
  have h1 : xs.map O3.one.mul = xs := by
    conv => rhs; rw [← List.map_id xs]
    exact List.map_congr_left fun x hx => O3.one_mul (O3.inv_ck (hS.grp.2.2.2 x hx)).1
  have hW : Way xs (ms ++ [o]) [O3.one] xs es := by
    refine ⟨by unfold cosets; simp [h1], hS.keys, hS.grp.1, hS.grp.2.2.2, fun b hb => ?_, fun b hb => ?_, by simp, hS.grp.2.1⟩
    · rw [List.mem_singleton] at hb; subst hb; exact Gen.one
    · rw [List.mem_singleton] at hb; subst hb; exact O3.one_ck
  have := outL_spec hB 193 [O3.one] xs es hW 0 (by simp) rfl (by omega)
  rw [Nat.zero_mul] at this
  rcases this with ⟨r, bs, k1, k2, k3⟩ | ⟨k1, k2⟩
  · left
    refine ⟨r, k1, ⟨k2.nd, k2.len, fun g => ?_, k2.ck⟩, k2.keys, hck, ?_⟩
    · rw [k2.eq] at k3 ⊢
      exact cosets_all hi hB.grp k2.gen hg (by simp) k3 g
    · obtain ⟨l, hl⟩ := hS.first
      have := k2.head
      rw [hl] at this
      cases hr : r.1 with
      | nil => rw [hr] at this; simp at this
      | cons x l' =>
        rw [hr] at this
        simp only [List.length_cons, List.take_succ_cons, List.cons.injEq] at this
        exact ⟨l', by rw [this.1]⟩
  · right; exact ⟨k1, k2⟩
theorem Gen.app {xs : List O3} {ys : List O3} {g : O3} (hi : AllInv (xs ++ ys)) (h : Gen xs g) : Gen (xs ++ ys) g := h.mono hi fun _ hx => Gen.of hi (List.mem_append_left _ hx)
/-- Close's loop: the maps that are left, behind those that were taken. -/
theorem clL_spec : ∀ (l done xs ms : List O3) (es : ES), (∀ o ∈ done ++ l, o.ck = 0) → Span xs ms es → (∀ m ∈ ms, m ∈ done) → (∀ o ∈ done, o ∈ xs) →
    (∃ r, clL l xs ms es = some r ∧ IsGrp (done ++ l) r.1) ∨ (clL l xs ms es = none ∧ Bad (done ++ l))
  | [], done, xs, ms, es, hck, hS, hm, hd => by
    left
    rw [List.append_nil] at hck ⊢
    have hi := all_inv hck
    refine ⟨(xs, ms, es), rfl, hS.grp.1, hS.grp.2.1, fun g => ?_, hS.grp.2.2.2⟩
    rw [hS.grp.2.2.1]
    exact ⟨fun h => h.mono hi fun x hx => Gen.of hi (hm x hx), fun h => h.mono (all_inv hS.mck) fun x hx => (hS.grp.2.2.1 x).1 (hd x hx)⟩
  | o :: l, done, xs, ms, es, hck, hS, hm, hd => by
    simp only [clL]
    have ho : o.ck = 0 := hck o (by simp)
    have e : done ++ o :: l = (done ++ [o]) ++ l := by simp
    rw [e] at hck ⊢
    by_cases hh : mHas (key o) es = true
    · rw [hh]
      refine clL_spec l (done ++ [o]) xs ms es hck hS (fun m hx => List.mem_append_left _ (hm m hx)) fun x hx => ?_
      rcases List.mem_append.1 hx with h | h
      · exact hd x h
      · rw [List.mem_singleton] at h; subst h; exact (hS.keys _).1 hh
    · rw [Bool.not_eq_true] at hh
      rw [hh]
      simp only
      have hms : ∀ m ∈ ms ++ [o], m ∈ done ++ [o] := fun m hx => by
        rcases List.mem_append.1 hx with h | h
        · exact List.mem_append_left _ (hm m h)
        · exact List.mem_append_right _ h
      rcases take_spec hS ho with ⟨r, k1, k2⟩ | ⟨k1, k2⟩
      · rw [k1]
        simp only
        refine clL_spec l (done ++ [o]) r.1 (ms ++ [o]) r.2 hck k2 hms fun x hx => ?_
        have hi2 := all_inv k2.mck
        rw [k2.grp.2.2.1]
        rcases List.mem_append.1 hx with h | h
        · exact Gen.app hi2 ((hS.grp.2.2.1 x).1 (hd x h))
        · exact Gen.of hi2 (List.mem_append_right _ h)
      · right
        rw [k1]
        have hi := all_inv hck
        exact ⟨rfl, k2.mono hi fun x hx => Gen.of hi (List.mem_append_left _ (hms x hx))⟩
theorem span_one : Span [O3.one] [] [(key O3.one, 0)] := by
  refine ⟨⟨by simp, by simp, fun g => ?_, by simp [O3.one_ck]⟩, fun o => ?_, by simp, ⟨[], rfl⟩⟩
  · rw [List.mem_singleton]
    constructor
    · rintro rfl; exact Gen.one
    · intro h
      cases h with
      | one => rfl
      | step _ hx => simp at hx
  · simp only [mHas, List.mem_singleton]
    by_cases h : key O3.one = key o
    · simp [h, (key_inj h).symm]
    · have : ¬ o = O3.one := fun e => h (by rw [e])
      simp [h, this]
/-- What Close's loop comes to. -/
def clR (ls : List O3) : Option (List O3 × List O3 × ES) := clL ls [O3.one] [] [(key O3.one, 0)]
theorem clR_spec {ls : List O3} (h : ∀ o ∈ ls, o.ck = 0) : (∃ r, clR ls = some r ∧ IsGrp ls r.1) ∨ (clR ls = none ∧ Bad ls) :=
  clL_spec ls [] [O3.one] [] _ h span_one (by simp) (by simp)
end Go.Proofs.Ytjpfnfckpgilgaa


namespace Go.Proofs.Ytjpfnfckpgilgaa
open Go Vx
def sortF : List Value → Mem → Option (Ans (Value × Mem))
  | [.slice (some ⟨0, 0, some 0⟩) n 12, .func (.func 80) f c], [.rows true true 12 n2 row] => match f.toList, c.toList with
    | [], [] => some (.br (Nat.beq n n2 && (okOps n row && decide (n ≤ 1000))) (.out (.tuple #[], [.rows true true 12 n (opRow (sortO (opsOf n row)))])) .fail)
    | _, _ => none
  | _, _ => none
def Cso (P : Program) : Cx := (Cns P).addF 79 sortF
theorem okso : CxOk (Cso Try.prog) := Cx.addF_ok okns fun args m ans v m' h hr => by
  unfold sortF at h
  split at h
  rotate_left
  · cases h
  rename_i n f c n2 row
  split at h
  rotate_left
  · cases h
  rename_i hf hc0
  simp only [Option.some.injEq] at h
  subst h
  rcases Ans.br_some hr with ⟨hc, hr1⟩ | ⟨_, hr1⟩
  rotate_left
  · simp [Ans.res] at hr1
  clear hr
  simp only [Bool.and_eq_true, decide_eq_true_eq] at hc
  obtain ⟨c1, c2, c3⟩ := hc
  have c1 := beq_len c1
  subst c1
  simp only [Ans.res, Option.some.injEq, Prod.mk.injEq] at hr1
  obtain ⟨rfl, rfl⟩ := hr1
  have e1 : f = #[] := by cases f; simp_all
  have e2 : c = #[] := by cases c; simp_all
  subst e1
  subst e2
  have := sortSem (opsOf n row) (by rw [opsOf_length]; exact c3)
  rw [opsOf_length] at this
  exact this.like ⟨.rows (ops_like c2), trivial⟩
/-! The loop -/
def clD : Mem → Option (Bool × Nat × (Nat → List Value) × List Value × Nat × (Nat → List Value) × ES)
  | [.rows own true 12 N2 row, .cells true 0 cs, .rows true true 12 n2 row2, .mp true 12 es] => some (own, N2, row, cs, n2, row2, es)
  | _ => none
theorem clD_spec {m : Mem} {own : Bool} {N2 n2 : Nat} {row row2 : Nat → List Value} {cs : List Value} {es : ES} (h : clD m = some (own, N2, row, cs, n2, row2, es)) : m = [.rows own true 12 N2 row, .cells true 0 cs, .rows true true 12 n2 row2, .mp true 12 es] := by
  unfold clD at h
  split at h
  · simp only [Option.some.injEq, Prod.mk.injEq] at h
    obtain ⟨rfl, rfl, rfl, rfl, rfl, rfl, rfl⟩ := h
    rfl
  · cases h
def clT (N N2 n n2 : Nat) (row row2 : Nat → List Value) (L i : Int) : Bool := Nat.beq N N2 && (okOps N row && (Nat.beq n n2 && (okOps n row2 && (decide (L = (N : Int)) && (decide (0 = i) && (decide (1 ≤ n) && (decide (n ≤ 192) && decide (N ≤ 192))))))))
def emptyB : List O3 → Bool
  | [] => true
  | _ :: _ => false
def clG0 (ls xs : List O3) (es : ES) : List O3 × List O3 × ES := (clL ls xs [] es).getD ([], [], [])
def clS (st : St) : Option (Ans (Exit × St)) :=
  match Nat.beq st.tmps.length 34, tAt st 2, tAt st 3, tAt st 5, tAt st 14, tAt st 15, tAt st 16, clD (thaw (killV st.mem)) with
  | true, some (.slice none 0 0), some (.int .i64 0), some (.pointer (some ⟨1, 0, none⟩)), some (.slice (some ⟨0, 0, some 0⟩) N 12), some (.int .i64 L), some (.int .i64 i), some (own, N2, row, cs, n2, row2, es) =>
    match cs with
    | [.slice (some ⟨2, 0, some 0⟩) n 12, .map (some 3), .slice none 0 0] => some (.br (clT N N2 n n2 row row2 L i) (.br (clL (opsOf N row) (opsOf n row2) [] es).isSome
        (.br (emptyB (clG0 (opsOf N row) (opsOf n row2) es).2.1)
          (.out (.exit 0, stOf 34 [(2, .slice none 0 0), (3, vI 0), (5, .pointer (some ⟨1, 0, none⟩))] (clN own N (opsOf N row) (clG0 (opsOf N row) (opsOf n row2) es).1.length (clG0 (opsOf N row) (opsOf n row2) es).1 (clG0 (opsOf N row) (opsOf n row2) es).2.2)))
          (.out (.exit 0, stOf 34 [(2, .slice none 0 0), (3, vI 0), (5, .pointer (some ⟨1, 0, none⟩))] (clM own N (opsOf N row) (clG0 (opsOf N row) (opsOf n row2) es).1.length (clG0 (opsOf N row) (opsOf n row2) es).1 (clG0 (opsOf N row) (opsOf n row2) es).2.2 (clG0 (opsOf N row) (opsOf n row2) es).2.1.length (clG0 (opsOf N row) (opsOf n row2) es).2.1))))
        (.out (.ret, stOf 34 [(2, .slice none 0 0), (3, vI 5), (5, .pointer (some ⟨1, 0, none⟩))] (clX own N (opsOf N row))))) .fail)
    | _ => none
  | _, _, _, _, _, _, _, _ => none
theorem clK {st : St} {ans : Ans (Exit × St)} {e_ : Exit} {s_ : St} (h : clS st = some ans) (hr : ans.res = some (e_, s_)) : LoopSem Try.prog 1 (clX' Try.prog) st e_ s_ := by
  unfold clS at h
  split at h
  rotate_left
  · cases h
  rename_i N L i own N2 row cs n2 row2 es hb hs2 hs3 hs5 hs14 hs15 hs16 hD
  split at h
  rotate_left
  · cases h
  rename_i n
  simp only [Option.some.injEq] at h
  subst h
  rcases Ans.br_some hr with ⟨hc, hr1⟩ | ⟨_, hr1⟩
  rotate_left
  · simp [Ans.res] at hr1
  clear hr
  unfold clT at hc
  simp only [Bool.and_eq_true, decide_eq_true_eq] at hc
  obtain ⟨c1, c2, c3, c4, c5, c6, c7, c8, c9⟩ := hc
  have c1 := beq_len c1
  have c3 := beq_len c3
  subst c1
  subst c3
  subst c5
  subst c6
  have hmem := clD_spec hD
  have hI : clInv ⟨.e, own, N, opsOf N row, n, opsOf n row2, es, 0, [], 0⟩ := by
    unfold clInv
    simp only
    exact ⟨opsOf_length N row, c9, opsOf_length n row2, c7, c8, rfl, by omega, by omega, by omega, rfl⟩
  have key := clLp _ hI
  have hlike : LikeL (thaw (killV st.mem)) (clHg ⟨.e, own, N, opsOf N row, n, opsOf n row2, es, 0, [], 0⟩).mem := by
    rw [hmem]
    exact ⟨.rows (ops_like c2), .refl _, .rows (ops_like c4), .refl _, trivial⟩
  have key := LoopSem.like (tm := (clHg ⟨.e, own, N, opsOf N row, n, opsOf n row2, es, 0, [], 0⟩).tmps) (m := thaw (killV st.mem)) key hlike
  have key := LoopSem.fresh key
  have hk : keepL [2, 3, 5, 14, 15, 16] 0 st.tmps = (clHg ⟨.e, own, N, opsOf N row, n, opsOf n row2, es, 0, [], 0⟩).tmps := by
    have := keep_eq [(2, .slice none 0 0), (3, vI 0), (5, .pointer (some ⟨1, 0, none⟩)), (14, .slice (some ⟨0, 0, some 0⟩) N 12), (15, vI N), (16, vI 0)] st.tmps 0 (by
      intro x hx _
      simp only [List.mem_cons, List.not_mem_nil, or_false] at hx
      rcases hx with rfl | rfl | rfl | rfl | rfl | rfl
      · exact hs2
      · exact hs3
      · exact hs5
      · exact hs14
      · exact hs15
      · exact hs16)
    rw [show (keepL [2, 3, 5, 14, 15, 16] 0 st.tmps) = _ from this, beq_len hb]
    rfl
  rw [← hk] at key
  have key : LoopSem Try.prog 1 (clX' Try.prog) st _ _ := LoopSem.clean (mask := [2, 3, 5, 14, 15, 16]) key
  unfold clO at key
  simp only [Int.toNat_zero, List.drop_zero] at key
  rcases Ans.br_some hr1 with ⟨hq, hr2⟩ | ⟨hq, hr2⟩
  · obtain ⟨r, hr'⟩ := Option.isSome_iff_exists.1 hq
    have hmr : clG0 (opsOf N row) (opsOf n row2) es = r := by unfold clG0; rw [hr']; rfl
    rw [hmr] at hr2
    rw [hr'] at key
    simp only at key
    rcases Ans.br_some hr2 with ⟨hq2, hr3⟩ | ⟨hq2, hr3⟩
    · simp only [Ans.res, Option.some.injEq, Prod.mk.injEq] at hr3
      obtain ⟨rfl, rfl⟩ := hr3
      cases hms : r.2.1 with
      | nil => rw [hms] at key; exact key
      | cons m l => rw [hms] at hq2; cases hq2
    · simp only [Ans.res, Option.some.injEq, Prod.mk.injEq] at hr3
      obtain ⟨rfl, rfl⟩ := hr3
      cases hms : r.2.1 with
      | nil => rw [hms] at hq2; cases hq2
      | cons m l => rw [hms] at key; exact key
  · have hn : clL (opsOf N row) (opsOf n row2) [] es = none := by
      cases hm : clL (opsOf N row) (opsOf n row2) [] es with
      | none => rfl
      | some r => rw [hm] at hq; cases hq
    rw [hn] at key
    simp only [Ans.res, Option.some.injEq, Prod.mk.injEq] at hr2
    obtain ⟨rfl, rfl⟩ := hr2
    exact key
def Ccl (P : Program) : Cx := (Cso P).addLB 36 6 1 clS
theorem okcl : CxOk (Ccl Try.prog) := Cx.addLB_ok okso clX_eq fun _ _ _ _ h hr => clK h hr
end Go.Proofs.Ytjpfnfckpgilgaa


namespace Go.Proofs.Ytjpfnfckpgilgaa
open Go Vx
def es1 : ES := [(key O3.one, 0)]
def nilE (e : Int) : Value := .tuple #[.slice none 0 0, vI e]
def slE (n : Nat) : Value := .tuple #[.slice (some ⟨1, 0, some 0⟩) n 12, vI 0]
def sortT (n : Nat) (row : Nat → List Value) : Bool := Nat.beq n n && (okOps n row && decide (n ≤ 1000))
def clsEnd (own : Bool) (N : Nat) (ls xs : List O3) (n : Nat) : Option (Value × Mem) := gd (sortT n (opRow xs)) (some (slE n, [.rows own true 12 N (opRow ls), .rows true true 12 n (opRow (sortO (opsOf n (opRow xs))))]))
def clsMid (own : Bool) (N : Nat) (ls2 : List O3) (x1 : List O3) : Option (Value × Mem) := match (clL ls2 x1 [] es1).isSome with
  | true => match emptyB (clG0 ls2 x1 es1).2.1 with
    | true => clsEnd own N ls2 (clG0 ls2 x1 es1).1 (clG0 ls2 x1 es1).1.length
    | false => clsEnd own N ls2 (clG0 ls2 x1 es1).1 (clG0 ls2 x1 es1).1.length
  | false => some (nilE 5, [.rows own true 12 N (opRow ls2), .no])
theorem clsR (own : Bool) (N : Nat) (ls : List O3) : exT ((Ccl Try.prog).at 36) 60 Try.f36 [.slice (some ⟨0, 0, some 0⟩) N 12] [.rows own true 12 N (opRow ls)] [.fix 0, .slot 0] =
    gd (Nat.beq N N && okOps N (opRow ls)) (match ckMaps (opsOf N (opRow ls)) != 0 with
      | true => some (nilE (ckMaps (opsOf N (opRow ls))), [.rows own true 12 N (opRow (opsOf N (opRow ls))), .no])
      | false => gd (clT N N 1 1 (opRow (opsOf N (opRow ls))) (opRow [O3.one]) N 0) (clsMid own N (opsOf N (opRow (opsOf N (opRow ls)))) (opsOf 1 (opRow [O3.one])))) := by kernel_rfl
theorem clsR0 : exT ((Ccl Try.prog).at 36) 60 Try.f36 [.slice none 0 0] [] [.slot 0] = some (.tuple #[.slice (some ⟨0, 0, some 0⟩) 1 12, vI 0], [.rows true true 12 1 (opRow (sortO [O3.one]))]) := by kernel_rfl
/-- What Close answers. -/
def clsOk (ls : List O3) : Bool := (ckMaps ls == 0) && (clR ls).isSome
def clsG (ls : List O3) : List O3 := sortO (clG0 ls [O3.one] es1).1
def clsErr (ls : List O3) : Int := bif ckMaps ls == 0 then 5 else ckMaps ls
theorem leastL_zero : ∀ {l : List O3} {e : Int}, leastL l e = 0 → e = 0 ∧ ∀ o ∈ l, o.ck = 0
  | [], e, h => ⟨h, by simp⟩
  | o :: l, e, h => by
    obtain ⟨h1, h2⟩ := leastL_zero (l := l) h
    have h3 : e = 0 ∧ o.ck = 0 := by
      unfold leastN at h1
      by_cases he : e = 0
      · subst he; exact ⟨rfl, by simpa using h1⟩
      · rw [(bif_beq he).1] at h1
        by_cases ho : o.ck = 0
        · rw [ho] at h1; simp at h1; exact absurd h1 he
        · rw [(bif_beq ho).2] at h1
          simp only at h1
          cases hd : decide (o.ck < e) with
          | true => rw [hd] at h1; exact absurd h1 ho
          | false => rw [hd] at h1; exact absurd h1 he
    refine ⟨h3.1, fun x hx => ?_⟩
    rcases List.mem_cons.1 hx with rfl | hx
    · exact h3.2
    · exact h2 x hx
theorem ckMaps_zero {ls : List O3} (h : ckMaps ls = 0) : ls.length ≤ 192 ∧ ∀ o ∈ ls, o.ck = 0 := by
  unfold ckMaps at h
  split at h
  · cases h
  · exact ⟨by omega, (leastL_zero h).2⟩
/-- A group in order, out of what was found. -/
theorem clsOk_spec {ls : List O3} (h : clsOk ls = true) : ls.length ≤ 192 ∧ (∀ o ∈ ls, o.ck = 0) ∧ IsGrp ls (clG0 ls [O3.one] es1).1 := by
  unfold clsOk at h
  rw [Bool.and_eq_true, beq_iff_eq] at h
  obtain ⟨h1, h2⟩ := ckMaps_zero h.1
  refine ⟨h1, h2, ?_⟩
  rcases clR_spec h2 with ⟨r, k1, k2⟩ | ⟨k1, _⟩
  · have e : clG0 ls [O3.one] es1 = r := by unfold clG0; rw [show clL ls [O3.one] [] es1 = some r from k1]; rfl
    rw [e]; exact k2
  · rw [k1] at h; cases h.2
theorem clsOk_len {ls : List O3} (h : clsOk ls = true) : (clsG ls).length ≤ 192 := by
  unfold clsG
  rw [sortO_len]
  exact (clsOk_spec h).2.2.2.1
def clsF : List Value → Mem → Option (Ans (Value × Mem))
  | [.slice none 0 0], [] => some (.out (.tuple #[.slice (some ⟨0, 0, some 0⟩) 1 12, vI 0], [.rows true true 12 1 (opRow [O3.one])]))
  | [.slice (some ⟨0, 0, some 0⟩) N 12], [.rows own true 12 N2 row] => some (.br (Nat.beq N N2 && okOps N row) (.br (clsOk (opsOf N row)) (.out (slE (clsG (opsOf N row)).length, [.rows own true 12 N (opRow (opsOf N row)), .rows true true 12 (clsG (opsOf N row)).length (opRow (clsG (opsOf N row)))])) (.out (nilE (clsErr (opsOf N row)), [.rows own true 12 N (opRow (opsOf N row)), .no]))) .fail)
  | _, _ => none
def Ccs (P : Program) : Cx := (Ccl P).addF 36 clsF
theorem okcs : CxOk (Ccs Try.prog) := Cx.addF_ok okcl fun args m ans v m' h hr => by
  unfold clsF at h
  split at h
  · simp only [Option.some.injEq] at h
    subst h
    simp only [Ans.res, Option.some.injEq, Prod.mk.injEq] at hr
    obtain ⟨rfl, rfl⟩ := hr
    exact exT_ok okcl Try.func36 (by kernel_rfl) clsR0
  · rename_i N own N2 row
    simp only [Option.some.injEq] at h
    subst h
    rcases Ans.br_some hr with ⟨hc, hr1⟩ | ⟨_, hr1⟩
    rotate_left
    · simp [Ans.res] at hr1
    clear hr
    simp only [Bool.and_eq_true] at hc
    obtain ⟨c1, c2⟩ := hc
    have c1 := beq_len c1
    subst c1
    have hl := opsOf_length N row
    have hE := clsR own N (opsOf N row)
    rw [opsOf_row hl, opsOf_row hl, okOps_opRow, Nat.beq_refl] at hE
    simp only [Bool.and_self, gd_true] at hE
    have sem : ∀ {v : Value} {m' : Mem}, exT ((Ccl Try.prog).at 36) 60 Try.f36 [.slice (some ⟨0, 0, some 0⟩) N 12] [.rows own true 12 N (opRow (opsOf N row))] [.fix 0, .slot 0] = some (v, m') → MemSem Try.prog 36 [.slice (some ⟨0, 0, some 0⟩) N 12] [.rows own true 12 N row] v m' := fun hh => (exT_ok okcl Try.func36 (by kernel_rfl) hh).like ⟨.rows (ops_like c2), trivial⟩
    generalize opsOf N row = ls at hl hE hr1 sem
    by_cases h0 : ckMaps ls = 0
    · obtain ⟨k1, k2⟩ := ckMaps_zero h0
      have ht : clT N N 1 1 (opRow ls) (opRow [O3.one]) N 0 = true := by
        unfold clT
        rw [Nat.beq_refl, okOps_opRow, okOps_opRow, show Nat.beq 1 1 = true from rfl]
        simp; omega
      rw [h0, ht] at hE
      simp only [bne_self_eq_false, gd_true, show opsOf 1 (opRow [O3.one]) = [O3.one] from rfl] at hE
      unfold clsMid at hE
      rcases Ans.br_some hr1 with ⟨hq, hr2⟩ | ⟨hq, hr2⟩
      · have hlen := clsOk_len hq
        have hsome : (clL ls [O3.one] [] es1).isSome = true := by
          unfold clsOk at hq
          rw [Bool.and_eq_true] at hq
          exact hq.2
        rw [hsome] at hE
        have hlen' : (clG0 ls [O3.one] es1).1.length ≤ 192 := (clsOk_spec hq).2.2.2.1
        have hend : clsEnd own N ls (clG0 ls [O3.one] es1).1 (clG0 ls [O3.one] es1).1.length = some (slE (clsG ls).length, [.rows own true 12 N (opRow ls), .rows true true 12 (clsG ls).length (opRow (clsG ls))]) := by
          unfold clsEnd sortT
          rw [Nat.beq_refl, okOps_opRow, opsOf_row rfl, show decide ((clG0 ls [O3.one] es1).1.length ≤ 1000) = true by simp; omega]
          unfold clsG
          rw [sortO_len]
          rfl
        rw [hend] at hE
        simp only [Ans.res, Option.some.injEq, Prod.mk.injEq] at hr2
        obtain ⟨rfl, rfl⟩ := hr2
        refine sem ?_
        rw [hE]
        cases emptyB (clG0 ls [O3.one] es1).2.1 <;> rfl
      · have hnone : (clL ls [O3.one] [] es1).isSome = false := by
          unfold clsOk at hq
          rw [h0] at hq
          have hq2 : (clR ls).isSome = false := by simpa using hq
          exact hq2
        rw [hnone] at hE
        simp only [Ans.res, Option.some.injEq, Prod.mk.injEq] at hr2
        obtain ⟨rfl, rfl⟩ := hr2
        refine sem ?_
        rw [hE]
        unfold clsErr
        rw [h0]; rfl
    · rw [(bif_beq h0).2] at hE
      rcases Ans.br_some hr1 with ⟨hq, hr2⟩ | ⟨hq, hr2⟩
      · unfold clsOk at hq
        rw [(bif_beq h0).1] at hq
        cases hq
      · simp only [Ans.res, Option.some.injEq, Prod.mk.injEq] at hr2
        obtain ⟨rfl, rfl⟩ := hr2
        refine sem ?_
        rw [hE]
        unfold clsErr
        rw [(bif_beq h0).1]; rfl
  · cases h
end Go.Proofs.Ytjpfnfckpgilgaa


namespace Go.Proofs.Ytjpfnfckpgilgaa.Vx
open Go
def tF2Cmp (u v : V3) : Option Value := chainO mk1 (dcompT u.l v.l) [0]
def fF2Cmp (u v : V3) : Value := vI (lexI u.l v.l)
theorem tF2Cmp_eq (u v : V3) : tF2Cmp u v = some (fF2Cmp u v) := by
  unfold tF2Cmp fF2Cmp
  rw [chain_eq, ← dcomp_lex u.l v.l rfl]; rfl
def M3.r0 (m : M3) : V3 := ⟨m.a, m.b, m.c⟩
def M3.r1 (m : M3) : V3 := ⟨m.d, m.e, m.f⟩
def M3.r2 (m : M3) : V3 := ⟨m.g, m.h, m.i⟩
def tR5CmpM (a b : M3) : Option Value := chainO mk1 [(lexI a.r0.l b.r0.l != 0, [lexI a.r0.l b.r0.l]), (lexI a.r1.l b.r1.l != 0, [lexI a.r1.l b.r1.l]), (lexI a.r2.l b.r2.l != 0, [lexI a.r2.l b.r2.l])] [0]
theorem lex_ne (x : Int) (y : Int) : (if x ≠ 0 then x else y) = match x != 0 with
    | true => x
    | false => y := by
  by_cases h : x = 0
  · subst h; simp
  · rw [if_pos h, (bif_beq h).2]
theorem tR5CmpM_eq (a b : M3) : tR5CmpM a b = some (fVCompare a b) := by
  unfold tR5CmpM fVCompare
  rw [chain_eq]
  have e1 : lexI a.l b.l = lexI (a.r0.l ++ (a.r1.l ++ a.r2.l)) (b.r0.l ++ (b.r1.l ++ b.r2.l)) := rfl
  rw [e1, lexI_append a.r0.l b.r0.l _ _ rfl, lexI_append a.r1.l b.r1.l _ _ rfl]
  by_cases h0 : lexI a.r0.l b.r0.l = 0
  · by_cases h1 : lexI a.r1.l b.r1.l = 0
    · by_cases h2 : lexI a.r2.l b.r2.l = 0
      · rw [h0, h1, h2]; rfl
      · rw [h0, h1]; simp only [chainL, bne_self_eq_false, (bif_beq h2).2, ne_eq, not_true_eq_false, if_false]; rfl
    · rw [h0]; simp only [chainL, bne_self_eq_false, (bif_beq h1).2, ne_eq, not_true_eq_false, if_false, h1, not_false_eq_true, if_true]; rfl
  · simp only [chainL, (bif_beq h0).2, ne_eq, h0, not_false_eq_true, if_true]; rfl
def tR5Cmp (a b : O3) : Option Value := match lexI a.r.l b.r.l != 0 with
  | true => some (vI (lexI a.r.l b.r.l))
  | false => some (vI (lexI a.t.l b.t.l))
theorem tR5Cmp_eq (a b : O3) : tR5Cmp a b = some (fOCompare a b) := by
  unfold tR5Cmp fOCompare
  have e1 : lexI a.l b.l = lexI (a.r.l ++ a.t.l) (b.r.l ++ b.t.l) := rfl
  rw [e1, lexI_append a.r.l b.r.l _ _ rfl, lex_ne]
  cases lexI a.r.l b.r.l != 0 <;> rfl
/-- A product as the document makes it. -/
def mul5 (t x y z u v w : Int) : Int := W (W (W (t + W (x * u)) + W (y * v)) + W (z * w)) % 24
def O3.mul5 (a b : O3) : O3 := ⟨(a.r.mul b.r).w, ⟨Vx.mul5 a.t.x a.r.a a.r.b a.r.c b.t.x b.t.y b.t.z, Vx.mul5 a.t.y a.r.d a.r.e a.r.f b.t.x b.t.y b.t.z, Vx.mul5 a.t.z a.r.g a.r.h a.r.i b.t.x b.t.y b.t.z⟩⟩
def tR5Mul (a b : O3) : Option Value := some (O3.v ⟨⟨rdot a.r.a a.r.b a.r.c b.r.a b.r.d b.r.g, rdot a.r.a a.r.b a.r.c b.r.b b.r.e b.r.h, rdot a.r.a a.r.b a.r.c b.r.c b.r.f b.r.i, rdot a.r.d a.r.e a.r.f b.r.a b.r.d b.r.g, rdot a.r.d a.r.e a.r.f b.r.b b.r.e b.r.h, rdot a.r.d a.r.e a.r.f b.r.c b.r.f b.r.i, rdot a.r.g a.r.h a.r.i b.r.a b.r.d b.r.g, rdot a.r.g a.r.h a.r.i b.r.b b.r.e b.r.h, rdot a.r.g a.r.h a.r.i b.r.c b.r.f b.r.i⟩, (a.mul5 b).t⟩)
def fR5Mul (a b : O3) : Value := (a.mul5 b).v
theorem tR5Mul_eq (a b : O3) : tR5Mul a b = some (fR5Mul a b) := by
  unfold tR5Mul fR5Mul
  simp only [rdot_eq, dotR_W]
  rfl
theorem mul5_eq {t x y z u v w : Int} (ht : 0 ≤ t ∧ t ≤ 23) (hx : -1000 ≤ x ∧ x ≤ 1000) (hy : -1000 ≤ y ∧ y ≤ 1000) (hz : -1000 ≤ z ∧ z ≤ 1000) (hu : 0 ≤ u ∧ u ≤ 23) (hv : 0 ≤ v ∧ v ≤ 23) (hw : 0 ≤ w ∧ w ≤ 23) : Vx.mul5 t x y z u v w = (x * u + y * v + z * w + t) % 24 := by
  have h1 := bd_mul (n := 23) hx (y := u) (by omega)
  have h2 := bd_mul (n := 23) hy (y := v) (by omega)
  have h3 := bd_mul (n := 23) hz (y := w) (by omega)
  unfold Vx.mul5
  rw [W_in (n := x * u) (by omega), W_in (n := y * v) (by omega), W_in (n := z * w) (by omega), W_in (n := t + x * u) (by omega), W_in (n := t + x * u + y * v) (by omega), W_in (by omega)]
  congr 1; omega
theorem O3.mul5_eq {a b : O3} (ha : a.ck = 0) (hb : b.ck = 0) : a.mul5 b = a.mul b := by
  obtain ⟨a1, a2, a3⟩ := O3.ck_zero.1 ha
  obtain ⟨b1, b2, b3⟩ := O3.ck_zero.1 hb
  obtain ⟨k0, k1, k2, k3, k4, k5, k6, k7, k8⟩ := M3.ok_iff.1 a2
  obtain ⟨t0, t1, t2⟩ := V3.part_iff.1 a1
  obtain ⟨u0, u1, u2⟩ := V3.part_iff.1 b1
  unfold O3.mul5 O3.mul
  rw [M3.w_eq (((M3.ok_iff.1 a2).mul (M3.ok_iff.1 b2)).mono (by omega)), Vx.mul5_eq t0 k0 k1 k2 u0 u1 u2, Vx.mul5_eq t1 k3 k4 k5 u0 u1 u2, Vx.mul5_eq t2 k6 k7 k8 u0 u1 u2]
  rfl
end Go.Proofs.Ytjpfnfckpgilgaa.Vx


namespace Go.Proofs.Ytjpfnfckpgilgaa
open Go Vx

def Ch0 (P : Program) : Cx := Ccs P
theorem okh0 : CxOk (Ch0 Try.prog) := okcs
/-- facetref02.Mod -/
theorem eh1 (a b : Int) : exFun ((Ch0 Try.prog).at 129) 60 Try.f129 (pack [none, none] [a, b]) = tResidue a b := by kernel_rfl
def Fh_59 : List Int → Option (Bool × Value)
  | [a, b] => some (modB b, vI (a % b))
  | _ => none
def Ch1 (P : Program) : Cx := (Ch0 P).addD 129 [none, none] Fh_59
theorem okh1 : CxOk (Ch1 Try.prog) := Cx.addD_ok okh0 (n := 60) Try.func129 (by kernel_rfl) fun l v hl h => by
  match l, hl, h with
  | [a, b], _, hh => simp only [Fh_59, Option.some.injEq, Prod.mk.injEq] at hh; rw [eh1, tResidue_eq hh.1, hh.2]
/-- facetref02.Bring -/
theorem eh2 (a0 a1 a2 b : Int) : exFun ((Ch1 Try.prog).at 126) 60 Try.f126 (pack [some 3, none] [a0, a1, a2, b]) = tBring ⟨a0, a1, a2⟩ b := by kernel_rfl
def Fh_55 : List Int → Option (Bool × Value)
  | [a0, a1, a2, b] => some (modB b, (V3.md b ⟨a0, a1, a2⟩).v)
  | _ => none
def Ch2 (P : Program) : Cx := (Ch1 P).addD 126 [some 3, none] Fh_55
theorem okh2 : CxOk (Ch2 Try.prog) := Cx.addD_ok okh1 (n := 60) Try.func126 (by kernel_rfl) fun l v hl h => by
  match l, hl, h with
  | [a0, a1, a2, b], _, hh => simp only [Fh_55, Option.some.injEq, Prod.mk.injEq] at hh; rw [eh2, tBring_eq hh.1, hh.2]
/-- facetref02.Compare -/
theorem eh3 (a0 a1 a2 b0 b1 b2 : Int) : exFun ((Ch2 Try.prog).at 128) 60 Try.f128 (pack [some 3, some 3] [a0, a1, a2, b0, b1, b2]) = tF2Cmp ⟨a0, a1, a2⟩ ⟨b0, b1, b2⟩ := by kernel_rfl
def Fh_58 : List Int → Option Value
  | [a0, a1, a2, b0, b1, b2] => some (fF2Cmp ⟨a0, a1, a2⟩ ⟨b0, b1, b2⟩)
  | _ => none
def Ch3 (P : Program) : Cx := (Ch2 P).add 128 [some 3, some 3] Fh_58
theorem okh3 : CxOk (Ch3 Try.prog) := Cx.add_ok okh2 (n := 60) Try.func128 (by kernel_rfl) fun l v hl h => by
  match l, hl, h with
  | [a0, a1, a2, b0, b1, b2], _, hh => rw [eh3, tF2Cmp_eq]; exact hh
/-- facetref05.Det -/
theorem eh4 (a0 a1 a2 a3 a4 a5 a6 a7 a8 : Int) : exFun ((Ch3 Try.prog).at 125) 60 Try.f125 (pack [some 9] [a0, a1, a2, a3, a4, a5, a6, a7, a8]) = tRDet ⟨a0, a1, a2, a3, a4, a5, a6, a7, a8⟩ := by kernel_rfl
def Fh_54 : List Int → Option Value
  | [a0, a1, a2, a3, a4, a5, a6, a7, a8] => some (fRDet ⟨a0, a1, a2, a3, a4, a5, a6, a7, a8⟩)
  | _ => none
def Ch4 (P : Program) : Cx := (Ch3 P).add 125 [some 9] Fh_54
theorem okh4 : CxOk (Ch4 Try.prog) := Cx.add_ok okh3 (n := 60) Try.func125 (by kernel_rfl) fun l v hl h => by
  match l, hl, h with
  | [a0, a1, a2, a3, a4, a5, a6, a7, a8], _, hh => rw [eh4, tRDet_eq]; exact hh
/-- facetref05.Within -/
theorem eh5 (a0 a1 a2 a3 a4 a5 a6 a7 a8 : Int) : exFun ((Ch4 Try.prog).at 124) 60 Try.f124 (pack [some 9] [a0, a1, a2, a3, a4, a5, a6, a7, a8]) = tWithinM ⟨a0, a1, a2, a3, a4, a5, a6, a7, a8⟩ := by kernel_rfl
def Fh_53 : List Int → Option Value
  | [a0, a1, a2, a3, a4, a5, a6, a7, a8] => some (fWithinM ⟨a0, a1, a2, a3, a4, a5, a6, a7, a8⟩)
  | _ => none
def Ch5 (P : Program) : Cx := (Ch4 P).add 124 [some 9] Fh_53
theorem okh5 : CxOk (Ch5 Try.prog) := Cx.add_ok okh4 (n := 60) Try.func124 (by kernel_rfl) fun l v hl h => by
  match l, hl, h with
  | [a0, a1, a2, a3, a4, a5, a6, a7, a8], _, hh => rw [eh5, tWithinM_eq]; exact hh
/-- facetref05.CompareMat -/
theorem eh6 (a0 a1 a2 a3 a4 a5 a6 a7 a8 b0 b1 b2 b3 b4 b5 b6 b7 b8 : Int) : exFun ((Ch5 Try.prog).at 127) 60 Try.f127 (pack [some 9, some 9] [a0, a1, a2, a3, a4, a5, a6, a7, a8, b0, b1, b2, b3, b4, b5, b6, b7, b8]) = tR5CmpM ⟨a0, a1, a2, a3, a4, a5, a6, a7, a8⟩ ⟨b0, b1, b2, b3, b4, b5, b6, b7, b8⟩ := by kernel_rfl
def Fh_57 : List Int → Option Value
  | [a0, a1, a2, a3, a4, a5, a6, a7, a8, b0, b1, b2, b3, b4, b5, b6, b7, b8] => some (fVCompare ⟨a0, a1, a2, a3, a4, a5, a6, a7, a8⟩ ⟨b0, b1, b2, b3, b4, b5, b6, b7, b8⟩)
  | _ => none
def Ch6 (P : Program) : Cx := (Ch5 P).add 127 [some 9, some 9] Fh_57
theorem okh6 : CxOk (Ch6 Try.prog) := Cx.add_ok okh5 (n := 60) Try.func127 (by kernel_rfl) fun l v hl h => by
  match l, hl, h with
  | [a0, a1, a2, a3, a4, a5, a6, a7, a8, b0, b1, b2, b3, b4, b5, b6, b7, b8], _, hh => rw [eh6, tR5CmpM_eq]; exact hh
/-- facetref05.Compare -/
theorem eh7 (a0 a1 a2 a3 a4 a5 a6 a7 a8 a9 a10 a11 b0 b1 b2 b3 b4 b5 b6 b7 b8 b9 b10 b11 : Int) : exFun ((Ch6 Try.prog).at 102) 60 Try.f102 (pack [some 12, some 12] [a0, a1, a2, a3, a4, a5, a6, a7, a8, a9, a10, a11, b0, b1, b2, b3, b4, b5, b6, b7, b8, b9, b10, b11]) = tR5Cmp ⟨⟨a0, a1, a2, a3, a4, a5, a6, a7, a8⟩, ⟨a9, a10, a11⟩⟩ ⟨⟨b0, b1, b2, b3, b4, b5, b6, b7, b8⟩, ⟨b9, b10, b11⟩⟩ := by kernel_rfl
def Fh_37 : List Int → Option Value
  | [a0, a1, a2, a3, a4, a5, a6, a7, a8, a9, a10, a11, b0, b1, b2, b3, b4, b5, b6, b7, b8, b9, b10, b11] => some (fOCompare ⟨⟨a0, a1, a2, a3, a4, a5, a6, a7, a8⟩, ⟨a9, a10, a11⟩⟩ ⟨⟨b0, b1, b2, b3, b4, b5, b6, b7, b8⟩, ⟨b9, b10, b11⟩⟩)
  | _ => none
def Ch7 (P : Program) : Cx := (Ch6 P).add 102 [some 12, some 12] Fh_37
theorem okh7 : CxOk (Ch7 Try.prog) := Cx.add_ok okh6 (n := 60) Try.func102 (by kernel_rfl) fun l v hl h => by
  match l, hl, h with
  | [a0, a1, a2, a3, a4, a5, a6, a7, a8, a9, a10, a11, b0, b1, b2, b3, b4, b5, b6, b7, b8, b9, b10, b11], _, hh => rw [eh7, tR5Cmp_eq]; exact hh
/-- facetref05.Mul -/
theorem eh8 (a0 a1 a2 a3 a4 a5 a6 a7 a8 a9 a10 a11 b0 b1 b2 b3 b4 b5 b6 b7 b8 b9 b10 b11 : Int) : exFun ((Ch7 Try.prog).at 105) 60 Try.f105 (pack [some 12, some 12] [a0, a1, a2, a3, a4, a5, a6, a7, a8, a9, a10, a11, b0, b1, b2, b3, b4, b5, b6, b7, b8, b9, b10, b11]) = tR5Mul ⟨⟨a0, a1, a2, a3, a4, a5, a6, a7, a8⟩, ⟨a9, a10, a11⟩⟩ ⟨⟨b0, b1, b2, b3, b4, b5, b6, b7, b8⟩, ⟨b9, b10, b11⟩⟩ := by kernel_rfl
def Fh_39 : List Int → Option Value
  | [a0, a1, a2, a3, a4, a5, a6, a7, a8, a9, a10, a11, b0, b1, b2, b3, b4, b5, b6, b7, b8, b9, b10, b11] => some (fR5Mul ⟨⟨a0, a1, a2, a3, a4, a5, a6, a7, a8⟩, ⟨a9, a10, a11⟩⟩ ⟨⟨b0, b1, b2, b3, b4, b5, b6, b7, b8⟩, ⟨b9, b10, b11⟩⟩)
  | _ => none
def Ch8 (P : Program) : Cx := (Ch7 P).add 105 [some 12, some 12] Fh_39
theorem okh8 : CxOk (Ch8 Try.prog) := Cx.add_ok okh7 (n := 60) Try.func105 (by kernel_rfl) fun l v hl h => by
  match l, hl, h with
  | [a0, a1, a2, a3, a4, a5, a6, a7, a8, a9, a10, a11, b0, b1, b2, b3, b4, b5, b6, b7, b8, b9, b10, b11], _, hh => rw [eh8, tR5Mul_eq]; exact hh

def CCh (P : Program) : Cx := Ch8 P
theorem okCh : CxOk (CCh Try.prog) := okh8

end Go.Proofs.Ytjpfnfckpgilgaa


namespace Go.Proofs.Ytjpfnfckpgilgaa
open Go Vx
theorem isO_spec {l : List Value} (h : isO l = true) : l = (decO l).cells := by
  unfold isO at h
  unfold decO
  split at h
  · rename_i o ho; exact opCells_spec ho
  · cases h
theorem like_dec {own : Bool} {e : Nat} {l : List Value} (h : isO l = true) : Like (.cells own e l) (.cells own e (decO l).cells) := by
  rw [← isO_spec h]; exact .refl _
/-- The place of a map in a list, from a place on. -/
def plcL : List O3 → O3 → Int → Option Int
  | [], _, _ => none
  | x :: l, o, i => match x.eqB o with
    | true => some i
    | false => plcL l o (i + 1)

def plX (P : Program) : Code := (loopsOf P 103 2).headD .skip
theorem plX_eq : loopsOf Try.prog 103 2 = [plX Try.prog] := by kernel_rfl
def plH (own : Bool) (n : Nat) (xs : List O3) (o : O3) (i : Int) : St := stOf 19 [(3, .pointer (some ⟨1, 0, none⟩)), (4, vI 0), (7, .slice (some ⟨0, 0, some 0⟩) n 12), (8, vI n), (9, vI i)] [.rows own true 12 n (opRow xs), .cells true 0 o.cells]
theorem plR (own : Bool) (n : Nat) (xs : List O3) (o : O3) (i : Int) : roundR ((CCh Try.prog).into 103 1) 40 (plX Try.prog) [3, 4, 7, 8, 9] [4] [.fix 0, .fix 1] [.fix 0] (plH own n xs o i) =
    (match decide (i < (n : Int)) with
    | true => match boundsI i n with
      | true => match (atO xs i).eqB o with
        | true => some (.ret, stOf 19 [(4, vI i)] [.rows own true 12 n (opRow xs)])
        | false => some (.normal, plH own n xs o (W (i + 1)))
      | false => none
    | false => some (.exit 0, stOf 19 [(4, vI 0)] [.rows own true 12 n (opRow xs)])) := by kernel_rfl
structure plG where
  (own : Bool) (n : Nat) (xs : List O3) (o : O3) (i : Int)
def plO (own : Bool) (n : Nat) (xs : List O3) (o : O3) (i : Int) : Exit × St :=
  match (plcL (xs.drop i.toNat) o i).isSome with
  | true => (.ret, stOf 19 [(4, vI ((plcL (xs.drop i.toNat) o i).getD 0))] [.rows own true 12 n (opRow xs)])
  | false => (.exit 0, stOf 19 [(4, vI 0)] [.rows own true 12 n (opRow xs)])
theorem plL (own : Bool) (n : Nat) (xs : List O3) (o : O3) (i : Int) (hg : 0 ≤ i ∧ (n : Int) ≤ 4611686018427387904 ∧ xs.length = n) : LoopSem Try.prog 1 (plX Try.prog) (plH own n xs o i) (plO own n xs o i).1 (plO own n xs o i).2 := by
  refine loop_rule (C := CCh Try.prog) okCh (f := 103) (B := 1) (loopsOf_in (k := 2) plX_eq) 40 [3, 4, 7, 8, 9] [4] [.fix 0, .fix 1] [.fix 0] (fun g : plG => plH g.own g.n g.xs g.o g.i) (fun g => (g.n - g.i).toNat) (fun g => 0 ≤ g.i ∧ (g.n : Int) ≤ 4611686018427387904 ∧ g.xs.length = g.n) (fun g => plO g.own g.n g.xs g.o g.i) ?_ ⟨own, n, xs, o, i⟩ hg
  clear hg
  rintro ⟨own, n, xs, o, i⟩ hg
  simp only at hg
  simp only [plR]
  obtain ⟨h0, h1, h2⟩ := hg
  by_cases hi : i < (n : Int)
  · have hd : decide (i < (n : Int)) = true := by simpa using hi
    have hb : boundsI i n = true := by simp [boundsI, h0, hi]
    have hdr := drop_at (xs := xs) h0 (by omega)
    rw [hd, hb]
    have hw : W (i + 1) = i + 1 := W_in (by omega)
    cases he : (atO xs i).eqB o with
    | true =>
      right
      unfold plO
      simp only [hdr, plcL, he, Option.isSome_some, Option.getD_some]
      exact ⟨trivial, by simp⟩
    | false =>
      left
      refine ⟨⟨own, n, xs, o, i + 1⟩, by rw [hw], ⟨by simp only; omega, h1, h2⟩, by simp only; omega, ?_⟩
      unfold plO
      simp only [hdr, plcL, he]
  · have hd : decide (i < (n : Int)) = false := by simpa using hi
    rw [hd]
    right
    have hn : xs.drop i.toNat = [] := List.drop_eq_nil_of_le (by omega)
    unfold plO
    simp only [hn, plcL, Option.isSome_none]
    exact ⟨trivial, by simp⟩
def plS (st : St) : Option (Ans (Exit × St)) :=
  match sized st 19 2, tAt st 3, tAt st 4, tAt st 7, tAt st 8, tAt st 9, st.mem with
  | true, some (.pointer (some ⟨1, 0, none⟩)), some (.int .i64 0), some (.slice (some ⟨0, 0, some 0⟩) n 12), some (.int .i64 ln), some (.int .i64 i), [.rows own true 12 n2 row, .cells true 0 co] => some (.br (Nat.beq n n2 && (okOps n row && (decide ((n : Int) = ln) && (decide (0 ≤ i) && (decide ((n : Int) ≤ 4611686018427387904) && (isO co)))))) (.br ((plcL ((opsOf n row).drop i.toNat) (decO co) i).isSome)
      (.out (.ret, stOf 19 [(4, vI ((plcL ((opsOf n row).drop i.toNat) (decO co) i).getD 0))] [.rows own true 12 n (opRow (opsOf n row))]))
      (.out (.exit 0, stOf 19 [(4, vI 0)] [.rows own true 12 n (opRow (opsOf n row))]))) .fail)
  | _, _, _, _, _, _, _ => none
theorem plK {st : St} {ans : Ans (Exit × St)} {e_ : Exit} {s_ : St} (h : plS st = some ans) (hr : ans.res = some (e_, s_)) : LoopSem Try.prog 1 (plX Try.prog) st e_ s_ := by
  unfold plS at h
  split at h
  · rename_i n ln i own n2 row co hb hs0 hs1 hs2 hs3 hs4 hm
    simp only [Option.some.injEq] at h
    subst h
    rcases Ans.br_some hr with ⟨hc, hr1⟩ | ⟨_, hr1⟩
    · clear hr
      simp only [Bool.and_eq_true] at hc
      obtain ⟨ht0, ht1, ht2, ht3, ht4, ht5⟩ := hc
      have ht0 := beq_len ht0
      subst ht0
      have ht2 : (n : Int) = ln := by simpa using ht2
      subst ht2
      have hinv : 0 ≤ i ∧ (n : Int) ≤ 4611686018427387904 ∧ (opsOf n row).length = n := by
        exact ⟨by simpa using ht3, by simpa using ht4, opsOf_length n row⟩
      have hk := stOf_keep hb [(3, .pointer (some ⟨1, 0, none⟩)), (4, vI 0), (7, .slice (some ⟨0, 0, some 0⟩) n 12), (8, vI n), (9, vI i)] (by
        intro x hx
        simp only [List.mem_cons, List.not_mem_nil, or_false] at hx
        rcases hx with rfl | rfl | rfl | rfl | rfl
        · exact hs0
        · exact hs1
        · exact hs2
        · exact hs3
        · exact hs4) hm
      have key := plL own n (opsOf n row) (decO co) i hinv
      unfold plH at key
      have key := LoopSem.like (m := [.rows own true 12 n row, .cells true 0 co]) key ⟨.rows (ops_like ht1), like_dec ht5, trivial⟩
      have key : LoopSem Try.prog 1 (plX Try.prog) (stOf 19 [(3, .pointer (some ⟨1, 0, none⟩)), (4, vI 0), (7, .slice (some ⟨0, 0, some 0⟩) n 12), (8, vI n), (9, vI i)] [.rows own true 12 n row, .cells true 0 co]) _ _ := key
      rw [← hk] at key
      have key := LoopSem.clean key
      unfold plO at key
      rcases Ans.br_some hr1 with ⟨hq, hr1⟩ | ⟨hq, hr1⟩
      · simp only [hq] at key
        simp only [Ans.res, Option.some.injEq, Prod.mk.injEq] at hr1
        obtain ⟨rfl, rfl⟩ := hr1
        exact key
      · simp only [hq] at key
        simp only [Ans.res, Option.some.injEq, Prod.mk.injEq] at hr1
        obtain ⟨rfl, rfl⟩ := hr1
        exact key
    · simp [Ans.res] at hr1
  · cases h

/-- The error of a list of maps. -/
def mapsL : List O3 → Int → Int
  | [], e => e
  | o :: l, e => match o.ck == 3 with
    | true => 3
    | false => mapsL l (match o.ck == 4 with
      | true => 4
      | false => e)
def mapsU {α : Type} (o : O3) (r n4 n : α) (d : Int) : α := match !(o.t.eqB (o.t.md 24)) with
  | true => r
  | false => match o.r.ok with
    | true => match d != 1 with
      | true => match d != -1 with
        | true => r
        | false => match !o.r.ok with
          | true => n4
          | false => n
      | false => match !o.r.ok with
        | true => n4
        | false => n
    | false => match !o.r.ok with
      | true => n4
      | false => n
def mapsT {α : Type} (o : O3) (r n4 n : α) : α := match o.r.ok with
  | true => mapsU o r n4 n (W o.r.det)
  | false => mapsU o r n4 n 0
theorem part_eqB (v : V3) : v.eqB (v.md 24) = v.part := by
  rw [Bool.eq_iff_iff, V3.eqB_iff, V3.part_iff]
  constructor
  · intro h
    have e1 : v.x = v.x % 24 := congrArg V3.x h
    have e2 : v.y = v.y % 24 := congrArg V3.y h
    have e3 : v.z = v.z % 24 := congrArg V3.z h
    omega
  · intro h
    apply V3.ext'
    unfold V3.md
    simp only
    omega
theorem mapsT_eq {α : Type} (o : O3) (r n4 n : α) : mapsT o r n4 n = match o.ck == 3 with
    | true => r
    | false => match o.ck == 4 with
      | true => n4
      | false => n := by
  unfold mapsT mapsU
  rw [part_eqB]
  unfold O3.ck M3.form
  cases hp : o.t.part with
  | false => cases o.r.ok <;> rfl
  | true =>
    cases hk : o.r.ok with
    | false => rfl
    | true =>
      rw [Wdet hk]
      by_cases h1 : o.r.det = 1
      · rw [h1]; rfl
      · by_cases h2 : o.r.det = -1
        · rw [h2]; rfl
        · have e1 : (o.r.det != 1) = true := by simpa using h1
          have e2 : (o.r.det != -1) = true := by simpa using h2
          have e3 : unitB o.r.det = false := by simp [unitB, h1, h2]
          rw [e1, e2, e3]; rfl
/-- Whether a map is at fault, and the error so far. -/
def mapsF : List O3 → Int → Bool × Int
  | [], e => (false, e)
  | o :: l, e => match o.ck == 3 with
    | true => (true, e)
    | false => mapsF l (match o.ck == 4 with
      | true => 4
      | false => e)
theorem mapsF_eq : ∀ (l : List O3) (e : Int), mapsL l e = match (mapsF l e).1 with
    | true => 3
    | false => (mapsF l e).2
  | [], e => rfl
  | o :: l, e => by
    simp only [mapsL, mapsF]
    cases o.ck == 3 with
    | true => rfl
    | false => exact mapsF_eq l _

def mpX (P : Program) : Code := (loopsOf P 101 3).headD .skip
theorem mpX_eq : loopsOf Try.prog 101 3 = [mpX Try.prog] := by kernel_rfl
def mpH (own : Bool) (n : Nat) (xs : List O3) (e : Int) (i : Int) : St := stOf 46 [(2, vI 0), (3, vI e), (7, .slice (some ⟨0, 0, some 0⟩) n 12), (8, vI n), (9, vI i)] [.rows own true 12 n (opRow xs)]
theorem mpR (own : Bool) (n : Nat) (xs : List O3) (e : Int) (i : Int) : roundR ((CCh Try.prog).into 101 1) 40 (mpX Try.prog) [2, 3, 7, 8, 9] [2, 3] [.fix 0] [.fix 0] (mpH own n xs e i) =
    (match decide (i < (n : Int)) with
    | true => match boundsI i n with
      | true => mapsT (atO xs i) (some (.ret, stOf 46 [(2, vI 3), (3, vI e)] [.rows own true 12 n (opRow xs)])) (some (.normal, mpH own n xs 4 (W (i + 1)))) (some (.normal, mpH own n xs e (W (i + 1))))
      | false => none
    | false => some (.exit 0, stOf 46 [(2, vI 0), (3, vI e)] [.rows own true 12 n (opRow xs)])) := by kernel_rfl
structure mpG where
  (own : Bool) (n : Nat) (xs : List O3) (e : Int) (i : Int)
def mpO (own : Bool) (n : Nat) (xs : List O3) (e : Int) (i : Int) : Exit × St :=
  match (mapsF (xs.drop i.toNat) e).1 with
  | true => (.ret, stOf 46 [(2, vI 3), (3, vI (mapsF (xs.drop i.toNat) e).2)] [.rows own true 12 n (opRow xs)])
  | false => (.exit 0, stOf 46 [(2, vI 0), (3, vI (mapsF (xs.drop i.toNat) e).2)] [.rows own true 12 n (opRow xs)])
theorem mpL (own : Bool) (n : Nat) (xs : List O3) (e : Int) (i : Int) (hg : 0 ≤ i ∧ (n : Int) ≤ 4611686018427387904 ∧ xs.length = n) : LoopSem Try.prog 1 (mpX Try.prog) (mpH own n xs e i) (mpO own n xs e i).1 (mpO own n xs e i).2 := by
  refine loop_rule (C := CCh Try.prog) okCh (f := 101) (B := 1) (loopsOf_in (k := 3) mpX_eq) 40 [2, 3, 7, 8, 9] [2, 3] [.fix 0] [.fix 0] (fun g : mpG => mpH g.own g.n g.xs g.e g.i) (fun g => (g.n - g.i).toNat) (fun g => 0 ≤ g.i ∧ (g.n : Int) ≤ 4611686018427387904 ∧ g.xs.length = g.n) (fun g => mpO g.own g.n g.xs g.e g.i) ?_ ⟨own, n, xs, e, i⟩ hg
  clear hg
  rintro ⟨own, n, xs, e, i⟩ hg
  simp only at hg
  simp only [mpR]
  obtain ⟨h0, h1, h2⟩ := hg
  by_cases hi : i < (n : Int)
  · have hd : decide (i < (n : Int)) = true := by simpa using hi
    have hb : boundsI i n = true := by simp [boundsI, h0, hi]
    have hdr := drop_at (xs := xs) h0 (by omega)
    have hw : W (i + 1) = i + 1 := W_in (by omega)
    rw [hd, hb, hw, mapsT_eq]
    cases h3 : (atO xs i).ck == 3 with
    | true =>
      right
      unfold mpO
      simp only [hdr, mapsF, h3]
      exact ⟨trivial, by simp⟩
    | false =>
      left
      cases h4 : (atO xs i).ck == 4 with
      | true =>
        refine ⟨⟨own, n, xs, 4, i + 1⟩, rfl, ⟨by simp only; omega, h1, h2⟩, by simp only; omega, ?_⟩
        unfold mpO
        simp only [hdr, mapsF, h3, h4]
      | false =>
        refine ⟨⟨own, n, xs, e, i + 1⟩, rfl, ⟨by simp only; omega, h1, h2⟩, by simp only; omega, ?_⟩
        unfold mpO
        simp only [hdr, mapsF, h3, h4]
  · have hd : decide (i < (n : Int)) = false := by simpa using hi
    rw [hd]
    right
    have hn : xs.drop i.toNat = [] := List.drop_eq_nil_of_le (by omega)
    unfold mpO
    simp only [hn, mapsF]
    exact ⟨trivial, by simp⟩
def mpS (st : St) : Option (Ans (Exit × St)) :=
  match sized st 46 1, tAt st 2, tAt st 3, tAt st 7, tAt st 8, tAt st 9, st.mem with
  | true, some (.int .i64 0), some (.int .i64 e), some (.slice (some ⟨0, 0, some 0⟩) n 12), some (.int .i64 ln), some (.int .i64 i), [.rows own true 12 n2 row] => some (.br (Nat.beq n n2 && (okOps n row && (decide ((n : Int) = ln) && (decide (0 ≤ i) && (decide ((n : Int) ≤ 4611686018427387904)))))) (.br ((mapsF ((opsOf n row).drop i.toNat) e).1)
      (.out (.ret, stOf 46 [(2, vI 3), (3, vI (mapsF ((opsOf n row).drop i.toNat) e).2)] [.rows own true 12 n (opRow (opsOf n row))]))
      (.out (.exit 0, stOf 46 [(2, vI 0), (3, vI (mapsF ((opsOf n row).drop i.toNat) e).2)] [.rows own true 12 n (opRow (opsOf n row))]))) .fail)
  | _, _, _, _, _, _, _ => none
theorem mpK {st : St} {ans : Ans (Exit × St)} {e_ : Exit} {s_ : St} (h : mpS st = some ans) (hr : ans.res = some (e_, s_)) : LoopSem Try.prog 1 (mpX Try.prog) st e_ s_ := by
  unfold mpS at h
  split at h
  · rename_i e n ln i own n2 row hb hs0 hs1 hs2 hs3 hs4 hm
    simp only [Option.some.injEq] at h
    subst h
    rcases Ans.br_some hr with ⟨hc, hr1⟩ | ⟨_, hr1⟩
    · clear hr
      simp only [Bool.and_eq_true] at hc
      obtain ⟨ht0, ht1, ht2, ht3, ht4⟩ := hc
      have ht0 := beq_len ht0
      subst ht0
      have ht2 : (n : Int) = ln := by simpa using ht2
      subst ht2
      have hinv : 0 ≤ i ∧ (n : Int) ≤ 4611686018427387904 ∧ (opsOf n row).length = n := by
        exact ⟨by simpa using ht3, by simpa using ht4, opsOf_length n row⟩
      have hk := stOf_keep hb [(2, vI 0), (3, vI e), (7, .slice (some ⟨0, 0, some 0⟩) n 12), (8, vI n), (9, vI i)] (by
        intro x hx
        simp only [List.mem_cons, List.not_mem_nil, or_false] at hx
        rcases hx with rfl | rfl | rfl | rfl | rfl
        · exact hs0
        · exact hs1
        · exact hs2
        · exact hs3
        · exact hs4) hm
      have key := mpL own n (opsOf n row) e i hinv
      unfold mpH at key
      have key := LoopSem.like (m := [.rows own true 12 n row]) key ⟨.rows (ops_like ht1), trivial⟩
      have key : LoopSem Try.prog 1 (mpX Try.prog) (stOf 46 [(2, vI 0), (3, vI e), (7, .slice (some ⟨0, 0, some 0⟩) n 12), (8, vI n), (9, vI i)] [.rows own true 12 n row]) _ _ := key
      rw [← hk] at key
      have key := LoopSem.clean key
      unfold mpO at key
      rcases Ans.br_some hr1 with ⟨hq, hr1⟩ | ⟨hq, hr1⟩
      · simp only [hq] at key
        simp only [Ans.res, Option.some.injEq, Prod.mk.injEq] at hr1
        obtain ⟨rfl, rfl⟩ := hr1
        exact key
      · simp only [hq] at key
        simp only [Ans.res, Option.some.injEq, Prod.mk.injEq] at hr1
        obtain ⟨rfl, rfl⟩ := hr1
        exact key
    · simp [Ans.res] at hr1
  · cases h
end Go.Proofs.Ytjpfnfckpgilgaa
