/-
  The loop of group.Close. Nothing here is trusted.
-/
import Derived.Test.YtcefeamjnnkahaaGk
import Derived.Test.YtcefeamjnnkahaaGf

namespace Go.Proofs.Ytcefeamjnnkahaa
open Go Vx
/-- newSpan: the identity alone. -/
theorem nsE : exT ((Cta Try.prog).at 30) 60 Try.f30 [] [] [.fix 1, .fix 4, .fix 0] = some (.pointer (some ⟨0, 0, none⟩), [.cells true 0 [.slice (some ⟨1, 0, some 0⟩) 1 12, .map (some 2), .slice none 0 0], .rows true true 12 1 (chop 12 0 O3.one.cells), .mp true 12 [(key O3.one, 0)]]) := by kernel_rfl
def nsF : List Value → Mem → Option (Ans (Value × Mem))
  | [], [] => some (.out (.pointer (some ⟨0, 0, none⟩), spanM0 1 [O3.one] [(key O3.one, 0)]))
  | _, _ => none
def Cns (P : Program) : Cx := (Cta P).addF 30 nsF
theorem okns : CxOk (Cns Try.prog) := Cx.addF_ok okta fun args mm ans v m' h hr => by
  unfold nsF at h
  split at h
  · simp only [Option.some.injEq] at h
    subst h
    simp only [Ans.res, Option.some.injEq, Prod.mk.injEq] at hr
    obtain ⟨rfl, rfl⟩ := hr
    exact (exT_ok okta Try.func30 (by kernel_rfl) nsE).likes ⟨.refl _, like_chop _, .refl _, trivial⟩
  · cases h
def clX' (P : Program) : Code := (loopsOf P 9 6).headD .skip
theorem clX_eq : loopsOf Try.prog 9 6 = [clX' Try.prog] := by kernel_rfl
def clE (own : Bool) (N : Nat) (ls : List O3) (n : Nat) (xs : List O3) (es : ES) : Mem := [.rows own true 12 N (opRow ls), .cells true 0 [.slice (some ⟨2, 0, some 0⟩) n 12, .map (some 3), .slice none 0 0], .rows true true 12 n (opRow xs), .mp true 12 es]
def clN (own : Bool) (N : Nat) (ls : List O3) (n : Nat) (xs : List O3) (es : ES) : Mem := [.rows own true 12 N (opRow ls), .cells true 0 [.slice (some ⟨2, 0, some 0⟩) n 12, .map (some 3), .slice none 0 0], .rows true true 12 n (opRow xs), .mp true 12 es, .no]
def clM (own : Bool) (N : Nat) (ls : List O3) (n : Nat) (xs : List O3) (es : ES) (k : Nat) (ms : List O3) : Mem := [.rows own true 12 N (opRow ls), .cells true 0 [.slice (some ⟨2, 0, some 0⟩) n 12, .map (some 3), .slice (some ⟨4, 0, some 0⟩) k 12], .rows true true 12 n (opRow xs), .mp true 12 es, .rows true true 12 k (opRow ms)]
def clX (own : Bool) (N : Nat) (ls : List O3) : Mem := [.rows own true 12 N (opRow ls), .gone, .no, .no, .no]
def clH (m : Mem) (N : Nat) (i : Int) : St := stOf 34 [(2, .slice none 0 0), (3, vI 0), (5, .pointer (some ⟨1, 0, none⟩)), (14, .slice (some ⟨0, 0, some 0⟩) N 12), (15, vI N), (16, vI i)] m
theorem clRE (own : Bool) (N : Nat) (ls : List O3) (n : Nat) (xs : List O3) (es : ES) (i : Int) : roundR ((Cns Try.prog).into 9 1) 40 (clX' Try.prog) [2, 3, 5, 14, 15, 16] [2, 3, 5] [.fix 0, .fix 1, .cell 1 0, .cell 1 1, .cell 1 2] [.fix 0, .fix 1, .cell 1 0, .cell 1 1, .cell 1 2] (clH (clE own N ls n xs es) N i) =
    (match decide (i < (N : Int)) with
    | true => match boundsI i N with
      | true => match (Nat.beq n n && (okOps n (opRow xs) && (decide (1 ≤ n) && decide (n ≤ 192)))) with
        | true => match mHas (key (atO ls i)) es with
          | true => some (.normal, clH (clN own N ls n (opsOf n (opRow xs)) es) N (W (i + 1)))
          | false => match (outL (n : Int) [(atO ls i)] 193 0 (opsOf n (opRow xs)) es).isSome with
            | true => match Nat.blt n (otR (n : Int) [(atO ls i)] (opsOf n (opRow xs)) es).1.length with
              | true => some (.normal, clH (clM own N ls (otR (n : Int) [(atO ls i)] (opsOf n (opRow xs)) es).1.length (otR (n : Int) [(atO ls i)] (opsOf n (opRow xs)) es).1 (otR (n : Int) [(atO ls i)] (opsOf n (opRow xs)) es).2 1 [(atO ls i)]) N (W (i + 1)))
              | false => some (.normal, clH (clM own N ls (otR (n : Int) [(atO ls i)] (opsOf n (opRow xs)) es).1.length (otR (n : Int) [(atO ls i)] (opsOf n (opRow xs)) es).1 (otR (n : Int) [(atO ls i)] (opsOf n (opRow xs)) es).2 1 [(atO ls i)]) N (W (i + 1)))
            | false => some (.ret, stOf 34 [(2, .slice none 0 0), (3, vI 5), (5, .pointer (some ⟨1, 0, none⟩))] (clX own N ls))
        | false => none
      | false => none
    | false => some (.exit 0, stOf 34 [(2, .slice none 0 0), (3, vI 0), (5, .pointer (some ⟨1, 0, none⟩))] (clN own N ls n xs es))) := by kernel_rfl
theorem clRN (own : Bool) (N : Nat) (ls : List O3) (n : Nat) (xs : List O3) (es : ES) (i : Int) : roundR ((Cns Try.prog).into 9 1) 40 (clX' Try.prog) [2, 3, 5, 14, 15, 16] [2, 3, 5] [.fix 0, .fix 1, .cell 1 0, .cell 1 1, .cell 1 2] [.fix 0, .fix 1, .cell 1 0, .cell 1 1, .cell 1 2] (clH (clN own N ls n xs es) N i) =
    (match decide (i < (N : Int)) with
    | true => match boundsI i N with
      | true => match (Nat.beq n n && (okOps n (opRow xs) && (decide (1 ≤ n) && decide (n ≤ 192)))) with
        | true => match mHas (key (atO ls i)) es with
          | true => some (.normal, clH (clN own N ls n (opsOf n (opRow xs)) es) N (W (i + 1)))
          | false => match (outL (n : Int) [(atO ls i)] 193 0 (opsOf n (opRow xs)) es).isSome with
            | true => match Nat.blt n (otR (n : Int) [(atO ls i)] (opsOf n (opRow xs)) es).1.length with
              | true => some (.normal, clH (clM own N ls (otR (n : Int) [(atO ls i)] (opsOf n (opRow xs)) es).1.length (otR (n : Int) [(atO ls i)] (opsOf n (opRow xs)) es).1 (otR (n : Int) [(atO ls i)] (opsOf n (opRow xs)) es).2 1 [(atO ls i)]) N (W (i + 1)))
              | false => some (.normal, clH (clM own N ls (otR (n : Int) [(atO ls i)] (opsOf n (opRow xs)) es).1.length (otR (n : Int) [(atO ls i)] (opsOf n (opRow xs)) es).1 (otR (n : Int) [(atO ls i)] (opsOf n (opRow xs)) es).2 1 [(atO ls i)]) N (W (i + 1)))
            | false => some (.ret, stOf 34 [(2, .slice none 0 0), (3, vI 5), (5, .pointer (some ⟨1, 0, none⟩))] (clX own N ls))
        | false => none
      | false => none
    | false => some (.exit 0, stOf 34 [(2, .slice none 0 0), (3, vI 0), (5, .pointer (some ⟨1, 0, none⟩))] (clN own N ls n xs es))) := by kernel_rfl
theorem clRM (own : Bool) (N : Nat) (ls : List O3) (n : Nat) (xs : List O3) (es : ES) (k : Nat) (ms : List O3) (i : Int) : roundR ((Cns Try.prog).into 9 1) 40 (clX' Try.prog) [2, 3, 5, 14, 15, 16] [2, 3, 5] [.fix 0, .fix 1, .cell 1 0, .cell 1 1, .cell 1 2] [.fix 0, .fix 1, .cell 1 0, .cell 1 1, .cell 1 2] (clH (clM own N ls n xs es k ms) N i) =
    (match decide (i < (N : Int)) with
    | true => match boundsI i N with
      | true => match (Nat.beq n n && (okOps n (opRow xs) && (Nat.beq k k && (okOps k (opRow ms) && (decide (1 ≤ n) && (decide (n ≤ 192) && decide (k ≤ 900))))))) with
        | true => match mHas (key (atO ls i)) es with
          | true => some (.normal, clH (clM own N ls n (opsOf n (opRow xs)) es k (opsOf k (opRow ms))) N (W (i + 1)))
          | false => match (outL (n : Int) ((opsOf k (opRow ms)) ++ [(atO ls i)]) 193 0 (opsOf n (opRow xs)) es).isSome with
            | true => match Nat.blt n (otR (n : Int) ((opsOf k (opRow ms)) ++ [(atO ls i)]) (opsOf n (opRow xs)) es).1.length with
              | true => some (.normal, clH (clM own N ls (otR (n : Int) ((opsOf k (opRow ms)) ++ [(atO ls i)]) (opsOf n (opRow xs)) es).1.length (otR (n : Int) ((opsOf k (opRow ms)) ++ [(atO ls i)]) (opsOf n (opRow xs)) es).1 (otR (n : Int) ((opsOf k (opRow ms)) ++ [(atO ls i)]) (opsOf n (opRow xs)) es).2 (k + 1) ((opsOf k (opRow ms)) ++ [(atO ls i)])) N (W (i + 1)))
              | false => some (.normal, clH (clM own N ls (otR (n : Int) ((opsOf k (opRow ms)) ++ [(atO ls i)]) (opsOf n (opRow xs)) es).1.length (otR (n : Int) ((opsOf k (opRow ms)) ++ [(atO ls i)]) (opsOf n (opRow xs)) es).1 (otR (n : Int) ((opsOf k (opRow ms)) ++ [(atO ls i)]) (opsOf n (opRow xs)) es).2 (k + 1) ((opsOf k (opRow ms)) ++ [(atO ls i)])) N (W (i + 1)))
            | false => some (.ret, stOf 34 [(2, .slice none 0 0), (3, vI 5), (5, .pointer (some ⟨1, 0, none⟩))] (clX own N ls))
        | false => none
      | false => none
    | false => some (.exit 0, stOf 34 [(2, .slice none 0 0), (3, vI 0), (5, .pointer (some ⟨1, 0, none⟩))] (clM own N ls n xs es k ms))) := by kernel_rfl
end Go.Proofs.Ytcefeamjnnkahaa


namespace Go.Proofs.Ytcefeamjnnkahaa
open Go Vx
theorem outL_len {q : Int} (hq : 0 < q) {ms : List O3} : ∀ (N : Nat) {f : Int} {xs : List O3} {es : ES}, xs.length ≤ 192 → ∀ {r : List O3 × ES}, outL q ms N f xs es = some r → xs.length ≤ r.1.length ∧ r.1.length ≤ 192
  | 0, f, xs, es, h, r, hr => by simp only [outL, Option.some.injEq] at hr; subst hr; exact ⟨Nat.le_refl _, h⟩
  | N + 1, f, xs, es, h, r, hr => by
    simp only [outL] at hr
    split at hr
    · split at hr
      · rename_i s hs
        obtain ⟨h1, h2⟩ := mkL_len hq ms h hs
        obtain ⟨h3, h4⟩ := outL_len hq N h2 hr
        exact ⟨by omega, h4⟩
      · cases hr
    · simp only [Option.some.injEq] at hr; subst hr; exact ⟨Nat.le_refl _, h⟩
/-- What a span has taken: its maps, its makers, what it has. -/
def clL : List O3 → List O3 → List O3 → ES → Option (List O3 × List O3 × ES)
  | [], xs, ms, es => some (xs, ms, es)
  | o :: l, xs, ms, es => match mHas (key o) es with
    | true => clL l xs ms es
    | false => match outL (xs.length : Int) (ms ++ [o]) 193 0 xs es with
      | some r => clL l r.1 (ms ++ [o]) r.2
      | none => none
structure clG where
  (sh : Sh) (own : Bool) (N : Nat) (ls : List O3) (n : Nat) (xs : List O3) (es : ES) (k : Nat) (ms : List O3) (i : Int)
def clMm (sh : Sh) (own : Bool) (N : Nat) (ls : List O3) (n : Nat) (xs : List O3) (es : ES) (k : Nat) (ms : List O3) : Mem := match sh with
  | .e => clE own N ls n xs es
  | .a => clN own N ls n xs es
  | .b => clM own N ls n xs es k ms
def clHg (g : clG) : St := clH (clMm g.sh g.own g.N g.ls g.n g.xs g.es g.k g.ms) g.N g.i
def Sh.no (sh : Sh) (ms : List O3) : Prop := match sh with
  | .b => ms ≠ []
  | _ => ms = []
def clInv (g : clG) : Prop := g.ls.length = g.N ∧ g.N ≤ 192 ∧ g.xs.length = g.n ∧ 1 ≤ g.n ∧ g.n ≤ 192 ∧ g.ms.length = g.k ∧ (g.k : Int) ≤ g.i ∧ 0 ≤ g.i ∧ g.i ≤ (g.N : Int) ∧ g.sh.no g.ms
def shMs (ms : List O3) : Sh := match ms with
  | [] => .a
  | _ :: _ => .b
theorem shMs_ok {sh : Sh} {ms : List O3} (h : sh.no ms) : shMs ms = sh.next := by
  cases sh with
  | b => cases ms with
    | nil => exact absurd rfl h
    | cons m ms => rfl
  | e => have : ms = [] := h; subst this; rfl
  | a => have : ms = [] := h; subst this; rfl
def clO (g : clG) : Exit × St := match clL (g.ls.drop g.i.toNat) g.xs g.ms g.es with
  | some r => (.exit 0, stOf 34 [(2, .slice none 0 0), (3, vI 0), (5, .pointer (some ⟨1, 0, none⟩))] (clMm (shMs r.2.1) g.own g.N g.ls r.1.length r.1 r.2.2 r.2.1.length r.2.1))
  | none => (.ret, stOf 34 [(2, .slice none 0 0), (3, vI 5), (5, .pointer (some ⟨1, 0, none⟩))] (clX g.own g.N g.ls))
theorem clRd (sh : Sh) (own : Bool) (N : Nat) (ls : List O3) (n : Nat) (xs : List O3) (es : ES) (k : Nat) (ms : List O3) (i : Int) (hx : xs.length = n) (hm : ms.length = k) (h1 : 1 ≤ n) (h2 : n ≤ 192) (h3 : k ≤ 900) (hs : sh.no ms) :
    roundR ((Cns Try.prog).into 9 1) 40 (clX' Try.prog) [2, 3, 5, 14, 15, 16] [2, 3, 5] [.fix 0, .fix 1, .cell 1 0, .cell 1 1, .cell 1 2] [.fix 0, .fix 1, .cell 1 0, .cell 1 1, .cell 1 2] (clH (clMm sh own N ls n xs es k ms) N i) =
    (match decide (i < (N : Int)) with
    | true => match boundsI i N with
      | true => match mHas (key (atO ls i)) es with
        | true => some (.normal, clH (clMm sh.next own N ls n xs es k ms) N (W (i + 1)))
        | false => match outL (n : Int) (ms ++ [atO ls i]) 193 0 xs es with
          | some r => some (.normal, clH (clMm .b own N ls r.1.length r.1 r.2 (k + 1) (ms ++ [atO ls i])) N (W (i + 1)))
          | none => some (.ret, stOf 34 [(2, .slice none 0 0), (3, vI 5), (5, .pointer (some ⟨1, 0, none⟩))] (clX own N ls))
      | false => none
    | false => some (.exit 0, stOf 34 [(2, .slice none 0 0), (3, vI 0), (5, .pointer (some ⟨1, 0, none⟩))] (clMm sh.next own N ls n xs es k ms))) := by
  have tN : (Nat.beq n n && (okOps n (opRow xs) && (decide (1 ≤ n) && decide (n ≤ 192)))) = true := by
    rw [Nat.beq_refl, okOps_opRow]; simp [h1, h2]
  have tM : (Nat.beq n n && (okOps n (opRow xs) && (Nat.beq k k && (okOps k (opRow ms) && (decide (1 ≤ n) && (decide (n ≤ 192) && decide (k ≤ 900))))))) = true := by
    rw [Nat.beq_refl, Nat.beq_refl, okOps_opRow, okOps_opRow]; simp [h1, h2, h3]
  cases sh with
  | e =>
    have hms : ms = [] := hs
    subst hms
    have hk : k = 0 := hm.symm
    subst hk
    have hE := clRE own N ls n xs es i
    rw [opsOf_row hx, tN] at hE
    refine hE.trans ?_
    unfold otR
    cases decide (i < (N : Int)) with
    | false => rfl
    | true =>
      cases boundsI i N with
      | false => rfl
      | true =>
        cases mHas (key (atO ls i)) es with
        | true => rfl
        | false =>
          simp only [List.nil_append]
          cases outL (n : Int) [atO ls i] 193 0 xs es with
          | none => rfl
          | some r =>
            simp only [Option.isSome_some, Option.getD_some]
            cases Nat.blt n r.1.length <;> rfl
  | a =>
    have hms : ms = [] := hs
    subst hms
    have hk : k = 0 := hm.symm
    subst hk
    have hE := clRN own N ls n xs es i
    rw [opsOf_row hx, tN] at hE
    refine hE.trans ?_
    unfold otR
    cases decide (i < (N : Int)) with
    | false => rfl
    | true =>
      cases boundsI i N with
      | false => rfl
      | true =>
        cases mHas (key (atO ls i)) es with
        | true => rfl
        | false =>
          simp only [List.nil_append]
          cases outL (n : Int) [atO ls i] 193 0 xs es with
          | none => rfl
          | some r =>
            simp only [Option.isSome_some, Option.getD_some]
            cases Nat.blt n r.1.length <;> rfl
  | b =>
    have hE := clRM own N ls n xs es k ms i
    rw [opsOf_row hx, opsOf_row hm, tM] at hE
    refine hE.trans ?_
    unfold otR
    cases decide (i < (N : Int)) with
    | false => rfl
    | true =>
      cases boundsI i N with
      | false => rfl
      | true =>
        cases mHas (key (atO ls i)) es with
        | true => rfl
        | false =>
          cases outL (n : Int) (ms ++ [atO ls i]) 193 0 xs es with
          | none => rfl
          | some r =>
            simp only [Option.isSome_some, Option.getD_some]
            cases Nat.blt n r.1.length <;> rfl
theorem clLp (g : clG) (hg : clInv g) : LoopSem Try.prog 1 (clX' Try.prog) (clHg g) (clO g).1 (clO g).2 := by
  refine loop_rule2 (C := Cns Try.prog) okns (f := 9) (B := 1) (loopsOf_in (k := 6) clX_eq) 40 [2, 3, 5, 14, 15, 16] [2, 3, 5] [.fix 0, .fix 1, .cell 1 0, .cell 1 1, .cell 1 2] [.fix 0, .fix 1, .cell 1 0, .cell 1 1, .cell 1 2] clHg (fun g => (g.N - g.i).toNat) clInv clO ?_ g hg
  clear hg g
  rintro ⟨sh, own, N, ls, n, xs, es, k, ms, i⟩ hg
  unfold clInv at hg
  simp only at hg
  obtain ⟨h1, h2, h3, h4, h5, h6, h7, h8, h9, h10⟩ := hg
  have hR := clRd sh own N ls n xs es k ms i h3 h6 h4 h5 (by omega) h10
  by_cases hi : i < (N : Int)
  · have hd : decide (i < (N : Int)) = true := by simpa using hi
    have hb : boundsI i N = true := by simp [boundsI, h8, hi]
    have hw : W (i + 1) = i + 1 := W_in (by omega)
    have hdr := drop_at (xs := ls) h8 (by omega)
    rw [hd, hb, hw] at hR
    cases hh : mHas (key (atO ls i)) es with
    | true =>
      left
      rw [hh] at hR
      refine ⟨⟨sh.next, own, N, ls, n, xs, es, k, ms, i + 1⟩, _, hR, StLike.refl _, ?_, by simp only; omega, ?_⟩
      · unfold clInv
        simp only
        exact ⟨h1, h2, h3, h4, h5, h6, by omega, by omega, by omega, by cases sh <;> exact h10⟩
      · unfold clO
        simp only [hdr, clL, hh]
    | false =>
      rw [hh] at hR
      cases ho : outL (n : Int) (ms ++ [atO ls i]) 193 0 xs es with
      | none =>
        right
        simp only [ho] at hR
        have hres : clL (ls.drop i.toNat) xs ms es = none := by simp only [hdr, clL, hh, h3, ho]
        exact ⟨stOf 34 [(2, .slice none 0 0), (3, vI 5), (5, .pointer (some ⟨1, 0, none⟩))] (clX own N ls), by unfold clHg clO; simp only [hres]; exact hR, by unfold clO; simp only [hres]; exact StLike.refl _, by unfold clO; simp [hres]⟩
      | some r =>
        left
        simp only [ho] at hR
        obtain ⟨l1, l2⟩ := outL_len (by omega) _ (by omega) ho
        refine ⟨⟨.b, own, N, ls, r.1.length, r.1, r.2, k + 1, ms ++ [atO ls i], i + 1⟩, _, hR, StLike.refl _, ?_, by simp only; omega, ?_⟩
        · unfold clInv
          simp only
          exact ⟨h1, h2, trivial, by omega, l2, by simp [h6], by omega, by omega, by omega, by simp [Sh.no]⟩
        · unfold clO
          simp only [hdr, clL, hh, h3, ho]
  · have hd : decide (i < (N : Int)) = false := by simpa using hi
    rw [hd] at hR
    right
    have hn : ls.drop i.toNat = [] := List.drop_eq_nil_of_le (by omega)
    have hres : clL (ls.drop i.toNat) xs ms es = some (xs, ms, es) := by simp only [hn, clL]
    have hsh := shMs_ok h10
    exact ⟨stOf 34 [(2, .slice none 0 0), (3, vI 0), (5, .pointer (some ⟨1, 0, none⟩))] (clMm sh.next own N ls n xs es k ms), by unfold clHg clO; simp only [hres]; exact hR, by unfold clO; simp only [hres, hsh, h3, h6]; exact StLike.refl _, by unfold clO; simp [hres]⟩
end Go.Proofs.Ytcefeamjnnkahaa


namespace Go.Proofs.Ytcefeamjnnkahaa.Vx
open Go

instance : DecidableEq O3 := fun a b => match h : a.eqB b with
  | true => isTrue (O3.eqB_iff.1 h)
  | false => isFalse (O3.eqB_false.1 h)

/-! Lists without doubles -/
theorem nodup_sub {α : Type} [DecidableEq α] : ∀ {l m : List α}, l.Nodup → (∀ x ∈ l, x ∈ m) → l.length ≤ m.length
  | [], m, _, _ => Nat.zero_le _
  | x :: l, m, h, hs => by
    rw [List.nodup_cons] at h
    have hx : x ∈ m := hs x (by simp)
    have := nodup_sub (l := l) (m := m.erase x) h.2 fun y hy => by
      have hne : y ≠ x := fun e => h.1 (e ▸ hy)
      exact (List.mem_erase_of_ne hne).2 (hs y (by simp [hy]))
    rw [List.length_erase_of_mem hx] at this
    have : 0 < m.length := List.length_pos_of_mem hx
    simp only [List.length_cons]; omega
theorem nodup_onto {α : Type} [DecidableEq α] {l m : List α} (h : l.Nodup) (hs : ∀ x ∈ l, x ∈ m) (hl : m.length ≤ l.length) : ∀ x ∈ m, x ∈ l := by
  intro x hx
  by_cases hxl : x ∈ l
  · exact hxl
  · exfalso
    have := nodup_sub (l := x :: l) (m := m) (List.nodup_cons.2 ⟨hxl, h⟩) fun y hy => by
      rcases List.mem_cons.1 hy with rfl | hy
      · exact hx
      · exact hs y hy
    simp only [List.length_cons] at this; omega
theorem nodup_map {α β : Type} {f : α → β} {l : List α} (h : l.Nodup) (hf : ∀ a ∈ l, ∀ b ∈ l, f a = f b → a = b) : (l.map f).Nodup := by
  unfold List.Nodup at *
  rw [List.pairwise_map]
  exact h.imp_of_mem fun ha hb hne e => hne (hf _ ha _ hb e)

/-! Maps that can be undone -/
def O3.Inv (a : O3) : Prop := a.t.part = true ∧ a.r.U
theorem O3.inv_ck {a : O3} (h : a.ck = 0) : a.Inv := ⟨(O3.ck_zero.1 h).1, (O3.ck_zero.1 h).2.2⟩
theorem O3.ck_of {a : O3} (h : a.Inv) (hk : a.r.ok = true) : a.ck = 0 := O3.ck_zero.2 ⟨h.1, hk, h.2⟩
theorem O3.Inv.one : O3.one.Inv := ⟨by decide, M3.U_one⟩
theorem O3.one_ck : O3.one.ck = 0 := O3.ck_of O3.Inv.one (by decide)
theorem O3.Inv.mul {a b : O3} (ha : a.Inv) (hb : b.Inv) : (a.mul b).Inv := ⟨V3.md_part _, M3.U_mul ha.2 hb.2⟩
theorem O3.cancel_l {a b c : O3} (ha : a.Inv) (hb : b.Inv) (hc : c.Inv) (h : a.mul b = a.mul c) : b = c := by
  have := congrArg (O3.mul a.inv) h
  rwa [← O3.mul_assoc, ← O3.mul_assoc, O3.inv_mul ha.2, O3.one_mul hb.1, O3.one_mul hc.1] at this
theorem O3.mulE_iff {a b : O3} (ha : a.ck = 0) (hb : b.ck = 0) : a.mulE b = 0 ↔ (a.mul b).r.ok = true := by
  unfold O3.mulE
  rw [leastI_zero.2 ⟨ha, hb⟩]
  unfold O3.smallE
  cases (a.mul b).r.ok <;> simp

/-! What maps generate -/
inductive Gen (xs : List O3) : O3 → Prop
  | one : Gen xs O3.one
  | step {g x : O3} : Gen xs g → x ∈ xs → Gen xs (g.mul x)
def AllInv (xs : List O3) : Prop := ∀ x ∈ xs, x.Inv
theorem Gen.inv {xs : List O3} (hx : AllInv xs) {g : O3} (h : Gen xs g) : g.Inv := by
  induction h with
  | one => exact O3.Inv.one
  | step _ hm ih => exact ih.mul (hx _ hm)
theorem Gen.of {xs : List O3} (hx : AllInv xs) {x : O3} (h : x ∈ xs) : Gen xs x := by
  have := Gen.step (xs := xs) Gen.one h
  rwa [O3.one_mul (hx x h).1] at this
theorem Gen.mul {xs : List O3} (hx : AllInv xs) {g h : O3} (hg : Gen xs g) (hh : Gen xs h) : Gen xs (g.mul h) := by
  induction hh with
  | one => rwa [O3.mul_one (hg.inv hx).1]
  | step _ hm ih => rw [← O3.mul_assoc]; exact Gen.step ih hm
theorem Gen.mono {xs ys : List O3} (hy : AllInv ys) (h : ∀ x ∈ xs, Gen ys x) {g : O3} (hg : Gen xs g) : Gen ys g := by
  induction hg with
  | one => exact Gen.one
  | step _ hm ih => exact ih.mul hy (h _ hm)
/-- There is no group of at most so many maps. -/
def Bad (xs : List O3) : Prop := (∃ g, Gen xs g ∧ g.r.ok = false) ∨ ∃ l : List O3, l.Nodup ∧ 192 < l.length ∧ ∀ g ∈ l, Gen xs g
/-- The group, as a list. -/
def IsGrp (xs l : List O3) : Prop := l.Nodup ∧ l.length ≤ 192 ∧ (∀ g, g ∈ l ↔ Gen xs g) ∧ ∀ g ∈ l, g.ck = 0
theorem IsGrp.not_bad {xs l : List O3} (h : IsGrp xs l) : ¬ Bad xs := by
  obtain ⟨h1, h2, h3, h4⟩ := h
  rintro (⟨g, hg, hk⟩ | ⟨m, k1, k2, k3⟩)
  · have := (O3.ck_zero.1 (h4 g ((h3 g).2 hg))).2.1
    rw [hk] at this; cases this
  · have := nodup_sub k1 fun x hx => (h3 x).2 (k3 x hx)
    omega
theorem Bad.mono {xs ys : List O3} (hy : AllInv ys) (h : ∀ x ∈ xs, Gen ys x) (hb : Bad xs) : Bad ys := by
  rcases hb with ⟨g, hg, hk⟩ | ⟨m, k1, k2, k3⟩
  · exact Or.inl ⟨g, hg.mono hy h, hk⟩
  · exact Or.inr ⟨m, k1, k2, fun g hg => (k3 g hg).mono hy h⟩
theorem IsGrp.perm {xs l m : List O3} (h : IsGrp xs l) (k : IsGrp xs m) : l.Perm m := (List.perm_ext_iff_of_nodup h.1 k.1).2 fun g => by rw [h.2.2.1, k.2.2.1]
/-- A group: each of its maps is undone by one of them. -/
theorem grp_undo {H : List O3} (hn : H.Nodup) (hi : ∀ h ∈ H, h.Inv) (h1 : O3.one ∈ H) (hm : ∀ a ∈ H, ∀ b ∈ H, a.mul b ∈ H) {a : O3} (ha : a ∈ H) : ∃ b ∈ H, a.mul b = O3.one := by
  have hnd : (H.map a.mul).Nodup := nodup_map hn fun x hx y hy e => O3.cancel_l (hi a ha) (hi x hx) (hi y hy) e
  have := nodup_onto hnd (m := H) (fun x hx => by
    obtain ⟨y, hy, rfl⟩ := List.mem_map.1 hx
    exact hm a ha y hy) (by simp) O3.one h1
  obtain ⟨b, hb, e⟩ := List.mem_map.1 this
  exact ⟨b, hb, e⟩

/-! Cosets -/
/-- The cosets of H that begin with these maps. -/
def cosets (H bs : List O3) : List O3 := bs.flatMap fun b => H.map b.mul
theorem cosets_len (H : List O3) : ∀ (bs : List O3), (cosets H bs).length = bs.length * H.length
  | [] => by simp [cosets]
  | b :: bs => by
    have := cosets_len H bs
    unfold cosets at this ⊢
    simp only [List.flatMap_cons, List.length_append, List.length_map, List.length_cons, this]
    rw [Nat.add_mul]; omega
theorem cosets_snoc (H bs : List O3) (b : O3) : cosets H (bs ++ [b]) = cosets H bs ++ H.map b.mul := by
  unfold cosets; rw [List.flatMap_append]; simp
theorem mem_cosets {H bs : List O3} {g : O3} : g ∈ cosets H bs ↔ ∃ b ∈ bs, ∃ h ∈ H, b.mul h = g := by
  unfold cosets
  simp only [List.mem_flatMap, List.mem_map]
structure Grp (H : List O3) : Prop where
  nd : H.Nodup
  ck : ∀ h ∈ H, h.ck = 0
  one : O3.one ∈ H
  mul : ∀ a ∈ H, ∀ b ∈ H, a.mul b ∈ H
theorem IsGrp.grp {xs l : List O3} (hx : AllInv xs) (h : IsGrp xs l) : Grp l := ⟨h.1, h.2.2.2, (h.2.2.1 _).2 Gen.one, fun a ha b hb => (h.2.2.1 _).2 (((h.2.2.1 a).1 ha).mul hx ((h.2.2.1 b).1 hb))⟩
/-- A coset whose first map is new has no map in common with the others. -/
theorem coset_new {H bs : List O3} (hH : Grp H) {f : O3} (hf : f.Inv) (hn : f ∉ cosets H bs) : (∀ g ∈ H.map f.mul, g ∉ cosets H bs) ∧ (H.map f.mul).Nodup := by
  have hi : ∀ h ∈ H, h.Inv := fun h hh => O3.inv_ck (hH.ck h hh)
  constructor
  · intro g hg hc
    obtain ⟨a, ha, rfl⟩ := List.mem_map.1 hg
    obtain ⟨b, hb', h, hh, e⟩ := mem_cosets.1 hc
    obtain ⟨a', ha', e'⟩ := grp_undo hH.nd hi hH.one hH.mul ha
    apply hn
    refine mem_cosets.2 ⟨b, hb', h.mul a', hH.mul h hh a' ha', ?_⟩
    rw [← O3.mul_assoc, e, O3.mul_assoc, e', O3.mul_one hf.1]
  · exact nodup_map hH.nd fun x hx y hy e => O3.cancel_l hf (hi x hx) (hi y hy) e
/-- Cosets that the makers keep among themselves are all that the makers generate. -/
theorem cosets_all {H bs ms : List O3} (hm : AllInv ms) (hH : Grp H) (hb : ∀ b ∈ bs, Gen ms b) (hHg : ∀ h ∈ H, Gen ms h) (h1 : O3.one ∈ bs) (hc : ∀ b ∈ bs, ∀ m ∈ ms, m.mul b ∈ cosets H bs) (g : O3) : g ∈ cosets H bs ↔ Gen ms g := by
  constructor
  · intro h
    obtain ⟨b, hb', k, hk, rfl⟩ := mem_cosets.1 h
    exact (hb b hb').mul hm (hHg k hk)
  · intro h
    have hcl : ∀ m ∈ ms, ∀ y ∈ cosets H bs, m.mul y ∈ cosets H bs := fun m hmm y hy => by
      obtain ⟨b, hb', k, hk, rfl⟩ := mem_cosets.1 hy
      obtain ⟨b', hb2, k', hk', e⟩ := mem_cosets.1 (hc b hb' m hmm)
      exact mem_cosets.2 ⟨b', hb2, k'.mul k, hH.mul _ hk' _ hk, by rw [← O3.mul_assoc, e, O3.mul_assoc]⟩
    have hall : ∀ g, Gen ms g → ∀ y ∈ cosets H bs, g.mul y ∈ cosets H bs := by
      intro g hg
      induction hg with
      | one =>
        intro y hy
        obtain ⟨b, hb', k, hk, rfl⟩ := mem_cosets.1 hy
        rw [O3.one_mul (V3.md_part _)]
        exact hy
      | step _ hmm ih => intro y hy; rw [O3.mul_assoc]; exact ih _ (hcl _ hmm y hy)
    have h1' : O3.one ∈ cosets H bs := mem_cosets.2 ⟨O3.one, h1, O3.one, hH.one, O3.one_mul (by decide)⟩
    have := hall g h O3.one h1'
    rwa [O3.mul_one (h.inv hm).1] at this
end Go.Proofs.Ytcefeamjnnkahaa.Vx


namespace Go.Proofs.Ytcefeamjnnkahaa
open Go Vx

theorem mHas_put (k j : List Int) (v : Int) : ∀ (es : ES), mHas j (mPut k v es) = true ↔ j = k ∨ mHas j es = true
  | [] => by
    simp only [mPut, mHas]
    by_cases h : k = j
    · subst h; simp
    · simp [h, Ne.symm h]
  | e :: es => by
    have ih := mHas_put k j v es
    simp only [mPut]
    by_cases h : e.1 = k
    · rw [show decide (e.1 = k) = true by simpa using h]
      simp only [mHas]
      by_cases hj : k = j
      · subst hj; simp
      · have hj' : ¬ e.1 = j := by rw [h]; exact hj
        simp [hj, hj', Ne.symm hj]
    · rw [show decide (e.1 = k) = false by simpa using h]
      simp only [mHas]
      by_cases hj : e.1 = j
      · simp [hj]
      · rw [show decide (e.1 = j) = false by simpa using hj]
        exact ih
/-- The keys are the maps. -/
def Keys (xs : List O3) (es : ES) : Prop := ∀ o, mHas (key o) es = true ↔ o ∈ xs
theorem Keys.put {xs : List O3} {es : ES} (h : Keys xs es) (o : O3) : Keys (xs ++ [o]) (mPut (key o) 0 es) := fun p => by
  rw [mHas_put, h p, List.mem_append, List.mem_singleton]
  constructor
  · rintro (e | e)
    · exact Or.inr (key_inj e)
    · exact Or.inl e
  · rintro (e | e)
    · exact Or.inr e
    · exact Or.inl (by rw [e])
/-- A coset that goes through. -/
theorem cosL_spec {f : O3} (hf : f.ck = 0) : ∀ (l : List O3) (xs : List O3) (es : ES), (∀ a ∈ l, a.ck = 0) → Keys xs es →
    ((cosL f l xs es).1 = true ∧ (cosL f l xs es).2.1 = xs ++ l.map f.mul ∧ Keys (xs ++ l.map f.mul) (cosL f l xs es).2.2 ∧ ∀ a ∈ l, (f.mul a).ck = 0) ∨ ((cosL f l xs es).1 = false ∧ ∃ a ∈ l, (f.mul a).r.ok = false)
  | [], xs, es, _, hk => Or.inl ⟨rfl, by simp [cosL], by simpa [cosL] using hk, by simp⟩
  | a :: l, xs, es, hl, hk => by
    have ha := hl a (by simp)
    simp only [cosL]
    by_cases he : f.mulE a = 0
    · obtain ⟨e1, e2⟩ := O3.mulF_of hf ha he
      rw [(beq_true he).2, e1]
      rcases cosL_spec hf l (xs ++ [f.mul a]) (mPut (key (f.mul a)) 0 es) (fun x hx => hl x (by simp [hx])) (hk.put _) with ⟨h1, h2, h3, h4⟩ | ⟨h1, b, hb, h2⟩
      · left
        refine ⟨h1, by rw [h2]; simp, by simpa using h3, fun x hx => ?_⟩
        rcases List.mem_cons.1 hx with rfl | hx
        · exact e2
        · exact h4 x hx
      · right
        exact ⟨h1, b, by simp [hb], h2⟩
    · right
      rw [(bif_beq he).2]
      refine ⟨rfl, a, by simp, ?_⟩
      rw [O3.mulE_iff hf ha] at he
      simpa using he
/-- A span on its way: cosets of a group, each with its first map. -/
structure Way (H ms bs xs : List O3) (es : ES) : Prop where
  eq : xs = cosets H bs
  keys : Keys xs es
  nd : xs.Nodup
  ck : ∀ g ∈ xs, g.ck = 0
  gen : ∀ b ∈ bs, Gen ms b
  bck : ∀ b ∈ bs, b.ck = 0
  head : xs.take H.length = H
  len : xs.length ≤ 192
structure Base (H ms : List O3) : Prop where
  grp : Grp H
  gen : ∀ h ∈ H, Gen ms h
  inv : AllInv ms
  mck : ∀ m ∈ ms, m.ck = 0
  first : ∃ l, H = O3.one :: l
theorem tcStep_spec {H ms bs xs : List O3} {es : ES} (hB : Base H ms) (hW : Way H ms bs xs es) {m b : O3} (hm : m ∈ ms) (hb : b ∈ bs) :
    (∃ r bs', tcStep m b (H.length : Int) xs es = some r ∧ Way H ms (bs ++ bs') r.1 r.2 ∧ m.mul b ∈ r.1) ∨ (tcStep m b (H.length : Int) xs es = none ∧ Bad ms) := by
  have hmk := hB.mck m hm
  have hbk := hW.bck b hb
  have hg : Gen ms (m.mul b) := (Gen.of hB.inv hm).mul hB.inv (hW.gen b hb)
  unfold tcStep
  by_cases he : m.mulE b = 0
  · obtain ⟨e1, e2⟩ := O3.mulF_of hmk hbk he
    rw [(beq_true he).2, e1]
    simp only
    by_cases hh : mHas (key (m.mul b)) es = true
    · rw [hh]
      left
      refine ⟨(xs, es), [], rfl, by simpa using hW, (hW.keys _).1 hh⟩
    · have hnm : m.mul b ∉ xs := fun h => hh ((hW.keys _).2 h)
      rw [Bool.not_eq_true] at hh
      rw [hh]
      simp only
      have hnew := coset_new hB.grp (O3.inv_ck e2) (by rw [← hW.eq]; exact hnm)
      have hnd : (xs ++ H.map (m.mul b).mul).Nodup := List.nodup_append.2 ⟨hW.nd, hnew.2, fun a ha c hc e => by
        subst e
        exact hnew.1 a hc (by rw [← hW.eq]; exact ha)⟩
      have hgen : ∀ g ∈ xs ++ H.map (m.mul b).mul, Gen ms g := fun g hg' => by
        rcases List.mem_append.1 hg' with h | h
        · rw [hW.eq] at h
          obtain ⟨c, hc, k, hk, rfl⟩ := mem_cosets.1 h
          exact (hW.gen c hc).mul hB.inv (hB.gen k hk)
        · obtain ⟨k, hk, rfl⟩ := List.mem_map.1 h
          exact hg.mul hB.inv (hB.gen k hk)
      by_cases hl : (xs.length : Int) + (H.length : Int) > 192
      · rw [show decide ((xs.length : Int) + (H.length : Int) > 192) = true by simpa using hl]
        right
        exact ⟨rfl, Or.inr ⟨_, hnd, by simp; omega, hgen⟩⟩
      · rw [show decide ((xs.length : Int) + (H.length : Int) > 192) = false by simpa using hl]
        simp only [Int.toNat_natCast, hW.head]
        rcases cosL_spec e2 H xs es hB.grp.ck hW.keys with ⟨h1, h2, h3, h4⟩ | ⟨h1, a, ha, h2⟩
        · rw [h1]
          left
          refine ⟨_, [m.mul b], rfl, ?_, ?_⟩
          · rw [h2]
            refine ⟨by rw [cosets_snoc, ← hW.eq], h3, hnd, fun g hg' => ?_, fun c hc => ?_, fun c hc => ?_, ?_, ?_⟩
            · rcases List.mem_append.1 hg' with h | h
              · exact hW.ck g h
              · obtain ⟨k, hk, rfl⟩ := List.mem_map.1 h
                exact h4 k hk
            · rcases List.mem_append.1 hc with h | h
              · exact hW.gen c h
              · rw [List.mem_singleton] at h; subst h; exact hg
            · rcases List.mem_append.1 hc with h | h
              · exact hW.bck c h
              · rw [List.mem_singleton] at h; subst h; exact e2
            · have hle : H.length ≤ xs.length := by
                have := congrArg List.length hW.head
                rw [List.length_take] at this
                omega
              rw [List.take_append_of_le_length hle, hW.head]
            · simp; omega
          · rw [h2]
            refine List.mem_append_right _ (List.mem_map.2 ⟨O3.one, hB.grp.one, O3.mul_one (V3.md_part _)⟩)
        · rw [h1]
          right
          exact ⟨rfl, Or.inl ⟨_, hg.mul hB.inv (hB.gen a ha), h2⟩⟩
  · right
    rw [(bif_beq he).2]
    refine ⟨rfl, Or.inl ⟨_, hg, ?_⟩⟩
    rw [O3.mulE_iff hmk hbk] at he
    simpa using he
theorem Way.sub {H ms bs bs' xs xs' : List O3} {es es' : ES} (h : Way H ms bs xs es) (h' : Way H ms (bs ++ bs') xs' es') : ∀ g ∈ xs, g ∈ xs' := fun g hg => by
  rw [h.eq] at hg
  rw [h'.eq]
  obtain ⟨b, hb, k, hk, e⟩ := mem_cosets.1 hg
  exact mem_cosets.2 ⟨b, List.mem_append_left _ hb, k, hk, e⟩
/-- The first map of a coset, by its place. -/
theorem Way.at {H ms bs xs : List O3} {es : ES} (hB : Base H ms) (h : Way H ms bs xs es) {j : Nat} (hj : j < bs.length) : atO xs ((j * H.length : Nat) : Int) = bs[j] := by
  obtain ⟨l, hl⟩ := hB.first
  have key : ∀ (bs : List O3) (j : Nat) (hj : j < bs.length), (cosets H bs)[j * H.length]? = some (bs[j].mul O3.one) := by
    intro bs
    induction bs with
    | nil => intro j hj; simp at hj
    | cons b bs ih =>
      intro j hj
      have hc : cosets H (b :: bs) = H.map b.mul ++ cosets H bs := by unfold cosets; simp
      rw [hc]
      cases j with
      | zero => rw [Nat.zero_mul, hl]; simp
      | succ j =>
        have hj' : j < bs.length := by simpa using hj
        rw [List.getElem?_append_right (by rw [List.length_map, Nat.add_mul]; omega)]
        rw [List.length_map, show (j + 1) * H.length - H.length = j * H.length by rw [Nat.add_mul]; omega, ih j hj']
        simp
  unfold atO
  rw [Int.toNat_natCast, h.eq, key bs j hj, Option.getD_some, O3.mul_one]
  exact (O3.inv_ck (h.bck _ (List.getElem_mem hj))).1
theorem mkL_spec {H ms : List O3} (hB : Base H ms) : ∀ (l : List O3), (∀ m ∈ l, m ∈ ms) → ∀ (bs xs : List O3) (es : ES), Way H ms bs xs es → ∀ (j : Nat) (hj : j < bs.length),
    (∃ r bs', mkL ((j * H.length : Nat) : Int) (H.length : Int) l xs es = some r ∧ Way H ms (bs ++ bs') r.1 r.2 ∧ ∀ m ∈ l, m.mul bs[j] ∈ r.1) ∨ (mkL ((j * H.length : Nat) : Int) (H.length : Int) l xs es = none ∧ Bad ms)
  | [], _, bs, xs, es, hW, j, hj => Or.inl ⟨(xs, es), [], rfl, by simpa using hW, by simp⟩
  | m :: l, hl, bs, xs, es, hW, j, hj => by
    simp only [mkL]
    rw [hW.at hB hj]
    rcases tcStep_spec hB hW (hl m (by simp)) (List.getElem_mem hj) with ⟨r, b1, h1, h2, h3⟩ | ⟨h1, h2⟩
    · rw [h1]
      simp only
      rcases mkL_spec hB l (fun x hx => hl x (by simp [hx])) (bs ++ b1) r.1 r.2 h2 j (by simp; omega) with ⟨s, b2, k1, k2, k3⟩ | ⟨k1, k2⟩
      · left
        refine ⟨s, b1 ++ b2, k1, by rw [← List.append_assoc]; exact k2, fun x hx => ?_⟩
        rcases List.mem_cons.1 hx with rfl | hx
        · exact h2.sub k2 _ h3
        · have := k3 x hx
          rwa [List.getElem_append_left hj] at this
      · right; exact ⟨k1, k2⟩
    · right
      rw [h1]
      exact ⟨rfl, h2⟩
theorem outL_spec {H ms : List O3} (hB : Base H ms) : ∀ (N : Nat) (bs xs : List O3) (es : ES), Way H ms bs xs es → ∀ (j : Nat), j ≤ bs.length → N + j = 193 → (∀ (i : Nat) (hi : i < bs.length), i < j → ∀ m ∈ ms, m.mul bs[i] ∈ xs) →
    (∃ r bs', outL (H.length : Int) ms N ((j * H.length : Nat) : Int) xs es = some r ∧ Way H ms (bs ++ bs') r.1 r.2 ∧ ∀ b ∈ bs ++ bs', ∀ m ∈ ms, m.mul b ∈ r.1) ∨ (outL (H.length : Int) ms N ((j * H.length : Nat) : Int) xs es = none ∧ Bad ms)
  | 0, bs, xs, es, hW, j, hj, hN, hd => by
    exfalso
    have h1 := cosets_len H bs
    rw [← hW.eq] at h1
    have h2 := hW.len
    obtain ⟨l, hl⟩ := hB.first
    have h3 : 1 ≤ H.length := by rw [hl]; simp
    have : bs.length * 1 ≤ bs.length * H.length := Nat.mul_le_mul_left _ h3
    omega
  | N + 1, bs, xs, es, hW, j, hj, hN, hd => by
    simp only [outL]
    have h1 := cosets_len H bs
    rw [← hW.eq] at h1
    obtain ⟨l, hl⟩ := hB.first
    have h3 : 1 ≤ H.length := by rw [hl]; simp
    by_cases hlt : j < bs.length
    · have : j * H.length < bs.length * H.length := Nat.mul_lt_mul_of_lt_of_le hlt (Nat.le_refl _) h3
      rw [show decide (((j * H.length : Nat) : Int) < (xs.length : Int)) = true by simp only [decide_eq_true_eq]; omega]
      simp only
      rcases mkL_spec hB ms (fun _ h => h) bs xs es hW j hlt with ⟨r, b1, k1, k2, k3⟩ | ⟨k1, k2⟩
      · rw [k1]
        simp only
        have hnext := outL_spec hB N (bs ++ b1) r.1 r.2 k2 (j + 1) (by simp; omega) (by omega) fun i hi hij m hm => by
          by_cases hi2 : i < bs.length
          · rw [List.getElem_append_left hi2]
            by_cases hij2 : i < j
            · exact hW.sub k2 _ (hd i hi2 hij2 m hm)
            · obtain rfl : i = j := by omega
              exact k3 m hm
          · omega
        rw [show ((j * H.length : Nat) : Int) + (H.length : Int) = (((j + 1) * H.length : Nat) : Int) by rw [Nat.add_mul]; omega]
        rcases hnext with ⟨s, b2, e1, e2, e3⟩ | ⟨e1, e2⟩
        · left
          exact ⟨s, b1 ++ b2, e1, by rw [← List.append_assoc]; exact e2, by rw [← List.append_assoc]; exact e3⟩
        · right; exact ⟨e1, e2⟩
      · right
        rw [k1]
        exact ⟨rfl, k2⟩
    · obtain rfl : j = bs.length := by omega
      rw [show decide (((bs.length * H.length : Nat) : Int) < (xs.length : Int)) = false by simp only [decide_eq_false_iff_not]; omega]
      left
      refine ⟨(xs, es), [], rfl, by simpa using hW, fun b hb m hm => ?_⟩
      rw [List.append_nil] at hb
      obtain ⟨i, hi, rfl⟩ := List.mem_iff_getElem.1 hb
      exact hd i hi hi m hm
/-- A span that holds what its makers generate. -/
structure Span (xs ms : List O3) (es : ES) : Prop where
  grp : IsGrp ms xs
  keys : Keys xs es
  mck : ∀ m ∈ ms, m.ck = 0
  first : ∃ l, xs = O3.one :: l
theorem all_inv {l : List O3} (h : ∀ x ∈ l, x.ck = 0) : AllInv l := fun x hx => O3.inv_ck (h x hx)
theorem take_spec {xs ms : List O3} {es : ES} (hS : Span xs ms es) {o : O3} (ho : o.ck = 0) :
    (∃ r, outL (xs.length : Int) (ms ++ [o]) 193 0 xs es = some r ∧ Span r.1 (ms ++ [o]) r.2) ∨ (outL (xs.length : Int) (ms ++ [o]) 193 0 xs es = none ∧ Bad (ms ++ [o])) := by
  have hck : ∀ m ∈ ms ++ [o], m.ck = 0 := fun m hm => by
    rcases List.mem_append.1 hm with h | h
    · exact hS.mck m h
    · rw [List.mem_singleton] at h; subst h; exact ho
  have hi := all_inv hck
  have hg : ∀ h ∈ xs, Gen (ms ++ [o]) h := fun h hh => ((hS.grp.2.2.1 h).1 hh).mono hi fun x hx => Gen.of hi (List.mem_append_left _ hx)
  have hB : Base xs (ms ++ [o]) := ⟨hS.grp.grp (all_inv hS.mck), hg, hi, hck, hS.first⟩
  have h1 : xs.map O3.one.mul = xs := by
    conv => rhs; rw [← List.map_id xs]
    exact List.map_congr_left fun x hx => O3.one_mul (O3.inv_ck (hS.grp.2.2.2 x hx)).1
  have hW : Way xs (ms ++ [o]) [O3.one] xs es := by
    refine ⟨by unfold cosets; simp [h1], hS.keys, hS.grp.1, hS.grp.2.2.2, fun b hb => ?_, fun b hb => ?_, by simp, hS.grp.2.1⟩
    · rw [List.mem_singleton] at hb; subst hb; exact Gen.one
    · rw [List.mem_singleton] at hb; subst hb; exact O3.one_ck
  have := outL_spec hB 193 [O3.one] xs es hW 0 (by simp) rfl (by omega)
  rw [Nat.zero_mul] at this
  rcases this with ⟨r, bs, k1, k2, k3⟩ | ⟨k1, k2⟩
  · left
    refine ⟨r, k1, ⟨k2.nd, k2.len, fun g => ?_, k2.ck⟩, k2.keys, hck, ?_⟩
    · rw [k2.eq] at k3 ⊢
      exact cosets_all hi hB.grp k2.gen hg (by simp) k3 g
    · obtain ⟨l, hl⟩ := hS.first
      have := k2.head
      rw [hl] at this
      cases hr : r.1 with
      | nil => rw [hr] at this; simp at this
      | cons x l' =>
        rw [hr] at this
        simp only [List.length_cons, List.take_succ_cons, List.cons.injEq] at this
        exact ⟨l', by rw [this.1]⟩
  · right; exact ⟨k1, k2⟩
theorem Gen.app {xs : List O3} {ys : List O3} {g : O3} (hi : AllInv (xs ++ ys)) (h : Gen xs g) : Gen (xs ++ ys) g := h.mono hi fun _ hx => Gen.of hi (List.mem_append_left _ hx)
/-- Close's loop: the maps that are left, behind those that were taken. -/
theorem clL_spec : ∀ (l done xs ms : List O3) (es : ES), (∀ o ∈ done ++ l, o.ck = 0) → Span xs ms es → (∀ m ∈ ms, m ∈ done) → (∀ o ∈ done, o ∈ xs) →
    (∃ r, clL l xs ms es = some r ∧ IsGrp (done ++ l) r.1) ∨ (clL l xs ms es = none ∧ Bad (done ++ l))
  | [], done, xs, ms, es, hck, hS, hm, hd => by
    left
    rw [List.append_nil] at hck ⊢
    have hi := all_inv hck
    refine ⟨(xs, ms, es), rfl, hS.grp.1, hS.grp.2.1, fun g => ?_, hS.grp.2.2.2⟩
    rw [hS.grp.2.2.1]
    exact ⟨fun h => h.mono hi fun x hx => Gen.of hi (hm x hx), fun h => h.mono (all_inv hS.mck) fun x hx => (hS.grp.2.2.1 x).1 (hd x hx)⟩
  | o :: l, done, xs, ms, es, hck, hS, hm, hd => by
    simp only [clL]
    have ho : o.ck = 0 := hck o (by simp)
    have e : done ++ o :: l = (done ++ [o]) ++ l := by simp
    rw [e] at hck ⊢
    by_cases hh : mHas (key o) es = true
    · rw [hh]
      refine clL_spec l (done ++ [o]) xs ms es hck hS (fun m hx => List.mem_append_left _ (hm m hx)) fun x hx => ?_
      rcases List.mem_append.1 hx with h | h
      · exact hd x h
      · rw [List.mem_singleton] at h; subst h; exact (hS.keys _).1 hh
    · rw [Bool.not_eq_true] at hh
      rw [hh]
      simp only
      have hms : ∀ m ∈ ms ++ [o], m ∈ done ++ [o] := fun m hx => by
        rcases List.mem_append.1 hx with h | h
        · exact List.mem_append_left _ (hm m h)
        · exact List.mem_append_right _ h
      rcases take_spec hS ho with ⟨r, k1, k2⟩ | ⟨k1, k2⟩
      · rw [k1]
        simp only
        refine clL_spec l (done ++ [o]) r.1 (ms ++ [o]) r.2 hck k2 hms fun x hx => ?_
        have hi2 := all_inv k2.mck
        rw [k2.grp.2.2.1]
        rcases List.mem_append.1 hx with h | h
        · exact Gen.app hi2 ((hS.grp.2.2.1 x).1 (hd x h))
        · exact Gen.of hi2 (List.mem_append_right _ h)
      · right
        rw [k1]
        have hi := all_inv hck
        exact ⟨rfl, k2.mono hi fun x hx => Gen.of hi (List.mem_append_left _ (hms x hx))⟩
theorem span_one : Span [O3.one] [] [(key O3.one, 0)] := by
  refine ⟨⟨by simp, by simp, fun g => ?_, by simp [O3.one_ck]⟩, fun o => ?_, by simp, ⟨[], rfl⟩⟩
  · rw [List.mem_singleton]
    constructor
    · rintro rfl; exact Gen.one
    · intro h
      cases h with
      | one => rfl
      | step _ hx => simp at hx
  · simp only [mHas, List.mem_singleton]
    by_cases h : key O3.one = key o
    · simp [h, (key_inj h).symm]
    · have : ¬ o = O3.one := fun e => h (by rw [e])
      simp [h, this]
/-- What Close's loop comes to. -/
def clR (ls : List O3) : Option (List O3 × List O3 × ES) := clL ls [O3.one] [] [(key O3.one, 0)]
theorem clR_spec {ls : List O3} (h : ∀ o ∈ ls, o.ck = 0) : (∃ r, clR ls = some r ∧ IsGrp ls r.1) ∨ (clR ls = none ∧ Bad ls) :=
  clL_spec ls [] [O3.one] [] _ h span_one (by simp) (by simp)
end Go.Proofs.Ytcefeamjnnkahaa
