/-
  Rotations and Centring, of the program and of the document: their loops. Nothing here is trusted.
-/
import Derived.Test.YtcefeamjnnkahaaGv
import Derived.Test.YtcefeamjnnkahaaGu

namespace Go.Proofs.Ytcefeamjnnkahaa
open Go Vx
/-- What a loop appends, place by place. -/
def bld {α : Type} (t : Int → Bool) (e : Int → α) : Nat → Int → List α → List α
  | 0, _, ms => ms
  | c + 1, i, ms => match t i with
    | true => bld t e c (i + 1) (ms ++ [e i])
    | false => bld t e c (i + 1) ms
def shOk {α : Type} (sh : Sh) (ms : List α) : Prop := match sh with
  | .b => ms ≠ []
  | _ => ms = []
def shOf1 {α : Type} (ms : List α) : Sh := match ms with
  | [] => .a
  | _ :: _ => .b
theorem shOf1_ok {α : Type} {sh : Sh} {ms : List α} (h : shOk sh ms) : shOf1 ms = sh.next := by
  cases sh with
  | b => cases ms with
    | nil => exact absurd rfl h
    | cons m ms => rfl
  | e => have : ms = [] := h; subst this; rfl
  | a => have : ms = [] := h; subst this; rfl
def nilL {α : Type} : List α → Bool
  | [] => true
  | _ :: _ => false
theorem nilL_t {α : Type} {l : List α} (h : nilL l = true) : shOf1 l = .a := by cases l with
  | nil => rfl
  | cons x l => cases h
theorem nilL_f {α : Type} {l : List α} (h : nilL l = false) : shOf1 l = .b := by cases l with
  | nil => cases h
  | cons x l => rfl
def room9 (k : Nat) : Bool := decide (k * 72 ≤ 2 ^ 47) && decide (k ≤ 2 ^ 62)
def room3 (k : Nat) : Bool := decide (k * 24 ≤ 2 ^ 47) && decide (k ≤ 2 ^ 62)
theorem room9_ok {k : Nat} (h : k ≤ 2000000) : room9 k = true := by unfold room9; simp; omega
theorem room3_ok {k : Nat} (h : k ≤ 2000000) : room3 k = true := by unfold room3; simp; omega
def rotT (xs : List O3) (i : Int) : Bool := match i == 0 with
  | true => true
  | false => !((atO xs i).r.eqB (atO xs (i - 1)).r)
def rotU (xs : List O3) (i : Int) : Bool := match i == 0 with
  | true => true
  | false => !((atO xs (i - 1)).r.eqB (atO xs i).r)

def ceX (P : Program) : Code := (loopsOf P 24 7).headD .skip
theorem ceX_eq : loopsOf Try.prog 24 7 = [ceX Try.prog] := by kernel_rfl
def ceV (sh : Sh) (k : Nat) : Value := match sh with
  | .b => .slice (some ⟨2, 0, some 0⟩) k 3
  | _ => .slice none 0 0
def ceM (sh : Sh) (own : Bool) (n : Nat) (xs : List O3) (k : Nat) (r : Nat → List Value) : Mem := match sh with
  | .e => [.rows own true 12 n (opRow xs), .cells true 0 O3.one.cells]
  | .a => [.rows own true 12 n (opRow xs), .cells true 0 O3.one.cells, .no]
  | .b => [.rows own true 12 n (opRow xs), .cells true 0 O3.one.cells, .rows true true 3 k r]
def ceH (sh : Sh) (own : Bool) (n : Nat) (xs : List O3) (k : Nat) (r : Nat → List Value) (i : Int) : St := stOf 33 [(2, .slice none 0 0), (3, vI 0), (5, .pointer (some ⟨1, 0, none⟩)), (6, ceV sh k), (15, .slice (some ⟨0, 0, some 0⟩) n 12), (16, vI n), (17, vI i)] (ceM sh own n xs k r)
def ceE (sh : Sh) (own : Bool) (n : Nat) (xs : List O3) (k : Nat) (r : Nat → List Value) : St := stOf 33 [(2, .slice none 0 0), (3, vI 0), (6, ceV sh k)] (ceM sh own n xs k r)
theorem ceRe (own : Bool) (n : Nat) (xs : List O3) (k : Nat) (ms : List V3) (i : Int) : roundR ((Cdk Try.prog).into 24 1) 40 (ceX Try.prog) [2, 3, 5, 6, 15, 16, 17] [2, 3, 6] [.fix 0, .fix 1, .slot 6] [.fix 0, .fix 1, .slot 6] (ceH .e own n xs k (vcRow ms) i) =
    (match decide (i < (n : Int)) with
    | true => match boundsI i n with
      | true => match (atO xs i).r.eqB M3.one with
        | true => some (.normal, ceH .b own n xs 1 (chop 3 0 ((atO xs i).t).cells) (W (i + 1)))
        | false => some (.normal, ceH .a own n xs k (vcRow ms) (W (i + 1)))
      | false => none
    | false => some (.exit 0, ceE .a own n xs k (vcRow ms))) := by kernel_rfl
theorem ceRa (own : Bool) (n : Nat) (xs : List O3) (k : Nat) (ms : List V3) (i : Int) : roundR ((Cdk Try.prog).into 24 1) 40 (ceX Try.prog) [2, 3, 5, 6, 15, 16, 17] [2, 3, 6] [.fix 0, .fix 1, .slot 6] [.fix 0, .fix 1, .slot 6] (ceH .a own n xs k (vcRow ms) i) =
    (match decide (i < (n : Int)) with
    | true => match boundsI i n with
      | true => match (atO xs i).r.eqB M3.one with
        | true => some (.normal, ceH .b own n xs 1 (chop 3 0 ((atO xs i).t).cells) (W (i + 1)))
        | false => some (.normal, ceH .a own n xs k (vcRow ms) (W (i + 1)))
      | false => none
    | false => some (.exit 0, ceE .a own n xs k (vcRow ms))) := by kernel_rfl
theorem ceRb (own : Bool) (n : Nat) (xs : List O3) (k : Nat) (ms : List V3) (i : Int) : roundR ((Cdk Try.prog).into 24 1) 40 (ceX Try.prog) [2, 3, 5, 6, 15, 16, 17] [2, 3, 6] [.fix 0, .fix 1, .slot 6] [.fix 0, .fix 1, .slot 6] (ceH .b own n xs k (vcRow ms) i) =
    (match decide (i < (n : Int)) with
    | true => match boundsI i n with
      | true => match (atO xs i).r.eqB M3.one with
        | true => gd (Nat.beq k k && room3 (k + 1)) (some (.normal, ceH .b own n xs (k + 1) (catR k (vcRow ms) (chop 3 0 ((atO xs i).t).cells)) (W (i + 1))))
        | false => some (.normal, ceH .b own n xs k (vcRow ms) (W (i + 1)))
      | false => none
    | false => some (.exit 0, ceE .b own n xs k (vcRow ms))) := by kernel_rfl
structure ceG where
  (sh : Sh) (own : Bool) (n : Nat) (xs : List O3) (k : Nat) (ms : List V3) (i : Int)
def ceHg (g : ceG) : St := ceH g.sh g.own g.n g.xs g.k (vcRow g.ms) g.i
def ceI (g : ceG) : Prop := g.xs.length = g.n ∧ g.n ≤ 1000 ∧ g.ms.length = g.k ∧ (g.k : Int) ≤ g.i ∧ 0 ≤ g.i ∧ g.i ≤ (g.n : Int) ∧ shOk g.sh g.ms
def ceQ (g : ceG) : List V3 := bld (fun i => (atO g.xs i).r.eqB M3.one) (fun i => (atO g.xs i).t) (g.n - g.i).toNat g.i g.ms
def ceO (g : ceG) : Exit × St := (.exit 0, ceE (shOf1 (ceQ g)) g.own g.n g.xs (ceQ g).length (vcRow (ceQ g)))
theorem ceL (g : ceG) (hg : ceI g) : LoopSem Try.prog 1 (ceX Try.prog) (ceHg g) (ceO g).1 (ceO g).2 := by
  refine loop_rule2 (C := Cdk Try.prog) okdk (f := 24) (B := 1) (loopsOf_in (k := 7) ceX_eq) 40 [2, 3, 5, 6, 15, 16, 17] [2, 3, 6] [.fix 0, .fix 1, .slot 6] [.fix 0, .fix 1, .slot 6] ceHg (fun g => (g.n - g.i).toNat) ceI ceO ?_ g hg
  clear hg g
  rintro ⟨sh, own, n, xs, k, ms, i⟩ hg
  unfold ceI at hg
  simp only at hg
  obtain ⟨h1, h2, h3, h4, h5, h6, h7⟩ := hg
  by_cases hi : i < (n : Int)
  · have hd : decide (i < (n : Int)) = true := by simpa using hi
    have hb : boundsI i n = true := by simp [boundsI, h5, hi]
    have hw : W (i + 1) = i + 1 := W_in (by omega)
    have hs : ((n : Int) - i).toNat = ((n : Int) - (i + 1)).toNat + 1 := by omega
    have hq : ceQ ⟨sh, own, n, xs, k, ms, i⟩ = bld (fun i => (atO xs i).r.eqB M3.one) (fun i => (atO xs i).t) (((n : Int) - (i + 1)).toNat + 1) i ms := by unfold ceQ; simp only [hs]
    have hrm : (Nat.beq k k && room3 (k + 1)) = true := by rw [Nat.beq_refl, room3_ok (by omega)]; rfl
    left
    cases ht : ((atO xs i).r.eqB M3.one) with
    | true =>
      refine ⟨⟨.b, own, n, xs, k + 1, ms ++ [(atO xs i).t], i + 1⟩, ceH .b own n xs (match sh with
        | .b => k + 1
        | _ => 1) (match sh with
        | .b => catR k (vcRow ms) (chop 3 0 ((atO xs i).t).cells)
        | _ => chop 3 0 ((atO xs i).t).cells) (i + 1), ?_, ?_, ?_, by simp only; omega, ?_⟩
      · unfold ceHg; cases sh <;> simp only [ceRe, ceRa, ceRb, hd, hb, hw, ht, hrm, gd_true]
      · cases sh with
        | e => have : ms = [] := h7; subst this; have : k = 0 := h3.symm; subst this; exact ⟨rfl, .refl _, .refl _, like_chopvcs _, trivial⟩
        | a => have : ms = [] := h7; subst this; have : k = 0 := h3.symm; subst this; exact ⟨rfl, .refl _, .refl _, like_chopvcs _, trivial⟩
        | b => exact ⟨rfl, .refl _, .refl _, like_nrvcs h3 _, trivial⟩
      · unfold ceI
        simp only
        exact ⟨h1, h2, by simp [h3], by omega, by omega, by omega, by simp [shOk]⟩
      · unfold ceO
        rw [hq]
        simp only [bld, ht, ceQ]
    | false =>
      refine ⟨⟨sh.next, own, n, xs, k, ms, i + 1⟩, ceH sh.next own n xs k (vcRow ms) (i + 1), ?_, StLike.refl _, ?_, by simp only; omega, ?_⟩
      · unfold ceHg; cases sh <;> simp only [ceRe, ceRa, ceRb, hd, hb, hw, ht, Sh.next]
      · unfold ceI
        simp only
        exact ⟨h1, h2, h3, by omega, by omega, by omega, by cases sh <;> exact h7⟩
      · unfold ceO
        rw [hq]
        simp only [bld, ht, ceQ]
  · have hd : decide (i < (n : Int)) = false := by simpa using hi
    right
    have hq : ceQ ⟨sh, own, n, xs, k, ms, i⟩ = ms := by
      unfold ceQ
      rw [show ((n : Int) - i).toNat = 0 by omega]
      rfl
    refine ⟨ceE sh.next own n xs k (vcRow ms), ?_, ?_, by unfold ceO; simp⟩
    · unfold ceO ceHg
      cases sh with
      | e => simp only [ceRe, hd, Sh.next]
      | a => simp only [ceRa, hd, Sh.next]
      | b => simp only [ceRb, hd, Sh.next]
    · unfold ceO
      rw [hq]
      simp only [h3, shOf1_ok h7]
      exact StLike.refl _
def ceD : Mem → Option (Bool × Nat × (Nat → List Value) × List Value)
  | [.rows own true 12 n2 row, .cells true 0 co] => some (own, n2, row, co)
  | _ => none
theorem ceD_spec {m : Mem} {own : Bool} {n2 : Nat} {row : Nat → List Value} {co : List Value} (h : ceD m = some (own, n2, row, co)) : m = [.rows own true 12 n2 row, .cells true 0 co] := by
  unfold ceD at h
  split at h
  · simp only [Option.some.injEq, Prod.mk.injEq] at h
    obtain ⟨rfl, rfl, rfl, rfl⟩ := h
    rfl
  · cases h
def ceS (st : St) : Option (Ans (Exit × St)) :=
  match Nat.beq st.tmps.length 33, tAt st 2, tAt st 3, tAt st 5, tAt st 6, tAt st 15, tAt st 16, tAt st 17, ceD (thaw (killV st.mem)) with
  | true, some (.slice none 0 0), some (.int .i64 0), some (.pointer (some ⟨1, 0, none⟩)), some (.slice none 0 0), some (.slice (some ⟨0, 0, some 0⟩) n 12), some (.int .i64 ln), some (.int .i64 i), some (own, n2, row, co) => some (.br (Nat.beq n n2 && (okOps n row && (decide (ln = (n : Int)) && (decide (0 = i) && (decide (n ≤ 1000) && (isO co && ((decO co).eqB O3.one))))))) (.br (nilL (bld (fun i => (atO (opsOf n row) i).r.eqB M3.one) (fun i => (atO (opsOf n row) i).t) n 0 [])) (.out (.exit 0, ceE .a own n (opsOf n row) (bld (fun i => (atO (opsOf n row) i).r.eqB M3.one) (fun i => (atO (opsOf n row) i).t) n 0 []).length (vcRow (bld (fun i => (atO (opsOf n row) i).r.eqB M3.one) (fun i => (atO (opsOf n row) i).t) n 0 [])))) (.out (.exit 0, ceE .b own n (opsOf n row) (bld (fun i => (atO (opsOf n row) i).r.eqB M3.one) (fun i => (atO (opsOf n row) i).t) n 0 []).length (vcRow (bld (fun i => (atO (opsOf n row) i).r.eqB M3.one) (fun i => (atO (opsOf n row) i).t) n 0 []))))) .fail)
  | _, _, _, _, _, _, _, _, _ => none
theorem ceK {st : St} {ans : Ans (Exit × St)} {e_ : Exit} {s_ : St} (h : ceS st = some ans) (hr : ans.res = some (e_, s_)) : LoopSem Try.prog 1 (ceX Try.prog) st e_ s_ := by
  unfold ceS at h
  split at h
  rotate_left
  · cases h
  rename_i n ln i own n2 row co hb hs2 hs3 hs5 hs6 hs15 hs16 hs17 hD
  simp only [Option.some.injEq] at h
  subst h
  rcases Ans.br_some hr with ⟨hc, hr1⟩ | ⟨_, hr1⟩
  rotate_left
  · simp [Ans.res] at hr1
  clear hr
  simp only [Bool.and_eq_true, decide_eq_true_eq] at hc
  obtain ⟨c1, c2, c3, c4, c5, d0, d1⟩ := hc
  have c1 := beq_len c1
  subst c1 c3 c4
  have hco : co = O3.one.cells := by rw [isO_spec d0, O3.eqB_iff.1 d1]
  subst hco
  have hmem := ceD_spec hD
  have hI : ceI ⟨.e, own, n, opsOf n row, 0, [], 0⟩ := by
    unfold ceI
    simp only
    exact ⟨opsOf_length n row, c5, rfl, by omega, by omega, by omega, rfl⟩
  have key := ceL _ hI
  have hlike : LikeL (thaw (killV st.mem)) (ceHg ⟨.e, own, n, opsOf n row, 0, [], 0⟩).mem := by
    rw [hmem]
    exact ⟨.rows (ops_like c2), .refl _, trivial⟩
  have key := LoopSem.like (tm := (ceHg ⟨.e, own, n, opsOf n row, 0, [], 0⟩).tmps) (m := thaw (killV st.mem)) key hlike
  have key := LoopSem.fresh key
  have hk : keepL [2, 3, 5, 6, 15, 16, 17] 0 st.tmps = (ceHg ⟨.e, own, n, opsOf n row, 0, [], 0⟩).tmps := by
    have := keep_eq [(2, .slice none 0 0), (3, vI 0), (5, .pointer (some ⟨1, 0, none⟩)), (6, .slice none 0 0), (15, .slice (some ⟨0, 0, some 0⟩) n 12), (16, vI n), (17, vI 0)] st.tmps 0 (by
      intro x hx _
      simp only [List.mem_cons, List.not_mem_nil, or_false] at hx
      rcases hx with rfl | rfl | rfl | rfl | rfl | rfl | rfl
      · exact hs2
      · exact hs3
      · exact hs5
      · exact hs6
      · exact hs15
      · exact hs16
      · exact hs17)
    rw [show (keepL [2, 3, 5, 6, 15, 16, 17] 0 st.tmps) = _ from this, beq_len hb]
    rfl
  rw [← hk] at key
  have key : LoopSem Try.prog 1 (ceX Try.prog) st _ _ := LoopSem.clean (mask := [2, 3, 5, 6, 15, 16, 17]) key
  unfold ceO ceQ at key
  simp only [show ((n : Int) - 0).toNat = n by omega] at key
  rcases Ans.br_some hr1 with ⟨hq, hr2⟩ | ⟨hq, hr2⟩
  · rw [nilL_t hq] at key
    simp only [Ans.res, Option.some.injEq, Prod.mk.injEq] at hr2
    obtain ⟨rfl, rfl⟩ := hr2
    exact key
  · rw [nilL_f hq] at key
    simp only [Ans.res, Option.some.injEq, Prod.mk.injEq] at hr2
    obtain ⟨rfl, rfl⟩ := hr2
    exact key

def cfX (P : Program) : Code := (loopsOf P 25 6).headD .skip
theorem cfX_eq : loopsOf Try.prog 25 6 = [cfX Try.prog] := by kernel_rfl
def cfV (sh : Sh) (k : Nat) : Value := match sh with
  | .b => .slice (some ⟨1, 0, some 0⟩) k 3
  | _ => .slice none 0 0
def cfM (sh : Sh) (own : Bool) (n : Nat) (xs : List O3) (k : Nat) (r : Nat → List Value) : Mem := match sh with
  | .e => [.rows own true 12 n (opRow xs)]
  | .a => [.rows own true 12 n (opRow xs), .no]
  | .b => [.rows own true 12 n (opRow xs), .rows true true 3 k r]
def cfH (sh : Sh) (own : Bool) (n : Nat) (xs : List O3) (k : Nat) (r : Nat → List Value) (i : Int) : St := stOf 31 [(2, .slice none 0 0), (3, vI 0), (5, cfV sh k), (13, .slice (some ⟨0, 0, some 0⟩) n 12), (14, vI n), (15, vI i)] (cfM sh own n xs k r)
def cfE (sh : Sh) (own : Bool) (n : Nat) (xs : List O3) (k : Nat) (r : Nat → List Value) : St := stOf 31 [(2, .slice none 0 0), (3, vI 0), (5, cfV sh k)] (cfM sh own n xs k r)
theorem cfRe (own : Bool) (n : Nat) (xs : List O3) (k : Nat) (ms : List V3) (i : Int) : roundR ((Cdk Try.prog).into 25 1) 40 (cfX Try.prog) [2, 3, 5, 13, 14, 15] [2, 3, 5] [.fix 0, .slot 5] [.fix 0, .slot 5] (cfH .e own n xs k (vcRow ms) i) =
    (match decide (i < (n : Int)) with
    | true => match boundsI i n with
      | true => match (atO xs i).r.eqB M3.one with
        | true => some (.normal, cfH .b own n xs 1 (chop 3 0 ((atO xs i).t).cells) (W (i + 1)))
        | false => some (.normal, cfH .a own n xs k (vcRow ms) (W (i + 1)))
      | false => none
    | false => some (.exit 0, cfE .a own n xs k (vcRow ms))) := by kernel_rfl
theorem cfRa (own : Bool) (n : Nat) (xs : List O3) (k : Nat) (ms : List V3) (i : Int) : roundR ((Cdk Try.prog).into 25 1) 40 (cfX Try.prog) [2, 3, 5, 13, 14, 15] [2, 3, 5] [.fix 0, .slot 5] [.fix 0, .slot 5] (cfH .a own n xs k (vcRow ms) i) =
    (match decide (i < (n : Int)) with
    | true => match boundsI i n with
      | true => match (atO xs i).r.eqB M3.one with
        | true => some (.normal, cfH .b own n xs 1 (chop 3 0 ((atO xs i).t).cells) (W (i + 1)))
        | false => some (.normal, cfH .a own n xs k (vcRow ms) (W (i + 1)))
      | false => none
    | false => some (.exit 0, cfE .a own n xs k (vcRow ms))) := by kernel_rfl
theorem cfRb (own : Bool) (n : Nat) (xs : List O3) (k : Nat) (ms : List V3) (i : Int) : roundR ((Cdk Try.prog).into 25 1) 40 (cfX Try.prog) [2, 3, 5, 13, 14, 15] [2, 3, 5] [.fix 0, .slot 5] [.fix 0, .slot 5] (cfH .b own n xs k (vcRow ms) i) =
    (match decide (i < (n : Int)) with
    | true => match boundsI i n with
      | true => match (atO xs i).r.eqB M3.one with
        | true => gd (Nat.beq k k && room3 (k + 1)) (some (.normal, cfH .b own n xs (k + 1) (catR k (vcRow ms) (chop 3 0 ((atO xs i).t).cells)) (W (i + 1))))
        | false => some (.normal, cfH .b own n xs k (vcRow ms) (W (i + 1)))
      | false => none
    | false => some (.exit 0, cfE .b own n xs k (vcRow ms))) := by kernel_rfl
structure cfG where
  (sh : Sh) (own : Bool) (n : Nat) (xs : List O3) (k : Nat) (ms : List V3) (i : Int)
def cfHg (g : cfG) : St := cfH g.sh g.own g.n g.xs g.k (vcRow g.ms) g.i
def cfI (g : cfG) : Prop := g.xs.length = g.n ∧ g.n ≤ 1000 ∧ g.ms.length = g.k ∧ (g.k : Int) ≤ g.i ∧ 0 ≤ g.i ∧ g.i ≤ (g.n : Int) ∧ shOk g.sh g.ms
def cfQ (g : cfG) : List V3 := bld (fun i => (atO g.xs i).r.eqB M3.one) (fun i => (atO g.xs i).t) (g.n - g.i).toNat g.i g.ms
def cfO (g : cfG) : Exit × St := (.exit 0, cfE (shOf1 (cfQ g)) g.own g.n g.xs (cfQ g).length (vcRow (cfQ g)))
theorem cfL (g : cfG) (hg : cfI g) : LoopSem Try.prog 1 (cfX Try.prog) (cfHg g) (cfO g).1 (cfO g).2 := by
  refine loop_rule2 (C := Cdk Try.prog) okdk (f := 25) (B := 1) (loopsOf_in (k := 6) cfX_eq) 40 [2, 3, 5, 13, 14, 15] [2, 3, 5] [.fix 0, .slot 5] [.fix 0, .slot 5] cfHg (fun g => (g.n - g.i).toNat) cfI cfO ?_ g hg
  clear hg g
  rintro ⟨sh, own, n, xs, k, ms, i⟩ hg
  unfold cfI at hg
  simp only at hg
  obtain ⟨h1, h2, h3, h4, h5, h6, h7⟩ := hg
  by_cases hi : i < (n : Int)
  · have hd : decide (i < (n : Int)) = true := by simpa using hi
    have hb : boundsI i n = true := by simp [boundsI, h5, hi]
    have hw : W (i + 1) = i + 1 := W_in (by omega)
    have hs : ((n : Int) - i).toNat = ((n : Int) - (i + 1)).toNat + 1 := by omega
    have hq : cfQ ⟨sh, own, n, xs, k, ms, i⟩ = bld (fun i => (atO xs i).r.eqB M3.one) (fun i => (atO xs i).t) (((n : Int) - (i + 1)).toNat + 1) i ms := by unfold cfQ; simp only [hs]
    have hrm : (Nat.beq k k && room3 (k + 1)) = true := by rw [Nat.beq_refl, room3_ok (by omega)]; rfl
    left
    cases ht : ((atO xs i).r.eqB M3.one) with
    | true =>
      refine ⟨⟨.b, own, n, xs, k + 1, ms ++ [(atO xs i).t], i + 1⟩, cfH .b own n xs (match sh with
        | .b => k + 1
        | _ => 1) (match sh with
        | .b => catR k (vcRow ms) (chop 3 0 ((atO xs i).t).cells)
        | _ => chop 3 0 ((atO xs i).t).cells) (i + 1), ?_, ?_, ?_, by simp only; omega, ?_⟩
      · unfold cfHg; cases sh <;> simp only [cfRe, cfRa, cfRb, hd, hb, hw, ht, hrm, gd_true]
      · cases sh with
        | e => have : ms = [] := h7; subst this; have : k = 0 := h3.symm; subst this; exact ⟨rfl, .refl _, like_chopvcs _, trivial⟩
        | a => have : ms = [] := h7; subst this; have : k = 0 := h3.symm; subst this; exact ⟨rfl, .refl _, like_chopvcs _, trivial⟩
        | b => exact ⟨rfl, .refl _, like_nrvcs h3 _, trivial⟩
      · unfold cfI
        simp only
        exact ⟨h1, h2, by simp [h3], by omega, by omega, by omega, by simp [shOk]⟩
      · unfold cfO
        rw [hq]
        simp only [bld, ht, cfQ]
    | false =>
      refine ⟨⟨sh.next, own, n, xs, k, ms, i + 1⟩, cfH sh.next own n xs k (vcRow ms) (i + 1), ?_, StLike.refl _, ?_, by simp only; omega, ?_⟩
      · unfold cfHg; cases sh <;> simp only [cfRe, cfRa, cfRb, hd, hb, hw, ht, Sh.next]
      · unfold cfI
        simp only
        exact ⟨h1, h2, h3, by omega, by omega, by omega, by cases sh <;> exact h7⟩
      · unfold cfO
        rw [hq]
        simp only [bld, ht, cfQ]
  · have hd : decide (i < (n : Int)) = false := by simpa using hi
    right
    have hq : cfQ ⟨sh, own, n, xs, k, ms, i⟩ = ms := by
      unfold cfQ
      rw [show ((n : Int) - i).toNat = 0 by omega]
      rfl
    refine ⟨cfE sh.next own n xs k (vcRow ms), ?_, ?_, by unfold cfO; simp⟩
    · unfold cfO cfHg
      cases sh with
      | e => simp only [cfRe, hd, Sh.next]
      | a => simp only [cfRa, hd, Sh.next]
      | b => simp only [cfRb, hd, Sh.next]
    · unfold cfO
      rw [hq]
      simp only [h3, shOf1_ok h7]
      exact StLike.refl _
def cfD : Mem → Option (Bool × Nat × (Nat → List Value))
  | [.rows own true 12 n2 row] => some (own, n2, row)
  | _ => none
theorem cfD_spec {m : Mem} {own : Bool} {n2 : Nat} {row : Nat → List Value} (h : cfD m = some (own, n2, row)) : m = [.rows own true 12 n2 row] := by
  unfold cfD at h
  split at h
  · simp only [Option.some.injEq, Prod.mk.injEq] at h
    obtain ⟨rfl, rfl, rfl⟩ := h
    rfl
  · cases h
def cfS (st : St) : Option (Ans (Exit × St)) :=
  match Nat.beq st.tmps.length 31, tAt st 2, tAt st 3, tAt st 5, tAt st 13, tAt st 14, tAt st 15, cfD (thaw (killV st.mem)) with
  | true, some (.slice none 0 0), some (.int .i64 0), some (.slice none 0 0), some (.slice (some ⟨0, 0, some 0⟩) n 12), some (.int .i64 ln), some (.int .i64 i), some (own, n2, row) => some (.br (Nat.beq n n2 && (okOps n row && (decide (ln = (n : Int)) && (decide (0 = i) && (decide (n ≤ 1000)))))) (.br (nilL (bld (fun i => (atO (opsOf n row) i).r.eqB M3.one) (fun i => (atO (opsOf n row) i).t) n 0 [])) (.out (.exit 0, cfE .a own n (opsOf n row) (bld (fun i => (atO (opsOf n row) i).r.eqB M3.one) (fun i => (atO (opsOf n row) i).t) n 0 []).length (vcRow (bld (fun i => (atO (opsOf n row) i).r.eqB M3.one) (fun i => (atO (opsOf n row) i).t) n 0 [])))) (.out (.exit 0, cfE .b own n (opsOf n row) (bld (fun i => (atO (opsOf n row) i).r.eqB M3.one) (fun i => (atO (opsOf n row) i).t) n 0 []).length (vcRow (bld (fun i => (atO (opsOf n row) i).r.eqB M3.one) (fun i => (atO (opsOf n row) i).t) n 0 []))))) .fail)
  | _, _, _, _, _, _, _, _ => none
theorem cfK {st : St} {ans : Ans (Exit × St)} {e_ : Exit} {s_ : St} (h : cfS st = some ans) (hr : ans.res = some (e_, s_)) : LoopSem Try.prog 1 (cfX Try.prog) st e_ s_ := by
  unfold cfS at h
  split at h
  rotate_left
  · cases h
  rename_i n ln i own n2 row hb hs2 hs3 hs5 hs13 hs14 hs15 hD
  simp only [Option.some.injEq] at h
  subst h
  rcases Ans.br_some hr with ⟨hc, hr1⟩ | ⟨_, hr1⟩
  rotate_left
  · simp [Ans.res] at hr1
  clear hr
  simp only [Bool.and_eq_true, decide_eq_true_eq] at hc
  obtain ⟨c1, c2, c3, c4, c5⟩ := hc
  have c1 := beq_len c1
  subst c1 c3 c4
  have hmem := cfD_spec hD
  have hI : cfI ⟨.e, own, n, opsOf n row, 0, [], 0⟩ := by
    unfold cfI
    simp only
    exact ⟨opsOf_length n row, c5, rfl, by omega, by omega, by omega, rfl⟩
  have key := cfL _ hI
  have hlike : LikeL (thaw (killV st.mem)) (cfHg ⟨.e, own, n, opsOf n row, 0, [], 0⟩).mem := by
    rw [hmem]
    exact ⟨.rows (ops_like c2), trivial⟩
  have key := LoopSem.like (tm := (cfHg ⟨.e, own, n, opsOf n row, 0, [], 0⟩).tmps) (m := thaw (killV st.mem)) key hlike
  have key := LoopSem.fresh key
  have hk : keepL [2, 3, 5, 13, 14, 15] 0 st.tmps = (cfHg ⟨.e, own, n, opsOf n row, 0, [], 0⟩).tmps := by
    have := keep_eq [(2, .slice none 0 0), (3, vI 0), (5, .slice none 0 0), (13, .slice (some ⟨0, 0, some 0⟩) n 12), (14, vI n), (15, vI 0)] st.tmps 0 (by
      intro x hx _
      simp only [List.mem_cons, List.not_mem_nil, or_false] at hx
      rcases hx with rfl | rfl | rfl | rfl | rfl | rfl
      · exact hs2
      · exact hs3
      · exact hs5
      · exact hs13
      · exact hs14
      · exact hs15)
    rw [show (keepL [2, 3, 5, 13, 14, 15] 0 st.tmps) = _ from this, beq_len hb]
    rfl
  rw [← hk] at key
  have key : LoopSem Try.prog 1 (cfX Try.prog) st _ _ := LoopSem.clean (mask := [2, 3, 5, 13, 14, 15]) key
  unfold cfO cfQ at key
  simp only [show ((n : Int) - 0).toNat = n by omega] at key
  rcases Ans.br_some hr1 with ⟨hq, hr2⟩ | ⟨hq, hr2⟩
  · rw [nilL_t hq] at key
    simp only [Ans.res, Option.some.injEq, Prod.mk.injEq] at hr2
    obtain ⟨rfl, rfl⟩ := hr2
    exact key
  · rw [nilL_f hq] at key
    simp only [Ans.res, Option.some.injEq, Prod.mk.injEq] at hr2
    obtain ⟨rfl, rfl⟩ := hr2
    exact key
end Go.Proofs.Ytcefeamjnnkahaa


namespace Go.Proofs.Ytcefeamjnnkahaa
open Go Vx

def raX (P : Program) : Code := (loopsOf P 22 6).headD .skip
theorem raX_eq : loopsOf Try.prog 22 6 = [raX Try.prog] := by kernel_rfl
def raV (sh : Sh) (k : Nat) : Value := match sh with
  | .b => .slice (some ⟨1, 0, some 0⟩) k 9
  | _ => .slice none 0 0
def raM (sh : Sh) (own : Bool) (n : Nat) (xs : List O3) (k : Nat) (r : Nat → List Value) : Mem := match sh with
  | .e => [.rows own true 12 n (opRow xs)]
  | .a => [.rows own true 12 n (opRow xs), .no]
  | .b => [.rows own true 12 n (opRow xs), .rows true true 9 k r]
def raH (sh : Sh) (own : Bool) (n : Nat) (xs : List O3) (k : Nat) (r : Nat → List Value) (i : Int) : St := stOf 40 [(0, .slice (some ⟨0, 0, some 0⟩) n 12), (2, .slice none 0 0), (3, vI 0), (5, raV sh k), (13, .slice (some ⟨0, 0, some 0⟩) n 12), (14, vI n), (15, vI i)] (raM sh own n xs k r)
def raE (sh : Sh) (own : Bool) (n : Nat) (xs : List O3) (k : Nat) (r : Nat → List Value) : St := stOf 40 [(2, .slice none 0 0), (3, vI 0), (5, raV sh k)] (raM sh own n xs k r)
theorem raRe (own : Bool) (n : Nat) (xs : List O3) (k : Nat) (ms : List M3) (i : Int) : roundR ((Cdk Try.prog).into 22 1) 40 (raX Try.prog) [0, 2, 3, 5, 13, 14, 15] [2, 3, 5] [.fix 0, .slot 5] [.fix 0, .slot 5] (raH .e own n xs k (mtRow ms) i) =
    (match decide (i < (n : Int)) with
    | true => match boundsI i n with
      | true => match (i == 0) with
        | true => some (.normal, raH .b own n xs 1 (chop 9 0 ((atO xs i).r).cells) (W (i + 1)))
        | false => match boundsI (W (i - 1)) n with
          | true => match !((atO xs i).r.eqB (atO xs (W (i - 1))).r) with
            | true => some (.normal, raH .b own n xs 1 (chop 9 0 ((atO xs i).r).cells) (W (i + 1)))
            | false => some (.normal, raH .a own n xs k (mtRow ms) (W (i + 1)))
          | false => none
      | false => none
    | false => some (.exit 0, raE .a own n xs k (mtRow ms))) := by kernel_rfl
theorem raRa (own : Bool) (n : Nat) (xs : List O3) (k : Nat) (ms : List M3) (i : Int) : roundR ((Cdk Try.prog).into 22 1) 40 (raX Try.prog) [0, 2, 3, 5, 13, 14, 15] [2, 3, 5] [.fix 0, .slot 5] [.fix 0, .slot 5] (raH .a own n xs k (mtRow ms) i) =
    (match decide (i < (n : Int)) with
    | true => match boundsI i n with
      | true => match (i == 0) with
        | true => some (.normal, raH .b own n xs 1 (chop 9 0 ((atO xs i).r).cells) (W (i + 1)))
        | false => match boundsI (W (i - 1)) n with
          | true => match !((atO xs i).r.eqB (atO xs (W (i - 1))).r) with
            | true => some (.normal, raH .b own n xs 1 (chop 9 0 ((atO xs i).r).cells) (W (i + 1)))
            | false => some (.normal, raH .a own n xs k (mtRow ms) (W (i + 1)))
          | false => none
      | false => none
    | false => some (.exit 0, raE .a own n xs k (mtRow ms))) := by kernel_rfl
theorem raRb (own : Bool) (n : Nat) (xs : List O3) (k : Nat) (ms : List M3) (i : Int) : roundR ((Cdk Try.prog).into 22 1) 40 (raX Try.prog) [0, 2, 3, 5, 13, 14, 15] [2, 3, 5] [.fix 0, .slot 5] [.fix 0, .slot 5] (raH .b own n xs k (mtRow ms) i) =
    (match decide (i < (n : Int)) with
    | true => match boundsI i n with
      | true => match (i == 0) with
        | true => gd (Nat.beq k k && room9 (k + 1)) (some (.normal, raH .b own n xs (k + 1) (catR k (mtRow ms) (chop 9 0 ((atO xs i).r).cells)) (W (i + 1))))
        | false => match boundsI (W (i - 1)) n with
          | true => match !((atO xs i).r.eqB (atO xs (W (i - 1))).r) with
            | true => gd (Nat.beq k k && room9 (k + 1)) (some (.normal, raH .b own n xs (k + 1) (catR k (mtRow ms) (chop 9 0 ((atO xs i).r).cells)) (W (i + 1))))
            | false => some (.normal, raH .b own n xs k (mtRow ms) (W (i + 1)))
          | false => none
      | false => none
    | false => some (.exit 0, raE .b own n xs k (mtRow ms))) := by kernel_rfl
structure raG where
  (sh : Sh) (own : Bool) (n : Nat) (xs : List O3) (k : Nat) (ms : List M3) (i : Int)
def raHg (g : raG) : St := raH g.sh g.own g.n g.xs g.k (mtRow g.ms) g.i
def raI (g : raG) : Prop := g.xs.length = g.n ∧ g.n ≤ 1000 ∧ g.ms.length = g.k ∧ (g.k : Int) ≤ g.i ∧ 0 ≤ g.i ∧ g.i ≤ (g.n : Int) ∧ shOk g.sh g.ms
def raQ (g : raG) : List M3 := bld (fun i => rotT g.xs i) (fun i => (atO g.xs i).r) (g.n - g.i).toNat g.i g.ms
def raO (g : raG) : Exit × St := (.exit 0, raE (shOf1 (raQ g)) g.own g.n g.xs (raQ g).length (mtRow (raQ g)))
theorem raL (g : raG) (hg : raI g) : LoopSem Try.prog 1 (raX Try.prog) (raHg g) (raO g).1 (raO g).2 := by
  refine loop_rule2 (C := Cdk Try.prog) okdk (f := 22) (B := 1) (loopsOf_in (k := 6) raX_eq) 40 [0, 2, 3, 5, 13, 14, 15] [2, 3, 5] [.fix 0, .slot 5] [.fix 0, .slot 5] raHg (fun g => (g.n - g.i).toNat) raI raO ?_ g hg
  clear hg g
  rintro ⟨sh, own, n, xs, k, ms, i⟩ hg
  unfold raI at hg
  simp only at hg
  obtain ⟨h1, h2, h3, h4, h5, h6, h7⟩ := hg
  by_cases hi : i < (n : Int)
  · have hd : decide (i < (n : Int)) = true := by simpa using hi
    have hb : boundsI i n = true := by simp [boundsI, h5, hi]
    have hw : W (i + 1) = i + 1 := W_in (by omega)
    have hs : ((n : Int) - i).toNat = ((n : Int) - (i + 1)).toNat + 1 := by omega
    have hq : raQ ⟨sh, own, n, xs, k, ms, i⟩ = bld (fun i => rotT xs i) (fun i => (atO xs i).r) (((n : Int) - (i + 1)).toNat + 1) i ms := by unfold raQ; simp only [hs]
    have hrm : (Nat.beq k k && room9 (k + 1)) = true := by rw [Nat.beq_refl, room9_ok (by omega)]; rfl
    left
    cases ht : (rotT xs i) with
    | true =>
      refine ⟨⟨.b, own, n, xs, k + 1, ms ++ [(atO xs i).r], i + 1⟩, raH .b own n xs (match sh with
        | .b => k + 1
        | _ => 1) (match sh with
        | .b => catR k (mtRow ms) (chop 9 0 ((atO xs i).r).cells)
        | _ => chop 9 0 ((atO xs i).r).cells) (i + 1), ?_, ?_, ?_, by simp only; omega, ?_⟩
      · by_cases h0 : i = 0
        · subst h0
          unfold raHg
          cases sh <;> simp only [raRe, raRa, raRb, hd, hb, hw, beq_self_eq_true, hrm, gd_true]
        · have e0 : (i == 0) = false := by simpa using h0
          have hw1 : W (i - 1) = i - 1 := W_in (by omega)
          have hb1 : boundsI (i - 1) n = true := by simp [boundsI]; omega
          have ht' := ht
          unfold rotT at ht'
          rw [e0] at ht'
          simp only at ht'
          unfold raHg
          cases sh <;> simp only [raRe, raRa, raRb, hd, hb, hw, e0, hw1, hb1, ht', hrm, gd_true]
      · cases sh with
        | e => have : ms = [] := h7; subst this; have : k = 0 := h3.symm; subst this; exact ⟨rfl, .refl _, like_chopmts _, trivial⟩
        | a => have : ms = [] := h7; subst this; have : k = 0 := h3.symm; subst this; exact ⟨rfl, .refl _, like_chopmts _, trivial⟩
        | b => exact ⟨rfl, .refl _, like_nrmts h3 _, trivial⟩
      · unfold raI
        simp only
        exact ⟨h1, h2, by simp [h3], by omega, by omega, by omega, by simp [shOk]⟩
      · unfold raO
        rw [hq]
        simp only [bld, ht, raQ]
    | false =>
      refine ⟨⟨sh.next, own, n, xs, k, ms, i + 1⟩, raH sh.next own n xs k (mtRow ms) (i + 1), ?_, StLike.refl _, ?_, by simp only; omega, ?_⟩
      · by_cases h0 : i = 0
        · subst h0
          simp [rotT] at ht
        · have e0 : (i == 0) = false := by simpa using h0
          have hw1 : W (i - 1) = i - 1 := W_in (by omega)
          have hb1 : boundsI (i - 1) n = true := by simp [boundsI]; omega
          have ht' := ht
          unfold rotT at ht'
          rw [e0] at ht'
          simp only at ht'
          unfold raHg
          cases sh <;> simp only [raRe, raRa, raRb, hd, hb, hw, e0, hw1, hb1, ht', Sh.next]
      · unfold raI
        simp only
        exact ⟨h1, h2, h3, by omega, by omega, by omega, by cases sh <;> exact h7⟩
      · unfold raO
        rw [hq]
        simp only [bld, ht, raQ]
  · have hd : decide (i < (n : Int)) = false := by simpa using hi
    right
    have hq : raQ ⟨sh, own, n, xs, k, ms, i⟩ = ms := by
      unfold raQ
      rw [show ((n : Int) - i).toNat = 0 by omega]
      rfl
    refine ⟨raE sh.next own n xs k (mtRow ms), ?_, ?_, by unfold raO; simp⟩
    · unfold raO raHg
      cases sh with
      | e => simp only [raRe, hd, Sh.next]
      | a => simp only [raRa, hd, Sh.next]
      | b => simp only [raRb, hd, Sh.next]
    · unfold raO
      rw [hq]
      simp only [h3, shOf1_ok h7]
      exact StLike.refl _
def raD : Mem → Option (Bool × Nat × (Nat → List Value))
  | [.rows own true 12 n2 row] => some (own, n2, row)
  | _ => none
theorem raD_spec {m : Mem} {own : Bool} {n2 : Nat} {row : Nat → List Value} (h : raD m = some (own, n2, row)) : m = [.rows own true 12 n2 row] := by
  unfold raD at h
  split at h
  · simp only [Option.some.injEq, Prod.mk.injEq] at h
    obtain ⟨rfl, rfl, rfl⟩ := h
    rfl
  · cases h
def raS (st : St) : Option (Ans (Exit × St)) :=
  match Nat.beq st.tmps.length 40, tAt st 0, tAt st 2, tAt st 3, tAt st 5, tAt st 13, tAt st 14, tAt st 15, raD (thaw (killV st.mem)) with
  | true, some (.slice (some ⟨0, 0, some 0⟩) n 12), some (.slice none 0 0), some (.int .i64 0), some (.slice none 0 0), some (.slice (some ⟨0, 0, some 0⟩) n3 12), some (.int .i64 ln), some (.int .i64 i), some (own, n2, row) => some (.br (Nat.beq n n2 && (okOps n row && (decide (ln = (n : Int)) && (decide (0 = i) && (decide (n ≤ 1000) && (Nat.beq n n3)))))) (.br (nilL (bld (fun i => rotT (opsOf n row) i) (fun i => (atO (opsOf n row) i).r) n 0 [])) (.out (.exit 0, raE .a own n (opsOf n row) (bld (fun i => rotT (opsOf n row) i) (fun i => (atO (opsOf n row) i).r) n 0 []).length (mtRow (bld (fun i => rotT (opsOf n row) i) (fun i => (atO (opsOf n row) i).r) n 0 [])))) (.out (.exit 0, raE .b own n (opsOf n row) (bld (fun i => rotT (opsOf n row) i) (fun i => (atO (opsOf n row) i).r) n 0 []).length (mtRow (bld (fun i => rotT (opsOf n row) i) (fun i => (atO (opsOf n row) i).r) n 0 []))))) .fail)
  | _, _, _, _, _, _, _, _, _ => none
theorem raK {st : St} {ans : Ans (Exit × St)} {e_ : Exit} {s_ : St} (h : raS st = some ans) (hr : ans.res = some (e_, s_)) : LoopSem Try.prog 1 (raX Try.prog) st e_ s_ := by
  unfold raS at h
  split at h
  rotate_left
  · cases h
  rename_i n n3 ln i own n2 row hb hs0 hs2 hs3 hs5 hs13 hs14 hs15 hD
  simp only [Option.some.injEq] at h
  subst h
  rcases Ans.br_some hr with ⟨hc, hr1⟩ | ⟨_, hr1⟩
  rotate_left
  · simp [Ans.res] at hr1
  clear hr
  simp only [Bool.and_eq_true, decide_eq_true_eq] at hc
  obtain ⟨c1, c2, c3, c4, c5, d0⟩ := hc
  have c1 := beq_len c1
  subst c1 c3 c4
  have d0 := beq_len d0
  subst d0
  have hmem := raD_spec hD
  have hI : raI ⟨.e, own, n, opsOf n row, 0, [], 0⟩ := by
    unfold raI
    simp only
    exact ⟨opsOf_length n row, c5, rfl, by omega, by omega, by omega, rfl⟩
  have key := raL _ hI
  have hlike : LikeL (thaw (killV st.mem)) (raHg ⟨.e, own, n, opsOf n row, 0, [], 0⟩).mem := by
    rw [hmem]
    exact ⟨.rows (ops_like c2), trivial⟩
  have key := LoopSem.like (tm := (raHg ⟨.e, own, n, opsOf n row, 0, [], 0⟩).tmps) (m := thaw (killV st.mem)) key hlike
  have key := LoopSem.fresh key
  have hk : keepL [0, 2, 3, 5, 13, 14, 15] 0 st.tmps = (raHg ⟨.e, own, n, opsOf n row, 0, [], 0⟩).tmps := by
    have := keep_eq [(0, .slice (some ⟨0, 0, some 0⟩) n 12), (2, .slice none 0 0), (3, vI 0), (5, .slice none 0 0), (13, .slice (some ⟨0, 0, some 0⟩) n 12), (14, vI n), (15, vI 0)] st.tmps 0 (by
      intro x hx _
      simp only [List.mem_cons, List.not_mem_nil, or_false] at hx
      rcases hx with rfl | rfl | rfl | rfl | rfl | rfl | rfl
      · exact hs0
      · exact hs2
      · exact hs3
      · exact hs5
      · exact hs13
      · exact hs14
      · exact hs15)
    rw [show (keepL [0, 2, 3, 5, 13, 14, 15] 0 st.tmps) = _ from this, beq_len hb]
    rfl
  rw [← hk] at key
  have key : LoopSem Try.prog 1 (raX Try.prog) st _ _ := LoopSem.clean (mask := [0, 2, 3, 5, 13, 14, 15]) key
  unfold raO raQ at key
  simp only [show ((n : Int) - 0).toNat = n by omega] at key
  rcases Ans.br_some hr1 with ⟨hq, hr2⟩ | ⟨hq, hr2⟩
  · rw [nilL_t hq] at key
    simp only [Ans.res, Option.some.injEq, Prod.mk.injEq] at hr2
    obtain ⟨rfl, rfl⟩ := hr2
    exact key
  · rw [nilL_f hq] at key
    simp only [Ans.res, Option.some.injEq, Prod.mk.injEq] at hr2
    obtain ⟨rfl, rfl⟩ := hr2
    exact key

def rbX (P : Program) : Code := (loopsOf P 45 3).headD .skip
theorem rbX_eq : loopsOf Try.prog 45 3 = [rbX Try.prog] := by kernel_rfl
def rbV (sh : Sh) (k : Nat) : Value := match sh with
  | .b => .slice (some ⟨1, 0, some 0⟩) k 9
  | _ => .slice none 0 0
def rbM (sh : Sh) (own : Bool) (n : Nat) (xs : List O3) (k : Nat) (r : Nat → List Value) : Mem := match sh with
  | .e => [.rows own true 12 n (opRow xs)]
  | .a => [.rows own true 12 n (opRow xs), .no]
  | .b => [.rows own true 12 n (opRow xs), .rows true true 9 k r]
def rbH (sh : Sh) (own : Bool) (n : Nat) (xs : List O3) (k : Nat) (r : Nat → List Value) (i : Int) : St := stOf 33 [(0, .slice (some ⟨0, 0, some 0⟩) n 12), (2, .slice none 0 0), (3, rbV sh k), (6, .slice (some ⟨0, 0, some 0⟩) n 12), (7, vI n), (8, vI i)] (rbM sh own n xs k r)
def rbE (sh : Sh) (own : Bool) (n : Nat) (xs : List O3) (k : Nat) (r : Nat → List Value) : St := stOf 33 [(2, .slice none 0 0), (3, rbV sh k)] (rbM sh own n xs k r)
theorem rbRe (own : Bool) (n : Nat) (xs : List O3) (k : Nat) (ms : List M3) (i : Int) : roundR ((Cdk Try.prog).into 45 1) 40 (rbX Try.prog) [0, 2, 3, 6, 7, 8] [2, 3] [.fix 0, .slot 3] [.fix 0, .slot 3] (rbH .e own n xs k (mtRow ms) i) =
    (match decide (i < (n : Int)) with
    | true => match boundsI i n with
      | true => match (i == 0) with
        | true => some (.normal, rbH .b own n xs 1 (chop 9 0 ((atO xs i).r).cells) (W (i + 1)))
        | false => match boundsI (W (i - 1)) n with
          | true => match !((atO xs (W (i - 1))).r.eqB (atO xs i).r) with
            | true => some (.normal, rbH .b own n xs 1 (chop 9 0 ((atO xs i).r).cells) (W (i + 1)))
            | false => some (.normal, rbH .a own n xs k (mtRow ms) (W (i + 1)))
          | false => none
      | false => none
    | false => some (.exit 0, rbE .a own n xs k (mtRow ms))) := by kernel_rfl
theorem rbRa (own : Bool) (n : Nat) (xs : List O3) (k : Nat) (ms : List M3) (i : Int) : roundR ((Cdk Try.prog).into 45 1) 40 (rbX Try.prog) [0, 2, 3, 6, 7, 8] [2, 3] [.fix 0, .slot 3] [.fix 0, .slot 3] (rbH .a own n xs k (mtRow ms) i) =
    (match decide (i < (n : Int)) with
    | true => match boundsI i n with
      | true => match (i == 0) with
        | true => some (.normal, rbH .b own n xs 1 (chop 9 0 ((atO xs i).r).cells) (W (i + 1)))
        | false => match boundsI (W (i - 1)) n with
          | true => match !((atO xs (W (i - 1))).r.eqB (atO xs i).r) with
            | true => some (.normal, rbH .b own n xs 1 (chop 9 0 ((atO xs i).r).cells) (W (i + 1)))
            | false => some (.normal, rbH .a own n xs k (mtRow ms) (W (i + 1)))
          | false => none
      | false => none
    | false => some (.exit 0, rbE .a own n xs k (mtRow ms))) := by kernel_rfl
theorem rbRb (own : Bool) (n : Nat) (xs : List O3) (k : Nat) (ms : List M3) (i : Int) : roundR ((Cdk Try.prog).into 45 1) 40 (rbX Try.prog) [0, 2, 3, 6, 7, 8] [2, 3] [.fix 0, .slot 3] [.fix 0, .slot 3] (rbH .b own n xs k (mtRow ms) i) =
    (match decide (i < (n : Int)) with
    | true => match boundsI i n with
      | true => match (i == 0) with
        | true => gd (Nat.beq k k && room9 (k + 1)) (some (.normal, rbH .b own n xs (k + 1) (catR k (mtRow ms) (chop 9 0 ((atO xs i).r).cells)) (W (i + 1))))
        | false => match boundsI (W (i - 1)) n with
          | true => match !((atO xs (W (i - 1))).r.eqB (atO xs i).r) with
            | true => gd (Nat.beq k k && room9 (k + 1)) (some (.normal, rbH .b own n xs (k + 1) (catR k (mtRow ms) (chop 9 0 ((atO xs i).r).cells)) (W (i + 1))))
            | false => some (.normal, rbH .b own n xs k (mtRow ms) (W (i + 1)))
          | false => none
      | false => none
    | false => some (.exit 0, rbE .b own n xs k (mtRow ms))) := by kernel_rfl
structure rbG where
  (sh : Sh) (own : Bool) (n : Nat) (xs : List O3) (k : Nat) (ms : List M3) (i : Int)
def rbHg (g : rbG) : St := rbH g.sh g.own g.n g.xs g.k (mtRow g.ms) g.i
def rbI (g : rbG) : Prop := g.xs.length = g.n ∧ g.n ≤ 1000 ∧ g.ms.length = g.k ∧ (g.k : Int) ≤ g.i ∧ 0 ≤ g.i ∧ g.i ≤ (g.n : Int) ∧ shOk g.sh g.ms
def rbQ (g : rbG) : List M3 := bld (fun i => rotU g.xs i) (fun i => (atO g.xs i).r) (g.n - g.i).toNat g.i g.ms
def rbO (g : rbG) : Exit × St := (.exit 0, rbE (shOf1 (rbQ g)) g.own g.n g.xs (rbQ g).length (mtRow (rbQ g)))
theorem rbL (g : rbG) (hg : rbI g) : LoopSem Try.prog 1 (rbX Try.prog) (rbHg g) (rbO g).1 (rbO g).2 := by
  refine loop_rule2 (C := Cdk Try.prog) okdk (f := 45) (B := 1) (loopsOf_in (k := 3) rbX_eq) 40 [0, 2, 3, 6, 7, 8] [2, 3] [.fix 0, .slot 3] [.fix 0, .slot 3] rbHg (fun g => (g.n - g.i).toNat) rbI rbO ?_ g hg
  clear hg g
  rintro ⟨sh, own, n, xs, k, ms, i⟩ hg
  unfold rbI at hg
  simp only at hg
  obtain ⟨h1, h2, h3, h4, h5, h6, h7⟩ := hg
  by_cases hi : i < (n : Int)
  · have hd : decide (i < (n : Int)) = true := by simpa using hi
    have hb : boundsI i n = true := by simp [boundsI, h5, hi]
    have hw : W (i + 1) = i + 1 := W_in (by omega)
    have hs : ((n : Int) - i).toNat = ((n : Int) - (i + 1)).toNat + 1 := by omega
    have hq : rbQ ⟨sh, own, n, xs, k, ms, i⟩ = bld (fun i => rotU xs i) (fun i => (atO xs i).r) (((n : Int) - (i + 1)).toNat + 1) i ms := by unfold rbQ; simp only [hs]
    have hrm : (Nat.beq k k && room9 (k + 1)) = true := by rw [Nat.beq_refl, room9_ok (by omega)]; rfl
    left
    cases ht : (rotU xs i) with
    | true =>
      refine ⟨⟨.b, own, n, xs, k + 1, ms ++ [(atO xs i).r], i + 1⟩, rbH .b own n xs (match sh with
        | .b => k + 1
        | _ => 1) (match sh with
        | .b => catR k (mtRow ms) (chop 9 0 ((atO xs i).r).cells)
        | _ => chop 9 0 ((atO xs i).r).cells) (i + 1), ?_, ?_, ?_, by simp only; omega, ?_⟩
      · by_cases h0 : i = 0
        · subst h0
          unfold rbHg
          cases sh <;> simp only [rbRe, rbRa, rbRb, hd, hb, hw, beq_self_eq_true, hrm, gd_true]
        · have e0 : (i == 0) = false := by simpa using h0
          have hw1 : W (i - 1) = i - 1 := W_in (by omega)
          have hb1 : boundsI (i - 1) n = true := by simp [boundsI]; omega
          have ht' := ht
          unfold rotU at ht'
          rw [e0] at ht'
          simp only at ht'
          unfold rbHg
          cases sh <;> simp only [rbRe, rbRa, rbRb, hd, hb, hw, e0, hw1, hb1, ht', hrm, gd_true]
      · cases sh with
        | e => have : ms = [] := h7; subst this; have : k = 0 := h3.symm; subst this; exact ⟨rfl, .refl _, like_chopmts _, trivial⟩
        | a => have : ms = [] := h7; subst this; have : k = 0 := h3.symm; subst this; exact ⟨rfl, .refl _, like_chopmts _, trivial⟩
        | b => exact ⟨rfl, .refl _, like_nrmts h3 _, trivial⟩
      · unfold rbI
        simp only
        exact ⟨h1, h2, by simp [h3], by omega, by omega, by omega, by simp [shOk]⟩
      · unfold rbO
        rw [hq]
        simp only [bld, ht, rbQ]
    | false =>
      refine ⟨⟨sh.next, own, n, xs, k, ms, i + 1⟩, rbH sh.next own n xs k (mtRow ms) (i + 1), ?_, StLike.refl _, ?_, by simp only; omega, ?_⟩
      · by_cases h0 : i = 0
        · subst h0
          simp [rotU] at ht
        · have e0 : (i == 0) = false := by simpa using h0
          have hw1 : W (i - 1) = i - 1 := W_in (by omega)
          have hb1 : boundsI (i - 1) n = true := by simp [boundsI]; omega
          have ht' := ht
          unfold rotU at ht'
          rw [e0] at ht'
          simp only at ht'
          unfold rbHg
          cases sh <;> simp only [rbRe, rbRa, rbRb, hd, hb, hw, e0, hw1, hb1, ht', Sh.next]
      · unfold rbI
        simp only
        exact ⟨h1, h2, h3, by omega, by omega, by omega, by cases sh <;> exact h7⟩
      · unfold rbO
        rw [hq]
        simp only [bld, ht, rbQ]
  · have hd : decide (i < (n : Int)) = false := by simpa using hi
    right
    have hq : rbQ ⟨sh, own, n, xs, k, ms, i⟩ = ms := by
      unfold rbQ
      rw [show ((n : Int) - i).toNat = 0 by omega]
      rfl
    refine ⟨rbE sh.next own n xs k (mtRow ms), ?_, ?_, by unfold rbO; simp⟩
    · unfold rbO rbHg
      cases sh with
      | e => simp only [rbRe, hd, Sh.next]
      | a => simp only [rbRa, hd, Sh.next]
      | b => simp only [rbRb, hd, Sh.next]
    · unfold rbO
      rw [hq]
      simp only [h3, shOf1_ok h7]
      exact StLike.refl _
def rbD : Mem → Option (Bool × Nat × (Nat → List Value))
  | [.rows own true 12 n2 row] => some (own, n2, row)
  | _ => none
theorem rbD_spec {m : Mem} {own : Bool} {n2 : Nat} {row : Nat → List Value} (h : rbD m = some (own, n2, row)) : m = [.rows own true 12 n2 row] := by
  unfold rbD at h
  split at h
  · simp only [Option.some.injEq, Prod.mk.injEq] at h
    obtain ⟨rfl, rfl, rfl⟩ := h
    rfl
  · cases h
def rbS (st : St) : Option (Ans (Exit × St)) :=
  match Nat.beq st.tmps.length 33, tAt st 0, tAt st 2, tAt st 3, tAt st 6, tAt st 7, tAt st 8, rbD (thaw (killV st.mem)) with
  | true, some (.slice (some ⟨0, 0, some 0⟩) n 12), some (.slice none 0 0), some (.slice none 0 0), some (.slice (some ⟨0, 0, some 0⟩) n3 12), some (.int .i64 ln), some (.int .i64 i), some (own, n2, row) => some (.br (Nat.beq n n2 && (okOps n row && (decide (ln = (n : Int)) && (decide (0 = i) && (decide (n ≤ 1000) && (Nat.beq n n3)))))) (.br (nilL (bld (fun i => rotU (opsOf n row) i) (fun i => (atO (opsOf n row) i).r) n 0 [])) (.out (.exit 0, rbE .a own n (opsOf n row) (bld (fun i => rotU (opsOf n row) i) (fun i => (atO (opsOf n row) i).r) n 0 []).length (mtRow (bld (fun i => rotU (opsOf n row) i) (fun i => (atO (opsOf n row) i).r) n 0 [])))) (.out (.exit 0, rbE .b own n (opsOf n row) (bld (fun i => rotU (opsOf n row) i) (fun i => (atO (opsOf n row) i).r) n 0 []).length (mtRow (bld (fun i => rotU (opsOf n row) i) (fun i => (atO (opsOf n row) i).r) n 0 []))))) .fail)
  | _, _, _, _, _, _, _, _ => none
theorem rbK {st : St} {ans : Ans (Exit × St)} {e_ : Exit} {s_ : St} (h : rbS st = some ans) (hr : ans.res = some (e_, s_)) : LoopSem Try.prog 1 (rbX Try.prog) st e_ s_ := by
  unfold rbS at h
  split at h
  rotate_left
  · cases h
  rename_i n n3 ln i own n2 row hb hs0 hs2 hs3 hs6 hs7 hs8 hD
  simp only [Option.some.injEq] at h
  subst h
  rcases Ans.br_some hr with ⟨hc, hr1⟩ | ⟨_, hr1⟩
  rotate_left
  · simp [Ans.res] at hr1
  clear hr
  simp only [Bool.and_eq_true, decide_eq_true_eq] at hc
  obtain ⟨c1, c2, c3, c4, c5, d0⟩ := hc
  have c1 := beq_len c1
  subst c1 c3 c4
  have d0 := beq_len d0
  subst d0
  have hmem := rbD_spec hD
  have hI : rbI ⟨.e, own, n, opsOf n row, 0, [], 0⟩ := by
    unfold rbI
    simp only
    exact ⟨opsOf_length n row, c5, rfl, by omega, by omega, by omega, rfl⟩
  have key := rbL _ hI
  have hlike : LikeL (thaw (killV st.mem)) (rbHg ⟨.e, own, n, opsOf n row, 0, [], 0⟩).mem := by
    rw [hmem]
    exact ⟨.rows (ops_like c2), trivial⟩
  have key := LoopSem.like (tm := (rbHg ⟨.e, own, n, opsOf n row, 0, [], 0⟩).tmps) (m := thaw (killV st.mem)) key hlike
  have key := LoopSem.fresh key
  have hk : keepL [0, 2, 3, 6, 7, 8] 0 st.tmps = (rbHg ⟨.e, own, n, opsOf n row, 0, [], 0⟩).tmps := by
    have := keep_eq [(0, .slice (some ⟨0, 0, some 0⟩) n 12), (2, .slice none 0 0), (3, .slice none 0 0), (6, .slice (some ⟨0, 0, some 0⟩) n 12), (7, vI n), (8, vI 0)] st.tmps 0 (by
      intro x hx _
      simp only [List.mem_cons, List.not_mem_nil, or_false] at hx
      rcases hx with rfl | rfl | rfl | rfl | rfl | rfl
      · exact hs0
      · exact hs2
      · exact hs3
      · exact hs6
      · exact hs7
      · exact hs8)
    rw [show (keepL [0, 2, 3, 6, 7, 8] 0 st.tmps) = _ from this, beq_len hb]
    rfl
  rw [← hk] at key
  have key : LoopSem Try.prog 1 (rbX Try.prog) st _ _ := LoopSem.clean (mask := [0, 2, 3, 6, 7, 8]) key
  unfold rbO rbQ at key
  simp only [show ((n : Int) - 0).toNat = n by omega] at key
  rcases Ans.br_some hr1 with ⟨hq, hr2⟩ | ⟨hq, hr2⟩
  · rw [nilL_t hq] at key
    simp only [Ans.res, Option.some.injEq, Prod.mk.injEq] at hr2
    obtain ⟨rfl, rfl⟩ := hr2
    exact key
  · rw [nilL_f hq] at key
    simp only [Ans.res, Option.some.injEq, Prod.mk.injEq] at hr2
    obtain ⟨rfl, rfl⟩ := hr2
    exact key
end Go.Proofs.Ytcefeamjnnkahaa
