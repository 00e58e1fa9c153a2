/-
  Rotations and Centring, of the program and of the document: their loops. Nothing here is trusted.
-/
import Derived.Test.YtjpfnfckpgilgaaKaj
import Derived.Test.YtjpfnfckpgilgaaKak
namespace Go.Proofs.Ytjpfnfckpgilgaa
open Go Vx
/-- What a loop appends, place by place. -/
def bld {α : Type} (t : Int → Bool) (e : Int → α) : Nat → Int → List α → List α
  | 0, _, ms => ms
  | c + 1, i, ms => match t i with
    | true => bld t e c (i + 1) (ms ++ [e i])
    | false => bld t e c (i + 1) ms
def shOk {α : Type} (sh : Sh) (ms : List α) : Prop := match sh with
  | .b => ms ≠ []
  | _ => ms = []
def shOf1 {α : Type} (ms : List α) : Sh := match ms with
  | [] => .a
  | _ :: _ => .b
theorem shOf1_ok {α : Type} {sh : Sh} {ms : List α} (h : shOk sh ms) : shOf1 ms = sh.next := by
  cases sh with
  | b => cases ms with
    | nil => exact absurd rfl h
    | cons m ms => rfl
  | e => have : ms = [] := h; subst this; rfl
  | a => have : ms = [] := h; subst this; rfl
def nilL {α : Type} : List α → Bool
  | [] => true
  | _ :: _ => false
theorem nilL_t {α : Type} {l : List α} (h : nilL l = true) : shOf1 l = .a := by cases l with
  | nil => rfl
  | cons x l => cases h
theorem nilL_f {α : Type} {l : List α} (h : nilL l = false) : shOf1 l = .b := by cases l with
  | nil => cases h
  | cons x l => rfl
def room9 (k : Nat) : Bool := decide (k * 72 ≤ 2 ^ 47) && decide (k ≤ 2 ^ 62)
def room3 (k : Nat) : Bool := decide (k * 24 ≤ 2 ^ 47) && decide (k ≤ 2 ^ 62)
theorem room9_ok {k : Nat} (h : k ≤ 2000000) : room9 k = true := by unfold room9; simp; omega
theorem room3_ok {k : Nat} (h : k ≤ 2000000) : room3 k = true := by unfold room3; simp; omega
def rotT (xs : List O3) (i : Int) : Bool := match i == 0 with
  | true => true
  | false => !((atO xs i).r.eqB (atO xs (i - 1)).r)
def rotU (xs : List O3) (i : Int) : Bool := match i == 0 with
  | true => true
  | false => !((atO xs (i - 1)).r.eqB (atO xs i).r)

def cqX (P : Program) : Code := (loopsOf P 33 7).headD .skip
theorem ceX_eq : loopsOf Try.prog 33 7 = [cqX Try.prog] := by kernel_rfl
def cqV (sh : Sh) (k : Nat) : Value := match sh with
  | .b => .slice (some ⟨2, 0, some 0⟩) k 3
  | _ => .slice none 0 0
def cqM (sh : Sh) (own : Bool) (n : Nat) (xs : List O3) (k : Nat) (r : Nat → List Value) : Mem := match sh with
  | .e => [.rows own true 12 n (opRow xs), .cells true 0 O3.one.cells]
  | .a => [.rows own true 12 n (opRow xs), .cells true 0 O3.one.cells, .no]
  | .b => [.rows own true 12 n (opRow xs), .cells true 0 O3.one.cells, .rows true true 3 k r]
def cqH (sh : Sh) (own : Bool) (n : Nat) (xs : List O3) (k : Nat) (r : Nat → List Value) (i : Int) : St := stOf 33 [(2, .slice none 0 0), (3, vI 0), (5, .pointer (some ⟨1, 0, none⟩)), (6, cqV sh k), (15, .slice (some ⟨0, 0, some 0⟩) n 12), (16, vI n), (17, vI i)] (cqM sh own n xs k r)
def cqE (sh : Sh) (own : Bool) (n : Nat) (xs : List O3) (k : Nat) (r : Nat → List Value) : St := stOf 33 [(2, .slice none 0 0), (3, vI 0), (6, cqV sh k)] (cqM sh own n xs k r)
theorem cqRe (own : Bool) (n : Nat) (xs : List O3) (k : Nat) (ms : List V3) (i : Int) : roundR ((Cdk Try.prog).into 33 1) 40 (cqX Try.prog) [2, 3, 5, 6, 15, 16, 17] [2, 3, 6] [.fix 0, .fix 1, .slot 6] [.fix 0, .fix 1, .slot 6] (cqH .e own n xs k (vcRow ms) i) =
    (match decide (i < (n : Int)) with
    | true => match boundsI i n with
      | true => match (atO xs i).r.eqB M3.one with
        | true => some (.normal, cqH .b own n xs 1 (chop 3 0 ((atO xs i).t).cells) (W (i + 1)))
        | false => some (.normal, cqH .a own n xs k (vcRow ms) (W (i + 1)))
      | false => none
    | false => some (.exit 0, cqE .a own n xs k (vcRow ms))) := by kernel_rfl
theorem cqRa (own : Bool) (n : Nat) (xs : List O3) (k : Nat) (ms : List V3) (i : Int) : roundR ((Cdk Try.prog).into 33 1) 40 (cqX Try.prog) [2, 3, 5, 6, 15, 16, 17] [2, 3, 6] [.fix 0, .fix 1, .slot 6] [.fix 0, .fix 1, .slot 6] (cqH .a own n xs k (vcRow ms) i) =
    (match decide (i < (n : Int)) with
    | true => match boundsI i n with
      | true => match (atO xs i).r.eqB M3.one with
        | true => some (.normal, cqH .b own n xs 1 (chop 3 0 ((atO xs i).t).cells) (W (i + 1)))
        | false => some (.normal, cqH .a own n xs k (vcRow ms) (W (i + 1)))
      | false => none
    | false => some (.exit 0, cqE .a own n xs k (vcRow ms))) := by kernel_rfl
theorem cqRb (own : Bool) (n : Nat) (xs : List O3) (k : Nat) (ms : List V3) (i : Int) : roundR ((Cdk Try.prog).into 33 1) 40 (cqX Try.prog) [2, 3, 5, 6, 15, 16, 17] [2, 3, 6] [.fix 0, .fix 1, .slot 6] [.fix 0, .fix 1, .slot 6] (cqH .b own n xs k (vcRow ms) i) =
    (match decide (i < (n : Int)) with
    | true => match boundsI i n with
      | true => match (atO xs i).r.eqB M3.one with
        | true => gd (Nat.beq k k && room3 (k + 1)) (some (.normal, cqH .b own n xs (k + 1) (catR k (vcRow ms) (chop 3 0 ((atO xs i).t).cells)) (W (i + 1))))
        | false => some (.normal, cqH .b own n xs k (vcRow ms) (W (i + 1)))
      | false => none
    | false => some (.exit 0, cqE .b own n xs k (vcRow ms))) := by kernel_rfl
structure cqG where
  (sh : Sh) (own : Bool) (n : Nat) (xs : List O3) (k : Nat) (ms : List V3) (i : Int)
def cqHg (g : cqG) : St := cqH g.sh g.own g.n g.xs g.k (vcRow g.ms) g.i
def cqI (g : cqG) : Prop := g.xs.length = g.n ∧ g.n ≤ 1000 ∧ g.ms.length = g.k ∧ (g.k : Int) ≤ g.i ∧ 0 ≤ g.i ∧ g.i ≤ (g.n : Int) ∧ shOk g.sh g.ms
def cqQ (g : cqG) : List V3 := bld (fun i => (atO g.xs i).r.eqB M3.one) (fun i => (atO g.xs i).t) (g.n - g.i).toNat g.i g.ms
def cqO (g : cqG) : Exit × St := (.exit 0, cqE (shOf1 (cqQ g)) g.own g.n g.xs (cqQ g).length (vcRow (cqQ g)))
theorem cqL (g : cqG) (hg : cqI g) : LoopSem Try.prog 1 (cqX Try.prog) (cqHg g) (cqO g).1 (cqO g).2 := by
  refine loop_rule2 (C := Cdk Try.prog) okdk (f := 33) (B := 1) (loopsOf_in (k := 7) ceX_eq) 40 [2, 3, 5, 6, 15, 16, 17] [2, 3, 6] [.fix 0, .fix 1, .slot 6] [.fix 0, .fix 1, .slot 6] cqHg (fun g => (g.n - g.i).toNat) cqI cqO ?_ g hg
  clear hg g
  rintro ⟨sh, own, n, xs, k, ms, i⟩ hg
  unfold cqI at hg
  simp only at hg
  obtain ⟨h1, h2, h3, h4, h5, h6, h7⟩ := hg
  by_cases hi : i < (n : Int)
  · have hd : decide (i < (n : Int)) = true := by simpa using hi
    have hb : boundsI i n = true := by simp [boundsI, h5, hi]
    have hw : W (i + 1) = i + 1 := W_in (by omega)
    have hs : ((n : Int) - i).toNat = ((n : Int) - (i + 1)).toNat + 1 := by omega
    have hq : cqQ ⟨sh, own, n, xs, k, ms, i⟩ = bld (fun i => (atO xs i).r.eqB M3.one) (fun i => (atO xs i).t) (((n : Int) - (i + 1)).toNat + 1) i ms := by unfold cqQ; simp only [hs]
    have hrm : (Nat.beq k k && room3 (k + 1)) = true := by rw [Nat.beq_refl, room3_ok (by omega)]; rfl
    left
    cases ht : ((atO xs i).r.eqB M3.one) with
    | true =>
      refine ⟨⟨.b, own, n, xs, k + 1, ms ++ [(atO xs i).t], i + 1⟩, cqH .b own n xs (match sh with
        | .b => k + 1
        | _ => 1) (match sh with
        | .b => catR k (vcRow ms) (chop 3 0 ((atO xs i).t).cells)
        | _ => chop 3 0 ((atO xs i).t).cells) (i + 1), ?_, ?_, ?_, by simp only; omega, ?_⟩
      · unfold cqHg; cases sh <;> simp only [cqRe, cqRa, cqRb, hd, hb, hw, ht, hrm, gd_true]
      · cases sh with
        | e => have : ms = [] := h7; subst this; have : k = 0 := h3.symm; subst this; exact ⟨rfl, .refl _, .refl _, like_chopvcs _, trivial⟩
        | a => have : ms = [] := h7; subst this; have : k = 0 := h3.symm; subst this; exact ⟨rfl, .refl _, .refl _, like_chopvcs _, trivial⟩
        | b => exact ⟨rfl, .refl _, .refl _, like_nrvcs h3 _, trivial⟩
      · unfold cqI
        simp only
        exact ⟨h1, h2, by simp [h3], by omega, by omega, by omega, by simp [shOk]⟩
      · unfold cqO
        rw [hq]
        simp only [bld, ht, cqQ]
    | false =>
      refine ⟨⟨sh.next, own, n, xs, k, ms, i + 1⟩, cqH sh.next own n xs k (vcRow ms) (i + 1), ?_, StLike.refl _, ?_, by simp only; omega, ?_⟩
      · unfold cqHg; cases sh <;> simp only [cqRe, cqRa, cqRb, hd, hb, hw, ht, Sh.next]
      · unfold cqI
        simp only
        exact ⟨h1, h2, h3, by omega, by omega, by omega, by cases sh <;> exact h7⟩
      · unfold cqO
        rw [hq]
        simp only [bld, ht, cqQ]
  · have hd : decide (i < (n : Int)) = false := by simpa using hi
    right
    have hq : cqQ ⟨sh, own, n, xs, k, ms, i⟩ = ms := by
      unfold cqQ
      rw [show ((n : Int) - i).toNat = 0 by omega]
      rfl
    refine ⟨cqE sh.next own n xs k (vcRow ms), ?_, ?_, by unfold cqO; simp⟩
    · unfold cqO cqHg
      cases sh with
      | e => simp only [cqRe, hd, Sh.next]
      | a => simp only [cqRa, hd, Sh.next]
      | b => simp only [cqRb, hd, Sh.next]
    · unfold cqO
      rw [hq]
      simp only [h3, shOf1_ok h7]
      exact StLike.refl _
def cqD : Mem → Option (Bool × Nat × (Nat → List Value) × List Value)
  | [.rows own true 12 n2 row, .cells true 0 co] => some (own, n2, row, co)
  | _ => none
theorem ceD_spec {m : Mem} {own : Bool} {n2 : Nat} {row : Nat → List Value} {co : List Value} (h : cqD m = some (own, n2, row, co)) : m = [.rows own true 12 n2 row, .cells true 0 co] := by
  unfold cqD at h
  split at h
  · simp only [Option.some.injEq, Prod.mk.injEq] at h
    obtain ⟨rfl, rfl, rfl, rfl⟩ := h
    rfl
  · cases h
def cqS (st : St) : Option (Ans (Exit × St)) :=
  match Nat.beq st.tmps.length 33, tAt st 2, tAt st 3, tAt st 5, tAt st 6, tAt st 15, tAt st 16, tAt st 17, cqD (thaw (killV st.mem)) with
  | true, some (.slice none 0 0), some (.int .i64 0), some (.pointer (some ⟨1, 0, none⟩)), some (.slice none 0 0), some (.slice (some ⟨0, 0, some 0⟩) n 12), some (.int .i64 ln), some (.int .i64 i), some (own, n2, row, co) => some (.br (Nat.beq n n2 && (okOps n row && (decide (ln = (n : Int)) && (decide (0 = i) && (decide (n ≤ 1000) && (isO co && ((decO co).eqB O3.one))))))) (.br (nilL (bld (fun i => (atO (opsOf n row) i).r.eqB M3.one) (fun i => (atO (opsOf n row) i).t) n 0 [])) (.out (.exit 0, cqE .a own n (opsOf n row) (bld (fun i => (atO (opsOf n row) i).r.eqB M3.one) (fun i => (atO (opsOf n row) i).t) n 0 []).length (vcRow (bld (fun i => (atO (opsOf n row) i).r.eqB M3.one) (fun i => (atO (opsOf n row) i).t) n 0 [])))) (.out (.exit 0, cqE .b own n (opsOf n row) (bld (fun i => (atO (opsOf n row) i).r.eqB M3.one) (fun i => (atO (opsOf n row) i).t) n 0 []).length (vcRow (bld (fun i => (atO (opsOf n row) i).r.eqB M3.one) (fun i => (atO (opsOf n row) i).t) n 0 []))))) .fail)
  | _, _, _, _, _, _, _, _, _ => none
theorem cqK {st : St} {ans : Ans (Exit × St)} {e_ : Exit} {s_ : St} (h : cqS st = some ans) (hr : ans.res = some (e_, s_)) : LoopSem Try.prog 1 (cqX Try.prog) st e_ s_ := by
  unfold cqS at h
  split at h
  rotate_left
  · cases h
  rename_i n ln i own n2 row co hb hs2 hs3 hs5 hs6 hs15 hs16 hs17 hD
  simp only [Option.some.injEq] at h
  subst h
  rcases Ans.br_some hr with ⟨hc, hr1⟩ | ⟨_, hr1⟩
  rotate_left
  · simp [Ans.res] at hr1
  clear hr
  simp only [Bool.and_eq_true, decide_eq_true_eq] at hc
  obtain ⟨c1, c2, c3, c4, c5, d0, d1⟩ := hc
  have c1 := beq_len c1
  subst c1 c3 c4
  have hco : co = O3.one.cells := by rw [isO_spec d0, O3.eqB_iff.1 d1]
  subst hco
  have hmem := ceD_spec hD
  have hI : cqI ⟨.e, own, n, opsOf n row, 0, [], 0⟩ := by
    unfold cqI
    simp only
    exact ⟨opsOf_length n row, c5, rfl, by omega, by omega, by omega, rfl⟩
  have key := cqL _ hI
  have hlike : LikeL (thaw (killV st.mem)) (cqHg ⟨.e, own, n, opsOf n row, 0, [], 0⟩).mem := by
    rw [hmem]
    exact ⟨.rows (ops_like c2), .refl _, trivial⟩
  have key := LoopSem.like (tm := (cqHg ⟨.e, own, n, opsOf n row, 0, [], 0⟩).tmps) (m := thaw (killV st.mem)) key hlike
  have key := LoopSem.fresh key
  have hk : keepL [2, 3, 5, 6, 15, 16, 17] 0 st.tmps = (cqHg ⟨.e, own, n, opsOf n row, 0, [], 0⟩).tmps := by
    have := keep_eq [(2, .slice none 0 0), (3, vI 0), (5, .pointer (some ⟨1, 0, none⟩)), (6, .slice none 0 0), (15, .slice (some ⟨0, 0, some 0⟩) n 12), (16, vI n), (17, vI 0)] st.tmps 0 (by
      intro x hx _
      simp only [List.mem_cons, List.not_mem_nil, or_false] at hx
      rcases hx with rfl | rfl | rfl | rfl | rfl | rfl | rfl
      · exact hs2
      · exact hs3
      · exact hs5
      · exact hs6
      · exact hs15
      · exact hs16
      · exact hs17)
    rw [show (keepL [2, 3, 5, 6, 15, 16, 17] 0 st.tmps) = _ from this, beq_len hb]
    rfl
  rw [← hk] at key
  have key : LoopSem Try.prog 1 (cqX Try.prog) st _ _ := LoopSem.clean (mask := [2, 3, 5, 6, 15, 16, 17]) key
  unfold cqO cqQ at key
  simp only [show ((n : Int) - 0).toNat = n by omega] at key
  rcases Ans.br_some hr1 with ⟨hq, hr2⟩ | ⟨hq, hr2⟩
  · rw [nilL_t hq] at key
    simp only [Ans.res, Option.some.injEq, Prod.mk.injEq] at hr2
    obtain ⟨rfl, rfl⟩ := hr2
    exact key
  · rw [nilL_f hq] at key
    simp only [Ans.res, Option.some.injEq, Prod.mk.injEq] at hr2
    obtain ⟨rfl, rfl⟩ := hr2
    exact key
end Go.Proofs.Ytjpfnfckpgilgaa
