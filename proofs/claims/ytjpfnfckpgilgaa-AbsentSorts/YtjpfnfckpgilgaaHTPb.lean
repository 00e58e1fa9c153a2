/-
  Rotations, of the program and of the document: their loops. Nothing here is trusted.
-/
import Derived.Test.YtjpfnfckpgilgaaHTPa
namespace Go.Proofs.Ytjpfnfckpgilgaa
open Go Vx

def raX (P : Program) : Code := (loopsOf P 106 6).headD .skip
theorem raX_eq : loopsOf Try.prog 106 6 = [raX Try.prog] := by kernel_rfl
def raV (sh : Sh) (k : Nat) : Value := match sh with
  | .b => .slice (some ⟨1, 0, some 0⟩) k 9
  | _ => .slice none 0 0
def raM (sh : Sh) (own : Bool) (n : Nat) (xs : List O3) (k : Nat) (r : Nat → List Value) : Mem := match sh with
  | .e => [.rows own true 12 n (opRow xs)]
  | .a => [.rows own true 12 n (opRow xs), .no]
  | .b => [.rows own true 12 n (opRow xs), .rows true true 9 k r]
def raH (sh : Sh) (own : Bool) (n : Nat) (xs : List O3) (k : Nat) (r : Nat → List Value) (i : Int) : St := stOf 40 [(0, .slice (some ⟨0, 0, some 0⟩) n 12), (2, .slice none 0 0), (3, vI 0), (5, raV sh k), (13, .slice (some ⟨0, 0, some 0⟩) n 12), (14, vI n), (15, vI i)] (raM sh own n xs k r)
def raE (sh : Sh) (own : Bool) (n : Nat) (xs : List O3) (k : Nat) (r : Nat → List Value) : St := stOf 40 [(2, .slice none 0 0), (3, vI 0), (5, raV sh k)] (raM sh own n xs k r)
theorem raRe (own : Bool) (n : Nat) (xs : List O3) (k : Nat) (ms : List M3) (i : Int) : roundR ((Cdk Try.prog).into 106 1) 40 (raX Try.prog) [0, 2, 3, 5, 13, 14, 15] [2, 3, 5] [.fix 0, .slot 5] [.fix 0, .slot 5] (raH .e own n xs k (mtRow ms) i) =
    (match decide (i < (n : Int)) with
    | true => match boundsI i n with
      | true => match (i == 0) with
        | true => some (.normal, raH .b own n xs 1 (chop 9 0 ((atO xs i).r).cells) (W (i + 1)))
        | false => match boundsI (W (i - 1)) n with
          | true => match !((atO xs i).r.eqB (atO xs (W (i - 1))).r) with
            | true => some (.normal, raH .b own n xs 1 (chop 9 0 ((atO xs i).r).cells) (W (i + 1)))
            | false => some (.normal, raH .a own n xs k (mtRow ms) (W (i + 1)))
          | false => none
      | false => none
    | false => some (.exit 0, raE .a own n xs k (mtRow ms))) := by kernel_rfl
theorem raRa (own : Bool) (n : Nat) (xs : List O3) (k : Nat) (ms : List M3) (i : Int) : roundR ((Cdk Try.prog).into 106 1) 40 (raX Try.prog) [0, 2, 3, 5, 13, 14, 15] [2, 3, 5] [.fix 0, .slot 5] [.fix 0, .slot 5] (raH .a own n xs k (mtRow ms) i) =
    (match decide (i < (n : Int)) with
    | true => match boundsI i n with
      | true => match (i == 0) with
        | true => some (.normal, raH .b own n xs 1 (chop 9 0 ((atO xs i).r).cells) (W (i + 1)))
        | false => match boundsI (W (i - 1)) n with
          | true => match !((atO xs i).r.eqB (atO xs (W (i - 1))).r) with
            | true => some (.normal, raH .b own n xs 1 (chop 9 0 ((atO xs i).r).cells) (W (i + 1)))
            | false => some (.normal, raH .a own n xs k (mtRow ms) (W (i + 1)))
          | false => none
      | false => none
    | false => some (.exit 0, raE .a own n xs k (mtRow ms))) := by kernel_rfl
theorem raRb (own : Bool) (n : Nat) (xs : List O3) (k : Nat) (ms : List M3) (i : Int) : roundR ((Cdk Try.prog).into 106 1) 40 (raX Try.prog) [0, 2, 3, 5, 13, 14, 15] [2, 3, 5] [.fix 0, .slot 5] [.fix 0, .slot 5] (raH .b own n xs k (mtRow ms) i) =
    (match decide (i < (n : Int)) with
    | true => match boundsI i n with
      | true => match (i == 0) with
        | true => gd (Nat.beq k k && room9 (k + 1)) (some (.normal, raH .b own n xs (k + 1) (catR k (mtRow ms) (chop 9 0 ((atO xs i).r).cells)) (W (i + 1))))
        | false => match boundsI (W (i - 1)) n with
          | true => match !((atO xs i).r.eqB (atO xs (W (i - 1))).r) with
            | true => gd (Nat.beq k k && room9 (k + 1)) (some (.normal, raH .b own n xs (k + 1) (catR k (mtRow ms) (chop 9 0 ((atO xs i).r).cells)) (W (i + 1))))
            | false => some (.normal, raH .b own n xs k (mtRow ms) (W (i + 1)))
          | false => none
      | false => none
    | false => some (.exit 0, raE .b own n xs k (mtRow ms))) := by kernel_rfl
structure raG where
  (sh : Sh) (own : Bool) (n : Nat) (xs : List O3) (k : Nat) (ms : List M3) (i : Int)
def raHg (g : raG) : St := raH g.sh g.own g.n g.xs g.k (mtRow g.ms) g.i
def raI (g : raG) : Prop := g.xs.length = g.n ∧ g.n ≤ 1000 ∧ g.ms.length = g.k ∧ (g.k : Int) ≤ g.i ∧ 0 ≤ g.i ∧ g.i ≤ (g.n : Int) ∧ shOk g.sh g.ms
def raQ (g : raG) : List M3 := bld (fun i => rotT g.xs i) (fun i => (atO g.xs i).r) (g.n - g.i).toNat g.i g.ms
def raO (g : raG) : Exit × St := (.exit 0, raE (shOf1 (raQ g)) g.own g.n g.xs (raQ g).length (mtRow (raQ g)))
theorem raL (g : raG) (hg : raI g) : LoopSem Try.prog 1 (raX Try.prog) (raHg g) (raO g).1 (raO g).2 := by
  refine loop_rule2 (C := Cdk Try.prog) okdk (f := 106) (B := 1) (loopsOf_in (k := 6) raX_eq) 40 [0, 2, 3, 5, 13, 14, 15] [2, 3, 5] [.fix 0, .slot 5] [.fix 0, .slot 5] raHg (fun g => (g.n - g.i).toNat) raI raO ?_ g hg
  clear hg g
  rintro ⟨sh, own, n, xs, k, ms, i⟩ hg
  unfold raI at hg
  simp only at hg
  obtain ⟨h1, h2, h3, h4, h5, h6, h7⟩ := hg
  by_cases hi : i < (n : Int)
  · have hd : decide (i < (n : Int)) = true := by simpa using hi
    have hb : boundsI i n = true := by simp [boundsI, h5, hi]
    have hw : W (i + 1) = i + 1 := W_in (by omega)
    have hs : ((n : Int) - i).toNat = ((n : Int) - (i + 1)).toNat + 1 := by omega
    have hq : raQ ⟨sh, own, n, xs, k, ms, i⟩ = bld (fun i => rotT xs i) (fun i => (atO xs i).r) (((n : Int) - (i + 1)).toNat + 1) i ms := by unfold raQ; simp only [hs]
    have hrm : (Nat.beq k k && room9 (k + 1)) = true := by rw [Nat.beq_refl, room9_ok (by omega)]; rfl
    left
    cases ht : (rotT xs i) with
    | true =>
      refine ⟨⟨.b, own, n, xs, k + 1, ms ++ [(atO xs i).r], i + 1⟩, raH .b own n xs (match sh with
        | .b => k + 1
        | _ => 1) (match sh with
        | .b => catR k (mtRow ms) (chop 9 0 ((atO xs i).r).cells)
        | _ => chop 9 0 ((atO xs i).r).cells) (i + 1), ?_, ?_, ?_, by simp only; omega, ?_⟩
      · by_cases h0 : i = 0
        · subst h0
          unfold raHg
          cases sh <;> simp only [raRe, raRa, raRb, hd, hb, hw, beq_self_eq_true, hrm, gd_true]
        · have e0 : (i == 0) = false := by simpa using h0
          have hw1 : W (i - 1) = i - 1 := W_in (by omega)
          have hb1 : boundsI (i - 1) n = true := by simp [boundsI]; omega
          have ht' := ht
          unfold rotT at ht'
          rw [e0] at ht'
          simp only at ht'
          unfold raHg
          cases sh <;> simp only [raRe, raRa, raRb, hd, hb, hw, e0, hw1, hb1, ht', hrm, gd_true]
      · cases sh with
        | e => have : ms = [] := h7; subst this; have : k = 0 := h3.symm; subst this; exact ⟨rfl, .refl _, like_chopmts _, trivial⟩
        | a => have : ms = [] := h7; subst this; have : k = 0 := h3.symm; subst this; exact ⟨rfl, .refl _, like_chopmts _, trivial⟩
        | b => exact ⟨rfl, .refl _, like_nrmts h3 _, trivial⟩
      · unfold raI
        simp only
        exact ⟨h1, h2, by simp [h3], by omega, by omega, by omega, by simp [shOk]⟩
      · unfold raO
        rw [hq]
        simp only [bld, ht, raQ]
    | false =>
      refine ⟨⟨sh.next, own, n, xs, k, ms, i + 1⟩, raH sh.next own n xs k (mtRow ms) (i + 1), ?_, StLike.refl _, ?_, by simp only; omega, ?_⟩
      · by_cases h0 : i = 0
        · subst h0
          simp [rotT] at ht
        · have e0 : (i == 0) = false := by simpa using h0
          have hw1 : W (i - 1) = i - 1 := W_in (by omega)
          have hb1 : boundsI (i - 1) n = true := by simp [boundsI]; omega
          have ht' := ht
          unfold rotT at ht'
          rw [e0] at ht'
          simp only at ht'
          unfold raHg
          cases sh <;> simp only [raRe, raRa, raRb, hd, hb, hw, e0, hw1, hb1, ht', Sh.next]
      · unfold raI
        simp only
        exact ⟨h1, h2, h3, by omega, by omega, by omega, by cases sh <;> exact h7⟩
      · unfold raO
        rw [hq]
        simp only [bld, ht, raQ]
  · have hd : decide (i < (n : Int)) = false := by simpa using hi
    right
    have hq : raQ ⟨sh, own, n, xs, k, ms, i⟩ = ms := by
      unfold raQ
      rw [show ((n : Int) - i).toNat = 0 by omega]
      rfl
    refine ⟨raE sh.next own n xs k (mtRow ms), ?_, ?_, by unfold raO; simp⟩
    · unfold raO raHg
      cases sh with
      | e => simp only [raRe, hd, Sh.next]
      | a => simp only [raRa, hd, Sh.next]
      | b => simp only [raRb, hd, Sh.next]
    · unfold raO
      rw [hq]
      simp only [h3, shOf1_ok h7]
      exact StLike.refl _
def raD : Mem → Option (Bool × Nat × (Nat → List Value))
  | [.rows own true 12 n2 row] => some (own, n2, row)
  | _ => none
theorem raD_spec {m : Mem} {own : Bool} {n2 : Nat} {row : Nat → List Value} (h : raD m = some (own, n2, row)) : m = [.rows own true 12 n2 row] := by
  unfold raD at h
  split at h
  · simp only [Option.some.injEq, Prod.mk.injEq] at h
    obtain ⟨rfl, rfl, rfl⟩ := h
    rfl
  · cases h
def raS (st : St) : Option (Ans (Exit × St)) :=
  match Nat.beq st.tmps.length 40, tAt st 0, tAt st 2, tAt st 3, tAt st 5, tAt st 13, tAt st 14, tAt st 15, raD (thaw (killV st.mem)) with
  | true, some (.slice (some ⟨0, 0, some 0⟩) n 12), some (.slice none 0 0), some (.int .i64 0), some (.slice none 0 0), some (.slice (some ⟨0, 0, some 0⟩) n3 12), some (.int .i64 ln), some (.int .i64 i), some (own, n2, row) => some (.br (Nat.beq n n2 && (okOps n row && (decide (ln = (n : Int)) && (decide (0 = i) && (decide (n ≤ 1000) && (Nat.beq n n3)))))) (.br (nilL (bld (fun i => rotT (opsOf n row) i) (fun i => (atO (opsOf n row) i).r) n 0 [])) (.out (.exit 0, raE .a own n (opsOf n row) (bld (fun i => rotT (opsOf n row) i) (fun i => (atO (opsOf n row) i).r) n 0 []).length (mtRow (bld (fun i => rotT (opsOf n row) i) (fun i => (atO (opsOf n row) i).r) n 0 [])))) (.out (.exit 0, raE .b own n (opsOf n row) (bld (fun i => rotT (opsOf n row) i) (fun i => (atO (opsOf n row) i).r) n 0 []).length (mtRow (bld (fun i => rotT (opsOf n row) i) (fun i => (atO (opsOf n row) i).r) n 0 []))))) .fail)
  | _, _, _, _, _, _, _, _, _ => none
theorem raK {st : St} {ans : Ans (Exit × St)} {e_ : Exit} {s_ : St} (h : raS st = some ans) (hr : ans.res = some (e_, s_)) : LoopSem Try.prog 1 (raX Try.prog) st e_ s_ := by
  unfold raS at h
  split at h
  rotate_left
  · cases h
  rename_i n n3 ln i own n2 row hb hs0 hs2 hs3 hs5 hs13 hs14 hs15 hD
  simp only [Option.some.injEq] at h
  subst h
  rcases Ans.br_some hr with ⟨hc, hr1⟩ | ⟨_, hr1⟩
  rotate_left
  · simp [Ans.res] at hr1
  clear hr
  simp only [Bool.and_eq_true, decide_eq_true_eq] at hc
  obtain ⟨c1, c2, c3, c4, c5, d0⟩ := hc
  have c1 := beq_len c1
  subst c1 c3 c4
  have d0 := beq_len d0
  subst d0
  have hmem := raD_spec hD
  have hI : raI ⟨.e, own, n, opsOf n row, 0, [], 0⟩ := by
    unfold raI
    simp only
    exact ⟨opsOf_length n row, c5, rfl, by omega, by omega, by omega, rfl⟩
  have key := raL _ hI
  have hlike : LikeL (thaw (killV st.mem)) (raHg ⟨.e, own, n, opsOf n row, 0, [], 0⟩).mem := by
    rw [hmem]
    exact ⟨.rows (ops_like c2), trivial⟩
  have key := LoopSem.like (tm := (raHg ⟨.e, own, n, opsOf n row, 0, [], 0⟩).tmps) (m := thaw (killV st.mem)) key hlike
  have key := LoopSem.fresh key
  have hk : keepL [0, 2, 3, 5, 13, 14, 15] 0 st.tmps = (raHg ⟨.e, own, n, opsOf n row, 0, [], 0⟩).tmps := by
    have := keep_eq [(0, .slice (some ⟨0, 0, some 0⟩) n 12), (2, .slice none 0 0), (3, vI 0), (5, .slice none 0 0), (13, .slice (some ⟨0, 0, some 0⟩) n 12), (14, vI n), (15, vI 0)] st.tmps 0 (by
      intro x hx _
      simp only [List.mem_cons, List.not_mem_nil, or_false] at hx
      rcases hx with rfl | rfl | rfl | rfl | rfl | rfl | rfl
      · exact hs0
      · exact hs2
      · exact hs3
      · exact hs5
      · exact hs13
      · exact hs14
      · exact hs15)
    rw [show (keepL [0, 2, 3, 5, 13, 14, 15] 0 st.tmps) = _ from this, beq_len hb]
    rfl
  rw [← hk] at key
  have key : LoopSem Try.prog 1 (raX Try.prog) st _ _ := LoopSem.clean (mask := [0, 2, 3, 5, 13, 14, 15]) key
  unfold raO raQ at key
  simp only [show ((n : Int) - 0).toNat = n by omega] at key
  rcases Ans.br_some hr1 with ⟨hq, hr2⟩ | ⟨hq, hr2⟩
  · rw [nilL_t hq] at key
    simp only [Ans.res, Option.some.injEq, Prod.mk.injEq] at hr2
    obtain ⟨rfl, rfl⟩ := hr2
    exact key
  · rw [nilL_f hq] at key
    simp only [Ans.res, Option.some.injEq, Prod.mk.injEq] at hr2
    obtain ⟨rfl, rfl⟩ := hr2
    exact key
end Go.Proofs.Ytjpfnfckpgilgaa
