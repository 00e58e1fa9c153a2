/-
  facetlaw05.GroupLeast: the list turned about. Nothing here is trusted.
-/
import Derived.Test.YtmpkkmhielkggaaHTQa
namespace Go.Proofs.Ytmpkkmhielkggaa
open Go Vx
def room12 (k : Nat) : Bool := decide (k * 96 ≤ 2 ^ 47) && decide (k ≤ 2 ^ 62)
theorem room12_ok {k : Nat} (h : k ≤ 1048577) : room12 k = true := by unfold room12; simp; omega
def lcX (P : Program) : Code := (loopsOf P 3 26).headD .skip
theorem lcX_eq : loopsOf Try.prog 3 26 = [lcX Try.prog] := by kernel_rfl
def lcV (sh : Sh) (j : Nat) : Value := match sh with
  | .b => .slice (some ⟨7, 0, some 0⟩) j 12
  | _ => .slice none 0 0
def lcM (sh : Sh) (own : Bool) (n : Nat) (xs : List O3) (n1 : Nat) (r1 : Nat → List Value) (n2 : Nat) (r2 : Nat → List Value) (n3 : Nat) (r3 : Nat → List Value) (n4 : Nat) (r4 : Nat → List Value) (n5 : Nat) (r5 : Nat → List Value) (n6 : Nat) (r6 : Nat → List Value) (j : Nat) (r : Nat → List Value) : Mem := match sh with
  | .e => [.rows own true 12 n (opRow xs), .rows true true 12 n1 r1, .rows true true 12 n2 r2, .rows true true 9 n3 r3, .rows true true 3 n4 r4, .rows true true 12 n5 r5, .rows true true 12 n6 r6]
  | .a => [.rows own true 12 n (opRow xs), .rows true true 12 n1 r1, .rows true true 12 n2 r2, .rows true true 9 n3 r3, .rows true true 3 n4 r4, .rows true true 12 n5 r5, .rows true true 12 n6 r6, .no]
  | .b => [.rows own true 12 n (opRow xs), .rows true true 12 n1 r1, .rows true true 12 n2 r2, .rows true true 9 n3 r3, .rows true true 3 n4 r4, .rows true true 12 n5 r5, .rows true true 12 n6 r6, .rows true true 12 j r]
def lcH (sh : Sh) (own : Bool) (n : Nat) (xs : List O3) (n1 : Nat) (r1 : Nat → List Value) (n2 : Nat) (r2 : Nat → List Value) (n3 : Nat) (r3 : Nat → List Value) (n4 : Nat) (r4 : Nat → List Value) (n5 : Nat) (r5 : Nat → List Value) (n6 : Nat) (r6 : Nat → List Value) (sd : Int) (k l13 l15 l17 : Nat) (j : Nat) (r : Nat → List Value) (i : Int) : St := stOf 188 [(0, .slice (some ⟨0, 0, some 0⟩) n 12), (1, vI sd), (4, .bool false), (5, .slice (some ⟨2, 0, some 0⟩) k 12), (13, .slice (some ⟨3, 0, some 0⟩) l13 9), (14, vI 0), (15, .slice (some ⟨4, 0, some 0⟩) l15 3), (16, vI 0), (17, .slice (some ⟨6, 0, some 0⟩) l17 12), (18, vI 0), (19, lcV sh j), (20, vI i)] (lcM sh own n xs n1 r1 n2 r2 n3 r3 n4 r4 n5 r5 n6 r6 j r)
def lcE (sh : Sh) (own : Bool) (n : Nat) (xs : List O3) (n1 : Nat) (r1 : Nat → List Value) (n2 : Nat) (r2 : Nat → List Value) (n3 : Nat) (r3 : Nat → List Value) (n4 : Nat) (r4 : Nat → List Value) (n5 : Nat) (r5 : Nat → List Value) (n6 : Nat) (r6 : Nat → List Value) (sd : Int) (k l13 l15 l17 : Nat) (j : Nat) (r : Nat → List Value) : St := stOf 188 [(0, .slice (some ⟨0, 0, some 0⟩) n 12), (1, vI sd), (4, .bool false), (5, .slice (some ⟨2, 0, some 0⟩) k 12), (13, .slice (some ⟨3, 0, some 0⟩) l13 9), (14, vI 0), (15, .slice (some ⟨4, 0, some 0⟩) l15 3), (16, vI 0), (17, .slice (some ⟨6, 0, some 0⟩) l17 12), (18, vI 0), (19, lcV sh j)] (lcM sh own n xs n1 r1 n2 r2 n3 r3 n4 r4 n5 r5 n6 r6 j r)
theorem lcRe (own : Bool) (n : Nat) (xs : List O3) (n1 : Nat) (r1 : Nat → List Value) (n2 : Nat) (r2 : Nat → List Value) (n3 : Nat) (r3 : Nat → List Value) (n4 : Nat) (r4 : Nat → List Value) (n5 : Nat) (r5 : Nat → List Value) (n6 : Nat) (r6 : Nat → List Value) (sd : Int) (k l13 l15 l17 : Nat) (j : Nat) (ms : List O3) (i : Int) : roundR ((Cqb Try.prog).into 3 1) 40 (lcX Try.prog) [0, 1, 4, 5, 13, 14, 15, 16, 17, 18, 19, 20] [0, 1, 4, 5, 13, 14, 15, 16, 17, 18, 19] [.fix 0, .fix 1, .fix 2, .fix 3, .fix 4, .fix 5, .fix 6, .slot 19] [.fix 0, .fix 1, .fix 2, .fix 3, .fix 4, .fix 5, .fix 6, .slot 19] (lcH .e own n xs n1 r1 n2 r2 n3 r3 n4 r4 n5 r5 n6 r6 sd k l13 l15 l17 j (opRow ms) i) =
    (match decide (i ≥ 0) with
    | true => match boundsI i n with
      | true => some (.normal, lcH .b own n xs n1 r1 n2 r2 n3 r3 n4 r4 n5 r5 n6 r6 sd k l13 l15 l17 1 (chop 12 0 (atO xs i).cells) (W (i - 1)))
      | false => none
    | false => some (.exit 4, lcE .a own n xs n1 r1 n2 r2 n3 r3 n4 r4 n5 r5 n6 r6 sd k l13 l15 l17 j (opRow ms))) := by kernel_rfl
theorem lcRb (own : Bool) (n : Nat) (xs : List O3) (n1 : Nat) (r1 : Nat → List Value) (n2 : Nat) (r2 : Nat → List Value) (n3 : Nat) (r3 : Nat → List Value) (n4 : Nat) (r4 : Nat → List Value) (n5 : Nat) (r5 : Nat → List Value) (n6 : Nat) (r6 : Nat → List Value) (sd : Int) (k l13 l15 l17 : Nat) (j : Nat) (ms : List O3) (i : Int) : roundR ((Cqb Try.prog).into 3 1) 40 (lcX Try.prog) [0, 1, 4, 5, 13, 14, 15, 16, 17, 18, 19, 20] [0, 1, 4, 5, 13, 14, 15, 16, 17, 18, 19] [.fix 0, .fix 1, .fix 2, .fix 3, .fix 4, .fix 5, .fix 6, .slot 19] [.fix 0, .fix 1, .fix 2, .fix 3, .fix 4, .fix 5, .fix 6, .slot 19] (lcH .b own n xs n1 r1 n2 r2 n3 r3 n4 r4 n5 r5 n6 r6 sd k l13 l15 l17 j (opRow ms) i) =
    (match decide (i ≥ 0) with
    | true => match boundsI i n with
      | true => gd (Nat.beq j j && room12 (j + 1)) (some (.normal, lcH .b own n xs n1 r1 n2 r2 n3 r3 n4 r4 n5 r5 n6 r6 sd k l13 l15 l17 (j + 1) (catR j (opRow ms) (chop 12 0 (atO xs i).cells)) (W (i - 1))))
      | false => none
    | false => some (.exit 4, lcE .b own n xs n1 r1 n2 r2 n3 r3 n4 r4 n5 r5 n6 r6 sd k l13 l15 l17 j (opRow ms))) := by kernel_rfl
structure lcG where
  (sh : Sh) (own : Bool) (n : Nat) (xs : List O3) (n1 : Nat) (r1 : Nat → List Value) (n2 : Nat) (r2 : Nat → List Value) (n3 : Nat) (r3 : Nat → List Value) (n4 : Nat) (r4 : Nat → List Value) (n5 : Nat) (r5 : Nat → List Value) (n6 : Nat) (r6 : Nat → List Value) (sd : Int) (k l13 l15 l17 : Nat) (j : Nat) (ms : List O3) (i : Int)
def lcHg (g : lcG) : St := lcH g.sh g.own g.n g.xs g.n1 g.r1 g.n2 g.r2 g.n3 g.r3 g.n4 g.r4 g.n5 g.r5 g.n6 g.r6 g.sd g.k g.l13 g.l15 g.l17 g.j (opRow g.ms) g.i
def lcI (g : lcG) : Prop := g.xs.length = g.n ∧ 1 ≤ g.n ∧ g.n ≤ 1048576 ∧ -1 ≤ g.i ∧ g.i < (g.n : Int) ∧ g.ms = (g.xs.drop (g.i + 1).toNat).reverse ∧ g.ms.length = g.j ∧ shOk g.sh g.ms ∧ g.sh ≠ .a
def lcO (g : lcG) : Exit × St := (.exit 4, lcE .b g.own g.n g.xs g.n1 g.r1 g.n2 g.r2 g.n3 g.r3 g.n4 g.r4 g.n5 g.r5 g.n6 g.r6 g.sd g.k g.l13 g.l15 g.l17 g.n (opRow g.xs.reverse))
theorem lcL (g : lcG) (hg : lcI g) : LoopSem Try.prog 1 (lcX Try.prog) (lcHg g) (lcO g).1 (lcO g).2 := by
  refine loop_rule2 (C := Cqb Try.prog) okqb (f := 3) (B := 1) (loopsOf_in (k := 26) lcX_eq) 40 [0, 1, 4, 5, 13, 14, 15, 16, 17, 18, 19, 20] [0, 1, 4, 5, 13, 14, 15, 16, 17, 18, 19] [.fix 0, .fix 1, .fix 2, .fix 3, .fix 4, .fix 5, .fix 6, .slot 19] [.fix 0, .fix 1, .fix 2, .fix 3, .fix 4, .fix 5, .fix 6, .slot 19] lcHg (fun g => (g.i + 1).toNat) lcI lcO ?_ g hg
  clear hg g
  rintro ⟨sh, own, n, xs, n1, r1, n2, r2, n3, r3, n4, r4, n5, r5, n6, r6, sd, k, l13, l15, l17, j, ms, i⟩ hg
  unfold lcI at hg
  simp only at hg
  obtain ⟨h1, h2, h3, h4, h5, h6, h7, h8, h9⟩ := hg
  by_cases hi : 0 ≤ i
  · have hd : decide (i ≥ 0) = true := by simpa using hi
    have hb : boundsI i n = true := by simp [boundsI, hi, h5]
    have hw : W (i - 1) = i - 1 := W_in (by omega)
    have hdx := drop_at (xs := xs) hi (by omega)
    have hj : j ≤ n := by rw [← h7, h6]; simp; omega
    have hrm : (Nat.beq j j && room12 (j + 1)) = true := by rw [Nat.beq_refl, room12_ok (by omega)]; rfl
    left
    refine ⟨⟨.b, own, n, xs, n1, r1, n2, r2, n3, r3, n4, r4, n5, r5, n6, r6, sd, k, l13, l15, l17, j + 1, ms ++ [atO xs i], i - 1⟩, lcH .b own n xs n1 r1 n2 r2 n3 r3 n4 r4 n5 r5 n6 r6 sd k l13 l15 l17 (match sh with
      | .b => j + 1
      | _ => 1) (match sh with
      | .b => catR j (opRow ms) (chop 12 0 (atO xs i).cells)
      | _ => chop 12 0 (atO xs i).cells) (i - 1), ?_, ?_, ?_, by simp only; omega, rfl⟩
    · unfold lcHg
      cases sh with
      | e => simp only [lcRe, hd, hb, hw]
      | a => exact absurd rfl h9
      | b => simp only [lcRb, hd, hb, hw, hrm, gd_true]
    · cases sh with
      | e => have : ms = [] := h8; subst this; have : j = 0 := h7.symm; subst this; exact ⟨rfl, .refl _, .refl _, .refl _, .refl _, .refl _, .refl _, .refl _, like_chop _, trivial⟩
      | a => exact absurd rfl h9
      | b => exact ⟨rfl, .refl _, .refl _, .refl _, .refl _, .refl _, .refl _, .refl _, like_nr h7 _, trivial⟩
    · unfold lcI
      simp only
      refine ⟨h1, h2, h3, by omega, by omega, ?_, by simp [h7], by simp [shOk], by simp⟩
      rw [show (i - 1 + 1).toNat = i.toNat by congr 1; omega, hdx, List.reverse_cons, h6]
  · have hd : decide (i ≥ 0) = false := by simpa using hi
    have hi' : i = -1 := by omega
    subst hi'
    have hm : ms = xs.reverse := by rw [h6]; simp
    have hj : j = n := by rw [← h7, hm]; simp [h1]
    right
    refine ⟨lcE .b own n xs n1 r1 n2 r2 n3 r3 n4 r4 n5 r5 n6 r6 sd k l13 l15 l17 j (opRow ms), ?_, ?_, by unfold lcO; simp⟩
    · unfold lcO lcHg
      cases sh with
      | e => exfalso; have : ms = [] := h8; rw [this] at hm; simp at hm; rw [hm] at h1; simp at h1; omega
      | a => exact absurd rfl h9
      | b => simp only [lcRb, hd]
    · unfold lcO
      rw [hm, hj]
      exact StLike.refl _
structure LcB where
  (own : Bool) (n0 : Nat) (r0 : Nat → List Value) (n1 : Nat) (r1 : Nat → List Value) (n2 : Nat) (r2 : Nat → List Value) (n3 : Nat) (r3 : Nat → List Value) (n4 : Nat) (r4 : Nat → List Value) (n5 : Nat) (r5 : Nat → List Value) (n6 : Nat) (r6 : Nat → List Value)
def lcD : Mem → Option LcB
  | [.rows own true 12 n0 r0, .rows true true 12 n1 r1, .rows true true 12 n2 r2, .rows true true 9 n3 r3, .rows true true 3 n4 r4, .rows true true 12 n5 r5, .rows true true 12 n6 r6] => some ⟨own, n0, r0, n1, r1, n2, r2, n3, r3, n4, r4, n5, r5, n6, r6⟩
  | _ => none
theorem lcD_spec {m : Mem} {b : LcB} (h : lcD m = some b) : m = [.rows b.own true 12 b.n0 b.r0, .rows true true 12 b.n1 b.r1, .rows true true 12 b.n2 b.r2, .rows true true 9 b.n3 b.r3, .rows true true 3 b.n4 b.r4, .rows true true 12 b.n5 b.r5, .rows true true 12 b.n6 b.r6] := by
  unfold lcD at h
  split at h
  · simp only [Option.some.injEq] at h
    subst h
    rfl
  · cases h
def lcS (st : St) : Option (Ans (Exit × St)) :=
  match Nat.beq st.tmps.length 188, tAt st 0, tAt st 1, tAt st 4, tAt st 5, tAt st 13, tAt st 14, tAt st 15, tAt st 16, tAt st 17, tAt st 18, tAt st 19, tAt st 20, lcD (thaw (killV st.mem)) with
  | true, some (.slice (some ⟨0, 0, some 0⟩) n 12), some (.int .i64 sd), some (.bool false), some (.slice (some ⟨2, 0, some 0⟩) k 12), some (.slice (some ⟨3, 0, some 0⟩) l13 9), some (.int .i64 0), some (.slice (some ⟨4, 0, some 0⟩) l15 3), some (.int .i64 0), some (.slice (some ⟨6, 0, some 0⟩) l17 12), some (.int .i64 0), some (.slice none 0 0), some (.int .i64 i), some b => some (.br (Nat.beq n b.n0 && (okOps n b.r0 && (decide (i = (n : Int) - 1) && (decide (1 ≤ n) && decide (n ≤ 1048576))))) (.out (.exit 4, lcE .b b.own n (opsOf n b.r0) b.n1 b.r1 b.n2 b.r2 b.n3 b.r3 b.n4 b.r4 b.n5 b.r5 b.n6 b.r6 sd k l13 l15 l17 n (opRow (opsOf n b.r0).reverse))) .fail)
  | _, _, _, _, _, _, _, _, _, _, _, _, _, _ => none
theorem lcK {st : St} {ans : Ans (Exit × St)} {e_ : Exit} {s_ : St} (h : lcS st = some ans) (hr : ans.res = some (e_, s_)) : LoopSem Try.prog 1 (lcX Try.prog) st e_ s_ := by
  unfold lcS at h
  split at h
  rotate_left
  · cases h
  rename_i n sd k l13 l15 l17 i b hb hs0 hs1 hs4 hs5 hs13 hs14 hs15 hs16 hs17 hs18 hs19 hs20 hD
  simp only [Option.some.injEq] at h
  subst h
  rcases Ans.br_some hr with ⟨hc, hr1⟩ | ⟨_, hr1⟩
  rotate_left
  · simp [Ans.res] at hr1
  clear hr
  simp only [Bool.and_eq_true, decide_eq_true_eq] at hc
  obtain ⟨c1, c2, c3, c4, c5⟩ := hc
  have c1 := beq_len c1
  have hmem := lcD_spec hD
  rw [← c1] at hmem
  have hI : lcI ⟨.e, b.own, n, opsOf n b.r0, b.n1, b.r1, b.n2, b.r2, b.n3, b.r3, b.n4, b.r4, b.n5, b.r5, b.n6, b.r6, sd, k, l13, l15, l17, 0, [], i⟩ := by
    unfold lcI
    simp only
    refine ⟨opsOf_length n b.r0, c4, c5, by omega, by omega, ?_, rfl, rfl, by simp⟩
    rw [List.drop_eq_nil_of_le (by rw [opsOf_length]; omega)]
    rfl
  have key := lcL _ hI
  have hlike : LikeL (thaw (killV st.mem)) (lcM .e b.own n (opsOf n b.r0) b.n1 b.r1 b.n2 b.r2 b.n3 b.r3 b.n4 b.r4 b.n5 b.r5 b.n6 b.r6 0 (opRow [])) := by
    rw [hmem]
    exact ⟨.rows (ops_like c2), .refl _, .refl _, .refl _, .refl _, .refl _, .refl _, trivial⟩
  have key := LoopSem.like (m := thaw (killV st.mem)) key hlike
  have key := LoopSem.fresh key
  have hk : keepL [0, 1, 4, 5, 13, 14, 15, 16, 17, 18, 19, 20] 0 st.tmps = (lcH .e b.own n (opsOf n b.r0) b.n1 b.r1 b.n2 b.r2 b.n3 b.r3 b.n4 b.r4 b.n5 b.r5 b.n6 b.r6 sd k l13 l15 l17 0 (opRow []) i).tmps := by
    have := keep_eq [(0, .slice (some ⟨0, 0, some 0⟩) n 12), (1, .int .i64 sd), (4, .bool false), (5, .slice (some ⟨2, 0, some 0⟩) k 12), (13, .slice (some ⟨3, 0, some 0⟩) l13 9), (14, .int .i64 0), (15, .slice (some ⟨4, 0, some 0⟩) l15 3), (16, .int .i64 0), (17, .slice (some ⟨6, 0, some 0⟩) l17 12), (18, .int .i64 0), (19, .slice none 0 0), (20, .int .i64 i)] st.tmps 0 (by
      intro x hx _
      simp only [List.mem_cons, List.not_mem_nil, or_false] at hx
      rcases hx with rfl | rfl | rfl | rfl | rfl | rfl | rfl | rfl | rfl | rfl | rfl | rfl
      · exact hs0
      · exact hs1
      · exact hs4
      · exact hs5
      · exact hs13
      · exact hs14
      · exact hs15
      · exact hs16
      · exact hs17
      · exact hs18
      · exact hs19
      · exact hs20)
    rw [show (keepL [0, 1, 4, 5, 13, 14, 15, 16, 17, 18, 19, 20] 0 st.tmps) = _ from this, beq_len hb]
    rfl
  simp only [Ans.res, Option.some.injEq, Prod.mk.injEq] at hr1
  obtain ⟨rfl, rfl⟩ := hr1
  refine LoopSem.clean (mask := [0, 1, 4, 5, 13, 14, 15, 16, 17, 18, 19, 20]) ?_
  rw [hk]
  exact key
def Cqc (P : Program) : Cx := (Cqb P).addLB 3 26 1 lcS
theorem okqc : CxOk (Cqc Try.prog) := Cx.addLB_ok okqb lcX_eq fun _ _ _ _ h hr => lcK h hr
end Go.Proofs.Ytmpkkmhielkggaa
