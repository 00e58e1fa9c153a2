/-
  facetref05.Close: its loops. Nothing here is trusted.
-/
import Derived.Test.YtneaibkfglfpaaaKah

namespace Go.Proofs.Ytneaibkfglfpaaa
open Go Vx
/-- As rIn; where it ends, what was found. -/
def rInB (f : O3) : List O3 → List O3 → List O3 → Bool × List O3 × List O3
  | [], fs, ss => (true, fs, ss)
  | o :: l, fs, ss => match decide (placeI fs (f.mul5 o) ≥ 0) with
    | true => rInB f l fs ss
    | false => match !(f.mul5 o).r.ok with
      | true => (false, fs, ss)
      | false => match ((fs.length : Int) == 192) with
        | true => (false, fs, ss)
        | false => rInB f l (fs ++ [f.mul5 o]) (insO (f.mul5 o) ss)
theorem rInB_eq (f : O3) : ∀ (l fs ss : List O3), rIn f l fs ss = match (rInB f l fs ss).1 with
    | true => some (rInB f l fs ss).2
    | false => none
  | [], fs, ss => rfl
  | o :: l, fs, ss => by
    simp only [rIn, rInB]
    cases decide (placeI fs (f.mul5 o) ≥ 0) with
    | true => exact rInB_eq f l fs ss
    | false =>
      simp only
      cases !(f.mul5 o).r.ok with
      | true => rfl
      | false =>
        simp only
        cases ((fs.length : Int) == 192) with
        | true => rfl
        | false => exact rInB_eq f l _ _
def rOutB (ls : List O3) : Nat → Int → List O3 → List O3 → Bool × List O3 × List O3
  | 0, _, fs, ss => (true, fs, ss)
  | N + 1, i, fs, ss => match decide (i < (fs.length : Int)) with
    | true => match (rInB (atO fs i) ls fs ss).1 with
      | true => rOutB ls N (i + 1) (rInB (atO fs i) ls fs ss).2.1 (rInB (atO fs i) ls fs ss).2.2
      | false => (false, (rInB (atO fs i) ls fs ss).2)
    | false => (true, fs, ss)
theorem rOutB_eq (ls : List O3) : ∀ (N : Nat) (i : Int) (fs ss : List O3), rOut ls N i fs ss = match (rOutB ls N i fs ss).1 with
    | true => some (rOutB ls N i fs ss).2
    | false => none
  | 0, i, fs, ss => rfl
  | N + 1, i, fs, ss => by
    simp only [rOut, rOutB]
    cases decide (i < (fs.length : Int)) with
    | true =>
      simp only
      rw [rInB_eq]
      cases (rInB (atO fs i) ls fs ss).1 with
      | true => exact rOutB_eq ls N _ _ _
      | false => rfl
    | false => rfl
theorem rInB_len (f : O3) : ∀ (l fs ss : List O3), fs.length = ss.length → fs.length ≤ 192 → (rInB f l fs ss).2.1.length = (rInB f l fs ss).2.2.length ∧ fs.length ≤ (rInB f l fs ss).2.1.length ∧ (rInB f l fs ss).2.1.length ≤ 192
  | [], fs, ss, h, h2 => ⟨h, Nat.le_refl _, h2⟩
  | o :: l, fs, ss, h, h2 => by
    simp only [rInB]
    cases decide (placeI fs (f.mul5 o) ≥ 0) with
    | true => exact rInB_len f l fs ss h h2
    | false =>
      simp only
      cases !(f.mul5 o).r.ok with
      | true => exact ⟨h, Nat.le_refl _, h2⟩
      | false =>
        simp only
        cases hne : ((fs.length : Int) == 192) with
        | true => exact ⟨h, Nat.le_refl _, h2⟩
        | false =>
          have hne' : ¬ (fs.length : Int) = 192 := by simpa using hne
          obtain ⟨h3, h4, h5⟩ := rInB_len f l (fs ++ [f.mul5 o]) (insO (f.mul5 o) ss) (by rw [insO_len]; simp [h]) (by simp; omega)
          refine ⟨h3, ?_, h5⟩
          simp only
          simp at h4; omega
theorem atO_app {fs : List O3} {i : Int} (h0 : 0 ≤ i) (h : i < (fs.length : Int)) (ex : List O3) : atO (fs ++ ex) i = atO fs i := by
  unfold atO
  rw [List.getElem?_append_left (by omega)]
def riX (P : Program) : Code := (loopsOf P 56 7).headD .skip
theorem riX_eq : loopsOf Try.prog 56 7 = [riX Try.prog] := by kernel_rfl
def riM (own : Bool) (N : Nat) (ls : List O3) (n : Nat) (row ss : Nat → List Value) : Mem := [.rows own true 12 N (opRow ls), .rows true true 12 n row, .rows true true 12 n ss]
def roH (N : Nat) (n : Nat) (at_ : Int) (m : Mem) : St := stOf 54 [(0, .slice (some ⟨0, 0, some 0⟩) N 12), (2, .slice none 0 0), (3, .bool false), (4, .slice (some ⟨1, 0, some 0⟩) n 12), (5, .slice (some ⟨2, 0, some 0⟩) n 12), (6, vI at_)] m
def riH (N : Nat) (n : Nat) (at_ i : Int) (m : Mem) : St := stOf 54 [(0, .slice (some ⟨0, 0, some 0⟩) N 12), (2, .slice none 0 0), (3, .bool false), (4, .slice (some ⟨1, 0, some 0⟩) n 12), (5, .slice (some ⟨2, 0, some 0⟩) n 12), (6, vI at_), (20, .slice (some ⟨0, 0, some 0⟩) N 12), (21, vI N), (22, vI i)] m
theorem riR (own : Bool) (N : Nat) (ls : List O3) (n : Nat) (fs ss : List O3) (at_ i : Int) : roundR ((Cpu Try.prog).into 56 1) 40 (riX Try.prog) [0, 2, 3, 4, 5, 6, 20, 21, 22] [0, 2, 3, 4, 5, 6] [.fix 0, .slot 4, .slot 5] [.fix 0, .slot 4, .slot 5] (riH N n at_ i (riM own N ls n (opRow fs) (opRow ss))) =
    (match decide (i < (N : Int)) with
    | true => match boundsI i N with
      | true => match boundsI at_ n with
        | true => match (Nat.beq n n && (okOps n (opRow fs) && decide (n ≤ 4611686018427387904))) with
          | true => match decide (placeI (opsOf n (opRow fs)) ((atO fs at_).mul5 (atO ls i)) ≥ 0) with
            | true => some (.normal, riH N n at_ (W (i + 1)) (riM own N ls n (opRow (opsOf n (opRow fs))) (opRow ss)))
            | false => match !((atO fs at_).mul5 (atO ls i)).r.ok with
              | true => some (.ret, roH N n at_ (riM own N ls n (opRow (opsOf n (opRow fs))) (opRow ss)))
              | false => match ((n : Int) == 192) with
                | true => some (.ret, roH N n at_ (riM own N ls n (opRow (opsOf n (opRow fs))) (opRow ss)))
                | false => match Nat.beq n n && roomB (n + 1) with
                  | true => match (Nat.beq n n && (okOps n (opRow ss) && decide (n ≤ 1100000))) with
                    | true => some (.normal, riH N (n + 1) at_ (W (i + 1)) (riM own N ls (n + 1) (catR n (opRow (opsOf n (opRow fs))) (chop 12 0 ((atO fs at_).mul5 (atO ls i)).cells)) (opRow (insO ((atO fs at_).mul5 (atO ls i)) (opsOf n (opRow ss))))))
                    | false => none
                  | false => none
          | false => none
        | false => none
      | false => none
    | false => some (.exit 2, roH N n at_ (riM own N ls n (opRow fs) (opRow ss)))) := by kernel_rfl
structure riG where
  (own : Bool) (N : Nat) (ls : List O3) (n : Nat) (fs ss : List O3) (at_ i : Int) (f : O3)
def riHg (g : riG) : St := riH g.N g.n g.at_ g.i (riM g.own g.N g.ls g.n (opRow g.fs) (opRow g.ss))
def riInv (g : riG) : Prop := g.ls.length = g.N ∧ g.N ≤ 1100000 ∧ g.fs.length = g.n ∧ g.ss.length = g.n ∧ g.n ≤ 192 ∧ 0 ≤ g.at_ ∧ g.at_ < (g.n : Int) ∧ 0 ≤ g.i ∧ g.i ≤ (g.N : Int) ∧ atO g.fs g.at_ = g.f
def riRes (g : riG) : Bool × List O3 × List O3 := rInB g.f (g.ls.drop g.i.toNat) g.fs g.ss
def riO (g : riG) : Exit × St := (match (riRes g).1 with
  | true => .exit 2
  | false => .ret, roH g.N (riRes g).2.1.length g.at_ (riM g.own g.N g.ls (riRes g).2.1.length (opRow (riRes g).2.1) (opRow (riRes g).2.2)))
theorem riL (g : riG) (hg : riInv g) : LoopSem Try.prog 1 (riX Try.prog) (riHg g) (riO g).1 (riO g).2 := by
  refine loop_rule2 (C := Cpu Try.prog) okpu (f := 56) (B := 1) (loopsOf_in (k := 7) riX_eq) 40 [0, 2, 3, 4, 5, 6, 20, 21, 22] [0, 2, 3, 4, 5, 6] [.fix 0, .slot 4, .slot 5] [.fix 0, .slot 4, .slot 5] riHg (fun g => (g.N - g.i).toNat) riInv riO ?_ g hg
  clear hg g
  rintro ⟨own, N, ls, n, fs, ss, at_, i, f⟩ hg
  unfold riInv at hg
  simp only at hg
  obtain ⟨h1, h2, h3, h4, h5, h6, h7, h8, h9, h10⟩ := hg
  have hR := riR own N ls n fs ss at_ i
  rw [h10] at hR
  have t1 : (Nat.beq n n && (okOps n (opRow fs) && decide (n ≤ 4611686018427387904))) = true := by rw [Nat.beq_refl, okOps_opRow]; simp; omega
  have t2 : (Nat.beq n n && (okOps n (opRow ss) && decide (n ≤ 1100000))) = true := by rw [Nat.beq_refl, okOps_opRow]; simp; omega
  have t3 : (Nat.beq n n && roomB (n + 1)) = true := by rw [Nat.beq_refl, roomB_ok (by omega)]; rfl
  rw [t1, t2, t3, opsOf_row h3, opsOf_row h4] at hR
  by_cases hi : i < (N : Int)
  · have hd : decide (i < (N : Int)) = true := by simpa using hi
    have hb : boundsI i N = true := by simp [boundsI, h8, hi]
    have hb2 : boundsI at_ n = true := by simp [boundsI, h6, h7]
    have hw : W (i + 1) = i + 1 := W_in (by omega)
    have hdr := drop_at (xs := ls) h8 (by omega)
    rw [hd, hb, hb2, hw] at hR
    simp only at hR
    cases hp : decide (placeI fs (f.mul5 (atO ls i)) ≥ 0) with
    | true =>
      left
      rw [hp] at hR
      refine ⟨⟨own, N, ls, n, fs, ss, at_, i + 1, f⟩, _, hR, StLike.refl _, ?_, by simp only; omega, ?_⟩
      · unfold riInv
        exact ⟨h1, h2, h3, h4, h5, h6, h7, by simp only; omega, by simp only; omega, h10⟩
      · unfold riO riRes
        simp only [hdr, rInB, hp]
    | false =>
      rw [hp] at hR
      simp only at hR
      cases hk : !(f.mul5 (atO ls i)).r.ok with
      | true =>
        right
        rw [hk] at hR
        have hres : riRes ⟨own, N, ls, n, fs, ss, at_, i, f⟩ = (false, fs, ss) := by unfold riRes; simp only [hdr, rInB, hp, hk]
        refine ⟨_, by unfold riO; simp only [hres]; exact hR, ?_, by unfold riO; simp [hres]⟩
        unfold riO
        simp only [hres, h3]
        exact StLike.refl _
      | false =>
        rw [hk] at hR
        simp only at hR
        cases hn : ((n : Int) == 192) with
        | true =>
          right
          rw [hn] at hR
          have hres : riRes ⟨own, N, ls, n, fs, ss, at_, i, f⟩ = (false, fs, ss) := by unfold riRes; simp only [hdr, rInB, hp, hk, h3, hn]
          refine ⟨_, by unfold riO; simp only [hres]; exact hR, ?_, by unfold riO; simp [hres]⟩
          unfold riO
          simp only [hres, h3]
          exact StLike.refl _
        | false =>
          left
          rw [hn] at hR
          have hn' : ¬ (n : Int) = 192 := by simpa using hn
          refine ⟨⟨own, N, ls, n + 1, fs ++ [f.mul5 (atO ls i)], insO (f.mul5 (atO ls i)) ss, at_, i + 1, f⟩, _, hR, ?_, ?_, by simp only; omega, ?_⟩
          · exact ⟨rfl, .refl _, like_nr h3 _, .refl _, trivial⟩
          · unfold riInv
            simp only
            exact ⟨h1, h2, by simp [h3], by rw [insO_len, h4], by omega, h6, by omega, by omega, by omega, by rw [atO_app h6 (by omega)]; exact h10⟩
          · unfold riO riRes
            simp only [hdr, rInB, hp, hk, h3, hn]
  · have hd : decide (i < (N : Int)) = false := by simpa using hi
    rw [hd] at hR
    right
    have hn : ls.drop i.toNat = [] := List.drop_eq_nil_of_le (by omega)
    have hres : riRes ⟨own, N, ls, n, fs, ss, at_, i, f⟩ = (true, fs, ss) := by unfold riRes; simp only [hn, rInB]
    refine ⟨_, by unfold riO; simp only [hres]; exact hR, ?_, by unfold riO; simp [hres]⟩
    unfold riO
    simp only [hres, h3]
    exact StLike.refl _
def riD : Mem → Option (Bool × Nat × (Nat → List Value) × Nat × (Nat → List Value) × Nat × (Nat → List Value))
  | [.rows own true 12 N2 row, .rows true true 12 n2 row2, .rows true true 12 n3 row3] => some (own, N2, row, n2, row2, n3, row3)
  | _ => none
theorem riD_spec {m : Mem} {own : Bool} {N2 n2 n3 : Nat} {row row2 row3 : Nat → List Value} (h : riD m = some (own, N2, row, n2, row2, n3, row3)) : m = [.rows own true 12 N2 row, .rows true true 12 n2 row2, .rows true true 12 n3 row3] := by
  unfold riD at h
  split at h
  · simp only [Option.some.injEq, Prod.mk.injEq] at h
    obtain ⟨rfl, rfl, rfl, rfl, rfl, rfl, rfl⟩ := h
    rfl
  · cases h
def riT (N N1 N2 n n1 n2 n3 : Nat) (row row2 row3 : Nat → List Value) (at_ L i : Int) : Bool := Nat.beq N N1 && (Nat.beq N N2 && (okOps N row && (Nat.beq n n1 && (Nat.beq n n2 && (okOps n row2 && (Nat.beq n n3 && (okOps n row3 && (decide (L = (N : Int)) && (decide (0 = i) && (decide (n ≤ 192) && (decide (N ≤ 1100000) && (decide (0 ≤ at_) && decide (at_ < (n : Int))))))))))))))
def riS (st : St) : Option (Ans (Exit × St)) :=
  match Nat.beq st.tmps.length 54, tAt st 0, tAt st 2, tAt st 3, tAt st 4, tAt st 5, tAt st 6, tAt st 20, tAt st 21, tAt st 22, riD (thaw (killV st.mem)) with
  | true, some (.slice (some ⟨0, 0, some 0⟩) N 12), some (.slice none 0 0), some (.bool false), some (.slice (some ⟨1, 0, some 0⟩) n 12), some (.slice (some ⟨2, 0, some 0⟩) n1 12), some (.int .i64 at_), some (.slice (some ⟨0, 0, some 0⟩) N1 12), some (.int .i64 L), some (.int .i64 i), some (own, N2, row, n2, row2, n3, row3) =>
    some (.br (riT N N1 N2 n n1 n2 n3 row row2 row3 at_ L i) (.br (rInB (atO (opsOf n row2) at_) (opsOf N row) (opsOf n row2) (opsOf n row3)).1
      (.out (.exit 2, roH N (rInB (atO (opsOf n row2) at_) (opsOf N row) (opsOf n row2) (opsOf n row3)).2.1.length at_ (riM own N (opsOf N row) (rInB (atO (opsOf n row2) at_) (opsOf N row) (opsOf n row2) (opsOf n row3)).2.1.length (opRow (rInB (atO (opsOf n row2) at_) (opsOf N row) (opsOf n row2) (opsOf n row3)).2.1) (opRow (rInB (atO (opsOf n row2) at_) (opsOf N row) (opsOf n row2) (opsOf n row3)).2.2))))
      (.out (.ret, roH N (rInB (atO (opsOf n row2) at_) (opsOf N row) (opsOf n row2) (opsOf n row3)).2.1.length at_ (riM own N (opsOf N row) (rInB (atO (opsOf n row2) at_) (opsOf N row) (opsOf n row2) (opsOf n row3)).2.1.length (opRow (rInB (atO (opsOf n row2) at_) (opsOf N row) (opsOf n row2) (opsOf n row3)).2.1) (opRow (rInB (atO (opsOf n row2) at_) (opsOf N row) (opsOf n row2) (opsOf n row3)).2.2))))) .fail)
  | _, _, _, _, _, _, _, _, _, _, _ => none
theorem riK {st : St} {ans : Ans (Exit × St)} {e_ : Exit} {s_ : St} (h : riS st = some ans) (hr : ans.res = some (e_, s_)) : LoopSem Try.prog 1 (riX Try.prog) st e_ s_ := by
  unfold riS at h
  split at h
  rotate_left
  · cases h
  rename_i N n n1 at_ N1 L i own N2 row n2 row2 n3 row3 hb hs0 hs2 hs3 hs4 hs5 hs6 hs20 hs21 hs22 hD
  simp only [Option.some.injEq] at h
  subst h
  rcases Ans.br_some hr with ⟨hc, hr1⟩ | ⟨_, hr1⟩
  rotate_left
  · simp [Ans.res] at hr1
  clear hr
  unfold riT at hc
  simp only [Bool.and_eq_true, decide_eq_true_eq] at hc
  obtain ⟨c0, c1, c2, c3, c4, c5, c6, c7, c8, c9, c10, c11, c12, c13⟩ := hc
  have c0 := beq_len c0
  have c1 := beq_len c1
  have c3 := beq_len c3
  have c4 := beq_len c4
  have c6 := beq_len c6
  subst c0 c1 c3 c4 c6 c8 c9
  have hmem := riD_spec hD
  have hI : riInv ⟨own, N, opsOf N row, n, opsOf n row2, opsOf n row3, at_, 0, atO (opsOf n row2) at_⟩ := by
    unfold riInv
    simp only
    exact ⟨opsOf_length N row, c11, opsOf_length n row2, opsOf_length n row3, c10, c12, c13, by omega, by omega, trivial⟩
  have key := riL _ hI
  have hlike : LikeL (thaw (killV st.mem)) (riHg ⟨own, N, opsOf N row, n, opsOf n row2, opsOf n row3, at_, 0, atO (opsOf n row2) at_⟩).mem := by
    rw [hmem]
    exact ⟨.rows (ops_like c2), .rows (ops_like c5), .rows (ops_like c7), trivial⟩
  have key := LoopSem.like (tm := (riHg ⟨own, N, opsOf N row, n, opsOf n row2, opsOf n row3, at_, 0, atO (opsOf n row2) at_⟩).tmps) (m := thaw (killV st.mem)) key hlike
  have key := LoopSem.fresh key
  have hk : keepL [0, 2, 3, 4, 5, 6, 20, 21, 22] 0 st.tmps = (riHg ⟨own, N, opsOf N row, n, opsOf n row2, opsOf n row3, at_, 0, atO (opsOf n row2) at_⟩).tmps := by
    have := keep_eq [(0, .slice (some ⟨0, 0, some 0⟩) N 12), (2, .slice none 0 0), (3, .bool false), (4, .slice (some ⟨1, 0, some 0⟩) n 12), (5, .slice (some ⟨2, 0, some 0⟩) n 12), (6, vI at_), (20, .slice (some ⟨0, 0, some 0⟩) N 12), (21, vI N), (22, vI 0)] st.tmps 0 (by
      intro x hx _
      simp only [List.mem_cons, List.not_mem_nil, or_false] at hx
      rcases hx with rfl | rfl | rfl | rfl | rfl | rfl | rfl | rfl | rfl
      · exact hs0
      · exact hs2
      · exact hs3
      · exact hs4
      · exact hs5
      · exact hs6
      · exact hs20
      · exact hs21
      · exact hs22)
    rw [show (keepL [0, 2, 3, 4, 5, 6, 20, 21, 22] 0 st.tmps) = _ from this, beq_len hb]
    rfl
  rw [← hk] at key
  have key : LoopSem Try.prog 1 (riX Try.prog) st _ _ := LoopSem.clean (mask := [0, 2, 3, 4, 5, 6, 20, 21, 22]) key
  unfold riO riRes at key
  simp only [Int.toNat_zero, List.drop_zero] at key
  rcases Ans.br_some hr1 with ⟨hq, hr2⟩ | ⟨hq, hr2⟩
  · rw [hq] at key
    simp only [Ans.res, Option.some.injEq, Prod.mk.injEq] at hr2
    obtain ⟨rfl, rfl⟩ := hr2
    exact key
  · rw [hq] at key
    simp only [Ans.res, Option.some.injEq, Prod.mk.injEq] at hr2
    obtain ⟨rfl, rfl⟩ := hr2
    exact key
def Cri (P : Program) : Cx := (Cpu P).addLB 56 7 1 riS
theorem okri : CxOk (Cri Try.prog) := Cx.addLB_ok okpu riX_eq fun _ _ _ _ h hr => riK h hr
end Go.Proofs.Ytneaibkfglfpaaa


namespace Go.Proofs.Ytneaibkfglfpaaa
open Go Vx
def roX (P : Program) : Code := (loopsOf P 56 4).headD .skip
theorem roX_eq : loopsOf Try.prog 56 4 = [roX Try.prog] := by kernel_rfl
theorem roR (own : Bool) (N : Nat) (ls : List O3) (n : Nat) (fs ss : List O3) (at_ : Int) : roundR ((Cri Try.prog).into 56 1) 40 (roX Try.prog) [0, 2, 3, 4, 5, 6] [0, 2, 3, 4, 5, 6] [.fix 0, .slot 4, .slot 5] [.fix 0, .slot 4, .slot 5] (roH N n at_ (riM own N ls n (opRow fs) (opRow ss))) =
    (match decide (at_ < (n : Int)) with
    | true => match riT N N N n n n n (opRow ls) (opRow fs) (opRow ss) at_ N 0 with
      | true => match (rInB (atO (opsOf n (opRow fs)) at_) (opsOf N (opRow ls)) (opsOf n (opRow fs)) (opsOf n (opRow ss))).1 with
        | true => some (.normal, roH N (rInB (atO (opsOf n (opRow fs)) at_) (opsOf N (opRow ls)) (opsOf n (opRow fs)) (opsOf n (opRow ss))).2.1.length (W (at_ + 1)) (riM own N (opsOf N (opRow ls)) (rInB (atO (opsOf n (opRow fs)) at_) (opsOf N (opRow ls)) (opsOf n (opRow fs)) (opsOf n (opRow ss))).2.1.length (opRow (rInB (atO (opsOf n (opRow fs)) at_) (opsOf N (opRow ls)) (opsOf n (opRow fs)) (opsOf n (opRow ss))).2.1) (opRow (rInB (atO (opsOf n (opRow fs)) at_) (opsOf N (opRow ls)) (opsOf n (opRow fs)) (opsOf n (opRow ss))).2.2)))
        | false => some (.ret, roH N (rInB (atO (opsOf n (opRow fs)) at_) (opsOf N (opRow ls)) (opsOf n (opRow fs)) (opsOf n (opRow ss))).2.1.length at_ (riM own N (opsOf N (opRow ls)) (rInB (atO (opsOf n (opRow fs)) at_) (opsOf N (opRow ls)) (opsOf n (opRow fs)) (opsOf n (opRow ss))).2.1.length (opRow (rInB (atO (opsOf n (opRow fs)) at_) (opsOf N (opRow ls)) (opsOf n (opRow fs)) (opsOf n (opRow ss))).2.1) (opRow (rInB (atO (opsOf n (opRow fs)) at_) (opsOf N (opRow ls)) (opsOf n (opRow fs)) (opsOf n (opRow ss))).2.2)))
      | false => none
    | false => some (.exit 0, roH N n at_ (riM own N ls n (opRow fs) (opRow ss)))) := by kernel_rfl
structure roG where
  (own : Bool) (N : Nat) (ls : List O3) (n : Nat) (fs ss : List O3) (at_ : Int) (F : Nat)
def roHg (g : roG) : St := roH g.N g.n g.at_ (riM g.own g.N g.ls g.n (opRow g.fs) (opRow g.ss))
def roInv (g : roG) : Prop := g.ls.length = g.N ∧ g.N ≤ 1100000 ∧ g.fs.length = g.n ∧ g.ss.length = g.n ∧ g.n ≤ 192 ∧ 0 ≤ g.at_ ∧ (g.F : Int) + g.at_ = 193
def roRes (g : roG) : Bool × List O3 × List O3 := rOutB g.ls g.F g.at_ g.fs g.ss
/-- How far it came. -/
def rAt (ls : List O3) : Nat → Int → List O3 → List O3 → Int
  | 0, i, _, _ => i
  | N + 1, i, fs, ss => match decide (i < (fs.length : Int)) with
    | true => match (rInB (atO fs i) ls fs ss).1 with
      | true => rAt ls N (i + 1) (rInB (atO fs i) ls fs ss).2.1 (rInB (atO fs i) ls fs ss).2.2
      | false => i
    | false => i
def roO (g : roG) : Exit × St := (match (roRes g).1 with
  | true => .exit 0
  | false => .ret, roH g.N (roRes g).2.1.length (rAt g.ls g.F g.at_ g.fs g.ss) (riM g.own g.N g.ls (roRes g).2.1.length (opRow (roRes g).2.1) (opRow (roRes g).2.2)))
theorem roL (g : roG) (hg : roInv g) : LoopSem Try.prog 1 (roX Try.prog) (roHg g) (roO g).1 (roO g).2 := by
  refine loop_rule2 (C := Cri Try.prog) okri (f := 56) (B := 1) (loopsOf_in (k := 4) roX_eq) 40 [0, 2, 3, 4, 5, 6] [0, 2, 3, 4, 5, 6] [.fix 0, .slot 4, .slot 5] [.fix 0, .slot 4, .slot 5] roHg (fun g => g.F) roInv roO ?_ g hg
  clear hg g
  rintro ⟨own, N, ls, n, fs, ss, at_, F⟩ hg
  unfold roInv at hg
  simp only at hg
  obtain ⟨h1, h2, h3, h4, h5, h6, h7⟩ := hg
  have hR := roR own N ls n fs ss at_
  rw [opsOf_row h1, opsOf_row h3, opsOf_row h4] at hR
  by_cases hi : at_ < (n : Int)
  · have hd : decide (at_ < (n : Int)) = true := by simpa using hi
    have hd2 : decide (at_ < (fs.length : Int)) = true := by rw [h3]; exact hd
    have hw : W (at_ + 1) = at_ + 1 := W_in (by omega)
    have ht : riT N N N n n n n (opRow ls) (opRow fs) (opRow ss) at_ N 0 = true := by
      unfold riT
      rw [Nat.beq_refl, Nat.beq_refl, okOps_opRow, okOps_opRow, okOps_opRow]
      simp; omega
    rw [hd, ht, hw] at hR
    simp only at hR
    obtain ⟨l1, l2, l3⟩ := rInB_len (atO fs at_) ls fs ss (by omega) (by omega)
    cases F with
    | zero => omega
    | succ F =>
      cases hq : (rInB (atO fs at_) ls fs ss).1 with
      | true =>
        left
        rw [hq] at hR
        refine ⟨⟨own, N, ls, (rInB (atO fs at_) ls fs ss).2.1.length, (rInB (atO fs at_) ls fs ss).2.1, (rInB (atO fs at_) ls fs ss).2.2, at_ + 1, F⟩, _, hR, StLike.refl _, ?_, by simp only; omega, ?_⟩
        · unfold roInv
          simp only
          exact ⟨h1, h2, trivial, l1.symm, l3, by omega, by omega⟩
        · unfold roO roRes
          simp only [rOutB, rAt, hd2, hq]
      | false =>
        right
        rw [hq] at hR
        have hres : roRes ⟨own, N, ls, n, fs, ss, at_, F + 1⟩ = (false, (rInB (atO fs at_) ls fs ss).2) := by unfold roRes; simp only [rOutB, hd2, hq]
        have hat : rAt ls (F + 1) at_ fs ss = at_ := by simp only [rAt, hd2, hq]
        refine ⟨_, by unfold roO; simp only [hres]; exact hR, ?_, by unfold roO; simp [hres]⟩
        unfold roO
        simp only [hres, hat]
        exact StLike.refl _
  · have hd : decide (at_ < (n : Int)) = false := by simpa using hi
    have hd2 : decide (at_ < (fs.length : Int)) = false := by rw [h3]; exact hd
    rw [hd] at hR
    right
    have hres : roRes ⟨own, N, ls, n, fs, ss, at_, F⟩ = (true, fs, ss) := by
      unfold roRes
      cases F with
      | zero => rfl
      | succ F => simp only [rOutB, hd2]
    have hat : rAt ls F at_ fs ss = at_ := by
      cases F with
      | zero => rfl
      | succ F => simp only [rAt, hd2]
    refine ⟨_, by unfold roO; simp only [hres]; exact hR, ?_, by unfold roO; simp [hres]⟩
    unfold roO
    simp only [hres, hat, h3]
    exact StLike.refl _
def roT (N N2 n n1 n2 n3 : Nat) (row row2 row3 : Nat → List Value) (at_ : Int) : Bool := Nat.beq N N2 && (okOps N row && (Nat.beq n n1 && (Nat.beq n n2 && (okOps n row2 && (Nat.beq n n3 && (okOps n row3 && (decide (n ≤ 192) && (decide (N ≤ 1100000) && decide (0 = at_)))))))))
def roS (st : St) : Option (Ans (Exit × St)) :=
  match Nat.beq st.tmps.length 54, tAt st 0, tAt st 2, tAt st 3, tAt st 4, tAt st 5, tAt st 6, riD (thaw (killV st.mem)) with
  | true, some (.slice (some ⟨0, 0, some 0⟩) N 12), some (.slice none 0 0), some (.bool false), some (.slice (some ⟨1, 0, some 0⟩) n 12), some (.slice (some ⟨2, 0, some 0⟩) n1 12), some (.int .i64 at_), some (own, N2, row, n2, row2, n3, row3) =>
    some (.br (roT N N2 n n1 n2 n3 row row2 row3 at_) (.br (rOutB (opsOf N row) 193 0 (opsOf n row2) (opsOf n row3)).1
      (.out (.exit 0, roH N (rOutB (opsOf N row) 193 0 (opsOf n row2) (opsOf n row3)).2.1.length (rAt (opsOf N row) 193 0 (opsOf n row2) (opsOf n row3)) (riM own N (opsOf N row) (rOutB (opsOf N row) 193 0 (opsOf n row2) (opsOf n row3)).2.1.length (opRow (rOutB (opsOf N row) 193 0 (opsOf n row2) (opsOf n row3)).2.1) (opRow (rOutB (opsOf N row) 193 0 (opsOf n row2) (opsOf n row3)).2.2))))
      (.out (.ret, roH N (rOutB (opsOf N row) 193 0 (opsOf n row2) (opsOf n row3)).2.1.length (rAt (opsOf N row) 193 0 (opsOf n row2) (opsOf n row3)) (riM own N (opsOf N row) (rOutB (opsOf N row) 193 0 (opsOf n row2) (opsOf n row3)).2.1.length (opRow (rOutB (opsOf N row) 193 0 (opsOf n row2) (opsOf n row3)).2.1) (opRow (rOutB (opsOf N row) 193 0 (opsOf n row2) (opsOf n row3)).2.2))))) .fail)
  | _, _, _, _, _, _, _, _ => none
theorem roK {st : St} {ans : Ans (Exit × St)} {e_ : Exit} {s_ : St} (h : roS st = some ans) (hr : ans.res = some (e_, s_)) : LoopSem Try.prog 1 (roX Try.prog) st e_ s_ := by
  unfold roS at h
  split at h
  rotate_left
  · cases h
  rename_i N n n1 at_ own N2 row n2 row2 n3 row3 hb hs0 hs2 hs3 hs4 hs5 hs6 hD
  simp only [Option.some.injEq] at h
  subst h
  rcases Ans.br_some hr with ⟨hc, hr1⟩ | ⟨_, hr1⟩
  rotate_left
  · simp [Ans.res] at hr1
  clear hr
  unfold roT at hc
  simp only [Bool.and_eq_true, decide_eq_true_eq] at hc
  obtain ⟨c1, c2, c3, c4, c5, c6, c7, c8, c9, c10⟩ := hc
  have c1 := beq_len c1
  have c3 := beq_len c3
  have c4 := beq_len c4
  have c6 := beq_len c6
  subst c1 c3 c4 c6 c10
  have hmem := riD_spec hD
  have hI : roInv ⟨own, N, opsOf N row, n, opsOf n row2, opsOf n row3, 0, 193⟩ := by
    unfold roInv
    simp only
    exact ⟨opsOf_length N row, c9, opsOf_length n row2, opsOf_length n row3, c8, by omega, by omega⟩
  have key := roL _ hI
  have hlike : LikeL (thaw (killV st.mem)) (roHg ⟨own, N, opsOf N row, n, opsOf n row2, opsOf n row3, 0, 193⟩).mem := by
    rw [hmem]
    exact ⟨.rows (ops_like c2), .rows (ops_like c5), .rows (ops_like c7), trivial⟩
  have key := LoopSem.like (tm := (roHg ⟨own, N, opsOf N row, n, opsOf n row2, opsOf n row3, 0, 193⟩).tmps) (m := thaw (killV st.mem)) key hlike
  have key := LoopSem.fresh key
  have hk : keepL [0, 2, 3, 4, 5, 6] 0 st.tmps = (roHg ⟨own, N, opsOf N row, n, opsOf n row2, opsOf n row3, 0, 193⟩).tmps := by
    have := keep_eq [(0, .slice (some ⟨0, 0, some 0⟩) N 12), (2, .slice none 0 0), (3, .bool false), (4, .slice (some ⟨1, 0, some 0⟩) n 12), (5, .slice (some ⟨2, 0, some 0⟩) n 12), (6, vI 0)] st.tmps 0 (by
      intro x hx _
      simp only [List.mem_cons, List.not_mem_nil, or_false] at hx
      rcases hx with rfl | rfl | rfl | rfl | rfl | rfl
      · exact hs0
      · exact hs2
      · exact hs3
      · exact hs4
      · exact hs5
      · exact hs6)
    rw [show (keepL [0, 2, 3, 4, 5, 6] 0 st.tmps) = _ from this, beq_len hb]
    rfl
  rw [← hk] at key
  have key : LoopSem Try.prog 1 (roX Try.prog) st _ _ := LoopSem.clean (mask := [0, 2, 3, 4, 5, 6]) key
  unfold roO roRes at key
  simp only at key
  rcases Ans.br_some hr1 with ⟨hq, hr2⟩ | ⟨hq, hr2⟩
  · rw [hq] at key
    simp only [Ans.res, Option.some.injEq, Prod.mk.injEq] at hr2
    obtain ⟨rfl, rfl⟩ := hr2
    exact key
  · rw [hq] at key
    simp only [Ans.res, Option.some.injEq, Prod.mk.injEq] at hr2
    obtain ⟨rfl, rfl⟩ := hr2
    exact key
def Cro (P : Program) : Cx := (Cri P).addLB 56 4 1 roS
theorem okro : CxOk (Cro Try.prog) := Cx.addLB_ok okri roX_eq fun _ _ _ _ h hr => roK h hr
def one1 : Nat → List Value := chop 12 0 O3.one.cells
theorem rcE0 : exT ((Cro Try.prog).at 56) 60 Try.f56 [.slice none 0 0] [] [.slot 0] = some (.tuple #[.slice (some ⟨0, 0, some 0⟩) 1 12, .bool true], [.rows true true 12 1 one1]) := by kernel_rfl
theorem rcE1 (own : Bool) (N : Nat) (ls : List O3) : exT ((Cro Try.prog).at 56) 60 Try.f56 [.slice (some ⟨0, 0, some 0⟩) N 12] [.rows own true 12 N (opRow ls)] [.fix 0, .slot 0] =
    gd (roT N N 1 1 1 1 (opRow ls) one1 one1 0) (match (rOutB (opsOf N (opRow ls)) 193 0 (opsOf 1 one1) (opsOf 1 one1)).1 with
      | true => some (.tuple #[.slice (some ⟨1, 0, some 0⟩) (rOutB (opsOf N (opRow ls)) 193 0 (opsOf 1 one1) (opsOf 1 one1)).2.1.length 12, .bool true], [.rows own true 12 N (opRow (opsOf N (opRow ls))), .rows true true 12 (rOutB (opsOf N (opRow ls)) 193 0 (opsOf 1 one1) (opsOf 1 one1)).2.1.length (opRow (rOutB (opsOf N (opRow ls)) 193 0 (opsOf 1 one1) (opsOf 1 one1)).2.2)])
      | false => some (.tuple #[.slice none 0 0, .bool false], [.rows own true 12 N (opRow (opsOf N (opRow ls))), .no])) := by kernel_rfl
end Go.Proofs.Ytneaibkfglfpaaa


namespace Go.Proofs.Ytneaibkfglfpaaa
open Go Vx
theorem rcR_B (ls : List O3) : rcR ls = match (rOutB ls 193 0 [O3.one] [O3.one]).1 with
    | true => some (rOutB ls 193 0 [O3.one] [O3.one]).2
    | false => none := rOutB_eq ls 193 0 [O3.one] [O3.one]
def slB (n : Nat) : Value := .tuple #[.slice (some ⟨1, 0, some 0⟩) n 12, .bool true]
def nilB : Value := .tuple #[.slice none 0 0, .bool false]
def rcT (N N2 : Nat) (row : Nat → List Value) : Bool := Nat.beq N N2 && (okOps N row && (ckMaps (opsOf N row) == 0))
def rcF : List Value → Mem → Option (Ans (Value × Mem))
  | [.slice none 0 0], [] => some (.out (.tuple #[.slice (some ⟨0, 0, some 0⟩) 1 12, .bool true], [.rows true true 12 1 (opRow [O3.one])]))
  | [.slice (some ⟨0, 0, some 0⟩) N 12], [.rows own true 12 N2 row] => some (.br (rcT N N2 row) (.br (clsOk (opsOf N row)) (.out (slB (clsG (opsOf N row)).length, [.rows own true 12 N (opRow (opsOf N row)), .rows true true 12 (clsG (opsOf N row)).length (opRow (clsG (opsOf N row)))])) (.out (nilB, [.rows own true 12 N (opRow (opsOf N row)), .no]))) .fail)
  | _, _ => none
def Crc (P : Program) : Cx := (Cro P).addF 56 rcF
theorem okrc : CxOk (Crc Try.prog) := Cx.addF_ok okro fun args m ans v m' h hr => by
  unfold rcF at h
  split at h
  · simp only [Option.some.injEq] at h
    subst h
    simp only [Ans.res, Option.some.injEq, Prod.mk.injEq] at hr
    obtain ⟨rfl, rfl⟩ := hr
    exact (exT_ok okro Try.func56 (by kernel_rfl) rcE0).likes ⟨like_chop _, trivial⟩
  · rename_i N own N2 row
    simp only [Option.some.injEq] at h
    subst h
    rcases Ans.br_some hr with ⟨hc, hr1⟩ | ⟨_, hr1⟩
    rotate_left
    · simp [Ans.res] at hr1
    clear hr
    unfold rcT at hc
    simp only [Bool.and_eq_true, beq_iff_eq] at hc
    obtain ⟨c1, c2, c3⟩ := hc
    have c1 := beq_len c1
    subst c1
    have hl := opsOf_length N row
    have hE := rcE1 own N (opsOf N row)
    rw [opsOf_row hl, show opsOf 1 one1 = [O3.one] from rfl] at hE
    have sem : ∀ {v : Value} {m' : Mem}, exT ((Cro Try.prog).at 56) 60 Try.f56 [.slice (some ⟨0, 0, some 0⟩) N 12] [.rows own true 12 N (opRow (opsOf N row))] [.fix 0, .slot 0] = some (v, m') → MemSem Try.prog 56 [.slice (some ⟨0, 0, some 0⟩) N 12] [.rows own true 12 N row] v m' := fun hh => (exT_ok okro Try.func56 (by kernel_rfl) hh).like ⟨.rows (ops_like c2), trivial⟩
    generalize opsOf N row = ls at hl hE hr1 sem c3
    obtain ⟨k1, k2⟩ := ckMaps_zero c3
    obtain ⟨r1, r2⟩ := rc_cls c3
    rw [rcR_B] at r1 r2
    have ht : roT N N 1 1 1 1 (opRow ls) one1 one1 0 = true := by
      unfold roT
      rw [Nat.beq_refl, okOps_opRow, show okOps 1 one1 = true from rfl, show Nat.beq 1 1 = true from rfl]
      simp; omega
    rw [ht, gd_true] at hE
    rcases Ans.br_some hr1 with ⟨hq, hr2⟩ | ⟨hq, hr2⟩
    · rw [hq] at r1
      cases hb : (rOutB ls 193 0 [O3.one] [O3.one]).1 with
      | false => rw [hb] at r1; cases r1
      | true =>
        have e := r2 hq
        rw [hb] at e hE
        simp only [Option.getD_some] at e
        simp only at hE
        simp only [Ans.res, Option.some.injEq, Prod.mk.injEq] at hr2
        obtain ⟨rfl, rfl⟩ := hr2
        refine sem ?_
        rw [hE]
        have hl2 : (rOutB ls 193 0 [O3.one] [O3.one]).2.1.length = (clsG ls).length := by
          rcases rcR_spec k2 with ⟨r, q1, _, q3⟩ | ⟨q1, _⟩
          · rw [rcR_B, hb] at q1
            simp only [Option.some.injEq] at q1
            rw [← e, q1, q3, sortO_len]
          · rw [rcR_B, hb] at q1; cases q1
        rw [hl2, e]
        rfl
    · rw [hq] at r1
      cases hb : (rOutB ls 193 0 [O3.one] [O3.one]).1 with
      | true => rw [hb] at r1; cases r1
      | false =>
        rw [hb] at hE
        simp only at hE
        simp only [Ans.res, Option.some.injEq, Prod.mk.injEq] at hr2
        obtain ⟨rfl, rfl⟩ := hr2
        exact sem hE
  · cases h
theorem dcE0 : exT ((Crc Try.prog).at 26) 60 Try.f26 [.slice none 0 0] [] [.slot 0] = some (.tuple #[.slice (some ⟨0, 0, some 0⟩) 1 12, vI 0], [.rows true true 12 1 (opRow [O3.one])]) := by kernel_rfl
theorem dcE1 (own : Bool) (N : Nat) (ls : List O3) : exT ((Crc Try.prog).at 26) 60 Try.f26 [.slice (some ⟨0, 0, some 0⟩) N 12] [.rows own true 12 N (opRow ls)] [.fix 0, .slot 0] =
    (match decide ((N : Int) > 192) with
    | true => some (nilE 2, [.rows own true 12 N (opRow ls), .no])
    | false => gd (Nat.beq N N && (okOps N (opRow ls) && decide (N ≤ 4611686018427387904))) (match leastL (opsOf N (opRow ls)) 0 != 0 with
      | true => some (nilE (leastL (opsOf N (opRow ls)) 0), [.rows own true 12 N (opRow (opsOf N (opRow ls))), .no])
      | false => gd (rcT N N (opRow (opsOf N (opRow ls)))) (match clsOk (opsOf N (opRow (opsOf N (opRow ls)))) with
        | true => some (slE (clsG (opsOf N (opRow (opsOf N (opRow ls))))).length, [.rows own true 12 N (opRow (opsOf N (opRow (opsOf N (opRow ls))))), .rows true true 12 (clsG (opsOf N (opRow (opsOf N (opRow ls))))).length (opRow (clsG (opsOf N (opRow (opsOf N (opRow ls))))))])
        | false => some (nilE 5, [.rows own true 12 N (opRow (opsOf N (opRow (opsOf N (opRow ls))))), .no])))) := by kernel_rfl
theorem dcE (own : Bool) (N : Nat) (ls : List O3) (hl : ls.length = N) (hN : N ≤ 1100000) : exT ((Crc Try.prog).at 26) 60 Try.f26 [.slice (some ⟨0, 0, some 0⟩) N 12] [.rows own true 12 N (opRow ls)] [.fix 0, .slot 0] =
    (match clsOk ls with
    | true => some (slE (clsG ls).length, [.rows own true 12 N (opRow ls), .rows true true 12 (clsG ls).length (opRow (clsG ls))])
    | false => some (nilE (clsErr ls), [.rows own true 12 N (opRow ls), .no])) := by
  rw [dcE1, opsOf_row hl, opsOf_row hl]
  by_cases h : (N : Int) > 192
  · have hc : ckMaps ls = 2 := by unfold ckMaps; rw [if_pos (by omega)]
    have h1 : clsOk ls = false := by unfold clsOk; rw [hc]; rfl
    rw [decide_eq_true h, h1]
    unfold clsErr
    rw [hc]; rfl
  · have hc : ckMaps ls = leastL ls 0 := by unfold ckMaps; rw [if_neg (by omega)]
    rw [decide_eq_false h, Nat.beq_refl, okOps_opRow, show decide (N ≤ 4611686018427387904) = true by simp; omega]
    simp only [Bool.and_self, gd_true]
    by_cases h0 : leastL ls 0 = 0
    · have ht : rcT N N (opRow ls) = true := by
        unfold rcT
        rw [Nat.beq_refl, okOps_opRow, opsOf_row hl, hc, h0]; rfl
      rw [h0, ht]
      simp only [bne_self_eq_false, gd_true]
      unfold clsErr
      rw [hc, h0]
      cases clsOk ls <;> rfl
    · have h1 : clsOk ls = false := by unfold clsOk; rw [hc, (bif_beq h0).1]; rfl
      rw [(bif_beq h0).2, h1]
      unfold clsErr
      rw [hc, (bif_beq h0).1]; rfl
def dcF : List Value → Mem → Option (Ans (Value × Mem))
  | [.slice none 0 0], [] => some (.out (.tuple #[.slice (some ⟨0, 0, some 0⟩) 1 12, vI 0], [.rows true true 12 1 (opRow [O3.one])]))
  | [.slice (some ⟨0, 0, some 0⟩) N 12], [.rows own true 12 N2 row] => some (.br (Nat.beq N N2 && (okOps N row && decide (N ≤ 1100000))) (.br (clsOk (opsOf N row)) (.out (slE (clsG (opsOf N row)).length, [.rows own true 12 N (opRow (opsOf N row)), .rows true true 12 (clsG (opsOf N row)).length (opRow (clsG (opsOf N row)))])) (.out (nilE (clsErr (opsOf N row)), [.rows own true 12 N (opRow (opsOf N row)), .no]))) .fail)
  | _, _ => none
def Cdc (P : Program) : Cx := (Crc P).addF 26 dcF
theorem okdc : CxOk (Cdc Try.prog) := Cx.addF_ok okrc fun args m ans v m' h hr => by
  unfold dcF at h
  split at h
  · simp only [Option.some.injEq] at h
    subst h
    simp only [Ans.res, Option.some.injEq, Prod.mk.injEq] at hr
    obtain ⟨rfl, rfl⟩ := hr
    exact exT_ok okrc Try.func26 (by kernel_rfl) dcE0
  · rename_i N own N2 row
    simp only [Option.some.injEq] at h
    subst h
    rcases Ans.br_some hr with ⟨hc, hr1⟩ | ⟨_, hr1⟩
    rotate_left
    · simp [Ans.res] at hr1
    clear hr
    simp only [Bool.and_eq_true, decide_eq_true_eq] at hc
    obtain ⟨c1, c2, c3⟩ := hc
    have c1 := beq_len c1
    subst c1
    have hE := dcE own N (opsOf N row) (opsOf_length N row) c3
    rcases Ans.br_some hr1 with ⟨hq, hr2⟩ | ⟨hq, hr2⟩
    · rw [hq] at hE
      simp only [Ans.res, Option.some.injEq, Prod.mk.injEq] at hr2
      obtain ⟨rfl, rfl⟩ := hr2
      exact (exT_ok okrc Try.func26 (by kernel_rfl) hE).like ⟨.rows (ops_like c2), trivial⟩
    · rw [hq] at hE
      simp only [Ans.res, Option.some.injEq, Prod.mk.injEq] at hr2
      obtain ⟨rfl, rfl⟩ := hr2
      exact (exT_ok okrc Try.func26 (by kernel_rfl) hE).like ⟨.rows (ops_like c2), trivial⟩
  · cases h
theorem twE0 : exT ((Cdc Try.prog).at 14) 60 Try.f14 [.slice none 0 0] [] [.slot 0] = some (.slice none 0 0, [.no]) := by kernel_rfl
theorem twE1 (own : Bool) (N : Nat) (ls : List O3) : exT ((Cdc Try.prog).at 14) 60 Try.f14 [.slice (some ⟨0, 0, some 0⟩) N 12] [.rows own true 12 N (opRow ls)] [.fix 0, .slot 0] =
    (match Nat.beq N 0 with
    | true => some (.slice none 0 0, [.rows own true 12 N (opRow ls), .no])
    | false => gd (roomB N) (some (.slice (some ⟨1, 0, some 0⟩) N 12, [.rows own true 12 N (opRow ls), .rows true true 12 N (opRow ls)]))) := by kernel_rfl
def twF : List Value → Mem → Option (Ans (Value × Mem))
  | [.slice none 0 0], [] => some (.out (.slice none 0 0, [.no]))
  | [.slice (some ⟨0, 0, some 0⟩) N 12], [.rows own true 12 N2 row] => some (.br (Nat.beq N N2 && (okOps N row && decide (N ≤ 1500000))) (.br (Nat.beq N 0) (.out (.slice none 0 0, [.rows own true 12 N (opRow (opsOf N row)), .no])) (.out (.slice (some ⟨1, 0, some 0⟩) N 12, [.rows own true 12 N (opRow (opsOf N row)), .rows true true 12 N (opRow (opsOf N row))]))) .fail)
  | _, _ => none
def Ctw (P : Program) : Cx := (Cdc P).addF 14 twF
theorem oktw : CxOk (Ctw Try.prog) := Cx.addF_ok okdc fun args m ans v m' h hr => by
  unfold twF at h
  split at h
  · simp only [Option.some.injEq] at h
    subst h
    simp only [Ans.res, Option.some.injEq, Prod.mk.injEq] at hr
    obtain ⟨rfl, rfl⟩ := hr
    exact exT_ok okdc Try.func14 (by kernel_rfl) twE0
  · rename_i N own N2 row
    simp only [Option.some.injEq] at h
    subst h
    rcases Ans.br_some hr with ⟨hc, hr1⟩ | ⟨_, hr1⟩
    rotate_left
    · simp [Ans.res] at hr1
    clear hr
    simp only [Bool.and_eq_true, decide_eq_true_eq] at hc
    obtain ⟨c1, c2, c3⟩ := hc
    have c1 := beq_len c1
    subst c1
    have hE := twE1 own N (opsOf N row)
    rw [roomB_ok (by omega), gd_true] at hE
    rcases Ans.br_some hr1 with ⟨hq, hr2⟩ | ⟨hq, hr2⟩
    · rw [hq] at hE
      simp only [Ans.res, Option.some.injEq, Prod.mk.injEq] at hr2
      obtain ⟨rfl, rfl⟩ := hr2
      exact (exT_ok okdc Try.func14 (by kernel_rfl) hE).like ⟨.rows (ops_like c2), trivial⟩
    · rw [hq] at hE
      simp only [Ans.res, Option.some.injEq, Prod.mk.injEq] at hr2
      obtain ⟨rfl, rfl⟩ := hr2
      exact (exT_ok okdc Try.func14 (by kernel_rfl) hE).like ⟨.rows (ops_like c2), trivial⟩
  · cases h
end Go.Proofs.Ytneaibkfglfpaaa


namespace Go.Proofs.Ytneaibkfglfpaaa
open Go Vx
/-- Are two lists of one length alike? -/
def smeL : List O3 → List O3 → Bool
  | x :: l, y :: m => match !(x.eqB y) with
    | true => false
    | false => smeL l m
  | _, _ => true
theorem smeL_refl : ∀ (l : List O3), smeL l l = true
  | [] => rfl
  | x :: l => by simp only [smeL, O3.eqB_refl, Bool.not_true]; exact smeL_refl l

def smX (P : Program) : Code := (loopsOf P 20 4).headD .skip
theorem smX_eq : loopsOf Try.prog 20 4 = [smX Try.prog] := by kernel_rfl
def smH (own : Bool) (own2 : Bool) (n : Nat) (xs : List O3) (ys : List O3) (i : Int) : St := stOf 26 [(0, .slice (some ⟨0, 0, some 0⟩) n 12), (1, .slice (some ⟨1, 0, some 0⟩) n 12), (4, .bool false), (12, vI n), (13, vI i)] [.rows own true 12 n (opRow xs), .rows own2 true 12 n (opRow ys)]
theorem smR (own : Bool) (own2 : Bool) (n : Nat) (xs : List O3) (ys : List O3) (i : Int) : roundR ((Ctw Try.prog).into 20 2) 40 (smX Try.prog) [0, 1, 4, 12, 13] [4] [.fix 0, .fix 1] [.fix 0, .fix 1] (smH own own2 n xs ys i) =
    (match decide (i < (n : Int)) with
    | true => match boundsI i n with
      | true => match boundsI i n with
        | true => match !((atO xs i).eqB (atO ys i)) with
          | true => some (.ret, stOf 26 [(4, .bool false)] [.rows own true 12 n (opRow xs), .rows own2 true 12 n (opRow ys)])
          | false => some (.normal, smH own own2 n xs ys (W (i + 1)))
        | false => none
      | false => none
    | false => some (.exit 0, stOf 26 [(4, .bool false)] [.rows own true 12 n (opRow xs), .rows own2 true 12 n (opRow ys)])) := by kernel_rfl
structure smG where
  (own : Bool) (own2 : Bool) (n : Nat) (xs : List O3) (ys : List O3) (i : Int)
def smO (own : Bool) (own2 : Bool) (n : Nat) (xs : List O3) (ys : List O3) (i : Int) : Exit × St :=
  match smeL (xs.drop i.toNat) (ys.drop i.toNat) with
  | true => (.exit 0, stOf 26 [(4, .bool false)] [.rows own true 12 n (opRow xs), .rows own2 true 12 n (opRow ys)])
  | false => (.ret, stOf 26 [(4, .bool false)] [.rows own true 12 n (opRow xs), .rows own2 true 12 n (opRow ys)])
theorem smL (own : Bool) (own2 : Bool) (n : Nat) (xs : List O3) (ys : List O3) (i : Int) (hg : 0 ≤ i ∧ (n : Int) ≤ 4611686018427387904 ∧ xs.length = n ∧ ys.length = n) : LoopSem Try.prog 2 (smX Try.prog) (smH own own2 n xs ys i) (smO own own2 n xs ys i).1 (smO own own2 n xs ys i).2 := by
  refine loop_rule (C := Ctw Try.prog) oktw (f := 20) (B := 2) (loopsOf_in (k := 4) smX_eq) 40 [0, 1, 4, 12, 13] [4] [.fix 0, .fix 1] [.fix 0, .fix 1] (fun g : smG => smH g.own g.own2 g.n g.xs g.ys g.i) (fun g => (g.n - g.i).toNat) (fun g => 0 ≤ g.i ∧ (g.n : Int) ≤ 4611686018427387904 ∧ g.xs.length = g.n ∧ g.ys.length = g.n) (fun g => smO g.own g.own2 g.n g.xs g.ys g.i) ?_ ⟨own, own2, n, xs, ys, i⟩ hg
  clear hg
  rintro ⟨own, own2, n, xs, ys, i⟩ hg
  simp only at hg
  simp only [smR]
  obtain ⟨h0, h1, h2, h3⟩ := hg
  by_cases hi : i < (n : Int)
  · have hd : decide (i < (n : Int)) = true := by simpa using hi
    have hb : boundsI i n = true := by simp [boundsI, h0, hi]
    have hdx := drop_at (xs := xs) h0 (by omega)
    have hdy := drop_at (xs := ys) h0 (by omega)
    have hw : W (i + 1) = i + 1 := W_in (by omega)
    rw [hd, hb, hw]
    simp only
    cases he : !((atO xs i).eqB (atO ys i)) with
    | true =>
      right
      unfold smO
      simp only [hdx, hdy, smeL, he]
      exact ⟨trivial, by simp⟩
    | false =>
      left
      refine ⟨⟨own, own2, n, xs, ys, i + 1⟩, rfl, ⟨by simp only; omega, h1, h2, h3⟩, by simp only; omega, ?_⟩
      unfold smO
      simp only [hdx, hdy, smeL, he]
  · have hd : decide (i < (n : Int)) = false := by simpa using hi
    rw [hd]
    right
    have hn : xs.drop i.toNat = [] := List.drop_eq_nil_of_le (by omega)
    unfold smO
    simp only [hn, smeL]
    exact ⟨trivial, by simp⟩
def smS (st : St) : Option (Ans (Exit × St)) :=
  match sized st 26 2, tAt st 0, tAt st 1, tAt st 4, tAt st 12, tAt st 13, st.mem with
  | true, some (.slice (some ⟨0, 0, some 0⟩) n 12), some (.slice (some ⟨1, 0, some 0⟩) n1 12), some (.bool false), some (.int .i64 ln), some (.int .i64 i), [.rows own true 12 n2 row, .rows own2 true 12 n3 row2] => some (.br (Nat.beq n n1 && (Nat.beq n n2 && (okOps n row && (Nat.beq n n3 && (okOps n row2 && (decide ((n : Int) = ln) && (decide (0 ≤ i) && (decide ((n : Int) ≤ 4611686018427387904))))))))) (.br (smeL ((opsOf n row).drop i.toNat) ((opsOf n row2).drop i.toNat))
      (.out (.exit 0, stOf 26 [(4, .bool false)] [.rows own true 12 n (opRow (opsOf n row)), .rows own2 true 12 n (opRow (opsOf n row2))]))
      (.out (.ret, stOf 26 [(4, .bool false)] [.rows own true 12 n (opRow (opsOf n row)), .rows own2 true 12 n (opRow (opsOf n row2))]))) .fail)
  | _, _, _, _, _, _, _ => none
theorem smK {st : St} {ans : Ans (Exit × St)} {e_ : Exit} {s_ : St} (h : smS st = some ans) (hr : ans.res = some (e_, s_)) : LoopSem Try.prog 2 (smX Try.prog) st e_ s_ := by
  unfold smS at h
  split at h
  · rename_i n n1 ln i own n2 row own2 n3 row2 hb hs0 hs1 hs2 hs3 hs4 hm
    simp only [Option.some.injEq] at h
    subst h
    rcases Ans.br_some hr with ⟨hc, hr1⟩ | ⟨_, hr1⟩
    · clear hr
      simp only [Bool.and_eq_true] at hc
      obtain ⟨ht0, ht1, ht2, ht3, ht4, ht5, ht6, ht7⟩ := hc
      have ht0 := beq_len ht0
      have ht1 := beq_len ht1
      have ht3 := beq_len ht3
      subst ht0 ht1 ht3
      have ht5 : (n : Int) = ln := by simpa using ht5
      subst ht5
      have hinv : 0 ≤ i ∧ (n : Int) ≤ 4611686018427387904 ∧ (opsOf n row).length = n ∧ (opsOf n row2).length = n := by
        exact ⟨by simpa using ht6, by simpa using ht7, opsOf_length n row, opsOf_length n row2⟩
      have hk := stOf_keep hb [(0, .slice (some ⟨0, 0, some 0⟩) n 12), (1, .slice (some ⟨1, 0, some 0⟩) n 12), (4, .bool false), (12, vI n), (13, vI i)] (by
        intro x hx
        simp only [List.mem_cons, List.not_mem_nil, or_false] at hx
        rcases hx with rfl | rfl | rfl | rfl | rfl
        · exact hs0
        · exact hs1
        · exact hs2
        · exact hs3
        · exact hs4) hm
      have key := smL own own2 n (opsOf n row) (opsOf n row2) i hinv
      unfold smH at key
      have key := LoopSem.like (m := [.rows own true 12 n row, .rows own2 true 12 n row2]) key ⟨.rows (ops_like ht2), .rows (ops_like ht4), trivial⟩
      have key : LoopSem Try.prog 2 (smX Try.prog) (stOf 26 [(0, .slice (some ⟨0, 0, some 0⟩) n 12), (1, .slice (some ⟨1, 0, some 0⟩) n 12), (4, .bool false), (12, vI n), (13, vI i)] [.rows own true 12 n row, .rows own2 true 12 n row2]) _ _ := key
      rw [← hk] at key
      have key := LoopSem.clean key
      unfold smO at key
      rcases Ans.br_some hr1 with ⟨hq, hr1⟩ | ⟨hq, hr1⟩
      · simp only [hq] at key
        simp only [Ans.res, Option.some.injEq, Prod.mk.injEq] at hr1
        obtain ⟨rfl, rfl⟩ := hr1
        exact key
      · simp only [hq] at key
        simp only [Ans.res, Option.some.injEq, Prod.mk.injEq] at hr1
        obtain ⟨rfl, rfl⟩ := hr1
        exact key
    · simp [Ans.res] at hr1
  · cases h
def Csm (P : Program) : Cx := (Ctw P).addLB 20 4 2 smS
theorem oksm : CxOk (Csm Try.prog) := Cx.addLB_ok oktw smX_eq fun _ _ _ _ h hr => smK h hr
def smT (n m : Nat) (row row2 : Nat → List Value) : Bool := Nat.beq n m && (Nat.beq n n && (okOps n row && (Nat.beq n m && (okOps n row2 && (decide ((n : Int) = (n : Int)) && (decide ((0 : Int) ≤ 0) && decide ((n : Int) ≤ 4611686018427387904)))))))
theorem sameE00 : exT ((Csm Try.prog).at 20) 60 Try.f20 [.slice none 0 0, .slice none 0 0] [] [] = some (.bool true, []) := by kernel_rfl
theorem sameE01 (own : Bool) (n : Nat) (xs : List O3) : exT ((Csm Try.prog).at 20) 60 Try.f20 [.slice none 0 0, .slice (some ⟨0, 0, some 0⟩) n 12] [.rows own true 12 n (opRow xs)] [.fix 0] =
    (match (0 : Int) != (n : Int) with
    | true => some (.bool false, [.rows own true 12 n (opRow xs)])
    | false => some (.bool true, [.rows own true 12 n (opRow xs)])) := by kernel_rfl
theorem sameE10 (own : Bool) (n : Nat) (xs : List O3) : exT ((Csm Try.prog).at 20) 60 Try.f20 [.slice (some ⟨0, 0, some 0⟩) n 12, .slice none 0 0] [.rows own true 12 n (opRow xs)] [.fix 0] =
    (match (n : Int) != (0 : Int) with
    | true => some (.bool false, [.rows own true 12 n (opRow xs)])
    | false => match decide ((0 : Int) < (n : Int)) with
      | true => match boundsI 0 n with
        | true => none
        | false => none
      | false => some (.bool true, [.rows own true 12 n (opRow xs)])) := by kernel_rfl
theorem sameE1 (own own2 : Bool) (n m : Nat) (xs ys : List O3) : exT ((Csm Try.prog).at 20) 60 Try.f20 [.slice (some ⟨0, 0, some 0⟩) n 12, .slice (some ⟨1, 0, some 0⟩) m 12] [.rows own true 12 n (opRow xs), .rows own2 true 12 m (opRow ys)] [.fix 0, .fix 1] =
    (match (n : Int) != (m : Int) with
    | true => some (.bool false, [.rows own true 12 n (opRow xs), .rows own2 true 12 m (opRow ys)])
    | false => gd (smT n m (opRow xs) (opRow ys)) (match smeL ((opsOf n (opRow xs)).drop (0 : Int).toNat) ((opsOf n (opRow ys)).drop (0 : Int).toNat) with
      | true => some (.bool true, [.rows own true 12 n (opRow (opsOf n (opRow xs))), .rows own2 true 12 n (opRow (opsOf n (opRow ys)))])
      | false => some (.bool false, [.rows own true 12 n (opRow (opsOf n (opRow xs))), .rows own2 true 12 n (opRow (opsOf n (opRow ys)))]))) := by kernel_rfl
/-- Are two lists alike? -/
def sameB (xs ys : List O3) : Bool := ((xs.length : Int) == (ys.length : Int)) && smeL xs ys
theorem sameB_refl (xs : List O3) : sameB xs xs = true := by unfold sameB; rw [smeL_refl]; simp
theorem sameE (own own2 : Bool) (n m : Nat) (xs ys : List O3) (hx : xs.length = n) (hy : ys.length = m) (hn : n ≤ 1500000) : exT ((Csm Try.prog).at 20) 60 Try.f20 [.slice (some ⟨0, 0, some 0⟩) n 12, .slice (some ⟨1, 0, some 0⟩) m 12] [.rows own true 12 n (opRow xs), .rows own2 true 12 m (opRow ys)] [.fix 0, .fix 1] =
    some (.bool (sameB xs ys), [.rows own true 12 n (opRow xs), .rows own2 true 12 m (opRow ys)]) := by
  rw [sameE1]
  unfold sameB
  rw [hx, hy]
  by_cases h : n = m
  · subst h
    have ht : smT n n (opRow xs) (opRow ys) = true := by
      unfold smT
      rw [Nat.beq_refl, okOps_opRow, okOps_opRow]
      simp; omega
    rw [ht, opsOf_row hx, opsOf_row hy]
    simp only [bne_self_eq_false, gd_true, Int.toNat_zero, List.drop_zero, beq_self_eq_true, Bool.true_and]
    cases smeL xs ys <;> rfl
  · have h1 : ((n : Int) != (m : Int)) = true := by simp; omega
    have h2 : ((n : Int) == (m : Int)) = false := by simp; omega
    rw [h1, h2]; rfl
def sameF : List Value → Mem → Option (Ans (Value × Mem))
  | [.slice none 0 0, .slice none 0 0], [] => some (.out (.bool true, []))
  | [.slice none 0 0, .slice (some ⟨0, 0, some 0⟩) n 12], [.rows own true 12 n2 row] => some (.br (Nat.beq n n2 && okOps n row) (.out (.bool (sameB [] (opsOf n row)), [.rows own true 12 n (opRow (opsOf n row))])) .fail)
  | [.slice (some ⟨0, 0, some 0⟩) n 12, .slice none 0 0], [.rows own true 12 n2 row] => some (.br (Nat.beq n n2 && okOps n row) (.out (.bool (sameB (opsOf n row) []), [.rows own true 12 n (opRow (opsOf n row))])) .fail)
  | [.slice (some ⟨0, 0, some 0⟩) n 12, .slice (some ⟨1, 0, some 0⟩) m 12], [.rows own true 12 n2 row, .rows own2 true 12 m2 row2] => some (.br (Nat.beq n n2 && (okOps n row && (Nat.beq m m2 && (okOps m row2 && decide (n ≤ 1500000))))) (.out (.bool (sameB (opsOf n row) (opsOf m row2)), [.rows own true 12 n (opRow (opsOf n row)), .rows own2 true 12 m (opRow (opsOf m row2))])) .fail)
  | _, _ => none
def Csa (P : Program) : Cx := (Csm P).addF 20 sameF
theorem oksa : CxOk (Csa Try.prog) := Cx.addF_ok oksm fun args m ans v m' h hr => by
  unfold sameF at h
  split at h
  · simp only [Option.some.injEq] at h
    subst h
    simp only [Ans.res, Option.some.injEq, Prod.mk.injEq] at hr
    obtain ⟨rfl, rfl⟩ := hr
    exact exT_ok oksm Try.func20 (by kernel_rfl) sameE00
  · rename_i n own n2 row
    simp only [Option.some.injEq] at h
    subst h
    rcases Ans.br_some hr with ⟨hc, hr1⟩ | ⟨_, hr1⟩
    rotate_left
    · simp [Ans.res] at hr1
    clear hr
    simp only [Bool.and_eq_true] at hc
    obtain ⟨c1, c2⟩ := hc
    have c1 := beq_len c1
    subst c1
    simp only [Ans.res, Option.some.injEq, Prod.mk.injEq] at hr1
    obtain ⟨rfl, rfl⟩ := hr1
    have hE := sameE01 own n (opsOf n row)
    have hl := opsOf_length n row
    have e : sameB [] (opsOf n row) = !((0 : Int) != (n : Int)) := by
      unfold sameB
      rw [hl]
      have : smeL [] (opsOf n row) = true := by cases opsOf n row <;> rfl
      rw [this]
      simp [bne]
    rw [e]
    refine (exT_ok oksm Try.func20 (by kernel_rfl) (hE.trans ?_)).like ⟨.rows (ops_like c2), trivial⟩
    cases (0 : Int) != (n : Int) <;> rfl
  · rename_i n own n2 row
    simp only [Option.some.injEq] at h
    subst h
    rcases Ans.br_some hr with ⟨hc, hr1⟩ | ⟨_, hr1⟩
    rotate_left
    · simp [Ans.res] at hr1
    clear hr
    simp only [Bool.and_eq_true] at hc
    obtain ⟨c1, c2⟩ := hc
    have c1 := beq_len c1
    subst c1
    simp only [Ans.res, Option.some.injEq, Prod.mk.injEq] at hr1
    obtain ⟨rfl, rfl⟩ := hr1
    have hE := sameE10 own n (opsOf n row)
    have hl := opsOf_length n row
    have e : sameB (opsOf n row) [] = !((n : Int) != (0 : Int)) := by
      unfold sameB
      rw [hl]
      have : smeL (opsOf n row) [] = true := by cases opsOf n row <;> rfl
      rw [this]
      simp [bne]
    rw [e]
    refine (exT_ok oksm Try.func20 (by kernel_rfl) (hE.trans ?_)).like ⟨.rows (ops_like c2), trivial⟩
    by_cases hz : n = 0
    · subst hz; rfl
    · have h1 : ((n : Int) != (0 : Int)) = true := by simp; omega
      rw [h1]; rfl
  · rename_i n m own n2 row own2 m2 row2
    simp only [Option.some.injEq] at h
    subst h
    rcases Ans.br_some hr with ⟨hc, hr1⟩ | ⟨_, hr1⟩
    rotate_left
    · simp [Ans.res] at hr1
    clear hr
    simp only [Bool.and_eq_true, decide_eq_true_eq] at hc
    obtain ⟨c1, c2, c3, c4, c5⟩ := hc
    have c1 := beq_len c1
    have c3 := beq_len c3
    subst c1 c3
    simp only [Ans.res, Option.some.injEq, Prod.mk.injEq] at hr1
    obtain ⟨rfl, rfl⟩ := hr1
    exact (exT_ok oksm Try.func20 (by kernel_rfl) (sameE own own2 n m (opsOf n row) (opsOf m row2) (opsOf_length n row) (opsOf_length m row2) c5)).like ⟨.rows (ops_like c2), .rows (ops_like c4), trivial⟩
  · cases h
end Go.Proofs.Ytneaibkfglfpaaa


namespace Go.Proofs.Ytneaibkfglfpaaa
open Go Vx

def sqX (P : Program) : Code := (loopsOf P 45 4).headD .skip
theorem sqX_eq : loopsOf Try.prog 45 4 = [sqX Try.prog] := by kernel_rfl
def sqH (own : Bool) (own2 : Bool) (n : Nat) (xs : List O3) (ys : List O3) (i : Int) : St := stOf 26 [(0, .slice (some ⟨0, 0, some 0⟩) n 12), (1, .slice (some ⟨1, 0, some 0⟩) n 12), (4, .bool false), (12, vI n), (13, vI i)] [.rows own true 12 n (opRow xs), .rows own2 true 12 n (opRow ys)]
theorem sqR (own : Bool) (own2 : Bool) (n : Nat) (xs : List O3) (ys : List O3) (i : Int) : roundR ((Csa Try.prog).into 45 2) 40 (sqX Try.prog) [0, 1, 4, 12, 13] [4] [.fix 0, .fix 1] [.fix 0, .fix 1] (sqH own own2 n xs ys i) =
    (match decide (i < (n : Int)) with
    | true => match boundsI i n with
      | true => match boundsI i n with
        | true => match !((atO xs i).eqB (atO ys i)) with
          | true => some (.ret, stOf 26 [(4, .bool false)] [.rows own true 12 n (opRow xs), .rows own2 true 12 n (opRow ys)])
          | false => some (.normal, sqH own own2 n xs ys (W (i + 1)))
        | false => none
      | false => none
    | false => some (.exit 0, stOf 26 [(4, .bool false)] [.rows own true 12 n (opRow xs), .rows own2 true 12 n (opRow ys)])) := by kernel_rfl
structure sqG where
  (own : Bool) (own2 : Bool) (n : Nat) (xs : List O3) (ys : List O3) (i : Int)
def sqO (own : Bool) (own2 : Bool) (n : Nat) (xs : List O3) (ys : List O3) (i : Int) : Exit × St :=
  match smeL (xs.drop i.toNat) (ys.drop i.toNat) with
  | true => (.exit 0, stOf 26 [(4, .bool false)] [.rows own true 12 n (opRow xs), .rows own2 true 12 n (opRow ys)])
  | false => (.ret, stOf 26 [(4, .bool false)] [.rows own true 12 n (opRow xs), .rows own2 true 12 n (opRow ys)])
theorem sqL (own : Bool) (own2 : Bool) (n : Nat) (xs : List O3) (ys : List O3) (i : Int) (hg : 0 ≤ i ∧ (n : Int) ≤ 4611686018427387904 ∧ xs.length = n ∧ ys.length = n) : LoopSem Try.prog 2 (sqX Try.prog) (sqH own own2 n xs ys i) (sqO own own2 n xs ys i).1 (sqO own own2 n xs ys i).2 := by
  refine loop_rule (C := Csa Try.prog) oksa (f := 45) (B := 2) (loopsOf_in (k := 4) sqX_eq) 40 [0, 1, 4, 12, 13] [4] [.fix 0, .fix 1] [.fix 0, .fix 1] (fun g : sqG => sqH g.own g.own2 g.n g.xs g.ys g.i) (fun g => (g.n - g.i).toNat) (fun g => 0 ≤ g.i ∧ (g.n : Int) ≤ 4611686018427387904 ∧ g.xs.length = g.n ∧ g.ys.length = g.n) (fun g => sqO g.own g.own2 g.n g.xs g.ys g.i) ?_ ⟨own, own2, n, xs, ys, i⟩ hg
  clear hg
  rintro ⟨own, own2, n, xs, ys, i⟩ hg
  simp only at hg
  simp only [sqR]
  obtain ⟨h0, h1, h2, h3⟩ := hg
  by_cases hi : i < (n : Int)
  · have hd : decide (i < (n : Int)) = true := by simpa using hi
    have hb : boundsI i n = true := by simp [boundsI, h0, hi]
    have hdx := drop_at (xs := xs) h0 (by omega)
    have hdy := drop_at (xs := ys) h0 (by omega)
    have hw : W (i + 1) = i + 1 := W_in (by omega)
    rw [hd, hb, hw]
    simp only
    cases he : !((atO xs i).eqB (atO ys i)) with
    | true =>
      right
      unfold sqO
      simp only [hdx, hdy, smeL, he]
      exact ⟨trivial, by simp⟩
    | false =>
      left
      refine ⟨⟨own, own2, n, xs, ys, i + 1⟩, rfl, ⟨by simp only; omega, h1, h2, h3⟩, by simp only; omega, ?_⟩
      unfold sqO
      simp only [hdx, hdy, smeL, he]
  · have hd : decide (i < (n : Int)) = false := by simpa using hi
    rw [hd]
    right
    have hn : xs.drop i.toNat = [] := List.drop_eq_nil_of_le (by omega)
    unfold sqO
    simp only [hn, smeL]
    exact ⟨trivial, by simp⟩
def sqS (st : St) : Option (Ans (Exit × St)) :=
  match sized st 26 2, tAt st 0, tAt st 1, tAt st 4, tAt st 12, tAt st 13, st.mem with
  | true, some (.slice (some ⟨0, 0, some 0⟩) n 12), some (.slice (some ⟨1, 0, some 0⟩) n1 12), some (.bool false), some (.int .i64 ln), some (.int .i64 i), [.rows own true 12 n2 row, .rows own2 true 12 n3 row2] => some (.br (Nat.beq n n1 && (Nat.beq n n2 && (okOps n row && (Nat.beq n n3 && (okOps n row2 && (decide ((n : Int) = ln) && (decide (0 ≤ i) && (decide ((n : Int) ≤ 4611686018427387904))))))))) (.br (smeL ((opsOf n row).drop i.toNat) ((opsOf n row2).drop i.toNat))
      (.out (.exit 0, stOf 26 [(4, .bool false)] [.rows own true 12 n (opRow (opsOf n row)), .rows own2 true 12 n (opRow (opsOf n row2))]))
      (.out (.ret, stOf 26 [(4, .bool false)] [.rows own true 12 n (opRow (opsOf n row)), .rows own2 true 12 n (opRow (opsOf n row2))]))) .fail)
  | _, _, _, _, _, _, _ => none
theorem sqK {st : St} {ans : Ans (Exit × St)} {e_ : Exit} {s_ : St} (h : sqS st = some ans) (hr : ans.res = some (e_, s_)) : LoopSem Try.prog 2 (sqX Try.prog) st e_ s_ := by
  unfold sqS at h
  split at h
  · rename_i n n1 ln i own n2 row own2 n3 row2 hb hs0 hs1 hs2 hs3 hs4 hm
    simp only [Option.some.injEq] at h
    subst h
    rcases Ans.br_some hr with ⟨hc, hr1⟩ | ⟨_, hr1⟩
    · clear hr
      simp only [Bool.and_eq_true] at hc
      obtain ⟨ht0, ht1, ht2, ht3, ht4, ht5, ht6, ht7⟩ := hc
      have ht0 := beq_len ht0
      have ht1 := beq_len ht1
      have ht3 := beq_len ht3
      subst ht0 ht1 ht3
      have ht5 : (n : Int) = ln := by simpa using ht5
      subst ht5
      have hinv : 0 ≤ i ∧ (n : Int) ≤ 4611686018427387904 ∧ (opsOf n row).length = n ∧ (opsOf n row2).length = n := by
        exact ⟨by simpa using ht6, by simpa using ht7, opsOf_length n row, opsOf_length n row2⟩
      have hk := stOf_keep hb [(0, .slice (some ⟨0, 0, some 0⟩) n 12), (1, .slice (some ⟨1, 0, some 0⟩) n 12), (4, .bool false), (12, vI n), (13, vI i)] (by
        intro x hx
        simp only [List.mem_cons, List.not_mem_nil, or_false] at hx
        rcases hx with rfl | rfl | rfl | rfl | rfl
        · exact hs0
        · exact hs1
        · exact hs2
        · exact hs3
        · exact hs4) hm
      have key := sqL own own2 n (opsOf n row) (opsOf n row2) i hinv
      unfold sqH at key
      have key := LoopSem.like (m := [.rows own true 12 n row, .rows own2 true 12 n row2]) key ⟨.rows (ops_like ht2), .rows (ops_like ht4), trivial⟩
      have key : LoopSem Try.prog 2 (sqX Try.prog) (stOf 26 [(0, .slice (some ⟨0, 0, some 0⟩) n 12), (1, .slice (some ⟨1, 0, some 0⟩) n 12), (4, .bool false), (12, vI n), (13, vI i)] [.rows own true 12 n row, .rows own2 true 12 n row2]) _ _ := key
      rw [← hk] at key
      have key := LoopSem.clean key
      unfold sqO at key
      rcases Ans.br_some hr1 with ⟨hq, hr1⟩ | ⟨hq, hr1⟩
      · simp only [hq] at key
        simp only [Ans.res, Option.some.injEq, Prod.mk.injEq] at hr1
        obtain ⟨rfl, rfl⟩ := hr1
        exact key
      · simp only [hq] at key
        simp only [Ans.res, Option.some.injEq, Prod.mk.injEq] at hr1
        obtain ⟨rfl, rfl⟩ := hr1
        exact key
    · simp [Ans.res] at hr1
  · cases h
def Csq (P : Program) : Cx := (Csa P).addLB 45 4 2 sqS
theorem oksq : CxOk (Csq Try.prog) := Cx.addLB_ok oksa sqX_eq fun _ _ _ _ h hr => sqK h hr
theorem eqlE00 : exT ((Csq Try.prog).at 45) 60 Try.f45 [.slice none 0 0, .slice none 0 0] [] [] = some (.bool true, []) := by kernel_rfl
theorem eqlE01 (own : Bool) (n : Nat) (xs : List O3) : exT ((Csq Try.prog).at 45) 60 Try.f45 [.slice none 0 0, .slice (some ⟨0, 0, some 0⟩) n 12] [.rows own true 12 n (opRow xs)] [.fix 0] =
    (match (0 : Int) != (n : Int) with
    | true => some (.bool false, [.rows own true 12 n (opRow xs)])
    | false => some (.bool true, [.rows own true 12 n (opRow xs)])) := by kernel_rfl
theorem eqlE10 (own : Bool) (n : Nat) (xs : List O3) : exT ((Csq Try.prog).at 45) 60 Try.f45 [.slice (some ⟨0, 0, some 0⟩) n 12, .slice none 0 0] [.rows own true 12 n (opRow xs)] [.fix 0] =
    (match (n : Int) != (0 : Int) with
    | true => some (.bool false, [.rows own true 12 n (opRow xs)])
    | false => match decide ((0 : Int) < (n : Int)) with
      | true => match boundsI 0 n with
        | true => none
        | false => none
      | false => some (.bool true, [.rows own true 12 n (opRow xs)])) := by kernel_rfl
theorem eqlE1 (own own2 : Bool) (n m : Nat) (xs ys : List O3) : exT ((Csq Try.prog).at 45) 60 Try.f45 [.slice (some ⟨0, 0, some 0⟩) n 12, .slice (some ⟨1, 0, some 0⟩) m 12] [.rows own true 12 n (opRow xs), .rows own2 true 12 m (opRow ys)] [.fix 0, .fix 1] =
    (match (n : Int) != (m : Int) with
    | true => some (.bool false, [.rows own true 12 n (opRow xs), .rows own2 true 12 m (opRow ys)])
    | false => gd (smT n m (opRow xs) (opRow ys)) (match smeL ((opsOf n (opRow xs)).drop (0 : Int).toNat) ((opsOf n (opRow ys)).drop (0 : Int).toNat) with
      | true => some (.bool true, [.rows own true 12 n (opRow (opsOf n (opRow xs))), .rows own2 true 12 n (opRow (opsOf n (opRow ys)))])
      | false => some (.bool false, [.rows own true 12 n (opRow (opsOf n (opRow xs))), .rows own2 true 12 n (opRow (opsOf n (opRow ys)))]))) := by kernel_rfl
theorem eqlE (own own2 : Bool) (n m : Nat) (xs ys : List O3) (hx : xs.length = n) (hy : ys.length = m) (hn : n ≤ 1500000) : exT ((Csq Try.prog).at 45) 60 Try.f45 [.slice (some ⟨0, 0, some 0⟩) n 12, .slice (some ⟨1, 0, some 0⟩) m 12] [.rows own true 12 n (opRow xs), .rows own2 true 12 m (opRow ys)] [.fix 0, .fix 1] =
    some (.bool (sameB xs ys), [.rows own true 12 n (opRow xs), .rows own2 true 12 m (opRow ys)]) := by
  rw [eqlE1]
  unfold sameB
  rw [hx, hy]
  by_cases h : n = m
  · subst h
    have ht : smT n n (opRow xs) (opRow ys) = true := by
      unfold smT
      rw [Nat.beq_refl, okOps_opRow, okOps_opRow]
      simp; omega
    rw [ht, opsOf_row hx, opsOf_row hy]
    simp only [bne_self_eq_false, gd_true, Int.toNat_zero, List.drop_zero, beq_self_eq_true, Bool.true_and]
    cases smeL xs ys <;> rfl
  · have h1 : ((n : Int) != (m : Int)) = true := by simp; omega
    have h2 : ((n : Int) == (m : Int)) = false := by simp; omega
    rw [h1, h2]; rfl
def eqlF : List Value → Mem → Option (Ans (Value × Mem))
  | [.slice none 0 0, .slice none 0 0], [] => some (.out (.bool true, []))
  | [.slice none 0 0, .slice (some ⟨0, 0, some 0⟩) n 12], [.rows own true 12 n2 row] => some (.br (Nat.beq n n2 && okOps n row) (.out (.bool (sameB [] (opsOf n row)), [.rows own true 12 n (opRow (opsOf n row))])) .fail)
  | [.slice (some ⟨0, 0, some 0⟩) n 12, .slice none 0 0], [.rows own true 12 n2 row] => some (.br (Nat.beq n n2 && okOps n row) (.out (.bool (sameB (opsOf n row) []), [.rows own true 12 n (opRow (opsOf n row))])) .fail)
  | [.slice (some ⟨0, 0, some 0⟩) n 12, .slice (some ⟨1, 0, some 0⟩) m 12], [.rows own true 12 n2 row, .rows own2 true 12 m2 row2] => some (.br (Nat.beq n n2 && (okOps n row && (Nat.beq m m2 && (okOps m row2 && decide (n ≤ 1500000))))) (.out (.bool (sameB (opsOf n row) (opsOf m row2)), [.rows own true 12 n (opRow (opsOf n row)), .rows own2 true 12 m (opRow (opsOf m row2))])) .fail)
  | _, _ => none
def Ceq (P : Program) : Cx := (Csq P).addF 45 eqlF
theorem okeq : CxOk (Ceq Try.prog) := Cx.addF_ok oksq fun args m ans v m' h hr => by
  unfold eqlF at h
  split at h
  · simp only [Option.some.injEq] at h
    subst h
    simp only [Ans.res, Option.some.injEq, Prod.mk.injEq] at hr
    obtain ⟨rfl, rfl⟩ := hr
    exact exT_ok oksq Try.func45 (by kernel_rfl) eqlE00
  · rename_i n own n2 row
    simp only [Option.some.injEq] at h
    subst h
    rcases Ans.br_some hr with ⟨hc, hr1⟩ | ⟨_, hr1⟩
    rotate_left
    · simp [Ans.res] at hr1
    clear hr
    simp only [Bool.and_eq_true] at hc
    obtain ⟨c1, c2⟩ := hc
    have c1 := beq_len c1
    subst c1
    simp only [Ans.res, Option.some.injEq, Prod.mk.injEq] at hr1
    obtain ⟨rfl, rfl⟩ := hr1
    have hE := eqlE01 own n (opsOf n row)
    have hl := opsOf_length n row
    have e : sameB [] (opsOf n row) = !((0 : Int) != (n : Int)) := by
      unfold sameB
      rw [hl]
      have : smeL [] (opsOf n row) = true := by cases opsOf n row <;> rfl
      rw [this]
      simp [bne]
    rw [e]
    refine (exT_ok oksq Try.func45 (by kernel_rfl) (hE.trans ?_)).like ⟨.rows (ops_like c2), trivial⟩
    cases (0 : Int) != (n : Int) <;> rfl
  · rename_i n own n2 row
    simp only [Option.some.injEq] at h
    subst h
    rcases Ans.br_some hr with ⟨hc, hr1⟩ | ⟨_, hr1⟩
    rotate_left
    · simp [Ans.res] at hr1
    clear hr
    simp only [Bool.and_eq_true] at hc
    obtain ⟨c1, c2⟩ := hc
    have c1 := beq_len c1
    subst c1
    simp only [Ans.res, Option.some.injEq, Prod.mk.injEq] at hr1
    obtain ⟨rfl, rfl⟩ := hr1
    have hE := eqlE10 own n (opsOf n row)
    have hl := opsOf_length n row
    have e : sameB (opsOf n row) [] = !((n : Int) != (0 : Int)) := by
      unfold sameB
      rw [hl]
      have : smeL (opsOf n row) [] = true := by cases opsOf n row <;> rfl
      rw [this]
      simp [bne]
    rw [e]
    refine (exT_ok oksq Try.func45 (by kernel_rfl) (hE.trans ?_)).like ⟨.rows (ops_like c2), trivial⟩
    by_cases hz : n = 0
    · subst hz; rfl
    · have h1 : ((n : Int) != (0 : Int)) = true := by simp; omega
      rw [h1]; rfl
  · rename_i n m own n2 row own2 m2 row2
    simp only [Option.some.injEq] at h
    subst h
    rcases Ans.br_some hr with ⟨hc, hr1⟩ | ⟨_, hr1⟩
    rotate_left
    · simp [Ans.res] at hr1
    clear hr
    simp only [Bool.and_eq_true, decide_eq_true_eq] at hc
    obtain ⟨c1, c2, c3, c4, c5⟩ := hc
    have c1 := beq_len c1
    have c3 := beq_len c3
    subst c1 c3
    simp only [Ans.res, Option.some.injEq, Prod.mk.injEq] at hr1
    obtain ⟨rfl, rfl⟩ := hr1
    exact (exT_ok oksq Try.func45 (by kernel_rfl) (eqlE own own2 n m (opsOf n row) (opsOf m row2) (opsOf_length n row) (opsOf_length m row2) c5)).like ⟨.rows (ops_like c2), .rows (ops_like c4), trivial⟩
  · cases h
end Go.Proofs.Ytneaibkfglfpaaa


namespace Go.Proofs.Ytneaibkfglfpaaa
open Go Vx
theorem awE : exFun ((Ceq Try.prog).at 12) 100 Try.f12 (pack [] []) = some (.bool true) := by kernel_rfl
def Faw : List Int → Option Value
  | [] => some (.bool true)
  | _ => none
def Caw (P : Program) : Cx := (Ceq P).add 12 [] Faw
theorem okaw : CxOk (Caw Try.prog) := Cx.add_ok okeq (n := 100) Try.func12 (by kernel_rfl) fun l v hl h => by
  match l, hl, h with
  | [], _, hh => rw [awE]; exact hh
end Go.Proofs.Ytneaibkfglfpaaa


namespace Go.Proofs.Ytneaibkfglfpaaa
open Go Vx
def oT (n : Nat) (row : Nat → List Value) : Bool := Nat.beq n n && okOps n row
def ssT (n m : Nat) (row row2 : Nat → List Value) : Bool := Nat.beq n n && (okOps n row && (Nat.beq m m && (okOps m row2 && decide (n ≤ 1500000))))
end Go.Proofs.Ytneaibkfglfpaaa


namespace Go.Proofs.Ytneaibkfglfpaaa
open Go Vx
/-- What Check answers. -/
def chkI (X : List O3) : Int := match clsOk X with
  | true => match !(sameB (clsG X) X) with
    | true => 5
    | false => 0
  | false => clsErr X
theorem clsErr_ne (X : List O3) : clsErr X ≠ 0 := by
  unfold clsErr
  by_cases h : ckMaps X = 0
  · rw [h]; decide
  · rw [(bif_beq h).1]; exact h
theorem chkE0 : exT ((Caw Try.prog).at 15) 60 Try.f15 [.slice none 0 0] [] [] = some (vI 5, []) := by kernel_rfl
theorem chkE1 (own : Bool) (N : Nat) (ls : List O3) : exT ((Caw Try.prog).at 15) 60 Try.f15 [.slice (some ⟨0, 0, some 0⟩) N 12] [.rows own true 12 N (opRow ls)] [.fix 0] =
    gd (oT N (opRow ls)) (match clsOk (opsOf N (opRow ls)) with
      | true => gd (ssT (clsG (opsOf N (opRow ls))).length N (opRow (clsG (opsOf N (opRow ls)))) (opRow (opsOf N (opRow ls)))) (match !(sameB (opsOf (clsG (opsOf N (opRow ls))).length (opRow (clsG (opsOf N (opRow ls))))) (opsOf N (opRow (opsOf N (opRow ls))))) with
        | true => some (vI 5, [.rows own true 12 N (opRow (opsOf N (opRow (opsOf N (opRow ls)))))])
        | false => some (vI 0, [.rows own true 12 N (opRow (opsOf N (opRow (opsOf N (opRow ls)))))]))
      | false => match clsErr (opsOf N (opRow ls)) == 0 with
        | true => gd (oT N (opRow (opsOf N (opRow ls)))) (match !(sameB [] (opsOf N (opRow (opsOf N (opRow ls))))) with
          | true => some (vI 5, [.rows own true 12 N (opRow (opsOf N (opRow (opsOf N (opRow ls)))))])
          | false => some (vI (clsErr (opsOf N (opRow ls))), [.rows own true 12 N (opRow (opsOf N (opRow (opsOf N (opRow ls)))))]))
        | false => some (vI (clsErr (opsOf N (opRow ls))), [.rows own true 12 N (opRow (opsOf N (opRow ls)))])) := by kernel_rfl
theorem oT_ok (n : Nat) (xs : List O3) : oT n (opRow xs) = true := by unfold oT; rw [Nat.beq_refl, okOps_opRow]; rfl
theorem chkE (own : Bool) (N : Nat) (ls : List O3) (hl : ls.length = N) : exT ((Caw Try.prog).at 15) 60 Try.f15 [.slice (some ⟨0, 0, some 0⟩) N 12] [.rows own true 12 N (opRow ls)] [.fix 0] = some (vI (chkI ls), [.rows own true 12 N (opRow ls)]) := by
  rw [chkE1, opsOf_row hl, opsOf_row hl, oT_ok, gd_true]
  unfold chkI
  cases hc : clsOk ls with
  | true =>
    have hlen := clsOk_len hc
    have ht : ssT (clsG ls).length N (opRow (clsG ls)) (opRow ls) = true := by unfold ssT; rw [Nat.beq_refl, Nat.beq_refl, okOps_opRow, okOps_opRow]; simp; omega
    simp only [ht, gd_true, opsOf_row]
    cases sameB (clsG ls) ls <;> rfl
  | false => simp only [(bif_beq (clsErr_ne ls)).1]
def chkF : List Value → Mem → Option (Ans (Value × Mem))
  | [.slice none 0 0], [] => some (.out (vI 5, []))
  | [.slice (some ⟨0, 0, some 0⟩) N 12], [.rows own true 12 N2 row] => some (.br (Nat.beq N N2 && okOps N row) (.out (vI (chkI (opsOf N row)), [.rows own true 12 N (opRow (opsOf N row))])) .fail)
  | _, _ => none
def Cck (P : Program) : Cx := (Caw P).addF 15 chkF
theorem okck : CxOk (Cck Try.prog) := Cx.addF_ok okaw fun args m ans v m' h hr => by
  unfold chkF at h
  split at h
  · simp only [Option.some.injEq] at h
    subst h
    simp only [Ans.res, Option.some.injEq, Prod.mk.injEq] at hr
    obtain ⟨rfl, rfl⟩ := hr
    exact exT_ok okaw Try.func15 (by kernel_rfl) chkE0
  · rename_i N own N2 row
    simp only [Option.some.injEq] at h
    subst h
    rcases Ans.br_some hr with ⟨hc, hr1⟩ | ⟨_, hr1⟩
    rotate_left
    · simp [Ans.res] at hr1
    clear hr
    simp only [Bool.and_eq_true] at hc
    obtain ⟨c1, c2⟩ := hc
    have c1 := beq_len c1
    subst c1
    simp only [Ans.res, Option.some.injEq, Prod.mk.injEq] at hr1
    obtain ⟨rfl, rfl⟩ := hr1
    exact (exT_ok okaw Try.func15 (by kernel_rfl) (chkE own N (opsOf N row) (opsOf_length N row))).like ⟨.rows (ops_like c2), trivial⟩
  · cases h
/-- Where each map stands. -/
def atsL : List O3 → Int → ES → ES
  | [], _, es => es
  | o :: l, i, es => atsL l (i + 1) (mPut (key o) i es)

def peX (P : Program) : Code := (loopsOf P 46 6).headD .skip
theorem peX_eq : loopsOf Try.prog 46 6 = [peX Try.prog] := by kernel_rfl
def peH (own : Bool) (n : Nat) (xs : List O3) (es : ES) (i : Int) : St := stOf 28 [(2, .map none), (3, vI 0), (5, .map (some 1)), (16, .slice (some ⟨0, 0, some 0⟩) n 12), (17, vI n), (18, vI i)] [.rows own true 12 n (opRow xs), .mp false 12 es]
theorem peR (own : Bool) (n : Nat) (xs : List O3) (es : ES) (i : Int) : roundR ((Cck Try.prog).into 46 1) 40 (peX Try.prog) [2, 3, 5, 16, 17, 18] [2, 3, 5] [.fix 0, .fix 1] [.fix 0, .fix 1] (peH own n xs es i) =
    (match decide (i < (n : Int)) with
    | true => match boundsI i n with
      | true => some (.normal, peH own n xs (mPut (key (atO xs i)) i es) (W (i + 1)))
      | false => none
    | false => some (.exit 0, stOf 28 [(2, .map none), (3, vI 0), (5, .map (some 1))] [.rows own true 12 n (opRow xs), .mp false 12 es])) := by kernel_rfl
structure peG where
  (own : Bool) (n : Nat) (xs : List O3) (es : ES) (i : Int)
def peO (own : Bool) (n : Nat) (xs : List O3) (es : ES) (i : Int) : Exit × St :=
  (.exit 0, stOf 28 [(2, .map none), (3, vI 0), (5, .map (some 1))] [.rows own true 12 n (opRow xs), .mp false 12 (atsL (xs.drop i.toNat) i es)])
theorem peL (own : Bool) (n : Nat) (xs : List O3) (es : ES) (i : Int) (hg : 0 ≤ i ∧ (n : Int) ≤ 4611686018427387904 ∧ xs.length = n) : LoopSem Try.prog 1 (peX Try.prog) (peH own n xs es i) (peO own n xs es i).1 (peO own n xs es i).2 := by
  refine loop_rule (C := Cck Try.prog) okck (f := 46) (B := 1) (loopsOf_in (k := 6) peX_eq) 40 [2, 3, 5, 16, 17, 18] [2, 3, 5] [.fix 0, .fix 1] [.fix 0, .fix 1] (fun g : peG => peH g.own g.n g.xs g.es g.i) (fun g => (g.n - g.i).toNat) (fun g => 0 ≤ g.i ∧ (g.n : Int) ≤ 4611686018427387904 ∧ g.xs.length = g.n) (fun g => peO g.own g.n g.xs g.es g.i) ?_ ⟨own, n, xs, es, i⟩ hg
  clear hg
  rintro ⟨own, n, xs, es, i⟩ hg
  simp only at hg
  simp only [peR]
  obtain ⟨h0, h1, h2⟩ := hg
  by_cases hi : i < (n : Int)
  · have hd : decide (i < (n : Int)) = true := by simpa using hi
    have hb : boundsI i n = true := by simp [boundsI, h0, hi]
    have hdx := drop_at (xs := xs) h0 (by omega)
    have hw : W (i + 1) = i + 1 := W_in (by omega)
    rw [hd, hb, hw]
    left
    refine ⟨⟨own, n, xs, mPut (key (atO xs i)) i es, i + 1⟩, rfl, ⟨by simp only; omega, h1, h2⟩, by simp only; omega, ?_⟩
    unfold peO
    simp only [hdx, atsL]
  · have hd : decide (i < (n : Int)) = false := by simpa using hi
    rw [hd]
    right
    have hn : xs.drop i.toNat = [] := List.drop_eq_nil_of_le (by omega)
    unfold peO
    simp only [hn, atsL]
    exact ⟨trivial, by simp⟩
def peS (st : St) : Option (Ans (Exit × St)) :=
  match sized st 28 2, tAt st 2, tAt st 3, tAt st 5, tAt st 16, tAt st 17, tAt st 18, st.mem with
  | true, some (.map none), some (.int .i64 0), some (.map (some 1)), some (.slice (some ⟨0, 0, some 0⟩) n 12), some (.int .i64 ln), some (.int .i64 i), [.rows own true 12 n2 row, .mp false 12 es] => some (.br (Nat.beq n n2 && (okOps n row && (decide ((n : Int) = ln) && (decide (0 ≤ i) && (decide ((n : Int) ≤ 4611686018427387904)))))) (.out (.exit 0, stOf 28 [(2, .map none), (3, vI 0), (5, .map (some 1))] [.rows own true 12 n (opRow (opsOf n row)), .mp false 12 (atsL ((opsOf n row).drop i.toNat) i es)])) .fail)
  | _, _, _, _, _, _, _, _ => none
theorem peK {st : St} {ans : Ans (Exit × St)} {e_ : Exit} {s_ : St} (h : peS st = some ans) (hr : ans.res = some (e_, s_)) : LoopSem Try.prog 1 (peX Try.prog) st e_ s_ := by
  unfold peS at h
  split at h
  · rename_i n ln i own n2 row es hb hs0 hs1 hs2 hs3 hs4 hs5 hm
    simp only [Option.some.injEq] at h
    subst h
    rcases Ans.br_some hr with ⟨hc, hr1⟩ | ⟨_, hr1⟩
    · clear hr
      simp only [Bool.and_eq_true] at hc
      obtain ⟨ht0, ht1, ht2, ht3, ht4⟩ := hc
      have ht0 := beq_len ht0
      subst ht0
      have ht2 : (n : Int) = ln := by simpa using ht2
      subst ht2
      have hinv : 0 ≤ i ∧ (n : Int) ≤ 4611686018427387904 ∧ (opsOf n row).length = n := by
        exact ⟨by simpa using ht3, by simpa using ht4, opsOf_length n row⟩
      have hk := stOf_keep hb [(2, .map none), (3, vI 0), (5, .map (some 1)), (16, .slice (some ⟨0, 0, some 0⟩) n 12), (17, vI n), (18, vI i)] (by
        intro x hx
        simp only [List.mem_cons, List.not_mem_nil, or_false] at hx
        rcases hx with rfl | rfl | rfl | rfl | rfl | rfl
        · exact hs0
        · exact hs1
        · exact hs2
        · exact hs3
        · exact hs4
        · exact hs5) hm
      have key := peL own n (opsOf n row) es i hinv
      unfold peH at key
      have key := LoopSem.like (m := [.rows own true 12 n row, .mp false 12 es]) key ⟨.rows (ops_like ht1), .refl _, trivial⟩
      have key : LoopSem Try.prog 1 (peX Try.prog) (stOf 28 [(2, .map none), (3, vI 0), (5, .map (some 1)), (16, .slice (some ⟨0, 0, some 0⟩) n 12), (17, vI n), (18, vI i)] [.rows own true 12 n row, .mp false 12 es]) _ _ := key
      rw [← hk] at key
      have key := LoopSem.clean key
      unfold peO at key
      simp only [Ans.res, Option.some.injEq, Prod.mk.injEq] at hr1
      obtain ⟨rfl, rfl⟩ := hr1
      exact key
    · simp [Ans.res] at hr1
  · cases h

def Cpe (P : Program) : Cx := (Cck P).addLB 46 6 1 peS
theorem okpe : CxOk (Cpe Try.prog) := Cx.addLB_ok okck peX_eq fun _ _ _ _ h hr => peK h hr
theorem plsE0 : exT ((Cpe Try.prog).at 46) 60 Try.f46 [.slice none 0 0] [] [.slot 0] = some (.tuple #[.map none, vI 5], [.no]) := by kernel_rfl
theorem plsE1 (own : Bool) (N : Nat) (ls : List O3) : exT ((Cpe Try.prog).at 46) 60 Try.f46 [.slice (some ⟨0, 0, some 0⟩) N 12] [.rows own true 12 N (opRow ls)] [.fix 0, .slot 0] =
    gd (oT N (opRow ls)) (match chkI (opsOf N (opRow ls)) != 0 with
      | true => some (.tuple #[.map none, vI (chkI (opsOf N (opRow ls)))], [.rows own true 12 N (opRow (opsOf N (opRow ls))), .no])
      | false => gd (lT N (opRow (opsOf N (opRow ls))) N) (some (.tuple #[.map (some 1), vI 0], [.rows own true 12 N (opRow (opsOf N (opRow (opsOf N (opRow ls))))), .mp false 12 (atsL ((opsOf N (opRow (opsOf N (opRow ls)))).drop (0 : Int).toNat) 0 [])]))) := by kernel_rfl
theorem lT_ok {n : Nat} {xs : List O3} (hn : n ≤ 4611686018427387904) : lT n (opRow xs) n = true := by
  unfold lT
  rw [Nat.beq_refl, okOps_opRow]
  simp; omega
def plsF : List Value → Mem → Option (Ans (Value × Mem))
  | [.slice none 0 0], [] => some (.out (.tuple #[.map none, vI 5], [.no]))
  | [.slice (some ⟨0, 0, some 0⟩) N 12], [.rows own true 12 N2 row] => some (.br (Nat.beq N N2 && (okOps N row && decide (N ≤ 4611686018427387904))) (.br (chkI (opsOf N row) != 0) (.out (.tuple #[.map none, vI (chkI (opsOf N row))], [.rows own true 12 N (opRow (opsOf N row)), .no])) (.out (.tuple #[.map (some 1), vI 0], [.rows own true 12 N (opRow (opsOf N row)), .mp false 12 (atsL (opsOf N row) 0 [])]))) .fail)
  | _, _ => none
def Cpls (P : Program) : Cx := (Cpe P).addF 46 plsF
theorem okpls : CxOk (Cpls Try.prog) := Cx.addF_ok okpe fun args m ans v m' h hr => by
  unfold plsF at h
  split at h
  · simp only [Option.some.injEq] at h
    subst h
    simp only [Ans.res, Option.some.injEq, Prod.mk.injEq] at hr
    obtain ⟨rfl, rfl⟩ := hr
    exact exT_ok okpe Try.func46 (by kernel_rfl) plsE0
  · rename_i N own N2 row
    simp only [Option.some.injEq] at h
    subst h
    rcases Ans.br_some hr with ⟨hc, hr1⟩ | ⟨_, hr1⟩
    rotate_left
    · simp [Ans.res] at hr1
    clear hr
    simp only [Bool.and_eq_true, decide_eq_true_eq] at hc
    obtain ⟨c1, c2, c3⟩ := hc
    have c1 := beq_len c1
    subst c1
    have hl := opsOf_length N row
    have hE := plsE1 own N (opsOf N row)
    rw [opsOf_row hl, opsOf_row hl, oT_ok, lT_ok c3] at hE
    simp only [gd_true, Int.toNat_zero, List.drop_zero] at hE
    rcases Ans.br_some hr1 with ⟨hq, hr2⟩ | ⟨hq, hr2⟩
    · rw [hq] at hE
      simp only [Ans.res, Option.some.injEq, Prod.mk.injEq] at hr2
      obtain ⟨rfl, rfl⟩ := hr2
      exact (exT_ok okpe Try.func46 (by kernel_rfl) hE).like ⟨.rows (ops_like c2), trivial⟩
    · rw [hq] at hE
      simp only [Ans.res, Option.some.injEq, Prod.mk.injEq] at hr2
      obtain ⟨rfl, rfl⟩ := hr2
      exact (exT_ok okpe Try.func46 (by kernel_rfl) hE).like ⟨.rows (ops_like c2), trivial⟩
  · cases h
def fndV (X : List O3) (o : O3) : Int := bif leastN (chkI X) o.ck == 0 then (bif mHas (key o) (atsL X 0 []) then mGet (key o) (atsL X 0 []) else 0) else 0
def fndE (X : List O3) (o : O3) : Int := bif leastN (chkI X) o.ck == 0 then (bif mHas (key o) (atsL X 0 []) then 0 else 9) else leastN (chkI X) o.ck
def twoI (a b : Int) : Value := .tuple #[vI a, vI b]
theorem fndE0 (o : O3) : exT ((Cpls Try.prog).at 16) 60 Try.f16 [.slice none 0 0, o.v] [] [] = (match leastN 5 o.ck != 0 with
    | true => some (twoI 0 (leastN 5 o.ck), [])
    | false => none) := by kernel_rfl
theorem fndE1 (own : Bool) (N : Nat) (ls : List O3) (o : O3) : exT ((Cpls Try.prog).at 16) 60 Try.f16 [.slice (some ⟨0, 0, some 0⟩) N 12, o.v] [.rows own true 12 N (opRow ls)] [.fix 0] =
    gd (Nat.beq N N && (okOps N (opRow ls) && decide (N ≤ 4611686018427387904))) (match chkI (opsOf N (opRow ls)) != 0 with
      | true => match leastN (chkI (opsOf N (opRow ls))) o.ck != 0 with
        | true => some (twoI 0 (leastN (chkI (opsOf N (opRow ls))) o.ck), [.rows own true 12 N (opRow (opsOf N (opRow ls)))])
        | false => none
      | false => match leastN 0 o.ck != 0 with
        | true => some (twoI 0 (leastN 0 o.ck), [.rows own true 12 N (opRow (opsOf N (opRow ls)))])
        | false => match !(mHas (key o) (atsL (opsOf N (opRow ls)) 0 [])) with
          | true => some (twoI 0 9, [.rows own true 12 N (opRow (opsOf N (opRow ls)))])
          | false => some (twoI (mGet (key o) (atsL (opsOf N (opRow ls)) 0 [])) 0, [.rows own true 12 N (opRow (opsOf N (opRow ls)))])) := by kernel_rfl
end Go.Proofs.Ytneaibkfglfpaaa


namespace Go.Proofs.Ytneaibkfglfpaaa
open Go Vx
theorem leastN_zero {a b : Int} : leastN a b = 0 ↔ a = 0 ∧ b = 0 := by
  unfold leastN
  by_cases ha : a = 0
  · subst ha; simp
  · rw [(bif_beq ha).1]
    by_cases hb : b = 0
    · subst hb; simp [ha]
    · rw [(bif_beq hb).2]
      by_cases hl : b < a <;> simp [hl, ha, hb]
def fndF : List Value → Mem → Option (Ans (Value × Mem))
  | [.slice none 0 0, .agg co], [] => match opCells co.toList with
    | some o => some (.br (leastN 5 o.ck != 0) (.out (twoI 0 (leastN 5 o.ck), [])) .fail)
    | none => none
  | [.slice (some ⟨0, 0, some 0⟩) N 12, .agg co], [.rows own true 12 N2 row] => match opCells co.toList with
    | some o => some (.br (Nat.beq N N2 && (okOps N row && decide (N ≤ 4611686018427387904))) (.out (twoI (fndV (opsOf N row) o) (fndE (opsOf N row) o), [.rows own true 12 N (opRow (opsOf N row))])) .fail)
    | none => none
  | _, _ => none
theorem fndE2 (own : Bool) (N : Nat) (ls : List O3) (o : O3) (hl : ls.length = N) (hN : N ≤ 4611686018427387904) : exT ((Cpls Try.prog).at 16) 60 Try.f16 [.slice (some ⟨0, 0, some 0⟩) N 12, o.v] [.rows own true 12 N (opRow ls)] [.fix 0] = some (twoI (fndV ls o) (fndE ls o), [.rows own true 12 N (opRow ls)]) := by
  have ht : (Nat.beq N N && (okOps N (opRow ls) && decide (N ≤ 4611686018427387904))) = true := by rw [Nat.beq_refl, okOps_opRow]; simp; omega
  rw [fndE1, opsOf_row hl, ht, gd_true]
  unfold fndV fndE
  by_cases h : leastN (chkI ls) o.ck = 0
  · obtain ⟨h1, h2⟩ := leastN_zero.1 h
    rw [h1, h2]
    cases mHas (key o) (atsL ls 0 []) <;> rfl
  · rw [(bif_beq h).1]
    by_cases h1 : chkI ls = 0
    · rw [h1] at h ⊢
      rw [(bif_beq h).2]; rfl
    · rw [(bif_beq h1).2, (bif_beq h).2]; rfl
def Cfn (P : Program) : Cx := (Cpls P).addF 16 fndF
theorem okfn : CxOk (Cfn Try.prog) := Cx.addF_ok okpls fun args m ans v m' h hr => by
  unfold fndF at h
  split at h
  · rename_i co
    split at h
    · rename_i o ho
      simp only [Option.some.injEq] at h
      subst h
      rcases Ans.br_some hr with ⟨hc, hr1⟩ | ⟨_, hr1⟩
      · simp only [Ans.res, Option.some.injEq, Prod.mk.injEq] at hr1
        obtain ⟨rfl, rfl⟩ := hr1
        have e1 : co = o.cells.toArray := by rw [← opCells_spec ho]
        subst e1
        have hE := fndE0 o
        rw [hc] at hE
        exact exT_ok okpls Try.func16 (by kernel_rfl) hE
      · simp [Ans.res] at hr1
    · cases h
  · rename_i N co own N2 row
    split at h
    · rename_i o ho
      simp only [Option.some.injEq] at h
      subst h
      rcases Ans.br_some hr with ⟨hc, hr1⟩ | ⟨_, hr1⟩
      · clear hr
        simp only [Bool.and_eq_true, decide_eq_true_eq] at hc
        obtain ⟨c1, c2, c3⟩ := hc
        have c1 := beq_len c1
        subst c1
        simp only [Ans.res, Option.some.injEq, Prod.mk.injEq] at hr1
        obtain ⟨rfl, rfl⟩ := hr1
        have e1 : co = o.cells.toArray := by rw [← opCells_spec ho]
        subst e1
        exact (exT_ok okpls Try.func16 (by kernel_rfl) (fndE2 own N (opsOf N row) o (opsOf_length N row) c3)).like ⟨.rows (ops_like c2), trivial⟩
      · simp [Ans.res] at hr1
    · cases h
  · cases h
/-- Is a list in order, behind a map? -/
def ordF : O3 → List O3 → Bool
  | _, [] => true
  | p, x :: l => match decide (lexI p.l x.l ≥ 0) with
    | true => false
    | false => ordF x l
/-- Are all maps of a list, then a, among these? -/
def inMul (a : O3) (X : List O3) : List O3 → Bool
  | [] => true
  | b :: l => match decide (placeI X (a.mul5 b) < 0) with
    | true => false
    | false => inMul a X l
def inAll (X : List O3) : List O3 → Bool
  | [] => true
  | a :: l => match inMul a X X with
    | true => inAll X l
    | false => false

def ocX (P : Program) : Code := (loopsOf P 22 7).headD .skip
theorem ocX_eq : loopsOf Try.prog 22 7 = [ocX Try.prog] := by kernel_rfl
def ocH (own : Bool) (n : Nat) (xs : List O3) (i : Int) : St := stOf 58 [(0, .slice (some ⟨0, 0, some 0⟩) n 12), (2, vI 0), (4, vI i)] [.rows own true 12 n (opRow xs)]
theorem ocR (own : Bool) (n : Nat) (xs : List O3) (i : Int) : roundR ((Cfn Try.prog).into 22 1) 40 (ocX Try.prog) [0, 2, 4] [0, 2] [.fix 0] [.fix 0] (ocH own n xs i) =
    (match decide (i < (n : Int)) with
    | true => match boundsI (W (i - 1)) n with
      | true => match boundsI i n with
        | true => match decide (lexI (atO xs (W (i - 1))).l (atO xs i).l ≥ 0) with
          | true => some (.ret, stOf 58 [(0, .slice (some ⟨0, 0, some 0⟩) n 12), (2, vI 5)] [.rows own true 12 n (opRow xs)])
          | false => some (.normal, ocH own n xs (W (i + 1)))
        | false => none
      | false => none
    | false => some (.exit 0, stOf 58 [(0, .slice (some ⟨0, 0, some 0⟩) n 12), (2, vI 0)] [.rows own true 12 n (opRow xs)])) := by kernel_rfl
structure ocG where
  (own : Bool) (n : Nat) (xs : List O3) (i : Int)
def ocO (own : Bool) (n : Nat) (xs : List O3) (i : Int) : Exit × St :=
  match ordF (atO xs (i - 1)) (xs.drop i.toNat) with
  | true => (.exit 0, stOf 58 [(0, .slice (some ⟨0, 0, some 0⟩) n 12), (2, vI 0)] [.rows own true 12 n (opRow xs)])
  | false => (.ret, stOf 58 [(0, .slice (some ⟨0, 0, some 0⟩) n 12), (2, vI 5)] [.rows own true 12 n (opRow xs)])
theorem ocL (own : Bool) (n : Nat) (xs : List O3) (i : Int) (hg : 1 ≤ i ∧ (n : Int) ≤ 4611686018427387904 ∧ xs.length = n) : LoopSem Try.prog 1 (ocX Try.prog) (ocH own n xs i) (ocO own n xs i).1 (ocO own n xs i).2 := by
  refine loop_rule (C := Cfn Try.prog) okfn (f := 22) (B := 1) (loopsOf_in (k := 7) ocX_eq) 40 [0, 2, 4] [0, 2] [.fix 0] [.fix 0] (fun g : ocG => ocH g.own g.n g.xs g.i) (fun g => (g.n - g.i).toNat) (fun g => 1 ≤ g.i ∧ (g.n : Int) ≤ 4611686018427387904 ∧ g.xs.length = g.n) (fun g => ocO g.own g.n g.xs g.i) ?_ ⟨own, n, xs, i⟩ hg
  clear hg
  rintro ⟨own, n, xs, i⟩ hg
  simp only at hg
  simp only [ocR]
  obtain ⟨h0, h1, h2⟩ := hg
  by_cases hi : i < (n : Int)
  · have hd : decide (i < (n : Int)) = true := by simpa using hi
    have hb : boundsI i n = true := by simp [boundsI, hi]; omega
    have hw1 : W (i - 1) = i - 1 := W_in (by omega)
    have hb1 : boundsI (i - 1) n = true := by simp [boundsI]; omega
    have hdx := drop_at (xs := xs) (i := i) (by omega) (by omega)
    have hw : W (i + 1) = i + 1 := W_in (by omega)
    rw [hw1, hd, hb, hb1, hw]
    simp only
    cases he : decide (lexI (atO xs (i - 1)).l (atO xs i).l ≥ 0) with
    | true =>
      right
      unfold ocO
      simp only [hdx, ordF, he]
      exact ⟨trivial, by simp⟩
    | false =>
      left
      refine ⟨⟨own, n, xs, i + 1⟩, rfl, ⟨by simp only; omega, h1, h2⟩, by simp only; omega, ?_⟩
      unfold ocO
      simp only [hdx, ordF, he, show i + 1 - 1 = i by omega]
  · have hd : decide (i < (n : Int)) = false := by simpa using hi
    rw [hd]
    right
    have hn : xs.drop i.toNat = [] := List.drop_eq_nil_of_le (by omega)
    unfold ocO
    simp only [hn, ordF]
    exact ⟨trivial, by simp⟩
def ocS (st : St) : Option (Ans (Exit × St)) :=
  match sized st 58 1, tAt st 0, tAt st 2, tAt st 4, st.mem with
  | true, some (.slice (some ⟨0, 0, some 0⟩) n 12), some (.int .i64 0), some (.int .i64 i), [.rows own true 12 n2 row] => some (.br (Nat.beq n n2 && (okOps n row && (decide (1 ≤ i) && (decide ((n : Int) ≤ 4611686018427387904))))) (.br (ordF (atO (opsOf n row) (i - 1)) ((opsOf n row).drop i.toNat))
      (.out (.exit 0, stOf 58 [(0, .slice (some ⟨0, 0, some 0⟩) n 12), (2, vI 0)] [.rows own true 12 n (opRow (opsOf n row))]))
      (.out (.ret, stOf 58 [(0, .slice (some ⟨0, 0, some 0⟩) n 12), (2, vI 5)] [.rows own true 12 n (opRow (opsOf n row))]))) .fail)
  | _, _, _, _, _ => none
theorem ocK {st : St} {ans : Ans (Exit × St)} {e_ : Exit} {s_ : St} (h : ocS st = some ans) (hr : ans.res = some (e_, s_)) : LoopSem Try.prog 1 (ocX Try.prog) st e_ s_ := by
  unfold ocS at h
  split at h
  · rename_i n i own n2 row hb hs0 hs1 hs2 hm
    simp only [Option.some.injEq] at h
    subst h
    rcases Ans.br_some hr with ⟨hc, hr1⟩ | ⟨_, hr1⟩
    · clear hr
      simp only [Bool.and_eq_true] at hc
      obtain ⟨ht0, ht1, ht2, ht3⟩ := hc
      have ht0 := beq_len ht0
      subst ht0
      have hinv : 1 ≤ i ∧ (n : Int) ≤ 4611686018427387904 ∧ (opsOf n row).length = n := by
        exact ⟨by simpa using ht2, by simpa using ht3, opsOf_length n row⟩
      have hk := stOf_keep hb [(0, .slice (some ⟨0, 0, some 0⟩) n 12), (2, vI 0), (4, vI i)] (by
        intro x hx
        simp only [List.mem_cons, List.not_mem_nil, or_false] at hx
        rcases hx with rfl | rfl | rfl
        · exact hs0
        · exact hs1
        · exact hs2) hm
      have key := ocL own n (opsOf n row) i hinv
      unfold ocH at key
      have key := LoopSem.like (m := [.rows own true 12 n row]) key ⟨.rows (ops_like ht1), trivial⟩
      have key : LoopSem Try.prog 1 (ocX Try.prog) (stOf 58 [(0, .slice (some ⟨0, 0, some 0⟩) n 12), (2, vI 0), (4, vI i)] [.rows own true 12 n row]) _ _ := key
      rw [← hk] at key
      have key := LoopSem.clean key
      unfold ocO at key
      rcases Ans.br_some hr1 with ⟨hq, hr1⟩ | ⟨hq, hr1⟩
      · simp only [hq] at key
        simp only [Ans.res, Option.some.injEq, Prod.mk.injEq] at hr1
        obtain ⟨rfl, rfl⟩ := hr1
        exact key
      · simp only [hq] at key
        simp only [Ans.res, Option.some.injEq, Prod.mk.injEq] at hr1
        obtain ⟨rfl, rfl⟩ := hr1
        exact key
    · simp [Ans.res] at hr1
  · cases h

def ciX (P : Program) : Code := (loopsOf P 22 17).headD .skip
theorem ciX_eq : loopsOf Try.prog 22 17 = [ciX Try.prog] := by kernel_rfl
def ciH (own : Bool) (n : Nat) (xs : List O3) (a : O3) (i : Int) (j : Int) : St := stOf 58 [(0, .slice (some ⟨0, 0, some 0⟩) n 12), (2, vI 0), (6, .pointer (some ⟨1, 0, none⟩)), (38, .slice (some ⟨0, 0, some 0⟩) n 12), (39, vI n), (40, vI i), (44, .slice (some ⟨0, 0, some 0⟩) n 12), (45, vI n), (46, vI j)] [.rows own true 12 n (opRow xs), .cells true 0 a.cells]
theorem ciR (own : Bool) (n : Nat) (xs : List O3) (a : O3) (i : Int) (j : Int) : roundR ((Cfn Try.prog).into 22 1) 40 (ciX Try.prog) [0, 2, 6, 38, 39, 40, 44, 45, 46] [0, 2, 38, 39, 40] [.fix 0, .fix 1] [.fix 0] (ciH own n xs a i j) =
    (match decide (j < (n : Int)) with
    | true => match boundsI j n with
      | true => match (Nat.beq n n && (okOps n (opRow xs) && decide (n ≤ 4611686018427387904))) with
        | true => match decide (placeI (opsOf n (opRow xs)) (a.mul5 (atO xs j)) < 0) with
          | true => some (.ret, stOf 58 [(0, .slice (some ⟨0, 0, some 0⟩) n 12), (2, vI 5), (38, .slice (some ⟨0, 0, some 0⟩) n 12), (39, vI n), (40, vI i)] [.rows own true 12 n (opRow (opsOf n (opRow xs)))])
          | false => some (.normal, ciH own n (opsOf n (opRow xs)) a i (W (j + 1)))
        | false => none
      | false => none
    | false => some (.exit 4, stOf 58 [(0, .slice (some ⟨0, 0, some 0⟩) n 12), (2, vI 0), (38, .slice (some ⟨0, 0, some 0⟩) n 12), (39, vI n), (40, vI i)] [.rows own true 12 n (opRow xs)])) := by kernel_rfl
structure ciG where
  (own : Bool) (n : Nat) (xs : List O3) (a : O3) (i : Int) (j : Int)
def ciO (own : Bool) (n : Nat) (xs : List O3) (a : O3) (i : Int) (j : Int) : Exit × St :=
  match inMul a xs (xs.drop j.toNat) with
  | true => (.exit 4, stOf 58 [(0, .slice (some ⟨0, 0, some 0⟩) n 12), (2, vI 0), (38, .slice (some ⟨0, 0, some 0⟩) n 12), (39, vI n), (40, vI i)] [.rows own true 12 n (opRow xs)])
  | false => (.ret, stOf 58 [(0, .slice (some ⟨0, 0, some 0⟩) n 12), (2, vI 5), (38, .slice (some ⟨0, 0, some 0⟩) n 12), (39, vI n), (40, vI i)] [.rows own true 12 n (opRow xs)])
theorem ciL (own : Bool) (n : Nat) (xs : List O3) (a : O3) (i : Int) (j : Int) (hg : 0 ≤ j ∧ (n : Int) ≤ 4611686018427387904 ∧ xs.length = n) : LoopSem Try.prog 1 (ciX Try.prog) (ciH own n xs a i j) (ciO own n xs a i j).1 (ciO own n xs a i j).2 := by
  refine loop_rule (C := Cfn Try.prog) okfn (f := 22) (B := 1) (loopsOf_in (k := 17) ciX_eq) 40 [0, 2, 6, 38, 39, 40, 44, 45, 46] [0, 2, 38, 39, 40] [.fix 0, .fix 1] [.fix 0] (fun g : ciG => ciH g.own g.n g.xs g.a g.i g.j) (fun g => (g.n - g.j).toNat) (fun g => 0 ≤ g.j ∧ (g.n : Int) ≤ 4611686018427387904 ∧ g.xs.length = g.n) (fun g => ciO g.own g.n g.xs g.a g.i g.j) ?_ ⟨own, n, xs, a, i, j⟩ hg
  clear hg
  rintro ⟨own, n, xs, a, i, j⟩ hg
  simp only at hg
  simp only [ciR]
  obtain ⟨h0, h1, h2⟩ := hg
  rw [opsOf_row h2]
  by_cases hi : j < (n : Int)
  · have hd : decide (j < (n : Int)) = true := by simpa using hi
    have hb : boundsI j n = true := by simp [boundsI, h0, hi]
    have ht : (Nat.beq n n && (okOps n (opRow xs) && decide (n ≤ 4611686018427387904))) = true := by rw [Nat.beq_refl, okOps_opRow]; simp; omega
    have hdx := drop_at (xs := xs) h0 (by omega)
    have hw : W (j + 1) = j + 1 := W_in (by omega)
    rw [hd, hb, ht, hw]
    simp only
    cases he : decide (placeI xs (a.mul5 (atO xs j)) < 0) with
    | true =>
      right
      unfold ciO
      simp only [hdx, inMul, he]
      exact ⟨trivial, by simp⟩
    | false =>
      left
      refine ⟨⟨own, n, xs, a, i, j + 1⟩, rfl, ⟨by simp only; omega, h1, h2⟩, by simp only; omega, ?_⟩
      unfold ciO
      simp only [hdx, inMul, he]
  · have hd : decide (j < (n : Int)) = false := by simpa using hi
    rw [hd]
    right
    have hn : xs.drop j.toNat = [] := List.drop_eq_nil_of_le (by omega)
    unfold ciO
    simp only [hn, inMul]
    exact ⟨trivial, by simp⟩
def ciS (st : St) : Option (Ans (Exit × St)) :=
  match sized st 58 2, tAt st 0, tAt st 2, tAt st 6, tAt st 38, tAt st 39, tAt st 40, tAt st 44, tAt st 45, tAt st 46, st.mem with
  | true, some (.slice (some ⟨0, 0, some 0⟩) n 12), some (.int .i64 0), some (.pointer (some ⟨1, 0, none⟩)), some (.slice (some ⟨0, 0, some 0⟩) n3 12), some (.int .i64 l1), some (.int .i64 i), some (.slice (some ⟨0, 0, some 0⟩) n4 12), some (.int .i64 l2), some (.int .i64 j), [.rows own true 12 n2 row, .cells true 0 co] => some (.br (Nat.beq n n2 && (okOps n row && (Nat.beq n n3 && (Nat.beq n n4 && (decide ((n : Int) = l1) && (decide ((n : Int) = l2) && (decide (0 ≤ j) && (decide ((n : Int) ≤ 4611686018427387904) && (isO co))))))))) (.br (inMul (decO co) (opsOf n row) ((opsOf n row).drop j.toNat))
      (.out (.exit 4, stOf 58 [(0, .slice (some ⟨0, 0, some 0⟩) n 12), (2, vI 0), (38, .slice (some ⟨0, 0, some 0⟩) n 12), (39, vI n), (40, vI i)] [.rows own true 12 n (opRow (opsOf n row))]))
      (.out (.ret, stOf 58 [(0, .slice (some ⟨0, 0, some 0⟩) n 12), (2, vI 5), (38, .slice (some ⟨0, 0, some 0⟩) n 12), (39, vI n), (40, vI i)] [.rows own true 12 n (opRow (opsOf n row))]))) .fail)
  | _, _, _, _, _, _, _, _, _, _, _ => none
theorem ciK {st : St} {ans : Ans (Exit × St)} {e_ : Exit} {s_ : St} (h : ciS st = some ans) (hr : ans.res = some (e_, s_)) : LoopSem Try.prog 1 (ciX Try.prog) st e_ s_ := by
  unfold ciS at h
  split at h
  · rename_i n n3 l1 i n4 l2 j own n2 row co hb hs0 hs1 hs2 hs3 hs4 hs5 hs6 hs7 hs8 hm
    simp only [Option.some.injEq] at h
    subst h
    rcases Ans.br_some hr with ⟨hc, hr1⟩ | ⟨_, hr1⟩
    · clear hr
      simp only [Bool.and_eq_true] at hc
      obtain ⟨ht0, ht1, ht2, ht3, ht4, ht5, ht6, ht7, ht8⟩ := hc
      have ht0 := beq_len ht0
      have ht2 := beq_len ht2
      have ht3 := beq_len ht3
      have ht4 : (n : Int) = l1 := by simpa using ht4
      have ht5 : (n : Int) = l2 := by simpa using ht5
      subst ht0 ht2 ht3 ht4 ht5
      have hinv : 0 ≤ j ∧ (n : Int) ≤ 4611686018427387904 ∧ (opsOf n row).length = n := by
        exact ⟨by simpa using ht6, by simpa using ht7, opsOf_length n row⟩
      have hk := stOf_keep hb [(0, .slice (some ⟨0, 0, some 0⟩) n 12), (2, vI 0), (6, .pointer (some ⟨1, 0, none⟩)), (38, .slice (some ⟨0, 0, some 0⟩) n 12), (39, vI n), (40, vI i), (44, .slice (some ⟨0, 0, some 0⟩) n 12), (45, vI n), (46, vI j)] (by
        intro x hx
        simp only [List.mem_cons, List.not_mem_nil, or_false] at hx
        rcases hx with rfl | rfl | rfl | rfl | rfl | rfl | rfl | rfl | rfl
        · exact hs0
        · exact hs1
        · exact hs2
        · exact hs3
        · exact hs4
        · exact hs5
        · exact hs6
        · exact hs7
        · exact hs8) hm
      have key := ciL own n (opsOf n row) (decO co) i j hinv
      unfold ciH at key
      have key := LoopSem.like (m := [.rows own true 12 n row, .cells true 0 co]) key ⟨.rows (ops_like ht1), like_dec ht8, trivial⟩
      have key : LoopSem Try.prog 1 (ciX Try.prog) (stOf 58 [(0, .slice (some ⟨0, 0, some 0⟩) n 12), (2, vI 0), (6, .pointer (some ⟨1, 0, none⟩)), (38, .slice (some ⟨0, 0, some 0⟩) n 12), (39, vI n), (40, vI i), (44, .slice (some ⟨0, 0, some 0⟩) n 12), (45, vI n), (46, vI j)] [.rows own true 12 n row, .cells true 0 co]) _ _ := key
      rw [← hk] at key
      have key := LoopSem.clean key
      unfold ciO at key
      rcases Ans.br_some hr1 with ⟨hq, hr1⟩ | ⟨hq, hr1⟩
      · simp only [hq] at key
        simp only [Ans.res, Option.some.injEq, Prod.mk.injEq] at hr1
        obtain ⟨rfl, rfl⟩ := hr1
        exact key
      · simp only [hq] at key
        simp only [Ans.res, Option.some.injEq, Prod.mk.injEq] at hr1
        obtain ⟨rfl, rfl⟩ := hr1
        exact key
    · simp [Ans.res] at hr1
  · cases h

def Cci (P : Program) : Cx := ((Cfn P).addLB 22 7 1 ocS).addLB 22 17 1 ciS
theorem okci : CxOk (Cci Try.prog) := Cx.addLB_ok (Cx.addLB_ok okfn ocX_eq fun _ _ _ _ h hr => ocK h hr) ciX_eq fun _ _ _ _ h hr => ciK h hr
def ciT (n : Nat) (row : Nat → List Value) (co : List Value) : Bool := Nat.beq n n && (okOps n row && (Nat.beq n n && (Nat.beq n n && (decide ((n : Int) = (n : Int)) && (decide ((n : Int) = (n : Int)) && (decide ((0 : Int) ≤ 0) && (decide ((n : Int) ≤ 4611686018427387904) && isO co)))))))

def cuX (P : Program) : Code := (loopsOf P 22 14).headD .skip
theorem cuX_eq : loopsOf Try.prog 22 14 = [cuX Try.prog] := by kernel_rfl
def cuH (own : Bool) (n : Nat) (xs : List O3) (i : Int) : St := stOf 58 [(0, .slice (some ⟨0, 0, some 0⟩) n 12), (2, vI 0), (38, .slice (some ⟨0, 0, some 0⟩) n 12), (39, vI n), (40, vI i)] [.rows own true 12 n (opRow xs)]
theorem cuR (own : Bool) (n : Nat) (xs : List O3) (i : Int) : roundR ((Cci Try.prog).into 22 1) 40 (cuX Try.prog) [0, 2, 38, 39, 40] [0, 2] [.fix 0] [.fix 0] (cuH own n xs i) =
    (match decide (i < (n : Int)) with
    | true => match boundsI i n with
      | true => match ciT n (opRow xs) (atO xs i).cells with
        | true => match inMul (decO (atO xs i).cells) (opsOf n (opRow xs)) ((opsOf n (opRow xs)).drop (0 : Int).toNat) with
          | true => some (.normal, cuH own n (opsOf n (opRow xs)) (W (i + 1)))
          | false => some (.ret, stOf 58 [(0, .slice (some ⟨0, 0, some 0⟩) n 12), (2, vI 5)] [.rows own true 12 n (opRow (opsOf n (opRow xs)))])
        | false => none
      | false => none
    | false => some (.exit 2, stOf 58 [(0, .slice (some ⟨0, 0, some 0⟩) n 12), (2, vI 0)] [.rows own true 12 n (opRow xs)])) := by kernel_rfl
structure cuG where
  (own : Bool) (n : Nat) (xs : List O3) (i : Int)
def cuO (own : Bool) (n : Nat) (xs : List O3) (i : Int) : Exit × St :=
  match inAll xs (xs.drop i.toNat) with
  | true => (.exit 2, stOf 58 [(0, .slice (some ⟨0, 0, some 0⟩) n 12), (2, vI 0)] [.rows own true 12 n (opRow xs)])
  | false => (.ret, stOf 58 [(0, .slice (some ⟨0, 0, some 0⟩) n 12), (2, vI 5)] [.rows own true 12 n (opRow xs)])
theorem cuL (own : Bool) (n : Nat) (xs : List O3) (i : Int) (hg : 0 ≤ i ∧ (n : Int) ≤ 4611686018427387904 ∧ xs.length = n) : LoopSem Try.prog 1 (cuX Try.prog) (cuH own n xs i) (cuO own n xs i).1 (cuO own n xs i).2 := by
  refine loop_rule (C := Cci Try.prog) okci (f := 22) (B := 1) (loopsOf_in (k := 14) cuX_eq) 40 [0, 2, 38, 39, 40] [0, 2] [.fix 0] [.fix 0] (fun g : cuG => cuH g.own g.n g.xs g.i) (fun g => (g.n - g.i).toNat) (fun g => 0 ≤ g.i ∧ (g.n : Int) ≤ 4611686018427387904 ∧ g.xs.length = g.n) (fun g => cuO g.own g.n g.xs g.i) ?_ ⟨own, n, xs, i⟩ hg
  clear hg
  rintro ⟨own, n, xs, i⟩ hg
  simp only at hg
  simp only [cuR]
  obtain ⟨h0, h1, h2⟩ := hg
  rw [opsOf_row h2, decO_cells]
  by_cases hi : i < (n : Int)
  · have hd : decide (i < (n : Int)) = true := by simpa using hi
    have hb : boundsI i n = true := by simp [boundsI, h0, hi]
    have ht : ciT n (opRow xs) (atO xs i).cells = true := by unfold ciT; rw [Nat.beq_refl, okOps_opRow, isO_cells]; simp; omega
    have hdx := drop_at (xs := xs) h0 (by omega)
    have hw : W (i + 1) = i + 1 := W_in (by omega)
    rw [hd, hb, ht, hw]
    simp only [Int.toNat_zero, List.drop_zero]
    cases he : inMul (atO xs i) xs xs with
    | true =>
      left
      refine ⟨⟨own, n, xs, i + 1⟩, rfl, ⟨by simp only; omega, h1, h2⟩, by simp only; omega, ?_⟩
      unfold cuO
      simp only [hdx, inAll, he]
    | false =>
      right
      unfold cuO
      simp only [hdx, inAll, he]
      exact ⟨trivial, by simp⟩
  · have hd : decide (i < (n : Int)) = false := by simpa using hi
    rw [hd]
    right
    have hn : xs.drop i.toNat = [] := List.drop_eq_nil_of_le (by omega)
    unfold cuO
    simp only [hn, inAll]
    exact ⟨trivial, by simp⟩
def cuS (st : St) : Option (Ans (Exit × St)) :=
  match sized st 58 1, tAt st 0, tAt st 2, tAt st 38, tAt st 39, tAt st 40, st.mem with
  | true, some (.slice (some ⟨0, 0, some 0⟩) n 12), some (.int .i64 0), some (.slice (some ⟨0, 0, some 0⟩) n3 12), some (.int .i64 l1), some (.int .i64 i), [.rows own true 12 n2 row] => some (.br (Nat.beq n n2 && (okOps n row && (Nat.beq n n3 && (decide ((n : Int) = l1) && (decide (0 ≤ i) && (decide ((n : Int) ≤ 4611686018427387904))))))) (.br (inAll (opsOf n row) ((opsOf n row).drop i.toNat))
      (.out (.exit 2, stOf 58 [(0, .slice (some ⟨0, 0, some 0⟩) n 12), (2, vI 0)] [.rows own true 12 n (opRow (opsOf n row))]))
      (.out (.ret, stOf 58 [(0, .slice (some ⟨0, 0, some 0⟩) n 12), (2, vI 5)] [.rows own true 12 n (opRow (opsOf n row))]))) .fail)
  | _, _, _, _, _, _, _ => none
theorem cuK {st : St} {ans : Ans (Exit × St)} {e_ : Exit} {s_ : St} (h : cuS st = some ans) (hr : ans.res = some (e_, s_)) : LoopSem Try.prog 1 (cuX Try.prog) st e_ s_ := by
  unfold cuS at h
  split at h
  · rename_i n n3 l1 i own n2 row hb hs0 hs1 hs2 hs3 hs4 hm
    simp only [Option.some.injEq] at h
    subst h
    rcases Ans.br_some hr with ⟨hc, hr1⟩ | ⟨_, hr1⟩
    · clear hr
      simp only [Bool.and_eq_true] at hc
      obtain ⟨ht0, ht1, ht2, ht3, ht4, ht5⟩ := hc
      have ht0 := beq_len ht0
      have ht2 := beq_len ht2
      have ht3 : (n : Int) = l1 := by simpa using ht3
      subst ht0 ht2 ht3
      have hinv : 0 ≤ i ∧ (n : Int) ≤ 4611686018427387904 ∧ (opsOf n row).length = n := by
        exact ⟨by simpa using ht4, by simpa using ht5, opsOf_length n row⟩
      have hk := stOf_keep hb [(0, .slice (some ⟨0, 0, some 0⟩) n 12), (2, vI 0), (38, .slice (some ⟨0, 0, some 0⟩) n 12), (39, vI n), (40, vI i)] (by
        intro x hx
        simp only [List.mem_cons, List.not_mem_nil, or_false] at hx
        rcases hx with rfl | rfl | rfl | rfl | rfl
        · exact hs0
        · exact hs1
        · exact hs2
        · exact hs3
        · exact hs4) hm
      have key := cuL own n (opsOf n row) i hinv
      unfold cuH at key
      have key := LoopSem.like (m := [.rows own true 12 n row]) key ⟨.rows (ops_like ht1), trivial⟩
      have key : LoopSem Try.prog 1 (cuX Try.prog) (stOf 58 [(0, .slice (some ⟨0, 0, some 0⟩) n 12), (2, vI 0), (38, .slice (some ⟨0, 0, some 0⟩) n 12), (39, vI n), (40, vI i)] [.rows own true 12 n row]) _ _ := key
      rw [← hk] at key
      have key := LoopSem.clean key
      unfold cuO at key
      rcases Ans.br_some hr1 with ⟨hq, hr1⟩ | ⟨hq, hr1⟩
      · simp only [hq] at key
        simp only [Ans.res, Option.some.injEq, Prod.mk.injEq] at hr1
        obtain ⟨rfl, rfl⟩ := hr1
        exact key
      · simp only [hq] at key
        simp only [Ans.res, Option.some.injEq, Prod.mk.injEq] at hr1
        obtain ⟨rfl, rfl⟩ := hr1
        exact key
    · simp [Ans.res] at hr1
  · cases h
def Ccu (P : Program) : Cx := (Cci P).addLB 22 14 1 cuS
theorem okcu : CxOk (Ccu Try.prog) := Cx.addLB_ok okci cuX_eq fun _ _ _ _ h hr => cuK h hr
end Go.Proofs.Ytneaibkfglfpaaa
