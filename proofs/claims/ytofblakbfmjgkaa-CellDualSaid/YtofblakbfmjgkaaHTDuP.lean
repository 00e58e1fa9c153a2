/-
  CellDual answers true. Nothing here is trusted.
-/
import Derived.Test.YtofblakbfmjgkaaHTDu
namespace Go.Proofs.Ytofblakbfmjgkaa
open Go Vx Go.RowKit
set_option maxRecDepth 100000 in
theorem duIn {k : Nat} : InBody ((Cy Rd Try.prog).into 8 0) (seqDrop k (duB Try.prog)) := bodyOf_in (C := Cy Rd Try.prog) (f := 8) (B := 0) (k := k) (fn := Try.f8) (b := duB Try.prog) Try.func8 duB_eq
set_option maxRecDepth 100000 in
theorem duInS {k : Nat} : InBody ((Cy Rd Try.prog).into 8 0) (stmt k (duB Try.prog)) := stmt_in (C := Cy Rd Try.prog) (f := 8) (B := 0) (k := k) (fn := Try.f8) (b := duB Try.prog) Try.func8 duB_eq
theorem duInX : InBody ((Cy Rd Try.prog).into 8 0) (duX Try.prog) := duInS.right.left
theorem duDrop {c : Code} (h : InBody ((Cy Rd Try.prog).into 8 0) c) (k : Nat) : InBody ((Cy Rd Try.prog).into 8 0) (seqDrop k c) := h.sub (seqDrop_loops k c)
theorem duStm {c : Code} (h : InBody ((Cy Rd Try.prog).into 8 0) c) (k : Nat) : InBody ((Cy Rd Try.prog).into 8 0) (stmt k c) := h.sub fun x hx => by
  refine seqDrop_loops k c x ?_
  unfold stmt at hx
  cases hc : seqDrop k c with
  | seq p q => rw [hc] at hx; simp only at hx; simp [loopsIn, hx]
  | _ => rw [hc] at hx; simp [loopsIn] at hx
theorem forH_in {c : Code} (h : InBody ((Cy Rd Try.prog).into 8 0) c) : InBody ((Cy Rd Try.prog).into 8 0) (forHead c) := h.sub fun x hx => by
  unfold forHead at hx
  split at hx
  · simp [loopsIn, hx]
  · simp [loopsIn] at hx
theorem forB_in {c : Code} (h : InBody ((Cy Rd Try.prog).into 8 0) c) : InBody ((Cy Rd Try.prog).into 8 0) (forBody c) := h.sub fun x hx => by
  unfold forBody at hx
  split at hx
  · simp [loopsIn, hx]
  · simp [loopsIn] at hx
theorem duLoop (m : G6) (h u : V3) (s : Q2) (x y : Int) : ∀ (b a : Nat), 0 < a → LoopSem Try.prog 0 (forBody (stmt 1 (duX Try.prog))) (duL m h u s x y (a : Int) (b : Int)) (.exit 0) (duA m h u s (W (x.tdiv ((Nat.gcd a b : Nat) : Int))) (W (y.tdiv ((Nat.gcd a b : Nat) : Int)))) := by
  intro b
  induction b using Nat.strongRecOn with
  | _ b ih =>
    intro a ha
    have hr := duAR Rd m h u s x y (a : Int) (b : Int)
    by_cases hb : b = 0
    · subst hb
      rw [show ((a : Int) == 0) = false by simp; omega] at hr
      rw [Nat.gcd_zero_right]
      exact loop_leave (C := Cy Rd Try.prog) oky (f := 8) (B := 0) (forB_in (duStm duInX 1)) hr (by simp)
    · rw [show ((b : Int) == 0) = false by simp; omega, tmod_nat] at hr
      have := ih (a % b) (Nat.mod_lt _ (by omega)) b (by omega)
      rw [gcd_next] at this
      exact loop_next (C := Cy Rd Try.prog) oky (f := 8) (B := 0) (forB_in (duStm duInX 1)) hr (StLike.refl _) this
/-- The middle part: an edge's index against the edges. -/
theorem duMid (m : G6) (h u : V3) (s : Q2) {x y : Int} (hx : 0 < x) (hy : 0 < y) (h1 : s.cmpE (low x y) = 0) (h2 : 0 ≤ s.cmpF (low x y)) : CodeSem Try.prog 0 (seqDrop 1 (duX Try.prog)) (duA m h u s x y) .normal (du8 m h u s) := by
  have hl := duLoop m h u s x y y.toNat x.toNat (by omega)
  rw [Int.toNat_of_nonneg (Int.le_of_lt hx), Int.toNat_of_nonneg (Int.le_of_lt hy)] at hl
  have hl : LoopSem Try.prog 0 (forBody (stmt 1 (duX Try.prog))) (duL m h u s x y x y) (.exit 0) (duA m h u s (low x y).num (low x y).den) := hl
  refine stmt_rule duHas.2.2.2.2 (for_rule duAFor (end_rule' (C := Cy Rd Try.prog) oky (f := 8) (B := 0) (forH_in (duStm duInX 1)) (duAH Rd m h u s x y)) hl) ?_
  refine seg_rule (C := Cy Rd Try.prog) oky (f := 8) (B := 0) (k := 1) (duDrop duInX 2) (duA2 Rd m h u s _ _) ?_
  rw [seqDrop_drop]
  have e := duA3 Rd m h u s (Rd.c s (low x y)) (Rd.g s (low x y))
  rw [show (Rd.g s (low x y) != 0) = false from (by show (s.cmpE (low x y) != 0) = false; rw [h1]; rfl), show decide (Rd.c s (low x y) < 0) = false from decide_eq_false (by show ¬ s.cmpF (low x y) < 0; omega)] at e
  exact end_rule' (C := Cy Rd Try.prog) oky (f := 8) (B := 0) (duDrop duInX 3) e
theorem du_hs {n dd : Int} (hn : 0 ≤ n) (hn1 : n ≤ 9000000000000000000) (hd : 0 < dd) (hd1 : dd ≤ 9000000000000000000) (k : Int → Int → Int → Option (Exit × St)) : hs1 n dd dd k = k (hv ⟨n, dd⟩).num (hv ⟨n, dd⟩).den (hv ⟨n, dd⟩).den := by
  unfold hs1
  rw [Int.tmod_eq_emod_of_nonneg (Int.le_of_lt hd)]
  by_cases h : dd % 2 = 0
  · rw [show (dd % 2 == 0) = true by simpa using h]
    by_cases h2 : n > 0
    · rw [decide_eq_true h2, hv_e h h2, Int.tdiv_eq_ediv_of_nonneg hn, Int.tdiv_eq_ediv_of_nonneg (Int.le_of_lt hd), W_in (n := n / 2) (by omega), W_in (n := dd / 2) (by omega)]
    · rw [decide_eq_false h2]
      have : hv ⟨n, dd⟩ = ⟨n, dd⟩ := if_neg fun k => h2 k.2
      rw [this]
  · rw [show (dd % 2 == 0) = false by simpa using h, hv_o h]
theorem hv_bounds {q : Q2} (h0 : 0 ≤ q.num) (h1 : 0 < q.den) : 0 ≤ (hv q).num ∧ (hv q).num ≤ q.num ∧ 0 < (hv q).den ∧ (hv q).den ≤ q.den := by
  unfold hv
  split
  · simp only; omega
  · omega
theorem du_hs' (q : Q2) (hn : 0 ≤ q.num) (hn1 : q.num ≤ 9000000000000000000) (hd : 0 < q.den) (hd1 : q.den ≤ 9000000000000000000) (k : Int → Int → Int → Option (Exit × St)) : hs1 q.num q.den q.den k = k (hv q).num (hv q).den (hv q).den := du_hs hn hn1 hd hd1 k
theorem duE11' (s t n fo : Q2) (h0 : 0 ≤ fo.num) (h1 : fo.num ≤ 9000000000000000000) (h2 : 0 < fo.den) (h3 : fo.den ≤ 9000000000000000000) : roundR ((Cy Rd Try.prog).into 8 0) 60 (stmt 11 (duB Try.prog)) [7, 8, 10, 18, 19, 20, 21] [6] [.slot 7, .slot 18, .slot 19, .slot 20] [] (du11 s t n 0 0 fo fo.den) = some (.normal, du11 s t n 0 0 (hv (hv fo)) (hv (hv fo)).den) := by
  have e := duE11 Rd s t n 0 0 fo fo.den
  have b := hv_bounds h0 h2
  rw [du_hs' fo h0 h1 h2 h3, du_hs' (hv fo) b.1 (by omega) b.2.2.1 (by omega)] at e
  exact e
set_option maxRecDepth 100000 in
theorem duBody (m : G6) (h u : V3) : CodeSem Try.prog 0 (duB Try.prog) (enter Try.f8 [m.v, h.v, u.v] []) .ret (duRet true) := by
  refine seg_rule (C := Cy Rd Try.prog) oky (f := 8) (B := 0) (k := 3) (Or.inl ⟨Try.f8, duB Try.prog, Try.func8, duB_eq, fun _ hx => hx⟩) (duE1 Rd m h u) ?_
  have e3 := duE3 Rd m h u (Rd.s m h) (Rd.e m h)
  by_cases hc : m.spE h = 0 ∧ u.fewB = true ∧ h.fewB = true
  · obtain ⟨he, hu, hh⟩ := hc
    rw [show (Rd.e m h != 0) = false from (by show (m.spE h != 0) = false; rw [he]; rfl), show Rd.w u = true from hu, show Rd.w h = true from hh] at e3
    refine stmt_rule duHas.1 (end_rule' (C := Cy Rd Try.prog) oky (f := 8) (B := 0) duInS e3) ?_
    obtain ⟨hm, hidx⟩ := spE_zero he
    obtain ⟨hb, hp, _⟩ := G6.mck_zero hm
    have hs : Rd.s m h = low (m.adj.dot h h) m.det := by show m.spF h = _; unfold G6.spF; rw [he]; rfl
    have fu := V3.few_iff.1 hu
    have fh := V3.few_iff.1 hh
    have a0 := Pos.adj_nn hp h
    have d0 := hp.det
    have d1 := hb.det
    have a1 := adj_bound hb (h := h) (fh.mono (by omega))
    have sp := low_spec a0 (by omega) d0 (by omega)
    rw [hs]
    refine seg_rule (C := Cy Rd Try.prog) oky (f := 8) (B := 0) (k := 2) duIn (duE4 Rd m h u _) ?_
    rw [seqDrop_drop]
    have u1 : u.in1 = true := V3.in1_iff.2 (fu.mono (by omega))
    obtain ⟨q1, q2⟩ := dotE_of hm u1 u1
    have hpr : dotR h.x h.y h.z u.x u.y u.z = h.pr u := by
      rw [dotR_W]
      have := dot_bd (m := 40) (n := 40) fh.1 fh.2.1 fh.2.2 fu.1 fu.2.1 fu.2.2
      exact W_in (by omega)
    rw [show Rd.d m u u = m.dot u u from q2, show Rd.f m u u = 0 from q1, hpr]
    have e6 := duE6 Rd m h u (low (m.adj.dot h h) m.det) (m.dot u u) 0 (h.pr u)
    have s0 := sp.n0
    have s1 := sp.d0
    rw [show ((0 : Int) != 0) = false from rfl, show decide ((low (m.adj.dot h h) m.det).num < 0) = false from decide_eq_false (by omega), show decide ((low (m.adj.dot h h) m.det).den < 1) = false from decide_eq_false (by omega)] at e6
    refine stmt_rule duHas.2.1 (end_rule' (C := Cy Rd Try.prog) oky (f := 8) (B := 0) duInS e6) ?_
    have hprb := dot_bd (m := 40) (n := 40) fh.1 fh.2.1 fh.2.2 fu.1 fu.2.1 fu.2.2
    have hprb : -4800 ≤ h.pr u ∧ h.pr u ≤ 4800 := hprb
    have hsq := bd_mul hprb hprb
    have uub := dot_bound hb fu fu
    have mid : CodeSem Try.prog 0 (stmt 7 (duB Try.prog)) (du7 m h u (low (m.adj.dot h h) m.det) (m.dot u u) (h.pr u)) .normal (du8 m h u (low (m.adj.dot h h) m.det)) := by
      rw [duX_eq]
      have e7 := duE7 Rd m h u (low (m.adj.dot h h) m.det) (m.dot u u) (h.pr u)
      by_cases c1 : m.dot u u > 0
      · rw [decide_eq_true c1] at e7
        by_cases c2 : h.pr u = 0
        · rw [show (h.pr u != 0) = false by simpa using c2] at e7
          refine CodeSem.seq (end_rule' (C := Cy Rd Try.prog) oky (f := 8) (B := 0) duInS.left e7) (CodeSem.condF rfl ?_)
          exact end_rule' (C := Cy Rd Try.prog) oky (f := 8) (B := 0) (n := 60) (mask := [3, 4, 5, 7]) (mout := [3, 4, 5, 7]) (sp := [.slot 3, .slot 4, .slot 5, .slot 7]) (so := [.slot 3, .slot 4, .slot 5, .slot 7]) (Or.inl ⟨Try.f8, duB Try.prog, Try.func8, duB_eq, fun x hx => by simp [loopsIn] at hx⟩) rfl
        · rw [show (h.pr u != 0) = true by simpa using c2] at e7
          refine CodeSem.seq (end_rule' (C := Cy Rd Try.prog) oky (f := 8) (B := 0) duInS.left e7) (CodeSem.condT rfl ?_)
          refine seg_rule (C := Cy Rd Try.prog) oky (f := 8) (B := 0) (k := 1) duInX (duA0 Rd m h u _ _ _) ?_
          rw [W_in (n := h.pr u * h.pr u) (by omega)]
          have hx := sqp c2
          obtain ⟨c3, c4⟩ := dual_cmp a0 (by omega) d0 (by omega) (Int.le_of_lt hx) (by omega) c1 (by omega) (dual_cs hp h u)
          exact duMid m h u _ hx c1 c3 c4
      · rw [decide_eq_false c1] at e7
        refine CodeSem.seq (end_rule' (C := Cy Rd Try.prog) oky (f := 8) (B := 0) duInS.left e7) (CodeSem.condF rfl ?_)
        exact end_rule' (C := Cy Rd Try.prog) oky (f := 8) (B := 0) (n := 60) (mask := [3, 4, 5, 7]) (mout := [3, 4, 5, 7]) (sp := [.slot 3, .slot 4, .slot 5, .slot 7]) (so := [.slot 3, .slot 4, .slot 5, .slot 7]) (Or.inl ⟨Try.f8, duB Try.prog, Try.func8, duB_eq, fun x hx => by simp [loopsIn] at hx⟩) rfl
    refine stmt_rule duHas.2.2.1 mid ?_
    refine seg_rule (C := Cy Rd Try.prog) oky (f := 8) (B := 0) (k := 3) duIn (duE8 Rd m h u _) ?_
    rw [seqDrop_drop]
    obtain ⟨⟨hx0, hx1⟩, ⟨hy0, hy1⟩, ⟨hz0, hz1⟩⟩ := fh
    rw [W_in (n := 2 * h.x) (by omega), W_in (n := 2 * h.y) (by omega), W_in (n := 2 * h.z) (by omega), W_in (n := 0 - h.x) (by omega), W_in (n := 0 - h.y) (by omega), W_in (n := 0 - h.z) (by omega),
      Int.zero_sub, Int.zero_sub, Int.zero_sub]
    have hs4 := sp.n1
    rw [W_in (n := 4 * (low (m.adj.dot h h) m.det).num) (by omega)]
    have i2 : (V3.mk (2 * h.x) (2 * h.y) (2 * h.z)).idx = true := V3.idx_iff2.2 (by unfold V3.Bd; simp only; omega)
    have im : (V3.mk (-h.x) (-h.y) (-h.z)).idx = true := V3.idx_iff2.2 (by unfold V3.Bd; simp only; omega)
    have t2 : m.spE ⟨2 * h.x, 2 * h.y, 2 * h.z⟩ = 0 := by unfold G6.spE; rw [i2]; exact hm
    have tm : m.spE ⟨-h.x, -h.y, -h.z⟩ = 0 := by unfold G6.spE; rw [im]; exact hm
    have v2 : Rd.s m ⟨2 * h.x, 2 * h.y, 2 * h.z⟩ = low (4 * m.adj.dot h h) m.det := by show m.spF _ = _; unfold G6.spF; rw [t2, adj_two]; rfl
    have vm : Rd.s m ⟨-h.x, -h.y, -h.z⟩ = low (m.adj.dot h h) m.det := by show m.spF _ = _; unfold G6.spF; rw [tm, adj_minus]; rfl
    rw [v2, vm, show Rd.e m ⟨2 * h.x, 2 * h.y, 2 * h.z⟩ = 0 from t2, show Rd.e m ⟨-h.x, -h.y, -h.z⟩ = 0 from tm]
    have d11 := sp.d1
    have e11 := duE11' (low (m.adj.dot h h) m.det) (low (4 * m.adj.dot h h) m.det) (low (m.adj.dot h h) m.det) ⟨4 * (low (m.adj.dot h h) m.det).num, (low (m.adj.dot h h) m.det).den⟩ (by simp only; omega) (by simp only; omega) (by simp only; omega) (by simp only; omega)
    rw [four_low a0 (by omega) d0 (by omega)] at e11
    refine stmt_rule duHas.2.2.2.1 (end_rule' (C := Cy Rd Try.prog) oky (f := 8) (B := 0) duInS e11) ?_
    have e12 := duE12 Rd (low (m.adj.dot h h) m.det) (low (4 * m.adj.dot h h) m.det) (low (m.adj.dot h h) m.det) 0 0 (low (4 * m.adj.dot h h) m.det) (low (4 * m.adj.dot h h) m.det).den
    rw [show ((0 : Int) == 0) = true from rfl, Q2.eqB_refl, Q2.eqB_refl] at e12
    exact end_rule' (C := Cy Rd Try.prog) oky (f := 8) (B := 0) duIn e12
  · have e3 : _ = some (Exit.ret, duRet true) := e3.trans (by
      unfold duT
      show (match m.spE h != 0 with
        | true => _
        | false => match !(u.fewB) with
          | true => _
          | false => match !(h.fewB) with
            | true => _
            | false => _) = _
      by_cases h1 : m.spE h = 0
      · cases h2 : u.fewB with
        | false => rw [h1, show Rd.e m h = 0 from h1, show Rd.w u = false from h2]; rfl
        | true => cases h3 : h.fewB with
          | false => rw [h1, show Rd.e m h = 0 from h1, show Rd.w u = true from h2, show Rd.w h = false from h3]; rfl
          | true => exact absurd ⟨h1, h2, h3⟩ hc
      · rw [(bif_beq h1).2, show (Rd.e m h != 0) = true from (bif_beq h1).2])
    exact stmt_out duHas.1 (end_rule' (C := Cy Rd Try.prog) oky (f := 8) (B := 0) duInS e3) (by simp)
theorem duS (m : G6) (_ : ∀ x ∈ [m.aa, m.bb, m.cc, m.bc, m.ac, m.ab], (Lit.int .i64 x).wf = true) (h : V3) (_ : ∀ x ∈ [h.x, h.y, h.z], (Lit.int .i64 x).wf = true) (u : V3) (_ : ∀ x ∈ [u.x, u.y, u.z], (Lit.int .i64 x).wf = true) : PlainSem Try.prog 8 [m.v, h.v, u.v] (.bool true) := by
  have hm : MemSem Try.prog 8 [m.v, h.v, u.v] [] (.bool true) [] := body_mem (f := 8) Try.func8 duB_eq (by kernel_rfl) (duBody m h u) (duRetA true)
  exact hm.plain (by intro x hx; simp only [List.mem_cons, List.not_mem_nil, or_false] at hx; rcases hx with rfl | rfl | rfl <;> rfl) rfl
end Go.Proofs.Ytofblakbfmjgkaa
