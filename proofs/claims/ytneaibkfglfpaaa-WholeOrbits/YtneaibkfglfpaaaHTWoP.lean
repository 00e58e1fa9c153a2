/-
  facettop.WholeOrbits answers true: with seeds. Nothing here is trusted.
-/
import Derived.Test.YtneaibkfglfpaaaHTWoB
namespace Go.Proofs.Ytneaibkfglfpaaa
open Go Vx Go.RowKit
theorem lexI_neg1 : ∀ {l m : List Int}, lexI l m < 0 → lexI l m = -1
  | [], [], h => by simp [lexI] at h
  | [], _ :: _, h => by simp [lexI] at h
  | _ :: _, [], h => by simp [lexI] at h
  | a :: l, b :: m, h => by
    simp only [lexI] at h ⊢
    by_cases h1 : a < b
    · rw [if_pos h1]
    · rw [if_neg h1] at h ⊢
      by_cases h2 : a > b
      · rw [if_pos h2] at h; omega
      · rw [if_neg h2] at h ⊢; exact lexI_neg1 h
theorem isF_prt (k : Int) : isF (prt k) = true := by
  unfold prt
  have h : k.toNat % 4 < 4 := Nat.mod_lt _ (by omega)
  generalize k.toNat % 4 = r at h
  match r, h with
  | 0, _ => decide
  | 1, _ => decide
  | 2, _ => decide
  | 3, _ => decide
  | r + 4, h => omega
theorem place_form {m : Int} (h : isF m = true) (v : V3) : (P3.place m v).form = true := by
  unfold P3.place
  rw [h]
  simp only [cond_true]
  unfold P3.form
  rw [Bool.and_eq_true]
  exact ⟨h, V3.eqB_iff.2 (md_md m v).symm⟩
set_option maxRecDepth 100000 in
theorem woIn10 : InBody ((Cwo Try.prog).into 11 1) (forHead (stmt 10 (woB Try.prog))) ∧ InBody ((Cwo Try.prog).into 11 1) (forBody (stmt 10 (woB Try.prog))) := for_in (C := Cwo Try.prog) (f := 11) (B := 1) (id := 0) (k := 10) (fn := Try.f11) (b := woB Try.prog) Try.func11 woB_eq woFor.1
set_option maxRecDepth 100000 in
theorem woIn12 : InBody ((Cwo Try.prog).into 11 1) (forHead (stmt 12 (woB Try.prog))) ∧ InBody ((Cwo Try.prog).into 11 1) (forBody (stmt 12 (woB Try.prog))) := for_in (C := Cwo Try.prog) (f := 11) (B := 1) (id := 2) (k := 12) (fn := Try.f11) (b := woB Try.prog) Try.func11 woB_eq woFor.2.1
set_option maxRecDepth 100000 in
theorem woIn18 : InBody ((Cwo Try.prog).into 11 1) (forHead (stmt 18 (woB Try.prog))) ∧ InBody ((Cwo Try.prog).into 11 1) (forBody (stmt 18 (woB Try.prog))) := for_in (C := Cwo Try.prog) (f := 11) (B := 1) (id := 4) (k := 18) (fn := Try.f11) (b := woB Try.prog) Try.func11 woB_eq woFor.2.2
theorem woLA (own : Bool) (n : Nat) (ss : List Sd) (pk : Int) (c : Nat) (G : List O3) (p : P3) (a : Nat) (A : List P3) (k : Nat) (s : List Int) (ha : a ≤ 500) (hord : ∀ r, r + 1 < a → (atP A r).ordV (atP A (r + 1)) = -1 ∧ (atP A r).ordE (atP A (r + 1)) = 0) : ∀ (m i : Nat) (hit : Bool), a - i ≤ m → i ≤ a → LoopSem Try.prog 1 (forBody (stmt 10 (woB Try.prog))) (woA own n ss pk c G p a A k s hit (i : Int)) (.exit 0) (woA0 own n ss pk c G p a A k s (fdF p A (a - i) i hit)) := by
  intro m
  have out : ∀ (i : Nat) (hit : Bool), i = a → LoopSem Try.prog 1 (forBody (stmt 10 (woB Try.prog))) (woA own n ss pk c G p a A k s hit (i : Int)) (.exit 0) (woA0 own n ss pk c G p a A k s (fdF p A (a - i) i hit)) := by
    intro i hit hi
    have hr := woRA own n ss pk c G p a A k s hit i
    rw [show decide ((i : Int) < (a : Int)) = false by simp; omega] at hr
    rw [show a - i = 0 by omega]
    exact loop_leave (C := Cwo Try.prog) okwo (f := 11) (B := 1) woIn10.2 hr (by simp)
  induction m with
  | zero => intro i hit h1 h2; exact out i hit (by omega)
  | succ m ih =>
    intro i hit h1 h2
    by_cases hi : i < a
    · have hn : ∀ h : Bool, woAn own n ss pk c G p a A k s h i = some (.normal, woA own n ss pk c G p a A k s h ((i + 1 : Nat) : Int)) := fun h => by
        unfold woAn
        rw [W_succ (by omega)]
        by_cases h0 : i = 0
        · subst h0
          rfl
        · obtain ⟨j, rfl⟩ : ∃ j, i = j + 1 := ⟨i - 1, by omega⟩
          have hw : W (((j + 1 : Nat) : Int) - 1) = (j : Int) := by rw [W_in (by omega)]; omega
          obtain ⟨o1, o2⟩ := hord j hi
          rw [show decide (((j + 1 : Nat) : Int) > 0) = true from decide_eq_true (by omega), hw, bd_ok' (show j < a by omega), bd_ok' hi, Int.toNat_natCast, o1, o2]
          rfl
      have hr := woRA own n ss pk c G p a A k s hit i
      rw [show decide ((i : Int) < (a : Int)) = true by simpa using hi, bd_ok' hi, hn, hn] at hr
      simp only [gd_true] at hr
      rw [show a - i = (a - (i + 1)) + 1 by omega]
      simp only [fdF]
      cases hb : (atP A i).eqB p with
      | true =>
        rw [hb] at hr
        exact loop_next (C := Cwo Try.prog) okwo (f := 11) (B := 1) woIn10.2 hr (StLike.refl _) (ih (i + 1) true (by omega) (by omega))
      | false =>
        rw [hb] at hr
        exact loop_next (C := Cwo Try.prog) okwo (f := 11) (B := 1) woIn10.2 hr (StLike.refl _) (ih (i + 1) hit (by omega) (by omega))
    · exact out i hit (by omega)
theorem woLR (own : Bool) (n : Nat) (ss : List Sd) (pk : Int) (G : List O3) (p : P3) (a : Nat) (A : List P3) (s : List Int) (hit : Bool) (hl : s.length ≤ 500) (hs : ∀ x ∈ s, (0 ≤ x ∧ x < (G.length : Int)) ∧ (atO G x).appE p = 0 ∧ (atO G x).appF p = p) : ∀ (m i : Nat) (Z : List O3), s.length - i ≤ m → i ≤ s.length → Z.length ≤ i → LoopSem Try.prog 1 (forBody (stmt 12 (woB Try.prog))) (woBR own n ss pk G.length G p a A s.length s hit Z.length (opRow Z) (i : Int)) (.exit 2) (woBX own n ss pk G.length G p a A hit (Z ++ (s.drop i).map (atO G)).length (opRow (Z ++ (s.drop i).map (atO G)))) := by
  intro m
  have out : ∀ (i : Nat) (Z : List O3), i = s.length → LoopSem Try.prog 1 (forBody (stmt 12 (woB Try.prog))) (woBR own n ss pk G.length G p a A s.length s hit Z.length (opRow Z) (i : Int)) (.exit 2) (woBX own n ss pk G.length G p a A hit (Z ++ (s.drop i).map (atO G)).length (opRow (Z ++ (s.drop i).map (atO G)))) := by
    intro i Z hi
    have hr := woRR own n ss pk G.length G p a A s.length s hit Z.length Z i
    rw [show decide ((i : Int) < (s.length : Int)) = false by simp; omega] at hr
    rw [List.drop_eq_nil_of_le (by omega)]
    simp only [List.map_nil, List.append_nil]
    exact loop_leave (C := Cwo Try.prog) okwo (f := 11) (B := 1) woIn12.2 hr (by simp)
  induction m with
  | zero => intro i Z h1 h2 _; exact out i Z (by omega)
  | succ m ih =>
    intro i Z h1 h2 h3
    by_cases hi : i < s.length
    · have hr := woRR own n ss pk G.length G p a A s.length s hit Z.length Z i
      obtain ⟨hx, hx1, hx2⟩ := hs _ (List.getElem_mem hi)
      rw [show decide ((i : Int) < (s.length : Int)) = true by simpa using hi, bd_ok' hi, atI_get hi, show decide (s[i] < 0) = false by simp; omega, show decide (s[i] ≥ (G.length : Int)) = false by simp; omega, show boundsI s[i] G.length = true by simp [boundsI]; omega, hx1, hx2, P3.eqB_iff'.2 rfl, r12_ok (by omega), W_succ (by omega)] at hr
      have := ih (i + 1) (Z ++ [atO G s[i]]) (by omega) (by omega) (by simp; omega)
      rw [show (Z ++ [atO G s[i]]).length = Z.length + 1 by simp] at this
      rw [List.drop_eq_getElem_cons hi]
      simp only [List.map_cons]
      rw [show Z ++ atO G s[i] :: (s.drop (i + 1)).map (atO G) = (Z ++ [atO G s[i]]) ++ (s.drop (i + 1)).map (atO G) by simp]
      exact loop_next (C := Cwo Try.prog) okwo (f := 11) (B := 1) (s2 := woBR own n ss pk G.length G p a A s.length s hit (Z.length + 1) (opRow (Z ++ [atO G s[i]])) ((i + 1 : Nat) : Int)) woIn12.2 hr ⟨rfl, .refl _, .refl _, .refl _, .refl _, .refl _, .rows fun j hj => catR_one Z _ j hj, trivial⟩ this
    · exact out i Z (by omega)
theorem woLN (own : Bool) (n : Nat) (ss : List Sd) (pk : Int) (G : List O3) (p : P3) (a : Nat) (A : List P3) (s : List Int) (hit : Bool) (h0 : s ≠ []) (hl : s.length ≤ 500) (hs : ∀ x ∈ s, (0 ≤ x ∧ x < (G.length : Int)) ∧ (atO G x).appE p = 0 ∧ (atO G x).appF p = p) : LoopSem Try.prog 1 (forBody (stmt 12 (woB Try.prog))) (woBN own n ss pk G.length G p a A s.length s hit ((0 : Nat) : Int)) (.exit 2) (woBX own n ss pk G.length G p a A hit (s.map (atO G)).length (opRow (s.map (atO G)))) := by
  have hpos : 0 < s.length := List.length_pos_iff.2 h0
  have hr := woRN own n ss pk G.length G p a A s.length s hit 0
  obtain ⟨hx, hx1, hx2⟩ := hs _ (List.getElem_mem hpos)
  rw [show decide (((0 : Nat) : Int) < (s.length : Int)) = true by simp; exact hpos, bd_ok' hpos, atI_get hpos, show decide (s[0] < 0) = false by simp; omega, show decide (s[0] ≥ (G.length : Int)) = false by simp; omega, show boundsI s[0] G.length = true by simp [boundsI]; omega, hx1, hx2, P3.eqB_iff'.2 rfl, W_succ (by omega)] at hr
  have := woLR own n ss pk G p a A s hit hl hs s.length 1 [atO G s[0]] (by omega) (by omega) (by simp)
  have hd : s = s[0] :: s.drop 1 := by
    cases s with
    | nil => exact absurd rfl h0
    | cons x l => rfl
  have he : [atO G s[0]] ++ (s.drop 1).map (atO G) = s.map (atO G) := by
    conv => rhs; rw [hd]
    rfl
  rw [he] at this
  exact loop_next (C := Cwo Try.prog) okwo (f := 11) (B := 1) (s2 := woBR own n ss pk G.length G p a A s.length s hit 1 (opRow [atO G s[0]]) ((0 + 1 : Nat) : Int)) woIn12.2 hr ⟨rfl, .refl _, .refl _, .refl _, .refl _, .refl _, .rows fun j hj => by
    have : j = 0 := by omega
    subst this
    rfl, trivial⟩ this
theorem woLC (own : Bool) (n : Nat) (ss : List Sd) (c : Nat) (G : List O3) (a : Nat) (A : List P3) (hit : Bool) (d : Nat) (Z : List O3) (q y : P3) (at' : Int) (ha : a ≤ 500) : ∀ (m i : Nat), a - i ≤ m → i ≤ a → LoopSem Try.prog 1 (forBody (stmt 18 (woB Try.prog))) (woC own n ss c G a A hit d Z q a A y at' (i : Int)) (.exit 4) (woC0 own n ss c G a A hit d Z q a A y at') := by
  intro m
  have out : ∀ i : Nat, i = a → LoopSem Try.prog 1 (forBody (stmt 18 (woB Try.prog))) (woC own n ss c G a A hit d Z q a A y at' (i : Int)) (.exit 4) (woC0 own n ss c G a A hit d Z q a A y at') := by
    intro i hi
    have hr := woRC own n ss c G a A hit d Z q a A y at' i
    rw [show decide ((i : Int) < (a : Int)) = false by simp; omega] at hr
    exact loop_leave (C := Cwo Try.prog) okwo (f := 11) (B := 1) woIn18.2 hr (by simp)
  induction m with
  | zero => intro i h1 h2; exact out i (by omega)
  | succ m ih =>
    intro i h1 h2
    by_cases hi : i < a
    · have hr := woRC own n ss c G a A hit d Z q a A y at' i
      rw [show decide ((i : Int) < (a : Int)) = true by simpa using hi, bd_ok' hi, P3.eqB_iff'.2 rfl, W_succ (by omega)] at hr
      exact loop_next (C := Cwo Try.prog) okwo (f := 11) (B := 1) woIn18.2 hr (StLike.refl _) (ih (i + 1) (by omega) (by omega))
    · exact out i (by omega)
theorem wo_main (own : Bool) (n : Nat) (ss : List Sd) (kk x0 x1 x2 pk : Int) (G : List O3) (hk : 0 ≤ kk ∧ kk < 256) (hpk : 0 ≤ pk ∧ pk < 256) (hc : chkI G = 0) : CodeSem Try.prog 1 (seqDrop 3 (woB Try.prog)) (wo0 own n ss kk x0 x1 x2 pk G.length G) .ret (woR own n ss true) := by
  have hF := isF_prt kk
  have hpf : (woPt kk x0 x1 x2).form = true := place_form hF _
  have hp : leastN (chkI G) (woPt kk x0 x1 x2).ckP = 0 := leastN_zero.2 ⟨hc, by unfold P3.ckP; rw [hpf]; rfl⟩
  have r3 := woP3 own n ss kk x0 x1 x2 pk G.length G
  have e1 : (wg1 (α := St) G.length G (woPt kk x0 x1 x2)) = fun x => x := by
    funext x
    unfold wg1
    rw [lk_true, oTok, opsOf_row rfl, show (leastN (chkI G) (woPt kk x0 x1 x2).ckP != 0) = false by simpa using hp]
    rfl
  generalize woPt kk x0 x1 x2 = p at *
  obtain ⟨_, hX, hl⟩ := chk_grp hc
  have h0 : G ≠ [] := fun e => by have := hX.one; rw [e] at this; cases this
  have lp := orbL_len G p
  have hcnt := orb_count hX hpf
  have hsl := sitL_len G p
  rw [← hsl] at hcnt
  have hsle : (sitL G p).length ≤ G.length := by rw [hsl]; exact List.length_filter_le _ _
  have hmap := sitL_map G p
  have hstay := stay_chk hc hpf
  have hbds : ∀ x ∈ sitL G p, 0 ≤ x ∧ x < (G.length : Int) := siL_bds p (imgs G p) 0 [] G.length (by rw [imgs_len]; omega) (fun _ h => by cases h)
  have hGl : 0 < G.length := List.length_pos_iff.2 h0
  have hs0 : sitL G p ≠ [] := fun e => by
    rw [e] at hcnt
    simp at hcnt
    exact h0 (List.length_eq_zero_iff.1 hcnt.symm)
  have hsp : 0 < (sitL G p).length := List.length_pos_iff.2 hs0
  have hO0 : orbL G p ≠ [] := fun e => by
    rw [e] at hcnt
    simp at hcnt
    exact h0 (List.length_eq_zero_iff.1 hcnt.symm)
  obtain ⟨b1, b2, b3⟩ := min_orb h0 hpf
  have hw : (W (((orbL G p).length : Int) * ((sitL G p).length : Int)) != (G.length : Int)) = false := by
    have : ((orbL G p).length : Int) * ((sitL G p).length : Int) = (G.length : Int) := by rw [← hcnt]; simp
    rw [this, W_in (by omega)]
    simp
  rw [byteB_iff.2 hk, e1, opsOf_row rfl, hF, show (((orbL G p).length : Int) == 0) = false by simp; exact hO0, show (((sitL G p).length : Int) == 0) = false by simp; exact hs0, hw] at r3
  refine seg_rule (C := Cwh Try.prog) okwh (f := 11) (B := 1) (k := 6) (bodyOf_in Try.func11 woB_eq) r3 ?_
  rw [seqDrop_drop]
  refine seg_rule (C := Cwo Try.prog) okwo (f := 11) (B := 1) (k := 1) (bodyOf_in Try.func11 woB_eq) (woP9 own n ss pk G.length G p (orbL G p).length (orbA G p) (sitL G p).length (sitL G p)) ?_
  rw [seqDrop_drop]
  have hord : ∀ r, r + 1 < (orbL G p).length → (atP (orbA G p) r).ordV (atP (orbA G p) (r + 1)) = -1 ∧ (atP (orbA G p) r).ordE (atP (orbA G p) (r + 1)) = 0 := fun r hr => by
    rw [atP_orbA (by omega : r < (orbL G p).length), atP_orbA hr]
    have hst := orbL_strict G p
    unfold StrictP at hst
    rw [List.pairwise_iff_getElem] at hst
    have m1 : (orbL G p)[r] ∈ imgs G p := by have : (orbL G p)[r] ∈ orbL G p := List.getElem_mem _; rw [mem_orbL, ← mem_imgs] at this; exact this
    have m2 : (orbL G p)[r + 1] ∈ imgs G p := by have : (orbL G p)[r + 1] ∈ orbL G p := List.getElem_mem _; rw [mem_orbL, ← mem_imgs] at this; exact this
    have f1 := imgs_form hpf m1
    have f2 := imgs_form hpf m2
    rw [ordV_key f1 f2 ((imgs_m m1).trans (imgs_m m2).symm)]
    refine ⟨lexI_neg1 (hst r (r + 1) (by omega) hr (by omega)), ?_⟩
    unfold P3.ordE
    rw [f1, f2]
    rfl
  have lA := woLA own n ss pk G.length G p (orbL G p).length (orbA G p) (sitL G p).length (sitL G p) (by omega) hord (orbL G p).length 0 false (by omega) (by omega)
  have hself : ∃ r, 0 ≤ r ∧ r < 0 + (orbL G p).length ∧ atP (orbA G p) r = p := by
    have : p ∈ orbL G p := by rw [mem_orbL, ← mem_imgs]; exact orb_self hX hpf
    obtain ⟨r, hr, he⟩ := List.getElem_of_mem this
    exact ⟨r, by omega, by omega, by rw [atP_orbA hr, he]⟩
  rw [Nat.sub_zero, fdF_found p (orbA G p) (orbL G p).length 0 false hself] at lA
  refine stmt_rule woHas.2.1 (for_rule woFor.1 (end_rule (C := Cwo Try.prog) okwo (f := 11) (B := 1) woIn10.1 (woHA own n ss pk G.length G p (orbL G p).length (orbA G p) (sitL G p).length (sitL G p) false)) lA) ?_
  refine seg_rule (C := Cwo Try.prog) okwo (f := 11) (B := 1) (k := 1) (bodyOf_in Try.func11 woB_eq) (woP11 own n ss pk G.length G p (orbL G p).length (orbA G p) (sitL G p).length (sitL G p) true) ?_
  rw [seqDrop_drop]
  have hfix : ∀ x ∈ sitL G p, (0 ≤ x ∧ x < (G.length : Int)) ∧ (atO G x).appE p = 0 ∧ (atO G x).appF p = p := fun x hx => by
    have hm : atO G x ∈ G.filter fun o => fixB p o := by rw [← hmap]; exact List.mem_map.2 ⟨x, hx, rfl⟩
    obtain ⟨g1, g2⟩ := List.mem_filter.1 hm
    obtain ⟨a1, a2⟩ := O3.appF_of (hX.ck _ g1) hpf
    exact ⟨hbds x hx, a1, by rw [a2]; exact P3.eqB_iff'.1 g2⟩
  have lB := woLN own n ss pk G p (orbL G p).length (orbA G p) (sitL G p) true hs0 (by omega) hfix
  rw [hmap] at lB
  refine stmt_rule woHas.2.2.1 (for_rule woFor.2.1 (end_rule (C := Cwo Try.prog) okwo (f := 11) (B := 1) woIn12.1 (woHB own n ss pk G.length G p (orbL G p).length (orbA G p) (sitL G p).length (sitL G p) true)) lB) ?_
  have hix : 0 ≤ Int.tmod (W pk) ((orbL G p).length : Int) ∧ Int.tmod (W pk) ((orbL G p).length : Int) < ((orbL G p).length : Int) := by
    rw [W_in (by omega)]
    exact ⟨Int.tmod_nonneg _ hpk.1, Int.tmod_lt_of_pos _ (by omega)⟩
  have r13 := woP13 own n ss pk G.length G p (orbL G p).length (orbA G p) true (G.filter fun o => fixB p o).length (G.filter fun o => fixB p o)
  rw [show boundsI (Int.tmod (W pk) ((orbL G p).length : Int)) (orbL G p).length = true by simp [boundsI]; omega, show (((orbL G p).length : Int) == 0) = false by simp; exact hO0] at r13
  have hri : (Int.tmod (W pk) ((orbL G p).length : Int)).toNat < (orbL G p).length := by omega
  have hqm : atP (orbA G p) (Int.tmod (W pk) ((orbL G p).length : Int)).toNat ∈ imgs G p := by
    rw [atP_orbA hri]
    have : (orbL G p)[(Int.tmod (W pk) ((orbL G p).length : Int)).toNat] ∈ orbL G p := List.getElem_mem _
    rw [mem_orbL, ← mem_imgs] at this
    exact this
  generalize atP (orbA G p) (Int.tmod (W pk) ((orbL G p).length : Int)).toNat = q at *
  have hqf := imgs_form hpf hqm
  have hq : leastN (chkI G) q.ckP = 0 := leastN_zero.2 ⟨hc, by unfold P3.ckP; rw [hqf]; rfl⟩
  have ho := orb_one hX hpf hqm
  have e1q : (wg1 (α := St) G.length G q) = fun x => x := by
    funext x
    unfold wg1
    rw [lk_true, oTok, opsOf_row rfl, show (leastN (chkI G) q.ckP != 0) = false by simpa using hq]
    rfl
  have e2 : (wo2 (α := St) G.length G) = fun x => x := by
    funext x
    unfold wo2
    rw [lk_true, oTok]
    rfl
  have hE : leastN (leastN (chkI G) p.ckP) q.ckP = 0 := samE_ok hp hq
  have hm : p.m = q.m := (imgs_m hqm).symm
  have se0 : samE G p q = 0 := by unfold samE; rw [hE]; simp [hm]
  have sv0 : samV G p q = true := by unfold samV; rw [hE, show (p.m == q.m) = true by simpa using hm]; exact cnB_iff.2 hqm
  obtain ⟨c1, c2, _⟩ := min_orb h0 hqf
  have hlq : leP G q = minL (imgs G q) := by unfold leP; rw [hq]; rfl
  have hli : leI' G q = ixL (minL (imgs G q)) (imgs G q) 0 := by unfold leI'; rw [hq]; rfl
  obtain ⟨t, t1, t2, _, t4⟩ := ixL_at (minL (imgs G q)) (imgs G q) 0 c2
  rw [Int.zero_add] at t1
  rw [imgs_len] at t2
  rw [gn_false, gd_true, e1q, e2, opsOf_row rfl, ho, orbA_one hX hpf hqm, hq, hlq, hli, t1, se0, sv0] at r13
  refine seg_rule (C := Cwh Try.prog) okwh (f := 11) (B := 1) (k := 4) (bodyOf_in Try.func11 woB_eq) r13 ?_
  rw [seqDrop_drop]
  have hA0 : atP (orbA G p) 0 = minL (imgs G q) := by rw [← c1, ho, atP_orbA b3, atP_get b3]
  have r17 := woP17 own n ss G.length G (orbL G p).length (orbA G p) true (G.filter fun o => fixB p o).length (G.filter fun o => fixB p o) q (orbL G p).length (orbA G p) (minL (imgs G q)) (t : Int)
  rw [hA0, P3.eqB_iff'.2 rfl, show boundsI 0 (orbL G p).length = true by simp [boundsI]; omega, show decide ((t : Int) < 0) = false by simp, show decide ((t : Int) ≥ (G.length : Int)) = false by simp; omega, show (((orbL G p).length : Int) != ((orbL G p).length : Int)) = false by simp] at r17
  refine seg_rule (C := Cwo Try.prog) okwo (f := 11) (B := 1) (k := 1) (bodyOf_in Try.func11 woB_eq) r17 ?_
  rw [seqDrop_drop]
  refine stmt_rule woHas.2.2.2 (for_rule woFor.2.2 (end_rule (C := Cwo Try.prog) okwo (f := 11) (B := 1) woIn18.1 (woHC own n ss G.length G (orbL G p).length (orbA G p) true (G.filter fun o => fixB p o).length (G.filter fun o => fixB p o) q (orbL G p).length (orbA G p) (minL (imgs G q)) (t : Int))) (woLC own n ss G.length G (orbL G p).length (orbA G p) true (G.filter fun o => fixB p o).length (G.filter fun o => fixB p o) q (minL (imgs G q)) (t : Int) (by omega) (orbL G p).length 0 (by omega) (by omega))) ?_
  refine end_rule (C := Cwk Try.prog) okwk (f := 11) (B := 1) (bodyOf_in Try.func11 woB_eq) (n := 60) (mask := [8]) (sp := [.fix 0]) ?_
  obtain ⟨f1, f2⟩ := O3.appF_of (hX.ck _ (List.getElem_mem t2)) hqf
  rw [woP19, bd_ok' t2, atO_nat t2, f1, f2, ← atP_imgs (p := q) t2, t4, P3.eqB_iff'.2 rfl, lk_true, oTok, opsOf_row rfl, hstay]
  rfl
theorem wo_sem (own : Bool) (ss : List Sd) (hok : ∀ d ∈ ss, d.ok = true) (kk x0 x1 x2 pk : Int) (hk : 0 ≤ kk ∧ kk < 256) (hpk : 0 ≤ pk ∧ pk < 256) : MemSem Try.prog 11 [.slice (some ⟨0, 0, some 0⟩) ss.length 6, .int .u8 kk, .agg #[.int .i16 x0, .int .i16 x1, .int .i16 x2], .int .u8 pk] [.rows own true 6 ss.length (sdRow ss)] (.bool true) [.rows own true 6 ss.length (sdRow ss)] := by
  have t6 : okT6 ss.length ss = true := by unfold okT6; rw [Nat.beq_refl, okSds_row hok rfl]; rfl
  refine body_mem (f := 11) Try.func11 woB_eq (by kernel_rfl) ?_ (woRet own ss.length ss)
  cases hg : clsOk (grL ss) with
  | true =>
    have r1 := woP1 own ss.length ss kk x0 x1 x2 pk
    rw [lk_true, t6, sdsOf_row rfl, hg] at r1
    exact seg_rule (C := Cwg Try.prog) okwg (f := 11) (B := 1) (k := 3) (Or.inl ⟨Try.f11, woB Try.prog, Try.func11, woB_eq, fun _ hx => hx⟩) r1 (wo_main own ss.length ss kk x0 x1 x2 pk (clsG (grL ss)) hk hpk (chk_cls hg))
  | false =>
    have r1 := woP1n own ss.length ss kk x0 x1 x2 pk
    rw [lk_true, t6, sdsOf_row rfl, hg] at r1
    exact seg_rule (C := Cwn Try.prog) okwn (f := 11) (B := 1) (k := 3) (Or.inl ⟨Try.f11, woB Try.prog, Try.func11, woB_eq, fun _ hx => hx⟩) r1 (stmt_out woHas.1 (end_rule (C := Cwo Try.prog) okwo (f := 11) (B := 1) (stmt_in Try.func11 woB_eq) (woP3n own ss.length ss)) (by simp))
end Go.Proofs.Ytneaibkfglfpaaa
