/-
  facetlaw05.GroupBroken answers true. Nothing here is trusted.
-/
import Derived.Test.YtmpkkmhielkggaaHTBb
namespace Go.Proofs.Ytmpkkmhielkggaa
open Go Vx Go.RowKit
/-! Lists -/
theorem opRow_get {G : List O3} {q : Nat} (h : q < G.length) : opRow G q = (G[q]).cells := by unfold opRow; rw [List.getElem?_eq_getElem h]; rfl
theorem atO_get {G : List O3} {i : Nat} (h : i < G.length) : atO G (i : Int) = G[i] := by unfold atO; rw [Int.toNat_natCast, List.getElem?_eq_getElem h]; rfl
theorem opsOf_take {G : List O3} {i : Nat} (h : i ≤ G.length) : opsOf i (opRow G) = G.take i := by
  rw [opsOf_congr (g := opRow (G.take i)) (fun q hq => by rw [opRow_get (by omega : q < G.length), opRow_get (by simp; omega : q < (G.take i).length)]; simp)]
  exact opsOf_row (by simp; omega)
theorem gT_eq {i : Nat} (h : i ≤ 1000) : gT i = i + 1 := by unfold gT; rw [W_in (by omega)]; omega
theorem tailR_at (t : Nat) (row : Nat → List Value) (r : Nat) : tailR t row r = row (t + r) := by
  unfold tailR
  split
  · rw [Nat.zero_add]
  · rfl
theorem catR_at (n : Nat) (f g : Nat → List Value) (q : Nat) : catR n f g q = if q < n then f q else g (q - n) := by
  unfold catR
  by_cases h : q < n
  · rw [show Nat.blt q n = true by simpa [Nat.blt_eq] using h, if_pos h]
  · rw [blt_ff h, if_neg h]
theorem less_rows {G : List O3} {i : Nat} (hi : i < G.length) (hk : G.length ≤ 192) : rowsLike (G.length - 1) (catR i (opRow (opsOf i (opRow G))) (tailR (gT i) (opRow G))) (opRow (G.eraseIdx i)) := fun q hq => by
  have hl : (G.eraseIdx i).length = G.length - 1 := by rw [List.length_eraseIdx]; simp [hi]
  rw [catR_at, opsOf_take (by omega), gT_eq (by omega), opRow_get (by omega : q < (G.eraseIdx i).length)]
  by_cases h : q < i
  · rw [if_pos h, opRow_get (by simp; omega), List.getElem_eraseIdx, dif_pos h]
    simp
  · rw [if_neg h, tailR_at, opRow_get (by omega : i + 1 + (q - i) < G.length), List.getElem_eraseIdx, dif_neg h]
    congr 2
    omega
theorem less_rows0 {G : List O3} (hk : 0 < G.length) : rowsLike (G.length - 1) (tailR 1 (opRow G)) (opRow (G.eraseIdx 0)) := fun q hq => by
  have hl : (G.eraseIdx 0).length = G.length - 1 := by rw [List.length_eraseIdx]; simp [hk]
  rw [tailR_at, opRow_get (by omega), opRow_get (by omega : q < (G.eraseIdx 0).length), List.getElem_eraseIdx, dif_neg (by omega)]
  congr 2
  omega
theorem less_last {G : List O3} {i : Nat} (hi : i + 1 = G.length) : opsOf i (opRow G) = G.eraseIdx i := by
  rw [opsOf_take (by omega), List.eraseIdx_eq_take_drop_succ, List.drop_eq_nil_of_le (by omega), List.append_nil]
theorem less_len {G : List O3} {i : Nat} (hi : i < G.length) : (G.eraseIdx i).length = G.length - 1 := by rw [List.length_eraseIdx]; simp [hi]
theorem less_mem {G : List O3} {i : Nat} : ∀ x ∈ G.eraseIdx i, x ∈ G := fun _ hx => List.mem_of_mem_eraseIdx hx
/-- Two maps changed about. -/
def swL (G : List O3) (i j : Nat) : List O3 := (G.set i (atO G j)).set j (atO G i)
theorem sw_rows {G : List O3} {i j : Nat} (hi : i < G.length) (hj : j < G.length) (hij : i ≠ j) (q : Nat) (hq : q < G.length) : swR G i j q = opRow (swL G i j) q := by
  have hm : ∀ a b : O3, setMany a.cells 0 b.cells = b.cells := fun _ _ => rfl
  rw [opRow_get (by simp [swL]; exact hq)]
  unfold swR swL
  rw [opRow_get hi, opRow_get hj]
  have e1 : Nat.beq j i = false := by
    cases hb : Nat.beq j i with
    | false => rfl
    | true => exact absurd (Nat.eq_of_beq_eq_true hb).symm hij
  rw [e1]
  simp only [hm]
  cases h1 : Nat.beq q j with
  | true =>
    have := Nat.eq_of_beq_eq_true h1
    subst this
    simp
  | false =>
    have n1 : j ≠ q := fun e => by subst e; simp at h1
    cases h2 : Nat.beq q i with
    | true =>
      have := Nat.eq_of_beq_eq_true h2
      subst this
      simp [List.getElem_set_ne n1]
    | false =>
      have n2 : i ≠ q := fun e => by subst e; simp at h2
      simp [List.getElem_set_ne n1, List.getElem_set_ne n2, opRow_get hq]
theorem sw_len (G : List O3) (i j : Nat) : (swL G i j).length = G.length := by simp [swL]
theorem sw_mem {G : List O3} {i j : Nat} (hi : i < G.length) (hj : j < G.length) : ∀ x ∈ swL G i j, x ∈ G := fun x hx => by
  rcases List.mem_or_eq_of_mem_set hx with h | h
  · rcases List.mem_or_eq_of_mem_set h with h | h
    · exact h
    · rw [h, atO_get hj]; exact List.getElem_mem _
  · rw [h, atO_get hi]; exact List.getElem_mem _
theorem sw_not {G : List O3} {i j : Nat} (hi : i < G.length) (hj : j < G.length) (hij : i ≠ j) (hs : StrictO G) : ¬ StrictO (swL G i j) := fun h => by
  unfold StrictO at hs h
  rw [List.pairwise_iff_getElem] at hs h
  have gi : (swL G i j)[i]'(by rw [sw_len]; exact hi) = G[j] := by
    unfold swL
    rw [List.getElem_set_ne (fun e => hij e.symm), List.getElem_set_self, atO_get hj]
  have gj : (swL G i j)[j]'(by rw [sw_len]; exact hj) = G[i] := by
    unfold swL
    rw [List.getElem_set_self, atO_get hi]
  rcases Nat.lt_or_gt_of_ne hij with hl | hl
  · have k1 := h i j (by rw [sw_len]; exact hi) (by rw [sw_len]; exact hj) hl
    have k2 := hs i j hi hj hl
    rw [gi, gj, lexI_neg] at k1
    omega
  · have k1 := h j i (by rw [sw_len]; exact hj) (by rw [sw_len]; exact hi) hl
    have k2 := hs j i hj hi hl
    rw [gi, gj, lexI_neg] at k1
    omega
/-- A map twice. -/
def twL (G : List O3) (i : Nat) : List O3 := G.take (i + 1) ++ G.drop i
theorem tw_len {G : List O3} {i : Nat} (hi : i < G.length) : (twL G i).length = i + 1 + (G.length - i) := by simp [twL]; omega
theorem tw_rows {G : List O3} {i : Nat} (hi : i < G.length) (hk : G.length ≤ 192) : rowsLike (gT i + (G.length - i)) (catR (gT i) (opRow (opsOf (gT i) (opRow G))) (tailR i (opRow G))) (opRow (twL G i)) := fun q hq => by
  rw [gT_eq (by omega)] at hq ⊢
  rw [catR_at, opsOf_take (by omega), opRow_get (G := twL G i) (by rw [tw_len hi]; exact hq)]
  by_cases h : q < i + 1
  · rw [if_pos h, opRow_get (by simp; omega)]
    unfold twL
    rw [List.getElem_append_left (by simp; omega)]
  · rw [if_neg h, tailR_at, opRow_get (by omega : i + (q - (i + 1)) < G.length)]
    unfold twL
    rw [List.getElem_append_right (by simp; omega)]
    simp only [List.getElem_drop, List.length_take]
    congr 2
    omega
theorem tw_mem {G : List O3} {i : Nat} : ∀ x ∈ twL G i, x ∈ G := fun x hx => by
  rcases List.mem_append.1 hx with h | h
  · exact List.mem_of_mem_take h
  · exact List.mem_of_mem_drop h
theorem tw_not {G : List O3} {i : Nat} (hi : i < G.length) : ¬ StrictO (twL G i) := fun h => by
  unfold StrictO at h
  rw [List.pairwise_iff_getElem] at h
  have := h i (i + 1) (by rw [tw_len hi]; omega) (by rw [tw_len hi]; omega) (by omega)
  have e1 : (twL G i)[i]'(by rw [tw_len hi]; omega) = G[i] := by
    unfold twL
    rw [List.getElem_append_left (by simp; omega)]
    simp
  have e2 : (twL G i)[i + 1]'(by rw [tw_len hi]; omega) = G[i] := by
    unfold twL
    rw [List.getElem_append_right (by simp; omega)]
    simp only [List.getElem_drop, List.length_take]
    congr 1
    omega
  rw [e1, e2, (lexI_zero (l := G[i].l) (m := G[i].l) rfl).2 rfl] at this
  omega
/-- Maps of a group close within it. -/
theorem gen_in {G ms : List O3} (hG : Grp G) (hm : ∀ m ∈ ms, m ∈ G) {x : O3} (h : Gen ms x) : x ∈ G := by
  induction h with
  | one => exact hG.one
  | step _ hx ih => exact hG.mul _ ih _ (hm _ hx)
theorem cls_sub {G ms : List O3} (hG : Grp G) (hk : G.length ≤ 192) (hl : ms.length ≤ 192) (hm : ∀ m ∈ ms, m ∈ G) : clsOk ms = true := by
  have mck : ∀ m ∈ ms, m.ck = 0 := fun m h => hG.ck m (hm m h)
  unfold clsOk
  rw [ckMaps_of hl mck]
  rcases clR_spec mck with ⟨r, k1, _⟩ | ⟨_, k2⟩
  · rw [k1]; rfl
  · exfalso
    rcases k2 with ⟨g, hg, hk2⟩ | ⟨m, k1, k2, k3⟩
    · have := (O3.ck_zero.1 (hG.ck g (gen_in hG hm hg))).2.1
      rw [hk2] at this; cases this
    · have := nodup_sub k1 fun x hx => gen_in hG hm (k3 x hx)
      omega
theorem two_ops (a b : O3) : opsOf 2 (gbR a b) = [a, b] ∧ okOps 2 (gbR a b) = true := ⟨rfl, rfl⟩
/-- One of two maps is taken away. -/
theorem two_less {G : List O3} (hG : Grp G) (h2 : G.length = 2) {i : Nat} (hi : i < G.length) : ((chkI (G.eraseIdx i) == 0) != !((atO G i).eqB O3.one)) = false := by
  obtain ⟨x, hx⟩ : ∃ x, G.eraseIdx i = [x] := by
    have := less_len hi
    rw [h2] at this
    exact List.length_eq_one_iff.1 this
  have hg : ∀ y ∈ G, y = atO G i ∨ y = x := fun y hy => by
    have := (List.mem_iff_getElem.1 hy)
    obtain ⟨q, hq, rfl⟩ := this
    by_cases e : q = i
    · subst e; exact Or.inl (atO_get hq).symm
    · right
      have : G[q] ∈ G.eraseIdx i := List.mem_eraseIdx_iff_getElem.2 ⟨q, hq, e, rfl⟩
      rw [hx] at this
      simpa using this
  rw [hx]
  by_cases h1 : atO G i = O3.one
  · have hxo : x ≠ O3.one := fun e => by
      have hxm : x ∈ G.eraseIdx i := by rw [hx]; simp
      obtain ⟨q, hq, hqi, hqe⟩ := List.mem_eraseIdx_iff_getElem.1 hxm
      have := hG.nd
      unfold List.Nodup at this
      rw [List.pairwise_iff_getElem] at this
      rw [atO_get hi] at h1
      rcases Nat.lt_or_gt_of_ne hqi with hl | hl
      · exact this q i hq hi hl (by rw [hqe, e, h1])
      · exact this i q hi hq hl (by rw [hqe, e, h1])
    have hc : chkI [x] ≠ 0 := fun h => by
      have := (chk_grp h).2.1.one
      simp at this
      exact hxo this.symm
    rw [h1, O3.eqB_refl]
    simp [hc]
  · have hxo : x = O3.one := by
      rcases hg _ hG.one with h | h
      · exact absurd h.symm h1
      · exact h.symm
    have hc : chkI [x] = 0 := by rw [hxo]; kernel_rfl
    have hb : (atO G i).eqB O3.one = false := by
      cases hq : (atO G i).eqB O3.one with
      | false => rfl
      | true => exact absurd (O3.eqB_iff.1 hq) h1
    rw [hc, hb]
    rfl
/-! The pieces, from the last on -/
def gbEnd (own : Bool) (xs : List O3) : St := stOf 152 [(6, .bool true)] [.rows own true 12 xs.length (opRow xs)]
theorem ot (X : List O3) (n : Nat) : oT n (opRow X) = true := by unfold oT; rw [Nat.beq_refl, okOps_opRow]; rfl
theorem le_ok {i k : Nat} (h : i ≤ k) : leI (i : Int) k = true := by simp [leI]; omega
theorem bd_ok {i k : Nat} (h : i < k) : boundsI (i : Int) k = true := by simp [boundsI]; omega
theorem beq_ff {a b : Nat} (h : a ≠ b) : Nat.beq a b = false := by
  cases hb : Nat.beq a b with
  | false => rfl
  | true => exact absurd (Nat.eq_of_beq_eq_true hb) h
section
variable (own : Bool) (xs G : List O3) (hG : Grp G) (hs : StrictO G) (hk : G.length ≤ 192)
include hG hs hk
theorem gbQ8 {Pt : List O3} (hp : Pt.length ≤ 192) (hsub : ∀ x ∈ Pt, x ∈ G) : CodeSem Try.prog 1 (seqDrop 12 (gbB Try.prog)) (gb7 own xs.length xs G.length G Pt.length Pt) .ret (gbEnd own xs) := by
  refine end_rule (C := Cbf Try.prog) okbf (bodyOf_in Try.func4 gbB_eq) (n := 60) (mask := [6]) (sp := [.fix 0]) ?_
  have hchk := chk_of hs hG hk
  have ht : bfT xs.length xs G.length G Pt.length Pt = true := by
    unfold bfT
    rw [okOps_opRow, Nat.beq_refl, okOps_opRow, Nat.beq_refl, okOps_opRow, opsOf_row rfl, opsOf_row rfl, allF_all hchk Pt hsub]
    simp
    omega
  rw [gbP8, ht, gd_true, opsOf_row rfl]
  rfl
theorem gbQ7 {Pt : List O3} (hp : Pt.length ≤ 192) (hp1 : 1 ≤ Pt.length) (hsub : ∀ x ∈ Pt, x ∈ G) (hd : G.length % Pt.length = 0) : CodeSem Try.prog 1 (seqDrop 11 (gbB Try.prog)) (gb6 own xs.length xs G.length G Pt.length Pt) .ret (gbEnd own xs) := by
  refine seg_rule (C := Cqa Try.prog) okqa (bodyOf_in Try.func4 gbB_eq) (n := 60) (k := 1) (mask := [6, 7, 13]) (sp := [.fix 0, .slot 7, .slot 13]) (s := gb7 own xs.length xs G.length G Pt.length Pt) ?_ (by rw [seqDrop_drop]; exact gbQ8 own xs G hG hs hk hp hsub)
  have h1 : ((Pt.length : Int) == 0) = false := by simp; intro h; rw [h] at hp1; simp at hp1
  have h2 : (Int.tmod (G.length : Int) (Pt.length : Int) != 0) = false := by
    rw [show Int.tmod (G.length : Int) (Pt.length : Int) = ((G.length % Pt.length : Nat) : Int) from rfl, hd]
    rfl
  rw [gbP7, h1, gn_false, h2]
theorem gbQ6 {i j : Nat} (hi : i < G.length) (hj : j < G.length) : CodeSem Try.prog 1 (seqDrop 10 (gbB Try.prog)) (gb1 own xs.length xs G.length G i j) .ret (gbEnd own xs) := by
  have hm : ∀ m ∈ [atO G i, atO G j], m ∈ G := fun m h => by
    simp only [List.mem_cons, List.not_mem_nil, or_false] at h
    rcases h with rfl | rfl
    · rw [atO_get hi]; exact List.getElem_mem _
    · rw [atO_get hj]; exact List.getElem_mem _
  have hc : clsOk [atO G i, atO G j] = true := cls_sub hG hk (by simp) hm
  have hsub : ∀ x ∈ clsG [atO G i, atO G j], x ∈ G := fun x hx => gen_in hG hm ((mem_clsG hc x).1 hx)
  refine seg_rule (C := Cqa Try.prog) okqa (bodyOf_in Try.func4 gbB_eq) (n := 60) (k := 1) (mask := [6, 7, 8, 9, 13]) (sp := [.fix 0, .slot 7, .slot 13]) (s := gb6 own xs.length xs G.length G (clsG [atO G i, atO G j]).length (clsG [atO G i, atO G j])) ?_ (by rw [seqDrop_drop]; exact gbQ7 own xs G hG hs hk (clsOk_len hc) (cls_pos hc) hsub (grp_divides (clsG_grp hc) hG hsub))
  have h2 := two_ops (atO G i) (atO G j)
  have h3 : oT 2 (gbR (atO G i) (atO G j)) = true := rfl
  rw [gbP6, bd_ok hi, bd_ok hj, h3, h2.1, hc]
  rfl
theorem gbQ5 {i j : Nat} (hi : i < G.length) (hj : j < G.length) : CodeSem Try.prog 1 (seqDrop 9 (gbB Try.prog)) (gb1 own xs.length xs G.length G i j) .ret (gbEnd own xs) := by
  refine seg_rule (C := Cb5 Try.prog) okb5 (bodyOf_in Try.func4 gbB_eq) (n := 60) (k := 1) (mask := [1, 2, 6, 7, 9]) (sp := [.fix 0, .slot 7]) (s := gb1 own xs.length xs G.length G i j) ?_ (by rw [seqDrop_drop]; exact gbQ6 own xs G hG hs hk hi hj)
  rw [gbP5]
  by_cases h : (G.length : Int) < 192
  · have hd : decide ((G.length : Int) < 192) = true := by simpa using h
    have hg := gT_eq (i := i) (by omega)
    have hw : W ((i : Int) + 1) = ((i + 1 : Nat) : Int) := by rw [W_in (by omega)]; simp
    have t1 : leI (W ((i : Int) + 1)) G.length = true := by rw [hw]; exact le_ok (by omega)
    have t2 : (Nat.ble (0 + gT i) G.length && true) = true := by rw [hg, Nat.zero_add, Nat.ble_eq_true_of_le (by omega)]; rfl
    have t3 : twT (gT i) (opRow G) = true := by unfold twT; rw [Nat.beq_refl, okOps_opRow]; simp; omega
    have t4 : Nat.beq (gT i) 0 = false := beq_ff (by omega)
    have t5 : decide ((i : Int) < (G.length : Int)) = true := by simpa using hi
    have t6 : Nat.beq (G.length - i) 0 = false := beq_ff (by omega)
    have t7 : (Nat.beq (gT i) (gT i) && room12 (gT i + (G.length - i))) = true := by rw [Nat.beq_refl, room12_ok (by omega)]; rfl
    have hr := tw_rows hi hk
    have t8 : oT (gT i + (G.length - i)) (catR (gT i) (opRow (opsOf (gT i) (opRow G))) (tailR i (opRow G))) = true := by
      unfold oT
      rw [Nat.beq_refl, okOps_congr hr, okOps_opRow]
      rfl
    have t9 : (chkI (opsOf (gT i + (G.length - i)) (catR (gT i) (opRow (opsOf (gT i) (opRow G))) (tailR i (opRow G)))) == 5) = true := by
      rw [opsOf_congr hr, opsOf_row (by rw [tw_len hi, hg]), chk_unsorted (by rw [tw_len hi]; omega) (fun o ho => hG.ck o (tw_mem o ho)) (tw_not hi)]
      rfl
    simp only [hd, t1, t2, t3, t4, le_ok (Nat.le_of_lt hi), t5, t6, t7, gd_true, gn_false, gbC5, lk_true, t8, t9]
  · have hd : decide ((G.length : Int) < 192) = false := by simpa using h
    rw [hd]
theorem gbQ4 {i j : Nat} (hi : i < G.length) (hj : j < G.length) : CodeSem Try.prog 1 (seqDrop 8 (gbB Try.prog)) (gb1 own xs.length xs G.length G i j) .ret (gbEnd own xs) := by
  refine seg_rule (C := Cb5 Try.prog) okb5 (bodyOf_in Try.func4 gbB_eq) (n := 60) (k := 1) (mask := [1, 2, 6, 7, 9]) (sp := [.fix 0, .slot 7]) (s := gb1 own xs.length xs G.length G i j) ?_ (by rw [seqDrop_drop]; exact gbQ5 own xs G hG hs hk hi hj)
  rw [gbP4]
  by_cases h : i = j
  · have hd : ((i : Int) != (j : Int)) = false := by subst h; simp
    rw [hd]
  · have hd : ((i : Int) != (j : Int)) = true := by simp; omega
    have t3 : twT G.length (opRow G) = true := by unfold twT; rw [Nat.beq_refl, okOps_opRow]; simp; omega
    have t4 : Nat.beq G.length 0 = false := beq_ff (by omega)
    have hr := fun q hq => sw_rows hi hj h q hq
    have t8 : oT G.length (swR G i j) = true := by
      unfold oT
      rw [Nat.beq_refl, okOps_congr hr, okOps_opRow]
      rfl
    have t9 : (chkI (opsOf G.length (swR G i j)) == 5) = true := by
      rw [opsOf_congr hr, opsOf_row (sw_len G i j), chk_unsorted (by rw [sw_len]; exact hk) (fun o ho => hG.ck o (sw_mem hi hj o ho)) (sw_not hi hj h hs)]
      rfl
    simp only [hd, lk_true, t3, t4, bd_ok hi, bd_ok hj, gd_true, gn_false, opsOf_row rfl, t8, t9]
theorem gbQ3 {i j : Nat} (hi : i < G.length) (hj : j < G.length) : CodeSem Try.prog 1 (seqDrop 7 (gbB Try.prog)) (gb2 own xs.length xs G.length G i j (G.eraseIdx i).length (opRow (G.eraseIdx i))) .ret (gbEnd own xs) := by
  refine seg_rule (C := Cbl Try.prog) okbl (bodyOf_in Try.func4 gbB_eq) (n := 60) (k := 1) (mask := [1, 2, 6, 7, 9]) (sp := [.fix 0, .slot 7]) (s := gb1 own xs.length xs G.length G i j) ?_ (by rw [seqDrop_drop]; exact gbQ4 own xs G hG hs hk hi hj)
  rw [gbP3]
  have hl := less_len hi
  by_cases h : 2 < G.length
  · have hd : decide ((G.length : Int) > 2) = true := by simp; omega
    have h5 := chk_less hG h hk (L := G.eraseIdx i) (by omega) less_mem
    have h2 : ((G.length : Int) == 2) = false := by simp; omega
    have h55 : ((5 : Int) != 5) = false := rfl
    simp only [hd, gbC, lk_true, ot, gd_true, opsOf_row rfl, h5, h55, gbTail, h2]
  · have hd : decide ((G.length : Int) > 2) = false := by simp; omega
    rw [hd]
    unfold gbTail
    by_cases h2 : G.length = 2
    · have h2' : ((G.length : Int) == 2) = true := by simp; omega
      simp only [h2', gbC, lk_true, ot, gd_true, opsOf_row rfl, bd_ok hi, two_less hG h2 hi]
    · have h2' : ((G.length : Int) == 2) = false := by simp; omega
      rw [h2']
theorem gbQ2 {i j : Nat} (hi : i < G.length) (hj : j < G.length) : CodeSem Try.prog 1 (seqDrop 6 (gbB Try.prog)) (gb1 own xs.length xs G.length G i j) .ret (gbEnd own xs) := by
  have hl := less_len hi
  have next : ∀ (l : Nat) (r : Nat → List Value), l = G.length - 1 → rowsLike l r (opRow (G.eraseIdx i)) → CodeSem Try.prog 1 (seqDrop 1 (seqDrop 6 (gbB Try.prog))) (gb2 own xs.length xs G.length G i j l r) .ret (gbEnd own xs) := fun l r h1 h2 => by
    rw [seqDrop_drop]
    rw [← hl] at h1
    subst h1
    exact (gbQ3 own xs G hG hs hk hi hj).like ⟨rfl, .refl _, .refl _, .rows h2, trivial⟩
  by_cases h0 : i = 0
  · subst h0
    by_cases h1 : G.length = 1
    · have hlast : CodeSem Try.prog 1 (seqDrop 1 (seqDrop 6 (gbB Try.prog))) (gb2n own xs.length xs G.length G 0 j) .ret (gbEnd own xs) := by
        rw [seqDrop_drop]
        have h4 := gbQ4 own xs G hG hs hk hi hj
        rw [h1] at h4 ⊢
        exact seg_rule (C := Cbl Try.prog) okbl (bodyOf_in Try.func4 gbB_eq) (n := 60) (k := 1) (mask := [1, 2, 6, 7, 9]) (sp := [.fix 0, .slot 7]) (gbP3n own xs.length xs G j) (by rw [seqDrop_drop]; exact h4)
      refine seg_rule (C := Cqe Try.prog) okqe (bodyOf_in Try.func4 gbB_eq) (n := 60) (k := 1) (mask := [1, 2, 6, 7, 9, 10]) (sp := [.fix 0, .slot 7, .slot 10]) ?_ hlast
      rw [gbP2z, show leI 0 G.length = true from le_ok (i := 0) (by omega), show leI 1 G.length = true from le_ok (i := 1) (by omega), show decide ((1 : Int) < (G.length : Int)) = false by simp; omega]
      rfl
    · refine seg_rule (C := Cqe Try.prog) okqe (bodyOf_in Try.func4 gbB_eq) (n := 60) (k := 1) (mask := [1, 2, 6, 7, 9, 10]) (sp := [.fix 0, .slot 7, .slot 10]) ?_ (next (G.length - 1) (tailR 1 (opRow G)) rfl (less_rows0 (by omega)))
      rw [gbP2z, show leI 0 G.length = true from le_ok (i := 0) (by omega), show leI 1 G.length = true from le_ok (i := 1) (by omega), show decide ((1 : Int) < (G.length : Int)) = true by simp; omega, beq_ff (show G.length - 1 ≠ 0 by omega), room12_ok (by omega)]
      rfl
  · have hg := gT_eq (i := i) (by omega)
    have hw : W ((i : Int) + 1) = ((i + 1 : Nat) : Int) := by rw [W_in (by omega)]; simp
    have t2 : (Nat.ble (0 + i) G.length && true) = true := by rw [Nat.zero_add, Nat.ble_eq_true_of_le (by omega)]; rfl
    have t3 : twT i (opRow G) = true := by unfold twT; rw [Nat.beq_refl, okOps_opRow]; simp; omega
    have t4 : Nat.beq i 0 = false := beq_ff h0
    have t5 : leI (W ((i : Int) + 1)) G.length = true := by rw [hw]; exact le_ok (by omega)
    by_cases h1 : i + 1 = G.length
    · refine seg_rule (C := Cqa Try.prog) okqa (bodyOf_in Try.func4 gbB_eq) (n := 60) (k := 1) (mask := [1, 2, 6, 7, 9, 10]) (sp := [.fix 0, .slot 7, .slot 10]) ?_ (next i (opRow (opsOf i (opRow G))) (by omega) (by rw [less_last h1]; exact fun _ _ => rfl))
      have t6 : decide (W ((i : Int) + 1) < (G.length : Int)) = false := by rw [hw]; simp; omega
      rw [gbP2, le_ok (Nat.le_of_lt hi), t2, t3, t4, t5, t6]
      rfl
    · refine seg_rule (C := Cqa Try.prog) okqa (bodyOf_in Try.func4 gbB_eq) (n := 60) (k := 1) (mask := [1, 2, 6, 7, 9, 10]) (sp := [.fix 0, .slot 7, .slot 10]) ?_ (next (i + (G.length - gT i)) _ (by omega) (by rw [show i + (G.length - gT i) = G.length - 1 by omega]; exact less_rows hi hk))
      have t6 : decide (W ((i : Int) + 1) < (G.length : Int)) = true := by rw [hw]; simp; omega
      have t7 : Nat.beq (G.length - gT i) 0 = false := beq_ff (by omega)
      have t8 : (Nat.beq i i && room12 (i + (G.length - gT i))) = true := by rw [Nat.beq_refl, room12_ok (by omega)]; rfl
      rw [gbP2, le_ok (Nat.le_of_lt hi), t2, t3, t4, t5, t6, t7, t8]
      rfl
end
theorem body_in0 {C : Cx} {f B : Nat} {fn : Func} {b : Code} (hf : C.P.funcs[f]? = some fn) (hb : fn.body = some b) : InBody (C.into f B) b := Or.inl ⟨fn, b, hf, hb, fun _ hx => hx⟩
theorem idx_nat (sd : Int) {k : Nat} (h1 : 1 ≤ k) (h2 : k ≤ 1000) : ∃ i : Nat, idxI sd k = (i : Int) ∧ i < k := by
  have h := idx_in sd h1 h2
  simp [boundsI] at h
  exact ⟨(idxI sd k).toNat, by omega, by omega⟩
theorem gb_sem (own : Bool) (xs : List O3) (a b : Int) (hn : xs.length ≤ 1048576) : MemSem Try.prog 4 [.slice (some ⟨0, 0, some 0⟩) xs.length 12, vI a, vI b] [.rows own true 12 xs.length (opRow xs)] (.bool true) [.rows own true 12 xs.length (opRow xs)] := by
  have z : idxI a 1 = 0 ∧ idxI b 1 = 0 := by
    obtain ⟨i, h1, h2⟩ := idx_nat a (k := 1) (by omega) (by omega)
    obtain ⟨j, h3, h4⟩ := idx_nat b (k := 1) (by omega) (by omega)
    omega
  by_cases h0 : xs = []
  · subst h0
    refine body_mem (f := 4) Try.func4 gbB_eq (by kernel_rfl) ?_ (gbRet own 0 [])
    have h2 := gbZ2 own a b
    rw [z.1, z.2] at h2
    exact seg_rule (C := Cqe Try.prog) okqe (f := 4) (B := 1) (body_in0 Try.func4 gbB_eq) h2 (end_rule (C := Cbz Try.prog) okbz (f := 4) (B := 1) (bodyOf_in Try.func4 gbB_eq) (gbZ4 own))
  · have hpos : 1 ≤ xs.length := List.length_pos_iff.2 h0
    have e0 : Nat.beq xs.length 0 = false := beq_ff (by omega)
    have tw : twT xs.length (opRow xs) = true := by unfold twT; rw [Nat.beq_refl, okOps_opRow]; simp; omega
    cases hc : clsOk xs with
    | true =>
      refine body_mem (f := 4) Try.func4 gbB_eq (by kernel_rfl) ?_ (gbRet own xs.length xs)
      have hG1 := cls_pos hc
      have hk := clsOk_len hc
      obtain ⟨i, i1, i2⟩ := idx_nat a hG1 (by omega)
      obtain ⟨j, j1, j2⟩ := idx_nat b hG1 (by omega)
      have k0 : (((clsG xs).length : Int) == 0) = false := by simp; intro h; rw [h] at hG1; simp at hG1
      have h1 := gbP1 own xs.length xs a b
      simp only [lk_true, gd_true, tw, e0, gn_false, opsOf_row rfl, ot, hc, k0, i1, j1] at h1
      exact seg_rule (C := Cqa Try.prog) okqa (f := 4) (B := 1) (body_in0 Try.func4 gbB_eq) h1 (gbQ2 own xs (clsG xs) (clsG_grp hc) (clsG_strict hc) hk i2 j2)
    | false =>
      refine exT_ok okqd Try.func4 (by kernel_rfl) (n := 80) (sp := [.fix 0]) ?_
      rw [gbE2]
      simp only [lk_true, gd_true, tw, e0, gn_false, opsOf_row rfl, ot, hc]
      rcases clsErr_vals xs with h | h | h | h <;> rw [h] <;> rfl
theorem groupBroken_nil (W : World) (a b : Int) : Calls Try.prog 4 #[.slice none 0 0, .int .i64 a, .int .i64 b] W fun e W' => e = .returned (.bool true) ∧ Below W.heap.size W W' := by
  have z : idxI a 1 = 0 ∧ idxI b 1 = 0 := by
    obtain ⟨i, h1, h2⟩ := idx_nat a (k := 1) (by omega) (by omega)
    obtain ⟨j, h3, h4⟩ := idx_nat b (k := 1) (by omega) (by omega)
    omega
  have hm : MemSem Try.prog 4 [.slice none 0 0, vI a, vI b] [] (.bool true) [] := by
    refine body_mem (f := 4) Try.func4 gbB_eq (by kernel_rfl) ?_ (e := .ret) (s := stOf 152 [(6, .bool true)] []) (by kernel_rfl)
    have h2 := gbZ1 a b
    rw [z.1, z.2] at h2
    exact seg_rule (C := Cqe Try.prog) okqe (f := 4) (B := 0) (body_in0 Try.func4 gbB_eq) h2 (end_rule (C := Cbz Try.prog) okbz (f := 4) (B := 0) (bodyOf_in Try.func4 gbB_eq) gbZ3)
  have h : PlainSem Try.prog 4 [.slice none 0 0, vI a, vI b] (.bool true) := hm.plain (by intro x hx; simp only [List.mem_cons, List.not_mem_nil, or_false] at hx; rcases hx with rfl | rfl | rfl <;> rfl) rfl
  exact (h.2 W).mono fun _ _ hq => ⟨hq.1, hq.2.1⟩
theorem groupBroken_walk {W : World} {a : Addr} {xs : List O3} {cap : Nat} (hn : xs.length ≤ 1048576) (ha : OpsAt W a xs) (hc : xs.length ≤ cap) (i j : Int) : Calls Try.prog 4 #[.slice (some a) xs.length cap, .int .i64 i, .int .i64 j] W fun e W' => e = .returned (.bool true) ∧ Below W.heap.size W W' :=
  (gb_sem false xs i j hn).calls ha hc (more := [.int .i64 i, .int .i64 j]) (more' := [.int .i64 i, .int .i64 j]) ⟨rfl, rfl, trivial⟩
end Go.Proofs.Ytmpkkmhielkggaa
