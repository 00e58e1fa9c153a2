/-
  facetlaw05.GroupLeast answers true. Nothing here is trusted.
-/
import Derived.Test.YtmpkkmhielkggaaHTQc
import Derived.Test.YtmpkkmhielkggaaKas
import Derived.Test.YtmpkkmhielkggaaHOpenL
namespace Go.Proofs.Ytmpkkmhielkggaa
open Go Vx Go.RowKit
theorem opsOf_congr {n : Nat} {f g : Nat → List Value} (h : ∀ i, i < n → f i = g i) : opsOf n f = opsOf n g := by
  unfold opsOf
  apply List.map_congr_left
  intro i hi
  rw [h i (List.mem_range.1 hi)]
theorem okOps_congr {n : Nat} {f g : Nat → List Value} (h : ∀ i, i < n → f i = g i) : okOps n f = okOps n g := by
  unfold okOps
  rw [Bool.eq_iff_iff, List.all_eq_true, List.all_eq_true]
  constructor
  · intro k i hi; rw [← h i (List.mem_range.1 hi)]; exact k i hi
  · intro k i hi; rw [h i (List.mem_range.1 hi)]; exact k i hi
theorem snoc_ops (X : List O3) (o : O3) {n : Nat} (hn : X.length = n) : opsOf (n + 1) (catR n (opRow X) (chop 12 0 o.cells)) = X ++ [o] ∧ okOps (n + 1) (catR n (opRow X) (chop 12 0 o.cells)) = true := by
  subst hn
  have h : ∀ i, i < X.length + 1 → catR X.length (opRow X) (chop 12 0 o.cells) i = opRow (X ++ [o]) i := fun i hi => catR_one X o i hi
  rw [opsOf_congr h, okOps_congr h]
  exact ⟨opsOf_row (by simp), okOps_opRow _ _⟩
theorem ck_vals (o : O3) : o.ck = 0 ∨ o.ck = 3 ∨ o.ck = 4 := by
  unfold O3.ck
  cases o.t.part with
  | true =>
    simp only [cond_true]
    unfold M3.form
    cases o.r.ok <;> cases unitB o.r.det <;> simp
  | false => simp
theorem leastN_vals {a b : Int} (ha : a = 0 ∨ a = 3 ∨ a = 4) (hb : b = 0 ∨ b = 3 ∨ b = 4) : leastN a b = 0 ∨ leastN a b = 3 ∨ leastN a b = 4 := by
  rcases ha with rfl | rfl | rfl <;> rcases hb with rfl | rfl | rfl <;> decide
theorem leastL_vals : ∀ (l : List O3) (e : Int), (e = 0 ∨ e = 3 ∨ e = 4) → leastL l e = 0 ∨ leastL l e = 3 ∨ leastL l e = 4
  | [], _, h => h
  | o :: l, _, h => leastL_vals l _ (leastN_vals h (ck_vals o))
theorem clsErr_vals (X : List O3) : clsErr X = 2 ∨ clsErr X = 3 ∨ clsErr X = 4 ∨ clsErr X = 5 := by
  unfold clsErr ckMaps
  by_cases h : (X.length : Int) > 192
  · rw [if_pos h]; simp
  · rw [if_neg h]
    rcases leastL_vals X 0 (Or.inl rfl) with h | h | h <;> rw [h] <;> simp
theorem idx_in (sd : Int) {k : Nat} (h1 : 1 ≤ k) (h2 : k ≤ 1000) : boundsI (idxI sd k) k = true := by
  have hk : (0 : Int) < (k : Int) := by omega
  have b1 := tmod_bd sd k hk
  unfold idxI
  rw [W_in (by omega)]
  have b2 := tmod_bd (Int.tmod sd (k : Int) + (k : Int)) k hk
  have b3 := Int.tmod_nonneg (a := Int.tmod sd (k : Int) + (k : Int)) (k : Int) (by omega)
  simp [boundsI]
  omega
theorem atO_mem {G : List O3} {i : Int} (h : boundsI i G.length = true) : atO G i ∈ G := by
  simp [boundsI] at h
  unfold atO
  rw [List.getElem?_eq_getElem (by omega : i.toNat < G.length)]
  exact List.getElem_mem _
theorem allF_all {G : List O3} (hc : chkI G = 0) : ∀ (l : List O3), (∀ o ∈ l, o ∈ G) → allF G l = true
  | [], _ => rfl
  | o :: l, h => by
    unfold allF
    rw [fnd_in hc (h o (by simp)), allF_all hc l fun x hx => h x (by simp [hx])]
    rfl
theorem ssT_ok {n m : Nat} {X Y : List O3} (hn : n ≤ 1500000) : ssT n m (opRow X) (opRow Y) = true := by unfold ssT; rw [Nat.beq_refl, Nat.beq_refl, okOps_opRow, okOps_opRow]; simpa using hn
theorem glEnd_true {own : Bool} {n : Nat} {X : List O3} {R C : Nat} {G : List O3} (hk : G.length ≤ 192) (h : R * C = G.length) : glEnd own n X R C G G G.length G = ansR own n X true := by
  unfold glEnd
  have hw : (W ((R : Int) * (C : Int)) == (G.length : Int)) = true := by
    have : ((R : Int) * (C : Int)) = (G.length : Int) := by rw [← h]; simp
    rw [this, W_in (by omega)]
    simp
  rw [hw]
  simp only [lk2_true, ssT_ok (show G.length ≤ 1500000 by omega), opsOf_row rfl, sameB_iff.2 rfl, gd_true]
theorem glE1_true (own : Bool) (xs : List O3) (sd : Int) (h0 : xs ≠ []) (hc : clsOk xs = true) : exT ((Cqc Try.prog).at 3) 80 Try.f3 [.slice (some ⟨0, 0, some 0⟩) xs.length 12, vI sd] [.rows own true 12 xs.length (opRow xs)] [.fix 0] = ansR own xs.length xs true := by
  rw [glE1]
  have hl := (clsOk_spec hc).1
  have hpos : 1 ≤ xs.length := List.length_pos_iff.2 h0
  have hG := clsOk_len hc
  have hG1 := cls_pos hc
  have hchk := chk_cls hc
  have e0 : Nat.beq xs.length 0 = false := by
    cases hb : Nat.beq xs.length 0 with
    | false => rfl
    | true => have := Nat.eq_of_beq_eq_true hb; omega
  have tw : twT xs.length (opRow xs) = true := by unfold twT; rw [Nat.beq_refl, okOps_opRow]; simp; omega
  have ot : ∀ (X : List O3) (n : Nat), oT n (opRow X) = true := fun X n => by unfold oT; rw [Nat.beq_refl, okOps_opRow]; rfl
  simp only [lk_true, gd_true, tw, e0, gn_false, opsOf_row rfl, ot, hc]
  generalize hGd : clsG xs = G at *
  have ek : Nat.beq G.length 0 = false := by
    cases hb : Nat.beq G.length 0 with
    | false => rfl
    | true => have := Nat.eq_of_beq_eq_true hb; omega
  unfold glMid
  have hin : ∀ o ∈ xs, o ∈ G := fun o ho => by rw [← hGd]; exact cls_has hc ho
  have t1 : glT1 xs.length xs xs G.length G = true := by
    unfold glT1
    rw [Nat.beq_refl, Nat.beq_refl, okOps_opRow, okOps_opRow, opsOf_row rfl, opsOf_row rfl, allF_all hchk xs hin]
    simp
    omega
  have t2 : glT2 xs.length xs xs G.length G = true := by
    unfold glT2
    rw [Nat.beq_refl, Nat.beq_refl, okOps_opRow, okOps_opRow, opsOf_row rfl, ordG_strict.2 (by rw [← hGd]; exact clsG_strict hc)]
    simp
    omega
  have d1 : decide ((G.length : Int) > 192) = false := by simp; omega
  have d2 : decide ((G.length : Int) < 1) = false := by simp; omega
  simp only [lk_true, gd_true, ot, opsOf_row rfl, hchk, beq_self_eq_true, d1, d2, t1, t2]
  unfold glAgain
  have b1 : bI G.length (opRow G) = true := bI_ok (by omega)
  have tw2 : twT G.length (opRow G) = true := by unfold twT; rw [Nat.beq_refl, okOps_opRow]; simp; omega
  have hself := cls_again hc (ms := G) hG hin (by rw [hGd]; exact fun m hm => hm)
  rw [hGd] at hself
  have t3 : (Nat.beq xs.length xs.length && (okOps xs.length (opRow xs) && (decide (W ((xs.length : Int) - 1) = (xs.length : Int) - 1) && (decide (1 ≤ xs.length) && decide (xs.length ≤ 1048576))))) = true := by
    rw [Nat.beq_refl, okOps_opRow, W_in (by omega)]
    simp
    omega
  have hbne : ((0 : Int) != 0) = false := rfl
  simp only [lk_true, gd_true, b1, tw2, ek, gn_false, ot, opsOf_row rfl, hchk, hbne, hself.1, hself.2, t3]
  have hrc := rots_cens (X := G) (by rw [← hGd]; exact clsG_grp hc) (by rw [← hGd]; exact clsG_strict hc)
  unfold glTurn
  have k0 : ((G.length : Int) == 0) = false := by simp; intro h; rw [h] at hG1; simp at hG1
  have hix := idx_in sd hG1 (by omega)
  have hrv : xs.reverse.length = xs.length := by simp
  have hso := snoc_ops xs.reverse (atO G (idxI sd G.length)) hrv
  have hrm : (Nat.beq xs.length xs.length && room12 (xs.length + 1)) = true := by rw [Nat.beq_refl, room12_ok (by omega)]; rfl
  have os : oT (xs.length + 1) (catR xs.length (opRow xs.reverse) (chop 12 0 (atO G (idxI sd G.length)).cells)) = true := by unfold oT; rw [Nat.beq_refl, hso.2]; rfl
  by_cases hn : (xs.length : Int) < 192
  · have dn : decide ((xs.length : Int) < 192) = true := by simpa using hn
    have hoth := cls_again hc (ms := xs.reverse ++ [atO G (idxI sd G.length)]) (by simp; omega) (fun x hx => by simp [hx]) (fun m hm => by
      rw [hGd]
      rcases List.mem_append.1 hm with hm | hm
      · exact hin m (by simpa using hm)
      · simp only [List.mem_cons, List.not_mem_nil, or_false] at hm
        subst hm
        exact atO_mem hix)
    rw [hGd] at hoth
    simp only [dn, k0, gn_false, hix, gd_true, hrm, lk_true, os, hso.1, hoth.1, hoth.2]
    exact glEnd_true hG hrc
  · have dn : decide ((xs.length : Int) < 192) = false := by simpa using hn
    have hoth := cls_again hc (ms := xs.reverse) (by simpa using hl) (fun x hx => by simpa using hx) (fun m hm => by rw [hGd]; exact hin m (by simpa using hm))
    rw [hGd] at hoth
    simp only [dn, gd_true, lk_true, ot, opsOf_row hrv, hoth.1, hoth.2]
    exact glEnd_true hG hrc
theorem glE2_true (own : Bool) (xs : List O3) (sd : Int) (h0 : xs ≠ []) (hl : xs.length ≤ 1048576) (hc : clsOk xs = false) : exT ((Cqd Try.prog).at 3) 80 Try.f3 [.slice (some ⟨0, 0, some 0⟩) xs.length 12, vI sd] [.rows own true 12 xs.length (opRow xs)] [.fix 0] = ansR own xs.length xs true := by
  rw [glE2]
  have hpos : 1 ≤ xs.length := List.length_pos_iff.2 h0
  have e0 : Nat.beq xs.length 0 = false := by
    cases hb : Nat.beq xs.length 0 with
    | false => rfl
    | true => have := Nat.eq_of_beq_eq_true hb; omega
  have tw : twT xs.length (opRow xs) = true := by unfold twT; rw [Nat.beq_refl, okOps_opRow]; simp; omega
  have ot : ∀ (X : List O3) (n : Nat), oT n (opRow X) = true := fun X n => by unfold oT; rw [Nat.beq_refl, okOps_opRow]; rfl
  simp only [lk_true, gd_true, tw, e0, gn_false, opsOf_row rfl, ot, hc]
  rcases clsErr_vals xs with h | h | h | h <;> rw [h] <;> rfl
theorem glZ_one (sd : Int) : glZ sd = [O3.one] := by
  have h := idx_in sd (k := 1) (by omega) (by omega)
  simp only [boundsI, Bool.and_eq_true, decide_eq_true_eq] at h
  have : idxI sd 1 = 0 := by omega
  unfold glZ
  rw [this]
  rfl
theorem cls_one : clsOk [O3.one] = true ∧ clsG [O3.one] = [O3.one] := by
  have h : clsOk ([] : List O3) = true := by kernel_rfl
  have h2 : clsG ([] : List O3) = [O3.one] := by kernel_rfl
  have := cls_again h (ms := [O3.one]) (by simp) (fun x hx => by cases hx) (fun m hm => by rw [h2]; exact hm)
  rw [h2] at this
  exact this
theorem gl_nil (sd : Int) : exT ((Cqe Try.prog).at 3) 80 Try.f3 [.slice none 0 0, vI sd] [] [] = some (.bool true, []) := by
  rw [glE3, glZ_one, idx_in sd (by omega) (by omega), cls_one.1, cls_one.2]
  rfl
theorem gl_zero (own : Bool) (sd : Int) : exT ((Cqe Try.prog).at 3) 80 Try.f3 [.slice (some ⟨0, 0, some 0⟩) 0 12, vI sd] [.rows own true 12 0 (opRow [])] [.fix 0] = some (.bool true, [.rows own true 12 0 (opRow [])]) := by
  rw [glE4, glZ_one, idx_in sd (by omega) (by omega), cls_one.1, cls_one.2]
  rfl
theorem gl_sem (own : Bool) (xs : List O3) (sd : Int) (hn : xs.length ≤ 1048576) : MemSem Try.prog 3 [.slice (some ⟨0, 0, some 0⟩) xs.length 12, vI sd] [.rows own true 12 xs.length (opRow xs)] (.bool true) [.rows own true 12 xs.length (opRow xs)] := by
  by_cases h0 : xs = []
  · subst h0
    exact exT_ok okqe Try.func3 (by kernel_rfl) (gl_zero own sd)
  · cases hc : clsOk xs with
    | true => exact exT_ok okqc Try.func3 (by kernel_rfl) (glE1_true own xs sd h0 hc)
    | false => exact exT_ok okqd Try.func3 (by kernel_rfl) (glE2_true own xs sd h0 hn hc)
theorem groupLeast_nil (W : World) (sd : Int) : Calls Try.prog 3 #[.slice none 0 0, .int .i64 sd] W fun e W' => e = .returned (.bool true) ∧ Below W.heap.size W W' := by
  have h : PlainSem Try.prog 3 [.slice none 0 0, vI sd] (.bool true) := (exT_ok okqe Try.func3 (by kernel_rfl) (gl_nil sd)).plain (by intro x hx; simp only [List.mem_cons, List.not_mem_nil, or_false] at hx; rcases hx with rfl | rfl <;> rfl) rfl
  exact (h.2 W).mono fun _ _ hq => ⟨hq.1, hq.2.1⟩
theorem groupLeast_walk {W : World} {a : Addr} {xs : List O3} {cap : Nat} (hn : xs.length ≤ 1048576) (ha : OpsAt W a xs) (hc : xs.length ≤ cap) (sd : Int) : Calls Try.prog 3 #[.slice (some a) xs.length cap, .int .i64 sd] W fun e W' => e = .returned (.bool true) ∧ Below W.heap.size W W' :=
  (gl_sem false xs sd hn).calls ha hc (more := [.int .i64 sd]) (more' := [.int .i64 sd]) ⟨rfl, trivial⟩
end Go.Proofs.Ytmpkkmhielkggaa
