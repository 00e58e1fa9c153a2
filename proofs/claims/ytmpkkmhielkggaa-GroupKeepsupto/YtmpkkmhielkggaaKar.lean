/-
  facetref05.DocCheck and DocFind, told. Nothing here is trusted.
-/
import Derived.Test.YtmpkkmhielkggaaKaq
import Derived.Test.YtmpkkmhielkggaaKaj

namespace Go.Proofs.Ytmpkkmhielkggaa
open Go Vx
def r1 (own : Bool) (N : Nat) (X : List O3) (e : Int) : Option (Value × Mem) := some (vI e, [.rows own true 12 N (opRow X)])
def ocT (n : Nat) (row : Nat → List Value) : Bool := Nat.beq n n && (okOps n row && (decide ((1 : Int) ≤ 1) && decide ((n : Int) ≤ 4611686018427387904)))
def cuT (n : Nat) (row : Nat → List Value) : Bool := Nat.beq n n && (okOps n row && (Nat.beq n n && (decide ((n : Int) = (n : Int)) && (decide ((0 : Int) ≤ 0) && decide ((n : Int) ≤ 4611686018427387904)))))
def pT (n : Nat) (row : Nat → List Value) : Bool := Nat.beq n n && (okOps n row && decide (n ≤ 4611686018427387904))
def dckEnd (own : Bool) (N : Nat) (X : List O3) : Option (Value × Mem) := gd (cuT N (opRow X)) (match inAll (opsOf N (opRow X)) ((opsOf N (opRow X)).drop (0 : Int).toNat) with
  | true => r1 own N (opsOf N (opRow X)) 0
  | false => r1 own N (opsOf N (opRow X)) 5)
def dckMid (own : Bool) (N : Nat) (X : List O3) : Option (Value × Mem) := gd (pT N (opRow X)) (match decide (placeI (opsOf N (opRow X)) O3.one < 0) with
  | true => r1 own N (opsOf N (opRow X)) 5
  | false => dckEnd own N (opsOf N (opRow X)))
def dckOrd (own : Bool) (N : Nat) (X : List O3) : Option (Value × Mem) := gd (ocT N (opRow X)) (match ordF (atO (opsOf N (opRow X)) (1 - 1)) ((opsOf N (opRow X)).drop (1 : Int).toNat) with
  | true => dckMid own N (opsOf N (opRow X))
  | false => r1 own N (opsOf N (opRow X)) 5)
theorem dckE0 : exT ((Ccu Try.prog).at 21) 60 Try.f21 [.slice none 0 0] [] [] = some (vI 5, []) := by kernel_rfl
theorem dckE1 (own : Bool) (N : Nat) (ls : List O3) : exT ((Ccu Try.prog).at 21) 60 Try.f21 [.slice (some ⟨0, 0, some 0⟩) N 12] [.rows own true 12 N (opRow ls)] [.fix 0] =
    (match decide ((N : Int) > 192) with
    | true => r1 own N ls 2
    | false => gd (pT N (opRow ls)) (match leastL (opsOf N (opRow ls)) 0 != 0 with
      | true => r1 own N (opsOf N (opRow ls)) (leastL (opsOf N (opRow ls)) 0)
      | false => dckOrd own N (opsOf N (opRow ls)))) := by kernel_rfl
/-- What the document's Check answers. -/
def dckI (X : List O3) : Int := match decide ((X.length : Int) > 192) with
  | true => 2
  | false => match leastL X 0 != 0 with
    | true => leastL X 0
    | false => match ordF (atO X 0) (X.drop 1) with
      | true => match decide (placeI X O3.one < 0) with
        | true => 5
        | false => match inAll X X with
          | true => 0
          | false => 5
      | false => 5
theorem dckE (own : Bool) (N : Nat) (ls : List O3) (hl : ls.length = N) (hN : N ≤ 4611686018427387904) : exT ((Ccu Try.prog).at 21) 60 Try.f21 [.slice (some ⟨0, 0, some 0⟩) N 12] [.rows own true 12 N (opRow ls)] [.fix 0] = some (vI (dckI ls), [.rows own true 12 N (opRow ls)]) := by
  have t1 : pT N (opRow ls) = true := by unfold pT; rw [Nat.beq_refl, okOps_opRow]; simp; omega
  have t2 : ocT N (opRow ls) = true := by unfold ocT; rw [Nat.beq_refl, okOps_opRow]; simp; omega
  have t3 : cuT N (opRow ls) = true := by unfold cuT; rw [Nat.beq_refl, okOps_opRow]; simp; omega
  rw [dckE1]
  unfold dckOrd dckMid dckEnd dckI r1
  simp only [opsOf_row hl, t1, t2, t3, gd_true, Int.toNat_zero, List.drop_zero, hl, show ((1 : Int) - 1) = 0 from rfl, show (1 : Int).toNat = 1 from rfl]
  cases decide ((N : Int) > 192) with
  | true => rfl
  | false =>
    simp only
    cases leastL ls 0 != 0 with
    | true => rfl
    | false =>
      simp only
      cases ordF (atO ls 0) (ls.drop 1) with
      | false => rfl
      | true =>
        simp only
        cases decide (placeI ls O3.one < 0) with
        | true => rfl
        | false =>
          simp only
          cases inAll ls ls <;> rfl
/-! Both are one -/
theorem ordF_sorted : ∀ (l : List O3) (p : O3), ordF p l = true ↔ (p :: l).Pairwise fun a b => lexI a.l b.l < 0
  | [], p => by simp [ordF]
  | x :: l, p => by
    simp only [ordF]
    by_cases h : lexI p.l x.l ≥ 0
    · rw [decide_eq_true h]
      constructor
      · intro hf; cases hf
      · intro hp
        rw [List.pairwise_cons] at hp
        have := hp.1 x (by simp)
        omega
    · rw [decide_eq_false h]
      simp only
      rw [ordF_sorted l x]
      constructor
      · intro hp
        rw [List.pairwise_cons]
        refine ⟨fun y hy => ?_, hp⟩
        rcases List.mem_cons.1 hy with rfl | hy
        · omega
        · have h1 := (List.pairwise_cons.1 hp).1 y hy
          have h2 := lexI_trans (l := p.l) (m := x.l) (n := y.l) rfl rfl (by omega) (by omega)
          by_cases h0 : lexI p.l y.l = 0
          · have e := (lexI_zero (l := p.l) (m := y.l) rfl).1 h0
            rw [e, lexI_neg x.l y.l] at h
            omega
          · omega
      · intro hp
        exact (List.pairwise_cons.1 hp).2
theorem placeI_lt {xs : List O3} {o : O3} : decide (placeI xs o < 0) = !decide (o ∈ xs) := by
  have h := placeI_mem (xs := xs) (o := o)
  rw [← h]
  by_cases h1 : placeI xs o < 0
  · rw [decide_eq_true h1, decide_eq_false (by omega)]; rfl
  · rw [decide_eq_false h1, decide_eq_true (by omega)]; rfl
theorem inMul_iff {X : List O3} {a : O3} (ha : a.ck = 0) : ∀ (l : List O3), (∀ b ∈ l, b.ck = 0) → (inMul a X l = true ↔ ∀ b ∈ l, a.mul b ∈ X)
  | [], _ => by simp [inMul]
  | b :: l, h => by
    have hb := h b (by simp)
    simp only [inMul]
    rw [O3.mul5_eq ha hb, placeI_lt]
    by_cases hm : a.mul b ∈ X
    · simp only [decide_eq_true hm, Bool.not_true]
      rw [inMul_iff ha l fun x hx => h x (by simp [hx])]
      simp [hm]
    · simp only [decide_eq_false hm, Bool.not_false]
      constructor
      · intro hf; cases hf
      · intro hf; exact absurd (hf b (by simp)) hm
theorem inAll_iff {X : List O3} (hX : ∀ b ∈ X, b.ck = 0) : ∀ (l : List O3), (∀ b ∈ l, b.ck = 0) → (inAll X l = true ↔ ∀ a ∈ l, ∀ b ∈ X, a.mul b ∈ X)
  | [], _ => by simp [inAll]
  | a :: l, h => by
    have ha := h a (by simp)
    simp only [inAll]
    cases hm : inMul a X X with
    | true =>
      have h1 := (inMul_iff ha X hX).1 hm
      simp only
      rw [inAll_iff hX l fun x hx => h x (by simp [hx])]
      constructor
      · intro hf x hx
        rcases List.mem_cons.1 hx with rfl | hx
        · exact h1
        · exact hf x hx
      · intro hf x hx; exact hf x (by simp [hx])
    | false =>
      simp only
      constructor
      · intro hf; cases hf
      · intro hf
        have := (inMul_iff ha X hX).2 (hf a (by simp))
        rw [hm] at this; cases this
def StrictO (l : List O3) : Prop := l.Pairwise fun a b => lexI a.l b.l < 0
theorem strict_nodup {l : List O3} (h : StrictO l) : l.Nodup := h.imp fun {a b} hab e => by
  subst e
  have := (lexI_zero (l := a.l) (m := a.l) rfl).2 rfl
  omega
theorem strict_sorted {l : List O3} (h : StrictO l) : SortedO l := h.imp fun hab => by omega
theorem sorted_strict {l : List O3} (h : SortedO l) (hn : l.Nodup) : StrictO l := by
  unfold SortedO at h
  unfold StrictO
  unfold List.Nodup at hn
  refine (h.and hn).imp fun {a b} hab => ?_
  have := hab.1
  by_cases h0 : lexI a.l b.l = 0
  · exact absurd (O3.l_inj ((lexI_zero (l := a.l) (m := b.l) rfl).1 h0)) hab.2
  · omega
theorem smeL_iff : ∀ {l m : List O3}, l.length = m.length → (smeL l m = true ↔ l = m)
  | [], [], _ => by simp [smeL]
  | x :: l, y :: m, h => by
    simp only [smeL]
    have hl : l.length = m.length := by simpa using h
    cases he : x.eqB y with
    | true =>
      simp only [Bool.not_true]
      rw [smeL_iff hl, O3.eqB_iff.1 he]
      simp
    | false =>
      simp only [Bool.not_false]
      have := O3.eqB_false.1 he
      simp [this]
theorem sameB_iff {l m : List O3} : sameB l m = true ↔ l = m := by
  unfold sameB
  rw [Bool.and_eq_true, beq_iff_eq]
  constructor
  · rintro ⟨h1, h2⟩
    exact (smeL_iff (by omega)).1 h2
  · rintro rfl; exact ⟨rfl, smeL_refl l⟩
theorem grp_self {X : List O3} (hn : X.Nodup) (hl : X.length ≤ 192) (hck : ∀ o ∈ X, o.ck = 0) (h1 : O3.one ∈ X) (hm : ∀ a ∈ X, ∀ b ∈ X, a.mul b ∈ X) : IsGrp X X := by
  refine ⟨hn, hl, fun g => ⟨fun h => Gen.of (all_inv hck) h, fun h => ?_⟩, hck⟩
  induction h with
  | one => exact h1
  | step _ hx ih => exact hm _ ih _ hx
theorem dck_chk (X : List O3) : dckI X = chkI X := by
  unfold dckI
  by_cases h : (X.length : Int) > 192
  · have hc : ckMaps X = 2 := by unfold ckMaps; rw [if_pos h]
    have h1 : clsOk X = false := by unfold clsOk; rw [hc]; rfl
    unfold chkI clsErr
    rw [decide_eq_true h, h1, hc]; rfl
  · have hc : ckMaps X = leastL X 0 := by unfold ckMaps; rw [if_neg h]
    rw [decide_eq_false h]
    simp only
    by_cases h0 : leastL X 0 = 0
    · have hck := (leastL_zero h0).2
      rw [h0]
      simp only [bne_self_eq_false]
      have hk0 : ckMaps X = 0 := by rw [hc, h0]
      -- a group in order?
      have key : chkI X = 0 ↔ (ordF (atO X 0) (X.drop 1) = true ∧ O3.one ∈ X ∧ inAll X X = true) := by
        have hord : ordF (atO X 0) (X.drop 1) = true ↔ StrictO X := by
          cases X with
          | nil => simp [ordF, StrictO]
          | cons x l =>
            rw [ordF_sorted]
            rfl
        rw [hord, inAll_iff hck X hck]
        constructor
        · intro h
          unfold chkI at h
          cases hq : clsOk X with
          | false => rw [hq] at h; exact absurd h (clsErr_ne X)
          | true =>
            rw [hq] at h
            simp only at h
            cases hs : sameB (clsG X) X with
            | false => rw [hs] at h; cases h
            | true =>
              have e := sameB_iff.1 hs
              obtain ⟨_, _, hg⟩ := clsOk_spec hq
              have hperm : X.Perm (clG0 X [O3.one] es1).1 := by
                have := sortO_perm (clG0 X [O3.one] es1).1
                rw [show sortO (clG0 X [O3.one] es1).1 = clsG X from rfl, e] at this
                exact this
              have hgr := hg.grp (all_inv hck)
              have hsor : SortedO X := by rw [← e]; exact sortO_sorted _
              refine ⟨sorted_strict hsor (hperm.nodup_iff.2 hg.1), hperm.mem_iff.2 hgr.one, fun a ha b hb => hperm.mem_iff.2 (hgr.mul a (hperm.mem_iff.1 ha) b (hperm.mem_iff.1 hb))⟩
        · rintro ⟨h1, h2, h3⟩
          have hg := grp_self (strict_nodup h1) (by omega) hck h2 h3
          have hq : clsOk X = true := by
            unfold clsOk
            rw [hk0]
            rcases clR_spec hck with ⟨r, k1, _⟩ | ⟨_, k2⟩
            · rw [k1]; rfl
            · exact absurd k2 hg.not_bad
          obtain ⟨_, _, hg2⟩ := clsOk_spec hq
          have e : clsG X = X := sorted_one (sortO_sorted _) (strict_sorted h1) ((sortO_perm _).trans (hg2.perm hg))
          unfold chkI
          rw [hq]
          simp only
          rw [e, sameB_refl]; rfl
      have five : chkI X = 0 ∨ chkI X = 5 := by
        unfold chkI clsErr
        rw [hk0]
        cases clsOk X with
        | false => right; rfl
        | true =>
          simp only
          cases sameB (clsG X) X with
          | true => left; rfl
          | false => right; rfl
      rw [placeI_lt]
      cases ho : ordF (atO X 0) (X.drop 1) with
      | false =>
        rcases five with e | e
        · rw [ho] at key; have := (key.1 e).1; cases this
        · rw [e]
      | true =>
        simp only
        by_cases h1 : O3.one ∈ X
        · rw [decide_eq_true h1]
          simp only [Bool.not_true]
          cases hi : inAll X X with
          | true => rw [key.2 ⟨ho, h1, hi⟩]
          | false =>
            rcases five with e | e
            · rw [hi] at key; have := (key.1 e).2.2; cases this
            · rw [e]
        · rw [decide_eq_false h1]
          simp only [Bool.not_false]
          rcases five with e | e
          · exact absurd (key.1 e).2.1 h1
          · rw [e]
    · have h1 : clsOk X = false := by unfold clsOk; rw [hc, (bif_beq h0).1]; rfl
      rw [(bif_beq h0).2]
      unfold chkI clsErr
      rw [h1, hc, (bif_beq h0).1]; rfl
def dckF : List Value → Mem → Option (Ans (Value × Mem))
  | [.slice none 0 0], [] => some (.out (vI 5, []))
  | [.slice (some ⟨0, 0, some 0⟩) N 12], [.rows own true 12 N2 row] => some (.br (Nat.beq N N2 && (okOps N row && decide (N ≤ 4611686018427387904))) (.out (vI (chkI (opsOf N row)), [.rows own true 12 N (opRow (opsOf N row))])) .fail)
  | _, _ => none
def Cdk (P : Program) : Cx := (Ccu P).addF 21 dckF
theorem okdk : CxOk (Cdk Try.prog) := Cx.addF_ok okcu fun args m ans v m' h hr => by
  unfold dckF at h
  split at h
  · simp only [Option.some.injEq] at h
    subst h
    simp only [Ans.res, Option.some.injEq, Prod.mk.injEq] at hr
    obtain ⟨rfl, rfl⟩ := hr
    exact exT_ok okcu Try.func21 (by kernel_rfl) dckE0
  · rename_i N own N2 row
    simp only [Option.some.injEq] at h
    subst h
    rcases Ans.br_some hr with ⟨hc, hr1⟩ | ⟨_, hr1⟩
    rotate_left
    · simp [Ans.res] at hr1
    clear hr
    simp only [Bool.and_eq_true, decide_eq_true_eq] at hc
    obtain ⟨c1, c2, c3⟩ := hc
    have c1 := beq_len c1
    subst c1
    simp only [Ans.res, Option.some.injEq, Prod.mk.injEq] at hr1
    obtain ⟨rfl, rfl⟩ := hr1
    rw [← dck_chk]
    exact (exT_ok okcu Try.func21 (by kernel_rfl) (dckE own N (opsOf N row) (opsOf_length N row) c3)).like ⟨.rows (ops_like c2), trivial⟩
  · cases h
end Go.Proofs.Ytmpkkmhielkggaa


namespace Go.Proofs.Ytmpkkmhielkggaa
open Go Vx

theorem hit0 {β : Type} {e : β → β → Bool} (he : ∀ x y, e x y = true ↔ x = y) {k : β} : ∀ {ds : List β}, k ∉ ds → (ds.map fun d => (bif e k d then 1 else 0)).sum = 0
  | [], _ => rfl
  | d :: ds, h => by
    have h1 : e k d = false := by
      cases hk : e k d with
      | false => rfl
      | true => exact absurd (List.mem_cons.2 (Or.inl ((he k d).1 hk))) h
    simp only [List.map_cons, List.sum_cons, h1, cond_false, hit0 he (ds := ds) (fun hm => h (List.mem_cons_of_mem _ hm))]
theorem hit1 {β : Type} {e : β → β → Bool} (he : ∀ x y, e x y = true ↔ x = y) {k : β} : ∀ {ds : List β}, ds.Nodup → k ∈ ds → (ds.map fun d => (bif e k d then 1 else 0)).sum = 1
  | d :: ds, hn, h => by
    rw [List.nodup_cons] at hn
    cases hk : e k d with
    | true =>
      have e1 := (he k d).1 hk
      subst e1
      simp only [List.map_cons, List.sum_cons, hk, cond_true, hit0 he hn.1]
    | false =>
      rcases List.mem_cons.1 h with rfl | h
      · rw [(he k k).2 rfl] at hk; cases hk
      · simp only [List.map_cons, List.sum_cons, hk, cond_false, hit1 he hn.2 h]
theorem sum_two {β : Type} (f g : β → Nat) : ∀ (ds : List β), (ds.map fun d => f d + g d).sum = (ds.map f).sum + (ds.map g).sum
  | [] => rfl
  | d :: ds => by simp only [List.map_cons, List.sum_cons, sum_two f g ds]; omega
theorem sum_same {β : Type} (c : Nat) : ∀ (ds : List β), (ds.map fun _ => c).sum = ds.length * c
  | [] => by simp
  | d :: ds => by simp only [List.map_cons, List.sum_cons, sum_same c ds, List.length_cons]; rw [Nat.add_mul]; omega
theorem sum_zero {β : Type} : ∀ (ds : List β), (ds.map fun _ => 0).sum = 0
  | [] => rfl
  | d :: ds => by simp only [List.map_cons, List.sum_cons, sum_zero ds]
/-- Told apart by a key, the parts of a list count up to the list. -/
theorem count_sum {α β : Type} (r : α → β) (e : β → β → Bool) (he : ∀ x y, e x y = true ↔ x = y) (ds : List β) (hn : ds.Nodup) : ∀ (xs : List α), (∀ x ∈ xs, r x ∈ ds) → (ds.map fun d => (xs.filter fun x => e (r x) d).length).sum = xs.length
  | [], _ => sum_zero ds
  | x :: xs, h => by
    have ih := count_sum r e he ds hn xs fun y hy => h y (List.mem_cons_of_mem _ hy)
    have h1 := hit1 he hn (h x (List.mem_cons_self ..))
    have hf : (fun d => ((x :: xs).filter fun x => e (r x) d).length) = fun d => (bif e (r x) d then 1 else 0) + (xs.filter fun x => e (r x) d).length := by
      funext d
      rw [List.filter_cons]
      cases e (r x) d with
      | true => simp only [if_true, List.length_cons, cond_true]; omega
      | false => simp
    rw [hf, sum_two, h1, ih, List.length_cons]; omega

/-- As many maps of a group have this matrix as turn nothing. -/
theorem fib_len {H : List O3} (h : Grp H) {o : O3} (ho : o ∈ H) : (H.filter fun x => x.r.eqB o.r).length = (H.filter fun x => x.r.eqB M3.one).length := by
  have hi : ∀ x ∈ H, x.Inv := fun x hx => O3.inv_ck (h.ck x hx)
  obtain ⟨b, hb, e⟩ := grp_undo h.nd hi h.one h.mul ho
  obtain ⟨c, hc, e'⟩ := grp_undo h.nd hi h.one h.mul hb
  have hoc : o = c := by
    have := O3.mul_assoc o b c
    rw [e, e', O3.one_mul (hi c hc).1, O3.mul_one (hi o ho).1] at this
    exact this.symm
  rw [← hoc] at e'
  have canc : ∀ {u v : O3}, u.mul v = O3.one → ∀ x ∈ H, ∀ y ∈ H, x.mul u = y.mul u → x = y := by
    intro u v huv x hx y hy hxy
    have : (x.mul u).mul v = (y.mul u).mul v := by rw [hxy]
    rw [O3.mul_assoc, O3.mul_assoc, huv, O3.mul_one (hi x hx).1, O3.mul_one (hi y hy).1] at this
    exact this
  apply Nat.le_antisymm
  · have hn : ((H.filter fun x => x.r.eqB o.r).map fun x => x.mul b).Nodup := nodup_map (h.nd.filter _) fun x hx y hy => canc e' x (List.mem_filter.1 hx).1 y (List.mem_filter.1 hy).1
    have := nodup_sub hn (m := H.filter fun x => x.r.eqB M3.one) fun y hy => by
      obtain ⟨x, hx, rfl⟩ := List.mem_map.1 hy
      obtain ⟨hx1, hx2⟩ := List.mem_filter.1 hx
      refine List.mem_filter.2 ⟨h.mul x hx1 b hb, M3.eqB_iff.2 ?_⟩
      have k : x.r = o.r := M3.eqB_iff.1 hx2
      show x.r.mul b.r = M3.one
      rw [k]
      exact congrArg O3.r e
    rwa [List.length_map] at this
  · have hn : ((H.filter fun x => x.r.eqB M3.one).map fun x => x.mul o).Nodup := nodup_map (h.nd.filter _) fun x hx y hy => canc e x (List.mem_filter.1 hx).1 y (List.mem_filter.1 hy).1
    have := nodup_sub hn (m := H.filter fun x => x.r.eqB o.r) fun y hy => by
      obtain ⟨x, hx, rfl⟩ := List.mem_map.1 hy
      obtain ⟨hx1, hx2⟩ := List.mem_filter.1 hx
      refine List.mem_filter.2 ⟨h.mul x hx1 o ho, M3.eqB_iff.2 ?_⟩
      have k : x.r = M3.one := M3.eqB_iff.1 hx2
      show x.r.mul o.r = o.r
      rw [k, M3.one_mul]
    rwa [List.length_map] at this
/-- The count of a group is that of its matrices times that of its pure shifts. -/
theorem parts_len {H : List O3} (h : Grp H) {ds : List M3} (hn : ds.Nodup) (hd : ∀ d, d ∈ ds ↔ ∃ o ∈ H, o.r = d) : ds.length * (H.filter fun x => x.r.eqB M3.one).length = H.length := by
  have e := count_sum (fun o : O3 => o.r) M3.eqB (fun _ _ => M3.eqB_iff) ds hn H fun x hx => (hd _).2 ⟨x, hx, rfl⟩
  rw [← e, ← sum_same]
  congr 1
  refine List.map_congr_left fun d hd' => ?_
  obtain ⟨o, ho, rfl⟩ := (hd d).1 hd'
  exact (fib_len h ho).symm

/-! Closing other maps that make the same -/
theorem Vx.IsGrp.again {ls ms xs : List O3} (hl : AllInv ls) (hm : AllInv ms) (h : IsGrp ls xs) (h1 : ∀ x ∈ ls, Gen ms x) (h2 : ∀ m ∈ ms, Gen ls m) : IsGrp ms xs :=
  ⟨h.1, h.2.1, fun g => (h.2.2.1 g).trans ⟨fun k => k.mono hm h1, fun k => k.mono hl h2⟩, h.2.2.2⟩
theorem ckMaps_of {ls : List O3} (hl : ls.length ≤ 192) (h : ∀ o ∈ ls, o.ck = 0) : ckMaps ls = 0 := by
  have key : ∀ (l : List O3), (∀ o ∈ l, o.ck = 0) → leastL l 0 = 0 := by
    intro l
    induction l with
    | nil => intro _; rfl
    | cons o l ih =>
      intro h
      show leastL l (leastN 0 o.ck) = 0
      rw [h o (List.mem_cons_self ..)]
      exact ih fun x hx => h x (List.mem_cons_of_mem _ hx)
  unfold ckMaps
  rw [if_neg (by omega)]
  exact key ls h
theorem mem_clsG {ls : List O3} (h : clsOk ls = true) (g : O3) : g ∈ clsG ls ↔ Gen ls g := by
  rw [show clsG ls = sortO (clG0 ls [O3.one] es1).1 from rfl, (sortO_perm _).mem_iff]
  exact (clsOk_spec h).2.2.2.2.1 g
theorem clsG_strict {ls : List O3} (h : clsOk ls = true) : StrictO (clsG ls) :=
  sorted_strict (sortO_sorted _) ((sortO_perm _).nodup_iff.2 (clsOk_spec h).2.2.1)
theorem clsG_ck {ls : List O3} (h : clsOk ls = true) : ∀ g ∈ clsG ls, g.ck = 0 := fun g hg => (clsOk_spec h).2.2.2.2.2 g ((sortO_perm _).mem_iff.1 hg)
theorem clsG_grp {ls : List O3} (h : clsOk ls = true) : Grp (clsG ls) := by
  have hi := all_inv (clsOk_spec h).2.1
  exact ⟨strict_nodup (clsG_strict h), clsG_ck h, (mem_clsG h _).2 Gen.one, fun a ha b hb => (mem_clsG h _).2 (((mem_clsG h a).1 ha).mul hi ((mem_clsG h b).1 hb))⟩
/-- Maps of a group among which are those that made it, close to it. -/
theorem cls_again {ls ms : List O3} (h : clsOk ls = true) (hm : ms.length ≤ 192) (h1 : ∀ x ∈ ls, x ∈ ms) (h2 : ∀ m ∈ ms, m ∈ clsG ls) : clsOk ms = true ∧ clsG ms = clsG ls := by
  obtain ⟨_, hck, hg⟩ := clsOk_spec h
  have mck : ∀ m ∈ ms, m.ck = 0 := fun m hm' => clsG_ck h m (h2 m hm')
  have hg2 := hg.again (all_inv hck) (all_inv mck) (fun x hx => Gen.of (all_inv mck) (h1 x hx)) fun m hm' => (mem_clsG h m).1 (h2 m hm')
  have hq : clsOk ms = true := by
    unfold clsOk
    rw [ckMaps_of hm mck]
    rcases clR_spec mck with ⟨r, k1, _⟩ | ⟨_, k2⟩
    · rw [k1]; rfl
    · exact absurd k2 hg2.not_bad
  refine ⟨hq, ?_⟩
  obtain ⟨_, _, hg3⟩ := clsOk_spec hq
  exact sorted_one (sortO_sorted _) (sortO_sorted _) (((sortO_perm _).trans (hg3.perm hg2)).trans (sortO_perm _).symm)
end Go.Proofs.Ytmpkkmhielkggaa


namespace Go.Proofs.Ytmpkkmhielkggaa
open Go Vx
theorem mGet_put (k j : List Int) (v : Int) : ∀ (es : ES), mGet j (mPut k v es) = if j = k then v else mGet j es
  | [] => by
    simp only [mPut, mGet]
    by_cases h : k = j
    · subst h; simp
    · simp [h, Ne.symm h]
  | e :: es => by
    have ih := mGet_put k j v es
    simp only [mPut]
    by_cases h : e.1 = k
    · rw [show decide (e.1 = k) = true by simpa using h]
      simp only [mGet]
      by_cases hj : k = j
      · subst hj; simp
      · have hj' : ¬ e.1 = j := by rw [h]; exact hj
        simp [hj, hj', Ne.symm hj]
    · rw [show decide (e.1 = k) = false by simpa using h]
      simp only [mGet]
      by_cases hj : e.1 = j
      · have hjk : ¬ j = k := by rw [← hj]; exact h
        simp [hj, hjk]
      · rw [show decide (e.1 = j) = false by simpa using hj]
        exact ih
theorem ats_has : ∀ (l : List O3) (i : Int) (es : ES) (o : O3), mHas (key o) (atsL l i es) = true ↔ o ∈ l ∨ mHas (key o) es = true
  | [], i, es, o => by simp [atsL]
  | x :: l, i, es, o => by
    simp only [atsL]
    rw [ats_has l (i + 1) _ o, mHas_put, List.mem_cons]
    constructor
    · rintro (h | h | h)
      · exact Or.inl (Or.inr h)
      · exact Or.inl (Or.inl (key_inj h))
      · exact Or.inr h
    · rintro ((h | h) | h)
      · exact Or.inr (Or.inl (by rw [h]))
      · exact Or.inl h
      · exact Or.inr (Or.inr h)
theorem ats_out : ∀ (l : List O3) (i : Int) (es : ES) (o : O3), o ∉ l → mGet (key o) (atsL l i es) = mGet (key o) es
  | [], i, es, o, _ => rfl
  | x :: l, i, es, o, h => by
    simp only [atsL]
    rw [List.mem_cons] at h
    have hx : ¬ key o = key x := fun e => h (Or.inl (key_inj e))
    rw [ats_out l (i + 1) _ o (fun hm => h (Or.inr hm)), mGet_put, if_neg hx]
theorem ats_get : ∀ (l : List O3) (i : Int) (es : ES) (o : O3), l.Nodup → o ∈ l → plcL l o i = some (mGet (key o) (atsL l i es))
  | [], i, es, o, _, h => by simp at h
  | x :: l, i, es, o, hn, h => by
    rw [List.nodup_cons] at hn
    simp only [plcL, atsL]
    cases he : x.eqB o with
    | true =>
      have e := O3.eqB_iff.1 he
      subst e
      simp only
      rw [ats_out l (i + 1) _ x hn.1, mGet_put, if_pos rfl]
    | false =>
      simp only
      rcases List.mem_cons.1 h with e | hm
      · exact absurd e.symm (O3.eqB_false.1 he)
      · exact ats_get l (i + 1) _ o hn.2 hm
theorem chk_nodup {X : List O3} (h : chkI X = 0) : X.Nodup := by
  unfold chkI at h
  cases hq : clsOk X with
  | false => rw [hq] at h; exact absurd h (clsErr_ne X)
  | true =>
    rw [hq] at h
    simp only at h
    cases hs : sameB (clsG X) X with
    | false => rw [hs] at h; cases h
    | true =>
      have e := sameB_iff.1 hs
      obtain ⟨_, _, hg⟩ := clsOk_spec hq
      rw [← e]
      exact (sortO_perm _).nodup_iff.2 hg.1
theorem fnd_place {X : List O3} (h : chkI X = 0) (o : O3) : (bif mHas (key o) (atsL X 0 []) then mGet (key o) (atsL X 0 []) else 0) = (bif decide (placeI X o ≥ 0) then placeI X o else 0) ∧ mHas (key o) (atsL X 0 []) = decide (placeI X o ≥ 0) := by
  have hh : mHas (key o) (atsL X 0 []) = decide (placeI X o ≥ 0) := by
    rw [placeI_mem, Bool.eq_iff_iff, ats_has, decide_eq_true_eq]
    simp [mHas]
  refine ⟨?_, hh⟩
  rw [hh]
  by_cases hm : o ∈ X
  · have := ats_get X 0 [] o (chk_nodup h) hm
    rw [placeI_mem, decide_eq_true hm]
    unfold placeI
    rw [this]; rfl
  · rw [placeI_mem, decide_eq_false hm]; rfl
end Go.Proofs.Ytmpkkmhielkggaa


namespace Go.Proofs.Ytmpkkmhielkggaa
open Go Vx

theorem chk_grp {X : List O3} (h : chkI X = 0) : StrictO X ∧ Grp X ∧ X.length ≤ 192 := by
  unfold chkI at h
  cases hq : clsOk X with
  | false => rw [hq] at h; exact absurd h (clsErr_ne X)
  | true =>
    rw [hq] at h
    simp only at h
    cases hs : sameB (clsG X) X with
    | false => rw [hs] at h; cases h
    | true =>
      have e := sameB_iff.1 hs
      have h1 := clsG_strict hq
      have h2 := clsG_grp hq
      have h3 := clsOk_len hq
      rw [e] at h1 h2 h3
      exact ⟨h1, h2, h3⟩
theorem chk_of {X : List O3} (hs : StrictO X) (hg : Grp X) (hl : X.length ≤ 192) : chkI X = 0 := by
  have hI := grp_self hg.nd hl hg.ck hg.one hg.mul
  have hq : clsOk X = true := by
    unfold clsOk
    rw [ckMaps_of hl hg.ck]
    rcases clR_spec hg.ck with ⟨r, k1, _⟩ | ⟨_, k2⟩
    · rw [k1]; rfl
    · exact absurd k2 hI.not_bad
  obtain ⟨_, _, hg2⟩ := clsOk_spec hq
  have e : clsG X = X := sorted_one (sortO_sorted _) (strict_sorted hs) ((sortO_perm _).trans (hg2.perm hI))
  unfold chkI
  rw [hq]
  simp only
  rw [e, sameB_refl]; rfl
/-- Maps in form, not too many: the list is a group in order, or it doesn't close. -/
theorem chk_five {X : List O3} (hl : X.length ≤ 192) (hck : ∀ o ∈ X, o.ck = 0) : chkI X = 0 ∨ chkI X = 5 := by
  unfold chkI clsErr
  rw [ckMaps_of hl hck]
  cases clsOk X with
  | false => right; rfl
  | true =>
    simp only
    cases sameB (clsG X) X with
    | true => left; rfl
    | false => right; rfl
theorem chk_cls {ls : List O3} (h : clsOk ls = true) : chkI (clsG ls) = 0 := chk_of (clsG_strict h) (clsG_grp h) (clsOk_len h)
theorem cls_has {ls : List O3} (h : clsOk ls = true) {o : O3} (ho : o ∈ ls) : o ∈ clsG ls := (mem_clsG h o).2 (Gen.of (all_inv (clsOk_spec h).2.1) ho)
theorem cls_pos {ls : List O3} (h : clsOk ls = true) : 1 ≤ (clsG ls).length := List.length_pos_of_mem (clsG_grp h).one
/-- Find, for a map of the group. -/
theorem fnd_in {X : List O3} (h : chkI X = 0) {o : O3} (ho : o ∈ X) : fndE X o = 0 := by
  have hk : o.ck = 0 := (chk_grp h).2.1.ck o ho
  have hm : mHas (key o) (atsL X 0 []) = true := (ats_has X 0 [] o).2 (Or.inl ho)
  unfold fndE
  rw [h, hk, hm]
  rfl

/-! Groups within groups -/
theorem grp_cosets {P G : List O3} (hP : Grp P) (hG : Grp G) (hs : ∀ x ∈ P, x ∈ G) : ∀ (k : Nat) (bs : List O3), (∀ b ∈ bs, b ∈ G) → (cosets P bs).Nodup → G.length - (cosets P bs).length ≤ k → ∃ n, G.length = n * P.length
  | k, bs, hb, hn, hk => by
    have hsub : ∀ x ∈ cosets P bs, x ∈ G := by
      intro x hx
      obtain ⟨b, hb', p, hp, rfl⟩ := mem_cosets.1 hx
      exact hG.mul b (hb b hb') p (hs p hp)
    have hle := nodup_sub hn hsub
    by_cases hall : ∀ g ∈ G, g ∈ cosets P bs
    · have hge := nodup_sub hG.nd hall
      exact ⟨bs.length, by rw [← cosets_len]; omega⟩
    · have ⟨f, hf⟩ : ∃ f, ¬ (f ∈ G → f ∈ cosets P bs) := Classical.not_forall.1 hall
      have hfG : f ∈ G := Classical.byContradiction fun h => hf fun h' => absurd h' h
      have hfn : f ∉ cosets P bs := fun h => hf fun _ => h
      obtain ⟨n1, n2⟩ := coset_new hP (O3.inv_ck (hG.ck f hfG)) hfn
      have hP1 : 0 < P.length := List.length_pos_of_mem hP.one
      have hlen : (cosets P (bs ++ [f])).length = (cosets P bs).length + P.length := by rw [cosets_snoc, List.length_append, List.length_map]
      have hn' : (cosets P (bs ++ [f])).Nodup := by
        rw [cosets_snoc]
        exact List.nodup_append.2 ⟨hn, n2, fun a ha b hb e => n1 b hb (e ▸ ha)⟩
      have hb' : ∀ b ∈ bs ++ [f], b ∈ G := fun b hb' => by
        rcases List.mem_append.1 hb' with h | h
        · exact hb b h
        · rw [List.mem_singleton.1 h]; exact hfG
      have hlt : (cosets P bs).length < G.length := by
        have := nodup_sub (l := f :: cosets P bs) (m := G) (List.nodup_cons.2 ⟨hfn, hn⟩) fun x hx => by
          rcases List.mem_cons.1 hx with rfl | hx
          · exact hfG
          · exact hsub x hx
        simp only [List.length_cons] at this; omega
      match k, hk with
      | 0, hk => omega
      | k + 1, hk => exact grp_cosets hP hG hs k (bs ++ [f]) hb' hn' (by omega)
/-- A group within a group divides it. -/
theorem grp_divides {P G : List O3} (hP : Grp P) (hG : Grp G) (hs : ∀ x ∈ P, x ∈ G) : G.length % P.length = 0 := by
  obtain ⟨n, e⟩ := grp_cosets hP hG hs G.length [] (by simp) (by simp [cosets]) (by omega)
  rw [e, Nat.mul_mod_left]

/-! Groups that are broken -/
/-- Without one of its maps a group of more than two is none. -/
theorem less_none {G L : List O3} (hG : Grp G) (h2 : 2 < G.length) (hl : L.length + 1 = G.length) (hs : ∀ x ∈ L, x ∈ G) : ¬ Grp L := fun h => by
  have := grp_divides h hG hs
  rw [← hl] at this
  have h3 : 1 % L.length = 0 := by rwa [Nat.add_mod_left] at this
  rw [Nat.mod_eq_of_lt (by omega)] at h3
  omega
theorem chk_less {G L : List O3} (hG : Grp G) (h2 : 2 < G.length) (hg : G.length ≤ 192) (hl : L.length + 1 = G.length) (hs : ∀ x ∈ L, x ∈ G) : chkI L = 5 := by
  rcases chk_five (X := L) (by omega) (fun o ho => hG.ck o (hs o ho)) with h | h
  · exact absurd (chk_grp h).2.1 (less_none hG h2 hl hs)
  · exact h
/-- Out of order, or with a map twice, a list is no group in order. -/
theorem chk_unsorted {X : List O3} (hl : X.length ≤ 192) (hck : ∀ o ∈ X, o.ck = 0) (h : ¬ StrictO X) : chkI X = 5 := by
  rcases chk_five hl hck with e | e
  · exact absurd (chk_grp e).1 h
  · exact e
end Go.Proofs.Ytmpkkmhielkggaa


namespace Go.Proofs.Ytmpkkmhielkggaa.Vx
open Go
/-- The cells of a list's maps. -/
def mtRow (l : List M3) : Nat → List Value := fun i => ((l[i]?).getD M3.zero).cells
def decM (l : List Value) : M3 := match matCells l with
  | some o => o
  | none => M3.zero
def isM (l : List Value) : Bool := match matCells l with
  | some _ => true
  | none => false
def okMts (n : Nat) (row : Nat → List Value) : Bool := (List.range n).all fun i => isM (row i)
def mtsOf (n : Nat) (row : Nat → List Value) : List M3 := (List.range n).map fun i => decM (row i)
theorem matCells_cells (o : M3) : matCells o.cells = some o := rfl
theorem isM_cells (o : M3) : isM o.cells = true := rfl
theorem decM_cells (o : M3) : decM o.cells = o := rfl
theorem okMts_mtRow (xs : List M3) (n : Nat) : okMts n (mtRow xs) = true := List.all_eq_true.2 fun _ _ => isM_cells _
theorem mtsOf_mtRow (xs : List M3) : mtsOf xs.length (mtRow xs) = xs := by
  apply List.ext_getElem?
  intro i
  unfold mtsOf mtRow
  rw [List.getElem?_map]
  by_cases hi : i < xs.length
  · rw [List.getElem?_range hi, List.getElem?_eq_getElem hi]
    simp [decM_cells, List.getElem?_eq_getElem hi]
  · rw [List.getElem?_eq_none (by simp; omega), List.getElem?_eq_none (by omega)]; rfl
theorem mtsOf_length (n : Nat) (row : Nat → List Value) : (mtsOf n row).length = n := by simp [mtsOf]
theorem mts_like {n : Nat} {row : Nat → List Value} (h : okMts n row = true) : rowsLike n row (mtRow (mtsOf n row)) := by
  intro i hi
  have := List.all_eq_true.1 h i (List.mem_range.2 hi)
  unfold isM at this
  split at this
  · rename_i o ho
    unfold mtRow mtsOf
    rw [List.getElem?_map, List.getElem?_range hi]
    simp only [Option.map_some, Option.getD_some, decM, ho]
    exact matCells_spec ho
  · cases this
theorem like_mts {own : Bool} {n : Nat} {row : Nat → List Value} (h : okMts n row = true) : Like (.rows own true 9 n row) (.rows own true 9 (mtsOf n row).length (mtRow (mtsOf n row))) := by
  rw [mtsOf_length]; exact .rows (mts_like h)
/-- One map behind others. -/
theorem catR_mts (xs : List M3) (o : M3) (i : Nat) (hi : i < xs.length + 1) : catR xs.length (mtRow xs) (chop 9 0 o.cells) i = mtRow (xs ++ [o]) i := by
  unfold catR mtRow
  by_cases h : i < xs.length
  · rw [show Nat.blt i xs.length = true by simpa [Nat.blt_eq] using h, List.getElem?_append_left h]
  · have : i = xs.length := by omega
    subst this
    rw [blt_ff (Nat.lt_irrefl _)]
    simp only [Nat.sub_self]
    rw [List.getElem?_append_right (Nat.le_refl _)]
    simp only [Nat.sub_self, List.getElem?_cons_zero, Option.getD_some]
    rfl
theorem like_ngmts {pl : Bool} {n : Nat} {xs : List M3} (hx : xs.length = n) (o : M3) : Like (.grow pl 9 (n + 1) (catR n (mtRow xs) (chop 9 0 o.cells))) (.grow pl 9 (n + 1) (mtRow (xs ++ [o]))) := by
  subst hx
  exact .grow fun i hi => catR_mts xs o i hi
theorem like_nrmts {own pl : Bool} {n : Nat} {xs : List M3} (hx : xs.length = n) (o : M3) : Like (.rows own pl 9 (n + 1) (catR n (mtRow xs) (chop 9 0 o.cells))) (.rows own pl 9 (n + 1) (mtRow (xs ++ [o]))) := by
  subst hx
  exact .rows fun i hi => catR_mts xs o i hi
theorem like_chopmts {own pl : Bool} (o : M3) : Like (.rows own pl 9 1 (chop 9 0 o.cells)) (.rows own pl 9 1 (mtRow [o])) := .rows fun i hi => by
  have : i = 0 := by omega
  subst this
  rfl
theorem like_onemts {own pl : Bool} (xs : List M3) (o : M3) : Like (.rows own pl 9 (xs.length + 1) (catR xs.length (mtRow xs) (chop 9 0 o.cells))) (.rows own pl 9 (xs ++ [o]).length (mtRow (xs ++ [o]))) := by
  rw [List.length_append]
  exact .rows fun i hi => catR_mts xs o i hi

theorem like_onegmts {pl : Bool} (xs : List M3) (o : M3) : Like (.grow pl 9 (xs.length + 1) (catR xs.length (mtRow xs) (chop 9 0 o.cells))) (.grow pl 9 (xs ++ [o]).length (mtRow (xs ++ [o]))) := by
  rw [List.length_append]
  exact .grow fun i hi => catR_mts xs o i hi

theorem mtsOf_row {xs : List M3} {n : Nat} (h : xs.length = n) : mtsOf n (mtRow xs) = xs := by subst h; exact mtsOf_mtRow xs
/-- The cells of a list's maps. -/
def vcRow (l : List V3) : Nat → List Value := fun i => ((l[i]?).getD V3.zero).cells
def decV (l : List Value) : V3 := match vecCells l with
  | some o => o
  | none => V3.zero
def isV (l : List Value) : Bool := match vecCells l with
  | some _ => true
  | none => false
def okVcs (n : Nat) (row : Nat → List Value) : Bool := (List.range n).all fun i => isV (row i)
def vcsOf (n : Nat) (row : Nat → List Value) : List V3 := (List.range n).map fun i => decV (row i)
theorem vecCells_cells (o : V3) : vecCells o.cells = some o := rfl
theorem isV_cells (o : V3) : isV o.cells = true := rfl
theorem decV_cells (o : V3) : decV o.cells = o := rfl
theorem okVcs_vcRow (xs : List V3) (n : Nat) : okVcs n (vcRow xs) = true := List.all_eq_true.2 fun _ _ => isV_cells _
theorem vcsOf_vcRow (xs : List V3) : vcsOf xs.length (vcRow xs) = xs := by
  apply List.ext_getElem?
  intro i
  unfold vcsOf vcRow
  rw [List.getElem?_map]
  by_cases hi : i < xs.length
  · rw [List.getElem?_range hi, List.getElem?_eq_getElem hi]
    simp [decV_cells, List.getElem?_eq_getElem hi]
  · rw [List.getElem?_eq_none (by simp; omega), List.getElem?_eq_none (by omega)]; rfl
theorem vcsOf_length (n : Nat) (row : Nat → List Value) : (vcsOf n row).length = n := by simp [vcsOf]
theorem vcs_like {n : Nat} {row : Nat → List Value} (h : okVcs n row = true) : rowsLike n row (vcRow (vcsOf n row)) := by
  intro i hi
  have := List.all_eq_true.1 h i (List.mem_range.2 hi)
  unfold isV at this
  split at this
  · rename_i o ho
    unfold vcRow vcsOf
    rw [List.getElem?_map, List.getElem?_range hi]
    simp only [Option.map_some, Option.getD_some, decV, ho]
    exact vecCells_spec ho
  · cases this
theorem like_vcs {own : Bool} {n : Nat} {row : Nat → List Value} (h : okVcs n row = true) : Like (.rows own true 3 n row) (.rows own true 3 (vcsOf n row).length (vcRow (vcsOf n row))) := by
  rw [vcsOf_length]; exact .rows (vcs_like h)
/-- One map behind others. -/
theorem catR_vcs (xs : List V3) (o : V3) (i : Nat) (hi : i < xs.length + 1) : catR xs.length (vcRow xs) (chop 3 0 o.cells) i = vcRow (xs ++ [o]) i := by
  unfold catR vcRow
  by_cases h : i < xs.length
  · rw [show Nat.blt i xs.length = true by simpa [Nat.blt_eq] using h, List.getElem?_append_left h]
  · have : i = xs.length := by omega
    subst this
    rw [blt_ff (Nat.lt_irrefl _)]
    simp only [Nat.sub_self]
    rw [List.getElem?_append_right (Nat.le_refl _)]
    simp only [Nat.sub_self, List.getElem?_cons_zero, Option.getD_some]
    rfl
theorem like_ngvcs {pl : Bool} {n : Nat} {xs : List V3} (hx : xs.length = n) (o : V3) : Like (.grow pl 3 (n + 1) (catR n (vcRow xs) (chop 3 0 o.cells))) (.grow pl 3 (n + 1) (vcRow (xs ++ [o]))) := by
  subst hx
  exact .grow fun i hi => catR_vcs xs o i hi
theorem like_nrvcs {own pl : Bool} {n : Nat} {xs : List V3} (hx : xs.length = n) (o : V3) : Like (.rows own pl 3 (n + 1) (catR n (vcRow xs) (chop 3 0 o.cells))) (.rows own pl 3 (n + 1) (vcRow (xs ++ [o]))) := by
  subst hx
  exact .rows fun i hi => catR_vcs xs o i hi
theorem like_chopvcs {own pl : Bool} (o : V3) : Like (.rows own pl 3 1 (chop 3 0 o.cells)) (.rows own pl 3 1 (vcRow [o])) := .rows fun i hi => by
  have : i = 0 := by omega
  subst this
  rfl
theorem like_onevcs {own pl : Bool} (xs : List V3) (o : V3) : Like (.rows own pl 3 (xs.length + 1) (catR xs.length (vcRow xs) (chop 3 0 o.cells))) (.rows own pl 3 (xs ++ [o]).length (vcRow (xs ++ [o]))) := by
  rw [List.length_append]
  exact .rows fun i hi => catR_vcs xs o i hi

theorem like_onegvcs {pl : Bool} (xs : List V3) (o : V3) : Like (.grow pl 3 (xs.length + 1) (catR xs.length (vcRow xs) (chop 3 0 o.cells))) (.grow pl 3 (xs ++ [o]).length (vcRow (xs ++ [o]))) := by
  rw [List.length_append]
  exact .grow fun i hi => catR_vcs xs o i hi

theorem vcsOf_row {xs : List V3} {n : Nat} (h : xs.length = n) : vcsOf n (vcRow xs) = xs := by subst h; exact vcsOf_vcRow xs
end Go.Proofs.Ytmpkkmhielkggaa.Vx


namespace Go.Proofs.Ytmpkkmhielkggaa
open Go Vx
/-- What a loop appends, place by place. -/
def bld {α : Type} (t : Int → Bool) (e : Int → α) : Nat → Int → List α → List α
  | 0, _, ms => ms
  | c + 1, i, ms => match t i with
    | true => bld t e c (i + 1) (ms ++ [e i])
    | false => bld t e c (i + 1) ms
def shOk {α : Type} (sh : Sh) (ms : List α) : Prop := match sh with
  | .b => ms ≠ []
  | _ => ms = []
def shOf1 {α : Type} (ms : List α) : Sh := match ms with
  | [] => .a
  | _ :: _ => .b
theorem shOf1_ok {α : Type} {sh : Sh} {ms : List α} (h : shOk sh ms) : shOf1 ms = sh.next := by
  cases sh with
  | b => cases ms with
    | nil => exact absurd rfl h
    | cons m ms => rfl
  | e => have : ms = [] := h; subst this; rfl
  | a => have : ms = [] := h; subst this; rfl
def nilL {α : Type} : List α → Bool
  | [] => true
  | _ :: _ => false
theorem nilL_t {α : Type} {l : List α} (h : nilL l = true) : shOf1 l = .a := by cases l with
  | nil => rfl
  | cons x l => cases h
theorem nilL_f {α : Type} {l : List α} (h : nilL l = false) : shOf1 l = .b := by cases l with
  | nil => cases h
  | cons x l => rfl
def room9 (k : Nat) : Bool := decide (k * 72 ≤ 2 ^ 47) && decide (k ≤ 2 ^ 62)
def room3 (k : Nat) : Bool := decide (k * 24 ≤ 2 ^ 47) && decide (k ≤ 2 ^ 62)
theorem room9_ok {k : Nat} (h : k ≤ 2000000) : room9 k = true := by unfold room9; simp; omega
theorem room3_ok {k : Nat} (h : k ≤ 2000000) : room3 k = true := by unfold room3; simp; omega
def rotT (xs : List O3) (i : Int) : Bool := match i == 0 with
  | true => true
  | false => !((atO xs i).r.eqB (atO xs (i - 1)).r)
def rotU (xs : List O3) (i : Int) : Bool := match i == 0 with
  | true => true
  | false => !((atO xs (i - 1)).r.eqB (atO xs i).r)

def ceX (P : Program) : Code := (loopsOf P 18 7).headD .skip
theorem ceX_eq : loopsOf Try.prog 18 7 = [ceX Try.prog] := by kernel_rfl
def ceV (sh : Sh) (k : Nat) : Value := match sh with
  | .b => .slice (some ⟨2, 0, some 0⟩) k 3
  | _ => .slice none 0 0
def ceM (sh : Sh) (own : Bool) (n : Nat) (xs : List O3) (k : Nat) (r : Nat → List Value) : Mem := match sh with
  | .e => [.rows own true 12 n (opRow xs), .cells true 0 O3.one.cells]
  | .a => [.rows own true 12 n (opRow xs), .cells true 0 O3.one.cells, .no]
  | .b => [.rows own true 12 n (opRow xs), .cells true 0 O3.one.cells, .rows true true 3 k r]
def ceH (sh : Sh) (own : Bool) (n : Nat) (xs : List O3) (k : Nat) (r : Nat → List Value) (i : Int) : St := stOf 33 [(2, .slice none 0 0), (3, vI 0), (5, .pointer (some ⟨1, 0, none⟩)), (6, ceV sh k), (15, .slice (some ⟨0, 0, some 0⟩) n 12), (16, vI n), (17, vI i)] (ceM sh own n xs k r)
def ceE (sh : Sh) (own : Bool) (n : Nat) (xs : List O3) (k : Nat) (r : Nat → List Value) : St := stOf 33 [(2, .slice none 0 0), (3, vI 0), (6, ceV sh k)] (ceM sh own n xs k r)
theorem ceRe (own : Bool) (n : Nat) (xs : List O3) (k : Nat) (ms : List V3) (i : Int) : roundR ((Cdk Try.prog).into 18 1) 40 (ceX Try.prog) [2, 3, 5, 6, 15, 16, 17] [2, 3, 6] [.fix 0, .fix 1, .slot 6] [.fix 0, .fix 1, .slot 6] (ceH .e own n xs k (vcRow ms) i) =
    (match decide (i < (n : Int)) with
    | true => match boundsI i n with
      | true => match (atO xs i).r.eqB M3.one with
        | true => some (.normal, ceH .b own n xs 1 (chop 3 0 ((atO xs i).t).cells) (W (i + 1)))
        | false => some (.normal, ceH .a own n xs k (vcRow ms) (W (i + 1)))
      | false => none
    | false => some (.exit 0, ceE .a own n xs k (vcRow ms))) := by kernel_rfl
theorem ceRa (own : Bool) (n : Nat) (xs : List O3) (k : Nat) (ms : List V3) (i : Int) : roundR ((Cdk Try.prog).into 18 1) 40 (ceX Try.prog) [2, 3, 5, 6, 15, 16, 17] [2, 3, 6] [.fix 0, .fix 1, .slot 6] [.fix 0, .fix 1, .slot 6] (ceH .a own n xs k (vcRow ms) i) =
    (match decide (i < (n : Int)) with
    | true => match boundsI i n with
      | true => match (atO xs i).r.eqB M3.one with
        | true => some (.normal, ceH .b own n xs 1 (chop 3 0 ((atO xs i).t).cells) (W (i + 1)))
        | false => some (.normal, ceH .a own n xs k (vcRow ms) (W (i + 1)))
      | false => none
    | false => some (.exit 0, ceE .a own n xs k (vcRow ms))) := by kernel_rfl
theorem ceRb (own : Bool) (n : Nat) (xs : List O3) (k : Nat) (ms : List V3) (i : Int) : roundR ((Cdk Try.prog).into 18 1) 40 (ceX Try.prog) [2, 3, 5, 6, 15, 16, 17] [2, 3, 6] [.fix 0, .fix 1, .slot 6] [.fix 0, .fix 1, .slot 6] (ceH .b own n xs k (vcRow ms) i) =
    (match decide (i < (n : Int)) with
    | true => match boundsI i n with
      | true => match (atO xs i).r.eqB M3.one with
        | true => gd (Nat.beq k k && room3 (k + 1)) (some (.normal, ceH .b own n xs (k + 1) (catR k (vcRow ms) (chop 3 0 ((atO xs i).t).cells)) (W (i + 1))))
        | false => some (.normal, ceH .b own n xs k (vcRow ms) (W (i + 1)))
      | false => none
    | false => some (.exit 0, ceE .b own n xs k (vcRow ms))) := by kernel_rfl
structure ceG where
  (sh : Sh) (own : Bool) (n : Nat) (xs : List O3) (k : Nat) (ms : List V3) (i : Int)
def ceHg (g : ceG) : St := ceH g.sh g.own g.n g.xs g.k (vcRow g.ms) g.i
def ceI (g : ceG) : Prop := g.xs.length = g.n ∧ g.n ≤ 1000 ∧ g.ms.length = g.k ∧ (g.k : Int) ≤ g.i ∧ 0 ≤ g.i ∧ g.i ≤ (g.n : Int) ∧ shOk g.sh g.ms
def ceQ (g : ceG) : List V3 := bld (fun i => (atO g.xs i).r.eqB M3.one) (fun i => (atO g.xs i).t) (g.n - g.i).toNat g.i g.ms
def ceO (g : ceG) : Exit × St := (.exit 0, ceE (shOf1 (ceQ g)) g.own g.n g.xs (ceQ g).length (vcRow (ceQ g)))
theorem ceL (g : ceG) (hg : ceI g) : LoopSem Try.prog 1 (ceX Try.prog) (ceHg g) (ceO g).1 (ceO g).2 := by
  refine loop_rule2 (C := Cdk Try.prog) okdk (f := 18) (B := 1) (loopsOf_in (k := 7) ceX_eq) 40 [2, 3, 5, 6, 15, 16, 17] [2, 3, 6] [.fix 0, .fix 1, .slot 6] [.fix 0, .fix 1, .slot 6] ceHg (fun g => (g.n - g.i).toNat) ceI ceO ?_ g hg
  clear hg g
  rintro ⟨sh, own, n, xs, k, ms, i⟩ hg
  unfold ceI at hg
  simp only at hg
  obtain ⟨h1, h2, h3, h4, h5, h6, h7⟩ := hg
  by_cases hi : i < (n : Int)
  · have hd : decide (i < (n : Int)) = true := by simpa using hi
    have hb : boundsI i n = true := by simp [boundsI, h5, hi]
    have hw : W (i + 1) = i + 1 := W_in (by omega)
    have hs : ((n : Int) - i).toNat = ((n : Int) - (i + 1)).toNat + 1 := by omega
    have hq : ceQ ⟨sh, own, n, xs, k, ms, i⟩ = bld (fun i => (atO xs i).r.eqB M3.one) (fun i => (atO xs i).t) (((n : Int) - (i + 1)).toNat + 1) i ms := by unfold ceQ; simp only [hs]
    have hrm : (Nat.beq k k && room3 (k + 1)) = true := by rw [Nat.beq_refl, room3_ok (by omega)]; rfl
    left
    cases ht : ((atO xs i).r.eqB M3.one) with
    | true =>
      refine ⟨⟨.b, own, n, xs, k + 1, ms ++ [(atO xs i).t], i + 1⟩, ceH .b own n xs (match sh with
        | .b => k + 1
        | _ => 1) (match sh with
        | .b => catR k (vcRow ms) (chop 3 0 ((atO xs i).t).cells)
        | _ => chop 3 0 ((atO xs i).t).cells) (i + 1), ?_, ?_, ?_, by simp only; omega, ?_⟩
      · unfold ceHg; cases sh <;> simp only [ceRe, ceRa, ceRb, hd, hb, hw, ht, hrm, gd_true]
      · cases sh with
        | e => have : ms = [] := h7; subst this; have : k = 0 := h3.symm; subst this; exact ⟨rfl, .refl _, .refl _, like_chopvcs _, trivial⟩
        | a => have : ms = [] := h7; subst this; have : k = 0 := h3.symm; subst this; exact ⟨rfl, .refl _, .refl _, like_chopvcs _, trivial⟩
        | b => exact ⟨rfl, .refl _, .refl _, like_nrvcs h3 _, trivial⟩
      · unfold ceI
        simp only
        exact ⟨h1, h2, by simp [h3], by omega, by omega, by omega, by simp [shOk]⟩
      · unfold ceO
        rw [hq]
        simp only [bld, ht, ceQ]
    | false =>
      refine ⟨⟨sh.next, own, n, xs, k, ms, i + 1⟩, ceH sh.next own n xs k (vcRow ms) (i + 1), ?_, StLike.refl _, ?_, by simp only; omega, ?_⟩
      · unfold ceHg; cases sh <;> simp only [ceRe, ceRa, ceRb, hd, hb, hw, ht, Sh.next]
      · unfold ceI
        simp only
        exact ⟨h1, h2, h3, by omega, by omega, by omega, by cases sh <;> exact h7⟩
      · unfold ceO
        rw [hq]
        simp only [bld, ht, ceQ]
  · have hd : decide (i < (n : Int)) = false := by simpa using hi
    right
    have hq : ceQ ⟨sh, own, n, xs, k, ms, i⟩ = ms := by
      unfold ceQ
      rw [show ((n : Int) - i).toNat = 0 by omega]
      rfl
    refine ⟨ceE sh.next own n xs k (vcRow ms), ?_, ?_, by unfold ceO; simp⟩
    · unfold ceO ceHg
      cases sh with
      | e => simp only [ceRe, hd, Sh.next]
      | a => simp only [ceRa, hd, Sh.next]
      | b => simp only [ceRb, hd, Sh.next]
    · unfold ceO
      rw [hq]
      simp only [h3, shOf1_ok h7]
      exact StLike.refl _
def ceD : Mem → Option (Bool × Nat × (Nat → List Value) × List Value)
  | [.rows own true 12 n2 row, .cells true 0 co] => some (own, n2, row, co)
  | _ => none
theorem ceD_spec {m : Mem} {own : Bool} {n2 : Nat} {row : Nat → List Value} {co : List Value} (h : ceD m = some (own, n2, row, co)) : m = [.rows own true 12 n2 row, .cells true 0 co] := by
  unfold ceD at h
  split at h
  · simp only [Option.some.injEq, Prod.mk.injEq] at h
    obtain ⟨rfl, rfl, rfl, rfl⟩ := h
    rfl
  · cases h
def ceS (st : St) : Option (Ans (Exit × St)) :=
  match Nat.beq st.tmps.length 33, tAt st 2, tAt st 3, tAt st 5, tAt st 6, tAt st 15, tAt st 16, tAt st 17, ceD (thaw (killV st.mem)) with
  | true, some (.slice none 0 0), some (.int .i64 0), some (.pointer (some ⟨1, 0, none⟩)), some (.slice none 0 0), some (.slice (some ⟨0, 0, some 0⟩) n 12), some (.int .i64 ln), some (.int .i64 i), some (own, n2, row, co) => some (.br (Nat.beq n n2 && (okOps n row && (decide (ln = (n : Int)) && (decide (0 = i) && (decide (n ≤ 1000) && (isO co && ((decO co).eqB O3.one))))))) (.br (nilL (bld (fun i => (atO (opsOf n row) i).r.eqB M3.one) (fun i => (atO (opsOf n row) i).t) n 0 [])) (.out (.exit 0, ceE .a own n (opsOf n row) (bld (fun i => (atO (opsOf n row) i).r.eqB M3.one) (fun i => (atO (opsOf n row) i).t) n 0 []).length (vcRow (bld (fun i => (atO (opsOf n row) i).r.eqB M3.one) (fun i => (atO (opsOf n row) i).t) n 0 [])))) (.out (.exit 0, ceE .b own n (opsOf n row) (bld (fun i => (atO (opsOf n row) i).r.eqB M3.one) (fun i => (atO (opsOf n row) i).t) n 0 []).length (vcRow (bld (fun i => (atO (opsOf n row) i).r.eqB M3.one) (fun i => (atO (opsOf n row) i).t) n 0 []))))) .fail)
  | _, _, _, _, _, _, _, _, _ => none
theorem ceK {st : St} {ans : Ans (Exit × St)} {e_ : Exit} {s_ : St} (h : ceS st = some ans) (hr : ans.res = some (e_, s_)) : LoopSem Try.prog 1 (ceX Try.prog) st e_ s_ := by
  unfold ceS at h
  split at h
  rotate_left
  · cases h
  rename_i n ln i own n2 row co hb hs2 hs3 hs5 hs6 hs15 hs16 hs17 hD
  simp only [Option.some.injEq] at h
  subst h
  rcases Ans.br_some hr with ⟨hc, hr1⟩ | ⟨_, hr1⟩
  rotate_left
  · simp [Ans.res] at hr1
  clear hr
  simp only [Bool.and_eq_true, decide_eq_true_eq] at hc
  obtain ⟨c1, c2, c3, c4, c5, d0, d1⟩ := hc
  have c1 := beq_len c1
  subst c1 c3 c4
  have hco : co = O3.one.cells := by rw [isO_spec d0, O3.eqB_iff.1 d1]
  subst hco
  have hmem := ceD_spec hD
  have hI : ceI ⟨.e, own, n, opsOf n row, 0, [], 0⟩ := by
    unfold ceI
    simp only
    exact ⟨opsOf_length n row, c5, rfl, by omega, by omega, by omega, rfl⟩
  have key := ceL _ hI
  have hlike : LikeL (thaw (killV st.mem)) (ceHg ⟨.e, own, n, opsOf n row, 0, [], 0⟩).mem := by
    rw [hmem]
    exact ⟨.rows (ops_like c2), .refl _, trivial⟩
  have key := LoopSem.like (tm := (ceHg ⟨.e, own, n, opsOf n row, 0, [], 0⟩).tmps) (m := thaw (killV st.mem)) key hlike
  have key := LoopSem.fresh key
  have hk : keepL [2, 3, 5, 6, 15, 16, 17] 0 st.tmps = (ceHg ⟨.e, own, n, opsOf n row, 0, [], 0⟩).tmps := by
    have := keep_eq [(2, .slice none 0 0), (3, vI 0), (5, .pointer (some ⟨1, 0, none⟩)), (6, .slice none 0 0), (15, .slice (some ⟨0, 0, some 0⟩) n 12), (16, vI n), (17, vI 0)] st.tmps 0 (by
      intro x hx _
      simp only [List.mem_cons, List.not_mem_nil, or_false] at hx
      rcases hx with rfl | rfl | rfl | rfl | rfl | rfl | rfl
      · exact hs2
      · exact hs3
      · exact hs5
      · exact hs6
      · exact hs15
      · exact hs16
      · exact hs17)
    rw [show (keepL [2, 3, 5, 6, 15, 16, 17] 0 st.tmps) = _ from this, beq_len hb]
    rfl
  rw [← hk] at key
  have key : LoopSem Try.prog 1 (ceX Try.prog) st _ _ := LoopSem.clean (mask := [2, 3, 5, 6, 15, 16, 17]) key
  unfold ceO ceQ at key
  simp only [show ((n : Int) - 0).toNat = n by omega] at key
  rcases Ans.br_some hr1 with ⟨hq, hr2⟩ | ⟨hq, hr2⟩
  · rw [nilL_t hq] at key
    simp only [Ans.res, Option.some.injEq, Prod.mk.injEq] at hr2
    obtain ⟨rfl, rfl⟩ := hr2
    exact key
  · rw [nilL_f hq] at key
    simp only [Ans.res, Option.some.injEq, Prod.mk.injEq] at hr2
    obtain ⟨rfl, rfl⟩ := hr2
    exact key
end Go.Proofs.Ytmpkkmhielkggaa


namespace Go.Proofs.Ytmpkkmhielkggaa
open Go Vx

def raX (P : Program) : Code := (loopsOf P 17 6).headD .skip
theorem raX_eq : loopsOf Try.prog 17 6 = [raX Try.prog] := by kernel_rfl
def raV (sh : Sh) (k : Nat) : Value := match sh with
  | .b => .slice (some ⟨1, 0, some 0⟩) k 9
  | _ => .slice none 0 0
def raM (sh : Sh) (own : Bool) (n : Nat) (xs : List O3) (k : Nat) (r : Nat → List Value) : Mem := match sh with
  | .e => [.rows own true 12 n (opRow xs)]
  | .a => [.rows own true 12 n (opRow xs), .no]
  | .b => [.rows own true 12 n (opRow xs), .rows true true 9 k r]
def raH (sh : Sh) (own : Bool) (n : Nat) (xs : List O3) (k : Nat) (r : Nat → List Value) (i : Int) : St := stOf 40 [(0, .slice (some ⟨0, 0, some 0⟩) n 12), (2, .slice none 0 0), (3, vI 0), (5, raV sh k), (13, .slice (some ⟨0, 0, some 0⟩) n 12), (14, vI n), (15, vI i)] (raM sh own n xs k r)
def raE (sh : Sh) (own : Bool) (n : Nat) (xs : List O3) (k : Nat) (r : Nat → List Value) : St := stOf 40 [(2, .slice none 0 0), (3, vI 0), (5, raV sh k)] (raM sh own n xs k r)
theorem raRe (own : Bool) (n : Nat) (xs : List O3) (k : Nat) (ms : List M3) (i : Int) : roundR ((Cdk Try.prog).into 17 1) 40 (raX Try.prog) [0, 2, 3, 5, 13, 14, 15] [2, 3, 5] [.fix 0, .slot 5] [.fix 0, .slot 5] (raH .e own n xs k (mtRow ms) i) =
    (match decide (i < (n : Int)) with
    | true => match boundsI i n with
      | true => match (i == 0) with
        | true => some (.normal, raH .b own n xs 1 (chop 9 0 ((atO xs i).r).cells) (W (i + 1)))
        | false => match boundsI (W (i - 1)) n with
          | true => match !((atO xs i).r.eqB (atO xs (W (i - 1))).r) with
            | true => some (.normal, raH .b own n xs 1 (chop 9 0 ((atO xs i).r).cells) (W (i + 1)))
            | false => some (.normal, raH .a own n xs k (mtRow ms) (W (i + 1)))
          | false => none
      | false => none
    | false => some (.exit 0, raE .a own n xs k (mtRow ms))) := by kernel_rfl
theorem raRa (own : Bool) (n : Nat) (xs : List O3) (k : Nat) (ms : List M3) (i : Int) : roundR ((Cdk Try.prog).into 17 1) 40 (raX Try.prog) [0, 2, 3, 5, 13, 14, 15] [2, 3, 5] [.fix 0, .slot 5] [.fix 0, .slot 5] (raH .a own n xs k (mtRow ms) i) =
    (match decide (i < (n : Int)) with
    | true => match boundsI i n with
      | true => match (i == 0) with
        | true => some (.normal, raH .b own n xs 1 (chop 9 0 ((atO xs i).r).cells) (W (i + 1)))
        | false => match boundsI (W (i - 1)) n with
          | true => match !((atO xs i).r.eqB (atO xs (W (i - 1))).r) with
            | true => some (.normal, raH .b own n xs 1 (chop 9 0 ((atO xs i).r).cells) (W (i + 1)))
            | false => some (.normal, raH .a own n xs k (mtRow ms) (W (i + 1)))
          | false => none
      | false => none
    | false => some (.exit 0, raE .a own n xs k (mtRow ms))) := by kernel_rfl
theorem raRb (own : Bool) (n : Nat) (xs : List O3) (k : Nat) (ms : List M3) (i : Int) : roundR ((Cdk Try.prog).into 17 1) 40 (raX Try.prog) [0, 2, 3, 5, 13, 14, 15] [2, 3, 5] [.fix 0, .slot 5] [.fix 0, .slot 5] (raH .b own n xs k (mtRow ms) i) =
    (match decide (i < (n : Int)) with
    | true => match boundsI i n with
      | true => match (i == 0) with
        | true => gd (Nat.beq k k && room9 (k + 1)) (some (.normal, raH .b own n xs (k + 1) (catR k (mtRow ms) (chop 9 0 ((atO xs i).r).cells)) (W (i + 1))))
        | false => match boundsI (W (i - 1)) n with
          | true => match !((atO xs i).r.eqB (atO xs (W (i - 1))).r) with
            | true => gd (Nat.beq k k && room9 (k + 1)) (some (.normal, raH .b own n xs (k + 1) (catR k (mtRow ms) (chop 9 0 ((atO xs i).r).cells)) (W (i + 1))))
            | false => some (.normal, raH .b own n xs k (mtRow ms) (W (i + 1)))
          | false => none
      | false => none
    | false => some (.exit 0, raE .b own n xs k (mtRow ms))) := by kernel_rfl
structure raG where
  (sh : Sh) (own : Bool) (n : Nat) (xs : List O3) (k : Nat) (ms : List M3) (i : Int)
def raHg (g : raG) : St := raH g.sh g.own g.n g.xs g.k (mtRow g.ms) g.i
def raI (g : raG) : Prop := g.xs.length = g.n ∧ g.n ≤ 1000 ∧ g.ms.length = g.k ∧ (g.k : Int) ≤ g.i ∧ 0 ≤ g.i ∧ g.i ≤ (g.n : Int) ∧ shOk g.sh g.ms
def raQ (g : raG) : List M3 := bld (fun i => rotT g.xs i) (fun i => (atO g.xs i).r) (g.n - g.i).toNat g.i g.ms
def raO (g : raG) : Exit × St := (.exit 0, raE (shOf1 (raQ g)) g.own g.n g.xs (raQ g).length (mtRow (raQ g)))
theorem raL (g : raG) (hg : raI g) : LoopSem Try.prog 1 (raX Try.prog) (raHg g) (raO g).1 (raO g).2 := by
  refine loop_rule2 (C := Cdk Try.prog) okdk (f := 17) (B := 1) (loopsOf_in (k := 6) raX_eq) 40 [0, 2, 3, 5, 13, 14, 15] [2, 3, 5] [.fix 0, .slot 5] [.fix 0, .slot 5] raHg (fun g => (g.n - g.i).toNat) raI raO ?_ g hg
  clear hg g
  rintro ⟨sh, own, n, xs, k, ms, i⟩ hg
  unfold raI at hg
  simp only at hg
  obtain ⟨h1, h2, h3, h4, h5, h6, h7⟩ := hg
  by_cases hi : i < (n : Int)
  · have hd : decide (i < (n : Int)) = true := by simpa using hi
    have hb : boundsI i n = true := by simp [boundsI, h5, hi]
    have hw : W (i + 1) = i + 1 := W_in (by omega)
    have hs : ((n : Int) - i).toNat = ((n : Int) - (i + 1)).toNat + 1 := by omega
    have hq : raQ ⟨sh, own, n, xs, k, ms, i⟩ = bld (fun i => rotT xs i) (fun i => (atO xs i).r) (((n : Int) - (i + 1)).toNat + 1) i ms := by unfold raQ; simp only [hs]
    have hrm : (Nat.beq k k && room9 (k + 1)) = true := by rw [Nat.beq_refl, room9_ok (by omega)]; rfl
    left
    cases ht : (rotT xs i) with
    | true =>
      refine ⟨⟨.b, own, n, xs, k + 1, ms ++ [(atO xs i).r], i + 1⟩, raH .b own n xs (match sh with
        | .b => k + 1
        | _ => 1) (match sh with
        | .b => catR k (mtRow ms) (chop 9 0 ((atO xs i).r).cells)
        | _ => chop 9 0 ((atO xs i).r).cells) (i + 1), ?_, ?_, ?_, by simp only; omega, ?_⟩
      · by_cases h0 : i = 0
        · subst h0
          unfold raHg
          cases sh <;> simp only [raRe, raRa, raRb, hd, hb, hw, beq_self_eq_true, hrm, gd_true]
        · have e0 : (i == 0) = false := by simpa using h0
          have hw1 : W (i - 1) = i - 1 := W_in (by omega)
          have hb1 : boundsI (i - 1) n = true := by simp [boundsI]; omega
          have ht' := ht
          unfold rotT at ht'
          rw [e0] at ht'
          simp only at ht'
          unfold raHg
          cases sh <;> simp only [raRe, raRa, raRb, hd, hb, hw, e0, hw1, hb1, ht', hrm, gd_true]
      · cases sh with
        | e => have : ms = [] := h7; subst this; have : k = 0 := h3.symm; subst this; exact ⟨rfl, .refl _, like_chopmts _, trivial⟩
        | a => have : ms = [] := h7; subst this; have : k = 0 := h3.symm; subst this; exact ⟨rfl, .refl _, like_chopmts _, trivial⟩
        | b => exact ⟨rfl, .refl _, like_nrmts h3 _, trivial⟩
      · unfold raI
        simp only
        exact ⟨h1, h2, by simp [h3], by omega, by omega, by omega, by simp [shOk]⟩
      · unfold raO
        rw [hq]
        simp only [bld, ht, raQ]
    | false =>
      refine ⟨⟨sh.next, own, n, xs, k, ms, i + 1⟩, raH sh.next own n xs k (mtRow ms) (i + 1), ?_, StLike.refl _, ?_, by simp only; omega, ?_⟩
      · by_cases h0 : i = 0
        · subst h0
          simp [rotT] at ht
        · have e0 : (i == 0) = false := by simpa using h0
          have hw1 : W (i - 1) = i - 1 := W_in (by omega)
          have hb1 : boundsI (i - 1) n = true := by simp [boundsI]; omega
          have ht' := ht
          unfold rotT at ht'
          rw [e0] at ht'
          simp only at ht'
          unfold raHg
          cases sh <;> simp only [raRe, raRa, raRb, hd, hb, hw, e0, hw1, hb1, ht', Sh.next]
      · unfold raI
        simp only
        exact ⟨h1, h2, h3, by omega, by omega, by omega, by cases sh <;> exact h7⟩
      · unfold raO
        rw [hq]
        simp only [bld, ht, raQ]
  · have hd : decide (i < (n : Int)) = false := by simpa using hi
    right
    have hq : raQ ⟨sh, own, n, xs, k, ms, i⟩ = ms := by
      unfold raQ
      rw [show ((n : Int) - i).toNat = 0 by omega]
      rfl
    refine ⟨raE sh.next own n xs k (mtRow ms), ?_, ?_, by unfold raO; simp⟩
    · unfold raO raHg
      cases sh with
      | e => simp only [raRe, hd, Sh.next]
      | a => simp only [raRa, hd, Sh.next]
      | b => simp only [raRb, hd, Sh.next]
    · unfold raO
      rw [hq]
      simp only [h3, shOf1_ok h7]
      exact StLike.refl _
def raD : Mem → Option (Bool × Nat × (Nat → List Value))
  | [.rows own true 12 n2 row] => some (own, n2, row)
  | _ => none
theorem raD_spec {m : Mem} {own : Bool} {n2 : Nat} {row : Nat → List Value} (h : raD m = some (own, n2, row)) : m = [.rows own true 12 n2 row] := by
  unfold raD at h
  split at h
  · simp only [Option.some.injEq, Prod.mk.injEq] at h
    obtain ⟨rfl, rfl, rfl⟩ := h
    rfl
  · cases h
def raS (st : St) : Option (Ans (Exit × St)) :=
  match Nat.beq st.tmps.length 40, tAt st 0, tAt st 2, tAt st 3, tAt st 5, tAt st 13, tAt st 14, tAt st 15, raD (thaw (killV st.mem)) with
  | true, some (.slice (some ⟨0, 0, some 0⟩) n 12), some (.slice none 0 0), some (.int .i64 0), some (.slice none 0 0), some (.slice (some ⟨0, 0, some 0⟩) n3 12), some (.int .i64 ln), some (.int .i64 i), some (own, n2, row) => some (.br (Nat.beq n n2 && (okOps n row && (decide (ln = (n : Int)) && (decide (0 = i) && (decide (n ≤ 1000) && (Nat.beq n n3)))))) (.br (nilL (bld (fun i => rotT (opsOf n row) i) (fun i => (atO (opsOf n row) i).r) n 0 [])) (.out (.exit 0, raE .a own n (opsOf n row) (bld (fun i => rotT (opsOf n row) i) (fun i => (atO (opsOf n row) i).r) n 0 []).length (mtRow (bld (fun i => rotT (opsOf n row) i) (fun i => (atO (opsOf n row) i).r) n 0 [])))) (.out (.exit 0, raE .b own n (opsOf n row) (bld (fun i => rotT (opsOf n row) i) (fun i => (atO (opsOf n row) i).r) n 0 []).length (mtRow (bld (fun i => rotT (opsOf n row) i) (fun i => (atO (opsOf n row) i).r) n 0 []))))) .fail)
  | _, _, _, _, _, _, _, _, _ => none
theorem raK {st : St} {ans : Ans (Exit × St)} {e_ : Exit} {s_ : St} (h : raS st = some ans) (hr : ans.res = some (e_, s_)) : LoopSem Try.prog 1 (raX Try.prog) st e_ s_ := by
  unfold raS at h
  split at h
  rotate_left
  · cases h
  rename_i n n3 ln i own n2 row hb hs0 hs2 hs3 hs5 hs13 hs14 hs15 hD
  simp only [Option.some.injEq] at h
  subst h
  rcases Ans.br_some hr with ⟨hc, hr1⟩ | ⟨_, hr1⟩
  rotate_left
  · simp [Ans.res] at hr1
  clear hr
  simp only [Bool.and_eq_true, decide_eq_true_eq] at hc
  obtain ⟨c1, c2, c3, c4, c5, d0⟩ := hc
  have c1 := beq_len c1
  subst c1 c3 c4
  have d0 := beq_len d0
  subst d0
  have hmem := raD_spec hD
  have hI : raI ⟨.e, own, n, opsOf n row, 0, [], 0⟩ := by
    unfold raI
    simp only
    exact ⟨opsOf_length n row, c5, rfl, by omega, by omega, by omega, rfl⟩
  have key := raL _ hI
  have hlike : LikeL (thaw (killV st.mem)) (raHg ⟨.e, own, n, opsOf n row, 0, [], 0⟩).mem := by
    rw [hmem]
    exact ⟨.rows (ops_like c2), trivial⟩
  have key := LoopSem.like (tm := (raHg ⟨.e, own, n, opsOf n row, 0, [], 0⟩).tmps) (m := thaw (killV st.mem)) key hlike
  have key := LoopSem.fresh key
  have hk : keepL [0, 2, 3, 5, 13, 14, 15] 0 st.tmps = (raHg ⟨.e, own, n, opsOf n row, 0, [], 0⟩).tmps := by
    have := keep_eq [(0, .slice (some ⟨0, 0, some 0⟩) n 12), (2, .slice none 0 0), (3, vI 0), (5, .slice none 0 0), (13, .slice (some ⟨0, 0, some 0⟩) n 12), (14, vI n), (15, vI 0)] st.tmps 0 (by
      intro x hx _
      simp only [List.mem_cons, List.not_mem_nil, or_false] at hx
      rcases hx with rfl | rfl | rfl | rfl | rfl | rfl | rfl
      · exact hs0
      · exact hs2
      · exact hs3
      · exact hs5
      · exact hs13
      · exact hs14
      · exact hs15)
    rw [show (keepL [0, 2, 3, 5, 13, 14, 15] 0 st.tmps) = _ from this, beq_len hb]
    rfl
  rw [← hk] at key
  have key : LoopSem Try.prog 1 (raX Try.prog) st _ _ := LoopSem.clean (mask := [0, 2, 3, 5, 13, 14, 15]) key
  unfold raO raQ at key
  simp only [show ((n : Int) - 0).toNat = n by omega] at key
  rcases Ans.br_some hr1 with ⟨hq, hr2⟩ | ⟨hq, hr2⟩
  · rw [nilL_t hq] at key
    simp only [Ans.res, Option.some.injEq, Prod.mk.injEq] at hr2
    obtain ⟨rfl, rfl⟩ := hr2
    exact key
  · rw [nilL_f hq] at key
    simp only [Ans.res, Option.some.injEq, Prod.mk.injEq] at hr2
    obtain ⟨rfl, rfl⟩ := hr2
    exact key
end Go.Proofs.Ytmpkkmhielkggaa
