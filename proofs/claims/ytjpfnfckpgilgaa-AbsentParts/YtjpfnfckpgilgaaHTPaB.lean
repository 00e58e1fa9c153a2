/-
  facetlaw14.AbsentParts: the proof. Nothing here is trusted.
-/
import Derived.Test.YtjpfnfckpgilgaaHTPaA
namespace Go.Proofs.Ytjpfnfckpgilgaa
open Go Vx Go.RowKit

theorem gen_sub {X P : List O3} (hX : Grp X) (hP : ∀ o ∈ P, o ∈ X) {g : O3} (h : Gen P g) : g ∈ X := by
  induction h with
  | one => exact hX.one
  | step _ hm ih => exact hX.mul _ ih _ (hP _ hm)
theorem cls_sub {X P : List O3} (hX : Grp X) (hl : X.length ≤ 192) (hP : ∀ o ∈ P, o ∈ X) (hn : P.length ≤ 192) : clsOk P = true ∧ ∀ g ∈ clsG P, g ∈ X := by
  have hck : ∀ o ∈ P, o.ck = 0 := fun o ho => hX.ck o (hP o ho)
  have h1 : clsOk P = true := by
    unfold clsOk
    rw [ckMaps_of hn hck]
    rcases clR_spec hck with ⟨r, k1, _⟩ | ⟨_, ⟨g, hg, hk⟩ | ⟨l, k1, k2, k3⟩⟩
    · rw [k1]; rfl
    · have := (O3.ck_zero.1 (hX.ck g (gen_sub hX hP hg))).2.1
      rw [hk] at this; cases this
    · have := nodup_sub k1 fun x hx => gen_sub hX hP (k3 x hx)
      omega
  exact ⟨h1, fun g hg => gen_sub hX hP ((mem_clsG h1 g).1 hg)⟩
theorem atO_mem' {X : List O3} {i : Nat} (hi : i < X.length) : atO X (i : Int) ∈ X := by
  unfold atO
  rw [Int.toNat_natCast, List.getElem?_eq_getElem hi]
  exact List.getElem_mem hi
theorem mem_atO {X : List O3} {o : O3} (h : o ∈ X) : ∃ i, i < X.length ∧ atO X (i : Int) = o := by
  obtain ⟨i, hi, rfl⟩ := List.getElem_of_mem h
  refine ⟨i, hi, ?_⟩
  unfold atO
  rw [Int.toNat_natCast, List.getElem?_eq_getElem hi]
  rfl
theorem isb_iff {X : List O3} {h : V3} (e : acI X h = 0) : isb X h = true ↔ ∃ i, i < X.length ∧ rst X h i = true := by
  unfold isb rsb
  rw [e]
  simp only [bne_self_eq_false]
  cases hf : fst? (rst X h) X.length 0 with
  | some k =>
    have := fst?_some hf
    simp only [true_iff]
    exact ⟨k, by omega, this.2.2.1⟩
  | none =>
    have := fst?_none hf
    simp only [Bool.false_eq_true, false_iff, not_exists]
    intro j ⟨hj, ht⟩
    rw [this j (Nat.zero_le _) (by omega)] at ht
    cases ht
theorem isb_mono {X Q : List O3} {h : V3} (e : acI X h = 0) (hq : chkI Q = 0) (hX : ∀ o ∈ Q, o ∈ X) : acI Q h = 0 ∧ (isb Q h = true → isb X h = true) := by
  have e2 : acI Q h = 0 := leastN_zero.2 ⟨(leastN_zero.1 e).1, hq⟩
  refine ⟨e2, fun hb => ?_⟩
  obtain ⟨i, hi, ht⟩ := (isb_iff e2).1 hb
  obtain ⟨j, hj, hj2⟩ := mem_atO (hX _ (atO_mem' hi))
  refine (isb_iff e).2 ⟨j, hj, ?_⟩
  unfold rst at ht ⊢
  rw [hj2]
  exact ht
theorem bld_mem {α : Type} {t : Int → Bool} {e : Int → α} {x : α} : ∀ (c : Nat) (i : Int) (ms : List α), x ∈ bld t e c i ms → x ∈ ms ∨ ∃ j : Nat, j < c ∧ t (i + j) = true ∧ e (i + j) = x
  | 0, i, ms, h => Or.inl h
  | c + 1, i, ms, h => by
    simp only [bld] at h
    have up : (∃ j : Nat, j < c ∧ t (i + 1 + j) = true ∧ e (i + 1 + j) = x) → ∃ j : Nat, j < c + 1 ∧ t (i + j) = true ∧ e (i + j) = x := by
      rintro ⟨j, h1, h2, h3⟩
      refine ⟨j + 1, by omega, ?_, ?_⟩
      · rw [show i + ((j + 1 : Nat) : Int) = i + 1 + (j : Int) by omega]; exact h2
      · rw [show i + ((j + 1 : Nat) : Int) = i + 1 + (j : Int) by omega]; exact h3
    cases ht : t i with
    | true =>
      rw [ht] at h
      rcases bld_mem c (i + 1) _ h with hm | hm
      · rcases List.mem_append.1 hm with hm | hm
        · exact Or.inl hm
        · rw [List.mem_singleton] at hm
          exact Or.inr ⟨0, by omega, by simpa using ht, by simpa using hm.symm⟩
      · exact Or.inr (up hm)
    | false =>
      rw [ht] at h
      rcases bld_mem c (i + 1) _ h with hm | hm
      · exact Or.inl hm
      · exact Or.inr (up hm)
theorem cens_mem {X : List O3} {v : V3} (h : v ∈ cens X) : ∃ i : Nat, i < X.length ∧ (atO X (i : Int)).r = M3.one ∧ (atO X (i : Int)).t = v := by
  rcases bld_mem X.length 0 [] h with h | ⟨j, h1, h2, h3⟩
  · cases h
  · rw [Int.zero_add] at h2 h3
    exact ⟨j, h1, M3.eqB_iff.1 h2, h3⟩
theorem cens_le {X : List O3} (h : chkI X = 0) : (cens X).length ≤ 192 := by
  rw [cens_len]
  exact Nat.le_trans (List.length_filter_le _ _) (chk_grp h).2.2
theorem row_one {h : V3} (hk : h.ixk = 0) : rowI h M3.one = h := by
  have hb : inB 512 h.l = true := by
    unfold V3.ixk at hk
    cases hi : inB 512 h.l with
    | true => rfl
    | false => rw [hi] at hk; cases hk
  unfold V3.l at hb
  rw [inB_iff] at hb
  simp only [List.mem_cons, List.not_mem_nil, or_false, forall_eq_or_imp, forall_eq] at hb
  obtain ⟨x, y, z⟩ := h
  simp only at hb
  unfold rowI M3.one
  simp only [Int.mul_one, Int.mul_zero, Int.zero_add]
  have w0 : W 0 = 0 := W_in (by omega)
  have wx : W x = x := W_in (by omega)
  have wy : W y = y := W_in (by omega)
  have wz : W z = z := W_in (by omega)
  simp only [w0, wx, wy, wz, Int.zero_add, Int.add_zero]
theorem tr_isb {X : List O3} {h : V3} (e : acI X h = 0) {j : Nat} (hj : j < (cens X).length) (ht : (trI h (atV (cens X) j) != 0) = true) : isb X h = true := by
  have hm : atV (cens X) j ∈ cens X := by
    unfold atV
    rw [List.getElem?_eq_getElem hj]
    exact List.getElem_mem hj
  obtain ⟨i, hi, hr, h3⟩ := cens_mem hm
  refine (isb_iff e).2 ⟨i, hi, ?_⟩
  unfold rst
  rw [hr, row_one (leastN_zero.1 e).1, grp_phase e hi, V3.eqB_refl]
  have : phI (atO X (i : Int)) h = trI h (atV (cens X) j) := by rw [← h3]; rfl
  rw [this, ht]; rfl
theorem one_chk : chkI [O3.one] = 0 := by kernel_rfl
theorem bI_ok {X : List O3} (h : X.length ≤ 192) : bI X.length (opRow X) = true := by unfold bI; rw [Nat.beq_refl, okOps_opRow]; simp; omega
theorem rT_ok {q : Nat} (h : q ≤ 10) : rT q = true := by unfold rT; rw [Nat.beq_refl]; simp; omega
theorem fnd_mem {X : List O3} {o : O3} (h : fndE X o = 0) : o ∈ X := by
  unfold fndE at h
  by_cases h0 : leastN (chkI X) o.ck = 0
  · cases hm : mHas (key o) (atsL X 0 []) with
    | true =>
      rcases (ats_has X 0 [] o).1 hm with h | h
      · exact h
      · simp [mHas] at h
    | false => rw [h0, hm] at h; cases h
  · rw [(bif_beq h0).1] at h; exact absurd h h0

set_option maxRecDepth 100000 in
theorem pbIn5 : InBody ((Cpx Try.prog).into 8 1) (forHead (stmt 5 (paB Try.prog))) ∧ InBody ((Cpx Try.prog).into 8 1) (forBody (stmt 5 (paB Try.prog))) := for_in (C := Cpx Try.prog) (f := 8) (B := 1) (id := 0) (k := 5) (fn := Try.f8) (b := paB Try.prog) Try.func8 paB_eq paFor.1
theorem pbLt (own : Bool) (X : List O3) (h : V3) (s : Bool) (k : Nat) (C : List V3) (hk : k ≤ 1000) (hs : ∀ j, j < k → (trI h (atV C j) != 0) = true → s = true) : ∀ (c j : Nat), j + c = k → LoopSem Try.prog 1 (forBody (stmt 5 (paB Try.prog))) (pbH own X.length X h s k C (j : Int)) (.exit 0) (pbZ own X.length X h s) := by
  intro c
  induction c with
  | zero =>
    intro j hj
    have hr := pbR5 own X.length X h s k C j
    rw [show decide ((j : Int) < (k : Int)) = false by simp; omega] at hr
    exact loop_leave (C := Cpx Try.prog) okpx (f := 8) (B := 1) pbIn5.2 hr (by simp)
  | succ c ih =>
    intro j hj
    have hr := pbR5 own X.length X h s k C j
    rw [show decide ((j : Int) < (k : Int)) = true by simp; omega, bd_ok' (show j < k by omega), show W ((j : Int) + 1) = ((j + 1 : Nat) : Int) by rw [W_in (by omega)]; simp] at hr
    have hr2 := hr.trans (show _ = some (Exit.normal, pbH own X.length X h s k C ((j + 1 : Nat) : Int)) from by
      rw [gd_true]
      cases hb : trI h (atV C j) != 0 with
      | false => rfl
      | true => rw [hs j (by omega) hb]; rfl)
    exact loop_next (C := Cpx Try.prog) okpx (f := 8) (B := 1) pbIn5.2 hr2 (StLike.refl _) (ih (j + 1) (by omega))
/-- Behind the lists: Close, Is, the end. -/
theorem pbFin (own : Bool) (X : List O3) (h : V3) (e : acI X h = 0) (st : St) (Q : List O3) (hq : chkI Q = 0) (hX : ∀ o ∈ Q, o ∈ X) (hW : CodeSem Try.prog 1 (seqDrop 11 (paB Try.prog)) (pbW own X.length X h (isb X h) (acI Q h) (isb Q h)) .ret (pbO own X.length X h true) → CodeSem Try.prog 1 (seqDrop 8 (paB Try.prog)) st .ret (pbO own X.length X h true)) : CodeSem Try.prog 1 (seqDrop 8 (paB Try.prog)) st .ret (pbO own X.length X h true) := by
  refine hW ?_
  obtain ⟨a1, a2⟩ := isb_mono e hq hX
  have r := pbEn own X.length X h (isb X h) (acI Q h) (isb Q h)
  rw [a1] at r ⊢
  have r2 := r.trans (show _ = some (Exit.ret, pbO own X.length X h true) from by
    cases hb : isb Q h with
    | false => rfl
    | true => rw [a2 hb]; rfl)
  exact end_rule (C := Cpx Try.prog) okpx (f := 8) (B := 1) (bodyOf_in Try.func8 paB_eq) r2
theorem pbSem (own : Bool) (X : List O3) (h : V3) : MemSem Try.prog 8 [.slice (some ⟨0, 0, some 0⟩) X.length 12, .slice none 0 0, h.v] [.rows own true 12 X.length (opRow X)] (.bool true) [.rows own true 12 X.length (opRow X)] := by
  have body0 : ∀ C : Cx, C.P = Try.prog → InBody (C.into 8 1) (paB Try.prog) := fun C hC => Or.inl ⟨Try.f8, paB Try.prog, by show C.P.funcs[_]? = _; rw [hC]; exact Try.func8, paB_eq, fun _ hx => hx⟩
  have hT := ghT_ok (show alwB X h = true from rfl)
  by_cases e : acI X h = 0
  · obtain ⟨e1, e2⟩ := leastN_zero.1 e
    have hlen := (chk_grp e2).2.2
    have r1 := pbPo own X.length X h
    rw [lk_true, gd_true, hT, gd_true, gd_true, oT_ok, gd_true, opsOf_opRow, e2, e] at r1
    refine body_mem (P := Try.prog) (f := 8) (m := [.rows own true 12 X.length (opRow X)]) Try.func8 paB_eq (by kernel_rfl) (seg_rule (C := Cpg2 Try.prog) okpg2 (f := 8) (B := 1) (k := 5) (body0 _ rfl) r1 (e := .ret) (s' := pbO own X.length X h true) ?_) (pbRt own X.length X h)
    have hl := pbLt own X h (isb X h) (cens X).length (cens X) (by have := cens_le e2; omega) (fun j hj ht => tr_isb e hj ht) (cens X).length 0 (by omega)
    refine stmt_rule paHas.2.1 (for_rule paFor.1 (end_rule (C := Cpx Try.prog) okpx (f := 8) (B := 1) pbIn5.1 (pbHd own X.length X h (isb X h) (cens X).length (cens X))) hl) ?_
    have h0 : CodeSem Try.prog 1 (seqDrop 8 (paB Try.prog)) (pbQ0 own X.length X h (isb X h)) .ret (pbO own X.length X h true) := by
      refine pbFin own X h e _ [O3.one] one_chk (fun o ho => by rw [List.mem_singleton.1 ho]; exact (chk_grp e2).2.1.one) (fun hW => ?_)
      have rc := pbC0 own X.length X h (isb X h)
      rw [lk_true, gd_true, show ghT alwB 1 (opRow [O3.one]) h = true from ghT_ok (xs := [O3.one]) rfl, gd_true, show opsOf 1 (opRow [O3.one]) = [O3.one] from opsOf_opRow [O3.one]] at rc
      refine seg_rule (C := Cpc Try.prog) okpc (f := 8) (B := 1) (k := 3) (bodyOf_in (C := Cpc Try.prog) (f := 8) (B := 1) (k := 8) Try.func8 paB_eq) rc ?_
      rw [seqDrop_drop]
      exact hW
    refine seg_rule (C := Cpx Try.prog) okpx (f := 8) (B := 1) (k := 2) (bodyOf_in (C := Cpx Try.prog) (f := 8) (B := 1) (k := 6) Try.func8 paB_eq) (pbN own X.length X h (isb X h)) ?_
    rw [seqDrop_drop]
    exact h0
  · have hb : (acI X h != 0) = true := by simpa using e
    have w3 : isb X h = false := by unfold isb; rw [hb]
    have out : ∀ f, roundR ((Cpx Try.prog).into 8 1) 60 (stmt 4 (paB Try.prog)) [6] [6] [.fix 0] [.fix 0] (pbX own X.length X h false (acI X h) f) = some (.ret, pbO own X.length X h true) := fun f => by
      have r := pbR4 own X.length X h false (acI X h) f
      rw [hb] at r
      exact r
    by_cases h0 : chkI X = 0
    · have r1 := pbPg own X.length X h
      rw [lk_true, gd_true, hT, gd_true, gd_true, oT_ok, gd_true, opsOf_opRow, h0, w3] at r1
      exact body_mem (P := Try.prog) (f := 8) (m := [.rows own true 12 X.length (opRow X)]) Try.func8 paB_eq (by kernel_rfl) (seg_rule (C := Cpg2 Try.prog) okpg2 (f := 8) (B := 1) (k := 4) (body0 _ rfl) r1 (stmt_out paHas.1 (end_rule (C := Cpx Try.prog) okpx (f := 8) (B := 1) (stmt_in Try.func8 paB_eq) (out _)) (by simp))) (pbRt own X.length X h)
    · have r1 := pbPe own X.length X h
      rw [lk_true, gd_true, hT, gd_true, gd_true, oT_ok, gd_true, opsOf_opRow, show (chkI X != 0) = true by simpa using h0, gd_true, w3] at r1
      exact body_mem (P := Try.prog) (f := 8) (m := [.rows own true 12 X.length (opRow X)]) Try.func8 paB_eq (by kernel_rfl) (seg_rule (C := Cpe2 Try.prog) okpe2 (f := 8) (B := 1) (k := 4) (body0 _ rfl) r1 (stmt_out paHas.1 (end_rule (C := Cpx Try.prog) okpx (f := 8) (B := 1) (stmt_in Try.func8 paB_eq) (out _)) (by simp))) (pbRt own X.length X h)

set_option maxRecDepth 100000 in
theorem pcIn5 : InBody ((Cpx Try.prog).into 8 2) (forHead (stmt 5 (paB Try.prog))) ∧ InBody ((Cpx Try.prog).into 8 2) (forBody (stmt 5 (paB Try.prog))) := for_in (C := Cpx Try.prog) (f := 8) (B := 2) (id := 0) (k := 5) (fn := Try.f8) (b := paB Try.prog) Try.func8 paB_eq paFor.1
theorem pcLt (own own2 : Bool) (X Y : List O3) (h : V3) (s : Bool) (k : Nat) (C : List V3) (hk : k ≤ 1000) (hs : ∀ j, j < k → (trI h (atV C j) != 0) = true → s = true) : ∀ (c j : Nat), j + c = k → LoopSem Try.prog 2 (forBody (stmt 5 (paB Try.prog))) (pcH own own2 X.length Y.length X Y h s k C (j : Int)) (.exit 0) (pcZ own own2 X.length Y.length X Y h s) := by
  intro c
  induction c with
  | zero =>
    intro j hj
    have hr := pcR5 own own2 X.length Y.length X Y h s k C j
    rw [show decide ((j : Int) < (k : Int)) = false by simp; omega] at hr
    exact loop_leave (C := Cpx Try.prog) okpx (f := 8) (B := 2) pcIn5.2 hr (by simp)
  | succ c ih =>
    intro j hj
    have hr := pcR5 own own2 X.length Y.length X Y h s k C j
    rw [show decide ((j : Int) < (k : Int)) = true by simp; omega, bd_ok' (show j < k by omega), show W ((j : Int) + 1) = ((j + 1 : Nat) : Int) by rw [W_in (by omega)]; simp] at hr
    have hr2 := hr.trans (show _ = some (Exit.normal, pcH own own2 X.length Y.length X Y h s k C ((j + 1 : Nat) : Int)) from by
      rw [gd_true]
      cases hb : trI h (atV C j) != 0 with
      | false => rfl
      | true => rw [hs j (by omega) hb]; rfl)
    exact loop_next (C := Cpx Try.prog) okpx (f := 8) (B := 2) pcIn5.2 hr2 (StLike.refl _) (ih (j + 1) (by omega))
/-- Behind the lists: Close, Is, the end. -/
theorem pcFin (own own2 : Bool) (X Y : List O3) (h : V3) (e : acI X h = 0) (st : St) (Q : List O3) (hq : chkI Q = 0) (hX : ∀ o ∈ Q, o ∈ X) (hW : CodeSem Try.prog 2 (seqDrop 11 (paB Try.prog)) (pcW own own2 X.length Y.length X Y h (isb X h) (acI Q h) (isb Q h)) .ret (pcO own own2 X.length Y.length X Y h true) → CodeSem Try.prog 2 (seqDrop 8 (paB Try.prog)) st .ret (pcO own own2 X.length Y.length X Y h true)) : CodeSem Try.prog 2 (seqDrop 8 (paB Try.prog)) st .ret (pcO own own2 X.length Y.length X Y h true) := by
  refine hW ?_
  obtain ⟨a1, a2⟩ := isb_mono e hq hX
  have r := pcEn own own2 X.length Y.length X Y h (isb X h) (acI Q h) (isb Q h)
  rw [a1] at r ⊢
  have r2 := r.trans (show _ = some (Exit.ret, pcO own own2 X.length Y.length X Y h true) from by
    cases hb : isb Q h with
    | false => rfl
    | true => rw [a2 hb]; rfl)
  exact end_rule (C := Cpx Try.prog) okpx (f := 8) (B := 2) (bodyOf_in Try.func8 paB_eq) r2
set_option maxRecDepth 100000 in
theorem pcIn7 : InBody ((Cpx Try.prog).into 8 2) (forHead (stmt 7 (paB Try.prog))) ∧ InBody ((Cpx Try.prog).into 8 2) (forBody (stmt 7 (paB Try.prog))) := for_in (C := Cpx Try.prog) (f := 8) (B := 2) (id := 2) (k := 7) (fn := Try.f8) (b := paB Try.prog) Try.func8 paB_eq paFor.2
theorem pcLl (own own2 : Bool) (X Y : List O3) (h : V3) (s : Bool) (e : chkI X = 0) (hY : (Y.length : Int) ≤ 9223372036854775807) : ∀ (c i : Nat) (P : List O3), i + c = Y.length → P ≠ [] → P.length ≤ 4 → (∀ o ∈ P, o ∈ X) → ∃ P', LoopSem Try.prog 2 (forBody (stmt 7 (paB Try.prog))) (pcL1 own own2 X.length Y.length X Y h s P.length (opRow P) (i : Int)) (.exit 2) (pcQ1 own own2 X.length Y.length X Y h s P'.length (opRow P')) ∧ P'.length ≤ 4 ∧ ∀ o ∈ P', o ∈ X := by
  have hlen := (chk_grp e).2.2
  intro c
  induction c with
  | zero =>
    intro i P hi _ h4 hP
    have hr := pcR71 own own2 X.length Y.length X Y h s P.length P i
    rw [show decide ((i : Int) < (Y.length : Int)) = false by simp; omega] at hr
    exact ⟨P, loop_leave (C := Cpx Try.prog) okpx (f := 8) (B := 2) pcIn7.2 hr (by simp), h4, hP⟩
  | succ c ih =>
    intro i P hi h0 h4 hP
    have hr := pcR71 own own2 X.length Y.length X Y h s P.length P i
    rw [show decide ((i : Int) < (Y.length : Int)) = true by simp; omega, bd_ok' (show i < Y.length by omega), show W ((i : Int) + 1) = ((i + 1 : Nat) : Int) by rw [W_id (by omega) (by omega)]; simp, gd_true, lk_true, gd_true, bI_ok hlen, gd_true, opsOf_opRow] at hr
    cases hf : fndE X (atO Y (i : Int)) == 0 with
    | false =>
      rw [hf] at hr
      obtain ⟨P', l1, l2⟩ := ih (i + 1) P (by omega) h0 h4 hP
      exact ⟨P', loop_next (C := Cpx Try.prog) okpx (f := 8) (B := 2) pcIn7.2 hr (StLike.refl _) l1, l2⟩
    | true =>
      rw [hf] at hr
      by_cases hq : P.length < 4
      · rw [show decide ((P.length : Int) < 4) = true by simp; omega, rT_ok (by omega)] at hr
        have ho := fnd_mem (by simpa using hf)
        obtain ⟨P', l1, l2⟩ := ih (i + 1) (P ++ [atO Y (i : Int)]) (by omega) (by simp) (by simp; omega) (fun o h => by
          rcases List.mem_append.1 h with h | h
          · exact hP o h
          · rw [List.mem_singleton.1 h]; exact ho)
        rw [show (P ++ [atO Y (i : Int)]).length = P.length + 1 by simp] at l1
        exact ⟨P', loop_next (C := Cpx Try.prog) okpx (f := 8) (B := 2) (s2 := pcL1 own own2 X.length Y.length X Y h s (P.length + 1) (opRow (P ++ [atO Y (i : Int)])) ((i + 1 : Nat) : Int)) pcIn7.2 hr ⟨rfl, .refl _, .refl _, .refl _, like_nr rfl _, trivial⟩ l1, l2⟩
      · rw [show decide ((P.length : Int) < 4) = false by simp; omega] at hr
        obtain ⟨P', l1, l2⟩ := ih (i + 1) P (by omega) h0 h4 hP
        exact ⟨P', loop_next (C := Cpx Try.prog) okpx (f := 8) (B := 2) pcIn7.2 hr (StLike.refl _) l1, l2⟩
theorem pcL (own own2 : Bool) (X Y : List O3) (h : V3) (s : Bool) (e : chkI X = 0) (hY : (Y.length : Int) ≤ 9223372036854775807) : ∀ (c i : Nat), i + c = Y.length → LoopSem Try.prog 2 (forBody (stmt 7 (paB Try.prog))) (pcL0 own own2 X.length Y.length X Y h s (i : Int)) (.exit 2) (pcQ0 own own2 X.length Y.length X Y h s) ∨ ∃ P', LoopSem Try.prog 2 (forBody (stmt 7 (paB Try.prog))) (pcL0 own own2 X.length Y.length X Y h s (i : Int)) (.exit 2) (pcQ1 own own2 X.length Y.length X Y h s P'.length (opRow P')) ∧ P'.length ≤ 4 ∧ ∀ o ∈ P', o ∈ X := by
  have hlen := (chk_grp e).2.2
  intro c
  induction c with
  | zero =>
    intro i hi
    have hr := pcR70 own own2 X.length Y.length X Y h s i
    rw [show decide ((i : Int) < (Y.length : Int)) = false by simp; omega] at hr
    exact Or.inl (loop_leave (C := Cpx Try.prog) okpx (f := 8) (B := 2) pcIn7.2 hr (by simp))
  | succ c ih =>
    intro i hi
    have hr := pcR70 own own2 X.length Y.length X Y h s i
    rw [show decide ((i : Int) < (Y.length : Int)) = true by simp; omega, bd_ok' (show i < Y.length by omega), show W ((i : Int) + 1) = ((i + 1 : Nat) : Int) by rw [W_id (by omega) (by omega)]; simp, gd_true, lk_true, gd_true, bI_ok hlen, gd_true, opsOf_opRow] at hr
    cases hf : fndE X (atO Y (i : Int)) == 0 with
    | false =>
      rw [hf] at hr
      rcases ih (i + 1) (by omega) with l | ⟨P', l1, l2⟩
      · exact Or.inl (loop_next (C := Cpx Try.prog) okpx (f := 8) (B := 2) pcIn7.2 hr (StLike.refl _) l)
      · exact Or.inr ⟨P', loop_next (C := Cpx Try.prog) okpx (f := 8) (B := 2) pcIn7.2 hr (StLike.refl _) l1, l2⟩
    | true =>
      rw [hf] at hr
      have ho := fnd_mem (by simpa using hf)
      obtain ⟨P', l1, l2⟩ := pcLl own own2 X Y h s e hY c (i + 1) [atO Y (i : Int)] (by omega) (by simp) (by simp) (fun o h => by rw [List.mem_singleton.1 h]; exact ho)
      exact Or.inr ⟨P', loop_next (C := Cpx Try.prog) okpx (f := 8) (B := 2) (s2 := pcL1 own own2 X.length Y.length X Y h s 1 (opRow [atO Y (i : Int)]) ((i + 1 : Nat) : Int)) pcIn7.2 hr ⟨rfl, .refl _, .refl _, .refl _, like_chop _, trivial⟩ l1, l2⟩
theorem pcSem (own own2 : Bool) (X Y : List O3) (h : V3) (hY : (Y.length : Int) ≤ 9223372036854775807) : MemSem Try.prog 8 [.slice (some ⟨0, 0, some 0⟩) X.length 12, .slice (some ⟨1, 0, some 0⟩) Y.length 12, h.v] [.rows own true 12 X.length (opRow X), .rows own2 true 12 Y.length (opRow Y)] (.bool true) [.rows own true 12 X.length (opRow X), .rows own2 true 12 Y.length (opRow Y)] := by
  have body0 : ∀ C : Cx, C.P = Try.prog → InBody (C.into 8 2) (paB Try.prog) := fun C hC => Or.inl ⟨Try.f8, paB Try.prog, by show C.P.funcs[_]? = _; rw [hC]; exact Try.func8, paB_eq, fun _ hx => hx⟩
  have hT := ghT_ok (show alwB X h = true from rfl)
  by_cases e : acI X h = 0
  · obtain ⟨e1, e2⟩ := leastN_zero.1 e
    have hlen := (chk_grp e2).2.2
    have r1 := pcPo own own2 X.length Y.length X Y h
    rw [lk_true, gd_true, hT, gd_true, gd_true, oT_ok, gd_true, opsOf_opRow, e2, e] at r1
    refine body_mem (P := Try.prog) (f := 8) (m := [.rows own true 12 X.length (opRow X), .rows own2 true 12 Y.length (opRow Y)]) Try.func8 paB_eq (by kernel_rfl) (seg_rule (C := Cpg2 Try.prog) okpg2 (f := 8) (B := 2) (k := 5) (body0 _ rfl) r1 (e := .ret) (s' := pcO own own2 X.length Y.length X Y h true) ?_) (pcRt own own2 X.length Y.length X Y h)
    have hl := pcLt own own2 X Y h (isb X h) (cens X).length (cens X) (by have := cens_le e2; omega) (fun j hj ht => tr_isb e hj ht) (cens X).length 0 (by omega)
    refine stmt_rule paHas.2.1 (for_rule paFor.1 (end_rule (C := Cpx Try.prog) okpx (f := 8) (B := 2) pcIn5.1 (pcHd own own2 X.length Y.length X Y h (isb X h) (cens X).length (cens X))) hl) ?_
    have h0 : CodeSem Try.prog 2 (seqDrop 8 (paB Try.prog)) (pcQ0 own own2 X.length Y.length X Y h (isb X h)) .ret (pcO own own2 X.length Y.length X Y h true) := by
      refine pcFin own own2 X Y h e _ [O3.one] one_chk (fun o ho => by rw [List.mem_singleton.1 ho]; exact (chk_grp e2).2.1.one) (fun hW => ?_)
      have rc := pcC0 own own2 X.length Y.length X Y h (isb X h)
      rw [lk_true, gd_true, show ghT alwB 1 (opRow [O3.one]) h = true from ghT_ok (xs := [O3.one]) rfl, gd_true, show opsOf 1 (opRow [O3.one]) = [O3.one] from opsOf_opRow [O3.one]] at rc
      refine seg_rule (C := Cpc Try.prog) okpc (f := 8) (B := 2) (k := 3) (bodyOf_in (C := Cpc Try.prog) (f := 8) (B := 2) (k := 8) Try.func8 paB_eq) rc ?_
      rw [seqDrop_drop]
      exact hW
    have h1 : ∀ P : List O3, P.length ≤ 4 → (∀ o ∈ P, o ∈ X) → CodeSem Try.prog 2 (seqDrop 8 (paB Try.prog)) (pcQ1 own own2 X.length Y.length X Y h (isb X h) P.length (opRow P)) .ret (pcO own own2 X.length Y.length X Y h true) := by
      intro P h4 hP
      obtain ⟨k1, k2⟩ := cls_sub (chk_grp e2).2.1 hlen hP (by omega)
      refine pcFin own own2 X Y h e _ (clsG P) (chk_cls k1) k2 (fun hW => ?_)
      have rc := pcC1 own own2 X.length Y.length X Y h (isb X h) P.length P
      rw [lk_true, gd_true, oT_ok, gd_true, opsOf_opRow, k1, gd_true, lk_true, gd_true, ghT_ok (show alwB (clsG P) h = true from rfl), gd_true, opsOf_opRow] at rc
      refine seg_rule (C := Cpc Try.prog) okpc (f := 8) (B := 2) (k := 3) (bodyOf_in (C := Cpc Try.prog) (f := 8) (B := 2) (k := 8) Try.func8 paB_eq) rc ?_
      rw [seqDrop_drop]
      exact hW
    refine seg_rule (C := Cpx Try.prog) okpx (f := 8) (B := 2) (k := 1) (bodyOf_in (C := Cpx Try.prog) (f := 8) (B := 2) (k := 6) Try.func8 paB_eq) (pcS6 own own2 X.length Y.length X Y h (isb X h)) ?_
    rw [seqDrop_drop]
    have hd := end_rule (C := Cpx Try.prog) okpx (f := 8) (B := 2) pcIn7.1 (pcHd7 own own2 X.length Y.length X Y h (isb X h))
    rcases pcL own own2 X Y h (isb X h) e2 hY Y.length 0 (by omega) with l | ⟨P', l, l4, lX⟩
    · exact stmt_rule paHas.2.2 (for_rule paFor.2 hd l) h0
    · exact stmt_rule paHas.2.2 (for_rule paFor.2 hd l) (h1 P' l4 lX)
  · have hb : (acI X h != 0) = true := by simpa using e
    have w3 : isb X h = false := by unfold isb; rw [hb]
    have out : ∀ f, roundR ((Cpx Try.prog).into 8 2) 60 (stmt 4 (paB Try.prog)) [6] [6] [.fix 0, .fix 1] [.fix 0, .fix 1] (pcX own own2 X.length Y.length X Y h false (acI X h) f) = some (.ret, pcO own own2 X.length Y.length X Y h true) := fun f => by
      have r := pcR4 own own2 X.length Y.length X Y h false (acI X h) f
      rw [hb] at r
      exact r
    by_cases h0 : chkI X = 0
    · have r1 := pcPg own own2 X.length Y.length X Y h
      rw [lk_true, gd_true, hT, gd_true, gd_true, oT_ok, gd_true, opsOf_opRow, h0, w3] at r1
      exact body_mem (P := Try.prog) (f := 8) (m := [.rows own true 12 X.length (opRow X), .rows own2 true 12 Y.length (opRow Y)]) Try.func8 paB_eq (by kernel_rfl) (seg_rule (C := Cpg2 Try.prog) okpg2 (f := 8) (B := 2) (k := 4) (body0 _ rfl) r1 (stmt_out paHas.1 (end_rule (C := Cpx Try.prog) okpx (f := 8) (B := 2) (stmt_in Try.func8 paB_eq) (out _)) (by simp))) (pcRt own own2 X.length Y.length X Y h)
    · have r1 := pcPe own own2 X.length Y.length X Y h
      rw [lk_true, gd_true, hT, gd_true, gd_true, oT_ok, gd_true, opsOf_opRow, show (chkI X != 0) = true by simpa using h0, gd_true, w3] at r1
      exact body_mem (P := Try.prog) (f := 8) (m := [.rows own true 12 X.length (opRow X), .rows own2 true 12 Y.length (opRow Y)]) Try.func8 paB_eq (by kernel_rfl) (seg_rule (C := Cpe2 Try.prog) okpe2 (f := 8) (B := 2) (k := 4) (body0 _ rfl) r1 (stmt_out paHas.1 (end_rule (C := Cpx Try.prog) okpx (f := 8) (B := 2) (stmt_in Try.func8 paB_eq) (out _)) (by simp))) (pcRt own own2 X.length Y.length X Y h)
end Go.Proofs.Ytjpfnfckpgilgaa
