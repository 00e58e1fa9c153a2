/-
  facetlaw14.AbsentTurns: the proof. Nothing here is trusted.
-/
import Derived.Test.YtjpfnfckpgilgaaHTTuA
import Derived.Test.YtjpfnfckpgilgaaHTBoM
import Derived.Test.YtjpfnfckpgilgaaKal
namespace Go.Proofs.Ytjpfnfckpgilgaa
open Go Vx Go.RowKit

theorem atO_memT {X : List O3} {i : Nat} (hi : i < X.length) : atO X (i : Int) ∈ X := memO hi
/-- What Both answers: where the group turns the index, and the opposites. -/
theorem mem_boL {X : List O3} {h v : V3} (e : acI X h = 0) (hv : v ∈ boL X h) : ∃ o ∈ X, v = M3.left h o.r ∨ v = negv (M3.left h o.r) := by
  obtain ⟨e1, e2⟩ := leastN_zero.1 e
  obtain ⟨hs, hX, _⟩ := chk_grp e2
  have hh := right_bd e1
  unfold boL at hv
  rw [mem_cpct, (sortK_perm V3.key _).mem_iff] at hv
  have key : ∀ w ∈ trn X h, ∃ o ∈ X, w = M3.left h o.r := fun w hw => by
    unfold trn at hw
    obtain ⟨m, hm, rfl⟩ := List.mem_map.1 hw
    obtain ⟨o, ho, rfl⟩ := (mem_rots hs m).1 hm
    exact ⟨o, ho, row_left hh (M3.ok_iff.1 (O3.ck_zero.1 (hX.ck _ ho)).2.1)⟩
  unfold opps at hv
  rcases List.mem_append.1 hv with hv | hv
  · obtain ⟨o, ho, e⟩ := key v hv
    exact ⟨o, ho, Or.inl e⟩
  · obtain ⟨w, hw, rfl⟩ := List.mem_map.1 hv
    obtain ⟨o, ho, rfl⟩ := key w hw
    refine ⟨o, ho, Or.inr ?_⟩
    exact opp_left hh (M3.ok_iff.1 (O3.ck_zero.1 (hX.ck _ ho)).2.1)
theorem bo_at {X : List O3} {h : V3} {j : Nat} (hj : j < (boL X h).length) : atV (boA X h) j = (boL X h)[j] := by
  unfold boA cpAll
  have : j < (cpct (sortK V3.key (opps (trn X h))) ++ List.replicate ((sortK V3.key (opps (trn X h))).length - (cpct (sortK V3.key (opps (trn X h)))).length) V3.zero).length := by
    rw [List.length_append]
    have : j < (cpct (sortK V3.key (opps (trn X h)))).length := hj
    omega
  rw [atV_get this, List.getElem_append_left (show j < (cpct (sortK V3.key (opps (trn X h)))).length from hj)]
  rfl
/-- One of Both's indices is too long, or as absent as the index itself. -/
theorem bo_is {X : List O3} {h : V3} (e : acI X h = 0) {j : Nat} (hj : j < (boL X h).length) : acI X (atV (boA X h) j) = 1 ∨ (acI X (atV (boA X h) j) = 0 ∧ isb X (atV (boA X h) j) = isb X h) := by
  obtain ⟨e1, e2⟩ := leastN_zero.1 e
  rw [bo_at hj]
  obtain ⟨o, ho, hv⟩ := mem_boL e (List.getElem_mem hj)
  by_cases hk : ((boL X h)[j]).ixk = 0
  · have ek := acI_zero e2 hk
    refine Or.inr ⟨ek, ?_⟩
    rcases hv with hv | hv
    · rw [hv] at ek ⊢
      exact isb_turn e ho ek
    · have hm : acI X (M3.left h o.r) = 0 := acI_zero e2 (by rw [hv] at hk; exact ixk_neg hk)
      rw [hv] at ek ⊢
      rw [isb_neg hm ek]
      exact isb_turn e ho hm
  · refine Or.inl ?_
    rcases ixk_vals ((boL X h)[j]) with h0 | h1
    · exact absurd h0 hk
    · unfold acI
      rw [h1, e2]; rfl
set_option maxRecDepth 100000 in
theorem tuIn : InBody ((Cow Try.prog).into 6 1) (forHead (stmt 6 (tuB Try.prog))) ∧ InBody ((Cow Try.prog).into 6 1) (forBody (stmt 6 (tuB Try.prog))) := for_in (C := Cow Try.prog) (f := 6) (B := 1) (id := 0) (k := 6) (fn := Try.f6) (b := tuB Try.prog) Try.func6 tuB_eq tuFor
theorem tuLp (own : Bool) (X : List O3) (b : Bool) (k m : Nat) (Y : List V3) (hk : k ≤ 1000) (hY : ∀ j, j < k → acI X (atV Y j) = 1 ∨ (acI X (atV Y j) = 0 ∧ isb X (atV Y j) = b)) : ∀ (c i : Nat), i + c = k → LoopSem Try.prog 1 (forBody (stmt 6 (tuB Try.prog))) (tuI own X.length X b k m Y (i : Int)) (.exit 0) (tuZ own X.length X) := by
  intro c
  induction c with
  | zero =>
    intro i hi
    have hr := tuR own X.length X b k m Y i
    rw [show decide ((i : Int) < (k : Int)) = false by simp; omega] at hr
    exact loop_leave (C := Cow Try.prog) okow (f := 6) (B := 1) tuIn.2 hr (by simp)
  | succ c ih =>
    intro i hi
    have hr := tuR own X.length X b k m Y i
    rw [show decide ((i : Int) < (k : Int)) = true by simp; omega, bd_ok' (show i < k by omega), show W ((i : Int) + 1) = ((i + 1 : Nat) : Int) by rw [W_in (by omega)]; simp, gd_true, lk_true, gd_true, ghT_ok (show alwB X (atV Y i) = true from rfl), gd_true, opsOf_opRow] at hr
    have hr2 := hr.trans (show _ = some (Exit.normal, tuI own X.length X b k m Y ((i + 1 : Nat) : Int)) from by
      rcases hY i (by omega) with h1 | ⟨h1, h2⟩
      · rw [h1]; rfl
      · rw [h1, h2]
        cases b <;> rfl)
    exact loop_next (C := Cow Try.prog) okow (f := 6) (B := 1) tuIn.2 hr2 (StLike.refl _) (ih (i + 1) (by omega))
theorem ixk_nought : V3.zero.ixk = 0 := rfl
theorem tu_sem (own : Bool) (X : List O3) (h : V3) : MemSem Try.prog 6 [.slice (some ⟨0, 0, some 0⟩) X.length 12, h.v] [.rows own true 12 X.length (opRow X)] (.bool true) [.rows own true 12 X.length (opRow X)] := by
  have r1 := tuP own X.length X h
  simp only [lk_true, gd_true, ghT_ok (show alwB X h = true from rfl), opsOf_opRow] at r1
  have body0 : InBody ((Cow Try.prog).into 6 1) (tuB Try.prog) := Or.inl ⟨Try.f6, tuB Try.prog, Try.func6, tuB_eq, fun _ hx => hx⟩
  refine body_mem (P := Try.prog) (f := 6) (m := [.rows own true 12 X.length (opRow X)]) Try.func6 tuB_eq (by kernel_rfl) (seg_rule (C := Cow Try.prog) okow (f := 6) (B := 1) (k := 3) body0 r1 (e := .ret) (s' := stOf 67 [(4, .bool true)] [.rows own true 12 X.length (opRow X)]) ?_) (tuQ own X.length X)
  by_cases e : acI X h = 0
  · have hin := fun k => bodyOf_in (C := Cow Try.prog) (f := 6) (B := 1) (k := k) Try.func6 tuB_eq
    have hO := tuO own X.length X h (isb X h)
    rw [lk_true, gd_true, oT_ok, gd_true, opsOf_opRow, e] at hO
    have hO' : segR ((Cbx Try.prog).into 6 1) 60 3 (seqDrop 3 (tuB Try.prog)) [0, 4, 5, 7] [.fix 0, .slot 7] (tuS own X.length X h (isb X h) 0) = some (tuL own X.length X (isb X h) (boL X h).length (opps (trn X h)).length (boA X h)) := hO
    have hlen : (boL X h).length ≤ 1000 := by
      have h1 := trn_le (h := h) e
      have h2 := cpct_len (sortK V3.key (opps (trn X h)))
      rw [sortK_len, opps_len] at h2
      unfold boL
      omega
    have ez : acI X V3.zero = 0 := acI_zero (leastN_zero.1 e).2 ixk_nought
    have rF := tuF own X.length X
    rw [lk_true, gd_true, ghT_ok (show alwB X V3.zero = true from rfl), gd_true, opsOf_opRow, ez, isb_nought ez] at rF
    rw [e]
    refine seg_rule (C := Cbx Try.prog) okbx (f := 6) (B := 1) (k := 3) (bodyOf_in (C := Cbx Try.prog) (f := 6) (B := 1) (k := 3) Try.func6 tuB_eq) hO' ?_
    rw [seqDrop_drop]
    exact stmt_rule tuHas.2 (for_rule tuFor (end_rule (C := Cow Try.prog) okow (f := 6) (B := 1) tuIn.1 (tuHd own X.length X (isb X h) _ _ _)) (tuLp own X (isb X h) _ _ _ hlen (fun j hj => bo_is e hj) (boL X h).length 0 (by omega))) (end_rule (C := Cow Try.prog) okow (f := 6) (B := 1) (hin 7) rF)
  · have hb : (acI X h != 0) = true := by simpa using e
    have w3 : isb X h = false := by unfold isb; rw [hb]
    rw [w3]
    have r := tuEr own X.length X h (acI X h)
    simp only [hb] at r
    exact stmt_out tuHas.1 (end_rule (C := Cow Try.prog) okow (f := 6) (B := 1) (stmt_in Try.func6 tuB_eq) r) (by simp)
theorem tu_nil (h : V3) : MemSem Try.prog 6 [.slice none 0 0, h.v] [] (.bool true) [] := by
  have r := tuR0 h (leastN h.ixk 5)
  simp only [z5] at r
  have body0 : InBody ((Cow Try.prog).into 6 0) (tuB Try.prog) := Or.inl ⟨Try.f6, tuB Try.prog, Try.func6, tuB_eq, fun _ hx => hx⟩
  exact body_mem (P := Try.prog) (f := 6) (m := []) Try.func6 tuB_eq (by kernel_rfl) (seg_rule (C := Cow Try.prog) okow (f := 6) (B := 0) (k := 3) body0 (tuP0 h) (stmt_out tuHas.1 (end_rule (C := Cow Try.prog) okow (f := 6) (B := 0) (stmt_in Try.func6 tuB_eq) r) (by simp))) tuQ0
theorem absentTurns_nil (W : World) (h : V3) : Calls Try.prog 6 #[.slice none 0 0, h.v] W fun e W' => e = .returned (.bool true) ∧ Below W.heap.size W W' :=
  ((MemSem.plain (tu_nil h) (fun x hx => by
    simp only [List.mem_cons, List.not_mem_nil, or_false] at hx
    rcases hx with rfl | rfl <;> rfl) rfl).2 W).mono fun _ _ hq => ⟨hq.1, hq.2.1⟩
theorem absentTurns_walk {W : World} {a : Addr} {xs : List O3} {cap : Nat} (ha : OpsAt W a xs) (hc : xs.length ≤ cap) (h : V3) : Calls Try.prog 6 #[.slice (some a) xs.length cap, h.v] W fun e W' => e = .returned (.bool true) ∧ Below W.heap.size W W' :=
  (tu_sem false xs h).calls ha hc (more := [h.v]) (more' := [h.v]) ⟨(R_plain (v := h.v) rfl).2 rfl, trivial⟩
end Go.Proofs.Ytjpfnfckpgilgaa
