/-
  facetlaw14.AbsentSees: the proof. Nothing here is trusted.
-/
import Derived.Test.YtjpfnfckpgilgaaHTAbG
import Derived.Test.YtjpfnfckpgilgaaKal
namespace Go.Proofs.Ytjpfnfckpgilgaa
open Go Vx Go.RowKit

theorem atO_mem {X : List O3} {i : Nat} (hi : i < X.length) : atO X (i : Int) ∈ X := by
  unfold atO
  rw [Int.toNat_natCast, List.getElem?_eq_getElem hi]
  exact List.getElem_mem hi
theorem atO_get {X : List O3} {i : Nat} (hi : i < X.length) : atO X (i : Int) = X[i] := by
  unfold atO
  rw [Int.toNat_natCast, List.getElem?_eq_getElem hi]
  rfl
theorem grp_phE {X : List O3} {h : V3} (e : acI X h = 0) {i : Nat} (hi : i < X.length) : phE (atO X (i : Int)) h = 0 := by
  obtain ⟨e1, e2⟩ := leastN_zero.1 e
  have hk := (chk_grp e2).2.1.ck _ (atO_mem hi)
  unfold phE
  rw [e1, hk]; rfl
theorem grp_tnV {X : List O3} {h : V3} (e : acI X h = 0) {i : Nat} (hi : i < X.length) : tnV (atO X (i : Int)) h = rowI h (atO X (i : Int)).r := by
  unfold tnV
  rw [grp_phE e hi]; rfl
theorem strict_at {X : List O3} (hs : StrictO X) {i k : Nat} (hik : i < k) (hk : k < X.length) : (atO X (i : Int)).eqB (atO X (k : Int)) = false := by
  rw [O3.eqB_false, atO_get (by omega), atO_get hk]
  intro he
  have := List.pairwise_iff_getElem.1 hs i k (by omega) hk hik
  rw [he, (lexI_zero (l := X[k].l) (m := X[k].l) rfl).2 rfl] at this
  omega
set_option maxRecDepth 100000 in
theorem asIn1 : InBody ((Cow Try.prog).into 7 1) (forHead (stmt 7 (asB Try.prog))) ∧ InBody ((Cow Try.prog).into 7 1) (forBody (stmt 7 (asB Try.prog))) := for_in (C := Cow Try.prog) (f := 7) (B := 1) (id := 0) (k := 7) (fn := Try.f7) (b := asB Try.prog) Try.func7 asB_eq asFor.1
set_option maxRecDepth 100000 in
theorem asIn2 : InBody ((Cow Try.prog).into 7 1) (forHead (stmt 11 (asB Try.prog))) ∧ InBody ((Cow Try.prog).into 7 1) (forBody (stmt 11 (asB Try.prog))) := for_in (C := Cow Try.prog) (f := 7) (B := 1) (id := 2) (k := 11) (fn := Try.f7) (b := asB Try.prog) Try.func7 asB_eq asFor.2
/-- The loop along the group: where a map makes the index absent. -/
theorem asLt (own : Bool) (X : List O3) (h : V3) (n9 : Int) (b10 : Bool) (e : acI X h = 0) (k : Nat) (hk : k < X.length) (h1 : rst X h k = true) (h2 : ∀ j, j < k → rst X h j = false) : ∀ (c i : Nat), i + c = k → LoopSem Try.prog 1 (forBody (stmt 7 (asB Try.prog))) (asH own X.length X h (atO X (k : Int)) true n9 b10 (i : Int)) (.exit 0) (asZ own X.length X h n9 b10) := by
  have hs := (chk_grp (leastN_zero.1 e).2).1
  have hlen := (chk_grp (leastN_zero.1 e).2).2.2
  intro c
  induction c with
  | zero =>
    intro i hi
    have : i = k := by omega
    subst this
    have hr := asRt own X.length X h (atO X (i : Int)) n9 b10 i
    unfold rst at h1
    rw [Bool.and_eq_true] at h1
    rw [show decide ((i : Int) < (X.length : Int)) = true by simp; omega, bd_ok' hk, grp_phE e hk, grp_tnV e hk, h1.1, h1.2, O3.eqB_refl] at hr
    exact loop_leave (C := Cow Try.prog) okow (f := 7) (B := 1) asIn1.2 hr (by simp)
  | succ c ih =>
    intro i hi
    have hr := asRt own X.length X h (atO X (k : Int)) n9 b10 i
    have hf := h2 i (by omega)
    unfold rst at hf
    rw [show decide ((i : Int) < (X.length : Int)) = true by simp; omega, bd_ok' (show i < X.length by omega), grp_phE e (by omega), grp_tnV e (by omega), strict_at hs (show i < k by omega) hk, show W ((i : Int) + 1) = ((i + 1 : Nat) : Int) by rw [W_in (by omega)]; simp] at hr
    have hr2 : roundR ((Cow Try.prog).into 7 1) 60 (forBody (stmt 7 (asB Try.prog))) [0, 3, 4, 5, 7, 9, 10, 86, 87, 88] [0, 3, 4, 9, 10] [.fix 0, .slot 3, .slot 5] [.fix 0, .slot 3] (asH own X.length X h (atO X (k : Int)) true n9 b10 (i : Int)) = some (.normal, asH own X.length X h (atO X (k : Int)) true n9 b10 ((i + 1 : Nat) : Int)) := by
      refine hr.trans ?_
      cases hb : (rowI h (atO X (i : Int)).r).eqB h with
      | false => rfl
      | true =>
        rw [hb] at hf
        have : (phV (atO X (i : Int)) h != 0) = false := by simpa using hf
        rw [this]; rfl
    exact loop_next (C := Cow Try.prog) okow (f := 7) (B := 1) asIn1.2 hr2 (StLike.refl _) (ih (i + 1) (by omega))
/-- Where none does. -/
theorem asLf (own : Bool) (X : List O3) (h : V3) (o : O3) (n9 : Int) (b10 : Bool) (e : acI X h = 0) (h2 : ∀ j, j < X.length → rst X h j = false) : ∀ (c i : Nat), i + c = X.length → LoopSem Try.prog 1 (forBody (stmt 7 (asB Try.prog))) (asH own X.length X h o false n9 b10 (i : Int)) (.exit 0) (asZ own X.length X h n9 b10) := by
  have hlen := (chk_grp (leastN_zero.1 e).2).2.2
  intro c
  induction c with
  | zero =>
    intro i hi
    have hr := asRf own X.length X h o n9 b10 i
    rw [show decide ((i : Int) < (X.length : Int)) = false by simp; omega] at hr
    exact loop_leave (C := Cow Try.prog) okow (f := 7) (B := 1) asIn1.2 hr (by simp)
  | succ c ih =>
    intro i hi
    have hr := asRf own X.length X h o n9 b10 i
    have hf := h2 i (by omega)
    unfold rst at hf
    rw [show decide ((i : Int) < (X.length : Int)) = true by simp; omega, bd_ok' (show i < X.length by omega), grp_phE e (by omega), grp_tnV e (by omega), show W ((i : Int) + 1) = ((i + 1 : Nat) : Int) by rw [W_in (by omega)]; simp] at hr
    have hr2 : roundR ((Cow Try.prog).into 7 1) 60 (forBody (stmt 7 (asB Try.prog))) [0, 3, 4, 5, 7, 9, 10, 86, 87, 88] [0, 3, 4, 9, 10] [.fix 0, .slot 3, .slot 5] [.fix 0, .slot 3] (asH own X.length X h o false n9 b10 (i : Int)) = some (.normal, asH own X.length X h o false n9 b10 ((i + 1 : Nat) : Int)) := by
      refine hr.trans ?_
      cases hb : (rowI h (atO X (i : Int)).r).eqB h with
      | false => rfl
      | true =>
        rw [hb] at hf
        have : (phV (atO X (i : Int)) h != 0) = false := by simpa using hf
        rw [this]; rfl
    exact loop_next (C := Cow Try.prog) okow (f := 7) (B := 1) asIn1.2 hr2 (StLike.refl _) (ih (i + 1) (by omega))
/-- The loop along the indices. -/
theorem asL2 (own : Bool) (X : List O3) (h : V3) (n9 : Int) (b10 : Bool) (k m : Nat) (Y : List V3) (hk : k ≤ 1000) : ∀ (c i : Nat) (b : Bool), i + c = k → LoopSem Try.prog 1 (forBody (stmt 11 (asB Try.prog))) (asI own X.length X h n9 b10 k m Y b (i : Int)) (.exit 2) (asY own X.length X n9 b10 (b || (fst? (fun j => (atV Y j).eqB (oppW h)) c i).isSome)) := by
  intro c
  induction c with
  | zero =>
    intro i b hi
    have hr := asR2 own X.length X h n9 b10 k m Y b i
    rw [show decide ((i : Int) < (k : Int)) = false by simp; omega] at hr
    simp only [fst?, Option.isSome_none, Bool.or_false]
    exact loop_leave (C := Cow Try.prog) okow (f := 7) (B := 1) asIn2.2 hr (by simp)
  | succ c ih =>
    intro i b hi
    have hr := asR2 own X.length X h n9 b10 k m Y b i
    rw [show decide ((i : Int) < (k : Int)) = true by simp; omega, bd_ok' (show i < k by omega), show W ((i : Int) + 1) = ((i + 1 : Nat) : Int) by rw [W_in (by omega)]; simp] at hr
    simp only [gd_true] at hr
    cases b with
    | true =>
      have := ih (i + 1) true (by omega)
      simp only [Bool.true_or] at this ⊢
      exact loop_next (C := Cow Try.prog) okow (f := 7) (B := 1) asIn2.2 hr (StLike.refl _) this
    | false =>
      have := ih (i + 1) ((atV Y i).eqB (oppW h)) (by omega)
      simp only [fst?, Bool.false_or]
      cases hb : (atV Y i).eqB (oppW h) with
      | true =>
        rw [hb] at this hr
        simp only [Bool.true_or] at this
        exact loop_next (C := Cow Try.prog) okow (f := 7) (B := 1) asIn2.2 hr (StLike.refl _) this
      | false =>
        rw [hb] at this hr
        simp only [Bool.false_or] at this
        exact loop_next (C := Cow Try.prog) okow (f := 7) (B := 1) asIn2.2 hr (StLike.refl _) this
/-! What the two searches find -/
theorem fst?_isSome {t : Nat → Bool} {n : Nat} : (fst? t n 0).isSome = true ↔ ∃ j, j < n ∧ t j = true := by
  cases hf : fst? t n 0 with
  | some k =>
    have := fst?_some hf
    simp only [Option.isSome_some, true_iff]
    exact ⟨k, by omega, this.2.2.1⟩
  | none =>
    have := fst?_none hf
    simp only [Option.isSome_none, Bool.false_eq_true, false_iff, not_exists]
    intro j ⟨hj, ht⟩
    rw [this j (Nat.zero_le _) (by omega)] at ht
    cases ht
theorem ceC_some {X : List O3} {h : V3} (e : acI X h = 0) : ceC X h = (fst? (cet X h) X.length 0).isSome := by
  unfold ceC
  rw [e]
  simp only [bne_self_eq_false]
  cases fst? (cet X h) X.length 0 <;> rfl
theorem as_in {X : List O3} {h : V3} (e : acI X h = 0) : (fst? (fun j => (atV (ofA X h) j).eqB (oppW h)) (ofL X h).length 0).isSome = ceC X h := by
  rw [ceC_some e, Bool.eq_iff_iff, fst?_isSome, fst?_isSome]
  have hs := (chk_grp (leastN_zero.1 e).2).1
  constructor
  · rintro ⟨j, hj, ht⟩
    rw [ofA_at hj, V3.eqB_iff] at ht
    obtain ⟨o, ho, hr⟩ := (mem_ofL h hs _).1 (List.getElem_mem hj)
    obtain ⟨i, hi, rfl⟩ := List.getElem_of_mem ho
    refine ⟨i, hi, ?_⟩
    unfold cet
    rw [atO_get hi, hr, V3.eqB_iff]
    exact ht
  · rintro ⟨i, hi, ht⟩
    unfold cet at ht
    rw [V3.eqB_iff] at ht
    obtain ⟨j, hj, hg⟩ := List.getElem_of_mem ((mem_ofL h hs (oppW h)).2 ⟨_, atO_mem hi, ht⟩)
    exact ⟨j, hj, by rw [ofA_at hj, V3.eqB_iff]; exact hg⟩
theorem ceN_bd {X : List O3} {h : V3} (e : acI X h = 0) : ceN X h ≥ 0 ∧ ceN X h < 24 := by
  unfold ceN
  rw [e]
  simp only [bne_self_eq_false]
  cases hf : fst? (cet X h) X.length 0 with
  | none => exact ⟨Int.le_refl _, show (0 : Int) < 24 by decide⟩
  | some k =>
    have hk := fst?_some hf
    simp only
    rw [grp_phase e (by omega)]
    unfold phI
    exact ⟨Int.emod_nonneg _ (by decide), Int.emod_lt_of_pos _ (by decide)⟩
theorem ceN_no {X : List O3} {h : V3} (e : acI X h = 0) (hc : ceC X h = false) : ceN X h = 0 := by
  rw [ceC_some e] at hc
  unfold ceN
  rw [e]
  simp only [bne_self_eq_false]
  cases hf : fst? (cet X h) X.length 0 with
  | none => rfl
  | some k => rw [hf] at hc; cases hc
theorem as_sem (own : Bool) (X : List O3) (h : V3) : MemSem Try.prog 7 [.slice (some ⟨0, 0, some 0⟩) X.length 12, h.v] [.rows own true 12 X.length (opRow X)] (.bool true) [.rows own true 12 X.length (opRow X)] := by
  have r1 := asP own X.length X h
  simp only [lk_true, gd_true, ghT_ok (show alwB X h = true from rfl), opsOf_opRow] at r1
  have body0 : InBody ((Cow Try.prog).into 7 1) (asB Try.prog) := Or.inl ⟨Try.f7, asB Try.prog, Try.func7, asB_eq, fun _ hx => hx⟩
  refine body_mem (P := Try.prog) (f := 7) (m := [.rows own true 12 X.length (opRow X)]) Try.func7 asB_eq (by kernel_rfl) (seg_rule (C := Cow Try.prog) okow (f := 7) (B := 1) (k := 5) body0 r1 (e := .ret) (s' := stOf 179 [(4, .bool true)] [.rows own true 12 X.length (opRow X)]) ?_) (asQ own X.length X)
  by_cases e : acI X h = 0
  · have hin := fun k => bodyOf_in (C := Cow Try.prog) (f := 7) (B := 1) (k := k) Try.func7 asB_eq
    have hO := asO own X.length X h (ceN X h) (ceC X h)
    rw [lk_true, gd_true, oT_ok, gd_true, opsOf_opRow, e] at hO
    have hO' : segR ((Cog Try.prog).into 7 1) 60 3 (seqDrop 8 (asB Try.prog)) [3, 4, 9, 10, 18, 19] [.fix 0, .slot 3, .slot 18] (asZ own X.length X h (ceN X h) (ceC X h)) = some (asL own X.length X h (ceN X h) (ceC X h) (ofL X h).length (trn X h).length (ofA X h)) := hO
    have hlenL : (ofL X h).length ≤ 1000 := by
      have h1 := trn_le (h := h) e
      have h2 := cpct_len (sortK V3.key (trn X h))
      rw [sortK_len] at h2
      unfold ofL
      omega
    have hfin : CodeSem Try.prog 1 (seqDrop 12 (asB Try.prog)) (asY own X.length X (ceN X h) (ceC X h) (ceC X h)) .ret (stOf 179 [(4, .bool true)] [.rows own true 12 X.length (opRow X)]) := by
      cases hc : ceC X h with
      | true =>
        have r := asFt own X.length X (ceN X h)
        obtain ⟨b1, b2⟩ := ceN_bd e
        rw [decide_eq_true b1, decide_eq_true b2] at r
        exact end_rule (C := Cow Try.prog) okow (f := 7) (B := 1) (hin 12) r
      | false =>
        rw [ceN_no e hc]
        exact end_rule (C := Cow Try.prog) okow (f := 7) (B := 1) (hin 12) (asFf own X.length X)
    have hl2 := asL2 own X h (ceN X h) (ceC X h) (ofL X h).length (trn X h).length (ofA X h) hlenL (ofL X h).length 0 false (by omega)
    rw [Bool.false_or, as_in e] at hl2
    have h8 : CodeSem Try.prog 1 (seqDrop 8 (asB Try.prog)) (asZ own X.length X h (ceN X h) (ceC X h)) .ret (stOf 179 [(4, .bool true)] [.rows own true 12 X.length (opRow X)]) := by
      refine seg_rule (C := Cog Try.prog) okog (f := 7) (B := 1) (k := 3) (bodyOf_in (C := Cog Try.prog) (f := 7) (B := 1) (k := 8) Try.func7 asB_eq) hO' ?_
      rw [seqDrop_drop]
      exact stmt_rule asHas.2.2 (for_rule asFor.2 (end_rule (C := Cow Try.prog) okow (f := 7) (B := 1) asIn2.1 (asHd2 own X.length X h (ceN X h) (ceC X h) _ _ _)) hl2) hfin
    rw [e]
    cases hb : fst? (rst X h) X.length 0 with
    | some k =>
      have hk := fst?_some hb
      have w1 : whO X h = atO X (k : Int) := by unfold whO rsb rsO; rw [e, hb]; rfl
      have w2 : whE X h = 0 := by unfold whE rsb; rw [e, hb]; rfl
      have w3 : isb X h = true := by unfold isb rsb; rw [e, hb]; rfl
      rw [w1, w2, w3]
      refine seg_rule (C := Cow Try.prog) okow (f := 7) (B := 1) (k := 2) (hin 5) (asTt own X.length X h _ _ _) ?_
      rw [seqDrop_drop]
      exact stmt_rule asHas.2.1 (for_rule asFor.1 (end_rule (C := Cow Try.prog) okow (f := 7) (B := 1) asIn1.1 (asHd own X.length X h _ true _ _)) (asLt own X h _ _ e k (by omega) hk.2.2.1 (fun j hj => hk.2.2.2 j (Nat.zero_le _) hj) k 0 (by omega))) h8
    | none =>
      have hk := fst?_none hb
      have w2 : whE X h = 9 := by unfold whE rsb; rw [e, hb]; rfl
      have w3 : isb X h = false := by unfold isb rsb; rw [e, hb]; rfl
      rw [w2, w3]
      refine seg_rule (C := Cow Try.prog) okow (f := 7) (B := 1) (k := 2) (hin 5) (asTf own X.length X h _ _ _) ?_
      rw [seqDrop_drop]
      exact stmt_rule asHas.2.1 (for_rule asFor.1 (end_rule (C := Cow Try.prog) okow (f := 7) (B := 1) asIn1.1 (asHd own X.length X h _ false _ _)) (asLf own X h _ _ _ e (fun j hj => hk j (Nat.zero_le _) (by omega)) X.length 0 (by omega))) h8
  · have hb : (acI X h != 0) = true := by simpa using e
    have w1 : whO X h = O3.zero := by unfold whO; rw [hb]
    have w2 : whE X h = acI X h := by unfold whE; rw [hb]
    have w3 : isb X h = false := by unfold isb; rw [hb]
    have w4 : ceN X h = 0 := by unfold ceN; rw [hb]
    have w5 : ceC X h = false := by unfold ceC; rw [hb]
    rw [w1, w2, w3, w4, w5]
    have r := asEr own X.length X h (acI X h)
    simp only [hb, beq_self_eq_true] at r
    exact stmt_out asHas.1 (end_rule (C := Cow Try.prog) okow (f := 7) (B := 1) (stmt_in Try.func7 asB_eq) r) (by simp)
def as0 (h : V3) (e : Int) : St := stOf 179 [(0, .slice none 0 0), (3, .pointer (some ⟨0, 0, none⟩)), (4, .bool false), (5, .pointer (some ⟨1, 0, none⟩)), (6, vI e), (7, .bool false), (8, vI e), (9, vI 0), (10, .bool false), (11, vI e)] [.cells true 0 h.cells, .cells true 0 O3.zero.cells]
theorem asP0 (h : V3) : segR ((Cow Try.prog).into 7 0) 60 5 (asB Try.prog) [0, 3, 4, 5, 6, 7, 8, 9, 10, 11] [.slot 3, .slot 5] (enter Try.f7 [.slice none 0 0, h.v] []) = some (as0 h (leastN h.ixk 5)) := by kernel_rfl
theorem asR0 (h : V3) (e : Int) : roundR ((Cow Try.prog).into 7 0) 60 (stmt 5 (asB Try.prog)) [4] [4] [] [] (as0 h e) =
    (match e != 0 with
    | true => match e == e with
      | true => match e == e with
        | true => some (.ret, stOf 179 [(4, .bool true)] [])
        | false => some (.ret, stOf 179 [(4, .bool false)] [])
      | false => some (.ret, stOf 179 [(4, .bool false)] [])
    | false => some (.normal, stOf 179 [(4, .bool false)] [])) := by kernel_rfl
theorem asQ0 : (retA Try.prog Try.f7 (.ret, stOf 179 [(4, .bool true)] [])).res = some (.bool true, []) := by kernel_rfl
theorem as_nil (h : V3) : MemSem Try.prog 7 [.slice none 0 0, h.v] [] (.bool true) [] := by
  have r := asR0 h (leastN h.ixk 5)
  simp only [z5, beq_self_eq_true] at r
  have body0 : InBody ((Cow Try.prog).into 7 0) (asB Try.prog) := Or.inl ⟨Try.f7, asB Try.prog, Try.func7, asB_eq, fun _ hx => hx⟩
  exact body_mem (P := Try.prog) (f := 7) (m := []) Try.func7 asB_eq (by kernel_rfl) (seg_rule (C := Cow Try.prog) okow (f := 7) (B := 0) (k := 5) body0 (asP0 h) (stmt_out asHas.1 (end_rule (C := Cow Try.prog) okow (f := 7) (B := 0) (stmt_in Try.func7 asB_eq) r) (by simp))) asQ0
theorem absentSees_nil (W : World) (h : V3) : Calls Try.prog 7 #[.slice none 0 0, h.v] W fun e W' => e = .returned (.bool true) ∧ Below W.heap.size W W' :=
  ((MemSem.plain (as_nil h) (fun x hx => by
    simp only [List.mem_cons, List.not_mem_nil, or_false] at hx
    rcases hx with rfl | rfl <;> rfl) rfl).2 W).mono fun _ _ hq => ⟨hq.1, hq.2.1⟩
theorem absentSees_walk {W : World} {a : Addr} {xs : List O3} {cap : Nat} (ha : OpsAt W a xs) (hc : xs.length ≤ cap) (h : V3) : Calls Try.prog 7 #[.slice (some a) xs.length cap, h.v] W fun e W' => e = .returned (.bool true) ∧ Below W.heap.size W W' :=
  (as_sem false xs h).calls ha hc (more := [h.v]) (more' := [h.v]) ⟨(R_plain (v := h.v) rfl).2 rfl, trivial⟩
end Go.Proofs.Ytjpfnfckpgilgaa
