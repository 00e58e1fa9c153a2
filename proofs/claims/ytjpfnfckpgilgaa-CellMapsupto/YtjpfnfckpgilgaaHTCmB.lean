/-
  facetlaw11.CellMaps: the proof. Nothing here is trusted.
-/
import Derived.Test.YtjpfnfckpgilgaaHTCmA
namespace Go.Proofs.Ytjpfnfckpgilgaa
open Go Vx Go.RowKit

theorem G6.eqB_is {m n : G6} (h : m.eqB n = true) : m = n := by
  unfold G6.eqB at h
  simp only [Bool.and_eq_true, beq_iff_eq, and_true] at h
  exact G6.ext' h
theorem cols_bd {r : M3} (h : r.Bd 1000) : r.c1.Bd 1000 ∧ r.c2.Bd 1000 ∧ r.c3.Bd 1000 := by
  unfold M3.Bd at h
  unfold M3.c1 M3.c2 M3.c3 V3.Bd
  simp only
  omega
theorem turn_keep {g : G6} {r : M3} (hb : g.Bd) (hr : r.ok = true) (h : (g.turn r).w.eqB g = true) : g.turn r = g := by
  obtain ⟨c1, c2, c3⟩ := cols_bd (M3.ok_iff.1 hr)
  have w : (g.turn r).w = g.turn r := by
    unfold G6.w G6.turn
    simp only
    rw [W_in (by have := dot_bound hb c1 c1; omega), W_in (by have := dot_bound hb c2 c2; omega), W_in (by have := dot_bound hb c3 c3; omega), W_in (by have := dot_bound hb c2 c3; omega), W_in (by have := dot_bound hb c1 c3; omega), W_in (by have := dot_bound hb c1 c2; omega)]
  rw [w] at h
  exact G6.eqB_is h
theorem few_bd {u : V3} (h : u.fewB = true) : u.Bd 40 := by
  unfold V3.fewB V3.l at h
  rw [inB_iff] at h
  simp only [List.mem_cons, List.not_mem_nil, or_false, forall_eq_or_imp, forall_eq] at h
  exact h
theorem few_ok {u : V3} (h : u.fewB = true) : u.ok = true ∧ u.ckv = 0 := by
  have hb := few_bd h
  refine ⟨V3.ok_iff.2 (hb.mono (by omega)), ?_⟩
  rcases u.ckv_cases with ⟨h1, _⟩ | ⟨_, h2⟩
  · exact h1
  · have := V3.in1_iff.2 (hb.mono (show (40 : Int) ≤ 1000 by omega))
    rw [h2] at this; cases this
theorem in1_ckv {u : V3} (h : u.in1 = true) : u.ckv = 0 := by
  rcases u.ckv_cases with ⟨h1, _⟩ | ⟨_, h2⟩
  · exact h1
  · rw [h2] at h; cases h
theorem dotF_of {g : G6} {u v : V3} (hg : g.mck = 0) (hu : u.ckv = 0) (hv : v.ckv = 0) : g.dotE u v = 0 ∧ g.dotF u v = g.dot u v := by
  have e : g.dotE u v = 0 := by unfold G6.dotE; exact leastN3_zero.2 ⟨hg, hu, hv⟩
  refine ⟨e, ?_⟩
  unfold G6.dotF
  rw [e]; rfl
set_option maxRecDepth 100000 in
theorem cmIn : InBody ((Cmb Try.prog).into 3 1) (forHead (stmt 8 (cmB Try.prog))) ∧ InBody ((Cmb Try.prog).into 3 1) (forBody (stmt 8 (cmB Try.prog))) := for_in (C := Cmb Try.prog) (f := 3) (B := 1) (id := 0) (k := 8) (fn := Try.f3) (b := cmB Try.prog) Try.func3 cmB_eq cmFor
theorem kp_keeps {X : List O3} {g : G6} (e : kpe X g = 0) (hk : kpI X g = true) {i : Nat} (hi : i < X.length) : g.turn (atO X (i : Int)).r = g := by
  obtain ⟨e1, e2⟩ := leastN_zero.1 e
  have hb := (G6.mck_zero e1).1
  have hm : atO X (i : Int) ∈ X := by
    unfold atO
    rw [Int.toNat_natCast, List.getElem?_eq_getElem hi]
    exact List.getElem_mem hi
  have hr := (O3.ck_zero.1 ((chk_grp e2).2.1.ck _ hm)).2.1
  unfold kpI at hk
  rw [e] at hk
  simp only [bne_self_eq_false] at hk
  cases hf : fst? (kpt X g) X.length 0 with
  | some k => rw [hf] at hk; cases hk
  | none =>
    have := fst?_none hf i (Nat.zero_le _) (by omega)
    unfold kpt at this
    exact turn_keep hb hr (by simpa using this)
theorem cmLoop (own : Bool) (X : List O3) (g : G6) (u v : V3) (e : kpe X g = 0) (hu : u.fewB = true) (hv : v.fewB = true) : ∀ (c i : Nat) (a : Bool), i + c = X.length → (kpI X g = true → a = true) → ∃ a', LoopSem Try.prog 1 (forBody (stmt 8 (cmB Try.prog))) (cmH own X.length X g u v (kpI X g) (g.dotF u v) (g.dotF u u) a (i : Int)) (.exit 0) (cmZ own X.length X (kpI X g) a') ∧ (kpI X g = true → a' = true) := by
  obtain ⟨e1, e2⟩ := leastN_zero.1 e
  have hlen := (chk_grp e2).2.2
  intro c
  induction c with
  | zero =>
    intro i a hi ha
    have hr := cmR own X.length X g u v (kpI X g) (g.dotF u v) (g.dotF u u) a i
    rw [show decide ((i : Int) < (X.length : Int)) = false by simp; omega] at hr
    exact ⟨a, loop_leave (C := Cmb Try.prog) okmb (f := 3) (B := 1) cmIn.2 hr (by simp), ha⟩
  | succ c ih =>
    intro i a hi ha
    have hi' : i < X.length := by omega
    have hm : atO X (i : Int) ∈ X := by
      unfold atO
      rw [Int.toNat_natCast, List.getElem?_eq_getElem hi']
      exact List.getElem_mem hi'
    have hr0 := (O3.ck_zero.1 ((chk_grp e2).2.1.ck _ hm)).2.1
    have hr := cmR own X.length X g u v (kpI X g) (g.dotF u v) (g.dotF u u) a i
    have hx : (atO X (i : Int)).r.appF u = (atO X (i : Int)).r.app u := by unfold M3.appF; rw [hr0, (few_ok hu).1]; rfl
    have hy : (atO X (i : Int)).r.appF v = (atO X (i : Int)).r.app v := by unfold M3.appF; rw [hr0, (few_ok hv).1]; rfl
    rw [show decide ((i : Int) < (X.length : Int)) = true by simp; omega, bd_ok' hi', show W ((i : Int) + 1) = ((i + 1 : Nat) : Int) by rw [W_in (by omega)]; simp, hr0, (few_ok hu).1, (few_ok hv).1, hx, hy] at hr
    have next : ∀ b, (kpI X g = true → b = true) → roundR ((Cmb Try.prog).into 3 1) 60 (forBody (stmt 8 (cmB Try.prog))) [4, 6, 7, 8, 9, 11, 13, 15, 65, 66, 67] [8, 9, 15] [.fix 0, .slot 4, .slot 6, .slot 7] [.fix 0] (cmH own X.length X g u v (kpI X g) (g.dotF u v) (g.dotF u u) a (i : Int)) = some (.normal, cmH own X.length X g u v (kpI X g) (g.dotF u v) (g.dotF u u) b ((i + 1 : Nat) : Int)) → ∃ a', LoopSem Try.prog 1 (forBody (stmt 8 (cmB Try.prog))) (cmH own X.length X g u v (kpI X g) (g.dotF u v) (g.dotF u u) a (i : Int)) (.exit 0) (cmZ own X.length X (kpI X g) a') ∧ (kpI X g = true → a' = true) := by
      intro b hb hn
      obtain ⟨a', h1, h2⟩ := ih (i + 1) b (by omega) hb
      exact ⟨a', loop_next (C := Cmb Try.prog) okmb (f := 3) (B := 1) cmIn.2 hn (StLike.refl _) h1, h2⟩
    cases hx1 : ((atO X (i : Int)).r.app u).in1 with
    | false =>
      rw [hx1] at hr
      exact next a ha hr
    | true =>
      cases hy1 : ((atO X (i : Int)).r.app v).in1 with
      | false =>
        rw [hx1, hy1] at hr
        exact next a ha hr
      | true =>
        obtain ⟨d1, d2⟩ := dotF_of e1 (in1_ckv hx1) (in1_ckv hy1)
        obtain ⟨d3, d4⟩ := dotF_of e1 (in1_ckv hx1) (in1_ckv hx1)
        obtain ⟨d5, d6⟩ := dotF_of e1 (few_ok hu).2 (few_ok hv).2
        obtain ⟨d7, d8⟩ := dotF_of e1 (few_ok hu).2 (few_ok hu).2
        rw [hx1, hy1, d1, d3] at hr
        cases a with
        | false => exact next false ha hr
        | true =>
          cases hq : g.dotF ((atO X (i : Int)).r.app u) ((atO X (i : Int)).r.app v) == g.dotF u v with
          | true =>
            rw [hq] at hr
            refine next _ (fun hk => ?_) hr
            rw [d4, d8, ← dot_turn, kp_keeps e hk hi']
            simp
          | false =>
            rw [hq] at hr
            refine next false (fun hk => ?_) hr
            rw [d2, d6, ← dot_turn, kp_keeps e hk hi'] at hq
            simp at hq
theorem cm_sem (own : Bool) (X : List O3) (g : G6) (u v : V3) (hn : X.length ≤ 1048576) : MemSem Try.prog 3 [g.v, .slice (some ⟨0, 0, some 0⟩) X.length 12, u.v, v.v] [.rows own true 12 X.length (opRow X)] (.bool true) [.rows own true 12 X.length (opRow X)] := by
  by_cases h0 : X = []
  · subst h0
    have r1 := cmPz own 0 [] g u v
    rw [lk_true, gd_true, show twT 0 (opRow []) = true by kernel_rfl, gd_true] at r1
    have r1' : segR ((Cmt Try.prog [true, true]).into 3 1) 60 3 (cmB Try.prog) [1, 4, 6, 7, 8, 9, 10] [.fix 0, .slot 4, .slot 6, .slot 7] (enter Try.f3 [g.v, .slice (some ⟨0, 0, some 0⟩) 0 12, u.v, v.v] [.rows own true 12 0 (opRow [])]) = some (cm3 own 0 [] g u v false (leastN g.mck 5)) := r1
    have r2 := cm3r own 0 [] g u v false (leastN g.mck 5)
    rw [g5] at r2
    have body0 : InBody ((Cmt Try.prog [true, true]).into 3 1) (cmB Try.prog) := Or.inl ⟨Try.f3, cmB Try.prog, Try.func3, cmB_eq, fun _ hx => hx⟩
    exact body_mem (P := Try.prog) (f := 3) (m := [.rows own true 12 0 (opRow [])]) Try.func3 cmB_eq (by kernel_rfl) (seg_rule (C := Cmt Try.prog [true, true]) (okmt _) (f := 3) (B := 1) (k := 3) body0 r1' (stmt_out cmHas.1 (end_rule' (C := Cmb Try.prog) okmb (f := 3) (B := 1) (stmt_in Try.func3 cmB_eq) r2) (by simp))) (cmRet own 0 [])
  · have r1 := cmP own X.length X g u v
    have hb : Nat.beq X.length 0 = false := by
      cases X with
      | nil => exact absurd rfl h0
      | cons x l => rfl
    rw [lk_true, gd_true, show twT X.length (opRow X) = true by unfold twT; rw [Nat.beq_refl, okOps_opRow]; simp; omega, gd_true, hb, opsOf_opRow, oT_ok, opsOf_opRow] at r1
    have r1' : segR ((Cmt Try.prog [true, false]).into 3 1) 60 3 (cmB Try.prog) [1, 4, 6, 7, 8, 9, 10] [.fix 0, .slot 4, .slot 6, .slot 7] (enter Try.f3 [g.v, .slice (some ⟨0, 0, some 0⟩) X.length 12, u.v, v.v] [.rows own true 12 X.length (opRow X)]) = some (cm3 own X.length X g u v (kpI X g) (kpe X g)) := r1
    have body0 : InBody ((Cmt Try.prog [true, false]).into 3 1) (cmB Try.prog) := Or.inl ⟨Try.f3, cmB Try.prog, Try.func3, cmB_eq, fun _ hx => hx⟩
    have hin := fun k => bodyOf_in (C := Cmb Try.prog) (f := 3) (B := 1) (k := k) Try.func3 cmB_eq
    refine body_mem (P := Try.prog) (f := 3) (m := [.rows own true 12 X.length (opRow X)]) Try.func3 cmB_eq (by kernel_rfl) (seg_rule (C := Cmt Try.prog [true, false]) (okmt _) (f := 3) (B := 1) (k := 3) body0 r1' (e := .ret) (s' := cmQ own X.length X true) ?_) (cmRet own X.length X)
    have r2 := cm3r own X.length X g u v (kpI X g) (kpe X g)
    have out : roundR ((Cmb Try.prog).into 3 1) 60 (stmt 3 (cmB Try.prog)) [1, 4, 6, 7, 8, 9, 10] [8] [.fix 0, .slot 4, .slot 6, .slot 7] [.fix 0] (cm3 own X.length X g u v (kpI X g) (kpe X g)) = some (.ret, cmQ own X.length X true) → CodeSem Try.prog 1 (seqDrop 3 (cmB Try.prog)) (cm3 own X.length X g u v (kpI X g) (kpe X g)) .ret (cmQ own X.length X true) := fun r => stmt_out cmHas.1 (end_rule' (C := Cmb Try.prog) okmb (f := 3) (B := 1) (stmt_in Try.func3 cmB_eq) r) (by simp)
    by_cases e : kpe X g = 0
    rotate_left
    · rw [show (kpe X g != 0) = true by simpa using e] at r2
      exact out r2
    cases hu : u.fewB with
    | false =>
      rw [e, hu] at r2
      rw [e] at out ⊢
      exact out r2
    | true =>
      cases hv : v.fewB with
      | false =>
        rw [e, hu, hv] at r2
        rw [e] at out ⊢
        exact out r2
      | true =>
        rw [e, hu, hv] at r2
        rw [e]
        have e1 := (leastN_zero.1 e).1
        have r4 := cm4 own X.length X g u v (kpI X g) 0
        rw [(dotF_of e1 (few_ok hu).2 (few_ok hv).2).1, (dotF_of e1 (few_ok hu).2 (few_ok hu).2).1] at r4
        obtain ⟨a', l1, l2⟩ := cmLoop own X g u v e hu hv X.length 0 true (by omega) (fun _ => rfl)
        have hend : CodeSem Try.prog 1 (seqDrop 9 (cmB Try.prog)) (cmZ own X.length X (kpI X g) a') .ret (cmQ own X.length X true) := by
          have re := cmEnd own X.length X (kpI X g) a'
          cases a' with
          | true => exact end_rule (C := Cmb Try.prog) okmb (f := 3) (B := 1) (hin 9) re
          | false =>
            have hk : kpI X g = false := by
              cases hk : kpI X g with
              | false => rfl
              | true => exact absurd (l2 hk) (by simp)
            rw [hk] at re ⊢
            exact end_rule (C := Cmb Try.prog) okmb (f := 3) (B := 1) (hin 9) re
        refine stmt_rule cmHas.1 (end_rule' (C := Cmb Try.prog) okmb (f := 3) (B := 1) (stmt_in Try.func3 cmB_eq) r2) ?_
        refine seg_rule (C := Cmb Try.prog) okmb (f := 3) (B := 1) (k := 4) (hin 4) r4 ?_
        rw [seqDrop_drop]
        exact stmt_rule cmHas.2 (for_rule cmFor (end_rule (C := Cmb Try.prog) okmb (f := 3) (B := 1) cmIn.1 (cmHd own X.length X g u v (kpI X g) _ _)) l1) hend
theorem cm_nil (g : G6) (u v : V3) : MemSem Try.prog 3 [g.v, .slice none 0 0, u.v, v.v] [] (.bool true) [] := by
  have r := cm3r0 g u v (leastN g.mck 5)
  rw [g5] at r
  have body0 : InBody ((Cmt Try.prog []).into 3 0) (cmB Try.prog) := Or.inl ⟨Try.f3, cmB Try.prog, Try.func3, cmB_eq, fun _ hx => hx⟩
  exact body_mem (P := Try.prog) (f := 3) (m := []) Try.func3 cmB_eq (by kernel_rfl) (seg_rule (C := Cmt Try.prog []) (okmt _) (f := 3) (B := 0) (k := 3) body0 (cmP0 g u v) (stmt_out cmHas.1 (end_rule' (C := Cmb Try.prog) okmb (f := 3) (B := 0) (stmt_in Try.func3 cmB_eq) r) (by simp))) cmRet0
theorem calls_at1 {W : World} {a : Addr} {xs : List O3} {cap : Nat} {f : FuncId} {m' : Mem} {x : Value} {more : List Value} (h : MemSem Try.prog f (x :: .slice (some ⟨0, 0, some 0⟩) xs.length 12 :: more) [.rows false true 12 xs.length (opRow xs)] (.bool true) m') (ha : OpsAt W a xs) (hc : xs.length ≤ cap) (hx : Vx.plain x = true) (hm : RL (R (oneRen (opsPlace a xs.length))) more more) :
    Calls Try.prog f (x :: .slice (some a) xs.length cap :: more).toArray W fun e W' => e = .returned (.bool true) ∧ Below W.heap.size W W' := by
  refine (h.2 W _ _ (x :: .slice (some a) xs.length cap :: more) W ⟨(R_plain hx).2 rfl, ops_arg ha.1 hc, hm⟩ (ops_rel ha)).mono ?_
  rintro e w' ⟨v', r', rfl, h1, h2, h3⟩
  rw [(R_plain (v := .bool true) rfl).1 h1]
  exact ⟨rfl, ⟨h2.os, h2.tape, h2.output, h2.size, fun k hk => h2.kept k hk⟩⟩
theorem cellMaps_nil (W : World) (g : G6) (u v : V3) : Calls Try.prog 3 #[g.v, .slice none 0 0, u.v, v.v] W fun e W' => e = .returned (.bool true) ∧ Below W.heap.size W W' :=
  ((MemSem.plain (cm_nil g u v) (fun x hx => by
    simp only [List.mem_cons, List.not_mem_nil, or_false] at hx
    rcases hx with rfl | rfl | rfl | rfl <;> rfl) rfl).2 W).mono fun _ _ hq => ⟨hq.1, hq.2.1⟩
theorem cellMaps_walk {W : World} {a : Addr} {xs : List O3} {cap : Nat} (hn : xs.length ≤ 1048576) (ha : OpsAt W a xs) (hc : xs.length ≤ cap) (g : G6) (u v : V3) : Calls Try.prog 3 #[g.v, .slice (some a) xs.length cap, u.v, v.v] W fun e W' => e = .returned (.bool true) ∧ Below W.heap.size W W' :=
  calls_at1 (cm_sem false xs g u v hn) ha hc (x := g.v) (more := [u.v, v.v]) rfl ⟨(R_plain (v := u.v) rfl).2 rfl, (R_plain (v := v.v) rfl).2 rfl, trivial⟩
end Go.Proofs.Ytjpfnfckpgilgaa
