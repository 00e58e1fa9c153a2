/-
  facetlaw14.AbsentSorts: its loop. Nothing here is trusted.
-/
import Derived.Test.YtjpfnfckpgilgaaHTAo1
namespace Go.Proofs.Ytjpfnfckpgilgaa
open Go Vx Go.RowKit
theorem drop_cons {M : List V3} {j : Nat} {v : V3} {R : List V3} (h : M.drop j = v :: R) : j < M.length ∧ atV M j = v ∧ M.drop (j + 1) = R := by
  have hj : j < M.length := by
    rcases Nat.lt_or_ge j M.length with h1 | h1
    · exact h1
    · rw [List.drop_eq_nil_of_le h1] at h; cases h
  rw [List.drop_eq_getElem_cons hj] at h
  simp only [List.cons.injEq] at h
  exact ⟨hj, by rw [atV_get hj]; exact h.1, h.2⟩
theorem isb_rsb {X : List O3} {v : V3} (e : acI X v = 0) : isb X v = rsb X v := by unfold isb; rw [e]; rfl
def aoH00 (own own2 : Bool) (n q : Nat) (xs : List O3) (Y : List V3)  (c : Int) : St := stOf 111 [(0, .slice (some ⟨0, 0, some 0⟩) n 12), (4, .bool false), (5, .slice none 0 0), (6, .slice none 0 0), (11, vI 0), (12, vI 0), (58, .slice (some ⟨1, 0, some 0⟩) q 3), (59, vI q), (60, vI c)] [.rows own true 12 n (opRow xs), .rows own2 true 3 q (vcRow Y), .no, .no]
theorem aoHd00 (own own2 : Bool) (n q : Nat) (xs : List O3) (Y : List V3)  : roundR ((Cow Try.prog).into 5 2) 60 (forHead (stmt 8 (aoB Try.prog))) [0, 4, 5, 6, 11, 12, 58, 59, 60] [0, 4, 5, 6, 11, 12, 58, 59, 60] [.fix 0, .fix 1, .slot 5, .slot 6] [.fix 0, .fix 1, .slot 5, .slot 6] (aoL00 own own2 n q xs Y ) = some (.normal, aoH00 own own2 n q xs Y  0) := by kernel_rfl
theorem aoR00 (own own2 : Bool) (n q : Nat) (xs : List O3) (Y : List V3)  (c : Nat) : roundR ((Cow Try.prog).into 5 2) 60 (forBody (stmt 8 (aoB Try.prog))) [0, 4, 5, 6, 11, 12, 58, 59, 60] [4] [.fix 0, .fix 1, .slot 5, .slot 6] [.fix 0, .fix 1] (aoH00 own own2 n q xs Y  (c : Int)) =
    (match decide ((c : Int) < (q : Int)) with
    | true => gd (boundsI (c : Int) q) (gd (lk n) (gd (ghT alwB n (opRow xs) (atV Y c)) (match acI (opsOf n (opRow xs)) (atV Y c) != 0 with
      | true => some (.ret, aoO own own2 n q xs Y false)
      | false => match isb (opsOf n (opRow xs)) (atV Y c) with
        | true => (match !isb (opsOf n (opRow xs)) (atV Y c) with
        | true => some (.ret, aoO own own2 n q xs Y false)
        | false => some (.ret, aoO own own2 n q xs Y false))
        | false => (match !isb (opsOf n (opRow xs)) (atV Y c) with
        | true => some (.ret, aoO own own2 n q xs Y false)
        | false => some (.ret, aoO own own2 n q xs Y false)))))
    | false => some (.exit 0, aoO own own2 n q xs Y false)) := by kernel_rfl
def aoH01 (own own2 : Bool) (n q : Nat) (xs : List O3) (Y : List V3) (l : Nat) (M : List V3) (j : Int) (c : Int) : St := stOf 111 [(0, .slice (some ⟨0, 0, some 0⟩) n 12), (4, .bool false), (5, .slice none 0 0), (6, .slice (some ⟨3, 0, some 0⟩) l 3), (11, vI 0), (12, vI j), (58, .slice (some ⟨1, 0, some 0⟩) q 3), (59, vI q), (60, vI c)] [.rows own true 12 n (opRow xs), .rows own2 true 3 q (vcRow Y), .no, .rows true true 3 l (vcRow M)]
theorem aoHd01 (own own2 : Bool) (n q : Nat) (xs : List O3) (Y : List V3) (l : Nat) (M : List V3) : roundR ((Cow Try.prog).into 5 2) 60 (forHead (stmt 8 (aoB Try.prog))) [0, 4, 5, 6, 11, 12, 58, 59, 60] [0, 4, 5, 6, 11, 12, 58, 59, 60] [.fix 0, .fix 1, .slot 5, .slot 6] [.fix 0, .fix 1, .slot 5, .slot 6] (aoL01 own own2 n q xs Y l M) = some (.normal, aoH01 own own2 n q xs Y l M 0 0) := by kernel_rfl
theorem aoR01 (own own2 : Bool) (n q : Nat) (xs : List O3) (Y : List V3) (l : Nat) (M : List V3) (j : Nat) (c : Nat) : roundR ((Cow Try.prog).into 5 2) 60 (forBody (stmt 8 (aoB Try.prog))) [0, 4, 5, 6, 11, 12, 58, 59, 60] [4] [.fix 0, .fix 1, .slot 5, .slot 6] [.fix 0, .fix 1] (aoH01 own own2 n q xs Y l M (j : Int) (c : Int)) =
    (match decide ((c : Int) < (q : Int)) with
    | true => gd (boundsI (c : Int) q) (gd (lk n) (gd (ghT alwB n (opRow xs) (atV Y c)) (match acI (opsOf n (opRow xs)) (atV Y c) != 0 with
      | true => some (.ret, aoO own own2 n q xs Y false)
      | false => match isb (opsOf n (opRow xs)) (atV Y c) with
        | true => (match decide ((j : Int) < (l : Int)) with
        | true => gd (boundsI (j : Int) l) (match (atV M j).eqB (atV Y c) with
          | true => some (.normal, aoH01 own own2 n q xs Y l M (W ((j : Int) + 1)) (W ((c : Int) + 1)))
          | false => (match !isb (opsOf n (opRow xs)) (atV Y c) with
        | true => some (.ret, aoO own own2 n q xs Y false)
        | false => some (.ret, aoO own own2 n q xs Y false)))
        | false => (match !isb (opsOf n (opRow xs)) (atV Y c) with
        | true => some (.ret, aoO own own2 n q xs Y false)
        | false => some (.ret, aoO own own2 n q xs Y false)))
        | false => (match !isb (opsOf n (opRow xs)) (atV Y c) with
        | true => some (.ret, aoO own own2 n q xs Y false)
        | false => some (.ret, aoO own own2 n q xs Y false)))))
    | false => some (.exit 0, aoO own own2 n q xs Y false)) := by kernel_rfl
def aoH10 (own own2 : Bool) (n q : Nat) (xs : List O3) (Y : List V3) (k : Nat) (P : List V3) (i : Int) (c : Int) : St := stOf 111 [(0, .slice (some ⟨0, 0, some 0⟩) n 12), (4, .bool false), (5, .slice (some ⟨2, 0, some 0⟩) k 3), (6, .slice none 0 0), (11, vI i), (12, vI 0), (58, .slice (some ⟨1, 0, some 0⟩) q 3), (59, vI q), (60, vI c)] [.rows own true 12 n (opRow xs), .rows own2 true 3 q (vcRow Y), .rows true true 3 k (vcRow P), .no]
theorem aoHd10 (own own2 : Bool) (n q : Nat) (xs : List O3) (Y : List V3) (k : Nat) (P : List V3) : roundR ((Cow Try.prog).into 5 2) 60 (forHead (stmt 8 (aoB Try.prog))) [0, 4, 5, 6, 11, 12, 58, 59, 60] [0, 4, 5, 6, 11, 12, 58, 59, 60] [.fix 0, .fix 1, .slot 5, .slot 6] [.fix 0, .fix 1, .slot 5, .slot 6] (aoL10 own own2 n q xs Y k P) = some (.normal, aoH10 own own2 n q xs Y k P 0 0) := by kernel_rfl
theorem aoR10 (own own2 : Bool) (n q : Nat) (xs : List O3) (Y : List V3) (k : Nat) (P : List V3) (i : Nat) (c : Nat) : roundR ((Cow Try.prog).into 5 2) 60 (forBody (stmt 8 (aoB Try.prog))) [0, 4, 5, 6, 11, 12, 58, 59, 60] [4] [.fix 0, .fix 1, .slot 5, .slot 6] [.fix 0, .fix 1] (aoH10 own own2 n q xs Y k P (i : Int) (c : Int)) =
    (match decide ((c : Int) < (q : Int)) with
    | true => gd (boundsI (c : Int) q) (gd (lk n) (gd (ghT alwB n (opRow xs) (atV Y c)) (match acI (opsOf n (opRow xs)) (atV Y c) != 0 with
      | true => some (.ret, aoO own own2 n q xs Y false)
      | false => match isb (opsOf n (opRow xs)) (atV Y c) with
        | true => (match !isb (opsOf n (opRow xs)) (atV Y c) with
        | true => (match decide ((i : Int) < (k : Int)) with
        | true => gd (boundsI (i : Int) k) (match (atV P i).eqB (atV Y c) with
          | true => some (.normal, aoH10 own own2 n q xs Y k P (W ((i : Int) + 1)) (W ((c : Int) + 1)))
          | false => some (.ret, aoO own own2 n q xs Y false))
        | false => some (.ret, aoO own own2 n q xs Y false))
        | false => some (.ret, aoO own own2 n q xs Y false))
        | false => (match !isb (opsOf n (opRow xs)) (atV Y c) with
        | true => (match decide ((i : Int) < (k : Int)) with
        | true => gd (boundsI (i : Int) k) (match (atV P i).eqB (atV Y c) with
          | true => some (.normal, aoH10 own own2 n q xs Y k P (W ((i : Int) + 1)) (W ((c : Int) + 1)))
          | false => some (.ret, aoO own own2 n q xs Y false))
        | false => some (.ret, aoO own own2 n q xs Y false))
        | false => some (.ret, aoO own own2 n q xs Y false)))))
    | false => some (.exit 0, aoO own own2 n q xs Y false)) := by kernel_rfl
def aoH11 (own own2 : Bool) (n q : Nat) (xs : List O3) (Y : List V3) (k : Nat) (P : List V3) (l : Nat) (M : List V3) (i : Int) (j : Int) (c : Int) : St := stOf 111 [(0, .slice (some ⟨0, 0, some 0⟩) n 12), (4, .bool false), (5, .slice (some ⟨2, 0, some 0⟩) k 3), (6, .slice (some ⟨3, 0, some 0⟩) l 3), (11, vI i), (12, vI j), (58, .slice (some ⟨1, 0, some 0⟩) q 3), (59, vI q), (60, vI c)] [.rows own true 12 n (opRow xs), .rows own2 true 3 q (vcRow Y), .rows true true 3 k (vcRow P), .rows true true 3 l (vcRow M)]
theorem aoHd11 (own own2 : Bool) (n q : Nat) (xs : List O3) (Y : List V3) (k : Nat) (P : List V3) (l : Nat) (M : List V3) : roundR ((Cow Try.prog).into 5 2) 60 (forHead (stmt 8 (aoB Try.prog))) [0, 4, 5, 6, 11, 12, 58, 59, 60] [0, 4, 5, 6, 11, 12, 58, 59, 60] [.fix 0, .fix 1, .slot 5, .slot 6] [.fix 0, .fix 1, .slot 5, .slot 6] (aoL11 own own2 n q xs Y k P l M) = some (.normal, aoH11 own own2 n q xs Y k P l M 0 0 0) := by kernel_rfl
theorem aoR11 (own own2 : Bool) (n q : Nat) (xs : List O3) (Y : List V3) (k : Nat) (P : List V3) (l : Nat) (M : List V3) (i : Nat) (j : Nat) (c : Nat) : roundR ((Cow Try.prog).into 5 2) 60 (forBody (stmt 8 (aoB Try.prog))) [0, 4, 5, 6, 11, 12, 58, 59, 60] [4] [.fix 0, .fix 1, .slot 5, .slot 6] [.fix 0, .fix 1] (aoH11 own own2 n q xs Y k P l M (i : Int) (j : Int) (c : Int)) =
    (match decide ((c : Int) < (q : Int)) with
    | true => gd (boundsI (c : Int) q) (gd (lk n) (gd (ghT alwB n (opRow xs) (atV Y c)) (match acI (opsOf n (opRow xs)) (atV Y c) != 0 with
      | true => some (.ret, aoO own own2 n q xs Y false)
      | false => match isb (opsOf n (opRow xs)) (atV Y c) with
        | true => (match decide ((j : Int) < (l : Int)) with
        | true => gd (boundsI (j : Int) l) (match (atV M j).eqB (atV Y c) with
          | true => some (.normal, aoH11 own own2 n q xs Y k P l M (i : Int) (W ((j : Int) + 1)) (W ((c : Int) + 1)))
          | false => (match !isb (opsOf n (opRow xs)) (atV Y c) with
        | true => (match decide ((i : Int) < (k : Int)) with
        | true => gd (boundsI (i : Int) k) (match (atV P i).eqB (atV Y c) with
          | true => some (.normal, aoH11 own own2 n q xs Y k P l M (W ((i : Int) + 1)) (j : Int) (W ((c : Int) + 1)))
          | false => some (.ret, aoO own own2 n q xs Y false))
        | false => some (.ret, aoO own own2 n q xs Y false))
        | false => some (.ret, aoO own own2 n q xs Y false)))
        | false => (match !isb (opsOf n (opRow xs)) (atV Y c) with
        | true => (match decide ((i : Int) < (k : Int)) with
        | true => gd (boundsI (i : Int) k) (match (atV P i).eqB (atV Y c) with
          | true => some (.normal, aoH11 own own2 n q xs Y k P l M (W ((i : Int) + 1)) (j : Int) (W ((c : Int) + 1)))
          | false => some (.ret, aoO own own2 n q xs Y false))
        | false => some (.ret, aoO own own2 n q xs Y false))
        | false => some (.ret, aoO own own2 n q xs Y false)))
        | false => (match !isb (opsOf n (opRow xs)) (atV Y c) with
        | true => (match decide ((i : Int) < (k : Int)) with
        | true => gd (boundsI (i : Int) k) (match (atV P i).eqB (atV Y c) with
          | true => some (.normal, aoH11 own own2 n q xs Y k P l M (W ((i : Int) + 1)) (j : Int) (W ((c : Int) + 1)))
          | false => some (.ret, aoO own own2 n q xs Y false))
        | false => some (.ret, aoO own own2 n q xs Y false))
        | false => some (.ret, aoO own own2 n q xs Y false)))))
    | false => some (.exit 0, aoO own own2 n q xs Y false)) := by kernel_rfl
theorem aoD (own own2 : Bool) (n q : Nat) (xs : List O3) (Y : List V3) : roundR ((Cow Try.prog).into 5 2) 60 (seqDrop 9 (aoB Try.prog)) [4] [4] [.fix 0, .fix 1] [.fix 0, .fix 1] (aoO own own2 n q xs Y false) = some (.ret, aoO own own2 n q xs Y true) := by kernel_rfl
set_option maxRecDepth 100000 in
theorem aoIn : InBody ((Cow Try.prog).into 5 2) (forHead (stmt 8 (aoB Try.prog))) ∧ InBody ((Cow Try.prog).into 5 2) (forBody (stmt 8 (aoB Try.prog))) := for_in (C := Cow Try.prog) (f := 5) (B := 2) (id := 0) (k := 8) (fn := Try.f5) (b := aoB Try.prog) Try.func5 aoB_eq aoFor
theorem aoLp00 (own own2 : Bool) (X : List O3) (Y : List V3)  (e2 : chkI X = 0) (_ : Y.length ≤ 4096) (hix : ∀ v ∈ Y, v.ixk = 0)  : ∀ (d c : Nat), c + d = Y.length → ([] : List V3) = (Y.drop c).filter (fun v => !rsb X v) → ([] : List V3) = (Y.drop c).filter (fun v => rsb X v) → LoopSem Try.prog 2 (forBody (stmt 8 (aoB Try.prog))) (aoH00 own own2 X.length Y.length X Y  (c : Int)) (.exit 0) (aoO own own2 X.length Y.length X Y false) := by
  intro d
  induction d with
  | zero =>
    intro c  hc _ _
    have hr := aoR00 own own2 X.length Y.length X Y   c
    rw [show decide ((c : Int) < (Y.length : Int)) = false by simp; omega] at hr
    exact loop_leave (C := Cow Try.prog) okow (f := 5) (B := 2) aoIn.2 hr (by simp)
  | succ d ih =>
    intro c  hc h1 h2
    have hr := aoR00 own own2 X.length Y.length X Y   c
    have hcl : c < Y.length := by omega
    have hd : Y.drop c = atV Y c :: Y.drop (c + 1) := by rw [List.drop_eq_getElem_cons hcl, atV_get hcl]
    have hv : acI X (atV Y c) = 0 := leastN_zero.2 ⟨hix _ (by rw [atV_get hcl]; exact List.getElem_mem hcl), e2⟩
    rw [show decide ((c : Int) < (Y.length : Int)) = true by simp; omega, bd_ok' hcl, gd_true, lk_true, gd_true, ghT_ok (show alwB X (atV Y c) = true from rfl), gd_true, opsOf_opRow, hv, isb_rsb hv] at hr
    rw [hd, List.filter_cons] at h1 h2
    cases hb : rsb X (atV Y c) with
    | true =>
      simp only [hb, Bool.not_true, Bool.false_eq_true, if_true, if_false] at h1 h2 hr
      cases h2
    | false =>
      simp only [hb, Bool.not_false, Bool.false_eq_true, if_true, if_false] at h1 h2 hr
      cases h1
theorem aoLp01 (own own2 : Bool) (X : List O3) (Y : List V3) (M : List V3) (e2 : chkI X = 0) (hq : Y.length ≤ 4096) (hix : ∀ v ∈ Y, v.ixk = 0) (hM : M.length ≤ 4096) : ∀ (d c j : Nat), c + d = Y.length → ([] : List V3) = (Y.drop c).filter (fun v => !rsb X v) → M.drop j = (Y.drop c).filter (fun v => rsb X v) → LoopSem Try.prog 2 (forBody (stmt 8 (aoB Try.prog))) (aoH01 own own2 X.length Y.length X Y M.length M (j : Int) (c : Int)) (.exit 0) (aoO own own2 X.length Y.length X Y false) := by
  intro d
  induction d with
  | zero =>
    intro c j hc _ _
    have hr := aoR01 own own2 X.length Y.length X Y M.length M j c
    rw [show decide ((c : Int) < (Y.length : Int)) = false by simp; omega] at hr
    exact loop_leave (C := Cow Try.prog) okow (f := 5) (B := 2) aoIn.2 hr (by simp)
  | succ d ih =>
    intro c j hc h1 h2
    have hr := aoR01 own own2 X.length Y.length X Y M.length M j c
    have hcl : c < Y.length := by omega
    have hd : Y.drop c = atV Y c :: Y.drop (c + 1) := by rw [List.drop_eq_getElem_cons hcl, atV_get hcl]
    have hv : acI X (atV Y c) = 0 := leastN_zero.2 ⟨hix _ (by rw [atV_get hcl]; exact List.getElem_mem hcl), e2⟩
    rw [show decide ((c : Int) < (Y.length : Int)) = true by simp; omega, bd_ok' hcl, gd_true, lk_true, gd_true, ghT_ok (show alwB X (atV Y c) = true from rfl), gd_true, opsOf_opRow, hv, isb_rsb hv, show W ((c : Int) + 1) = ((c + 1 : Nat) : Int) by rw [W_in (by omega)]; simp] at hr
    rw [hd, List.filter_cons] at h1 h2
    cases hb : rsb X (atV Y c) with
    | true =>
      simp only [hb, Bool.not_true, Bool.false_eq_true, if_true, if_false] at h1 h2 hr
      obtain ⟨m1, m2, m3⟩ := drop_cons h2
      rw [show decide ((j : Int) < (M.length : Int)) = true by simp; omega, bd_ok' m1, m2, V3.eqB_refl, show W ((j : Int) + 1) = ((j + 1 : Nat) : Int) by rw [W_in (by omega)]; simp] at hr
      exact loop_next (C := Cow Try.prog) okow (f := 5) (B := 2) aoIn.2 hr (StLike.refl _) (ih (c + 1) (j + 1) (by omega) h1 m3)
    | false =>
      simp only [hb, Bool.not_false, Bool.false_eq_true, if_true, if_false] at h1 h2 hr
      cases h1
theorem aoLp10 (own own2 : Bool) (X : List O3) (Y : List V3) (P : List V3) (e2 : chkI X = 0) (hq : Y.length ≤ 4096) (hix : ∀ v ∈ Y, v.ixk = 0) (hP : P.length ≤ 4096) : ∀ (d c i : Nat), c + d = Y.length → P.drop i = (Y.drop c).filter (fun v => !rsb X v) → ([] : List V3) = (Y.drop c).filter (fun v => rsb X v) → LoopSem Try.prog 2 (forBody (stmt 8 (aoB Try.prog))) (aoH10 own own2 X.length Y.length X Y P.length P (i : Int) (c : Int)) (.exit 0) (aoO own own2 X.length Y.length X Y false) := by
  intro d
  induction d with
  | zero =>
    intro c i hc _ _
    have hr := aoR10 own own2 X.length Y.length X Y P.length P i c
    rw [show decide ((c : Int) < (Y.length : Int)) = false by simp; omega] at hr
    exact loop_leave (C := Cow Try.prog) okow (f := 5) (B := 2) aoIn.2 hr (by simp)
  | succ d ih =>
    intro c i hc h1 h2
    have hr := aoR10 own own2 X.length Y.length X Y P.length P i c
    have hcl : c < Y.length := by omega
    have hd : Y.drop c = atV Y c :: Y.drop (c + 1) := by rw [List.drop_eq_getElem_cons hcl, atV_get hcl]
    have hv : acI X (atV Y c) = 0 := leastN_zero.2 ⟨hix _ (by rw [atV_get hcl]; exact List.getElem_mem hcl), e2⟩
    rw [show decide ((c : Int) < (Y.length : Int)) = true by simp; omega, bd_ok' hcl, gd_true, lk_true, gd_true, ghT_ok (show alwB X (atV Y c) = true from rfl), gd_true, opsOf_opRow, hv, isb_rsb hv, show W ((c : Int) + 1) = ((c + 1 : Nat) : Int) by rw [W_in (by omega)]; simp] at hr
    rw [hd, List.filter_cons] at h1 h2
    cases hb : rsb X (atV Y c) with
    | true =>
      simp only [hb, Bool.not_true, Bool.false_eq_true, if_true, if_false] at h1 h2 hr
      cases h2
    | false =>
      simp only [hb, Bool.not_false, Bool.false_eq_true, if_true, if_false] at h1 h2 hr
      obtain ⟨m1, m2, m3⟩ := drop_cons h1
      rw [show decide ((i : Int) < (P.length : Int)) = true by simp; omega, bd_ok' m1, m2, V3.eqB_refl, show W ((i : Int) + 1) = ((i + 1 : Nat) : Int) by rw [W_in (by omega)]; simp] at hr
      exact loop_next (C := Cow Try.prog) okow (f := 5) (B := 2) aoIn.2 hr (StLike.refl _) (ih (c + 1) (i + 1) (by omega) m3 h2)
theorem aoLp11 (own own2 : Bool) (X : List O3) (Y : List V3) (P : List V3) (M : List V3) (e2 : chkI X = 0) (hq : Y.length ≤ 4096) (hix : ∀ v ∈ Y, v.ixk = 0) (hP : P.length ≤ 4096) (hM : M.length ≤ 4096) : ∀ (d c i j : Nat), c + d = Y.length → P.drop i = (Y.drop c).filter (fun v => !rsb X v) → M.drop j = (Y.drop c).filter (fun v => rsb X v) → LoopSem Try.prog 2 (forBody (stmt 8 (aoB Try.prog))) (aoH11 own own2 X.length Y.length X Y P.length P M.length M (i : Int) (j : Int) (c : Int)) (.exit 0) (aoO own own2 X.length Y.length X Y false) := by
  intro d
  induction d with
  | zero =>
    intro c i j hc _ _
    have hr := aoR11 own own2 X.length Y.length X Y P.length P M.length M i j c
    rw [show decide ((c : Int) < (Y.length : Int)) = false by simp; omega] at hr
    exact loop_leave (C := Cow Try.prog) okow (f := 5) (B := 2) aoIn.2 hr (by simp)
  | succ d ih =>
    intro c i j hc h1 h2
    have hr := aoR11 own own2 X.length Y.length X Y P.length P M.length M i j c
    have hcl : c < Y.length := by omega
    have hd : Y.drop c = atV Y c :: Y.drop (c + 1) := by rw [List.drop_eq_getElem_cons hcl, atV_get hcl]
    have hv : acI X (atV Y c) = 0 := leastN_zero.2 ⟨hix _ (by rw [atV_get hcl]; exact List.getElem_mem hcl), e2⟩
    rw [show decide ((c : Int) < (Y.length : Int)) = true by simp; omega, bd_ok' hcl, gd_true, lk_true, gd_true, ghT_ok (show alwB X (atV Y c) = true from rfl), gd_true, opsOf_opRow, hv, isb_rsb hv, show W ((c : Int) + 1) = ((c + 1 : Nat) : Int) by rw [W_in (by omega)]; simp] at hr
    rw [hd, List.filter_cons] at h1 h2
    cases hb : rsb X (atV Y c) with
    | true =>
      simp only [hb, Bool.not_true, Bool.false_eq_true, if_true, if_false] at h1 h2 hr
      obtain ⟨m1, m2, m3⟩ := drop_cons h2
      rw [show decide ((j : Int) < (M.length : Int)) = true by simp; omega, bd_ok' m1, m2, V3.eqB_refl, show W ((j : Int) + 1) = ((j + 1 : Nat) : Int) by rw [W_in (by omega)]; simp] at hr
      exact loop_next (C := Cow Try.prog) okow (f := 5) (B := 2) aoIn.2 hr (StLike.refl _) (ih (c + 1) i (j + 1) (by omega) h1 m3)
    | false =>
      simp only [hb, Bool.not_false, Bool.false_eq_true, if_true, if_false] at h1 h2 hr
      obtain ⟨m1, m2, m3⟩ := drop_cons h1
      rw [show decide ((i : Int) < (P.length : Int)) = true by simp; omega, bd_ok' m1, m2, V3.eqB_refl, show W ((i : Int) + 1) = ((i + 1 : Nat) : Int) by rw [W_in (by omega)]; simp] at hr
      exact loop_next (C := Cow Try.prog) okow (f := 5) (B := 2) aoIn.2 hr (StLike.refl _) (ih (c + 1) (i + 1) j (by omega) m3 h2)
end Go.Proofs.Ytjpfnfckpgilgaa
