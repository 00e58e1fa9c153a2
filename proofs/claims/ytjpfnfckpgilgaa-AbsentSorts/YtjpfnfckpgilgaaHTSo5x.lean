/-
  absent.Sort: what its loop comes to. Nothing here is trusted.
-/
import Derived.Test.YtjpfnfckpgilgaaHTSo4x
namespace Go.Proofs.Ytjpfnfckpgilgaa
open Go Vx Go.RowKit
theorem rT3_ok {k : Nat} (h : k ≤ 4096) : rT3 k = true := by unfold rT3; rw [Nat.beq_refl]; simp; omega

set_option maxRecDepth 100000 in
theorem soIn : InBody ((Ckx Try.prog).into 26 2) (forHead (stmt 3 (soB Try.prog))) ∧ InBody ((Ckx Try.prog).into 26 2) (forBody (stmt 3 (soB Try.prog))) := for_in (C := Ckx Try.prog) (f := 26) (B := 2) (id := 0) (k := 3) (fn := Try.f26) (b := soB Try.prog) Try.func26 soB_eq soFor
theorem soOut (own own2 : Bool) (X : List O3) (Y : List V3) (P M : List V3) : roundR ((Ckx Try.prog).into 26 2) 60 (forBody (stmt 3 (soB Try.prog))) [0, 8, 9, 23, 24, 25] [8, 9] [.fix 0, .fix 1, .slot 8, .slot 9] [.fix 0, .fix 1, .slot 8, .slot 9] (soH own own2 X.length Y.length X Y P M (Y.length : Int)) = some (.exit 0, soZ own own2 X.length Y.length X Y P M) := by
  cases P with
  | nil =>
    cases M with
    | nil => exact (soR00 own own2 X.length Y.length X Y Y.length).trans (by rw [show decide ((Y.length : Int) < (Y.length : Int)) = false by simp]; rfl)
    | cons m M => exact (soR01 own own2 X.length Y.length X Y _ _ Y.length).trans (by rw [show decide ((Y.length : Int) < (Y.length : Int)) = false by simp]; rfl)
  | cons p P =>
    cases M with
    | nil => exact (soR10 own own2 X.length Y.length X Y _ _ Y.length).trans (by rw [show decide ((Y.length : Int) < (Y.length : Int)) = false by simp]; rfl)
    | cons m M => exact (soR11 own own2 X.length Y.length X Y _ _ _ _ Y.length).trans (by rw [show decide ((Y.length : Int) < (Y.length : Int)) = false by simp]; rfl)
theorem soStt (own own2 : Bool) (X : List O3) (Y : List V3) (P M : List V3) (hX : X.length ≤ 192) {i : Nat} (hi : i < Y.length) (hq : Y.length ≤ 4096) (hp : P.length + M.length ≤ 4096) (hb : rsb X (atV Y i) = true) : ∃ s2, roundR ((Ckx Try.prog).into 26 2) 60 (forBody (stmt 3 (soB Try.prog))) [0, 8, 9, 23, 24, 25] [8, 9] [.fix 0, .fix 1, .slot 8, .slot 9] [.fix 0, .fix 1, .slot 8, .slot 9] (soH own own2 X.length Y.length X Y P M (i : Int)) = some (.normal, s2) ∧ StLike s2 (soH own own2 X.length Y.length X Y P (M ++ [atV Y i]) ((i + 1 : Nat) : Int)) := by
  have hd : decide ((i : Int) < (Y.length : Int)) = true := by simp; omega
  have hw : W ((i : Int) + 1) = ((i + 1 : Nat) : Int) := by rw [W_in (by omega)]; simp
  cases P with
  | nil =>
    cases M with
    | nil =>
      have hr := soR00 own own2 X.length Y.length X Y  i
      rw [hd, bd_ok' hi, gd_true, lk_true, gd_true, ghT_ok (show lenB X (atV Y i) = true from decide_eq_true (by omega)), gd_true, opsOf_opRow, hb, hw] at hr
      refine ⟨_, hr, ?_⟩
      show StLike _ (soH01 own own2 X.length Y.length X Y  1 (vcRow [atV Y i]) _)
      exact ⟨rfl, .refl _, .refl _, .refl _, like_chopvcs _, trivial⟩
    | cons m M =>
      have hr := soR01 own own2 X.length Y.length X Y (m :: M).length (vcRow (m :: M)) i
      rw [hd, bd_ok' hi, gd_true, lk_true, gd_true, ghT_ok (show lenB X (atV Y i) = true from decide_eq_true (by omega)), gd_true, opsOf_opRow, hb, hw] at hr
      simp only [rT3_ok (show (m :: M).length ≤ 4096 by omega), gd_true] at hr
      refine ⟨_, hr, ?_⟩
      show StLike _ (soH01 own own2 X.length Y.length X Y  ((m :: M) ++ [atV Y i]).length (vcRow ((m :: M) ++ [atV Y i])) _)
      rw [show ((m :: M) ++ [atV Y i]).length = (m :: M).length + 1 by rw [List.length_append]; rfl]
      exact ⟨rfl, .refl _, .refl _, .refl _, like_nrvcs rfl _, trivial⟩
  | cons p P =>
    cases M with
    | nil =>
      have hr := soR10 own own2 X.length Y.length X Y (p :: P).length (vcRow (p :: P)) i
      rw [hd, bd_ok' hi, gd_true, lk_true, gd_true, ghT_ok (show lenB X (atV Y i) = true from decide_eq_true (by omega)), gd_true, opsOf_opRow, hb, hw] at hr
      refine ⟨_, hr, ?_⟩
      show StLike _ (soH11 own own2 X.length Y.length X Y (p :: P).length (vcRow (p :: P)) 1 (vcRow [atV Y i]) _)
      exact ⟨rfl, .refl _, .refl _, .refl _, like_chopvcs _, trivial⟩
    | cons m M =>
      have hr := soR11 own own2 X.length Y.length X Y (p :: P).length (vcRow (p :: P)) (m :: M).length (vcRow (m :: M)) i
      rw [hd, bd_ok' hi, gd_true, lk_true, gd_true, ghT_ok (show lenB X (atV Y i) = true from decide_eq_true (by omega)), gd_true, opsOf_opRow, hb, hw] at hr
      simp only [rT3_ok (show (m :: M).length ≤ 4096 by omega), gd_true] at hr
      refine ⟨_, hr, ?_⟩
      show StLike _ (soH11 own own2 X.length Y.length X Y (p :: P).length (vcRow (p :: P)) ((m :: M) ++ [atV Y i]).length (vcRow ((m :: M) ++ [atV Y i])) _)
      rw [show ((m :: M) ++ [atV Y i]).length = (m :: M).length + 1 by rw [List.length_append]; rfl]
      exact ⟨rfl, .refl _, .refl _, .refl _, like_nrvcs rfl _, trivial⟩
theorem soStf (own own2 : Bool) (X : List O3) (Y : List V3) (P M : List V3) (hX : X.length ≤ 192) {i : Nat} (hi : i < Y.length) (hq : Y.length ≤ 4096) (hp : P.length + M.length ≤ 4096) (hb : rsb X (atV Y i) = false) : ∃ s2, roundR ((Ckx Try.prog).into 26 2) 60 (forBody (stmt 3 (soB Try.prog))) [0, 8, 9, 23, 24, 25] [8, 9] [.fix 0, .fix 1, .slot 8, .slot 9] [.fix 0, .fix 1, .slot 8, .slot 9] (soH own own2 X.length Y.length X Y P M (i : Int)) = some (.normal, s2) ∧ StLike s2 (soH own own2 X.length Y.length X Y (P ++ [atV Y i]) M ((i + 1 : Nat) : Int)) := by
  have hd : decide ((i : Int) < (Y.length : Int)) = true := by simp; omega
  have hw : W ((i : Int) + 1) = ((i + 1 : Nat) : Int) := by rw [W_in (by omega)]; simp
  cases P with
  | nil =>
    cases M with
    | nil =>
      have hr := soR00 own own2 X.length Y.length X Y  i
      rw [hd, bd_ok' hi, gd_true, lk_true, gd_true, ghT_ok (show lenB X (atV Y i) = true from decide_eq_true (by omega)), gd_true, opsOf_opRow, hb, hw] at hr
      refine ⟨_, hr, ?_⟩
      show StLike _ (soH10 own own2 X.length Y.length X Y 1 (vcRow [atV Y i])  _)
      exact ⟨rfl, .refl _, .refl _, like_chopvcs _, .refl _, trivial⟩
    | cons m M =>
      have hr := soR01 own own2 X.length Y.length X Y (m :: M).length (vcRow (m :: M)) i
      rw [hd, bd_ok' hi, gd_true, lk_true, gd_true, ghT_ok (show lenB X (atV Y i) = true from decide_eq_true (by omega)), gd_true, opsOf_opRow, hb, hw] at hr
      refine ⟨_, hr, ?_⟩
      show StLike _ (soH11 own own2 X.length Y.length X Y 1 (vcRow [atV Y i]) (m :: M).length (vcRow (m :: M)) _)
      exact ⟨rfl, .refl _, .refl _, like_chopvcs _, .refl _, trivial⟩
  | cons p P =>
    cases M with
    | nil =>
      have hr := soR10 own own2 X.length Y.length X Y (p :: P).length (vcRow (p :: P)) i
      rw [hd, bd_ok' hi, gd_true, lk_true, gd_true, ghT_ok (show lenB X (atV Y i) = true from decide_eq_true (by omega)), gd_true, opsOf_opRow, hb, hw] at hr
      simp only [rT3_ok (show (p :: P).length ≤ 4096 by omega), gd_true] at hr
      refine ⟨_, hr, ?_⟩
      show StLike _ (soH10 own own2 X.length Y.length X Y ((p :: P) ++ [atV Y i]).length (vcRow ((p :: P) ++ [atV Y i]))  _)
      rw [show ((p :: P) ++ [atV Y i]).length = (p :: P).length + 1 by rw [List.length_append]; rfl]
      exact ⟨rfl, .refl _, .refl _, like_nrvcs rfl _, .refl _, trivial⟩
    | cons m M =>
      have hr := soR11 own own2 X.length Y.length X Y (p :: P).length (vcRow (p :: P)) (m :: M).length (vcRow (m :: M)) i
      rw [hd, bd_ok' hi, gd_true, lk_true, gd_true, ghT_ok (show lenB X (atV Y i) = true from decide_eq_true (by omega)), gd_true, opsOf_opRow, hb, hw] at hr
      simp only [rT3_ok (show (p :: P).length ≤ 4096 by omega), gd_true] at hr
      refine ⟨_, hr, ?_⟩
      show StLike _ (soH11 own own2 X.length Y.length X Y ((p :: P) ++ [atV Y i]).length (vcRow ((p :: P) ++ [atV Y i])) (m :: M).length (vcRow (m :: M)) _)
      rw [show ((p :: P) ++ [atV Y i]).length = (p :: P).length + 1 by rw [List.length_append]; rfl]
      exact ⟨rfl, .refl _, .refl _, like_nrvcs rfl _, .refl _, trivial⟩
theorem soLp (own own2 : Bool) (X : List O3) (Y : List V3) (hX : X.length ≤ 192) (hq : Y.length ≤ 4096) : ∀ (c i : Nat) (P M : List V3), i + c = Y.length → P.length + M.length = i → LoopSem Try.prog 2 (forBody (stmt 3 (soB Try.prog))) (soH own own2 X.length Y.length X Y P M (i : Int)) (.exit 0) (soZ own own2 X.length Y.length X Y (P ++ (Y.drop i).filter fun v => !rsb X v) (M ++ (Y.drop i).filter fun v => rsb X v)) := by
  intro c
  induction c with
  | zero =>
    intro i P M hi _
    have : i = Y.length := by omega
    subst this
    rw [List.drop_eq_nil_of_le (Nat.le_refl _), List.filter_nil, List.filter_nil, List.append_nil, List.append_nil]
    exact loop_leave (C := Ckx Try.prog) okkx (f := 26) (B := 2) soIn.2 (soOut own own2 X Y P M) (by simp)
  | succ c ih =>
    intro i P M hi hp
    have hd : Y.drop i = atV Y i :: Y.drop (i + 1) := by rw [List.drop_eq_getElem_cons (by omega), atV_get (by omega)]
    rw [hd, List.filter_cons, List.filter_cons]
    cases hb : rsb X (atV Y i) with
    | true =>
      obtain ⟨s2, hr, hl⟩ := soStt own own2 X Y P M hX (show i < Y.length by omega) hq (by omega) hb
      have := ih (i + 1) P (M ++ [atV Y i]) (by omega) (by simp; omega)
      rw [List.append_assoc] at this
      exact loop_next (C := Ckx Try.prog) okkx (f := 26) (B := 2) soIn.2 hr hl this
    | false =>
      obtain ⟨s2, hr, hl⟩ := soStf own own2 X Y P M hX (show i < Y.length by omega) hq (by omega) hb
      have := ih (i + 1) (P ++ [atV Y i]) M (by omega) (by simp; omega)
      rw [List.append_assoc] at this
      exact loop_next (C := Ckx Try.prog) okkx (f := 26) (B := 2) soIn.2 hr hl this
end Go.Proofs.Ytjpfnfckpgilgaa
