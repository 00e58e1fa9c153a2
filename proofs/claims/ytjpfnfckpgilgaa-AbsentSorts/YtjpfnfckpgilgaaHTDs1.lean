/-
  facetref14.DocSort, told. Nothing here is trusted.
-/
import Derived.Test.YtjpfnfckpgilgaaHTSo6x
import Derived.Test.YtjpfnfckpgilgaaHTAbF
namespace Go.Proofs.Ytjpfnfckpgilgaa
open Go Vx Go.RowKit
def dsB (P : Program) : Code := bodyOf P 27
theorem dsB_eq : Try.f27.body = some (dsB Try.prog) := by kernel_rfl
def dsH00 (own own2 : Bool) (n q : Nat) (xs : List O3) (Y : List V3)  (i : Int) : St := stOf 60 [(0, .slice (some ⟨0, 0, some 0⟩) n 12), (10, .slice none 0 0), (11, .slice none 0 0), (40, .slice (some ⟨1, 0, some 0⟩) q 3), (41, vI q), (42, vI i)] [.rows own true 12 n (opRow xs), .rows own2 true 3 q (vcRow Y), .no, .no]
def dsZ00 (own own2 : Bool) (n q : Nat) (xs : List O3) (Y : List V3)  : St := stOf 60 [(10, .slice none 0 0), (11, .slice none 0 0)] [.rows own true 12 n (opRow xs), .rows own2 true 3 q (vcRow Y), .no, .no]
def dsH01 (own own2 : Bool) (n q : Nat) (xs : List O3) (Y : List V3) (l : Nat) (rm : Nat → List Value) (i : Int) : St := stOf 60 [(0, .slice (some ⟨0, 0, some 0⟩) n 12), (10, .slice none 0 0), (11, .slice (some ⟨3, 0, some 0⟩) l 3), (40, .slice (some ⟨1, 0, some 0⟩) q 3), (41, vI q), (42, vI i)] [.rows own true 12 n (opRow xs), .rows own2 true 3 q (vcRow Y), .no, .rows true true 3 l rm]
def dsZ01 (own own2 : Bool) (n q : Nat) (xs : List O3) (Y : List V3) (l : Nat) (rm : Nat → List Value) : St := stOf 60 [(10, .slice none 0 0), (11, .slice (some ⟨3, 0, some 0⟩) l 3)] [.rows own true 12 n (opRow xs), .rows own2 true 3 q (vcRow Y), .no, .rows true true 3 l rm]
def dsH10 (own own2 : Bool) (n q : Nat) (xs : List O3) (Y : List V3) (k : Nat) (rp : Nat → List Value) (i : Int) : St := stOf 60 [(0, .slice (some ⟨0, 0, some 0⟩) n 12), (10, .slice (some ⟨2, 0, some 0⟩) k 3), (11, .slice none 0 0), (40, .slice (some ⟨1, 0, some 0⟩) q 3), (41, vI q), (42, vI i)] [.rows own true 12 n (opRow xs), .rows own2 true 3 q (vcRow Y), .rows true true 3 k rp, .no]
def dsZ10 (own own2 : Bool) (n q : Nat) (xs : List O3) (Y : List V3) (k : Nat) (rp : Nat → List Value) : St := stOf 60 [(10, .slice (some ⟨2, 0, some 0⟩) k 3), (11, .slice none 0 0)] [.rows own true 12 n (opRow xs), .rows own2 true 3 q (vcRow Y), .rows true true 3 k rp, .no]
def dsH11 (own own2 : Bool) (n q : Nat) (xs : List O3) (Y : List V3) (k : Nat) (rp : Nat → List Value) (l : Nat) (rm : Nat → List Value) (i : Int) : St := stOf 60 [(0, .slice (some ⟨0, 0, some 0⟩) n 12), (10, .slice (some ⟨2, 0, some 0⟩) k 3), (11, .slice (some ⟨3, 0, some 0⟩) l 3), (40, .slice (some ⟨1, 0, some 0⟩) q 3), (41, vI q), (42, vI i)] [.rows own true 12 n (opRow xs), .rows own2 true 3 q (vcRow Y), .rows true true 3 k rp, .rows true true 3 l rm]
def dsZ11 (own own2 : Bool) (n q : Nat) (xs : List O3) (Y : List V3) (k : Nat) (rp : Nat → List Value) (l : Nat) (rm : Nat → List Value) : St := stOf 60 [(10, .slice (some ⟨2, 0, some 0⟩) k 3), (11, .slice (some ⟨3, 0, some 0⟩) l 3)] [.rows own true 12 n (opRow xs), .rows own2 true 3 q (vcRow Y), .rows true true 3 k rp, .rows true true 3 l rm]
theorem dsFor : isFor 2 (stmt 6 (dsB Try.prog)) = true := by kernel_rfl
theorem dsHas : hasStmt 6 (dsB Try.prog) = true := by kernel_rfl
theorem dsR00 (own own2 : Bool) (n q : Nat) (xs : List O3) (Y : List V3)  (i : Nat) : roundR ((Ckx Try.prog).into 27 2) 60 (forBody (stmt 6 (dsB Try.prog))) [0, 10, 11, 40, 41, 42] [10, 11] [.fix 0, .fix 1, .slot 10, .slot 11] [.fix 0, .fix 1, .slot 10, .slot 11] (dsH00 own own2 n q xs Y  (i : Int)) =
    (match decide ((i : Int) < (q : Int)) with
    | true => gd (boundsI (i : Int) q) (gd (lk n) (gd (ghT lenB n (opRow xs) (atV Y i)) (match decide (wyI (opsOf n (opRow xs)) (atV Y i) ≥ 0) with
      | true => some (.normal, dsH01 own own2 n q xs Y 1 (chop 3 0 (atV Y i).cells) (W ((i : Int) + 1)))
      | false => some (.normal, dsH10 own own2 n q xs Y 1 (chop 3 0 (atV Y i).cells) (W ((i : Int) + 1))))))
    | false => some (.exit 2, dsZ00 own own2 n q xs Y )) := by kernel_rfl
theorem dsR01 (own own2 : Bool) (n q : Nat) (xs : List O3) (Y : List V3) (l : Nat) (rm : Nat → List Value) (i : Nat) : roundR ((Ckx Try.prog).into 27 2) 60 (forBody (stmt 6 (dsB Try.prog))) [0, 10, 11, 40, 41, 42] [10, 11] [.fix 0, .fix 1, .slot 10, .slot 11] [.fix 0, .fix 1, .slot 10, .slot 11] (dsH01 own own2 n q xs Y l rm (i : Int)) =
    (match decide ((i : Int) < (q : Int)) with
    | true => gd (boundsI (i : Int) q) (gd (lk n) (gd (ghT lenB n (opRow xs) (atV Y i)) (match decide (wyI (opsOf n (opRow xs)) (atV Y i) ≥ 0) with
      | true => gd (rT3 l) (some (.normal, dsH01 own own2 n q xs Y (l + 1) (catR l rm (chop 3 0 (atV Y i).cells)) (W ((i : Int) + 1))))
      | false => some (.normal, dsH11 own own2 n q xs Y 1 (chop 3 0 (atV Y i).cells) l rm (W ((i : Int) + 1))))))
    | false => some (.exit 2, dsZ01 own own2 n q xs Y l rm)) := by kernel_rfl
theorem dsR10 (own own2 : Bool) (n q : Nat) (xs : List O3) (Y : List V3) (k : Nat) (rp : Nat → List Value) (i : Nat) : roundR ((Ckx Try.prog).into 27 2) 60 (forBody (stmt 6 (dsB Try.prog))) [0, 10, 11, 40, 41, 42] [10, 11] [.fix 0, .fix 1, .slot 10, .slot 11] [.fix 0, .fix 1, .slot 10, .slot 11] (dsH10 own own2 n q xs Y k rp (i : Int)) =
    (match decide ((i : Int) < (q : Int)) with
    | true => gd (boundsI (i : Int) q) (gd (lk n) (gd (ghT lenB n (opRow xs) (atV Y i)) (match decide (wyI (opsOf n (opRow xs)) (atV Y i) ≥ 0) with
      | true => some (.normal, dsH11 own own2 n q xs Y k rp 1 (chop 3 0 (atV Y i).cells) (W ((i : Int) + 1)))
      | false => gd (rT3 k) (some (.normal, dsH10 own own2 n q xs Y (k + 1) (catR k rp (chop 3 0 (atV Y i).cells)) (W ((i : Int) + 1)))))))
    | false => some (.exit 2, dsZ10 own own2 n q xs Y k rp)) := by kernel_rfl
theorem dsR11 (own own2 : Bool) (n q : Nat) (xs : List O3) (Y : List V3) (k : Nat) (rp : Nat → List Value) (l : Nat) (rm : Nat → List Value) (i : Nat) : roundR ((Ckx Try.prog).into 27 2) 60 (forBody (stmt 6 (dsB Try.prog))) [0, 10, 11, 40, 41, 42] [10, 11] [.fix 0, .fix 1, .slot 10, .slot 11] [.fix 0, .fix 1, .slot 10, .slot 11] (dsH11 own own2 n q xs Y k rp l rm (i : Int)) =
    (match decide ((i : Int) < (q : Int)) with
    | true => gd (boundsI (i : Int) q) (gd (lk n) (gd (ghT lenB n (opRow xs) (atV Y i)) (match decide (wyI (opsOf n (opRow xs)) (atV Y i) ≥ 0) with
      | true => gd (rT3 l) (some (.normal, dsH11 own own2 n q xs Y k rp (l + 1) (catR l rm (chop 3 0 (atV Y i).cells)) (W ((i : Int) + 1))))
      | false => gd (rT3 k) (some (.normal, dsH11 own own2 n q xs Y (k + 1) (catR k rp (chop 3 0 (atV Y i).cells)) l rm (W ((i : Int) + 1)))))))
    | false => some (.exit 2, dsZ11 own own2 n q xs Y k rp l rm)) := by kernel_rfl
def dsH (own own2 : Bool) (n q : Nat) (xs : List O3) (Y : List V3) (P M : List V3) (i : Int) : St := match P, M with
  | [], [] => dsH00 own own2 n q xs Y  i
  | [], _ :: _ => dsH01 own own2 n q xs Y M.length (vcRow M) i
  | _ :: _, [] => dsH10 own own2 n q xs Y P.length (vcRow P) i
  | _ :: _, _ :: _ => dsH11 own own2 n q xs Y P.length (vcRow P) M.length (vcRow M) i
def dsZ (own own2 : Bool) (n q : Nat) (xs : List O3) (Y : List V3) (P M : List V3) : St := match P, M with
  | [], [] => dsZ00 own own2 n q xs Y 
  | [], _ :: _ => dsZ01 own own2 n q xs Y M.length (vcRow M)
  | _ :: _, [] => dsZ10 own own2 n q xs Y P.length (vcRow P)
  | _ :: _, _ :: _ => dsZ11 own own2 n q xs Y P.length (vcRow P) M.length (vcRow M)

set_option maxRecDepth 100000 in
theorem dsIn : InBody ((Ckx Try.prog).into 27 2) (forHead (stmt 6 (dsB Try.prog))) ∧ InBody ((Ckx Try.prog).into 27 2) (forBody (stmt 6 (dsB Try.prog))) := for_in (C := Ckx Try.prog) (f := 27) (B := 2) (id := 2) (k := 6) (fn := Try.f27) (b := dsB Try.prog) Try.func27 dsB_eq dsFor
theorem dsOut (own own2 : Bool) (X : List O3) (Y : List V3) (P M : List V3) : roundR ((Ckx Try.prog).into 27 2) 60 (forBody (stmt 6 (dsB Try.prog))) [0, 10, 11, 40, 41, 42] [10, 11] [.fix 0, .fix 1, .slot 10, .slot 11] [.fix 0, .fix 1, .slot 10, .slot 11] (dsH own own2 X.length Y.length X Y P M (Y.length : Int)) = some (.exit 2, dsZ own own2 X.length Y.length X Y P M) := by
  cases P with
  | nil =>
    cases M with
    | nil => exact (dsR00 own own2 X.length Y.length X Y Y.length).trans (by rw [show decide ((Y.length : Int) < (Y.length : Int)) = false by simp]; rfl)
    | cons m M => exact (dsR01 own own2 X.length Y.length X Y _ _ Y.length).trans (by rw [show decide ((Y.length : Int) < (Y.length : Int)) = false by simp]; rfl)
  | cons p P =>
    cases M with
    | nil => exact (dsR10 own own2 X.length Y.length X Y _ _ Y.length).trans (by rw [show decide ((Y.length : Int) < (Y.length : Int)) = false by simp]; rfl)
    | cons m M => exact (dsR11 own own2 X.length Y.length X Y _ _ _ _ Y.length).trans (by rw [show decide ((Y.length : Int) < (Y.length : Int)) = false by simp]; rfl)
theorem dsStt (own own2 : Bool) (X : List O3) (Y : List V3) (P M : List V3) (hX : X.length ≤ 192) {i : Nat} (hi : i < Y.length) (hq : Y.length ≤ 4096) (hp : P.length + M.length ≤ 4096) (hb : decide (wyI X (atV Y i) ≥ 0) = true) : ∃ s2, roundR ((Ckx Try.prog).into 27 2) 60 (forBody (stmt 6 (dsB Try.prog))) [0, 10, 11, 40, 41, 42] [10, 11] [.fix 0, .fix 1, .slot 10, .slot 11] [.fix 0, .fix 1, .slot 10, .slot 11] (dsH own own2 X.length Y.length X Y P M (i : Int)) = some (.normal, s2) ∧ StLike s2 (dsH own own2 X.length Y.length X Y P (M ++ [atV Y i]) ((i + 1 : Nat) : Int)) := by
  have hd : decide ((i : Int) < (Y.length : Int)) = true := by simp; omega
  have hw : W ((i : Int) + 1) = ((i + 1 : Nat) : Int) := by rw [W_in (by omega)]; simp
  cases P with
  | nil =>
    cases M with
    | nil =>
      have hr := dsR00 own own2 X.length Y.length X Y  i
      rw [hd, bd_ok' hi, gd_true, lk_true, gd_true, ghT_ok (show lenB X (atV Y i) = true from decide_eq_true (by omega)), gd_true, opsOf_opRow, hb, hw] at hr
      refine ⟨_, hr, ?_⟩
      show StLike _ (dsH01 own own2 X.length Y.length X Y  1 (vcRow [atV Y i]) _)
      exact ⟨rfl, .refl _, .refl _, .refl _, like_chopvcs _, trivial⟩
    | cons m M =>
      have hr := dsR01 own own2 X.length Y.length X Y (m :: M).length (vcRow (m :: M)) i
      rw [hd, bd_ok' hi, gd_true, lk_true, gd_true, ghT_ok (show lenB X (atV Y i) = true from decide_eq_true (by omega)), gd_true, opsOf_opRow, hb, hw] at hr
      simp only [rT3_ok (show (m :: M).length ≤ 4096 by omega), gd_true] at hr
      refine ⟨_, hr, ?_⟩
      show StLike _ (dsH01 own own2 X.length Y.length X Y  ((m :: M) ++ [atV Y i]).length (vcRow ((m :: M) ++ [atV Y i])) _)
      rw [show ((m :: M) ++ [atV Y i]).length = (m :: M).length + 1 by rw [List.length_append]; rfl]
      exact ⟨rfl, .refl _, .refl _, .refl _, like_nrvcs rfl _, trivial⟩
  | cons p P =>
    cases M with
    | nil =>
      have hr := dsR10 own own2 X.length Y.length X Y (p :: P).length (vcRow (p :: P)) i
      rw [hd, bd_ok' hi, gd_true, lk_true, gd_true, ghT_ok (show lenB X (atV Y i) = true from decide_eq_true (by omega)), gd_true, opsOf_opRow, hb, hw] at hr
      refine ⟨_, hr, ?_⟩
      show StLike _ (dsH11 own own2 X.length Y.length X Y (p :: P).length (vcRow (p :: P)) 1 (vcRow [atV Y i]) _)
      exact ⟨rfl, .refl _, .refl _, .refl _, like_chopvcs _, trivial⟩
    | cons m M =>
      have hr := dsR11 own own2 X.length Y.length X Y (p :: P).length (vcRow (p :: P)) (m :: M).length (vcRow (m :: M)) i
      rw [hd, bd_ok' hi, gd_true, lk_true, gd_true, ghT_ok (show lenB X (atV Y i) = true from decide_eq_true (by omega)), gd_true, opsOf_opRow, hb, hw] at hr
      simp only [rT3_ok (show (m :: M).length ≤ 4096 by omega), gd_true] at hr
      refine ⟨_, hr, ?_⟩
      show StLike _ (dsH11 own own2 X.length Y.length X Y (p :: P).length (vcRow (p :: P)) ((m :: M) ++ [atV Y i]).length (vcRow ((m :: M) ++ [atV Y i])) _)
      rw [show ((m :: M) ++ [atV Y i]).length = (m :: M).length + 1 by rw [List.length_append]; rfl]
      exact ⟨rfl, .refl _, .refl _, .refl _, like_nrvcs rfl _, trivial⟩
theorem dsStf (own own2 : Bool) (X : List O3) (Y : List V3) (P M : List V3) (hX : X.length ≤ 192) {i : Nat} (hi : i < Y.length) (hq : Y.length ≤ 4096) (hp : P.length + M.length ≤ 4096) (hb : decide (wyI X (atV Y i) ≥ 0) = false) : ∃ s2, roundR ((Ckx Try.prog).into 27 2) 60 (forBody (stmt 6 (dsB Try.prog))) [0, 10, 11, 40, 41, 42] [10, 11] [.fix 0, .fix 1, .slot 10, .slot 11] [.fix 0, .fix 1, .slot 10, .slot 11] (dsH own own2 X.length Y.length X Y P M (i : Int)) = some (.normal, s2) ∧ StLike s2 (dsH own own2 X.length Y.length X Y (P ++ [atV Y i]) M ((i + 1 : Nat) : Int)) := by
  have hd : decide ((i : Int) < (Y.length : Int)) = true := by simp; omega
  have hw : W ((i : Int) + 1) = ((i + 1 : Nat) : Int) := by rw [W_in (by omega)]; simp
  cases P with
  | nil =>
    cases M with
    | nil =>
      have hr := dsR00 own own2 X.length Y.length X Y  i
      rw [hd, bd_ok' hi, gd_true, lk_true, gd_true, ghT_ok (show lenB X (atV Y i) = true from decide_eq_true (by omega)), gd_true, opsOf_opRow, hb, hw] at hr
      refine ⟨_, hr, ?_⟩
      show StLike _ (dsH10 own own2 X.length Y.length X Y 1 (vcRow [atV Y i])  _)
      exact ⟨rfl, .refl _, .refl _, like_chopvcs _, .refl _, trivial⟩
    | cons m M =>
      have hr := dsR01 own own2 X.length Y.length X Y (m :: M).length (vcRow (m :: M)) i
      rw [hd, bd_ok' hi, gd_true, lk_true, gd_true, ghT_ok (show lenB X (atV Y i) = true from decide_eq_true (by omega)), gd_true, opsOf_opRow, hb, hw] at hr
      refine ⟨_, hr, ?_⟩
      show StLike _ (dsH11 own own2 X.length Y.length X Y 1 (vcRow [atV Y i]) (m :: M).length (vcRow (m :: M)) _)
      exact ⟨rfl, .refl _, .refl _, like_chopvcs _, .refl _, trivial⟩
  | cons p P =>
    cases M with
    | nil =>
      have hr := dsR10 own own2 X.length Y.length X Y (p :: P).length (vcRow (p :: P)) i
      rw [hd, bd_ok' hi, gd_true, lk_true, gd_true, ghT_ok (show lenB X (atV Y i) = true from decide_eq_true (by omega)), gd_true, opsOf_opRow, hb, hw] at hr
      simp only [rT3_ok (show (p :: P).length ≤ 4096 by omega), gd_true] at hr
      refine ⟨_, hr, ?_⟩
      show StLike _ (dsH10 own own2 X.length Y.length X Y ((p :: P) ++ [atV Y i]).length (vcRow ((p :: P) ++ [atV Y i]))  _)
      rw [show ((p :: P) ++ [atV Y i]).length = (p :: P).length + 1 by rw [List.length_append]; rfl]
      exact ⟨rfl, .refl _, .refl _, like_nrvcs rfl _, .refl _, trivial⟩
    | cons m M =>
      have hr := dsR11 own own2 X.length Y.length X Y (p :: P).length (vcRow (p :: P)) (m :: M).length (vcRow (m :: M)) i
      rw [hd, bd_ok' hi, gd_true, lk_true, gd_true, ghT_ok (show lenB X (atV Y i) = true from decide_eq_true (by omega)), gd_true, opsOf_opRow, hb, hw] at hr
      simp only [rT3_ok (show (p :: P).length ≤ 4096 by omega), gd_true] at hr
      refine ⟨_, hr, ?_⟩
      show StLike _ (dsH11 own own2 X.length Y.length X Y ((p :: P) ++ [atV Y i]).length (vcRow ((p :: P) ++ [atV Y i])) (m :: M).length (vcRow (m :: M)) _)
      rw [show ((p :: P) ++ [atV Y i]).length = (p :: P).length + 1 by rw [List.length_append]; rfl]
      exact ⟨rfl, .refl _, .refl _, like_nrvcs rfl _, .refl _, trivial⟩
theorem dsLp (own own2 : Bool) (X : List O3) (Y : List V3) (hX : X.length ≤ 192) (hq : Y.length ≤ 4096) : ∀ (c i : Nat) (P M : List V3), i + c = Y.length → P.length + M.length = i → LoopSem Try.prog 2 (forBody (stmt 6 (dsB Try.prog))) (dsH own own2 X.length Y.length X Y P M (i : Int)) (.exit 2) (dsZ own own2 X.length Y.length X Y (P ++ (Y.drop i).filter fun v => !decide (wyI X v ≥ 0)) (M ++ (Y.drop i).filter fun v => decide (wyI X v ≥ 0))) := by
  intro c
  induction c with
  | zero =>
    intro i P M hi _
    have : i = Y.length := by omega
    subst this
    rw [List.drop_eq_nil_of_le (Nat.le_refl _), List.filter_nil, List.filter_nil, List.append_nil, List.append_nil]
    exact loop_leave (C := Ckx Try.prog) okkx (f := 27) (B := 2) dsIn.2 (dsOut own own2 X Y P M) (by simp)
  | succ c ih =>
    intro i P M hi hp
    have hd : Y.drop i = atV Y i :: Y.drop (i + 1) := by rw [List.drop_eq_getElem_cons (by omega), atV_get (by omega)]
    rw [hd, List.filter_cons, List.filter_cons]
    cases hb : decide (wyI X (atV Y i) ≥ 0) with
    | true =>
      obtain ⟨s2, hr, hl⟩ := dsStt own own2 X Y P M hX (show i < Y.length by omega) hq (by omega) hb
      have := ih (i + 1) P (M ++ [atV Y i]) (by omega) (by simp; omega)
      rw [List.append_assoc] at this
      exact loop_next (C := Ckx Try.prog) okkx (f := 27) (B := 2) dsIn.2 hr hl this
    | false =>
      obtain ⟨s2, hr, hl⟩ := dsStf own own2 X Y P M hX (show i < Y.length by omega) hq (by omega) hb
      have := ih (i + 1) (P ++ [atV Y i]) M (by omega) (by simp; omega)
      rw [List.append_assoc] at this
      exact loop_next (C := Ckx Try.prog) okkx (f := 27) (B := 2) dsIn.2 hr hl this
def dsS (own own2 : Bool) (n q : Nat) (xs : List O3) (Y : List V3) (a e : Int) : St := stOf 60 [(0, .slice (some ⟨0, 0, some 0⟩) n 12), (1, .slice (some ⟨1, 0, some 0⟩) q 3), (4, .slice none 0 0), (5, .slice none 0 0), (6, vI a), (7, vI e)] [.rows own true 12 n (opRow xs), .rows own2 true 3 q (vcRow Y)]
def dsI (own own2 : Bool) (n q : Nat) (xs : List O3) (Y : List V3) (e i : Int) : St := stOf 60 [(0, .slice (some ⟨0, 0, some 0⟩) n 12), (1, .slice (some ⟨1, 0, some 0⟩) q 3), (4, .slice none 0 0), (5, .slice none 0 0), (6, vI 0), (7, vI e), (27, .slice (some ⟨1, 0, some 0⟩) q 3), (28, vI q), (29, vI i)] [.rows own true 12 n (opRow xs), .rows own2 true 3 q (vcRow Y)]
def dsE (own own2 : Bool) (n q : Nat) (xs : List O3) (Y : List V3) : St := stOf 60 [(0, .slice (some ⟨0, 0, some 0⟩) n 12), (1, .slice (some ⟨1, 0, some 0⟩) q 3), (10, .slice none 0 0), (11, .slice none 0 0)] [.rows own true 12 n (opRow xs), .rows own2 true 3 q (vcRow Y)]
def dsO (own own2 : Bool) (n q : Nat) (xs : List O3) (Y : List V3) (e : Int) : St := stOf 60 [(4, .slice none 0 0), (5, .slice none 0 0), (6, vI e)] [.rows own true 12 n (opRow xs), .rows own2 true 3 q (vcRow Y)]
theorem dsP (own own2 : Bool) (n q : Nat) (xs : List O3) (Y : List V3) : segR ((Ckx Try.prog).into 27 2) 60 2 (dsB Try.prog) [0, 1, 4, 5, 6, 7] [.fix 0, .fix 1] (enter Try.f27 [.slice (some ⟨0, 0, some 0⟩) n 12, .slice (some ⟨1, 0, some 0⟩) q 3] [.rows own true 12 n (opRow xs), .rows own2 true 3 q (vcRow Y)]) = gd (lk n) (gd (oT n (opRow xs)) (some (dsS own own2 n q xs Y 0 (chkI (opsOf n (opRow xs)))))) := by kernel_rfl
theorem dsHas2 : hasStmt 2 (dsB Try.prog) = true ∧ hasStmt 3 (dsB Try.prog) = true ∧ hasStmt 4 (dsB Try.prog) = true := ⟨by kernel_rfl, by kernel_rfl, by kernel_rfl⟩
theorem dsR2 (own own2 : Bool) (n q : Nat) (xs : List O3) (Y : List V3) (e : Int) : roundR ((Ckx Try.prog).into 27 2) 60 (stmt 2 (dsB Try.prog)) [0, 1, 4, 5, 6, 7] [0, 1, 4, 5, 6, 7] [.fix 0, .fix 1] [.fix 0, .fix 1] (dsS own own2 n q xs Y 0 e) =
    (match decide ((q : Int) > 4096) with
    | true => (match e == 0 with
      | true => some (.normal, (dsS own own2 n q xs Y 0 2))
      | false => match decide (e > 2) with
        | true => some (.normal, (dsS own own2 n q xs Y 0 2))
        | false => some (.normal, (dsS own own2 n q xs Y 0 e)))
    | false => some (.normal, (dsS own own2 n q xs Y 0 e))) := by kernel_rfl
theorem dsFor3 : isFor 0 (stmt 3 (dsB Try.prog)) = true := by kernel_rfl
theorem dsHd3 (own own2 : Bool) (n q : Nat) (xs : List O3) (Y : List V3) (e : Int) : roundR ((Ckx Try.prog).into 27 2) 60 (forHead (stmt 3 (dsB Try.prog))) [0, 1, 4, 5, 6, 7, 27, 28, 29] [0, 1, 4, 5, 6, 7, 27, 28, 29] [.fix 0, .fix 1] [.fix 0, .fix 1] (dsS own own2 n q xs Y 0 e) = some (.normal, dsI own own2 n q xs Y e 0) := by kernel_rfl
theorem dsR3 (own own2 : Bool) (n q : Nat) (xs : List O3) (Y : List V3) (e : Int) (i : Nat) : roundR ((Ckx Try.prog).into 27 2) 60 (forBody (stmt 3 (dsB Try.prog))) [0, 1, 4, 5, 6, 7, 27, 28, 29] [0, 1, 4, 5, 6, 7] [.fix 0, .fix 1] [.fix 0, .fix 1] (dsI own own2 n q xs Y e (i : Int)) =
    (match decide ((i : Int) < (q : Int)) with
    | true => gd (boundsI (i : Int) q) (match (atV Y i).ixk != 0 with
      | true => some (.ret, (dsS own own2 n q xs Y 1 e))
      | false => some (.normal, dsI own own2 n q xs Y e (W ((i : Int) + 1))))
    | false => some (.exit 0, (dsS own own2 n q xs Y 0 e))) := by kernel_rfl
theorem dsR4 (own own2 : Bool) (n q : Nat) (xs : List O3) (Y : List V3) (e : Int) : roundR ((Ckx Try.prog).into 27 2) 60 (stmt 4 (dsB Try.prog)) [4, 5, 6] [4, 5, 6] [.fix 0, .fix 1] [.fix 0, .fix 1] (dsS own own2 n q xs Y 0 e) =
    (match e != 0 with
    | true => some (.ret, dsO own own2 n q xs Y e)
    | false => some (.normal, dsO own own2 n q xs Y 0)) := by kernel_rfl
theorem dsM (own own2 : Bool) (n q : Nat) (xs : List O3) (Y : List V3) : segR ((Ckx Try.prog).into 27 2) 60 2 (seqDrop 4 (dsB Try.prog)) [0, 1, 10, 11] [.fix 0, .fix 1] (dsS own own2 n q xs Y 0 0) = some (dsE own own2 n q xs Y) := by kernel_rfl
theorem dsHd (own own2 : Bool) (n q : Nat) (xs : List O3) (Y : List V3) : roundR ((Ckx Try.prog).into 27 2) 60 (forHead (stmt 6 (dsB Try.prog))) [0, 10, 11, 40, 41, 42] [0, 10, 11, 40, 41, 42] [.fix 0, .fix 1, .slot 10, .slot 11] [.fix 0, .fix 1, .slot 10, .slot 11] (dsE own own2 n q xs Y) = some (.normal, dsH00 own own2 n q xs Y 0) := by kernel_rfl
theorem dsQs (own own2 : Bool) (n q : Nat) (xs : List O3) (Y : List V3) (a e : Int) : (retA Try.prog Try.f27 (.ret, (dsS own own2 n q xs Y a e))).res = some (.tuple #[.slice none 0 0, .slice none 0 0, vI a], [.rows own true 12 n (opRow xs), .rows own2 true 3 q (vcRow Y)]) := by kernel_rfl
theorem dsQe (own own2 : Bool) (n q : Nat) (xs : List O3) (Y : List V3) (e : Int) : (retA Try.prog Try.f27 (.ret, dsO own own2 n q xs Y e)).res = some (.tuple #[.slice none 0 0, .slice none 0 0, vI e], [.rows own true 12 n (opRow xs), .rows own2 true 3 q (vcRow Y)]) := by kernel_rfl
def dsF00 (own own2 : Bool) (n q : Nat) (xs : List O3) (Y : List V3)  : St := stOf 60 [(4, .slice none 0 0), (5, .slice none 0 0), (6, vI 0)] [.rows own true 12 n (opRow xs), .rows own2 true 3 q (vcRow Y), .no, .no]
theorem dsD00 (own own2 : Bool) (n q : Nat) (xs : List O3) (Y : List V3)  : roundR ((Ckx Try.prog).into 27 2) 60 (seqDrop 7 (dsB Try.prog)) [4, 5, 6] [4, 5, 6] [.fix 0, .fix 1, .slot 4, .slot 5] [.fix 0, .fix 1, .slot 4, .slot 5] (dsZ00 own own2 n q xs Y ) = some (.ret, dsF00 own own2 n q xs Y ) := by kernel_rfl
theorem dsQ00 (own own2 : Bool) (n q : Nat) (xs : List O3) (Y : List V3)  : (retA Try.prog Try.f27 (.ret, dsF00 own own2 n q xs Y )).res = some (.tuple #[.slice none 0 0, .slice none 0 0, vI 0], [.rows own true 12 n (opRow xs), .rows own2 true 3 q (vcRow Y), .no, .no]) := by kernel_rfl
def dsF01 (own own2 : Bool) (n q : Nat) (xs : List O3) (Y : List V3) (l : Nat) (rm : Nat → List Value) : St := stOf 60 [(4, .slice none 0 0), (5, .slice (some ⟨3, 0, some 0⟩) l 3), (6, vI 0)] [.rows own true 12 n (opRow xs), .rows own2 true 3 q (vcRow Y), .no, .rows true true 3 l rm]
theorem dsD01 (own own2 : Bool) (n q : Nat) (xs : List O3) (Y : List V3) (l : Nat) (rm : Nat → List Value) : roundR ((Ckx Try.prog).into 27 2) 60 (seqDrop 7 (dsB Try.prog)) [4, 5, 6] [4, 5, 6] [.fix 0, .fix 1, .slot 4, .slot 5] [.fix 0, .fix 1, .slot 4, .slot 5] (dsZ01 own own2 n q xs Y l rm) = some (.ret, dsF01 own own2 n q xs Y l rm) := by kernel_rfl
theorem dsQ01 (own own2 : Bool) (n q : Nat) (xs : List O3) (Y : List V3) (l : Nat) (rm : Nat → List Value) : (retA Try.prog Try.f27 (.ret, dsF01 own own2 n q xs Y l rm)).res = some (.tuple #[.slice none 0 0, .slice (some ⟨3, 0, some 0⟩) l 3, vI 0], [.rows own true 12 n (opRow xs), .rows own2 true 3 q (vcRow Y), .no, .rows true true 3 l rm]) := by kernel_rfl
def dsF10 (own own2 : Bool) (n q : Nat) (xs : List O3) (Y : List V3) (k : Nat) (rp : Nat → List Value) : St := stOf 60 [(4, .slice (some ⟨2, 0, some 0⟩) k 3), (5, .slice none 0 0), (6, vI 0)] [.rows own true 12 n (opRow xs), .rows own2 true 3 q (vcRow Y), .rows true true 3 k rp, .no]
theorem dsD10 (own own2 : Bool) (n q : Nat) (xs : List O3) (Y : List V3) (k : Nat) (rp : Nat → List Value) : roundR ((Ckx Try.prog).into 27 2) 60 (seqDrop 7 (dsB Try.prog)) [4, 5, 6] [4, 5, 6] [.fix 0, .fix 1, .slot 4, .slot 5] [.fix 0, .fix 1, .slot 4, .slot 5] (dsZ10 own own2 n q xs Y k rp) = some (.ret, dsF10 own own2 n q xs Y k rp) := by kernel_rfl
theorem dsQ10 (own own2 : Bool) (n q : Nat) (xs : List O3) (Y : List V3) (k : Nat) (rp : Nat → List Value) : (retA Try.prog Try.f27 (.ret, dsF10 own own2 n q xs Y k rp)).res = some (.tuple #[.slice (some ⟨2, 0, some 0⟩) k 3, .slice none 0 0, vI 0], [.rows own true 12 n (opRow xs), .rows own2 true 3 q (vcRow Y), .rows true true 3 k rp, .no]) := by kernel_rfl
def dsF11 (own own2 : Bool) (n q : Nat) (xs : List O3) (Y : List V3) (k : Nat) (rp : Nat → List Value) (l : Nat) (rm : Nat → List Value) : St := stOf 60 [(4, .slice (some ⟨2, 0, some 0⟩) k 3), (5, .slice (some ⟨3, 0, some 0⟩) l 3), (6, vI 0)] [.rows own true 12 n (opRow xs), .rows own2 true 3 q (vcRow Y), .rows true true 3 k rp, .rows true true 3 l rm]
theorem dsD11 (own own2 : Bool) (n q : Nat) (xs : List O3) (Y : List V3) (k : Nat) (rp : Nat → List Value) (l : Nat) (rm : Nat → List Value) : roundR ((Ckx Try.prog).into 27 2) 60 (seqDrop 7 (dsB Try.prog)) [4, 5, 6] [4, 5, 6] [.fix 0, .fix 1, .slot 4, .slot 5] [.fix 0, .fix 1, .slot 4, .slot 5] (dsZ11 own own2 n q xs Y k rp l rm) = some (.ret, dsF11 own own2 n q xs Y k rp l rm) := by kernel_rfl
theorem dsQ11 (own own2 : Bool) (n q : Nat) (xs : List O3) (Y : List V3) (k : Nat) (rp : Nat → List Value) (l : Nat) (rm : Nat → List Value) : (retA Try.prog Try.f27 (.ret, dsF11 own own2 n q xs Y k rp l rm)).res = some (.tuple #[.slice (some ⟨2, 0, some 0⟩) k 3, .slice (some ⟨3, 0, some 0⟩) l 3, vI 0], [.rows own true 12 n (opRow xs), .rows own2 true 3 q (vcRow Y), .rows true true 3 k rp, .rows true true 3 l rm]) := by kernel_rfl
/-- DocSort's error of the group, with the length. -/
def dsK (X : List O3) (Y : List V3) : Int := match decide ((Y.length : Int) > 4096) with
  | true => (match chkI X == 0 with
    | true => 2
    | false => match decide (chkI X > 2) with
      | true => 2
      | false => chkI X)
  | false => chkI X
theorem leastN_min {a b : Int} (ha : a ≠ 0) (hb : b ≠ 0) : leastN a b = if b < a then b else a := by
  unfold leastN
  rw [show (a == 0) = false by simpa using ha, show (b != 0) = true by simpa using hb]
  by_cases h : b < a <;> simp [h]
theorem ds_bad {X : List O3} {Y : List V3} {k : Nat} (h : fst? (kxT Y) Y.length 0 = some k) : leastN (kxI Y) (chkI X) = 1 := by
  have hk := (fst?_some h).2.2.1
  unfold kxI
  rw [h]
  unfold kxT at hk
  rcases ixk_vals (atV Y k) with h0 | h1
  · rw [h0] at hk; cases hk
  · simp only [h1]
    rcases chk_vals X with h0 | h0
    · rw [h0]; rfl
    · rw [leastN_min (by omega) (by omega), if_neg (by omega)]
theorem ds_good {X : List O3} {Y : List V3} (h : fst? (kxT Y) Y.length 0 = none) : leastN (kxI Y) (chkI X) = dsK X Y := by
  unfold kxI dsK
  rw [h]
  simp only
  cases decide ((Y.length : Int) > 4096) with
  | false => unfold leastN; simp
  | true =>
    simp only
    rcases chk_vals X with h0 | h0
    · rw [h0]; rfl
    · have hb : (chkI X == 0) = false := by simp; omega
      rw [hb]
      simp only
      by_cases h2 : chkI X > 2
      · rw [decide_eq_true h2, leastN_min (by omega) (by omega), if_neg (by omega)]
      · rw [decide_eq_false h2, leastN_min (by omega) (by omega)]
        by_cases h3 : chkI X < 2
        · rw [if_pos h3]
        · rw [if_neg h3]; simp only; omega
theorem ds_at (own own2 : Bool) (X : List O3) (Y : List V3) : roundR ((Ckx Try.prog).into 27 2) 60 (stmt 2 (dsB Try.prog)) [0, 1, 4, 5, 6, 7] [0, 1, 4, 5, 6, 7] [.fix 0, .fix 1] [.fix 0, .fix 1] (dsS own own2 X.length Y.length X Y 0 (chkI X)) = some (.normal, dsS own own2 X.length Y.length X Y 0 (dsK X Y)) := by
  refine (dsR2 own own2 X.length Y.length X Y (chkI X)).trans ?_
  unfold dsK
  cases decide ((Y.length : Int) > 4096) with
  | false => rfl
  | true =>
    cases chkI X == 0 with
    | true => rfl
    | false =>
      cases decide (chkI X > 2) with
      | true => rfl
      | false => rfl
theorem dsPre (own own2 : Bool) (X : List O3) (Y : List V3) (z : St) (v : Value) (m : Mem) (hv : (retA Try.prog Try.f27 (.ret, z)).res = some (v, m)) (h : CodeSem Try.prog 2 (seqDrop 3 (dsB Try.prog)) (dsS own own2 X.length Y.length X Y 0 (dsK X Y)) .ret z) : MemSem Try.prog 27 [.slice (some ⟨0, 0, some 0⟩) X.length 12, .slice (some ⟨1, 0, some 0⟩) Y.length 3] [.rows own true 12 X.length (opRow X), .rows own2 true 3 Y.length (vcRow Y)] v m := by
  have r1 := dsP own own2 X.length Y.length X Y
  rw [lk_true, gd_true, oT_ok, gd_true, opsOf_opRow] at r1
  have body0 : InBody ((Ckx Try.prog).into 27 2) (dsB Try.prog) := Or.inl ⟨Try.f27, dsB Try.prog, Try.func27, dsB_eq, fun _ hx => hx⟩
  exact body_mem (P := Try.prog) (f := 27) (m := [.rows own true 12 X.length (opRow X), .rows own2 true 3 Y.length (vcRow Y)]) Try.func27 dsB_eq (by kernel_rfl) (seg_rule (C := Ckx Try.prog) okkx (f := 27) (B := 2) (k := 2) body0 r1 (stmt_rule dsHas2.1 (end_rule (C := Ckx Try.prog) okkx (f := 27) (B := 2) (stmt_in Try.func27 dsB_eq) (ds_at own own2 X Y)) h)) hv
set_option maxRecDepth 100000 in
theorem dsIn3 : InBody ((Ckx Try.prog).into 27 2) (forHead (stmt 3 (dsB Try.prog))) ∧ InBody ((Ckx Try.prog).into 27 2) (forBody (stmt 3 (dsB Try.prog))) := for_in (C := Ckx Try.prog) (f := 27) (B := 2) (id := 0) (k := 3) (fn := Try.f27) (b := dsB Try.prog) Try.func27 dsB_eq dsFor3
theorem dsSe (own own2 : Bool) (X : List O3) (Y : List V3) (hn : (Y.length : Int) ≤ 9223372036854775807) (e : leastN (kxI Y) (chkI X) ≠ 0) : MemSem Try.prog 27 [.slice (some ⟨0, 0, some 0⟩) X.length 12, .slice (some ⟨1, 0, some 0⟩) Y.length 3] [.rows own true 12 X.length (opRow X), .rows own2 true 3 Y.length (vcRow Y)] (.tuple #[.slice none 0 0, .slice none 0 0, vI (leastN (kxI Y) (chkI X))]) [.rows own true 12 X.length (opRow X), .rows own2 true 3 Y.length (vcRow Y)] := by
  have hl := scan_loop2 (C := Ckx Try.prog) okkx (f := 27) (B := 2) (m := 60) dsIn3.2 hn (fun i => dsI own own2 X.length Y.length X Y (dsK X Y) i) (kxT Y) (fun _ => dsS own own2 X.length Y.length X Y 1 (dsK X Y)) 0 (dsS own own2 X.length Y.length X Y 0 (dsK X Y)) (mask := [0, 1, 4, 5, 6, 7, 27, 28, 29]) (mout := [0, 1, 4, 5, 6, 7]) (sp := [.fix 0, .fix 1]) (so := [.fix 0, .fix 1]) fun i _ => dsR3 own own2 X.length Y.length X Y (dsK X Y) i
  have hd := end_rule (C := Ckx Try.prog) okkx (f := 27) (B := 2) dsIn3.1 (dsHd3 own own2 X.length Y.length X Y (dsK X Y))
  cases hf : fst? (kxT Y) Y.length 0 with
  | some k =>
    rw [ds_bad hf]
    exact dsPre own own2 X Y _ _ _ (dsQs own own2 X.length Y.length X Y 1 (dsK X Y)) (stmt_out dsHas2.2.1 (for_ret dsFor3 hd (hl.1 k hf)) (by simp))
  | none =>
    rw [ds_good hf] at e ⊢
    have r4 := dsR4 own own2 X.length Y.length X Y (dsK X Y)
    rw [show (dsK X Y != 0) = true by simpa using e] at r4
    exact dsPre own own2 X Y _ _ _ (dsQe own own2 X.length Y.length X Y (dsK X Y)) (stmt_rule dsHas2.2.1 (for_rule dsFor3 hd (hl.2 hf)) (stmt_out dsHas2.2.2 (end_rule (C := Ckx Try.prog) okkx (f := 27) (B := 2) (stmt_in Try.func27 dsB_eq) r4) (by simp)))
theorem ds_test {X : List O3} {v : V3} (e : acI X v = 0) : decide (wyI X v ≥ 0) = rsb X v := by
  unfold wyI rsb
  rw [rst_wyt e]
  cases hf : fst? (wyt X v) X.length 0 with
  | some k => simp
  | none => rfl
theorem dsSg (own own2 : Bool) (X : List O3) (Y : List V3) (e : leastN (kxI Y) (chkI X) = 0) : MemSem Try.prog 27 [.slice (some ⟨0, 0, some 0⟩) X.length 12, .slice (some ⟨1, 0, some 0⟩) Y.length 3] [.rows own true 12 X.length (opRow X), .rows own2 true 3 Y.length (vcRow Y)] (.tuple #[gv 2 (soL X Y), gv 3 (soM X Y), vI 0]) [.rows own true 12 X.length (opRow X), .rows own2 true 3 Y.length (vcRow Y), gr (soL X Y), gr (soM X Y)] := by
  obtain ⟨e1, e2⟩ := leastN_zero.1 e
  obtain ⟨hq, hix⟩ := kx_len e1
  have hX := (chk_grp e2).2.2
  have hn : (Y.length : Int) ≤ 9223372036854775807 := by omega
  have hf : fst? (kxT Y) Y.length 0 = none := by
    cases hf : fst? (kxT Y) Y.length 0 with
    | none => rfl
    | some k => rw [ds_bad hf] at e; cases e
  have hk : dsK X Y = 0 := by rw [← ds_good hf, e]
  have hl3 := scan_loop2 (C := Ckx Try.prog) okkx (f := 27) (B := 2) (m := 60) dsIn3.2 hn (fun i => dsI own own2 X.length Y.length X Y (dsK X Y) i) (kxT Y) (fun _ => dsS own own2 X.length Y.length X Y 1 (dsK X Y)) 0 (dsS own own2 X.length Y.length X Y 0 (dsK X Y)) (mask := [0, 1, 4, 5, 6, 7, 27, 28, 29]) (mout := [0, 1, 4, 5, 6, 7]) (sp := [.fix 0, .fix 1]) (so := [.fix 0, .fix 1]) fun i _ => dsR3 own own2 X.length Y.length X Y (dsK X Y) i
  have hd3 := end_rule (C := Ckx Try.prog) okkx (f := 27) (B := 2) dsIn3.1 (dsHd3 own own2 X.length Y.length X Y (dsK X Y))
  have hl := dsLp own own2 X Y hX hq Y.length 0 [] [] (by omega) rfl
  rw [List.drop_zero, List.nil_append, List.nil_append] at hl
  have f1 : (Y.filter fun v => !decide (wyI X v ≥ 0)) = soL X Y := List.filter_congr fun v hv => by rw [ds_test (leastN_zero.2 ⟨hix v hv, e2⟩)]
  have f2 : (Y.filter fun v => decide (wyI X v ≥ 0)) = soM X Y := List.filter_congr fun v hv => by rw [ds_test (leastN_zero.2 ⟨hix v hv, e2⟩)]
  rw [f1, f2] at hl
  have hd := end_rule (C := Ckx Try.prog) okkx (f := 27) (B := 2) dsIn.1 (dsHd own own2 X.length Y.length X Y)
  have fin : ∀ (z : St) (v : Value) (m : Mem), CodeSem Try.prog 2 (seqDrop 7 (dsB Try.prog)) (dsZ own own2 X.length Y.length X Y (soL X Y) (soM X Y)) .ret z → (retA Try.prog Try.f27 (.ret, z)).res = some (v, m) → MemSem Try.prog 27 [.slice (some ⟨0, 0, some 0⟩) X.length 12, .slice (some ⟨1, 0, some 0⟩) Y.length 3] [.rows own true 12 X.length (opRow X), .rows own2 true 3 Y.length (vcRow Y)] v m := fun z v m hz hv => by
    refine dsPre own own2 X Y z v m hv (stmt_rule dsHas2.2.1 (for_rule dsFor3 hd3 (hl3.2 hf)) ?_)
    rw [hk]
    refine seg_rule (C := Ckx Try.prog) okkx (f := 27) (B := 2) (k := 2) (bodyOf_in (C := Ckx Try.prog) (f := 27) (B := 2) (k := 4) Try.func27 dsB_eq) (dsM own own2 X.length Y.length X Y) ?_
    rw [seqDrop_drop]
    exact stmt_rule dsHas (for_rule dsFor hd hl) hz
  have hin := bodyOf_in (C := Ckx Try.prog) (f := 27) (B := 2) (k := 7) Try.func27 dsB_eq
  generalize soL X Y = P at fin ⊢
  generalize soM X Y = M at fin ⊢
  cases P with
  | nil =>
    cases M with
    | nil => exact fin _ _ _ (end_rule (C := Ckx Try.prog) okkx (f := 27) (B := 2) hin (dsD00 own own2 X.length Y.length X Y)) (dsQ00 own own2 X.length Y.length X Y)
    | cons m M => exact fin _ _ _ (end_rule (C := Ckx Try.prog) okkx (f := 27) (B := 2) hin (dsD01 own own2 X.length Y.length X Y _ _)) (dsQ01 own own2 X.length Y.length X Y _ _)
  | cons p P =>
    cases M with
    | nil => exact fin _ _ _ (end_rule (C := Ckx Try.prog) okkx (f := 27) (B := 2) hin (dsD10 own own2 X.length Y.length X Y _ _)) (dsQ10 own own2 X.length Y.length X Y _ _)
    | cons m M => exact fin _ _ _ (end_rule (C := Ckx Try.prog) okkx (f := 27) (B := 2) hin (dsD11 own own2 X.length Y.length X Y _ _ _ _)) (dsQ11 own own2 X.length Y.length X Y _ _ _ _)
end Go.Proofs.Ytjpfnfckpgilgaa
