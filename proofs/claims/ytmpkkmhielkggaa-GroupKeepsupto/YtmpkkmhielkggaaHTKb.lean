/-
  facetlaw05.GroupKeeps answers true. Nothing here is trusted.
-/
import Derived.Test.YtmpkkmhielkggaaHTKa
import Derived.Test.YtmpkkmhielkggaaHTBc
namespace Go.Proofs.Ytmpkkmhielkggaa
open Go Vx Go.RowKit
/-! Lists -/
/-- So many places from one on, set to a map. -/
def fillO (o : O3) : Nat → Nat → List O3 → List O3
  | 0, _, Y => Y
  | c + 1, i, Y => fillO o c (i + 1) (Y.set i o)
theorem fillO_len (o : O3) : ∀ (c i : Nat) (Y : List O3), (fillO o c i Y).length = Y.length
  | 0, _, _ => rfl
  | c + 1, i, Y => by simp only [fillO]; rw [fillO_len o c]; simp
theorem fillO_get (o : O3) : ∀ (c i : Nat) (Y : List O3) (q : Nat), (fillO o c i Y)[q]? = if i ≤ q ∧ q < i + c ∧ q < Y.length then some o else Y[q]?
  | 0, i, Y, q => by
    rw [if_neg (by omega)]
    rfl
  | c + 1, i, Y, q => by
    simp only [fillO]
    rw [fillO_get o c (i + 1) (Y.set i o) q]
    simp only [List.length_set]
    by_cases h : q = i
    · subst h
      rw [if_neg (by omega)]
      by_cases hl : q < Y.length
      · rw [List.getElem?_set_self hl, if_pos (by omega)]
      · rw [List.getElem?_eq_none (by simp; omega), if_neg (by omega), List.getElem?_eq_none (by omega)]
    · rw [List.getElem?_set_ne (fun e => h e.symm)]
      by_cases h2 : i + 1 ≤ q ∧ q < i + 1 + c ∧ q < Y.length
      · rw [if_pos h2, if_pos (by omega)]
      · rw [if_neg h2, if_neg (by omega)]
theorem fillO_take (o : O3) {n : Nat} {Y : List O3} (h : n ≤ Y.length) : (fillO o n 0 Y).take n = List.replicate n o := by
  apply List.ext_getElem?
  intro q
  rw [List.getElem?_take, List.getElem?_replicate]
  by_cases hq : q < n
  · rw [if_pos hq, if_pos hq, fillO_get, if_pos (by omega)]
  · rw [if_neg hq, if_neg hq]
theorem stR_like (Y : List O3) (o : O3) {i : Nat} (hi : i < Y.length) (l : Nat) (hl : l = Y.length) : rowsLike l (stR Y o (i : Int)) (opRow (Y.set i o)) := fun q hq => by
  have hm : ∀ a b : O3, setMany a.cells 0 b.cells = b.cells := fun _ _ => rfl
  unfold stR
  rw [Int.toNat_natCast, opRow_get hi, hm, opRow_get (by simp; omega : q < (Y.set i o).length)]
  cases hb : Nat.beq q i with
  | true =>
    have := Nat.eq_of_beq_eq_true hb
    subst this
    simp
  | false =>
    have hne : i ≠ q := fun e => by subst e; simp at hb
    simp [List.getElem_set_ne hne, opRow_get (by omega : q < Y.length)]
theorem full_rows {xs : List O3} : rowsLike (xs.length + 2) (catR xs.length (opRow xs) twR) (opRow (xs ++ [tO, mO])) := fun q hq => by
  rw [catR_at, opRow_get (by simp; omega : q < (xs ++ [tO, mO]).length)]
  by_cases h : q < xs.length
  · rw [if_pos h, opRow_get h, List.getElem_append_left h]
  · rw [if_neg h, List.getElem_append_right (by omega)]
    have : q = xs.length ∨ q = xs.length + 1 := by omega
    rcases this with e | e
    · subst e; simp only [Nat.sub_self]; rfl
    · subst e
      simp only [show xs.length + 1 - xs.length = 1 by omega]
      rfl
theorem room12_ok2 {k : Nat} (h : k ≤ 2000000) : room12 k = true := by unfold room12; simp; omega
theorem lkn_ok {n l : Nat} (h : n ≤ l) : lkn n l = true := by unfold lkn; rw [Nat.zero_add, Nat.ble_eq_true_of_le h]; rfl
theorem dcT_ok {n : Nat} {X : List O3} (h : n ≤ 1100000) : dcT n (opRow X) = true := by unfold dcT; rw [Nat.beq_refl, okOps_opRow]; simpa using h
theorem twT_ok {n : Nat} {X : List O3} (h : n ≤ 1500000) : twT n (opRow X) = true := by unfold twT; rw [Nat.beq_refl, okOps_opRow]; simpa using h
theorem pT_ok {n : Nat} {X : List O3} (h : n ≤ 1500000) : pT n (opRow X) = true := by unfold pT; rw [Nat.beq_refl, okOps_opRow]; simp; omega
theorem snoc_like (Y : List O3) (o : O3) {k : Nat} (h : Y.length = k) : rowsLike (k + 1) (catR k (opRow Y) (chop 12 0 o.cells)) (opRow (Y ++ [o])) := by
  subst h
  exact fun i hi => catR_one Y o i hi
/-- Copies of a map of a group close. -/
theorem cls_copies {n : Nat} (h : n ≤ 192) : clsOk (List.replicate n tO) = true := by
  have h1 : clsOk [tO] = true := by kernel_rfl
  refine cls_sub (clsG_grp h1) (clsOk_len h1) (by simpa using h) fun m hm => ?_
  rw [List.eq_of_mem_replicate hm]
  exact cls_has h1 (by simp)
def kpEnd (own : Bool) (xs : List O3) : St := stOf 165 [(2, .bool true)] [.rows own true 12 xs.length (opRow xs)]
theorem kpLast_eq {l : Nat} (h1 : 1 ≤ l) (h2 : l ≤ 1000000) : kpLast l = ((l - 1 : Nat) : Int) := by unfold kpLast; rw [W_in (by omega)]; omega
theorem kpS_ok {k : Nat} {G : List O3} (h : G.length = k) (hk : k ≤ 192) (x : Option St) : kpS k G x = x := by
  unfold kpS
  simp only [lk2_true, gd_true, ssT_ok (show k ≤ 1500000 by omega), opsOf_row h, sameB_iff.2 rfl]
theorem kpS2_ok {k : Nat} {G : List O3} (h : G.length = k) (hk : k ≤ 192) (x : Option St) : kpS2 k k G G x = x := by
  unfold kpS2
  simp only [lk2_true, gd_true, ssT_ok (show k ≤ 1500000 by omega), opsOf_row h, sameB_iff.2 rfl]
/-! The end: the lists appended to -/
theorem kpQ13 (own : Bool) (xs : List O3) (Y G : List O3) (hY : Y.length = G.length) (hk : G.length ≤ 192) : CodeSem Try.prog 1 (seqDrop 13 (kpB Try.prog)) (kpA4 own xs.length xs G.length (opRow Y) G) .ret (kpEnd own xs) := by
  have hr : (Nat.beq G.length G.length && room12 (G.length + 1)) = true := by rw [Nat.beq_refl, room12_ok (by omega)]; rfl
  have last : ∀ (X : List O3) (o : O3) (l : Nat), X.length = G.length → l = G.length + 1 → atO (X ++ [o]) (kpLast l) = o ∧ boundsI (kpLast l) l = true := fun X o l h1 h2 => by
    subst h2
    rw [kpLast_eq (by omega) (by omega)]
    refine ⟨?_, bd_ok (by omega)⟩
    rw [atO_get (by simp; omega)]
    simp [← h1]
  have h16 : CodeSem Try.prog 1 (seqDrop 16 (kpB Try.prog)) (kpA6 own xs.length xs (G.length + 1) (Y ++ [tO]) (G.length + 1) (opRow (G ++ [mO]))) .ret (kpEnd own xs) := by
    refine end_rule (C := Cpb Try.prog) okpb (bodyOf_in Try.func6 kpB_eq) (n := 60) (mask := [2]) (sp := [.fix 0]) ?_
    obtain ⟨a1, a2⟩ := last Y tO (G.length + 1) hY rfl
    obtain ⟨b1, b2⟩ := last G mO (G.length + 1) rfl rfl
    rw [kpP16, a2, gd_true, a1, b1, O3.eqB_refl, O3.eqB_refl]
    rfl
  have h14 : CodeSem Try.prog 1 (seqDrop 14 (kpB Try.prog)) (kpA5 own xs.length xs (G.length + 1) (opRow (Y ++ [tO])) G.length G) .ret (kpEnd own xs) := by
    refine seg_rule (C := Ckf Try.prog) okkf (bodyOf_in Try.func6 kpB_eq) (n := 60) (k := 2) (mask := [2, 5, 7]) (sp := [.fix 0, .slot 5, .slot 7]) (s := kpA6 own xs.length xs (G.length + 1) (Y ++ [tO]) (G.length + 1) (catR G.length (opRow G) (chop 12 0 mO.cells))) ?_ (by
      rw [seqDrop_drop]
      exact h16.like ⟨rfl, .refl _, .refl _, .rows (snoc_like G mO rfl), trivial⟩)
    rw [kpP14, kpS2_ok rfl hk, hr, gd_true]
  refine seg_rule (C := Cpb Try.prog) okpb (bodyOf_in Try.func6 kpB_eq) (n := 60) (k := 1) (mask := [2, 5, 7, 9]) (sp := [.fix 0, .slot 5, .slot 7, .slot 9]) (s := kpA5 own xs.length xs (G.length + 1) (catR G.length (opRow Y) (chop 12 0 tO.cells)) G.length G) ?_ (by
    rw [seqDrop_drop]
    exact h14.like ⟨rfl, .refl _, .rows (snoc_like Y tO hY), .refl _, .refl _, trivial⟩)
  rw [kpP13, hr, gd_true]
/-! The loops -/
set_option maxRecDepth 100000 in
theorem kpIn1 : InBody ((Cpb Try.prog).into 6 1) (forHead (stmt 8 (kpB Try.prog))) ∧ InBody ((Cpb Try.prog).into 6 1) (forBody (stmt 8 (kpB Try.prog))) := for_in (C := Cpb Try.prog) (f := 6) (B := 1) (id := 0) (k := 8) (fn := Try.f6) (b := kpB Try.prog) Try.func6 kpB_eq kpFor1
set_option maxRecDepth 100000 in
theorem kpIn2 : InBody ((Cpb Try.prog).into 6 1) (forHead (stmt 12 (kpB Try.prog))) ∧ InBody ((Cpb Try.prog).into 6 1) (forBody (stmt 12 (kpB Try.prog))) := for_in (C := Cpb Try.prog) (f := 6) (B := 1) (id := 2) (k := 12) (fn := Try.f6) (b := kpB Try.prog) Try.func6 kpB_eq kpFor2
structure KpM where
  (own : Bool) (n : Nat) (xs : List O3) (k : Nat) (Y G : List O3) (i : Nat)
theorem kpML (own : Bool) (n : Nat) (xs Y G : List O3) (k : Nat) (hY : Y.length = k) (hk : k ≤ 1000000) : LoopSem Try.prog 1 (forBody (stmt 12 (kpB Try.prog))) (kpMLH own n xs k (opRow Y) G 0) (.exit 2) (kpA4 own n xs k (opRow (fillO mO k 0 Y)) G) := by
  have key := loop_rule2 (C := Cpb Try.prog) okpb (f := 6) (B := 1) kpIn2.2 60 [2, 5, 7, 9, 126, 127] [2, 5, 7, 9] [.fix 0, .slot 5, .slot 7, .slot 9] [.fix 0, .slot 5, .slot 7, .slot 9] (fun g : KpM => kpMLH g.own g.n g.xs g.k (opRow g.Y) g.G (g.i : Int)) (fun g => g.k - g.i) (fun g => g.Y.length = g.k ∧ g.i ≤ g.k ∧ g.k ≤ 1000000) (fun g => (.exit 2, kpA4 g.own g.n g.xs g.k (opRow (fillO mO (g.k - g.i) g.i g.Y)) g.G)) ?_ ⟨own, n, xs, k, Y, G, 0⟩ ⟨hY, Nat.zero_le _, hk⟩
  · have key2 : LoopSem Try.prog 1 (forBody (stmt 12 (kpB Try.prog))) (kpMLH own n xs k (opRow Y) G ((0 : Nat) : Int)) (.exit 2) (kpA4 own n xs k (opRow (fillO mO (k - 0) 0 Y)) G) := key
    simpa using key2
  rintro ⟨own, n, xs, k, Y, G, i⟩ ⟨h1, h2, h3⟩
  simp only at h1 h2 h3
  by_cases hi : i < k
  · left
    refine ⟨⟨own, n, xs, k, Y.set i mO, G, i + 1⟩, kpMLH own n xs k (stR Y mO (i : Int)) G (W ((i : Int) + 1)), ?_, ?_, ⟨by simpa using h1, by simp only; omega, h3⟩, by simp only; omega, ?_⟩
    · simp only
      rw [kpMLR, show decide ((i : Int) < (k : Int)) = true by simpa using hi, bd_ok hi]
    · refine ⟨?_, .refl _, .rows (stR_like Y mO (by omega) k h1.symm), .refl _, .refl _, trivial⟩
      rw [W_in (by omega)]
      rfl
    · simp only
      rw [show k - i = (k - (i + 1)) + 1 by omega]
      rfl
  · right
    refine ⟨kpA4 own n xs k (opRow Y) G, ?_, ?_, by simp⟩
    · simp only
      rw [kpMLR, show decide ((i : Int) < (k : Int)) = false by simpa using hi]
    · simp only
      rw [show k - i = 0 by omega]
      exact StLike.refl _
theorem kpQ12 (own : Bool) (xs G : List O3) (hk : G.length ≤ 192) : CodeSem Try.prog 1 (seqDrop 12 (kpB Try.prog)) (kpA4 own xs.length xs G.length (opRow G) G) .ret (kpEnd own xs) :=
  stmt_rule kpHas.2 (for_rule kpFor2 (end_rule (C := Cpb Try.prog) okpb kpIn2.1 (kpML0 own xs.length xs G.length (opRow G) G)) (kpML own xs.length xs G G G.length rfl (by omega))) (kpQ13 own xs _ G (fillO_len _ _ _ _) hk)
theorem kpAL (own : Bool) (n : Nat) (xs Y G : List O3) (k l : Nat) (hY : Y.length = l) (hl : n ≤ l) (hn : n ≤ 2000000) : LoopSem Try.prog 1 (forBody (stmt 8 (kpB Try.prog))) (kpALH own n xs k G l (opRow Y) 0) (.exit 0) (kpA2 own n xs l (opRow (fillO tO n 0 Y)) k G) := by
  have key := loop_rule2 (C := Cpb Try.prog) okpb (f := 6) (B := 1) kpIn1.2 60 [2, 4, 5, 7, 9, 90, 91] [2, 4, 5, 7, 9] [.fix 0, .slot 4, .slot 5, .slot 7, .slot 9] [.fix 0, .slot 4, .slot 5, .slot 7, .slot 9] (fun g : KpM => kpALH g.own g.n g.xs k g.G l (opRow g.Y) (g.i : Int)) (fun g => g.n - g.i) (fun g => g.Y.length = l ∧ g.i ≤ g.n ∧ g.n ≤ l ∧ g.n ≤ 2000000) (fun g => (.exit 0, kpA2 g.own g.n g.xs l (opRow (fillO tO (g.n - g.i) g.i g.Y)) k g.G)) ?_ ⟨own, n, xs, k, Y, G, 0⟩ ⟨hY, Nat.zero_le _, hl, hn⟩
  · have key2 : LoopSem Try.prog 1 (forBody (stmt 8 (kpB Try.prog))) (kpALH own n xs k G l (opRow Y) ((0 : Nat) : Int)) (.exit 0) (kpA2 own n xs l (opRow (fillO tO (n - 0) 0 Y)) k G) := key
    simpa using key2
  rintro ⟨own, n, xs, k0, Y, G, i⟩ ⟨h1, h2, h3, h4⟩
  simp only at h1 h2 h3 h4
  by_cases hi : i < n
  · left
    refine ⟨⟨own, n, xs, k0, Y.set i tO, G, i + 1⟩, kpALH own n xs k G l (stR Y tO (i : Int)) (W ((i : Int) + 1)), ?_, ?_, ⟨by simpa using h1, by simp only; omega, h3, h4⟩, by simp only; omega, ?_⟩
    · simp only
      rw [kpALR, show decide ((i : Int) < (n : Int)) = true by simpa using hi, bd_ok hi]
    · refine ⟨?_, .refl _, .rows (stR_like Y tO (by omega) l h1.symm), .refl _, .refl _, .refl _, trivial⟩
      rw [W_in (by omega)]
      rfl
    · simp only
      rw [show n - i = (n - (i + 1)) + 1 by omega]
      rfl
  · right
    refine ⟨kpA2 own n xs l (opRow Y) k G, ?_, ?_, by simp⟩
    · simp only
      rw [kpALR, show decide ((i : Int) < (n : Int)) = false by simpa using hi]
    · simp only
      rw [show n - i = 0 by omega]
      exact StLike.refl _
theorem kpNL (own : Bool) (n : Nat) (xs Y : List O3) (l : Nat) (hY : Y.length = l) (hl : n ≤ l) (hn : n ≤ 2000000) : LoopSem Try.prog 1 (forBody (stmt 8 (kpB Try.prog))) (kpNLH own n xs l (opRow Y) 0) (.exit 0) (kpN2 own n xs l (opRow (fillO tO n 0 Y))) := by
  have key := loop_rule2 (C := Cpb Try.prog) okpb (f := 6) (B := 1) kpIn1.2 60 [2, 4, 5, 7, 9, 90, 91] [2, 4, 5, 7, 9] [.fix 0, .slot 4] [.fix 0, .slot 4] (fun g : KpM => kpNLH g.own g.n g.xs l (opRow g.Y) (g.i : Int)) (fun g => g.n - g.i) (fun g => g.Y.length = l ∧ g.i ≤ g.n ∧ g.n ≤ l ∧ g.n ≤ 2000000) (fun g => (.exit 0, kpN2 g.own g.n g.xs l (opRow (fillO tO (g.n - g.i) g.i g.Y)))) ?_ ⟨own, n, xs, 0, Y, [], 0⟩ ⟨hY, Nat.zero_le _, hl, hn⟩
  · have key2 : LoopSem Try.prog 1 (forBody (stmt 8 (kpB Try.prog))) (kpNLH own n xs l (opRow Y) ((0 : Nat) : Int)) (.exit 0) (kpN2 own n xs l (opRow (fillO tO (n - 0) 0 Y))) := key
    simpa using key2
  rintro ⟨own, n, xs, k0, Y, G, i⟩ ⟨h1, h2, h3, h4⟩
  simp only at h1 h2 h3 h4
  by_cases hi : i < n
  · left
    refine ⟨⟨own, n, xs, k0, Y.set i tO, G, i + 1⟩, kpNLH own n xs l (stR Y tO (i : Int)) (W ((i : Int) + 1)), ?_, ?_, ⟨by simpa using h1, by simp only; omega, h3, h4⟩, by simp only; omega, ?_⟩
    · simp only
      rw [kpNLR, show decide ((i : Int) < (n : Int)) = true by simpa using hi, bd_ok hi]
    · refine ⟨?_, .refl _, .rows (stR_like Y tO (by omega) l h1.symm), trivial⟩
      rw [W_in (by omega)]
      rfl
    · simp only
      rw [show n - i = (n - (i + 1)) + 1 by omega]
      rfl
  · right
    refine ⟨kpN2 own n xs l (opRow Y), ?_, ?_, by simp⟩
    · simp only
      rw [kpNLR, show decide ((i : Int) < (n : Int)) = false by simpa using hi]
    · simp only
      rw [show n - i = 0 by omega]
      exact StLike.refl _
/-! The middle -/
theorem full_take (xs : List O3) : opsOf xs.length (opRow (xs ++ [tO, mO])) = xs := by rw [opsOf_take (by simp)]; simp
theorem kpS7 (xs : List O3) (hn : xs.length ≤ 1048576) (x : Option St) : (gd (lkn xs.length (xs.length + 2)) (gd (oT xs.length (opRow (xs ++ [tO, mO]))) (gd (lk xs.length) (gd (pT xs.length (opRow xs)) (match chkI (opsOf xs.length (opRow (xs ++ [tO, mO]))) != chkI (opsOf xs.length (opRow xs)) with
      | true => none
      | false => gd (Nat.ble (0 + xs.length) (xs.length + 2) && (Nat.ble (0 + xs.length) xs.length && true)) (gd (ssT xs.length xs.length (opRow (xs ++ [tO, mO])) (opRow xs)) (gd (sameB (opsOf xs.length (opRow (xs ++ [tO, mO]))) (opsOf xs.length (opRow xs))) (gd (boundsI (xs.length : Int) (xs.length + 2)) (match !((atO (xs ++ [tO, mO]) (xs.length : Int)).eqB tO) with
        | true => none
        | false => gd (boundsI (W ((xs.length : Int) + 1)) (xs.length + 2)) (match !((atO (xs ++ [tO, mO]) (W ((xs.length : Int) + 1))).eqB mO) with
          | true => none
          | false => x))))))))) : Option St) = x := by
  have hw : W ((xs.length : Int) + 1) = ((xs.length + 1 : Nat) : Int) := by rw [W_in (by omega)]; simp
  have e1 : atO (xs ++ [tO, mO]) (xs.length : Int) = tO := by rw [atO_get (by simp)]; simp
  have e2 : atO (xs ++ [tO, mO]) ((xs.length + 1 : Nat) : Int) = mO := by rw [atO_get (by simp)]; simp [List.getElem_append_right]
  have b1 : (Nat.ble (0 + xs.length) (xs.length + 2) && (Nat.ble (0 + xs.length) xs.length && true)) = true := by rw [Nat.zero_add, Nat.ble_eq_true_of_le (by omega), Nat.ble_self_eq_true]; rfl
  rw [full_take xs, hw, e1, e2, O3.eqB_refl, O3.eqB_refl, b1]
  simp only [lkn_ok (show xs.length ≤ xs.length + 2 by omega), lk_true, gd_true, ot, pT_ok (show xs.length ≤ 1500000 by omega), opsOf_row rfl, bne_self_eq_false, ssT_ok (show xs.length ≤ 1500000 by omega), sameB_iff.2 rfl, bd_ok (show xs.length < xs.length + 2 by omega), bd_ok (show xs.length + 1 < xs.length + 2 by omega), Bool.not_true]
section
variable (own : Bool) (xs : List O3) (h0 : xs ≠ []) (hn : xs.length ≤ 1048576)
include h0 hn
theorem kpQ9 (Y G : List O3) (hY : Y.length = xs.length + 2) (ht : Y.take xs.length = List.replicate xs.length tO) (hk : G.length ≤ 192) (hx : xs.length ≤ 192) : CodeSem Try.prog 1 (seqDrop 9 (kpB Try.prog)) (kpA2 own xs.length xs (xs.length + 2) (opRow Y) G.length G) .ret (kpEnd own xs) := by
  have hpos : 1 ≤ xs.length := List.length_pos_iff.2 h0
  have hr : (List.replicate xs.length tO).length = xs.length := by simp
  have hc := cls_copies hx
  have h11 : CodeSem Try.prog 1 (seqDrop 11 (kpB Try.prog)) (kpA3 own xs.length xs G.length G (clsG (List.replicate xs.length tO)).length (clsG (List.replicate xs.length tO)).length (clsG (List.replicate xs.length tO)) (clsG (List.replicate xs.length tO))) .ret (kpEnd own xs) := by
    refine seg_rule (C := Ckf Try.prog) okkf (bodyOf_in Try.func6 kpB_eq) (n := 60) (k := 1) (mask := [2, 5, 7, 9]) (sp := [.fix 0, .slot 5, .slot 7, .slot 9]) (s := kpA4 own xs.length xs G.length (opRow G) G) ?_ (by rw [seqDrop_drop]; exact kpQ12 own xs G hk)
    rw [kpP6, kpS2_ok rfl (clsOk_len hc), kpS2_ok rfl hk]
  refine seg_rule (C := Ckd Try.prog) okkd (bodyOf_in Try.func6 kpB_eq) (n := 60) (k := 2) (mask := [2, 5, 6, 7, 9, 10, 12, 13]) (sp := [.fix 0, .slot 5, .slot 7, .slot 9, .slot 12, .slot 13]) (s := _) ?_ (by rw [seqDrop_drop]; exact h11)
  rw [kpP5]
  unfold kpT5
  rw [opsOf_take (by omega : xs.length ≤ Y.length), ht, opsOf_row hr]
  simp only [lkn_ok (show xs.length ≤ xs.length + 2 by omega), lk_true, gd_true, ot, hc, twT_ok (show xs.length ≤ 1500000 by omega), dcT_ok (show xs.length ≤ 1100000 by omega), beq_ff (show xs.length ≠ 0 by omega), gn_false]
theorem kpQ9n (Y : List O3) (hY : Y.length = xs.length + 2) (ht : Y.take xs.length = List.replicate xs.length tO) : CodeSem Try.prog 1 (seqDrop 9 (kpB Try.prog)) (kpN2 own xs.length xs (xs.length + 2) (opRow Y)) .ret (kpEnd own xs) := by
  have hpos : 1 ≤ xs.length := List.length_pos_iff.2 h0
  have hr : (List.replicate xs.length tO).length = xs.length := by simp
  have h12 : CodeSem Try.prog 1 (seqDrop 12 (kpB Try.prog)) (kpN4 own xs.length xs) .ret (kpEnd own xs) := end_rule (C := Ckf Try.prog) okkf (bodyOf_in Try.func6 kpB_eq) (kpP12n own xs.length xs)
  cases hc : clsOk (List.replicate xs.length tO) with
  | true =>
    have h11 : CodeSem Try.prog 1 (seqDrop 11 (kpB Try.prog)) (kpN3 own xs.length xs (clsG (List.replicate xs.length tO)).length (clsG (List.replicate xs.length tO)).length (clsG (List.replicate xs.length tO)) (clsG (List.replicate xs.length tO))) .ret (kpEnd own xs) := by
      refine seg_rule (C := Ckf Try.prog) okkf (bodyOf_in Try.func6 kpB_eq) (n := 60) (k := 1) (mask := [2, 5, 7, 9]) (sp := [.fix 0]) (s := kpN4 own xs.length xs) ?_ (by rw [seqDrop_drop]; exact h12)
      rw [kpP6n, kpS2_ok rfl (clsOk_len hc)]
    refine seg_rule (C := Ckd Try.prog) okkd (bodyOf_in Try.func6 kpB_eq) (n := 60) (k := 2) (mask := [2, 5, 6, 7, 9, 10, 12, 13]) (sp := [.fix 0, .slot 12, .slot 13]) (s := _) ?_ (by rw [seqDrop_drop]; exact h11)
    rw [kpP5n]
    unfold kpT5
    rw [opsOf_take (by omega : xs.length ≤ Y.length), ht, opsOf_row hr]
    simp only [lkn_ok (show xs.length ≤ xs.length + 2 by omega), lk_true, gd_true, ot, hc, twT_ok (show xs.length ≤ 1500000 by omega), dcT_ok (show xs.length ≤ 1100000 by omega), beq_ff (show xs.length ≠ 0 by omega), gn_false]
  | false =>
    have h11 : CodeSem Try.prog 1 (seqDrop 11 (kpB Try.prog)) (kpN3e own xs.length xs (clsErr (List.replicate xs.length tO)) (clsErr (List.replicate xs.length tO))) .ret (kpEnd own xs) := by
      refine seg_rule (C := Ckf Try.prog) okkf (bodyOf_in Try.func6 kpB_eq) (n := 60) (k := 1) (mask := [2, 5, 7, 9]) (sp := [.fix 0]) (s := kpN4 own xs.length xs) ?_ (by rw [seqDrop_drop]; exact h12)
      rw [kpP6e, show (clsErr (List.replicate xs.length tO) != clsErr (List.replicate xs.length tO)) = false by simp]
    refine seg_rule (C := Cke Try.prog) okke (bodyOf_in Try.func6 kpB_eq) (n := 60) (k := 2) (mask := [2, 5, 6, 7, 9, 10, 12, 13]) (sp := [.fix 0]) (s := _) ?_ (by rw [seqDrop_drop]; exact h11)
    rw [kpP5e, opsOf_take (by omega : xs.length ≤ Y.length), ht, opsOf_row hr]
    simp only [lkn_ok (show xs.length ≤ xs.length + 2 by omega), lk_true, gd_true, ot, hc, twT_ok (show xs.length ≤ 1500000 by omega), dcT_ok (show xs.length ≤ 1100000 by omega), beq_ff (show xs.length ≠ 0 by omega), gn_false]
theorem kpQ8 (G : List O3) (hk : G.length ≤ 192) (hx : xs.length ≤ 192) : CodeSem Try.prog 1 (seqDrop 8 (kpB Try.prog)) (kpA2 own xs.length xs (xs.length + 2) (opRow (xs ++ [tO, mO])) G.length G) .ret (kpEnd own xs) :=
  stmt_rule kpHas.1 (for_rule kpFor1 (end_rule (C := Cpb Try.prog) okpb kpIn1.1 (kpAL0 own xs.length xs G.length G (xs.length + 2) (opRow (xs ++ [tO, mO])))) (kpAL own xs.length xs (xs ++ [tO, mO]) G G.length (xs.length + 2) (by simp) (by omega) (by omega))) (kpQ9 own xs h0 hn _ G (by rw [fillO_len]; simp) (fillO_take tO (by simp)) hk hx)
theorem kpQ8n : CodeSem Try.prog 1 (seqDrop 8 (kpB Try.prog)) (kpN2 own xs.length xs (xs.length + 2) (opRow (xs ++ [tO, mO]))) .ret (kpEnd own xs) :=
  stmt_rule kpHas.1 (for_rule kpFor1 (end_rule (C := Cpb Try.prog) okpb kpIn1.1 (kpNL0 own xs.length xs (xs.length + 2) (opRow (xs ++ [tO, mO])))) (kpNL own xs.length xs (xs ++ [tO, mO]) (xs.length + 2) (by simp) (by omega) (by omega))) (kpQ9n own xs h0 hn _ (by rw [fillO_len]; simp) (fillO_take tO (by simp)))
theorem kpQ4 : CodeSem Try.prog 1 (seqDrop 4 (kpB Try.prog)) (kp1 own xs.length xs (xs.length + 2) (opRow (xs ++ [tO, mO]))) .ret (kpEnd own xs) := by
  have hl := lkn_ok (show xs.length ≤ xs.length + 2 by omega)
  cases hc : clsOk xs with
  | true =>
    have hx := (clsOk_spec hc).1
    have hk := clsOk_len hc
    have h7 : CodeSem Try.prog 1 (seqDrop 7 (kpB Try.prog)) (kpA own xs.length xs (xs.length + 2) (xs ++ [tO, mO]) (clsG xs).length (clsG xs)) .ret (kpEnd own xs) := by
      refine seg_rule (C := Ckc Try.prog) okkc (bodyOf_in Try.func6 kpB_eq) (n := 90) (k := 1) (mask := [2, 4, 5, 7, 9]) (sp := [.fix 0, .slot 4, .slot 5, .slot 7, .slot 9]) (s := kpA2 own xs.length xs (xs.length + 2) (opRow (xs ++ [tO, mO])) (clsG xs).length (clsG xs)) ?_ (by rw [seqDrop_drop]; exact kpQ8 own xs h0 hn (clsG xs) hk hx)
      rw [kpP3, kpS_ok rfl hk, kpS_ok rfl hk]
      exact kpS7 xs hn _
    refine seg_rule (C := Cka Try.prog) okka (bodyOf_in Try.func6 kpB_eq) (n := 60) (k := 3) (mask := [0, 2, 3, 4, 5, 6, 7, 9, 10]) (sp := [.fix 0, .slot 3, .slot 5, .slot 7, .slot 9]) (s := _) ?_ (by rw [seqDrop_drop]; exact h7)
    rw [kpP2, full_take xs, opsOf_row rfl]
    simp only [hl, lk_true, gd_true, ot, hc, dcT_ok (show xs.length ≤ 1100000 by omega)]
    rfl
  | false =>
    have h7 : CodeSem Try.prog 1 (seqDrop 7 (kpB Try.prog)) (kpN own xs.length xs (xs.length + 2) (xs ++ [tO, mO]) (clsErr xs) (clsErr xs)) .ret (kpEnd own xs) := by
      refine seg_rule (C := Ckc Try.prog) okkc (bodyOf_in Try.func6 kpB_eq) (n := 90) (k := 1) (mask := [2, 4, 5, 7, 9]) (sp := [.fix 0, .slot 4]) (s := kpN2 own xs.length xs (xs.length + 2) (opRow (xs ++ [tO, mO]))) ?_ (by rw [seqDrop_drop]; exact kpQ8n own xs h0 hn)
      rw [kpP3n, show (clsErr xs != clsErr xs) = false by simp]
      exact kpS7 xs hn _
    refine seg_rule (C := Ckb Try.prog) okkb (bodyOf_in Try.func6 kpB_eq) (n := 60) (k := 3) (mask := [0, 2, 3, 4, 5, 6, 7, 9, 10]) (sp := [.fix 0, .slot 3]) (s := _) ?_ (by rw [seqDrop_drop]; exact h7)
    rw [kpP2n, full_take xs, opsOf_row rfl]
    simp only [hl, lk_true, gd_true, ot, hc, dcT_ok (show xs.length ≤ 1100000 by omega), gn_false]
theorem kpQ0 : CodeSem Try.prog 1 (kpB Try.prog) (enter Try.f6 [.slice (some ⟨0, 0, some 0⟩) xs.length 12] [.rows own true 12 xs.length (opRow xs)]) .ret (kpEnd own xs) := by
  have hpos : 1 ≤ xs.length := List.length_pos_iff.2 h0
  have h1 := kpP1 own xs.length xs
  rw [lk_true, twT_ok (n := xs.length) (X := xs) (by omega), beq_ff (show xs.length ≠ 0 by omega), Nat.beq_refl, room12_ok2 (k := xs.length + 2) (by omega), show leI (xs.length : Int) (xs.length + 2) = true from le_ok (i := xs.length) (k := xs.length + 2) (by omega), opsOf_row rfl] at h1
  exact seg_rule (C := Cqa Try.prog) okqa (f := 6) (B := 1) (body_in0 Try.func6 kpB_eq) h1 ((kpQ4 own xs h0 hn).like ⟨rfl, .refl _, .rows full_rows, trivial⟩)
end
theorem kp_sem (own : Bool) (xs : List O3) (hn : xs.length ≤ 1048576) : MemSem Try.prog 6 [.slice (some ⟨0, 0, some 0⟩) xs.length 12] [.rows own true 12 xs.length (opRow xs)] (.bool true) [.rows own true 12 xs.length (opRow xs)] := by
  by_cases h0 : xs = []
  · subst h0
    exact exT_ok okkz Try.func6 (by kernel_rfl) (kpZ1 own)
  · exact body_mem (f := 6) Try.func6 kpB_eq (by kernel_rfl) (kpQ0 own xs h0 hn) (kpRet own xs.length xs)
theorem groupKeeps_nil (W : World) : Calls Try.prog 6 #[.slice none 0 0] W fun e W' => e = .returned (.bool true) ∧ Below W.heap.size W W' := by
  have h : PlainSem Try.prog 6 [.slice none 0 0] (.bool true) := (exT_ok okkz Try.func6 (by kernel_rfl) kpZ0).plain (by intro x hx; simp only [List.mem_cons, List.not_mem_nil, or_false] at hx; subst hx; rfl) rfl
  exact (h.2 W).mono fun _ _ hq => ⟨hq.1, hq.2.1⟩
theorem groupKeeps_walk {W : World} {a : Addr} {xs : List O3} {cap : Nat} (hn : xs.length ≤ 1048576) (ha : OpsAt W a xs) (hc : xs.length ≤ cap) : Calls Try.prog 6 #[.slice (some a) xs.length cap] W fun e W' => e = .returned (.bool true) ∧ Below W.heap.size W W' :=
  (kp_sem false xs hn).calls ha hc (more := []) (more' := []) trivial
end Go.Proofs.Ytmpkkmhielkggaa
