/-
  orbit.Of, told as a contract; lists of nothing. Nothing here is trusted.
-/
import Derived.Test.YtneaibkfglfpaaaKak
import Derived.Test.YtneaibkfglfpaaaKaj

namespace Go.Proofs.Ytneaibkfglfpaaa
open Go Vx Go.RowKit
def imZ0 (p : P3) : St := stOf 40 [(0, .slice none 0 0), (3, .pointer (some ⟨0, 0, none⟩)), (4, .slice none 0 0), (5, vI 0)] [.cells true 0 p.cells]
theorem imZ1 (p : P3) : segR ((Cib Try.prog).into 61 0) 60 1 (imB Try.prog) [0, 3, 4, 5] [.slot 3] (enter Try.f61 [.slice none 0 0, p.v] []) = some (imZ0 p) := by kernel_rfl
theorem imZ2 (p : P3) : roundR ((Cib Try.prog).into 61 0) 60 (stmt 1 (imB Try.prog)) [4, 5] [4, 5] [] [] (imZ0 p) =
    (match leastN 5 p.ckP != 0 with
      | true => some (.ret, stOf 40 [(4, .slice none 0 0), (5, vI (leastN 5 p.ckP))] [])
      | false => some (.normal, stOf 40 [(4, .slice none 0 0), (5, vI 0)] [])) := by kernel_rfl
theorem imZr (e : Int) : (retA Try.prog Try.f61 (.ret, stOf 40 [(4, .slice none 0 0), (5, vI e)] [])).res = some (nilE e, []) := by kernel_rfl
theorem five_ne (p : P3) : leastN 5 p.ckP ≠ 0 := by rcases ckP_cases p with h | h <;> rw [h] <;> decide
theorem imZ (p : P3) : MemSem Try.prog 61 [.slice none 0 0, p.v] [] (nilE (leastN 5 p.ckP)) [] := by
  refine body_mem (f := 61) Try.func61 imB_eq (by kernel_rfl) ?_ (imZr (leastN 5 p.ckP))
  have h1 := imZ2 p
  rw [show (leastN 5 p.ckP != 0) = true by simpa using five_ne p] at h1
  exact seg_rule (C := Cib Try.prog) okib (f := 61) (B := 0) (Or.inl ⟨Try.f61, imB Try.prog, Try.func61, imB_eq, fun _ hx => hx⟩) (imZ1 p) (stmt_out imHas1 (end_rule (C := Cib Try.prog) okib (f := 61) (B := 0) (stmt_in Try.func61 imB_eq) h1) (by simp))
def izF : List Value → Mem → Option (Ans (Value × Mem))
  | [.slice none 0 0, .agg co], [] => match ptCells co.toList with
    | some p => some (.out (nilE (leastN 5 p.ckP), []))
    | none => none
  | _, _ => none
theorem izF_ok {args : List Value} {m : Mem} {ans : Ans (Value × Mem)} {v : Value} {m' : Mem} (h : izF args m = some ans) (hr : ans.res = some (v, m')) : MemSem Try.prog 61 args m v m' := by
  unfold izF at h
  split at h
  rotate_left
  · cases h
  rename_i co
  split at h
  rotate_left
  · cases h
  rename_i p hp
  simp only [Option.some.injEq] at h
  subst h
  simp only [Ans.res, Option.some.injEq, Prod.mk.injEq] at hr
  obtain ⟨rfl, rfl⟩ := hr
  have e1 : co = p.cells.toArray := by rw [← ptCells_spec hp]
  subst e1
  exact imZ p
def Ciz (P : Program) : Cx := (CCw P).addF 61 izF
theorem okiz : CxOk (Ciz Try.prog) := Cx.addF_ok okCw fun _ _ _ _ _ h hr => izF_ok h hr
theorem ofZ (p : P3) : exT ((Ciz Try.prog).at 28) 60 Try.f28 [.slice none 0 0, p.v] [] [] = (match leastN 5 p.ckP != 0 with
    | true => some (nilE (leastN 5 p.ckP), [])
    | false => none) := by kernel_rfl
theorem saZ (p q : P3) : exT ((Ciz Try.prog).at 34) 60 Try.f34 [.slice none 0 0, p.v, q.v] [] [] = (match leastN (leastN 5 p.ckP) q.ckP != 0 with
    | true => some (bE false (leastN (leastN 5 p.ckP) q.ckP), [])
    | false => match p.m != q.m with
      | true => some (bE false 6, [])
      | false => none) := by kernel_rfl
/-- What lies in the block of what Of answers. -/
def orbA (X : List O3) (p : P3) : List P3 := cpAll (sortPt' (imgs X p))
theorem imgs_len (X : List O3) (p : P3) : (imgs X p).length = X.length := by simp [imgs]
theorem sort_len (X : List O3) (p : P3) : (sortPt' (imgs X p)).length = X.length := by unfold sortPt'; rw [sortK_len, imgs_len]
theorem orbA_take (X : List O3) (p : P3) : (orbA X p).take (orbL X p).length = orbL X p := by
  unfold orbA cpAll orbL
  rw [List.take_append_of_le_length (Nat.le_refl _), List.take_length]
theorem oneM_imgs {X : List O3} {p : P3} (h0 : X ≠ []) (hp : p.form = true) : oneM (imgs X p) = true := by
  unfold oneM
  rw [List.all_eq_true]
  intro q hq
  have hz : (atP (imgs X p) 0).m = p.m := by
    cases X with
    | nil => exact absurd rfl h0
    | cons o X => rfl
  rw [Bool.and_eq_true, hz, imgs_form hp hq, imgs_m hq]
  simp
theorem ofS (own : Bool) (X : List O3) (p : P3) (h : leastN (chkI X) p.ckP = 0) : MemSem Try.prog 28 [.slice (some ⟨0, 0, some 0⟩) X.length 12, p.v] [.rows own true 12 X.length (opRow X)] (.tuple #[.slice (some ⟨1, 0, some 0⟩) (orbL X p).length 4, vI 0]) [.rows own true 12 X.length (opRow X), .rows true true 4 X.length (ptRow (orbA X p))] := by
  have hE := ofE1 own X.length X p
  obtain ⟨h1, h2⟩ := leastN_zero.1 h
  have hl := chk_len h1
  have h0 : X ≠ [] := fun e => by rw [e] at hl; cases hl.2
  have hpos : 0 < X.length := List.length_pos_iff.2 h0
  have to : oT X.length (opRow X) = true := by unfold oT; rw [Nat.beq_refl, okOps_opRow]; rfl
  have ts : srT X.length (imgs X p) = true := by
    unfold srT
    rw [Nat.beq_refl, okPts_ptRow, ptsOf_row (imgs_len X p), oneM_imgs h0 (ckP_zero h2), Nat.blt_eq.mpr hpos, Nat.ble_eq_true_of_le (by omega)]
    rfl
  have tc : cmT X.length (sortPt' (imgs X p)) = true := by
    unfold cmT
    rw [Nat.beq_refl, okPts_ptRow, Nat.ble_eq_true_of_le (by omega)]
    rfl
  rw [lk_true, to, opsOf_row rfl, show (leastN (chkI X) p.ckP != 0) = false by simpa using h, ts, ptsOf_row (imgs_len X p), tc, ptsOf_row (sort_len X p)] at hE
  exact exT_ok okof Try.func28 (by kernel_rfl) hE
theorem ofSe (own : Bool) (X : List O3) (p : P3) (h : leastN (chkI X) p.ckP ≠ 0) : MemSem Try.prog 28 [.slice (some ⟨0, 0, some 0⟩) X.length 12, p.v] [.rows own true 12 X.length (opRow X)] (nilE (leastN (chkI X) p.ckP)) [.rows own true 12 X.length (opRow X)] := by
  have hE := ofE2 own X.length X p
  have to : oT X.length (opRow X) = true := by unfold oT; rw [Nat.beq_refl, okOps_opRow]; rfl
  rw [lk_true, to, opsOf_row rfl, show (leastN (chkI X) p.ckP != 0) = true by simpa using h] at hE
  exact exT_ok okoe Try.func28 (by kernel_rfl) hE
def ofF : List Value → Mem → Option (Ans (Value × Mem))
  | [.slice none 0 0, .agg co], [] => match ptCells co.toList with
    | some p => some (.out (nilE (leastN 5 p.ckP), []))
    | none => none
  | [.slice (some ⟨0, 0, some 0⟩) N 12, .agg co], [.rows own true 12 N2 row] => match ptCells co.toList with
    | some p => some (.br (Nat.beq N N2 && okOps N row) (.br (leastN (chkI (opsOf N row)) p.ckP != 0) (.out (nilE (leastN (chkI (opsOf N row)) p.ckP), [.rows own true 12 N (opRow (opsOf N row))])) (.out (.tuple #[.slice (some ⟨1, 0, some 0⟩) (orbL (opsOf N row) p).length 4, vI 0], [.rows own true 12 N (opRow (opsOf N row)), .rows true true 4 N (ptRow (orbA (opsOf N row) p))]))) .fail)
    | none => none
  | _, _ => none
theorem ofF_ok {args : List Value} {m : Mem} {ans : Ans (Value × Mem)} {v : Value} {m' : Mem} (h : ofF args m = some ans) (hr : ans.res = some (v, m')) : MemSem Try.prog 28 args m v m' := by
  unfold ofF at h
  split at h
  · rename_i co
    split at h
    rotate_left
    · cases h
    rename_i p hp
    simp only [Option.some.injEq] at h
    subst h
    simp only [Ans.res, Option.some.injEq, Prod.mk.injEq] at hr
    obtain ⟨rfl, rfl⟩ := hr
    have e1 : co = p.cells.toArray := by rw [← ptCells_spec hp]
    subst e1
    have hE := ofZ p
    rw [show (leastN 5 p.ckP != 0) = true by simpa using five_ne p] at hE
    exact exT_ok okiz Try.func28 (by kernel_rfl) hE
  rotate_left
  · cases h
  rename_i N co own N2 row
  split at h
  rotate_left
  · cases h
  rename_i p hp
  simp only [Option.some.injEq] at h
  subst h
  rcases Ans.br_some hr with ⟨hc, hr1⟩ | ⟨_, hr1⟩
  rotate_left
  · simp [Ans.res] at hr1
  rw [Bool.and_eq_true] at hc
  obtain ⟨c1, c2⟩ := hc
  have c1 := beq_len c1
  subst c1
  have e1 : co = p.cells.toArray := by rw [← ptCells_spec hp]
  subst e1
  have hl := opsOf_length N row
  rcases Ans.br_some hr1 with ⟨hq, hr2⟩ | ⟨hq, hr2⟩
  · simp only [Ans.res, Option.some.injEq, Prod.mk.injEq] at hr2
    obtain ⟨rfl, rfl⟩ := hr2
    have := ofSe own (opsOf N row) p (by simpa using hq)
    rw [hl] at this
    exact this.like ⟨.rows (ops_like c2), trivial⟩
  · simp only [Ans.res, Option.some.injEq, Prod.mk.injEq] at hr2
    obtain ⟨rfl, rfl⟩ := hr2
    have := ofS own (opsOf N row) p (by simpa using hq)
    rw [hl] at this
    exact this.like ⟨.rows (ops_like c2), trivial⟩
def saF : List Value → Mem → Option (Ans (Value × Mem))
  | [.slice none 0 0, .agg co, .agg cq], [] => match ptCells co.toList, ptCells cq.toList with
    | some p, some q => some (.out (bE false (leastN (leastN 5 p.ckP) q.ckP), []))
    | _, _ => none
  | [.slice (some ⟨0, 0, some 0⟩) N 12, .agg co, .agg cq], [.rows own true 12 N2 row] => match ptCells co.toList, ptCells cq.toList with
    | some p, some q => some (.br (Nat.beq N N2 && okOps N row) (.out (bE (samV (opsOf N row) p q) (samE (opsOf N row) p q), [.rows own true 12 N (opRow (opsOf N row))])) .fail)
    | _, _ => none
  | _, _ => none
theorem saF_ok {args : List Value} {m : Mem} {ans : Ans (Value × Mem)} {v : Value} {m' : Mem} (h : saF args m = some ans) (hr : ans.res = some (v, m')) : MemSem Try.prog 34 args m v m' := by
  unfold saF at h
  split at h
  · rename_i co cq
    split at h
    rotate_left
    · cases h
    rename_i p q hp hq
    simp only [Option.some.injEq] at h
    subst h
    simp only [Ans.res, Option.some.injEq, Prod.mk.injEq] at hr
    obtain ⟨rfl, rfl⟩ := hr
    have e1 : co = p.cells.toArray := by rw [← ptCells_spec hp]
    have e2 : cq = q.cells.toArray := by rw [← ptCells_spec hq]
    subst e1 e2
    have hE := saZ p q
    rw [show (leastN (leastN 5 p.ckP) q.ckP != 0) = true by simpa using fun h => five_ne p (leastN_zero.1 h).1] at hE
    exact exT_ok okiz Try.func34 (by kernel_rfl) hE
  rotate_left
  · cases h
  rename_i N co cq own N2 row
  split at h
  rotate_left
  · cases h
  rename_i p q hp hq
  simp only [Option.some.injEq] at h
  subst h
  rcases Ans.br_some hr with ⟨hc, hr1⟩ | ⟨_, hr1⟩
  rotate_left
  · simp [Ans.res] at hr1
  rw [Bool.and_eq_true] at hc
  obtain ⟨c1, c2⟩ := hc
  have c1 := beq_len c1
  subst c1
  have e1 : co = p.cells.toArray := by rw [← ptCells_spec hp]
  have e2 : cq = q.cells.toArray := by rw [← ptCells_spec hq]
  subst e1 e2
  have hl := opsOf_length N row
  simp only [Ans.res, Option.some.injEq, Prod.mk.injEq] at hr1
  obtain ⟨rfl, rfl⟩ := hr1
  have := samS own (opsOf N row) p q
  rw [hl] at this
  exact this.like ⟨.rows (ops_like c2), trivial⟩
end Go.Proofs.Ytneaibkfglfpaaa


namespace Go.Proofs.Ytneaibkfglfpaaa
open Go Vx
/-- Does it leave the place? -/
def fixB (p : P3) (o : O3) : Bool := (o.app p).eqB p
theorem orb_fib {H : List O3} (h : Grp H) {p : P3} (hp : p.form = true) {o : O3} (ho : o ∈ H) : (H.filter fun x => (x.app p).eqB (o.app p)).length = (H.filter fun x => fixB p x).length := by
  have hi : ∀ x ∈ H, x.Inv := fun x hx => O3.inv_ck (h.ck x hx)
  obtain ⟨b, hb, hbk⟩ := act_back h ho
  have canc : ∀ u ∈ H, ∀ x ∈ H, ∀ y ∈ H, u.mul x = u.mul y → x = y := fun u hu x hx y hy e => O3.cancel_l (hi u hu) (hi x hx) (hi y hy) e
  apply Nat.le_antisymm
  · have hn : ((H.filter fun x => (x.app p).eqB (o.app p)).map fun x => b.mul x).Nodup := nodup_map (h.nd.filter _) fun x hx y hy => canc b hb x (List.mem_filter.1 hx).1 y (List.mem_filter.1 hy).1
    have := nodup_sub hn (m := H.filter fun x => fixB p x) fun y hy => by
      obtain ⟨x, hx, rfl⟩ := List.mem_map.1 hy
      obtain ⟨hx1, hx2⟩ := List.mem_filter.1 hx
      refine List.mem_filter.2 ⟨h.mul b hb x hx1, P3.eqB_iff'.2 ?_⟩
      rw [O3.app_mul b x hp, P3.eqB_iff'.1 hx2, hbk p hp]
    rwa [List.length_map] at this
  · have hn : ((H.filter fun x => fixB p x).map fun x => o.mul x).Nodup := nodup_map (h.nd.filter _) fun x hx y hy => canc o ho x (List.mem_filter.1 hx).1 y (List.mem_filter.1 hy).1
    have := nodup_sub hn (m := H.filter fun x => (x.app p).eqB (o.app p)) fun y hy => by
      obtain ⟨x, hx, rfl⟩ := List.mem_map.1 hy
      obtain ⟨hx1, hx2⟩ := List.mem_filter.1 hx
      refine List.mem_filter.2 ⟨h.mul o ho x hx1, P3.eqB_iff'.2 ?_⟩
      rw [O3.app_mul o x hp, P3.eqB_iff'.1 hx2]
    rwa [List.length_map] at this
/-- Places times maps that stay are the group. -/
theorem orb_count {H : List O3} (h : Grp H) {p : P3} (hp : p.form = true) : (orbL H p).length * (H.filter fun x => fixB p x).length = H.length := by
  have e := count_sum (fun o : O3 => o.app p) P3.eqB (fun _ _ => P3.eqB_iff') (orbL H p) (strictP_nodup (orbL_strict H p)) H fun x hx => mem_orbL.2 ⟨x, hx, rfl⟩
  rw [← e, ← sum_same]
  congr 1
  refine List.map_congr_left fun d hd' => ?_
  obtain ⟨o, ho, rfl⟩ := mem_orbL.1 hd'
  exact (orb_fib h hp ho).symm
/-- The maps that leave a place are a group, in order. -/
theorem stay_chk {H : List O3} (h : chkI H = 0) {p : P3} (hp : p.form = true) : chkI (H.filter fun x => fixB p x) = 0 := by
  obtain ⟨hs, hg, hl⟩ := chk_grp h
  refine chk_of (hs.sublist List.filter_sublist) ⟨hg.nd.filter _, fun x hx => hg.ck x (List.mem_filter.1 hx).1, List.mem_filter.2 ⟨hg.one, P3.eqB_iff'.2 (O3.one_app hp)⟩, fun a ha b hb => ?_⟩ (Nat.le_trans (List.length_filter_le _ _) hl)
  obtain ⟨a1, a2⟩ := List.mem_filter.1 ha
  obtain ⟨b1, b2⟩ := List.mem_filter.1 hb
  refine List.mem_filter.2 ⟨hg.mul a a1 b b1, P3.eqB_iff'.2 ?_⟩
  rw [O3.app_mul a b hp, P3.eqB_iff'.1 b2, P3.eqB_iff'.1 a2]
def minF (m : P3) : List P3 → P3
  | [] => m
  | x :: l => minF (bif decide (x.ordV m < 0) then x else m) l
def minL : List P3 → P3
  | [] => P3.zero
  | x :: l => minF x l
theorem ordV_key {a b : P3} (ha : a.form = true) (hb : b.form = true) (hm : a.m = b.m) : a.ordV b = lexI (pkey a) (pkey b) := by
  obtain ⟨m, x⟩ := a
  obtain ⟨m2, x2⟩ := b
  simp only at hm
  subst hm
  exact PM.ord (M := m) ⟨x, ha⟩ ⟨x2, hb⟩
theorem minF_spec {M : Int} : ∀ (l : List P3) (m : P3), (∀ x ∈ m :: l, x.form = true ∧ x.m = M) → minF m l ∈ m :: l ∧ ∀ y ∈ m :: l, lexI (pkey (minF m l)) (pkey y) ≤ 0
  | [], m, _ => ⟨by simp [minF], fun y hy => by
      simp only [List.mem_cons, List.not_mem_nil, or_false] at hy
      subst hy
      have := (lexI_zero (l := pkey y) (m := pkey y) rfl).2 rfl
      simp only [minF]
      omega⟩
  | x :: l, m, h => by
    have hx := h x (by simp)
    have hm := h m (by simp)
    have ho := ordV_key hx.1 hm.1 (hx.2.trans hm.2.symm)
    simp only [minF]
    by_cases hlt : x.ordV m < 0
    · rw [decide_eq_true hlt]
      simp only [cond_true]
      obtain ⟨i1, i2⟩ := minF_spec l x fun y hy => h y (by simp only [List.mem_cons] at hy ⊢; rcases hy with k | k <;> simp [k])
      refine ⟨List.mem_cons_of_mem _ i1, fun y hy => ?_⟩
      rcases List.mem_cons.1 hy with rfl | hy
      · have := i2 x (by simp)
        exact lexI_trans (pkey_len _ x) (pkey_len x y) this (by omega)
      · exact i2 y hy
    · rw [decide_eq_false hlt]
      simp only [cond_false]
      obtain ⟨i1, i2⟩ := minF_spec l m fun y hy => h y (by simp only [List.mem_cons] at hy ⊢; rcases hy with k | k <;> simp [k])
      refine ⟨?_, fun y hy => ?_⟩
      · rcases List.mem_cons.1 i1 with k | k
        · rw [k]; simp
        · simp [k]
      · rcases List.mem_cons.1 hy with rfl | hy
        · exact i2 y (by simp)
        · rcases List.mem_cons.1 hy with rfl | hy
          · have k := i2 m (by simp)
            have := lexI_neg (pkey y) (pkey m)
            exact lexI_trans (pkey_len _ m) (pkey_len m y) k (by omega)
          · exact i2 y (by simp [hy])
theorem minL_spec {M : Int} {l : List P3} (h0 : l ≠ []) (h : ∀ x ∈ l, x.form = true ∧ x.m = M) : minL l ∈ l ∧ ∀ y ∈ l, lexI (pkey (minL l)) (pkey y) ≤ 0 := by
  cases l with
  | nil => exact absurd rfl h0
  | cons x l => exact minF_spec l x h
/-- The first place of an orbit is the first of the list. -/
theorem min_orb {X : List O3} (h0 : X ≠ []) {p : P3} (hp : p.form = true) : atP (orbL X p) 0 = minL (imgs X p) ∧ minL (imgs X p) ∈ imgs X p ∧ 0 < (orbL X p).length := by
  have hi : imgs X p ≠ [] := fun e => h0 (List.map_eq_nil_iff.1 e)
  obtain ⟨m1, m2⟩ := minL_spec (M := p.m) hi fun x hx => ⟨imgs_form hp hx, imgs_m hx⟩
  have hin : minL (imgs X p) ∈ orbL X p := by rw [mem_orbL, ← mem_imgs]; exact m1
  refine ⟨?_, m1, List.length_pos_of_mem hin⟩
  cases hl : orbL X p with
  | nil => rw [hl] at hin; cases hin
  | cons x l =>
    show x = _
    have hs := orbL_strict X p
    rw [hl] at hs hin
    unfold StrictP at hs
    rw [List.pairwise_cons] at hs
    have hx : x ∈ imgs X p := by
      have : x ∈ orbL X p := by rw [hl]; simp
      rw [mem_orbL, ← mem_imgs] at this
      exact this
    rcases List.mem_cons.1 hin with e | hm
    · exact e.symm
    · have h1 := hs.1 _ hm
      have h2 := m2 x hx
      have := lexI_neg (pkey x) (pkey (minL (imgs X p)))
      omega
/-- Where it lies first. -/
theorem ixL_at (v : P3) : ∀ (l : List P3) (i : Int), v ∈ l → ∃ k : Nat, ixL v l i = i + (k : Int) ∧ k < l.length ∧ (∀ j, j < k → atP l j ≠ v) ∧ atP l k = v
  | [], _, h => by cases h
  | x :: l, i, h => by
    simp only [ixL]
    cases hb : v.eqB x with
    | true =>
      have := P3.eqB_iff'.1 hb
      subst this
      exact ⟨0, by simp, by simp, fun j hj => by omega, rfl⟩
    | false =>
      have hne : v ≠ x := fun e => by rw [e, P3.eqB_iff'.2 rfl] at hb; cases hb
      obtain ⟨k, k1, k2, k3, k4⟩ := ixL_at v l (i + 1) ((List.mem_cons.1 h).resolve_left hne)
      refine ⟨k + 1, ?_, by simp; omega, fun j hj => ?_, ?_⟩
      · simp only [k1]; omega
      · cases j with
        | zero => exact fun e => hne e.symm
        | succ j => exact k3 j (by omega)
      · exact k4
end Go.Proofs.Ytneaibkfglfpaaa


namespace Go.Proofs.Ytneaibkfglfpaaa
open Go Vx Go.RowKit
def mnB (P : Program) : Code := bodyOf P 71
theorem mnB_eq : Try.f71.body = some (mnB Try.prog) := by kernel_rfl
def cmpV : Value := .func (.func 63) #[] #[]
def mn1 (own : Bool) (n : Nat) (Y : List P3) (m : P3) : St := stOf 33 [(0, .slice (some ⟨0, 0, some 0⟩) n 4), (1, cmpV), (4, .pointer (some ⟨1, 0, none⟩)), (5, .pointer (some ⟨2, 0, none⟩))] [.rows own true 4 n (ptRow Y), .cells true 0 P3.zero.cells, .cells true 0 m.cells]
def mnH (own : Bool) (n : Nat) (Y : List P3) (m : P3) (i : Int) : St := stOf 33 [(0, .slice (some ⟨0, 0, some 0⟩) n 4), (1, cmpV), (4, .pointer (some ⟨1, 0, none⟩)), (5, .pointer (some ⟨2, 0, none⟩)), (6, vI i)] [.rows own true 4 n (ptRow Y), .cells true 0 P3.zero.cells, .cells true 0 m.cells]
def mnX (own : Bool) (n : Nat) (Y : List P3) (m : P3) : St := stOf 33 [(4, .pointer (some ⟨1, 0, none⟩)), (5, .pointer (some ⟨2, 0, none⟩))] [.rows own true 4 n (ptRow Y), .cells true 0 P3.zero.cells, .cells true 0 m.cells]
theorem mnE1 (own : Bool) (n : Nat) (Y : List P3) : segR ((CCw Try.prog).into 71 1) 40 3 (mnB Try.prog) [0, 1, 4, 5] [.fix 0, .slot 4, .slot 5] (enter Try.f71 [.slice (some ⟨0, 0, some 0⟩) n 4, cmpV] [.rows own true 4 n (ptRow Y)]) = gn (decide ((n : Int) < 1)) (gd (boundsI 0 n) (some (mn1 own n Y (atP Y 0)))) := by kernel_rfl
theorem mnFor : isFor 0 (stmt 3 (mnB Try.prog)) = true := by kernel_rfl
theorem mnHas : hasStmt 3 (mnB Try.prog) = true := by kernel_rfl
theorem mnHead (own : Bool) (n : Nat) (Y : List P3) (m : P3) : roundR ((CCw Try.prog).into 71 1) 40 (forHead (stmt 3 (mnB Try.prog))) [0, 1, 4, 5, 6] [0, 1, 4, 5, 6] [.fix 0, .slot 4, .slot 5] [.fix 0, .slot 4, .slot 5] (mn1 own n Y m) = some (.normal, mnH own n Y m 1) := by kernel_rfl
theorem mnR (own : Bool) (n : Nat) (Y : List P3) (m : P3) (i : Nat) : roundR ((CCw Try.prog).into 71 1) 40 (forBody (stmt 3 (mnB Try.prog))) [0, 1, 4, 5, 6] [4, 5] [.fix 0, .slot 4, .slot 5] [.fix 0, .slot 4, .slot 5] (mnH own n Y m (i : Int)) =
    (match decide ((i : Int) < (n : Int)) with
    | true => gd (boundsI i n) (match decide ((atP Y i).ordV m < 0) with
      | true => gd (boundsI i n) (some (.normal, mnH own n Y (atP Y i) (W ((i : Int) + 1))))
      | false => some (.normal, mnH own n Y m (W ((i : Int) + 1))))
    | false => some (.exit 0, mnX own n Y m)) := by kernel_rfl
theorem mnEnd (own : Bool) (n : Nat) (Y : List P3) (m : P3) : roundR ((CCw Try.prog).into 71 1) 40 (seqDrop 4 (mnB Try.prog)) [4] [4] [.fix 0, .slot 4] [.fix 0, .slot 4] (mnX own n Y m) = some (.ret, stOf 33 [(4, .pointer (some ⟨1, 0, none⟩))] [.rows own true 4 n (ptRow Y), .cells true 0 m.cells]) := by kernel_rfl
theorem mnRet (own : Bool) (n : Nat) (Y : List P3) (m : P3) : (retA Try.prog Try.f71 (.ret, stOf 33 [(4, .pointer (some ⟨1, 0, none⟩))] [.rows own true 4 n (ptRow Y), .cells true 0 m.cells])).res = some (m.v, [.rows own true 4 n (ptRow Y), .cells true 0 m.cells]) := by kernel_rfl
theorem mnTidy (own : Bool) (n : Nat) (Y : List P3) (m : P3) : (tidyA 1 [.fix 0] (m.v, [.rows own true 4 n (ptRow Y), .cells true 0 m.cells])).res = some (m.v, [.rows own true 4 n (ptRow Y)]) := by kernel_rfl
set_option maxRecDepth 100000 in
theorem mnIn : InBody ((CCw Try.prog).into 71 1) (forHead (stmt 3 (mnB Try.prog))) ∧ InBody ((CCw Try.prog).into 71 1) (forBody (stmt 3 (mnB Try.prog))) := for_in (C := CCw Try.prog) (f := 71) (B := 1) (id := 0) (k := 3) (fn := Try.f71) (b := mnB Try.prog) Try.func71 mnB_eq mnFor
theorem mnLoop (own : Bool) (Y : List P3) (hn : Y.length ≤ 1000000) : ∀ (c i : Nat) (m : P3), Y.length - i ≤ c → i ≤ Y.length → LoopSem Try.prog 1 (forBody (stmt 3 (mnB Try.prog))) (mnH own Y.length Y m (i : Int)) (.exit 0) (mnX own Y.length Y (minF m (Y.drop i))) := by
  intro c
  have out : ∀ (i : Nat) (m : P3), i = Y.length → LoopSem Try.prog 1 (forBody (stmt 3 (mnB Try.prog))) (mnH own Y.length Y m (i : Int)) (.exit 0) (mnX own Y.length Y (minF m (Y.drop i))) := by
    intro i m hi
    have hr := mnR own Y.length Y m i
    rw [show decide ((i : Int) < (Y.length : Int)) = false by simp; omega] at hr
    rw [List.drop_eq_nil_of_le (by omega)]
    exact loop_leave (C := CCw Try.prog) okCw (f := 71) (B := 1) mnIn.2 hr (by simp)
  induction c with
  | zero => intro i m h1 h2; exact out i m (by omega)
  | succ c ih =>
    intro i m h1 h2
    by_cases hi : i < Y.length
    · have hr := mnR own Y.length Y m i
      rw [show decide ((i : Int) < (Y.length : Int)) = true by simpa using hi, bd_ok' hi, show W ((i : Int) + 1) = ((i + 1 : Nat) : Int) by rw [W_in (by omega)]; simp] at hr
      simp only [gd_true] at hr
      have hd : Y.drop i = atP Y i :: Y.drop (i + 1) := by rw [List.drop_eq_getElem_cons hi, atP_get hi]
      rw [hd]
      simp only [minF]
      cases hb : decide ((atP Y i).ordV m < 0) with
      | true =>
        rw [hb] at hr
        exact loop_next (C := CCw Try.prog) okCw (f := 71) (B := 1) mnIn.2 hr (StLike.refl _) (ih (i + 1) (atP Y i) (by omega) (by omega))
      | false =>
        rw [hb] at hr
        exact loop_next (C := CCw Try.prog) okCw (f := 71) (B := 1) mnIn.2 hr (StLike.refl _) (ih (i + 1) m (by omega) (by omega))
    · exact out i m (by omega)
/-- slices.MinFunc. -/
theorem mnS (own : Bool) (Y : List P3) (h0 : 0 < Y.length) (hn : Y.length ≤ 1000000) : MemSem Try.prog 71 [.slice (some ⟨0, 0, some 0⟩) Y.length 4, cmpV] [.rows own true 4 Y.length (ptRow Y)] (minL Y).v [.rows own true 4 Y.length (ptRow Y)] := by
  have body0 : InBody ((CCw Try.prog).into 71 1) (mnB Try.prog) := Or.inl ⟨Try.f71, mnB Try.prog, Try.func71, mnB_eq, fun _ hx => hx⟩
  have r1 := mnE1 own Y.length Y
  rw [show decide ((Y.length : Int) < 1) = false by simp; omega, show boundsI 0 Y.length = true by simp [boundsI]; omega] at r1
  have hl := mnLoop own Y hn Y.length 1 (atP Y 0) (by omega) (by omega)
  have hm : minF (atP Y 0) (Y.drop 1) = minL Y := by
    cases Y with
    | nil => simp at h0
    | cons x l => rfl
  rw [hm] at hl
  have hb : MemSem Try.prog 71 [.slice (some ⟨0, 0, some 0⟩) Y.length 4, cmpV] [.rows own true 4 Y.length (ptRow Y)] (minL Y).v [.rows own true 4 Y.length (ptRow Y), .cells true 0 (minL Y).cells] := body_mem (f := 71) Try.func71 mnB_eq (by kernel_rfl) (seg_rule (C := CCw Try.prog) okCw (f := 71) (B := 1) (k := 3) body0 r1 (stmt_rule mnHas (for_rule mnFor (end_rule (C := CCw Try.prog) okCw (f := 71) (B := 1) mnIn.1 (mnHead own Y.length Y (atP Y 0))) hl) (end_rule (C := CCw Try.prog) okCw (f := 71) (B := 1) (bodyOf_in Try.func71 mnB_eq) (mnEnd own Y.length Y (minL Y))))) (mnRet own Y.length Y (minL Y))
  exact hb.tidy (mnTidy own Y.length Y (minL Y))
def mnF : List Value → Mem → Option (Ans (Value × Mem))
  | [.slice (some ⟨0, 0, some 0⟩) N 4, .func (.func 63) f c], [.rows own true 4 N2 row] => match f.toList, c.toList with
    | [], [] => some (.br (Nat.beq N N2 && (okPts N row && (Nat.blt 0 N && Nat.ble N 1000000))) (.out ((minL (ptsOf N row)).v, [.rows own true 4 N (ptRow (ptsOf N row))])) .fail)
    | _, _ => none
  | _, _ => none
theorem mnF_ok {args : List Value} {m : Mem} {ans : Ans (Value × Mem)} {v : Value} {m' : Mem} (h : mnF args m = some ans) (hr : ans.res = some (v, m')) : MemSem Try.prog 71 args m v m' := by
  unfold mnF at h
  split at h
  rotate_left
  · cases h
  rename_i N f c own N2 row
  split at h
  rotate_left
  · cases h
  rename_i hf hcl
  simp only [Option.some.injEq] at h
  subst h
  rcases Ans.br_some hr with ⟨hc, hr1⟩ | ⟨_, hr1⟩
  rotate_left
  · simp [Ans.res] at hr1
  simp only [Bool.and_eq_true] at hc
  obtain ⟨c1, c2, c4, c5⟩ := hc
  have c1 := beq_len c1
  subst c1
  simp only [Ans.res, Option.some.injEq, Prod.mk.injEq] at hr1
  obtain ⟨rfl, rfl⟩ := hr1
  have hl := ptsOf_length N row
  have e1 : f = #[] := by apply Array.ext'; simpa using hf
  have e2 : c = #[] := by apply Array.ext'; simpa using hcl
  subst e1 e2
  have := mnS own (ptsOf N row) (by rw [hl]; exact Nat.blt_eq.mp c4) (by rw [hl]; exact Nat.le_of_ble_eq_true c5)
  rw [hl] at this
  exact this.like ⟨.rows (pts_like c2), trivial⟩
def Cmn (P : Program) : Cx := (Cix P).addF 71 mnF
theorem okmn : CxOk (Cmn Try.prog) := Cx.addF_ok okix fun _ _ _ _ _ h hr => mnF_ok h hr
def Cle (P : Program) : Cx := (((Cmn P).good 61 [true, false]).looks 71 [true]).looks 72 [true]
theorem okle : CxOk (Cle Try.prog) := Cx.looks_ok (Cx.looks_ok (Cx.good_ok okmn _ _) _ _) _ _
def Clf (P : Program) : Cx := (Cmn P).road 61 [true, true]
theorem oklf : CxOk (Clf Try.prog) := Cx.road_ok okmn _ _
def mnT (n : Nat) (Y : List P3) : Bool := Nat.beq n n && (okPts n (ptRow Y) && (Nat.blt 0 n && Nat.ble n 1000000))
def leV (p : P3) (i e : Int) : Value := .tuple #[p.v, vI i, vI e]
theorem leE1 (own : Bool) (n : Nat) (xs : List O3) (p : P3) : exT ((Cle Try.prog).at 33) 60 Try.f33 [.slice (some ⟨0, 0, some 0⟩) n 12, p.v] [.rows own true 12 n (opRow xs)] [.fix 0] =
    gd (lk n) (gd (oT n (opRow xs)) (gn (leastN (chkI (opsOf n (opRow xs))) p.ckP != 0) (gd (lk n) (gd (mnT n (imgs (opsOf n (opRow xs)) p)) (gd (lk n) (gd (ixT n (imgs (opsOf n (opRow xs)) p))
      (some (leV (minL (ptsOf n (ptRow (imgs (opsOf n (opRow xs)) p)))) (ixL (minL (ptsOf n (ptRow (imgs (opsOf n (opRow xs)) p)))) (ptsOf n (ptRow (imgs (opsOf n (opRow xs)) p))) 0) 0, [.rows own true 12 n (opRow xs)])))))))) := by kernel_rfl
theorem leE2 (own : Bool) (n : Nat) (xs : List O3) (p : P3) : exT ((Clf Try.prog).at 33) 60 Try.f33 [.slice (some ⟨0, 0, some 0⟩) n 12, p.v] [.rows own true 12 n (opRow xs)] [.fix 0] =
    gd (lk n) (gd (oT n (opRow xs)) (gd (leastN (chkI (opsOf n (opRow xs))) p.ckP != 0) (match leastN (chkI (opsOf n (opRow xs))) p.ckP != 0 with
      | true => some (leV P3.zero 0 (leastN (chkI (opsOf n (opRow xs))) p.ckP), [.rows own true 12 n (opRow xs)])
      | false => none))) := by kernel_rfl
/-- What Least answers: the place, the map's place, the error. -/
def leP (X : List O3) (p : P3) : P3 := bif leastN (chkI X) p.ckP == 0 then minL (imgs X p) else P3.zero
def leI' (X : List O3) (p : P3) : Int := bif leastN (chkI X) p.ckP == 0 then ixL (minL (imgs X p)) (imgs X p) 0 else 0
theorem leS (own : Bool) (X : List O3) (p : P3) : MemSem Try.prog 33 [.slice (some ⟨0, 0, some 0⟩) X.length 12, p.v] [.rows own true 12 X.length (opRow X)] (leV (leP X p) (leI' X p) (leastN (chkI X) p.ckP)) [.rows own true 12 X.length (opRow X)] := by
  have to : oT X.length (opRow X) = true := by unfold oT; rw [Nat.beq_refl, okOps_opRow]; rfl
  unfold leP leI'
  by_cases h : leastN (chkI X) p.ckP = 0
  · have hE := leE1 own X.length X p
    have hl := chk_len (leastN_zero.1 h).1
    have h0 : 0 < X.length := List.length_pos_of_mem hl.2
    have hi := imgs_len X p
    have tm : mnT X.length (imgs X p) = true := by
      unfold mnT
      rw [Nat.beq_refl, okPts_ptRow, Nat.blt_eq.mpr h0, Nat.ble_eq_true_of_le (by omega)]
      rfl
    have ti : ixT X.length (imgs X p) = true := by rw [← hi]; exact ixT_ok (by omega)
    rw [lk_true, to, opsOf_row rfl, tm, ti, ptsOf_row hi, show (leastN (chkI X) p.ckP != 0) = false by simpa using h] at hE
    rw [h]
    exact exT_ok okle Try.func33 (by kernel_rfl) hE
  · have hE := leE2 own X.length X p
    rw [lk_true, to, opsOf_row rfl, show (leastN (chkI X) p.ckP != 0) = true by simpa using h] at hE
    rw [show (leastN (chkI X) p.ckP == 0) = false by simpa using h]
    exact exT_ok oklf Try.func33 (by kernel_rfl) hE
def leF : List Value → Mem → Option (Ans (Value × Mem))
  | [.slice (some ⟨0, 0, some 0⟩) N 12, .agg co], [.rows own true 12 N2 row] => match ptCells co.toList with
    | some p => some (.br (Nat.beq N N2 && okOps N row) (.out (leV (leP (opsOf N row) p) (leI' (opsOf N row) p) (leastN (chkI (opsOf N row)) p.ckP), [.rows own true 12 N (opRow (opsOf N row))])) .fail)
    | none => none
  | _, _ => none
theorem leF_ok {args : List Value} {m : Mem} {ans : Ans (Value × Mem)} {v : Value} {m' : Mem} (h : leF args m = some ans) (hr : ans.res = some (v, m')) : MemSem Try.prog 33 args m v m' := by
  unfold leF at h
  split at h
  rotate_left
  · cases h
  rename_i N co own N2 row
  split at h
  rotate_left
  · cases h
  rename_i p hp
  simp only [Option.some.injEq] at h
  subst h
  rcases Ans.br_some hr with ⟨hc, hr1⟩ | ⟨_, hr1⟩
  rotate_left
  · simp [Ans.res] at hr1
  rw [Bool.and_eq_true] at hc
  obtain ⟨c1, c2⟩ := hc
  have c1 := beq_len c1
  subst c1
  have e1 : co = p.cells.toArray := by rw [← ptCells_spec hp]
  subst e1
  have hl := opsOf_length N row
  simp only [Ans.res, Option.some.injEq, Prod.mk.injEq] at hr1
  obtain ⟨rfl, rfl⟩ := hr1
  have := leS own (opsOf N row) p
  rw [hl] at this
  exact this.like ⟨.rows (ops_like c2), trivial⟩
end Go.Proofs.Ytneaibkfglfpaaa


namespace Go.Proofs.Ytneaibkfglfpaaa
open Go Vx Go.RowKit
def Cop0 (P : Program) : Cx := ((((Cmn P).addF 74 cnF).addF 28 ofF).addF 34 saF).addF 33 leF
theorem okop0 : CxOk (Cop0 Try.prog) := Cx.addF_ok (Cx.addF_ok (Cx.addF_ok (Cx.addF_ok okmn fun _ _ _ _ _ h hr => cnF_ok h hr) fun _ _ _ _ _ h hr => ofF_ok h hr) fun _ _ _ _ _ h hr => saF_ok h hr) fun _ _ _ _ _ h hr => leF_ok h hr
theorem awE9 : exFun ((Cop0 Try.prog).at 27) 100 Try.f27 (pack [] []) = some (.bool true) := by kernel_rfl
def Caw9 (P : Program) : Cx := (Cop0 P).add 27 [] Faw
theorem okaw9 : CxOk (Caw9 Try.prog) := Cx.add_ok okop0 (n := 100) Try.func27 (by kernel_rfl) fun l v hl h => by
  match l, hl, h with
  | [], _, hh => rw [awE9]; exact hh
end Go.Proofs.Ytneaibkfglfpaaa


namespace Go.Proofs.Ytneaibkfglfpaaa
open Go Vx Go.RowKit
def X1 (n : Nat) (xs : List O3) : List O3 := opsOf n (opRow xs)
def X2 (n : Nat) (xs : List O3) : List O3 := opsOf n (opRow (opsOf n (opRow xs)))
def ofU {α : Type} (n : Nat) (xs : List O3) (p : P3) (K : Int → Option α) : Option α := gd (lk n) (gd (oT n (opRow (X1 n xs))) (match leastN (chkI (X2 n xs)) p.ckP != 0 with
  | true => K (leastN (chkI (X2 n xs)) p.ckP)
  | false => K 0))
end Go.Proofs.Ytneaibkfglfpaaa


namespace Go.Proofs.Ytneaibkfglfpaaa
open Go Vx Go.RowKit
theorem W_succ {k : Nat} (h : k ≤ 4000000000) : W ((k : Int) + 1) = ((k + 1 : Nat) : Int) := by rw [W_in (by omega)]; simp
theorem oTok (X : List O3) (n : Nat) : oT n (opRow X) = true := by unfold oT; rw [Nat.beq_refl, okOps_opRow]; rfl
theorem samE_ok {X : List O3} {p q : P3} (h1 : leastN (chkI X) p.ckP = 0) (h2 : leastN (chkI X) q.ckP = 0) : leastN (leastN (chkI X) p.ckP) q.ckP = 0 := leastN_zero.2 ⟨h1, (leastN_zero.1 h2).2⟩
end Go.Proofs.Ytneaibkfglfpaaa


namespace Go.Proofs.Ytneaibkfglfpaaa
open Go Vx Go.RowKit
end Go.Proofs.Ytneaibkfglfpaaa


namespace Go.Proofs.Ytneaibkfglfpaaa
open Go Vx Go.RowKit
theorem atO_nat {G : List O3} {i : Nat} (h : i < G.length) : atO G (i : Int) = G[i] := by unfold atO; rw [Int.toNat_natCast, List.getElem?_eq_getElem h]; rfl
theorem atP_imgs {X : List O3} {p : P3} {j : Nat} (hj : j < X.length) : atP (imgs X p) j = (X[j]).app p := by
  unfold atP imgs
  rw [List.getElem?_map, List.getElem?_eq_getElem hj]
  rfl
theorem orbA_one {X : List O3} (hX : Grp X) {p q : P3} (hp : p.form = true) (h : q ∈ imgs X p) : orbA X q = orbA X p := by
  have h1 : cpct (sortPt' (imgs X q)) = cpct (sortPt' (imgs X p)) := orb_one hX hp h
  unfold orbA cpAll
  rw [h1, sort_len, sort_len]
end Go.Proofs.Ytneaibkfglfpaaa


namespace Go.Proofs.Ytneaibkfglfpaaa.Vx
open Go
def inRow (l : List Int) : Nat → List Value := fun i => [.int .i64 ((l[i]?).getD 0)]
theorem in_snoc (xs : List Int) (x : Int) {n : Nat} (hn : xs.length = n) : rowsLike (n + 1) (catR n (inRow xs) (chop 1 0 [.int .i64 x])) (inRow (xs ++ [x])) := by
  subst hn
  intro i hi
  unfold catR
  by_cases h : i < xs.length
  · rw [show Nat.blt i xs.length = true by simpa [Nat.blt_eq] using h]
    unfold inRow
    rw [List.getElem?_append_left h]
  · have : i = xs.length := by omega
    subst this
    rw [blt_ff (Nat.lt_irrefl _)]
    simp only [Nat.sub_self]
    unfold inRow
    rw [List.getElem?_append_right (Nat.le_refl _)]
    simp only [Nat.sub_self, List.getElem?_cons_zero, Option.getD_some]
    rfl
theorem in_one (x : Int) : rowsLike 1 (chop 1 0 [.int .i64 x]) (inRow [x]) := by
  intro i hi
  have : i = 0 := by omega
  subst this
  rfl
end Go.Proofs.Ytneaibkfglfpaaa.Vx


namespace Go.Proofs.Ytneaibkfglfpaaa
open Go Vx Go.RowKit
def siB (P : Program) : Code := bodyOf P 29
theorem siB_eq : Try.f29.body = some (siB Try.prog) := by kernel_rfl
/-- Where a place lies in a list. -/
def siL (p : P3) : List P3 → Nat → List Int → List Int
  | [], _, s => s
  | x :: l, i, s => siL p l (i + 1) (bif x.eqB p then s ++ [(i : Int)] else s)
def Csi (P : Program) : Cx := (Cix P).good 61 [true, false]
theorem oksi : CxOk (Csi Try.prog) := Cx.good_ok okix _ _
def siE (own : Bool) (n : Nat) (xs : List O3) (p : P3) (Y : List P3) : St := stOf 36 [(3, .pointer (some ⟨1, 0, none⟩)), (4, .slice none 0 0), (5, vI 0), (6, .slice (some ⟨2, 0, some 0⟩) n 4), (8, .slice none 0 0)] [.rows own true 12 n (opRow xs), .cells true 0 p.cells, .rows true true 4 n (ptRow Y)]
theorem siP1 (own : Bool) (n : Nat) (xs : List O3) (p : P3) : segR ((Csi Try.prog).into 29 1) 60 4 (siB Try.prog) [3, 4, 5, 6, 8] [.fix 0, .slot 3, .slot 6] (enter Try.f29 [.slice (some ⟨0, 0, some 0⟩) n 12, p.v] [.rows own true 12 n (opRow xs)]) =
    gd (lk n) (gd (oT n (opRow xs)) (gn (leastN (chkI (opsOf n (opRow xs))) p.ckP != 0) (some (siE own n xs p (imgs (opsOf n (opRow xs)) p))))) := by kernel_rfl
theorem siFor : isFor 0 (stmt 4 (siB Try.prog)) = true := by kernel_rfl
theorem siHas : hasStmt 2 (siB Try.prog) = true ∧ hasStmt 4 (siB Try.prog) = true := ⟨by kernel_rfl, by kernel_rfl⟩
/-- In the loop: none found yet; some. -/
def siHE (own : Bool) (n : Nat) (xs : List O3) (p : P3) (Y : List P3) (i : Int) : St := stOf 36 [(3, .pointer (some ⟨1, 0, none⟩)), (4, .slice none 0 0), (5, vI 0), (8, .slice none 0 0), (20, .slice (some ⟨2, 0, some 0⟩) n 4), (21, vI n), (22, vI i)] [.rows own true 12 n (opRow xs), .cells true 0 p.cells, .rows true true 4 n (ptRow Y), .no]
def siHR (own : Bool) (n : Nat) (xs : List O3) (p : P3) (Y : List P3) (k : Nat) (r : Nat → List Value) (i : Int) : St := stOf 36 [(3, .pointer (some ⟨1, 0, none⟩)), (4, .slice none 0 0), (5, vI 0), (8, .slice (some ⟨3, 0, some 0⟩) k 1), (20, .slice (some ⟨2, 0, some 0⟩) n 4), (21, vI n), (22, vI i)] [.rows own true 12 n (opRow xs), .cells true 0 p.cells, .rows true true 4 n (ptRow Y), .rows true true 1 k r]
theorem siHead (own : Bool) (n : Nat) (xs : List O3) (p : P3) (Y : List P3) : roundR ((Caw9 Try.prog).into 29 1) 60 (forHead (stmt 4 (siB Try.prog))) [3, 4, 5, 8, 20, 21, 22] [3, 4, 5, 8, 20, 21, 22] [.fix 0, .slot 3, .slot 20, .slot 8] [.fix 0, .slot 3, .slot 20, .slot 8] (siE own n xs p Y) = some (.normal, siHE own n xs p Y 0) := by kernel_rfl
def siXE (own : Bool) (n : Nat) (xs : List O3) : St := stOf 36 [(5, vI 0), (8, .slice none 0 0)] [.rows own true 12 n (opRow xs)]
def siXR (own : Bool) (n : Nat) (xs : List O3) (k : Nat) (r : Nat → List Value) : St := stOf 36 [(5, vI 0), (8, .slice (some ⟨1, 0, some 0⟩) k 1)] [.rows own true 12 n (opRow xs), .rows true true 1 k r]
theorem siRE (own : Bool) (n : Nat) (xs : List O3) (p : P3) (Y : List P3) (i : Nat) : roundR ((Caw9 Try.prog).into 29 1) 60 (forBody (stmt 4 (siB Try.prog))) [3, 4, 5, 8, 20, 21, 22] [5, 8] [.fix 0, .slot 3, .slot 20, .slot 8] [.fix 0] (siHE own n xs p Y (i : Int)) =
    (match decide ((i : Int) < (n : Int)) with
    | true => gd (boundsI i n) (match (atP Y i).eqB p with
      | true => some (.normal, siHR own n xs p Y 1 (chop 1 0 [vI (i : Int)]) (W ((i : Int) + 1)))
      | false => some (.normal, siHE own n xs p Y (W ((i : Int) + 1))))
    | false => some (.exit 0, siXE own n xs)) := by kernel_rfl
def siT (k : Nat) : Bool := Nat.beq k k && (decide ((k + 1) * 8 ≤ 2 ^ 47) && decide (k + 1 ≤ 2 ^ 62))
theorem siRR (own : Bool) (n : Nat) (xs : List O3) (p : P3) (Y : List P3) (k : Nat) (s : List Int) (i : Nat) : roundR ((Caw9 Try.prog).into 29 1) 60 (forBody (stmt 4 (siB Try.prog))) [3, 4, 5, 8, 20, 21, 22] [5, 8] [.fix 0, .slot 3, .slot 20, .slot 8] [.fix 0, .slot 8] (siHR own n xs p Y k (inRow s) (i : Int)) =
    (match decide ((i : Int) < (n : Int)) with
    | true => gd (boundsI i n) (match (atP Y i).eqB p with
      | true => gd (siT k) (some (.normal, siHR own n xs p Y (k + 1) (catR k (inRow s) (chop 1 0 [vI (i : Int)])) (W ((i : Int) + 1))))
      | false => some (.normal, siHR own n xs p Y k (inRow s) (W ((i : Int) + 1))))
    | false => some (.exit 0, siXR own n xs k (inRow s))) := by kernel_rfl
theorem siEnd (own : Bool) (n : Nat) (xs : List O3) (k : Nat) (r : Nat → List Value) : roundR ((Caw9 Try.prog).into 29 1) 60 (seqDrop 5 (siB Try.prog)) [4, 5] [4, 5] [.fix 0, .slot 4] [.fix 0, .slot 4] (siXR own n xs k r) = some (.ret, stOf 36 [(4, .slice (some ⟨1, 0, some 0⟩) k 1), (5, vI 0)] [.rows own true 12 n (opRow xs), .rows true true 1 k r]) := by kernel_rfl
theorem siRet (own : Bool) (n : Nat) (xs : List O3) (k : Nat) (r : Nat → List Value) : (retA Try.prog Try.f29 (.ret, stOf 36 [(4, .slice (some ⟨1, 0, some 0⟩) k 1), (5, vI 0)] [.rows own true 12 n (opRow xs), .rows true true 1 k r])).res = some (.tuple #[.slice (some ⟨1, 0, some 0⟩) k 1, vI 0], [.rows own true 12 n (opRow xs), .rows true true 1 k r]) := by kernel_rfl
/-- With an error. -/
def Csj (P : Program) : Cx := (Cix P).road 61 [true, true]
theorem oksj : CxOk (Csj Try.prog) := Cx.road_ok okix _ _
theorem siP1e (own : Bool) (n : Nat) (xs : List O3) (p : P3) : segR ((Csj Try.prog).into 29 1) 60 2 (siB Try.prog) [4, 5, 7] [.fix 0] (enter Try.f29 [.slice (some ⟨0, 0, some 0⟩) n 12, p.v] [.rows own true 12 n (opRow xs)]) =
    gd (lk n) (gd (oT n (opRow xs)) (gd (leastN (chkI (opsOf n (opRow xs))) p.ckP != 0) (some (stOf 36 [(4, .slice none 0 0), (5, vI 0), (7, vI (leastN (chkI (opsOf n (opRow xs))) p.ckP))] [.rows own true 12 n (opRow xs)])))) := by kernel_rfl
theorem siP2e (own : Bool) (n : Nat) (xs : List O3) (e : Int) : roundR ((Caw9 Try.prog).into 29 1) 60 (stmt 2 (siB Try.prog)) [4, 5] [4, 5] [.fix 0] [.fix 0] (stOf 36 [(4, .slice none 0 0), (5, vI 0), (7, vI e)] [.rows own true 12 n (opRow xs)]) =
    (match e != 0 with
    | true => some (.ret, stOf 36 [(4, .slice none 0 0), (5, vI e)] [.rows own true 12 n (opRow xs)])
    | false => some (.normal, stOf 36 [(4, .slice none 0 0), (5, vI 0)] [.rows own true 12 n (opRow xs)])) := by kernel_rfl
theorem siRetE (own : Bool) (n : Nat) (xs : List O3) (e : Int) : (retA Try.prog Try.f29 (.ret, stOf 36 [(4, .slice none 0 0), (5, vI e)] [.rows own true 12 n (opRow xs)])).res = some (nilE e, [.rows own true 12 n (opRow xs)]) := by kernel_rfl
theorem siZ (p : P3) : exT ((Ciz Try.prog).at 29) 60 Try.f29 [.slice none 0 0, p.v] [] [] = (match leastN 5 p.ckP != 0 with
    | true => some (nilE (leastN 5 p.ckP), [])
    | false => some (nilE 0, [])) := by kernel_rfl
set_option maxRecDepth 100000 in
theorem siIn : InBody ((Caw9 Try.prog).into 29 1) (forHead (stmt 4 (siB Try.prog))) ∧ InBody ((Caw9 Try.prog).into 29 1) (forBody (stmt 4 (siB Try.prog))) := for_in (C := Caw9 Try.prog) (f := 29) (B := 1) (id := 0) (k := 4) (fn := Try.f29) (b := siB Try.prog) Try.func29 siB_eq siFor
theorem siT_ok {k : Nat} (h : k ≤ 1000) : siT k = true := by unfold siT; rw [Nat.beq_refl]; simp; omega
theorem siLoopR (own : Bool) (n : Nat) (xs : List O3) (p : P3) (Y : List P3) (hY : Y.length = n) (hn : n ≤ 500) : ∀ (c i : Nat) (s : List Int), n - i ≤ c → i ≤ n → s.length ≤ i → LoopSem Try.prog 1 (forBody (stmt 4 (siB Try.prog))) (siHR own n xs p Y s.length (inRow s) (i : Int)) (.exit 0) (siXR own n xs (siL p (Y.drop i) i s).length (inRow (siL p (Y.drop i) i s))) := by
  intro c
  have out : ∀ (i : Nat) (s : List Int), i = n → LoopSem Try.prog 1 (forBody (stmt 4 (siB Try.prog))) (siHR own n xs p Y s.length (inRow s) (i : Int)) (.exit 0) (siXR own n xs (siL p (Y.drop i) i s).length (inRow (siL p (Y.drop i) i s))) := by
    intro i s hi
    have hr := siRR own n xs p Y s.length s i
    rw [show decide ((i : Int) < (n : Int)) = false by simp; omega] at hr
    rw [List.drop_eq_nil_of_le (by omega)]
    exact loop_leave (C := Caw9 Try.prog) okaw9 (f := 29) (B := 1) siIn.2 hr (by simp)
  induction c with
  | zero => intro i s h1 h2 _; exact out i s (by omega)
  | succ c ih =>
    intro i s h1 h2 h3
    by_cases hi : i < n
    · have hr := siRR own n xs p Y s.length s i
      rw [show decide ((i : Int) < (n : Int)) = true by simpa using hi, bd_ok' hi, show W ((i : Int) + 1) = ((i + 1 : Nat) : Int) by rw [W_in (by omega)]; simp, siT_ok (by omega)] at hr
      simp only [gd_true] at hr
      have hd : Y.drop i = atP Y i :: Y.drop (i + 1) := by rw [List.drop_eq_getElem_cons (by omega), atP_get (by omega)]
      rw [hd]
      simp only [siL]
      cases hb : (atP Y i).eqB p with
      | true =>
        rw [hb] at hr
        have := ih (i + 1) (s ++ [(i : Int)]) (by omega) (by omega) (by simp; omega)
        rw [show (s ++ [(i : Int)]).length = s.length + 1 by simp] at this
        exact loop_next (C := Caw9 Try.prog) okaw9 (f := 29) (B := 1) (s2 := siHR own n xs p Y (s.length + 1) (inRow (s ++ [(i : Int)])) ((i + 1 : Nat) : Int)) siIn.2 hr ⟨rfl, .refl _, .refl _, .refl _, .rows (in_snoc s (i : Int) rfl), trivial⟩ this
      | false =>
        rw [hb] at hr
        exact loop_next (C := Caw9 Try.prog) okaw9 (f := 29) (B := 1) siIn.2 hr (StLike.refl _) (ih (i + 1) s (by omega) (by omega) (by omega))
    · exact out i s (by omega)
theorem siLoopE (own : Bool) (n : Nat) (xs : List O3) (p : P3) (Y : List P3) (hY : Y.length = n) (hn : n ≤ 500) : ∀ (c i : Nat), n - i ≤ c → i ≤ n → p ∈ Y.drop i → LoopSem Try.prog 1 (forBody (stmt 4 (siB Try.prog))) (siHE own n xs p Y (i : Int)) (.exit 0) (siXR own n xs (siL p (Y.drop i) i []).length (inRow (siL p (Y.drop i) i []))) := by
  intro c
  induction c with
  | zero =>
    intro i h1 h2 h3
    rw [List.drop_eq_nil_of_le (by omega)] at h3
    cases h3
  | succ c ih =>
    intro i h1 h2 h3
    by_cases hi : i < n
    · have hd : Y.drop i = atP Y i :: Y.drop (i + 1) := by rw [List.drop_eq_getElem_cons (by omega), atP_get (by omega)]
      rw [hd] at h3 ⊢
      simp only [siL]
      cases hb : (atP Y i).eqB p with
      | true =>
        have hr := siRE own n xs p Y i
        rw [show decide ((i : Int) < (n : Int)) = true by simpa using hi, bd_ok' hi, show W ((i : Int) + 1) = ((i + 1 : Nat) : Int) by rw [W_in (by omega)]; simp, hb] at hr
        simp only [gd_true] at hr
        have := siLoopR own n xs p Y hY hn n (i + 1) [(i : Int)] (by omega) (by omega) (by simp)
        exact loop_next (C := Caw9 Try.prog) okaw9 (f := 29) (B := 1) (s2 := siHR own n xs p Y 1 (inRow [(i : Int)]) ((i + 1 : Nat) : Int)) siIn.2 hr ⟨rfl, .refl _, .refl _, .refl _, .rows (in_one (i : Int)), trivial⟩ this
      | false =>
        have hr := siRE own n xs p Y i
        rw [show decide ((i : Int) < (n : Int)) = true by simpa using hi, bd_ok' hi, show W ((i : Int) + 1) = ((i + 1 : Nat) : Int) by rw [W_in (by omega)]; simp, hb] at hr
        simp only [gd_true] at hr
        have hne : p ∈ Y.drop (i + 1) := by
          rcases List.mem_cons.1 h3 with e | h
          · rw [← e, P3.eqB_iff'.2 rfl] at hb; cases hb
          · exact h
        exact loop_next (C := Caw9 Try.prog) okaw9 (f := 29) (B := 1) siIn.2 hr (StLike.refl _) (ih (i + 1) (by omega) (by omega) hne)
    · exfalso
      rw [List.drop_eq_nil_of_le (by omega)] at h3
      cases h3
/-- The places of the maps that leave a place. -/
def sitL (X : List O3) (p : P3) : List Int := siL p (imgs X p) 0 []
theorem siS (own : Bool) (X : List O3) (p : P3) (h : leastN (chkI X) p.ckP = 0) : MemSem Try.prog 29 [.slice (some ⟨0, 0, some 0⟩) X.length 12, p.v] [.rows own true 12 X.length (opRow X)] (.tuple #[.slice (some ⟨1, 0, some 0⟩) (sitL X p).length 1, vI 0]) [.rows own true 12 X.length (opRow X), .rows true true 1 (sitL X p).length (inRow (sitL X p))] := by
  obtain ⟨h1, h2⟩ := leastN_zero.1 h
  obtain ⟨_, hX, hl⟩ := chk_grp h1
  have r1 := siP1 own X.length X p
  rw [lk_true, show oT X.length (opRow X) = true by unfold oT; rw [Nat.beq_refl, okOps_opRow]; rfl, opsOf_row rfl, show (leastN (chkI X) p.ckP != 0) = false by simpa using h] at r1
  have hloop := siLoopE own X.length X p (imgs X p) (imgs_len X p) (by omega) X.length 0 (by omega) (by omega) (by rw [List.drop_zero]; exact orb_self hX (ckP_zero h2))
  rw [List.drop_zero] at hloop
  have body0 : InBody ((Csi Try.prog).into 29 1) (siB Try.prog) := Or.inl ⟨Try.f29, siB Try.prog, Try.func29, siB_eq, fun _ hx => hx⟩
  exact body_mem (f := 29) Try.func29 siB_eq (by kernel_rfl) (seg_rule (C := Csi Try.prog) oksi (f := 29) (B := 1) (k := 4) body0 r1 (stmt_rule siHas.2 (for_rule siFor (end_rule (C := Caw9 Try.prog) okaw9 (f := 29) (B := 1) siIn.1 (siHead own X.length X p (imgs X p))) hloop) (end_rule (C := Caw9 Try.prog) okaw9 (f := 29) (B := 1) (bodyOf_in Try.func29 siB_eq) (siEnd own X.length X (sitL X p).length (inRow (sitL X p)))))) (siRet own X.length X (sitL X p).length (inRow (sitL X p)))
theorem siSe (own : Bool) (X : List O3) (p : P3) (h : leastN (chkI X) p.ckP ≠ 0) : MemSem Try.prog 29 [.slice (some ⟨0, 0, some 0⟩) X.length 12, p.v] [.rows own true 12 X.length (opRow X)] (nilE (leastN (chkI X) p.ckP)) [.rows own true 12 X.length (opRow X)] := by
  have hb : (leastN (chkI X) p.ckP != 0) = true := by simpa using h
  have r1 := siP1e own X.length X p
  rw [lk_true, show oT X.length (opRow X) = true by unfold oT; rw [Nat.beq_refl, okOps_opRow]; rfl, opsOf_row rfl, hb] at r1
  have r2 := siP2e own X.length X (leastN (chkI X) p.ckP)
  rw [hb] at r2
  have body0 : InBody ((Csj Try.prog).into 29 1) (siB Try.prog) := Or.inl ⟨Try.f29, siB Try.prog, Try.func29, siB_eq, fun _ hx => hx⟩
  exact body_mem (f := 29) Try.func29 siB_eq (by kernel_rfl) (seg_rule (C := Csj Try.prog) oksj (f := 29) (B := 1) (k := 2) body0 r1 (stmt_out siHas.1 (end_rule (C := Caw9 Try.prog) okaw9 (f := 29) (B := 1) (stmt_in Try.func29 siB_eq) r2) (by simp))) (siRetE own X.length X (leastN (chkI X) p.ckP))
def siF : List Value → Mem → Option (Ans (Value × Mem))
  | [.slice none 0 0, .agg co], [] => match ptCells co.toList with
    | some p => some (.out (nilE (leastN 5 p.ckP), []))
    | none => none
  | [.slice (some ⟨0, 0, some 0⟩) N 12, .agg co], [.rows own true 12 N2 row] => match ptCells co.toList with
    | some p => some (.br (Nat.beq N N2 && okOps N row) (.br (leastN (chkI (opsOf N row)) p.ckP != 0) (.out (nilE (leastN (chkI (opsOf N row)) p.ckP), [.rows own true 12 N (opRow (opsOf N row))])) (.out (.tuple #[.slice (some ⟨1, 0, some 0⟩) (sitL (opsOf N row) p).length 1, vI 0], [.rows own true 12 N (opRow (opsOf N row)), .rows true true 1 (sitL (opsOf N row) p).length (inRow (sitL (opsOf N row) p))]))) .fail)
    | none => none
  | _, _ => none
theorem siF_ok {args : List Value} {m : Mem} {ans : Ans (Value × Mem)} {v : Value} {m' : Mem} (h : siF args m = some ans) (hr : ans.res = some (v, m')) : MemSem Try.prog 29 args m v m' := by
  unfold siF at h
  split at h
  · rename_i co
    split at h
    rotate_left
    · cases h
    rename_i p hp
    simp only [Option.some.injEq] at h
    subst h
    simp only [Ans.res, Option.some.injEq, Prod.mk.injEq] at hr
    obtain ⟨rfl, rfl⟩ := hr
    have e1 : co = p.cells.toArray := by rw [← ptCells_spec hp]
    subst e1
    have hE := siZ p
    rw [show (leastN 5 p.ckP != 0) = true by simpa using five_ne p] at hE
    exact exT_ok okiz Try.func29 (by kernel_rfl) hE
  rotate_left
  · cases h
  rename_i N co own N2 row
  split at h
  rotate_left
  · cases h
  rename_i p hp
  simp only [Option.some.injEq] at h
  subst h
  rcases Ans.br_some hr with ⟨hc, hr1⟩ | ⟨_, hr1⟩
  rotate_left
  · simp [Ans.res] at hr1
  rw [Bool.and_eq_true] at hc
  obtain ⟨c1, c2⟩ := hc
  have c1 := beq_len c1
  subst c1
  have e1 : co = p.cells.toArray := by rw [← ptCells_spec hp]
  subst e1
  have hl := opsOf_length N row
  rcases Ans.br_some hr1 with ⟨hq, hr2⟩ | ⟨hq, hr2⟩
  · simp only [Ans.res, Option.some.injEq, Prod.mk.injEq] at hr2
    obtain ⟨rfl, rfl⟩ := hr2
    have := siSe own (opsOf N row) p (by simpa using hq)
    rw [hl] at this
    exact this.like ⟨.rows (ops_like c2), trivial⟩
  · simp only [Ans.res, Option.some.injEq, Prod.mk.injEq] at hr2
    obtain ⟨rfl, rfl⟩ := hr2
    have := siS own (opsOf N row) p (by simpa using hq)
    rw [hl] at this
    exact this.like ⟨.rows (ops_like c2), trivial⟩
end Go.Proofs.Ytneaibkfglfpaaa


namespace Go.Proofs.Ytneaibkfglfpaaa
open Go Vx Go.RowKit
def Caw8 (P : Program) : Cx := (Caw9 P).addF 29 siF
theorem okaw8 : CxOk (Caw8 Try.prog) := Cx.addF_ok okaw9 fun _ _ _ _ _ h hr => siF_ok h hr
def atI (T : List Int) (j : Nat) : Int := (T[j]?).getD 0
def r12 (c : Nat) : Bool := Nat.beq c c && (decide ((c + 1) * 96 ≤ 2 ^ 47) && decide (c + 1 ≤ 2 ^ 62))
end Go.Proofs.Ytneaibkfglfpaaa


namespace Go.Proofs.Ytneaibkfglfpaaa
open Go Vx Go.RowKit
def fdF (q : P3) (A : List P3) : Nat → Nat → Bool → Bool
  | 0, _, b => b
  | c + 1, j, b => fdF q A c (j + 1) (bif (atP A j).eqB q then true else b)
theorem fdF_true (q : P3) (A : List P3) : ∀ (c j : Nat), fdF q A c j true = true
  | 0, _ => rfl
  | c + 1, j => by
    simp only [fdF]
    cases (atP A j).eqB q <;> exact fdF_true q A c (j + 1)
theorem fdF_found (q : P3) (A : List P3) : ∀ (c j : Nat) (b : Bool), (∃ r, j ≤ r ∧ r < j + c ∧ atP A r = q) → fdF q A c j b = true
  | 0, j, b, ⟨r, h1, h2, _⟩ => by omega
  | c + 1, j, b, ⟨r, h1, h2, h3⟩ => by
    simp only [fdF]
    by_cases hr : r = j
    · subst hr
      rw [h3, P3.eqB_iff'.2 rfl]
      exact fdF_true q A c _
    · exact fdF_found q A c (j + 1) _ ⟨r, by omega, by omega, h3⟩
theorem r12_ok {c : Nat} (h : c ≤ 1000) : r12 c = true := by unfold r12; rw [Nat.beq_refl]; simp; omega
theorem atI_get {s : List Int} {i : Nat} (h : i < s.length) : atI s i = s[i] := by unfold atI; rw [List.getElem?_eq_getElem h]; rfl
theorem siL_map (X : List O3) (p : P3) : ∀ (l : List O3) (i : Nat) (s : List Int), X.drop i = l → (siL p (imgs l p) i s).map (atO X) = s.map (atO X) ++ l.filter fun o => fixB p o
  | [], i, s, _ => by simp [imgs, siL]
  | o :: l, i, s, h => by
    have hi : i < X.length := by
      rcases Nat.lt_or_ge i X.length with k | k
      · exact k
      · rw [List.drop_eq_nil_of_le k] at h; cases h
    have hd := List.drop_eq_getElem_cons hi
    rw [h] at hd
    simp only [List.cons.injEq] at hd
    obtain ⟨ho, hl⟩ := hd
    have ih := siL_map X p l (i + 1) (bif (o.app p).eqB p then s ++ [(i : Int)] else s) hl.symm
    show (siL p (imgs l p) (i + 1) (bif (o.app p).eqB p then s ++ [(i : Int)] else s)).map (atO X) = _
    rw [ih, List.filter_cons]
    unfold fixB
    cases hb : (o.app p).eqB p with
    | true =>
      simp only [cond_true, if_true, List.map_append, List.map_cons, List.map_nil, List.append_assoc, List.cons_append, List.nil_append]
      rw [atO_nat hi, ← ho]
    | false => simp
theorem siL_bds (p : P3) : ∀ (Y : List P3) (i : Nat) (s : List Int) (N : Nat), i + Y.length ≤ N → (∀ x ∈ s, 0 ≤ x ∧ x < (N : Int)) → ∀ x ∈ siL p Y i s, 0 ≤ x ∧ x < (N : Int)
  | [], _, _, _, _, h, x, hx => h x hx
  | y :: Y, i, s, N, hN, h, x, hx => by
    simp only [siL] at hx
    simp only [List.length_cons] at hN
    refine siL_bds p Y (i + 1) _ N (by omega) (fun z hz => ?_) x hx
    cases hb : y.eqB p with
    | true =>
      rw [hb] at hz
      simp only [cond_true, List.mem_append, List.mem_cons, List.not_mem_nil, or_false] at hz
      rcases hz with hz | rfl
      · exact h z hz
      · omega
    | false => rw [hb] at hz; exact h z hz
theorem sitL_map (X : List O3) (p : P3) : (sitL X p).map (atO X) = X.filter fun o => fixB p o := by
  have := siL_map X p X 0 [] (List.drop_zero)
  simpa [sitL] using this
theorem sitL_len (X : List O3) (p : P3) : (sitL X p).length = (X.filter fun o => fixB p o).length := by rw [← sitL_map, List.length_map]
theorem atP_orbA {X : List O3} {p : P3} {r : Nat} (hr : r < (orbL X p).length) : atP (orbA X p) r = (orbL X p)[r] := by
  have h := congrArg (fun l => l[r]?) (orbA_take X p)
  simp only [List.getElem?_take] at h
  rw [if_pos hr] at h
  unfold atP
  rw [h, List.getElem?_eq_getElem hr]
  rfl
end Go.Proofs.Ytneaibkfglfpaaa
