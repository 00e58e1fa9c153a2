/-
  facettop.WholeShears answers true. Nothing here is trusted.
-/
import Derived.Test.YtggdbakgiknogaaHTShA
namespace Go.Proofs.Ytggdbakgiknogaa
open Go Vx Go.RowKit
theorem W_i8 {m : Int} (h : -128 ≤ m ∧ m ≤ 127) : W m = m := W_in (by omega)
theorem oTc_ok (X : List O3) (n : Nat) : oTc n (opRow X) = true := by unfold oTc; rw [Nat.beq_refl, okOps_opRow]; rfl
theorem shear_ck {n : Int} (h : -128 ≤ n ∧ n ≤ 127) : (shear n).ck = 0 := by
  refine O3.ck_zero.2 ⟨by rfl, ?_, ?_⟩
  · rw [M3.ok_iff]
    unfold M3.Bd shear
    simp only
    omega
  · unfold M3.U M3.det shear
    simp
theorem ws_tail (own : Bool) (n : Nat) (ss : List Sd) : CodeSem Try.prog 1 (seqDrop 8 (wsB Try.prog)) (ws3 own n ss 5) .ret (wsR own n ss true) := by
  obtain ⟨x1, x2⟩ := cls_x
  obtain ⟨y1, y2⟩ := cls_xy
  refine seg_rule (C := Cse2 Try.prog) okse2 (f := 10) (B := 1) (k := 2) (bodyOf_in Try.func10 wsB_eq) (wsP8 own n ss 5) ?_
  rw [seqDrop_drop]
  have r10 := wsP10 own n ss 5 shiftX shiftY
  rw [show opsOf 2 (chop 12 0 (shiftX.cells ++ shiftY.cells)) = [shiftX, shiftY] from rfl, y1, y2] at r10
  refine seg_rule (C := Cwa Try.prog) okwa (f := 10) (B := 1) (k := 1) (bodyOf_in Try.func10 wsB_eq) r10 ?_
  rw [seqDrop_drop]
  have r11 := wsP11 own n ss 5 5 shiftX
  rw [show opsOf 1 (chop 12 0 shiftX.cells) = [shiftX] from rfl, x1, x2] at r11
  refine seg_rule (C := Cwb Try.prog) okwb (f := 10) (B := 1) (k := 1) (bodyOf_in Try.func10 wsB_eq) r11 ?_
  rw [seqDrop_drop]
  exact end_rule (C := Cse2 Try.prog) okse2 (f := 10) (B := 1) (bodyOf_in Try.func10 wsB_eq) (wsP12 own n ss 5 5 24 (clsG [shiftX]))
theorem wz_tail : CodeSem Try.prog 0 (seqDrop 8 (wsB Try.prog)) (wz3 5) .ret (wzR true) := by
  obtain ⟨x1, x2⟩ := cls_x
  obtain ⟨y1, y2⟩ := cls_xy
  refine seg_rule (C := Cse2 Try.prog) okse2 (f := 10) (B := 0) (k := 2) (bodyOf_in Try.func10 wsB_eq) (wzP8 5) ?_
  rw [seqDrop_drop]
  have r10 := wzP10 5 shiftX shiftY
  rw [show opsOf 2 (chop 12 0 (shiftX.cells ++ shiftY.cells)) = [shiftX, shiftY] from rfl, y1, y2] at r10
  refine seg_rule (C := Cwa Try.prog) okwa (f := 10) (B := 0) (k := 1) (bodyOf_in Try.func10 wsB_eq) r10 ?_
  rw [seqDrop_drop]
  have r11 := wzP11 5 5 shiftX
  rw [show opsOf 1 (chop 12 0 shiftX.cells) = [shiftX] from rfl, x1, x2] at r11
  refine seg_rule (C := Cwb Try.prog) okwb (f := 10) (B := 0) (k := 1) (bodyOf_in Try.func10 wsB_eq) r11 ?_
  rw [seqDrop_drop]
  exact end_rule (C := Cse2 Try.prog) okse2 (f := 10) (B := 0) (bodyOf_in Try.func10 wsB_eq) (wzP12 5 5 24 (clsG [shiftX]))
/-- The end, where the shear is among maps. -/
theorem ws_end (own : Bool) (n : Nat) (ss : List Sd) (V : List O3) (k : Int) (hk0 : k ≠ 0) (hin : shear k ∈ V) (hl : V.length ≤ 192) (hck : ∀ o ∈ V, o.ck = 0) : CodeSem Try.prog 1 (seqDrop 6 (wsB Try.prog)) (ws2 own n ss V.length (opRow V)) .ret (wsR own n ss true) := by
  obtain ⟨e1, e2⟩ := cls_shear hl hck hk0 hin
  have r6 := wsP6 own n ss V.length V
  rw [lk_true, oTc_ok, opsOf_row rfl, e1, e2] at r6
  refine seg_rule (C := Cwa Try.prog) okwa (f := 10) (B := 1) (k := 2) (bodyOf_in Try.func10 wsB_eq) r6 ?_
  rw [seqDrop_drop]
  exact ws_tail own n ss
theorem mod_cases {a : Int} (ha : 0 ≤ a ∧ a < 256) {L : Int} (h : 1 ≤ L ∧ L ≤ 4) : 0 ≤ Int.tmod (W a) L ∧ Int.tmod (W a) L < L := by
  rw [W_in (by omega)]
  exact ⟨Int.tmod_nonneg _ ha.1, Int.tmod_lt_of_pos _ (by omega)⟩
/-- The shear put in, and the end. -/
theorem ws_with (own : Bool) (n : Nat) (ss : List Sd) (l : List O3) (k : Int) (c : Nat) (r : Nat → List Value) (st : St) (hk0 : k ≠ 0) (hin : shear k ∈ l) (hl : l.length = c) (hc : c ≤ 10) (hck : ∀ o ∈ l, o.ck = 0) (hr : rowsLike c r (opRow l)) (h5 : roundR ((Cse2 Try.prog).into 10 1) 80 (stmt 5 (wsB Try.prog)) [6, 9] [6, 9] [.fix 0, .slot 9] [.fix 0, .slot 9] st = some (.normal, ws2 own n ss c r)) : CodeSem Try.prog 1 (seqDrop 5 (wsB Try.prog)) st .ret (wsR own n ss true) := by
  have he := ws_end own n ss l k hk0 hin (by omega) hck
  rw [hl] at he
  exact stmt_rule wsHas (end_rule (C := Cse2 Try.prog) okse2 (f := 10) (B := 1) (stmt_in Try.func10 wsB_eq) h5) (he.like ⟨rfl, .refl _, .rows hr, trivial⟩)
theorem ws_0 (own : Bool) (n : Nat) (ss : List Sd) (a k : Int) (ha : 0 ≤ a ∧ a < 256) (hk : -128 ≤ k ∧ k ≤ 127) (hk0 : k ≠ 0) : CodeSem Try.prog 1 (seqDrop 5 (wsB Try.prog)) (ws1_0 own n ss a (shear k)) .ret (wsR own n ss true) := by
  have hm := mod_cases ha (L := 1) (by omega)
  have hp := wsP5_0 own n ss a (shear k)
  have e : Int.tmod (W a) 1 = 0 := by omega
  rw [e] at hp
  exact ws_with own n ss [shear k] k 1 _ _ hk0 (by simp) rfl (by omega) (fun o ho => by simp only [List.mem_cons, List.not_mem_nil, or_false] at ho; rw [ho]; exact shear_ck hk) (rows_one _) hp
theorem ck_all {l : List O3} {k : Int} (hk : -128 ≤ k ∧ k ≤ 127) {Z : List O3} (hZ : ∀ o ∈ Z, o.ck = 0) (h : ∀ o ∈ l, o = shear k ∨ o ∈ Z) : ∀ o ∈ l, o.ck = 0 := fun o ho => by
  rcases h o ho with rfl | h
  · exact shear_ck hk
  · exact hZ o h
theorem ws_1 (own : Bool) (n : Nat) (ss : List Sd) (a k : Int) (z0 : O3) (ha : 0 ≤ a ∧ a < 256) (hk : -128 ≤ k ∧ k ≤ 127) (hk0 : k ≠ 0) (hZ : ∀ o ∈ [z0], o.ck = 0) : CodeSem Try.prog 1 (seqDrop 5 (wsB Try.prog)) (ws1_1 own n ss a (shear k) [z0]) .ret (wsR own n ss true) := by
  have hm := mod_cases ha (L := 2) (by omega)
  have hp := wsP5_1 own n ss a (shear k) [z0]
  have : Int.tmod (W a) 2 = 0 ∨ Int.tmod (W a) 2 = 1 := by omega
  rcases this with e | e <;> rw [e] at hp
  · exact ws_with own n ss [shear k, z0] k 2 _ _ hk0 (by simp) rfl (by omega) (ck_all hk hZ (by simp)) (rows_snoc (rows_one _) rfl _) hp
  · exact ws_with own n ss [z0, shear k] k 2 _ _ hk0 (by simp) rfl (by omega) (ck_all hk hZ (by simp)) (rows_snoc (rows_one _) rfl _) hp
theorem ws_2 (own : Bool) (n : Nat) (ss : List Sd) (a k : Int) (z0 z1 : O3) (ha : 0 ≤ a ∧ a < 256) (hk : -128 ≤ k ∧ k ≤ 127) (hk0 : k ≠ 0) (hZ : ∀ o ∈ [z0, z1], o.ck = 0) : CodeSem Try.prog 1 (seqDrop 5 (wsB Try.prog)) (ws1_2 own n ss a (shear k) [z0, z1]) .ret (wsR own n ss true) := by
  have hm := mod_cases ha (L := 3) (by omega)
  have hp := wsP5_2 own n ss a (shear k) [z0, z1]
  have : Int.tmod (W a) 3 = 0 ∨ Int.tmod (W a) 3 = 1 ∨ Int.tmod (W a) 3 = 2 := by omega
  rcases this with e | e | e <;> rw [e] at hp
  · exact ws_with own n ss [shear k, z0, z1] k 3 _ _ hk0 (by simp) rfl (by omega) (ck_all hk hZ (by simp)) (rows_snoc (rows_snoc (rows_one _) rfl _) rfl _) hp
  · exact ws_with own n ss [z0, shear k, z1] k 3 _ _ hk0 (by simp) rfl (by omega) (ck_all hk hZ (by simp)) (rows_snoc (rows_snoc (rows_one _) rfl _) rfl _) hp
  · exact ws_with own n ss [z0, z1, shear k] k 3 _ _ hk0 (by simp) rfl (by omega) (ck_all hk hZ (by simp)) (rows_snoc (rows_snoc (rows_one _) rfl _) rfl _) hp
theorem ws_3 (own : Bool) (n : Nat) (ss : List Sd) (a k : Int) (z0 z1 z2 : O3) (ha : 0 ≤ a ∧ a < 256) (hk : -128 ≤ k ∧ k ≤ 127) (hk0 : k ≠ 0) (hZ : ∀ o ∈ [z0, z1, z2], o.ck = 0) : CodeSem Try.prog 1 (seqDrop 5 (wsB Try.prog)) (ws1_3 own n ss a (shear k) [z0, z1, z2]) .ret (wsR own n ss true) := by
  have hm := mod_cases ha (L := 4) (by omega)
  have hp := wsP5_3 own n ss a (shear k) [z0, z1, z2]
  have : Int.tmod (W a) 4 = 0 ∨ Int.tmod (W a) 4 = 1 ∨ Int.tmod (W a) 4 = 2 ∨ Int.tmod (W a) 4 = 3 := by omega
  rcases this with e | e | e | e <;> rw [e] at hp
  · exact ws_with own n ss [shear k, z0, z1, z2] k 4 _ _ hk0 (by simp) rfl (by omega) (ck_all hk hZ (by simp)) (rows_snoc (rows_snoc (rows_snoc (rows_one _) rfl _) rfl _) rfl _) hp
  · exact ws_with own n ss [z0, shear k, z1, z2] k 4 _ _ hk0 (by simp) rfl (by omega) (ck_all hk hZ (by simp)) (rows_snoc (rows_snoc (rows_snoc (rows_one _) rfl _) rfl _) rfl _) hp
  · exact ws_with own n ss [z0, z1, shear k, z2] k 4 _ _ hk0 (by simp) rfl (by omega) (ck_all hk hZ (by simp)) (rows_snoc (rows_snoc (rows_snoc (rows_one _) rfl _) rfl _) rfl _) hp
  · exact ws_with own n ss [z0, z1, z2, shear k] k 4 _ _ hk0 (by simp) rfl (by omega) (ck_all hk hZ (by simp)) (rows_snoc (rows_snoc (rows_snoc (rows_one _) rfl _) rfl _) rfl _) hp
/-- The number that is put in. -/
def shN (m : Int) : Int := bif m == 0 then 1 else m
theorem shN_ok {m : Int} (hm : -128 ≤ m ∧ m ≤ 127) : (-128 ≤ shN m ∧ shN m ≤ 127) ∧ shN m ≠ 0 := by
  unfold shN
  cases h : m == 0 with
  | true => exact ⟨by simp, by simp⟩
  | false => simp only [cond_false]; exact ⟨hm, by simpa using h⟩
theorem both_ways {α : Type} {m : Int} (hm : -128 ≤ m ∧ m ≤ 127) (F : Int → α) : (match m == 0 with
    | true => F 1
    | false => F (W m)) = F (shN m) := by
  unfold shN
  cases h : m == 0 with
  | true => rfl
  | false => simp only [cond_false]; rw [W_i8 hm]
theorem nb_ff {n m : Nat} (h : n ≠ m) : Nat.beq n m = false := by
  cases hb : Nat.beq n m with
  | false => rfl
  | true => exact absurd (Nat.eq_of_beq_eq_true hb) h
theorem ws_sem (own : Bool) (ss : List Sd) (hok : ∀ d ∈ ss, d.ok = true) (m a : Int) (hm : -128 ≤ m ∧ m ≤ 127) (ha : 0 ≤ a ∧ a < 256) : MemSem Try.prog 10 [.slice (some ⟨0, 0, some 0⟩) ss.length 6, .int .i8 m, .int .u8 a] [.rows own true 6 ss.length (sdRow ss)] (.bool true) [.rows own true 6 ss.length (sdRow ss)] := by
  obtain ⟨hk, hk0⟩ := shN_ok hm
  have t6 : okT6 ss.length ss = true := by unfold okT6; rw [Nat.beq_refl, okSds_row hok rfl]; rfl
  refine body_mem (f := 10) Try.func10 wsB_eq (by kernel_rfl) ?_ (wsRet own ss.length ss)
  by_cases h0 : ss.length = 0
  · have r := wsP0_0 own ss.length ss m a
    rw [lk_true, t6, h0] at r
    replace r := r.trans (both_ways hm (fun k => gd true (gd true (gd (Nat.beq 0 0) (some (ws1_0 own 0 ss a (shear k)))))))
    rw [h0]
    exact seg_rule (C := Cw0 Try.prog) okw_0 (f := 10) (B := 1) (k := 5) (Or.inl ⟨Try.f10, wsB Try.prog, Try.func10, wsB_eq, fun _ hx => hx⟩) r (ws_0 own 0 ss a (shN m) ha hk hk0)
  have n0 := nb_ff h0
  by_cases h1 : ss.length = 1
  · have r := wsP0_1 own ss.length ss m a
    have hZ := sdL_ck hok (k := 1) (by omega)
    rw [lk_true, t6, sdsOf_row rfl, n0, show Nat.beq ss.length 1 = true by rw [h1]; rfl] at r
    replace r := r.trans (both_ways hm (fun k => gd true (gd true (gn false (gd true (some (ws1_1 own ss.length ss a (shear k) (sdL 1 ss))))))))
    exact seg_rule (C := Cw1 Try.prog) okw_1 (f := 10) (B := 1) (k := 5) (Or.inl ⟨Try.f10, wsB Try.prog, Try.func10, wsB_eq, fun _ hx => hx⟩) r (ws_1 own ss.length ss a (shN m) _ ha hk hk0 hZ)
  have n1 := nb_ff h1
  by_cases h2 : ss.length = 2
  · have r := wsP0_2 own ss.length ss m a
    have hZ := sdL_ck hok (k := 2) (by omega)
    rw [lk_true, t6, sdsOf_row rfl, n0, n1, show Nat.beq ss.length 2 = true by rw [h2]; rfl] at r
    replace r := r.trans (both_ways hm (fun k => gd true (gd true (gn false (gn false (gd true (some (ws1_2 own ss.length ss a (shear k) (sdL 2 ss)))))))))
    exact seg_rule (C := Cw2 Try.prog) okw_2 (f := 10) (B := 1) (k := 5) (Or.inl ⟨Try.f10, wsB Try.prog, Try.func10, wsB_eq, fun _ hx => hx⟩) r (ws_2 own ss.length ss a (shN m) _ _ ha hk hk0 hZ)
  · have n2 := nb_ff h2
    have r := wsP0_3 own ss.length ss m a
    have hZ := sdL_ck hok (k := 3) (by omega)
    rw [lk_true, t6, sdsOf_row rfl, n0, n1, n2] at r
    replace r := r.trans (both_ways hm (fun k => gd true (gd true (gn false (gn false (gn false (some (ws1_3 own ss.length ss a (shear k) (sdL 3 ss)))))))))
    exact seg_rule (C := Cw3 Try.prog) okw_3 (f := 10) (B := 1) (k := 5) (Or.inl ⟨Try.f10, wsB Try.prog, Try.func10, wsB_eq, fun _ hx => hx⟩) r (ws_3 own ss.length ss a (shN m) _ _ _ ha hk hk0 hZ)
theorem wz_sem (m a : Int) (hm : -128 ≤ m ∧ m ≤ 127) (ha : 0 ≤ a ∧ a < 256) : MemSem Try.prog 10 [.slice none 0 0, .int .i8 m, .int .u8 a] [] (.bool true) [] := by
  obtain ⟨hk, hk0⟩ := shN_ok hm
  refine body_mem (f := 10) Try.func10 wsB_eq (by kernel_rfl) ?_ wzRet
  have r := wzP0 m a
  replace r := r.trans (both_ways hm (fun k => some (wz1 a (shear k))))
  refine seg_rule (C := Cwf Try.prog) okwf (f := 10) (B := 0) (k := 5) (Or.inl ⟨Try.f10, wsB Try.prog, Try.func10, wsB_eq, fun _ hx => hx⟩) r ?_
  have hmo := mod_cases ha (L := 1) (by omega)
  have hp := wzP5 a (shear (shN m))
  have e : Int.tmod (W a) 1 = 0 := by omega
  rw [e] at hp
  obtain ⟨e1, e2⟩ := cls_shear (ls := [shear (shN m)]) (n := shN m) (by simp) (fun o ho => by simp only [List.mem_cons, List.not_mem_nil, or_false] at ho; rw [ho]; exact shear_ck hk) hk0 (by simp)
  have r6 := wzP6 1 [shear (shN m)]
  rw [lk_true, oTc_ok, show opsOf 1 (opRow [shear (shN m)]) = [shear (shN m)] from rfl, e1, e2] at r6
  have h6 : CodeSem Try.prog 0 (seqDrop 6 (wsB Try.prog)) (stOf 127 [(6, .bool false), (9, .slice (some ⟨0, 0, some 0⟩) 1 12)] [.rows true true 12 1 (opRow [shear (shN m)])]) .ret (wzR true) :=
    seg_rule (C := Cwa Try.prog) okwa (f := 10) (B := 0) (k := 2) (bodyOf_in Try.func10 wsB_eq) r6 (by rw [seqDrop_drop]; exact wz_tail)
  exact stmt_rule wsHas (end_rule (C := Cse2 Try.prog) okse2 (f := 10) (B := 0) (stmt_in Try.func10 wsB_eq) hp) (h6.like ⟨rfl, .rows (rows_one _), trivial⟩)
end Go.Proofs.Ytggdbakgiknogaa
