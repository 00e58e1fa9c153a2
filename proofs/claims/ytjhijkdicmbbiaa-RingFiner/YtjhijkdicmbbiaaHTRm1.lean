/-
  RingFiner told. Nothing here is trusted.
-/
import Derived.Test.YtjhijkdicmbbiaaHTRm0
import Derived.Test.YtjhijkdicmbbiaaHTRl7
namespace Go.Proofs.Ytjhijkdicmbbiaa
open Go Vx Go.RowKit
/-- One of the three that have a ring twice as fine, and that one. -/
def dbl (M K : Int) : Prop := K = 2 * M ∧ (M = 24 ∨ M = 48 ∨ M = 96)
theorem dbl_ok {M K : Int} (h : dbl M K) : fineB M = true ∧ fineB K = true ∧ (K % M == 0) = true ∧ K.toNat / M.toNat = 2 ∧ mx M K = K ∧ K.toNat / 3 = 2 * (M.toNat / 3) ∧ K.toNat / 6 = 2 * (M.toNat / 6) ∧ W K = K := by
  obtain ⟨rfl, h | h | h⟩ := h <;> subst h <;> decide
theorem fine_B {B : Int} {x : Nat → Int} (h0 : 0 ≤ B) (h : bd B x) (k : Nat) : bd B (fineG k x) := fun q => by
  unfold fineG
  split
  · exact h _
  · omega
theorem eqV_kk {M K : Int} (h : dbl M K) (a b : Nat → Int) : eqV K K (fineG 2 a) (fineG 2 b) = smV M M (M.toNat / 3) (M.toNat / 3) a b := by
  obtain ⟨hM, hK, _, _, _, hE, _⟩ := dbl_ok h
  unfold eqV smV
  rw [mxs, div_self hK, fineG1, fineG1, hE, beq_self_eq_true, beq_self_eq_true, Bool.true_and, Bool.true_and]
  refine bool_iff ?_
  unfold eqC
  rw [List.all_eq_true, List.all_eq_true]
  refine ⟨fun g i hi => ?_, fun g i hi => ?_⟩
  · have := g (2 * i) (List.mem_range.2 (by have := List.mem_range.1 hi; omega))
    unfold fineG at this
    rw [if_pos (by omega), if_pos (by omega), show 2 * i / 2 = i by omega] at this
    exact this
  · unfold fineG
    by_cases h2 : i % 2 = 0
    · rw [if_pos h2, if_pos h2]
      exact g (i / 2) (List.mem_range.2 (by have := List.mem_range.1 hi; omega))
    · rw [if_neg h2, if_neg h2]; rfl
theorem eqV_mk {M K : Int} (h : dbl M K) {x y : Nat → Int} (hx : ∀ q, q < K.toNat / 3 → fineG 2 x q = y q) : eqV M K x y = true := by
  obtain ⟨hM, hK, _, h2, hx', hE, _⟩ := dbl_ok h
  unfold eqV
  rw [hx', div_self hK, fineG1, h2]
  exact eqC_on2 hx
theorem fm_add {M K : Int} (h : dbl M K) (a b : Nat → Int) : eqV M K (fun q => a q + b q) (fun q => fineG 2 a q + fineG 2 b q) = true := eqV_mk h fun q _ => by
  unfold fineG
  by_cases h2 : q % 2 = 0
  · rw [if_pos h2, if_pos h2, if_pos h2]
  · rw [if_neg h2, if_neg h2, if_neg h2]; rfl
theorem fm_mul {M K : Int} (h : dbl M K) (a b : Nat → Int) : eqV M K (Rin.mulE (M.toNat / 6) a b) (Rin.mulE (K.toNat / 6) (fineG 2 a) (fineG 2 b)) = true := eqV_mk h fun q hq => by
  obtain ⟨hM, _, _, _, _, hE, h6, _⟩ := dbl_ok h
  obtain ⟨s1, s2, s3, s4⟩ := six hM
  rw [h6]
  exact Rin.fine_mul s2 (by omega) a b q (by omega)
theorem fm_conj {M K : Int} (h : dbl M K) (a : Nat → Int) : eqV M K (Rin.conjE (M.toNat / 6) a) (Rin.conjE (K.toNat / 6) (fineG 2 a)) = true := eqV_mk h fun q hq => by
  obtain ⟨hM, _, _, _, _, hE, h6, _⟩ := dbl_ok h
  obtain ⟨s1, s2, s3, s4⟩ := six hM
  rw [h6]
  exact Rin.fine_conj s2 (by omega) a q (by omega)
theorem fm_self {M K : Int} (h : dbl M K) (a : Nat → Int) : eqV M K a (fineG 2 a) = true := eqV_mk h fun _ _ => rfl
theorem rfi_eq : Try.f10.body = some (rfiB Try.prog) := by kernel_rfl
theorem rfiHas : hasStmt 13 (rfiB Try.prog) = true := by kernel_rfl
theorem rfiLaw0 (M K : Int) (hd : dbl M K) (a b : Nat → Int) (ha : bd 999 a) (hb : bd 999 b) : CodeSem Try.prog 0 (seqDrop 5 (rfiB Try.prog)) (rfiZ0 (M.toNat / 3) M K a b) .ret (stOf 133 [(6, .bool true)] []) := by
  obtain ⟨hM, hK, hdv, hk2, _⟩ := dbl_ok hd
  obtain ⟨⟨hp, hc, _, _, hs⟩, _⟩ := rz_facts hM ha hb
  have hfa := fine_B (by decide) ha 2
  have hfb := fine_B (by decide) hb 2
  obtain ⟨⟨hfp, hfc, _, _, hfs⟩, _⟩ := rz_facts hK hfa hfb
  have h1 := rfiB0 (M.toNat / 3) M K a b
  simp only [(And.intro rules (And.intro nots (And.intro bself (And.intro ors (And.intro mxs (And.intro (mulC_self hM) (And.intro (addC_self hM) (And.intro (mulC_self hK) (And.intro (addC_self hK) (And.intro hK (And.intro hdv (And.intro hk2 (And.intro (frm_B hM (ha.le (by decide))) (And.intro (frm_B hM (hb.le (by decide))) (And.intro (frm_B hK (hfa.le (by decide))) (And.intro (frm_B hK (hfb.le (by decide))) (And.intro (allR_B (d := M.toNat / 3) (hs.le (by decide))) (And.intro (allR_B (d := M.toNat / 3) (hp.le (by decide))) (And.intro (allR_B (d := M.toNat / 3) (hc.le (by decide))) (And.intro (allR_B (d := K.toNat / 3) (hfs.le (by decide))) (And.intro (allR_B (d := K.toNat / 3) (hfp.le (by decide))) (allR_B (d := K.toNat / 3) (hfc.le (by decide))))))))))))))))))))))))] at h1
  have h2 := rfiC0 (M.toNat / 3) (K.toNat / 3) M K a b (fineG 2 a) (fineG 2 b) (fun q => a q + b q) (Rin.mulE (M.toNat / 6) a b) (Rin.conjE (M.toNat / 6) a) (fun q => fineG 2 a q + fineG 2 b q) (Rin.mulE (K.toNat / 6) (fineG 2 a) (fineG 2 b)) (Rin.conjE (K.toNat / 6) (fineG 2 a))
  have h3 := rfiD0 (M.toNat / 3) (K.toNat / 3) M K a b (fineG 2 a) (fineG 2 b) (fun q => a q + b q) (Rin.mulE (M.toNat / 6) a b) (Rin.conjE (M.toNat / 6) a) (fun q => fineG 2 a q + fineG 2 b q) (Rin.mulE (K.toNat / 6) (fineG 2 a) (fineG 2 b)) (Rin.conjE (K.toNat / 6) (fineG 2 a))
  simp only [(And.intro rules (And.intro nots (And.intro bself (And.intro ors (And.intro mxs (And.intro (frm_B hM (ha.le (by decide))) (And.intro (frm_B hM (hs.le (by decide))) (And.intro (frm_B hM (hp.le (by decide))) (And.intro (frm_B hM (hc.le (by decide))) (And.intro (frm_B hK (hfa.le (by decide))) (And.intro (frm_B hK (hfb.le (by decide))) (And.intro (frm_B hK (hfs.le (by decide))) (And.intro (frm_B hK (hfp.le (by decide))) (And.intro (frm_B hK (hfc.le (by decide))) (And.intro (dfine hM) (And.intro (eqV_kk hd a b) (And.intro (fm_add hd a b) (And.intro (fm_mul hd a b) (And.intro (fm_conj hd a) (fm_self hd a))))))))))))))))))))] at h3
  exact seg_rule (C := Cm0 Try.prog) okCm0 (f := 10) (B := 0) (k := 8) (bodyOf_in Try.func10 rfi_eq) h1 (by rw [seqDrop_drop]; exact stmt_rule rfiHas (end_rule' (C := Cm0 Try.prog) okCm0 (f := 10) (B := 0) (stmt_in Try.func10 rfi_eq) h2) (end_rule' (C := Cm0 Try.prog) okCm0 (f := 10) (B := 0) (bodyOf_in Try.func10 rfi_eq) h3))
theorem rfiLaw1 (n1 : Nat) (o1 : Bool) (c1 : Nat → Int) (M K : Int) (hd : dbl M K) (a b : Nat → Int) (ha : bd 999 a) (hb : bd 999 b) : CodeSem Try.prog 1 (seqDrop 5 (rfiB Try.prog)) (rfiZ1 n1 o1 c1 (M.toNat / 3) M K a b) .ret (stOf 133 [(6, .bool true)] [Sr o1 n1 c1]) := by
  obtain ⟨hM, hK, hdv, hk2, _⟩ := dbl_ok hd
  obtain ⟨⟨hp, hc, _, _, hs⟩, _⟩ := rz_facts hM ha hb
  have hfa := fine_B (by decide) ha 2
  have hfb := fine_B (by decide) hb 2
  obtain ⟨⟨hfp, hfc, _, _, hfs⟩, _⟩ := rz_facts hK hfa hfb
  have h1 := rfiB1 n1 o1 c1 (M.toNat / 3) M K a b
  simp only [(And.intro rules (And.intro nots (And.intro bself (And.intro ors (And.intro mxs (And.intro (mulC_self hM) (And.intro (addC_self hM) (And.intro (mulC_self hK) (And.intro (addC_self hK) (And.intro hK (And.intro hdv (And.intro hk2 (And.intro (frm_B hM (ha.le (by decide))) (And.intro (frm_B hM (hb.le (by decide))) (And.intro (frm_B hK (hfa.le (by decide))) (And.intro (frm_B hK (hfb.le (by decide))) (And.intro (allR_B (d := M.toNat / 3) (hs.le (by decide))) (And.intro (allR_B (d := M.toNat / 3) (hp.le (by decide))) (And.intro (allR_B (d := M.toNat / 3) (hc.le (by decide))) (And.intro (allR_B (d := K.toNat / 3) (hfs.le (by decide))) (And.intro (allR_B (d := K.toNat / 3) (hfp.le (by decide))) (allR_B (d := K.toNat / 3) (hfc.le (by decide))))))))))))))))))))))))] at h1
  have h2 := rfiC1 n1 o1 c1 (M.toNat / 3) (K.toNat / 3) M K a b (fineG 2 a) (fineG 2 b) (fun q => a q + b q) (Rin.mulE (M.toNat / 6) a b) (Rin.conjE (M.toNat / 6) a) (fun q => fineG 2 a q + fineG 2 b q) (Rin.mulE (K.toNat / 6) (fineG 2 a) (fineG 2 b)) (Rin.conjE (K.toNat / 6) (fineG 2 a))
  have h3 := rfiD1 n1 o1 c1 (M.toNat / 3) (K.toNat / 3) M K a b (fineG 2 a) (fineG 2 b) (fun q => a q + b q) (Rin.mulE (M.toNat / 6) a b) (Rin.conjE (M.toNat / 6) a) (fun q => fineG 2 a q + fineG 2 b q) (Rin.mulE (K.toNat / 6) (fineG 2 a) (fineG 2 b)) (Rin.conjE (K.toNat / 6) (fineG 2 a))
  simp only [(And.intro rules (And.intro nots (And.intro bself (And.intro ors (And.intro mxs (And.intro (frm_B hM (ha.le (by decide))) (And.intro (frm_B hM (hs.le (by decide))) (And.intro (frm_B hM (hp.le (by decide))) (And.intro (frm_B hM (hc.le (by decide))) (And.intro (frm_B hK (hfa.le (by decide))) (And.intro (frm_B hK (hfb.le (by decide))) (And.intro (frm_B hK (hfs.le (by decide))) (And.intro (frm_B hK (hfp.le (by decide))) (And.intro (frm_B hK (hfc.le (by decide))) (And.intro (dfine hM) (And.intro (eqV_kk hd a b) (And.intro (fm_add hd a b) (And.intro (fm_mul hd a b) (And.intro (fm_conj hd a) (fm_self hd a))))))))))))))))))))] at h3
  exact seg_rule (C := Cm0 Try.prog) okCm0 (f := 10) (B := 1) (k := 8) (bodyOf_in Try.func10 rfi_eq) h1 (by rw [seqDrop_drop]; exact stmt_rule rfiHas (end_rule' (C := Cm0 Try.prog) okCm0 (f := 10) (B := 1) (stmt_in Try.func10 rfi_eq) h2) (end_rule' (C := Cm0 Try.prog) okCm0 (f := 10) (B := 1) (bodyOf_in Try.func10 rfi_eq) h3))
theorem rfiLaw2 (n1 : Nat) (o1 : Bool) (c1 : Nat → Int) (n2 : Nat) (o2 : Bool) (c2 : Nat → Int) (M K : Int) (hd : dbl M K) (a b : Nat → Int) (ha : bd 999 a) (hb : bd 999 b) : CodeSem Try.prog 2 (seqDrop 5 (rfiB Try.prog)) (rfiZ2 n1 o1 c1 n2 o2 c2 (M.toNat / 3) M K a b) .ret (stOf 133 [(6, .bool true)] [Sr o1 n1 c1, Sr o2 n2 c2]) := by
  obtain ⟨hM, hK, hdv, hk2, _⟩ := dbl_ok hd
  obtain ⟨⟨hp, hc, _, _, hs⟩, _⟩ := rz_facts hM ha hb
  have hfa := fine_B (by decide) ha 2
  have hfb := fine_B (by decide) hb 2
  obtain ⟨⟨hfp, hfc, _, _, hfs⟩, _⟩ := rz_facts hK hfa hfb
  have h1 := rfiB2 n1 o1 c1 n2 o2 c2 (M.toNat / 3) M K a b
  simp only [(And.intro rules (And.intro nots (And.intro bself (And.intro ors (And.intro mxs (And.intro (mulC_self hM) (And.intro (addC_self hM) (And.intro (mulC_self hK) (And.intro (addC_self hK) (And.intro hK (And.intro hdv (And.intro hk2 (And.intro (frm_B hM (ha.le (by decide))) (And.intro (frm_B hM (hb.le (by decide))) (And.intro (frm_B hK (hfa.le (by decide))) (And.intro (frm_B hK (hfb.le (by decide))) (And.intro (allR_B (d := M.toNat / 3) (hs.le (by decide))) (And.intro (allR_B (d := M.toNat / 3) (hp.le (by decide))) (And.intro (allR_B (d := M.toNat / 3) (hc.le (by decide))) (And.intro (allR_B (d := K.toNat / 3) (hfs.le (by decide))) (And.intro (allR_B (d := K.toNat / 3) (hfp.le (by decide))) (allR_B (d := K.toNat / 3) (hfc.le (by decide))))))))))))))))))))))))] at h1
  have h2 := rfiC2 n1 o1 c1 n2 o2 c2 (M.toNat / 3) (K.toNat / 3) M K a b (fineG 2 a) (fineG 2 b) (fun q => a q + b q) (Rin.mulE (M.toNat / 6) a b) (Rin.conjE (M.toNat / 6) a) (fun q => fineG 2 a q + fineG 2 b q) (Rin.mulE (K.toNat / 6) (fineG 2 a) (fineG 2 b)) (Rin.conjE (K.toNat / 6) (fineG 2 a))
  have h3 := rfiD2 n1 o1 c1 n2 o2 c2 (M.toNat / 3) (K.toNat / 3) M K a b (fineG 2 a) (fineG 2 b) (fun q => a q + b q) (Rin.mulE (M.toNat / 6) a b) (Rin.conjE (M.toNat / 6) a) (fun q => fineG 2 a q + fineG 2 b q) (Rin.mulE (K.toNat / 6) (fineG 2 a) (fineG 2 b)) (Rin.conjE (K.toNat / 6) (fineG 2 a))
  simp only [(And.intro rules (And.intro nots (And.intro bself (And.intro ors (And.intro mxs (And.intro (frm_B hM (ha.le (by decide))) (And.intro (frm_B hM (hs.le (by decide))) (And.intro (frm_B hM (hp.le (by decide))) (And.intro (frm_B hM (hc.le (by decide))) (And.intro (frm_B hK (hfa.le (by decide))) (And.intro (frm_B hK (hfb.le (by decide))) (And.intro (frm_B hK (hfs.le (by decide))) (And.intro (frm_B hK (hfp.le (by decide))) (And.intro (frm_B hK (hfc.le (by decide))) (And.intro (dfine hM) (And.intro (eqV_kk hd a b) (And.intro (fm_add hd a b) (And.intro (fm_mul hd a b) (And.intro (fm_conj hd a) (fm_self hd a))))))))))))))))))))] at h3
  exact seg_rule (C := Cm0 Try.prog) okCm0 (f := 10) (B := 2) (k := 8) (bodyOf_in Try.func10 rfi_eq) h1 (by rw [seqDrop_drop]; exact stmt_rule rfiHas (end_rule' (C := Cm0 Try.prog) okCm0 (f := 10) (B := 2) (stmt_in Try.func10 rfi_eq) h2) (end_rule' (C := Cm0 Try.prog) okCm0 (f := 10) (B := 2) (bodyOf_in Try.func10 rfi_eq) h3))
theorem dbl_m {m : Int} (h0 : 0 ≤ m) : dbl (sml (m.tmod 3).toNat) (2 * sml (m.tmod 3).toNat) ∧ decide (0 ≤ m.tmod 3) = true ∧ decide (m.tmod 3 < 256) = true := by
  rw [Int.tmod_eq_emod_of_nonneg h0]
  have h : m % 3 = 0 ∨ m % 3 = 1 ∨ m % 3 = 2 := by omega
  rcases h with h | h | h <;> rw [h]
  · exact ⟨⟨rfl, Or.inl rfl⟩, rfl, rfl⟩
  · exact ⟨⟨rfl, Or.inr (Or.inl rfl)⟩, rfl, rfl⟩
  · exact ⟨⟨rfl, Or.inr (Or.inr rfl)⟩, rfl, rfl⟩
theorem bd0' : bd 999 fun _ => 0 := fun _ => by show -999 ≤ (0 : Int) ∧ (0 : Int) ≤ 999; omega
theorem rfiRetNN : (retA Try.prog Try.f10 (.ret, stOf 133 [(6, .bool true)] [])).res = some (.bool true, []) := by kernel_rfl
theorem rfiNN (m : Int) (h0 : 0 ≤ m) : MemSem Try.prog 10 [.int .u8 m, .slice none 0 0, .slice none 0 0] [] (.bool true) [] := by
  have body0 : InBody ((Cm0 Try.prog).into 10 0) (rfiB Try.prog) := Or.inl ⟨Try.f10, rfiB Try.prog, Try.func10, rfi_eq, fun _ hx => hx⟩
  obtain ⟨hd, t1, t2⟩ := dbl_m h0
  have hw : W (2 * (sml (m.tmod 3).toNat)) = 2 * (sml (m.tmod 3).toNat) := (dbl_ok hd).2.2.2.2.2.2.2
  have h := rfiANN m
  simp only [(And.intro rules (And.intro nots (And.intro okSs_row (And.intro sOf_row (And.intro t1 (And.intro t2 hw))))))] at h
  exact body_mem (m := []) (args := [.int .u8 m, .slice none 0 0, .slice none 0 0]) (f := 10) Try.func10 rfi_eq (by kernel_rfl) (seg_rule (C := Cm0 Try.prog) okCm0 (f := 10) (B := 0) (k := 5) body0 h (rfiLaw0 (sml (m.tmod 3).toNat) (2 * (sml (m.tmod 3).toNat)) hd (fun _ => 0) (fun _ => 0) bd0' bd0')) (rfiRetNN)
theorem rfiRetNL (n2 : Nat) (o2 : Bool) (c2 : Nat → Int): (retA Try.prog Try.f10 (.ret, stOf 133 [(6, .bool true)] [Sr o2 n2 c2])).res = some (.bool true, [Sr o2 n2 c2]) := by kernel_rfl
theorem rfiNL (m : Int) (h0 : 0 ≤ m) (n2 : Nat) (hn2 : n2 ≤ 9223372036854775807) (o2 : Bool) (c2 : Nat → Int) : MemSem Try.prog 10 [.int .u8 m, .slice none 0 0, SI 0 n2] [Sr o2 n2 c2] (.bool true) [Sr o2 n2 c2] := by
  have body0 : InBody ((Cm0 Try.prog).into 10 1) (rfiB Try.prog) := Or.inl ⟨Try.f10, rfiB Try.prog, Try.func10, rfi_eq, fun _ hx => hx⟩
  obtain ⟨hd, t1, t2⟩ := dbl_m h0
  have hw : W (2 * (sml (m.tmod 3).toNat)) = 2 * (sml (m.tmod 3).toNat) := (dbl_ok hd).2.2.2.2.2.2.2
  have h := rfiANL m n2 o2 c2
  simp only [(And.intro rules (And.intro nots (And.intro okSs_row (And.intro sOf_row (And.intro t1 (And.intro t2 (And.intro hw (decide_eq_true hn2))))))))] at h
  exact body_mem (m := [Sr o2 n2 c2]) (args := [.int .u8 m, .slice none 0 0, SI 0 n2]) (f := 10) Try.func10 rfi_eq (by kernel_rfl) (seg_rule (C := Cm0 Try.prog) okCm0 (f := 10) (B := 1) (k := 5) body0 h (rfiLaw1 n2 o2 c2 (sml (m.tmod 3).toNat) (2 * (sml (m.tmod 3).toNat)) hd (fun _ => 0) (smC ((sml (m.tmod 3).toNat).toNat / 3) c2 n2) bd0' (smC_bd _ c2 n2))) (rfiRetNL n2 o2 c2)
theorem rfiRetLN (n1 : Nat) (o1 : Bool) (c1 : Nat → Int): (retA Try.prog Try.f10 (.ret, stOf 133 [(6, .bool true)] [Sr o1 n1 c1])).res = some (.bool true, [Sr o1 n1 c1]) := by kernel_rfl
theorem rfiLN (m : Int) (h0 : 0 ≤ m) (n1 : Nat) (hn1 : n1 ≤ 9223372036854775807) (o1 : Bool) (c1 : Nat → Int) : MemSem Try.prog 10 [.int .u8 m, SI 0 n1, .slice none 0 0] [Sr o1 n1 c1] (.bool true) [Sr o1 n1 c1] := by
  have body0 : InBody ((Cm0 Try.prog).into 10 1) (rfiB Try.prog) := Or.inl ⟨Try.f10, rfiB Try.prog, Try.func10, rfi_eq, fun _ hx => hx⟩
  obtain ⟨hd, t1, t2⟩ := dbl_m h0
  have hw : W (2 * (sml (m.tmod 3).toNat)) = 2 * (sml (m.tmod 3).toNat) := (dbl_ok hd).2.2.2.2.2.2.2
  have h := rfiALN m n1 o1 c1
  simp only [(And.intro rules (And.intro nots (And.intro okSs_row (And.intro sOf_row (And.intro t1 (And.intro t2 (And.intro hw (decide_eq_true hn1))))))))] at h
  exact body_mem (m := [Sr o1 n1 c1]) (args := [.int .u8 m, SI 0 n1, .slice none 0 0]) (f := 10) Try.func10 rfi_eq (by kernel_rfl) (seg_rule (C := Cm0 Try.prog) okCm0 (f := 10) (B := 1) (k := 5) body0 h (rfiLaw1 n1 o1 c1 (sml (m.tmod 3).toNat) (2 * (sml (m.tmod 3).toNat)) hd (smC ((sml (m.tmod 3).toNat).toNat / 3) c1 n1) (fun _ => 0) (smC_bd _ c1 n1) bd0')) (rfiRetLN n1 o1 c1)
theorem rfiRetLL (n1 : Nat) (o1 : Bool) (c1 : Nat → Int) (n2 : Nat) (o2 : Bool) (c2 : Nat → Int): (retA Try.prog Try.f10 (.ret, stOf 133 [(6, .bool true)] [Sr o1 n1 c1, Sr o2 n2 c2])).res = some (.bool true, [Sr o1 n1 c1, Sr o2 n2 c2]) := by kernel_rfl
theorem rfiLL (m : Int) (h0 : 0 ≤ m) (n1 : Nat) (hn1 : n1 ≤ 9223372036854775807) (o1 : Bool) (c1 : Nat → Int) (n2 : Nat) (hn2 : n2 ≤ 9223372036854775807) (o2 : Bool) (c2 : Nat → Int) : MemSem Try.prog 10 [.int .u8 m, SI 0 n1, SI 1 n2] [Sr o1 n1 c1, Sr o2 n2 c2] (.bool true) [Sr o1 n1 c1, Sr o2 n2 c2] := by
  have body0 : InBody ((Cm0 Try.prog).into 10 2) (rfiB Try.prog) := Or.inl ⟨Try.f10, rfiB Try.prog, Try.func10, rfi_eq, fun _ hx => hx⟩
  obtain ⟨hd, t1, t2⟩ := dbl_m h0
  have hw : W (2 * (sml (m.tmod 3).toNat)) = 2 * (sml (m.tmod 3).toNat) := (dbl_ok hd).2.2.2.2.2.2.2
  have h := rfiALL m n1 o1 c1 n2 o2 c2
  simp only [(And.intro rules (And.intro nots (And.intro okSs_row (And.intro sOf_row (And.intro t1 (And.intro t2 (And.intro hw (And.intro (decide_eq_true hn1) (decide_eq_true hn2)))))))))] at h
  exact body_mem (m := [Sr o1 n1 c1, Sr o2 n2 c2]) (args := [.int .u8 m, SI 0 n1, SI 1 n2]) (f := 10) Try.func10 rfi_eq (by kernel_rfl) (seg_rule (C := Cm0 Try.prog) okCm0 (f := 10) (B := 2) (k := 5) body0 h (rfiLaw2 n1 o1 c1 n2 o2 c2 (sml (m.tmod 3).toNat) (2 * (sml (m.tmod 3).toNat)) hd (smC ((sml (m.tmod 3).toNat).toNat / 3) c1 n1) (smC ((sml (m.tmod 3).toNat).toNat / 3) c2 n2) (smC_bd _ c1 n1) (smC_bd _ c2 n2))) (rfiRetLL n1 o1 c1 n2 o2 c2)
end Go.Proofs.Ytjhijkdicmbbiaa
