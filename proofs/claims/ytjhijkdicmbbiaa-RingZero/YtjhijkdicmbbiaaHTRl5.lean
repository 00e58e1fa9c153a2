/-
  RingZero told. Nothing here is trusted.
-/
import Derived.Test.YtjhijkdicmbbiaaHTRl3
import Derived.Test.YtjhijkdicmbbiaaHTRl4
import Derived.Test.YtjhijkdicmbbiaaHTRk5
namespace Go.Proofs.Ytjhijkdicmbbiaa
open Go Vx Go.RowKit
theorem sm_rl (M : Int) (a : Nat → Int) : smV M M (M.toNat / 3) (M.toNat / 3) a (Rin.conjE (M.toNat / 6) a) = rlV M a := by
  unfold smV rlV
  simp
theorem sm_eqOn {M : Int} (hM : fineB M = true) {a b : Nat → Int} (h : Rin.EqOn (2 * (M.toNat / 6)) a b) : smV M M (M.toNat / 3) (M.toNat / 3) a b = true := smV_on fun q hq => h q (by have := (six hM).2.2.1; omega)
theorem ors : (∀ b : Bool, (false || b) = b) ∧ (∀ b : Bool, (true || b) = true) := ⟨fun b => by cases b <;> rfl, fun b => by cases b <;> rfl⟩
theorem fin_D {M : Int} (hM : fineB M = true) : decide (M.toNat / 3 ≤ 1048576) = true := by
  have hc := fine_cases hM
  exact decide_eq_true (by omega)
theorem rz_facts {M : Int} (hM : fineB M = true) {a b : Nat → Int} (ha : bd 999 a) (hb : bd 999 b) :
    (bd 255488256 (Rin.mulE (M.toNat / 6) a b) ∧ bd 3996 (Rin.conjE (M.toNat / 6) a) ∧ bd 3996 (Rin.conjE (M.toNat / 6) b) ∧ bd 1021953024 (Rin.mulE (M.toNat / 6) a (Rin.conjE (M.toNat / 6) a)) ∧ bd 1998 fun q => a q + b q) ∧
    (bd 1021953024 (Rin.conjE (M.toNat / 6) (Rin.mulE (M.toNat / 6) a b)) ∧ bd 7992 (Rin.conjE (M.toNat / 6) fun q => a q + b q) ∧ bd 4087812096 (Rin.mulE (M.toNat / 6) (Rin.conjE (M.toNat / 6) a) (Rin.conjE (M.toNat / 6) b)) ∧ (bd 7992 fun q => Rin.conjE (M.toNat / 6) a q + Rin.conjE (M.toNat / 6) b q) ∧ bd 15984 (Rin.conjE (M.toNat / 6) (Rin.conjE (M.toNat / 6) a))) := by
  have hc := fine_cases hM
  have he : M.toNat / 6 ≤ 32 := by omega
  have p := mulE_B (e := M.toNat / 6) ha hb (P := 998001) (Q := 255488256) (by decide) (by decide) he (by decide)
  have c := conj_B (e := M.toNat / 6) (B := 999) (Q := 3996) (by decide) ha (by decide)
  have d := conj_B (e := M.toNat / 6) (B := 999) (Q := 3996) (by decide) hb (by decide)
  have n := mulE_B (e := M.toNat / 6) ha c (P := 3992004) (Q := 1021953024) (by decide) (by decide) he (by decide)
  have s := add_B ha hb (Q := 1998) (by decide)
  exact ⟨⟨p, c, d, n, s⟩, conj_B (by decide) p (by decide), conj_B (by decide) s (by decide), mulE_B c d (P := 15968016) (by decide) (by decide) he (by decide), add_B c d (by decide), conj_B (by decide) c (by decide)⟩
theorem rz_eq : Try.f11.body = some (rzB Try.prog) := by kernel_rfl
theorem rzHas : hasStmt 10 (rzB Try.prog) = true := by kernel_rfl
theorem rzLaw0 (M : Int) (hM : fineB M = true) (a b : Nat → Int) (ha : bd 999 a) (hb : bd 999 b) : CodeSem Try.prog 0 (seqDrop 3 (rzB Try.prog)) (rzZ0 (M.toNat / 3) M a b) .ret (stOf 162 [(6, .bool true)] []) := by
  obtain ⟨⟨hp, hc, hd, hn, hs⟩, hcp, hcs, hpc, hsc, hcc⟩ := rz_facts hM ha hb
  obtain ⟨s1, s2, s3, s4⟩ := six hM
  have h3 := rzD0 (M.toNat / 3) M a (Rin.mulE (M.toNat / 6) a b) (Rin.conjE (M.toNat / 6) a) (Rin.conjE (M.toNat / 6) b) (fun q => a q + b q)
  simp only [(And.intro rules (And.intro nots (And.intro bself (And.intro ors (And.intro mxs (And.intro (mulC_self hM) (And.intro (addC_self hM) (And.intro (dfine hM) (And.intro (frm_B hM (hp.le (by decide))) (And.intro (frm_B hM (hs.le (by decide))) (And.intro (frm_B hM (hc.le (by decide))) (And.intro (frm_B hM (hd.le (by decide))) (And.intro (allR_B (d := M.toNat / 3) (hcp.le (by decide))) (And.intro (allR_B (d := M.toNat / 3) (hcs.le (by decide))) (And.intro (allR_B (d := M.toNat / 3) (hpc.le (by decide))) (And.intro (allR_B (d := M.toNat / 3) (hsc.le (by decide))) (And.intro (allR_B (d := M.toNat / 3) (hcc.le (by decide))) (And.intro (sm_eqOn hM (Rin.conj_mul s2 a b)) (And.intro (sm_eqOn hM (Rin.conj_add s2 a b)) (sm_eqOn hM (Rin.conj_conj s2 a)))))))))))))))))))))] at h3
  cases hq : rlV M a <;> cases hza : zrV (M.toNat / 3) a <;> cases hzb : zrV (M.toNat / 3) b <;> (
    have h1 := rzB0 (M.toNat / 3) M a b
    simp only [(And.intro rules (And.intro nots (And.intro bself (And.intro mxs (And.intro (mulC_self hM) (And.intro (addC_self hM) (And.intro (frm_B hM (ha.le (by decide))) (And.intro (frm_B hM (hb.le (by decide))) (And.intro (allR_B (d := M.toNat / 3) (hp.le (by decide))) (And.intro (allR_B (d := M.toNat / 3) (hc.le (by decide))) (And.intro (allR_B (d := M.toNat / 3) (hd.le (by decide))) (And.intro (frm_B hM (hc.le (by decide))) (And.intro (allR_B (d := M.toNat / 3) (hn.le (by decide))) (And.intro (frm_B hM (hn.le (by decide))) (And.intro (allR_B (d := M.toNat / 3) (hs.le (by decide))) (And.intro (rz2 hM a) hq))))))))))))))))] at h1
    have h2 := rzC0 (M.toNat / 3) M a b (Rin.mulE (M.toNat / 6) a b) (Rin.conjE (M.toNat / 6) a) (Rin.conjE (M.toNat / 6) b) (Rin.mulE (M.toNat / 6) a (Rin.conjE (M.toNat / 6) a)) (fun q => a q + b q) true (rlV M a)
    simp only [(And.intro rules (And.intro nots (And.intro bself (And.intro ors (And.intro (fin_D hM) (And.intro (dfine hM) (And.intro (rz1 hM a b) (And.intro (rz3 hM a) (And.intro hza (And.intro hzb (And.intro (sm_rl M a) hq)))))))))))] at h2
    exact seg_rule (C := Cyz0 Try.prog) okCyz0 (f := 11) (B := 0) (k := 7) (bodyOf_in Try.func11 rz_eq) h1 (by rw [seqDrop_drop]; exact stmt_rule rzHas (end_rule' (C := Cyz0 Try.prog) okCyz0 (f := 11) (B := 0) (stmt_in Try.func11 rz_eq) h2) (end_rule' (C := Cyz0 Try.prog) okCyz0 (f := 11) (B := 0) (bodyOf_in Try.func11 rz_eq) h3)))
theorem rzLaw1 (n1 : Nat) (o1 : Bool) (c1 : Nat → Int) (M : Int) (hM : fineB M = true) (a b : Nat → Int) (ha : bd 999 a) (hb : bd 999 b) : CodeSem Try.prog 1 (seqDrop 3 (rzB Try.prog)) (rzZ1 n1 o1 c1 (M.toNat / 3) M a b) .ret (stOf 162 [(6, .bool true)] [Sr o1 n1 c1]) := by
  obtain ⟨⟨hp, hc, hd, hn, hs⟩, hcp, hcs, hpc, hsc, hcc⟩ := rz_facts hM ha hb
  obtain ⟨s1, s2, s3, s4⟩ := six hM
  have h3 := rzD1 n1 o1 c1 (M.toNat / 3) M a (Rin.mulE (M.toNat / 6) a b) (Rin.conjE (M.toNat / 6) a) (Rin.conjE (M.toNat / 6) b) (fun q => a q + b q)
  simp only [(And.intro rules (And.intro nots (And.intro bself (And.intro ors (And.intro mxs (And.intro (mulC_self hM) (And.intro (addC_self hM) (And.intro (dfine hM) (And.intro (frm_B hM (hp.le (by decide))) (And.intro (frm_B hM (hs.le (by decide))) (And.intro (frm_B hM (hc.le (by decide))) (And.intro (frm_B hM (hd.le (by decide))) (And.intro (allR_B (d := M.toNat / 3) (hcp.le (by decide))) (And.intro (allR_B (d := M.toNat / 3) (hcs.le (by decide))) (And.intro (allR_B (d := M.toNat / 3) (hpc.le (by decide))) (And.intro (allR_B (d := M.toNat / 3) (hsc.le (by decide))) (And.intro (allR_B (d := M.toNat / 3) (hcc.le (by decide))) (And.intro (sm_eqOn hM (Rin.conj_mul s2 a b)) (And.intro (sm_eqOn hM (Rin.conj_add s2 a b)) (sm_eqOn hM (Rin.conj_conj s2 a)))))))))))))))))))))] at h3
  cases hq : rlV M a <;> cases hza : zrV (M.toNat / 3) a <;> cases hzb : zrV (M.toNat / 3) b <;> (
    have h1 := rzB1 n1 o1 c1 (M.toNat / 3) M a b
    simp only [(And.intro rules (And.intro nots (And.intro bself (And.intro mxs (And.intro (mulC_self hM) (And.intro (addC_self hM) (And.intro (frm_B hM (ha.le (by decide))) (And.intro (frm_B hM (hb.le (by decide))) (And.intro (allR_B (d := M.toNat / 3) (hp.le (by decide))) (And.intro (allR_B (d := M.toNat / 3) (hc.le (by decide))) (And.intro (allR_B (d := M.toNat / 3) (hd.le (by decide))) (And.intro (frm_B hM (hc.le (by decide))) (And.intro (allR_B (d := M.toNat / 3) (hn.le (by decide))) (And.intro (frm_B hM (hn.le (by decide))) (And.intro (allR_B (d := M.toNat / 3) (hs.le (by decide))) (And.intro (rz2 hM a) hq))))))))))))))))] at h1
    have h2 := rzC1 n1 o1 c1 (M.toNat / 3) M a b (Rin.mulE (M.toNat / 6) a b) (Rin.conjE (M.toNat / 6) a) (Rin.conjE (M.toNat / 6) b) (Rin.mulE (M.toNat / 6) a (Rin.conjE (M.toNat / 6) a)) (fun q => a q + b q) true (rlV M a)
    simp only [(And.intro rules (And.intro nots (And.intro bself (And.intro ors (And.intro (fin_D hM) (And.intro (dfine hM) (And.intro (rz1 hM a b) (And.intro (rz3 hM a) (And.intro hza (And.intro hzb (And.intro (sm_rl M a) hq)))))))))))] at h2
    exact seg_rule (C := Cyz0 Try.prog) okCyz0 (f := 11) (B := 1) (k := 7) (bodyOf_in Try.func11 rz_eq) h1 (by rw [seqDrop_drop]; exact stmt_rule rzHas (end_rule' (C := Cyz0 Try.prog) okCyz0 (f := 11) (B := 1) (stmt_in Try.func11 rz_eq) h2) (end_rule' (C := Cyz0 Try.prog) okCyz0 (f := 11) (B := 1) (bodyOf_in Try.func11 rz_eq) h3)))
theorem rzLaw2 (n1 : Nat) (o1 : Bool) (c1 : Nat → Int) (n2 : Nat) (o2 : Bool) (c2 : Nat → Int) (M : Int) (hM : fineB M = true) (a b : Nat → Int) (ha : bd 999 a) (hb : bd 999 b) : CodeSem Try.prog 2 (seqDrop 3 (rzB Try.prog)) (rzZ2 n1 o1 c1 n2 o2 c2 (M.toNat / 3) M a b) .ret (stOf 162 [(6, .bool true)] [Sr o1 n1 c1, Sr o2 n2 c2]) := by
  obtain ⟨⟨hp, hc, hd, hn, hs⟩, hcp, hcs, hpc, hsc, hcc⟩ := rz_facts hM ha hb
  obtain ⟨s1, s2, s3, s4⟩ := six hM
  have h3 := rzD2 n1 o1 c1 n2 o2 c2 (M.toNat / 3) M a (Rin.mulE (M.toNat / 6) a b) (Rin.conjE (M.toNat / 6) a) (Rin.conjE (M.toNat / 6) b) (fun q => a q + b q)
  simp only [(And.intro rules (And.intro nots (And.intro bself (And.intro ors (And.intro mxs (And.intro (mulC_self hM) (And.intro (addC_self hM) (And.intro (dfine hM) (And.intro (frm_B hM (hp.le (by decide))) (And.intro (frm_B hM (hs.le (by decide))) (And.intro (frm_B hM (hc.le (by decide))) (And.intro (frm_B hM (hd.le (by decide))) (And.intro (allR_B (d := M.toNat / 3) (hcp.le (by decide))) (And.intro (allR_B (d := M.toNat / 3) (hcs.le (by decide))) (And.intro (allR_B (d := M.toNat / 3) (hpc.le (by decide))) (And.intro (allR_B (d := M.toNat / 3) (hsc.le (by decide))) (And.intro (allR_B (d := M.toNat / 3) (hcc.le (by decide))) (And.intro (sm_eqOn hM (Rin.conj_mul s2 a b)) (And.intro (sm_eqOn hM (Rin.conj_add s2 a b)) (sm_eqOn hM (Rin.conj_conj s2 a)))))))))))))))))))))] at h3
  cases hq : rlV M a <;> cases hza : zrV (M.toNat / 3) a <;> cases hzb : zrV (M.toNat / 3) b <;> (
    have h1 := rzB2 n1 o1 c1 n2 o2 c2 (M.toNat / 3) M a b
    simp only [(And.intro rules (And.intro nots (And.intro bself (And.intro mxs (And.intro (mulC_self hM) (And.intro (addC_self hM) (And.intro (frm_B hM (ha.le (by decide))) (And.intro (frm_B hM (hb.le (by decide))) (And.intro (allR_B (d := M.toNat / 3) (hp.le (by decide))) (And.intro (allR_B (d := M.toNat / 3) (hc.le (by decide))) (And.intro (allR_B (d := M.toNat / 3) (hd.le (by decide))) (And.intro (frm_B hM (hc.le (by decide))) (And.intro (allR_B (d := M.toNat / 3) (hn.le (by decide))) (And.intro (frm_B hM (hn.le (by decide))) (And.intro (allR_B (d := M.toNat / 3) (hs.le (by decide))) (And.intro (rz2 hM a) hq))))))))))))))))] at h1
    have h2 := rzC2 n1 o1 c1 n2 o2 c2 (M.toNat / 3) M a b (Rin.mulE (M.toNat / 6) a b) (Rin.conjE (M.toNat / 6) a) (Rin.conjE (M.toNat / 6) b) (Rin.mulE (M.toNat / 6) a (Rin.conjE (M.toNat / 6) a)) (fun q => a q + b q) true (rlV M a)
    simp only [(And.intro rules (And.intro nots (And.intro bself (And.intro ors (And.intro (fin_D hM) (And.intro (dfine hM) (And.intro (rz1 hM a b) (And.intro (rz3 hM a) (And.intro hza (And.intro hzb (And.intro (sm_rl M a) hq)))))))))))] at h2
    exact seg_rule (C := Cyz0 Try.prog) okCyz0 (f := 11) (B := 2) (k := 7) (bodyOf_in Try.func11 rz_eq) h1 (by rw [seqDrop_drop]; exact stmt_rule rzHas (end_rule' (C := Cyz0 Try.prog) okCyz0 (f := 11) (B := 2) (stmt_in Try.func11 rz_eq) h2) (end_rule' (C := Cyz0 Try.prog) okCyz0 (f := 11) (B := 2) (bodyOf_in Try.func11 rz_eq) h3)))
end Go.Proofs.Ytjhijkdicmbbiaa
