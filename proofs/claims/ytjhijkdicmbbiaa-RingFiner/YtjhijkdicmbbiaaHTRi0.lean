/-
  facetref15.DocMul as a contract. Nothing here is trusted.
-/
import Derived.Test.YtjhijkdicmbbiaaHTRh9
namespace Go.Proofs.Ytjhijkdicmbbiaa
open Go Vx Go.RowKit
theorem inj_ps {M1 M2 : Int} {n1 n2 : Nat} {c1 c2 : Nat → Int} (h1 : frmB M1 n1 c1 = true) (h2 : frmB M2 n2 c2 = true) : ∀ i j t, i < n1 → j < n2 → t < j → psI ((mx M1 M2).toNat / M1.toNat) ((mx M1 M2).toNat / M2.toNat) (mx M1 M2).toNat i t ≠ psI ((mx M1 M2).toNat / M1.toNat) ((mx M1 M2).toNat / M2.toNat) (mx M1 M2).toNat i j := fun i j t _ hj ht => by
  obtain ⟨f1, _, _⟩ := frm_fine h1
  obtain ⟨f2, q2, _⟩ := frm_fine h2
  obtain ⟨fm, _, _⟩ := mx_ok f1 f2
  obtain ⟨_, b1, b2⟩ := mx_mul f1 f2
  obtain ⟨s1, s2, s3, s4⟩ := six fm
  obtain ⟨_, w2, _, w4, _, _, _, w8⟩ := kk h1 h2
  refine ps_inj fm b2 ?_ _ hj ht
  have e : n2 * ((mx M1 M2).toNat / M2.toNat) = 2 * (((mx M1 M2).toNat / M2.toNat) * w2) := by rw [w4, Nat.mul_assoc, Nat.mul_comm w2]
  rw [e, ← w8]
  omega
theorem div8 {M1 M2 : Int} (h1 : fineB M1 = true) (h2 : fineB M2 = true) : (mx M1 M2).toNat / M1.toNat ≤ 8 ∧ (mx M1 M2).toNat / M2.toNat ≤ 8 := by
  rcases fine_cases h1 with a | a | a | a <;> rcases fine_cases h2 with b | b | b | b <;> subst a b <;> decide
theorem dm_bounds {M1 M2 : Int} {n1 n2 : Nat} {c1 c2 : Nat → Int} (h1 : frmB M1 n1 c1 = true) (h2 : frmB M2 n2 c2 = true) : ∀ i, i ≤ n1 → ∀ q, -(20282409603651670423947251286016 * (i : Int)) ≤ dmO c1 c2 ((mx M1 M2).toNat / M1.toNat) ((mx M1 M2).toNat / M2.toNat) (mx M1 M2).toNat n2 i q ∧ dmO c1 c2 ((mx M1 M2).toNat / M1.toNat) ((mx M1 M2).toNat / M2.toNat) (mx M1 M2).toNat n2 i q ≤ 20282409603651670423947251286016 * (i : Int) := by
  obtain ⟨_, _, r1⟩ := frm_fine h1
  obtain ⟨_, _, r2⟩ := frm_fine h2
  refine dmO_bd (by omega) (fun i j hi hj => ?_) (inj_ps h1 h2)
  exact abs_mul (inRg_iff.1 (List.all_eq_true.1 r1 i (List.mem_range.2 hi))) (inRg_iff.1 (List.all_eq_true.1 r2 j (List.mem_range.2 hj)))
theorem dmLoop (n1 n2 : Nat) (o1 o2 : Bool) (M1 M2 : Int) (c1 c2 : Nat → Int) (h1 : frmB M1 n1 c1 = true) (h2 : frmB M2 n2 c2 = true) : CodeSem Try.prog 2 (stmt 4 (dmB Try.prog)) (dmW n1 n2 (mx M1 M2).toNat o1 o2 M1 M2 (mx M1 M2) c1 c2 zD) .normal (dmZ n1 n2 (mx M1 M2).toNat o1 o2 (mx M1 M2) c1 c2 (dRow (dmO c1 c2 ((mx M1 M2).toNat / M1.toNat) ((mx M1 M2).toNat / M2.toNat) (mx M1 M2).toNat n2 n1))) := by
  obtain ⟨f1, q1, r1⟩ := frm_fine h1
  obtain ⟨f2, q2, r2⟩ := frm_fine h2
  obtain ⟨fm, _, _⟩ := mx_ok f1 f2
  have hm := fine_cases fm
  have hM1 := fine_cases f1
  have hM2 := fine_cases f2
  obtain ⟨hk1, hk2⟩ := div8 f1 f2
  have i1 := dmIn.2
  have hh := end_rule (C := Cg6 Try.prog) okCg6 (f := 29) (B := 2) dmIn.1 (dmHead n1 n2 (mx M1 M2).toNat o1 o2 M1 M2 (mx M1 M2) c1 c2)
  have bd := dm_bounds h1 h2
  have inj := inj_ps h1 h2
  have hr : ∀ i, i < n1 → CodeSem Try.prog 2 (dmF1 Try.prog) (dmX n1 n2 (mx M1 M2).toNat o1 o2 M1 M2 (mx M1 M2) (i : Int) c1 c2 (dRow (dmO c1 c2 ((mx M1 M2).toNat / M1.toNat) ((mx M1 M2).toNat / M2.toNat) (mx M1 M2).toNat n2 i))) .normal (dmX n1 n2 (mx M1 M2).toNat o1 o2 M1 M2 (mx M1 M2) ((i + 1 : Nat) : Int) c1 c2 (dRow (dmO c1 c2 ((mx M1 M2).toNat / M1.toNat) ((mx M1 M2).toNat / M2.toNat) (mx M1 M2).toNat n2 (i + 1)))) := fun i hi => by
    have r6 := dm6 n1 n2 (mx M1 M2).toNat o1 o2 M1 M2 (mx M1 M2) i c1 c2 (dmO c1 c2 ((mx M1 M2).toNat / M1.toNat) ((mx M1 M2).toNat / M2.toNat) (mx M1 M2).toNat n2 i)
    rw [show decide ((i : Int) < (n1 : Int)) = true by simp; omega] at r6
    have r7 := dm7 n1 n2 (mx M1 M2).toNat o1 o2 M1 M2 (mx M1 M2) i c1 c2 (dmO c1 c2 ((mx M1 M2).toNat / M1.toNat) ((mx M1 M2).toNat / M2.toNat) (mx M1 M2).toNat n2 i)
    rw [boundsI_ok (n := n1) (i := (i : Int)) (by omega)] at r7
    simp only [gd_true, Int.toNat_natCast] at r7
    have r13 := dm13 n1 n2 (mx M1 M2).toNat o1 o2 M1 M2 (mx M1 M2) i c1 c2 (dmO c1 c2 ((mx M1 M2).toNat / M1.toNat) ((mx M1 M2).toNat / M2.toNat) (mx M1 M2).toNat n2 (i + 1))
    rw [show W ((i : Int) + 1) = ((i + 1 : Nat) : Int) by rw [W_in (by omega)]; simp] at r13
    have rg := List.all_eq_true.1 r1 i (List.mem_range.2 hi)
    have b0 := bd i (by omega)
    have inner := dmInner n1 n2 o1 o2 M1 M2 (mx M1 M2) c1 c2 (dmO c1 c2 ((mx M1 M2).toNat / M1.toNat) ((mx M1 M2).toNat / M2.toNat) (mx M1 M2).toNat n2 i) (c1 i) i f1 f2 fm (by omega) (by omega) hk1 hk2 rg (fun j hj => List.all_eq_true.1 r2 j (List.mem_range.2 hj)) (fun j hj q => by
      have b1 := dmI_bd (g := dmO c1 c2 ((mx M1 M2).toNat / M1.toNat) ((mx M1 M2).toNat / M2.toNat) (mx M1 M2).toNat n2 i) (x := c1 i) (P := 20282409603651670423947251286016) (b := c2) (k1 := ((mx M1 M2).toNat / M1.toNat)) (k2 := ((mx M1 M2).toNat / M2.toNat)) (K := (mx M1 M2).toNat) (i := i) (n2 := n2) (by omega) (fun j hj => abs_mul (inRg_iff.1 rg) (inRg_iff.1 (List.all_eq_true.1 r2 j (List.mem_range.2 hj)))) (fun j t hj ht => inj i j t hi hj ht) j hj q
      have b2 := b0 q
      omega)
    rw [dmCode]
    exact (end_rule (C := Cg6 Try.prog) okCg6 (f := 29) (B := 2) i1.left r6).seq ((end_rule (C := Cg6 Try.prog) okCg6 (f := 29) (B := 2) i1.right.left (dmAT n1 n2 (mx M1 M2).toNat o1 o2 M1 M2 (mx M1 M2) i c1 c2 (dmO c1 c2 ((mx M1 M2).toNat / M1.toNat) ((mx M1 M2).toNat / M2.toNat) (mx M1 M2).toNat n2 i))).seq ((CodeSem.blockN ((end_rule (C := Cg6 Try.prog) okCg6 (f := 29) (B := 2) i1.right.right.left.left.left r7).seq inner)).seq (end_rule (C := Cg6 Try.prog) okCg6 (f := 29) (B := 2) i1.right.right.right r13)))
  have hE : CodeSem Try.prog 2 (dmF1 Try.prog) (dmX n1 n2 (mx M1 M2).toNat o1 o2 M1 M2 (mx M1 M2) (n1 : Int) c1 c2 (dRow (dmO c1 c2 ((mx M1 M2).toNat / M1.toNat) ((mx M1 M2).toNat / M2.toNat) (mx M1 M2).toNat n2 n1))) (.exit 0) (dmZ n1 n2 (mx M1 M2).toNat o1 o2 (mx M1 M2) c1 c2 (dRow (dmO c1 c2 ((mx M1 M2).toNat / M1.toNat) ((mx M1 M2).toNat / M2.toNat) (mx M1 M2).toNat n2 n1))) := by
    have r6 := dm6 n1 n2 (mx M1 M2).toNat o1 o2 M1 M2 (mx M1 M2) n1 c1 c2 (dmO c1 c2 ((mx M1 M2).toNat / M1.toNat) ((mx M1 M2).toNat / M2.toNat) (mx M1 M2).toNat n2 n1)
    rw [show decide ((n1 : Int) < (n1 : Int)) = false by simp] at r6
    rw [dmCode]
    exact (end_rule (C := Cg6 Try.prog) okCg6 (f := 29) (B := 2) i1.left r6).seq ((end_rule (C := Cg6 Try.prog) okCg6 (f := 29) (B := 2) i1.right.left (dmAF n1 n2 (mx M1 M2).toNat o1 o2 M1 M2 (mx M1 M2) n1 c1 c2 (dmO c1 c2 ((mx M1 M2).toNat / M1.toNat) ((mx M1 M2).toNat / M2.toNat) (mx M1 M2).toNat n2 n1))).out (by simp))
  have hl := run_loopC (P := Try.prog) (B := 2) (x := dmF1 Try.prog) (e := .exit 0) (by simp) n1 (fun i => dmX n1 n2 (mx M1 M2).toNat o1 o2 M1 M2 (mx M1 M2) (i : Int) c1 c2 (dRow (dmO c1 c2 ((mx M1 M2).toNat / M1.toNat) ((mx M1 M2).toNat / M2.toNat) (mx M1 M2).toNat n2 i))) hr hE
  exact for_rule dmFor1 hh hl
theorem dmRet (n1 n2 : Nat) (o1 o2 : Bool) (c1 c2 f : Nat → Int) (m : Int) : (retA Try.prog Try.f29 (.ret, stOf 78 [(4, pt 2), (5, vI 0)] [Ir o1 n1 c1, Ir o2 n2 c2, .cells true 0 [vI m, SI 3 (m.toNat / 3)], .rows true true 1 (m.toNat / 3) (iRow f)])).res = some (rgV m (SI 3 (m.toNat / 3)) 0, [Ir o1 n1 c1, Ir o2 n2 c2, .cells true 0 [vI m, SI 3 (m.toNat / 3)], .rows true true 1 (m.toNat / 3) (iRow f)]) := by kernel_rfl
theorem dmRetF (n1 n2 : Nat) (o1 o2 : Bool) (c1 c2 : Nat → Int) (e : Int) : (retA Try.prog Try.f29 (.ret, stOf 78 [(4, pt 2), (5, vI e)] [Ir o1 n1 c1, Ir o2 n2 c2, .cells true 0 [vI 0, .slice none 0 0], .no])).res = some (rgE e, [Ir o1 n1 c1, Ir o2 n2 c2, .cells true 0 [vI 0, .slice none 0 0], .no]) := by kernel_rfl
theorem dmRetE (n1 n2 : Nat) (o1 o2 : Bool) (c1 c2 : Nat → Int) (e : Int) : (retA Try.prog Try.f29 (.ret, stOf 78 [(4, pt 2), (5, vI e)] [Ir o1 n1 c1, Ir o2 n2 c2, .cells true 0 [vI 0, .slice none 0 0]])).res = some (rgE e, [Ir o1 n1 c1, Ir o2 n2 c2, .cells true 0 [vI 0, .slice none 0 0]]) := by kernel_rfl
theorem dmBody0 : InBody ((Cg6 Try.prog).into 29 2) (dmB Try.prog) := Or.inl ⟨Try.f29, dmB Try.prog, Try.func29, dm_eq, fun _ hx => hx⟩
theorem dmErr (n1 n2 : Nat) (o1 o2 : Bool) (M1 M2 : Int) (c1 c2 : Nat → Int) (h : frmB M1 n1 c1 = false ∨ (frmB M1 n1 c1 = true ∧ frmB M2 n2 c2 = false)) : MemSem Try.prog 29 [.agg #[vI M1, SI 0 n1], .agg #[vI M2, SI 1 n2]] [Ir o1 n1 c1, Ir o2 n2 c2] (rgE 3) [Ir o1 n1 c1, Ir o2 n2 c2] := by
  have p1 := dmP1 n1 n2 o1 o2 M1 M2 c1 c2
  simp only [rules] at p1
  have p1' : roundR ((Cg6 Try.prog).into 29 2) 60 (stmt 1 (dmB Try.prog)) [2, 3, 4, 5] [4, 5] spd [.fix 0, .fix 1, .slot 4] (dmS n1 n2 o1 o2 M1 M2 c1 c2) = some (.ret, stOf 78 [(4, pt 2), (5, vI 3)] [Ir o1 n1 c1, Ir o2 n2 c2, .cells true 0 [vI 0, .slice none 0 0]]) := by
    rcases h with h | ⟨h, k⟩
    · rw [h] at p1; exact p1
    · rw [h, k] at p1; exact p1
  exact (body_mem (m := [Ir o1 n1 c1, Ir o2 n2 c2]) (args := [.agg #[vI M1, SI 0 n1], .agg #[vI M2, SI 1 n2]]) (f := 29) Try.func29 dm_eq (by kernel_rfl) (seg_rule (C := Cg6 Try.prog) okCg6 (f := 29) (B := 2) (k := 1) dmBody0 (dmP0 n1 n2 o1 o2 M1 M2 c1 c2) (stmt_out dmHas.1 (end_rule' (C := Cg6 Try.prog) okCg6 (f := 29) (B := 2) (stmt_in Try.func29 dm_eq) p1') (by simp))) (dmRetE n1 n2 o1 o2 c1 c2 3)).tidy (dsTidyE n1 n2 o1 o2 c1 c2 3)
theorem dmAll (n1 n2 : Nat) (o1 o2 : Bool) (M1 M2 : Int) (c1 c2 : Nat → Int) (h1 : frmB M1 n1 c1 = true) (h2 : frmB M2 n2 c2 = true) :
    (allR ((mx M1 M2).toNat / 3) (mulC M1 M2 c1 c2) = true → MemSem Try.prog 29 [.agg #[vI M1, SI 0 n1], .agg #[vI M2, SI 1 n2]] [Ir o1 n1 c1, Ir o2 n2 c2] (rgV (mx M1 M2) (SI 2 ((mx M1 M2).toNat / 3)) 0) [Ir o1 n1 c1, Ir o2 n2 c2, Ir true ((mx M1 M2).toNat / 3) (mulC M1 M2 c1 c2)]) ∧
    (allR ((mx M1 M2).toNat / 3) (mulC M1 M2 c1 c2) = false → MemSem Try.prog 29 [.agg #[vI M1, SI 0 n1], .agg #[vI M2, SI 1 n2]] [Ir o1 n1 c1, Ir o2 n2 c2] (rgE 4) [Ir o1 n1 c1, Ir o2 n2 c2]) := by
  obtain ⟨f1, e1, r1⟩ := frm_fine h1
  obtain ⟨f2, e2, r2⟩ := frm_fine h2
  obtain ⟨fm, _, _⟩ := mx_ok f1 f2
  obtain ⟨d1, d2, d3, _⟩ := dm_ok fm
  have hm := fine_cases fm
  have hM1 := fine_cases f1
  have p1 := dmP1 n1 n2 o1 o2 M1 M2 c1 c2
  simp only [rules] at p1
  rw [h1, h2] at p1
  have p2 := dmP2 n1 n2 o1 o2 M1 M2 c1 c2
  rw [show (if M2 > M1 then M2 else M1) = mx M1 M2 from rfl, d1] at p2
  have hl := dmLoop n1 n2 o1 o2 M1 M2 c1 c2 h1 h2
  have bd := dm_bounds h1 h2 n1 (Nat.le_refl _)
  have hok := okLs_on (n := (mx M1 M2).toNat) (row := dRow (dmO c1 c2 ((mx M1 M2).toNat / M1.toNat) ((mx M1 M2).toNat / M2.toNat) (mx M1 M2).toNat n2 n1)) (g := (dmO c1 c2 ((mx M1 M2).toNat / M1.toNat) ((mx M1 M2).toNat / M2.toNat) (mx M1 M2).toNat n2 n1)) (fun _ _ => rfl) fun i _ => by have := bd i; omega
  have hcf := cof_on (e := (mx M1 M2).toNat / 6) (K := (mx M1 M2).toNat) (n := (mx M1 M2).toNat) (row := dRow (dmO c1 c2 ((mx M1 M2).toNat / M1.toNat) ((mx M1 M2).toNat / M2.toNat) (mx M1 M2).toNat n2 n1)) (g := (dmO c1 c2 ((mx M1 M2).toNat / M1.toNat) ((mx M1 M2).toNat / M2.toNat) (mx M1 M2).toNat n2 n1)) (fun _ _ => rfl) fun i a b => by omega
  have hall := allR_on (n := ((mx M1 M2).toNat / 3)) fun q hq => dm_mul h1 h2 hq
  have he := dmEnd n1 n2 (mx M1 M2).toNat o1 o2 (mx M1 M2) c1 c2 (dmO c1 c2 ((mx M1 M2).toNat / M1.toNat) ((mx M1 M2).toNat / M2.toNat) (mx M1 M2).toNat n2 n1)
  simp only [rules] at he
  rw [hcf, hok, fm, d3, hall] at he
  have front : ∀ {s}, CodeSem Try.prog 2 (seqDrop 5 (dmB Try.prog)) (dmZ n1 n2 (mx M1 M2).toNat o1 o2 (mx M1 M2) c1 c2 (dRow (dmO c1 c2 ((mx M1 M2).toNat / M1.toNat) ((mx M1 M2).toNat / M2.toNat) (mx M1 M2).toNat n2 n1))) .ret s → CodeSem Try.prog 2 (dmB Try.prog) (enter Try.f29 [.agg #[vI M1, SI 0 n1], .agg #[vI M2, SI 1 n2]] [Ir o1 n1 c1, Ir o2 n2 c2]) .ret s := fun hs =>
    seg_rule (C := Cg6 Try.prog) okCg6 (f := 29) (B := 2) (k := 1) dmBody0 (dmP0 n1 n2 o1 o2 M1 M2 c1 c2) (stmt_rule dmHas.1 (end_rule' (C := Cg6 Try.prog) okCg6 (f := 29) (B := 2) (stmt_in Try.func29 dm_eq) p1) (seg_rule (C := Cg6 Try.prog) okCg6 (f := 29) (B := 2) (k := 2) (bodyOf_in Try.func29 dm_eq) p2 (by rw [seqDrop_drop]; exact stmt_rule dmHas.2 hl hs)))
  refine ⟨fun hA => ?_, fun hA => ?_⟩
  · rw [hA] at he
    refine ((body_mem (m := [Ir o1 n1 c1, Ir o2 n2 c2]) (args := [.agg #[vI M1, SI 0 n1], .agg #[vI M2, SI 1 n2]]) (f := 29) Try.func29 dm_eq (by kernel_rfl) (front (end_rule (C := Cg6 Try.prog) okCg6 (f := 29) (B := 2) (bodyOf_in Try.func29 dm_eq) he)) (dmRet n1 n2 o1 o2 c1 c2 _ (mx M1 M2))).tidy (adTidy n1 n2 o1 o2 c1 c2 _ (mx M1 M2))).likes ⟨.refl _, .refl _, .rows fun q hq => ?_, trivial⟩
    show [vI _] = [vI _]
    rw [dm_mul h1 h2 hq]
  · rw [hA] at he
    exact (body_mem (m := [Ir o1 n1 c1, Ir o2 n2 c2]) (args := [.agg #[vI M1, SI 0 n1], .agg #[vI M2, SI 1 n2]]) (f := 29) Try.func29 dm_eq (by kernel_rfl) (front (end_rule (C := Cg6 Try.prog) okCg6 (f := 29) (B := 2) (bodyOf_in Try.func29 dm_eq) he)) (dmRetF n1 n2 o1 o2 c1 c2 4)).tidy (adTidyE n1 n2 o1 o2 c1 c2 4)
theorem dmulNN (M1 M2 : Int) : MemSem Try.prog 29 [.agg #[vI M1, .slice none 0 0], .agg #[vI M2, .slice none 0 0]] [] (rgE 3) [] := exT_ok okCg6 Try.func29 (by kernel_rfl) (dmNN M1 M2)
theorem dmulNL (n2 : Nat) (o2 : Bool) (M1 M2 : Int) (c2 : Nat → Int) : MemSem Try.prog 29 [.agg #[vI M1, .slice none 0 0], .agg #[vI M2, SI 0 n2]] [Ir o2 n2 c2] (rgE 3) [Ir o2 n2 c2] := exT_ok okCg6 Try.func29 (by kernel_rfl) (dmNL n2 o2 M1 M2 c2)
theorem dmulLN (n2 : Nat) (o2 : Bool) (M1 M2 : Int) (c2 : Nat → Int) : MemSem Try.prog 29 [.agg #[vI M1, SI 0 n2], .agg #[vI M2, .slice none 0 0]] [Ir o2 n2 c2] (rgE 3) [Ir o2 n2 c2] := by
  have h := dmLN n2 o2 M1 M2 c2
  simp only [rules] at h
  cases hf : frmB M1 n2 c2 <;> rw [hf] at h <;> exact exT_ok okCg6 Try.func29 (by kernel_rfl) h
theorem dmulT (n1 n2 : Nat) (o1 o2 : Bool) (M1 M2 : Int) (c1 c2 : Nat → Int) (_ : True) (h1 : frmB M1 n1 c1 = true) (h2 : frmB M2 n2 c2 = true) (h3 : allR ((mx M1 M2).toNat / 3) (mulC M1 M2 c1 c2) = true) : MemSem Try.prog 29 [.agg #[vI M1, SI 0 n1], .agg #[vI M2, SI 1 n2]] [Ir o1 n1 c1, Ir o2 n2 c2] (rgV (mx M1 M2) (SI 2 ((mx M1 M2).toNat / 3)) 0) [Ir o1 n1 c1, Ir o2 n2 c2, Ir true ((mx M1 M2).toNat / 3) (mulC M1 M2 c1 c2)] := (dmAll n1 n2 o1 o2 M1 M2 c1 c2 h1 h2).1 h3
theorem dmulE0 (n1 n2 : Nat) (o1 o2 : Bool) (M1 M2 : Int) (c1 c2 : Nat → Int) (_ : True) (h1 : frmB M1 n1 c1 = false) : MemSem Try.prog 29 [.agg #[vI M1, SI 0 n1], .agg #[vI M2, SI 1 n2]] [Ir o1 n1 c1, Ir o2 n2 c2] (rgE 3) [Ir o1 n1 c1, Ir o2 n2 c2] := dmErr n1 n2 o1 o2 M1 M2 c1 c2 (Or.inl h1)
theorem dmulE1 (n1 n2 : Nat) (o1 o2 : Bool) (M1 M2 : Int) (c1 c2 : Nat → Int) (_ : True) (h1 : frmB M1 n1 c1 = true) (h2 : frmB M2 n2 c2 = false) : MemSem Try.prog 29 [.agg #[vI M1, SI 0 n1], .agg #[vI M2, SI 1 n2]] [Ir o1 n1 c1, Ir o2 n2 c2] (rgE 3) [Ir o1 n1 c1, Ir o2 n2 c2] := dmErr n1 n2 o1 o2 M1 M2 c1 c2 (Or.inr ⟨h1, h2⟩)
theorem dmulE2 (n1 n2 : Nat) (o1 o2 : Bool) (M1 M2 : Int) (c1 c2 : Nat → Int) (_ : True) (h1 : frmB M1 n1 c1 = true) (h2 : frmB M2 n2 c2 = true) (h3 : allR ((mx M1 M2).toNat / 3) (mulC M1 M2 c1 c2) = false) : MemSem Try.prog 29 [.agg #[vI M1, SI 0 n1], .agg #[vI M2, SI 1 n2]] [Ir o1 n1 c1, Ir o2 n2 c2] (rgE 4) [Ir o1 n1 c1, Ir o2 n2 c2] := (dmAll n1 n2 o1 o2 M1 M2 c1 c2 h1 h2).2 h3
def dmulF : List Value → Mem → Option (Ans (Value × Mem))
  | [.agg a, .agg b], mm => match a.toList, b.toList, mm with
    | [.int .i64 _, .slice none 0 0], [.int .i64 _, .slice none 0 0], [] => some (.out (rgE 3, []))
    | [.int .i64 _, .slice none 0 0], [.int .i64 _, .slice (some ⟨0, 0, some 0⟩) N 1], [.rows own true 1 N2 row] => some (.br (Nat.beq N N2 && okIs N row) (.out (rgE 3, [.rows own true 1 N row])) .fail)
    | [.int .i64 _, .slice (some ⟨0, 0, some 0⟩) N 1], [.int .i64 _, .slice none 0 0], [.rows own true 1 N2 row] => some (.br (Nat.beq N N2 && okIs N row) (.out (rgE 3, [.rows own true 1 N row])) .fail)
    | [.int .i64 M1, .slice (some ⟨0, 0, some 0⟩) N 1], [.int .i64 M2, .slice (some ⟨1, 0, some 0⟩) K 1], [.rows own true 1 N2 row, .rows own2 true 1 K2 row2] => some (.br (true && (Nat.beq N N2 && (okIs N row && (Nat.beq K K2 && okIs K row2)))) (.br (frmB M1 N (iOf row)) (.br (frmB M2 K (iOf row2)) (.br (allR ((mx M1 M2).toNat / 3) (mulC M1 M2 (iOf row) (iOf row2))) (.out (rgV (mx M1 M2) (SI 2 ((mx M1 M2).toNat / 3)) 0, [.rows own true 1 N row, .rows own2 true 1 K row2, .rows true true 1 ((mx M1 M2).toNat / 3) (iRow (mulC M1 M2 (iOf row) (iOf row2)))])) (.out (rgE 4, [.rows own true 1 N row, .rows own2 true 1 K row2]))) (.out (rgE 3, [.rows own true 1 N row, .rows own2 true 1 K row2]))) (.out (rgE 3, [.rows own true 1 N row, .rows own2 true 1 K row2]))) .fail)
    | _, _, _ => none
  | _, _ => none
theorem dmulF_ok {args : List Value} {m : Mem} {ans : Ans (Value × Mem)} {v : Value} {m' : Mem} (h : dmulF args m = some ans) (hr : ans.res = some (v, m')) : MemSem Try.prog 29 args m v m' := by
  unfold dmulF at h
  split at h
  · rename_i mm a b 
    split at h
    · rename_i M1 M2 e1 e2
      have ha : a = #[vI M1, .slice none 0 0] := by apply Array.ext'; simpa [vI] using e1
      have hb : b = #[vI M2, .slice none 0 0] := by apply Array.ext'; simpa [vI] using e2
      subst ha hb
      simp only [Option.some.injEq] at h
      subst h
      simp only [Ans.res, Option.some.injEq, Prod.mk.injEq] at hr
      obtain ⟨rfl, rfl⟩ := hr
      exact dmulNN M1 M2 
    · rename_i M1 M2 N own N2 row e1 e2
      have ha : a = #[vI M1, .slice none 0 0] := by apply Array.ext'; simpa [SI, vI] using e1
      have hb : b = #[vI M2, SI 0 N] := by apply Array.ext'; simpa [SI, vI] using e2
      subst ha hb
      simp only [Option.some.injEq] at h
      subst h
      rcases Ans.br_some hr with ⟨hc, g⟩ | ⟨_, g⟩ <;> clear hr
      rotate_left
      · simp [Ans.res] at g
      simp only [Bool.and_eq_true] at hc
      have e1 := Nat.eq_of_beq_eq_true hc.1
      subst e1
      simp only [Ans.res, Option.some.injEq, Prod.mk.injEq] at g
      obtain ⟨rfl, rfl⟩ := g
      have l1 : LikeL [.rows own true 1 N row] [Ir own N (iOf row)] := ⟨.rows (is_like hc.2), trivial⟩
      exact (MemSem.like (dmulNL N own M1 M2 (iOf row) ) l1).likes ⟨.rows fun i hi => (is_like hc.2 i hi).symm, trivial⟩
    · rename_i M1 N M2 own N2 row e1 e2
      have ha : a = #[vI M1, SI 0 N] := by apply Array.ext'; simpa [SI, vI] using e1
      have hb : b = #[vI M2, .slice none 0 0] := by apply Array.ext'; simpa [SI, vI] using e2
      subst ha hb
      simp only [Option.some.injEq] at h
      subst h
      rcases Ans.br_some hr with ⟨hc, g⟩ | ⟨_, g⟩ <;> clear hr
      rotate_left
      · simp [Ans.res] at g
      simp only [Bool.and_eq_true] at hc
      have e1 := Nat.eq_of_beq_eq_true hc.1
      subst e1
      simp only [Ans.res, Option.some.injEq, Prod.mk.injEq] at g
      obtain ⟨rfl, rfl⟩ := g
      have l1 : LikeL [.rows own true 1 N row] [Ir own N (iOf row)] := ⟨.rows (is_like hc.2), trivial⟩
      exact (MemSem.like (dmulLN N own M1 M2 (iOf row) ) l1).likes ⟨.rows fun i hi => (is_like hc.2 i hi).symm, trivial⟩
    · rename_i M1 N M2 K own N2 row own2 K2 row2 e1 e2
      have ha : a = #[vI M1, SI 0 N] := by apply Array.ext'; simpa [SI, vI] using e1
      have hb : b = #[vI M2, SI 1 K] := by apply Array.ext'; simpa [SI, vI] using e2
      subst ha hb
      simp only [Option.some.injEq] at h
      subst h
      rcases Ans.br_some hr with ⟨hc, g⟩ | ⟨_, g⟩ <;> clear hr
      rotate_left
      · simp [Ans.res] at g
      simp only [Bool.and_eq_true] at hc
      obtain ⟨cp, c1, c2, c3, c4⟩ := hc
      have e1 := Nat.eq_of_beq_eq_true c1
      have e2 := Nat.eq_of_beq_eq_true c3
      subst e1 e2
      have l1 : LikeL [.rows own true 1 N row, .rows own2 true 1 K row2] [Ir own N (iOf row), Ir own2 K (iOf row2)] := ⟨.rows (is_like c2), .rows (is_like c4), trivial⟩
      have b1 : Like (Ir own N (iOf row)) (.rows own true 1 N row) := .rows fun i hi => (is_like c2 i hi).symm
      have b2 : Like (Ir own2 K (iOf row2)) (.rows own2 true 1 K row2) := .rows fun i hi => (is_like c4 i hi).symm
      rcases Ans.br_some g with ⟨h0, g0⟩ | ⟨h0, g0⟩ <;> clear g
      rotate_left
      · simp only [Ans.res, Option.some.injEq, Prod.mk.injEq] at g0
        obtain ⟨rfl, rfl⟩ := g0
        exact (MemSem.like (dmulE0 N K own own2 M1 M2 (iOf row) (iOf row2)  cp h0) l1).likes ⟨b1, b2, trivial⟩
      rcases Ans.br_some g0 with ⟨h1, g1⟩ | ⟨h1, g1⟩ <;> clear g0
      rotate_left
      · simp only [Ans.res, Option.some.injEq, Prod.mk.injEq] at g1
        obtain ⟨rfl, rfl⟩ := g1
        exact (MemSem.like (dmulE1 N K own own2 M1 M2 (iOf row) (iOf row2)  cp h0 h1) l1).likes ⟨b1, b2, trivial⟩
      rcases Ans.br_some g1 with ⟨h2, g2⟩ | ⟨h2, g2⟩ <;> clear g1
      rotate_left
      · simp only [Ans.res, Option.some.injEq, Prod.mk.injEq] at g2
        obtain ⟨rfl, rfl⟩ := g2
        exact (MemSem.like (dmulE2 N K own own2 M1 M2 (iOf row) (iOf row2)  cp h0 h1 h2) l1).likes ⟨b1, b2, trivial⟩
      simp only [Ans.res, Option.some.injEq, Prod.mk.injEq] at g2
      obtain ⟨rfl, rfl⟩ := g2
      exact (MemSem.like (dmulT N K own own2 M1 M2 (iOf row) (iOf row2)  cp h0 h1 h2) l1).likes ⟨b1, b2, .refl _, trivial⟩
    · cases h
  · cases h
def Cr29 (P : Program) : Cx := (Cg6 P).addM 29 dmulF
theorem okr29 : CxOk (Cr29 Try.prog) := Cx.addM_ok okCg6 fun _ _ _ _ _ h hr => dmulF_ok h hr
def Cg7 (P : Program) : Cx := (Cr29 P).lend 29
theorem okCg7 : CxOk (Cg7 Try.prog) := Cx.lend_ok okr29 _
end Go.Proofs.Ytjhijkdicmbbiaa
