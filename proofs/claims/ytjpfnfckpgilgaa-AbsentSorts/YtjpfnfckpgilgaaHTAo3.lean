/-
  facetlaw14.AbsentSorts: group and list both there. Nothing here is trusted.
-/
import Derived.Test.YtjpfnfckpgilgaaHTAo2
namespace Go.Proofs.Ytjpfnfckpgilgaa
open Go Vx Go.RowKit
theorem split_len (p : V3 → Bool) : ∀ Y : List V3, (Y.filter fun v => !p v).length + (Y.filter fun v => p v).length = Y.length
  | [] => rfl
  | v :: Y => by
    have ih := split_len p Y
    rw [List.filter_cons, List.filter_cons]
    cases p v with
    | true => simp; omega
    | false => simp; omega
theorem soT_ok (X : List O3) (Y : List V3) (h : (Y.length : Int) ≤ 9223372036854775807) : soT X.length Y.length (opRow X) (vcRow Y) = true := by
  unfold soT
  rw [Nat.beq_refl, Nat.beq_refl, okOps_opRow, okVcs_vcRow, decide_eq_true h]; rfl
theorem smxT_ok (P : List V3) (h : P.length ≤ 4096) : smxT P.length P = true := by
  unfold smxT
  rw [Nat.beq_refl, okVcs_vcRow, vcsOf_vcRow, sameL_refl, show Nat.ble P.length 4096 = true by rw [Nat.ble_eq]; exact h]; rfl
theorem aoS00 (own own2 : Bool) (X : List O3) (Y : List V3)  (e : leastN (kxI Y) (chkI X) = 0) (hP : soL X Y = []) (hM : soM X Y = []) : MemSem Try.prog 5 [.slice (some ⟨0, 0, some 0⟩) X.length 12, .slice (some ⟨1, 0, some 0⟩) Y.length 3] [.rows own true 12 X.length (opRow X), .rows own2 true 3 Y.length (vcRow Y)] (.bool true) [.rows own true 12 X.length (opRow X), .rows own2 true 3 Y.length (vcRow Y)] := by
  obtain ⟨e1, e2⟩ := leastN_zero.1 e
  obtain ⟨hq, hix⟩ := kx_len e1
  have hs : ([] : List V3).length + ([] : List V3).length = Y.length := by
    have a : (soL X Y).length + (soM X Y).length = Y.length := split_len (rsb X) Y
    rw [hP, hM] at a
    exact a
  simp only [List.length_nil, Nat.add_zero] at hs
  have r := aoP00 own own2 X.length Y.length X Y
  rw [vcsOf_vcRow, opsOf_opRow, hP, hM, e, lk2_ok, soT_ok X Y (by omega)] at r
  have hw : (W (0 + 0) != (Y.length : Int)) = false := by
    rw [show (0 + 0 : Int) = (Y.length : Int) by omega, W_in (by omega)]; simp
  skip
  have r' : segR ((Cgx [true, false, true, true] Try.prog).into 5 2) 60 8 (aoB Try.prog) [0, 1, 4, 5, 6, 11, 12] [.fix 0, .fix 1, .slot 5, .slot 6] (enter Try.f5 [.slice (some ⟨0, 0, some 0⟩) X.length 12, .slice (some ⟨1, 0, some 0⟩) Y.length 3] [.rows own true 12 X.length (opRow X), .rows own2 true 3 Y.length (vcRow Y)]) = some (aoL00 own own2 X.length Y.length X Y ) := r.trans (by rw [hw]; rfl)
  have body0 : InBody ((Cgx [true, false, true, true] Try.prog).into 5 2) (aoB Try.prog) := Or.inl ⟨Try.f5, aoB Try.prog, Try.func5, aoB_eq, fun _ hx => hx⟩
  exact body_mem (P := Try.prog) (f := 5) (m := [.rows own true 12 X.length (opRow X), .rows own2 true 3 Y.length (vcRow Y)]) Try.func5 aoB_eq (by kernel_rfl) (seg_rule (C := Cgx [true, false, true, true] Try.prog) (okgx [true, false, true, true]) (f := 5) (B := 2) (k := 8) body0 r' (stmt_rule aoHas.1 (for_rule aoFor (end_rule (C := Cow Try.prog) okow (f := 5) (B := 2) aoIn.1 (aoHd00 own own2 X.length Y.length X Y )) (aoLp00 own own2 X Y  e2 hq hix  Y.length 0 (by omega) (by rw [List.drop_zero]; exact hP.symm) (by rw [List.drop_zero]; exact hM.symm))) (end_rule (C := Cow Try.prog) okow (f := 5) (B := 2) (bodyOf_in Try.func5 aoB_eq) (aoD own own2 X.length Y.length X Y)))) (aoQ own own2 X.length Y.length X Y)
theorem aoS01 (own own2 : Bool) (X : List O3) (Y : List V3) (m : V3) (M : List V3) (e : leastN (kxI Y) (chkI X) = 0) (hP : soL X Y = []) (hM : soM X Y = (m :: M)) : MemSem Try.prog 5 [.slice (some ⟨0, 0, some 0⟩) X.length 12, .slice (some ⟨1, 0, some 0⟩) Y.length 3] [.rows own true 12 X.length (opRow X), .rows own2 true 3 Y.length (vcRow Y)] (.bool true) [.rows own true 12 X.length (opRow X), .rows own2 true 3 Y.length (vcRow Y)] := by
  obtain ⟨e1, e2⟩ := leastN_zero.1 e
  obtain ⟨hq, hix⟩ := kx_len e1
  have hs : ([] : List V3).length + ((m :: M) : List V3).length = Y.length := by
    have a : (soL X Y).length + (soM X Y).length = Y.length := split_len (rsb X) Y
    rw [hP, hM] at a
    exact a
  simp only [List.length_nil, Nat.zero_add] at hs
  have r := aoP01 own own2 X.length Y.length X Y
  rw [vcsOf_vcRow, opsOf_opRow, hP, hM, e, lk2_ok, soT_ok X Y (by omega), smxT_ok (m :: M) (by omega)] at r
  have hw : (W (0 + ((m :: M).length : Int)) != (Y.length : Int)) = false := by
    rw [show (0 + ((m :: M).length : Int) : Int) = (Y.length : Int) by omega, W_in (by omega)]; simp
  skip
  have r' : segR ((Cgx [true, false, true, false] Try.prog).into 5 2) 60 8 (aoB Try.prog) [0, 1, 4, 5, 6, 11, 12] [.fix 0, .fix 1, .slot 5, .slot 6] (enter Try.f5 [.slice (some ⟨0, 0, some 0⟩) X.length 12, .slice (some ⟨1, 0, some 0⟩) Y.length 3] [.rows own true 12 X.length (opRow X), .rows own2 true 3 Y.length (vcRow Y)]) = some (aoL01 own own2 X.length Y.length X Y (m :: M).length (m :: M)) := r.trans (by rw [lk2_ok (m :: M).length (m :: M).length, hw]; rfl)
  have body0 : InBody ((Cgx [true, false, true, false] Try.prog).into 5 2) (aoB Try.prog) := Or.inl ⟨Try.f5, aoB Try.prog, Try.func5, aoB_eq, fun _ hx => hx⟩
  exact body_mem (P := Try.prog) (f := 5) (m := [.rows own true 12 X.length (opRow X), .rows own2 true 3 Y.length (vcRow Y)]) Try.func5 aoB_eq (by kernel_rfl) (seg_rule (C := Cgx [true, false, true, false] Try.prog) (okgx [true, false, true, false]) (f := 5) (B := 2) (k := 8) body0 r' (stmt_rule aoHas.1 (for_rule aoFor (end_rule (C := Cow Try.prog) okow (f := 5) (B := 2) aoIn.1 (aoHd01 own own2 X.length Y.length X Y (m :: M).length (m :: M))) (aoLp01 own own2 X Y (m :: M) e2 hq hix (by omega) Y.length 0 0 (by omega) (by rw [List.drop_zero]; exact hP.symm) (by rw [List.drop_zero, List.drop_zero]; exact hM.symm))) (end_rule (C := Cow Try.prog) okow (f := 5) (B := 2) (bodyOf_in Try.func5 aoB_eq) (aoD own own2 X.length Y.length X Y)))) (aoQ own own2 X.length Y.length X Y)
theorem aoS10 (own own2 : Bool) (X : List O3) (Y : List V3) (p : V3) (P : List V3) (e : leastN (kxI Y) (chkI X) = 0) (hP : soL X Y = (p :: P)) (hM : soM X Y = []) : MemSem Try.prog 5 [.slice (some ⟨0, 0, some 0⟩) X.length 12, .slice (some ⟨1, 0, some 0⟩) Y.length 3] [.rows own true 12 X.length (opRow X), .rows own2 true 3 Y.length (vcRow Y)] (.bool true) [.rows own true 12 X.length (opRow X), .rows own2 true 3 Y.length (vcRow Y)] := by
  obtain ⟨e1, e2⟩ := leastN_zero.1 e
  obtain ⟨hq, hix⟩ := kx_len e1
  have hs : ((p :: P) : List V3).length + ([] : List V3).length = Y.length := by
    have a : (soL X Y).length + (soM X Y).length = Y.length := split_len (rsb X) Y
    rw [hP, hM] at a
    exact a
  simp only [List.length_nil, Nat.add_zero] at hs
  have r := aoP10 own own2 X.length Y.length X Y
  rw [vcsOf_vcRow, opsOf_opRow, hP, hM, e, lk2_ok, soT_ok X Y (by omega), smxT_ok (p :: P) (by omega)] at r
  have hw : (W (((p :: P).length : Int) + 0) != (Y.length : Int)) = false := by
    rw [show (((p :: P).length : Int) + 0 : Int) = (Y.length : Int) by omega, W_in (by omega)]; simp
  skip
  have r' : segR ((Cgx [true, false, false, true] Try.prog).into 5 2) 60 8 (aoB Try.prog) [0, 1, 4, 5, 6, 11, 12] [.fix 0, .fix 1, .slot 5, .slot 6] (enter Try.f5 [.slice (some ⟨0, 0, some 0⟩) X.length 12, .slice (some ⟨1, 0, some 0⟩) Y.length 3] [.rows own true 12 X.length (opRow X), .rows own2 true 3 Y.length (vcRow Y)]) = some (aoL10 own own2 X.length Y.length X Y (p :: P).length (p :: P)) := r.trans (by rw [lk2_ok (p :: P).length (p :: P).length, hw]; rfl)
  have body0 : InBody ((Cgx [true, false, false, true] Try.prog).into 5 2) (aoB Try.prog) := Or.inl ⟨Try.f5, aoB Try.prog, Try.func5, aoB_eq, fun _ hx => hx⟩
  exact body_mem (P := Try.prog) (f := 5) (m := [.rows own true 12 X.length (opRow X), .rows own2 true 3 Y.length (vcRow Y)]) Try.func5 aoB_eq (by kernel_rfl) (seg_rule (C := Cgx [true, false, false, true] Try.prog) (okgx [true, false, false, true]) (f := 5) (B := 2) (k := 8) body0 r' (stmt_rule aoHas.1 (for_rule aoFor (end_rule (C := Cow Try.prog) okow (f := 5) (B := 2) aoIn.1 (aoHd10 own own2 X.length Y.length X Y (p :: P).length (p :: P))) (aoLp10 own own2 X Y (p :: P) e2 hq hix (by omega) Y.length 0 0 (by omega) (by rw [List.drop_zero, List.drop_zero]; exact hP.symm) (by rw [List.drop_zero]; exact hM.symm))) (end_rule (C := Cow Try.prog) okow (f := 5) (B := 2) (bodyOf_in Try.func5 aoB_eq) (aoD own own2 X.length Y.length X Y)))) (aoQ own own2 X.length Y.length X Y)
theorem aoS11 (own own2 : Bool) (X : List O3) (Y : List V3) (p : V3) (P : List V3) (m : V3) (M : List V3) (e : leastN (kxI Y) (chkI X) = 0) (hP : soL X Y = (p :: P)) (hM : soM X Y = (m :: M)) : MemSem Try.prog 5 [.slice (some ⟨0, 0, some 0⟩) X.length 12, .slice (some ⟨1, 0, some 0⟩) Y.length 3] [.rows own true 12 X.length (opRow X), .rows own2 true 3 Y.length (vcRow Y)] (.bool true) [.rows own true 12 X.length (opRow X), .rows own2 true 3 Y.length (vcRow Y)] := by
  obtain ⟨e1, e2⟩ := leastN_zero.1 e
  obtain ⟨hq, hix⟩ := kx_len e1
  have hs : ((p :: P) : List V3).length + ((m :: M) : List V3).length = Y.length := by
    have a : (soL X Y).length + (soM X Y).length = Y.length := split_len (rsb X) Y
    rw [hP, hM] at a
    exact a
  skip
  have r := aoP11 own own2 X.length Y.length X Y
  rw [vcsOf_vcRow, opsOf_opRow, hP, hM, e, lk2_ok, soT_ok X Y (by omega), smxT_ok (p :: P) (by omega), smxT_ok (m :: M) (by omega)] at r
  have hw : (W (((p :: P).length : Int) + ((m :: M).length : Int)) != (Y.length : Int)) = false := by
    rw [show (((p :: P).length : Int) + ((m :: M).length : Int) : Int) = (Y.length : Int) by omega, W_in (by omega)]; simp
  skip
  have r' : segR ((Cgx [true, false, false, false] Try.prog).into 5 2) 60 8 (aoB Try.prog) [0, 1, 4, 5, 6, 11, 12] [.fix 0, .fix 1, .slot 5, .slot 6] (enter Try.f5 [.slice (some ⟨0, 0, some 0⟩) X.length 12, .slice (some ⟨1, 0, some 0⟩) Y.length 3] [.rows own true 12 X.length (opRow X), .rows own2 true 3 Y.length (vcRow Y)]) = some (aoL11 own own2 X.length Y.length X Y (p :: P).length (p :: P) (m :: M).length (m :: M)) := r.trans (by rw [lk2_ok (p :: P).length (p :: P).length, lk2_ok (m :: M).length (m :: M).length, hw]; rfl)
  have body0 : InBody ((Cgx [true, false, false, false] Try.prog).into 5 2) (aoB Try.prog) := Or.inl ⟨Try.f5, aoB Try.prog, Try.func5, aoB_eq, fun _ hx => hx⟩
  exact body_mem (P := Try.prog) (f := 5) (m := [.rows own true 12 X.length (opRow X), .rows own2 true 3 Y.length (vcRow Y)]) Try.func5 aoB_eq (by kernel_rfl) (seg_rule (C := Cgx [true, false, false, false] Try.prog) (okgx [true, false, false, false]) (f := 5) (B := 2) (k := 8) body0 r' (stmt_rule aoHas.1 (for_rule aoFor (end_rule (C := Cow Try.prog) okow (f := 5) (B := 2) aoIn.1 (aoHd11 own own2 X.length Y.length X Y (p :: P).length (p :: P) (m :: M).length (m :: M))) (aoLp11 own own2 X Y (p :: P) (m :: M) e2 hq hix (by omega) (by omega) Y.length 0 0 0 (by omega) (by rw [List.drop_zero, List.drop_zero]; exact hP.symm) (by rw [List.drop_zero, List.drop_zero]; exact hM.symm))) (end_rule (C := Cow Try.prog) okow (f := 5) (B := 2) (bodyOf_in Try.func5 aoB_eq) (aoD own own2 X.length Y.length X Y)))) (aoQ own own2 X.length Y.length X Y)
theorem aoSe (own own2 : Bool) (X : List O3) (Y : List V3) (hn : (Y.length : Int) ≤ 9223372036854775807) (e : leastN (kxI Y) (chkI X) ≠ 0) : MemSem Try.prog 5 [.slice (some ⟨0, 0, some 0⟩) X.length 12, .slice (some ⟨1, 0, some 0⟩) Y.length 3] [.rows own true 12 X.length (opRow X), .rows own2 true 3 Y.length (vcRow Y)] (.bool true) [.rows own true 12 X.length (opRow X), .rows own2 true 3 Y.length (vcRow Y)] := by
  have r := aoPe own own2 X.length Y.length X Y
  rw [vcsOf_vcRow, opsOf_opRow, lk2_ok, soT_ok X Y hn, show (leastN (kxI Y) (chkI X) != 0) = true by simpa using e, show (leastN (kxI Y) (chkI X) != leastN (kxI Y) (chkI X)) = false by simp] at r
  have r5 := aoR5 own own2 X.length Y.length X Y (leastN (kxI Y) (chkI X))
  rw [show (leastN (kxI Y) (chkI X) != 0) = true by simpa using e] at r5
  have body0 : InBody ((Cgr Try.prog).into 5 2) (aoB Try.prog) := Or.inl ⟨Try.f5, aoB Try.prog, Try.func5, aoB_eq, fun _ hx => hx⟩
  exact body_mem (P := Try.prog) (f := 5) (m := [.rows own true 12 X.length (opRow X), .rows own2 true 3 Y.length (vcRow Y)]) Try.func5 aoB_eq (by kernel_rfl) (seg_rule (C := Cgr Try.prog) okgr (f := 5) (B := 2) (k := 5) body0 r (stmt_out aoHas.2 (end_rule (C := Cow Try.prog) okow (f := 5) (B := 2) (stmt_in Try.func5 aoB_eq) r5) (by simp))) (aoQ own own2 X.length Y.length X Y)
theorem ao_sem (own own2 : Bool) (X : List O3) (Y : List V3) (hn : (Y.length : Int) ≤ 9223372036854775807) : MemSem Try.prog 5 [.slice (some ⟨0, 0, some 0⟩) X.length 12, .slice (some ⟨1, 0, some 0⟩) Y.length 3] [.rows own true 12 X.length (opRow X), .rows own2 true 3 Y.length (vcRow Y)] (.bool true) [.rows own true 12 X.length (opRow X), .rows own2 true 3 Y.length (vcRow Y)] := by
  by_cases e : leastN (kxI Y) (chkI X) = 0
  · cases hP : soL X Y with
    | nil =>
      cases hM : soM X Y with
      | nil => exact aoS00 own own2 X Y e hP hM
      | cons m M => exact aoS01 own own2 X Y m M e hP hM
    | cons p P =>
      cases hM : soM X Y with
      | nil => exact aoS10 own own2 X Y p P e hP hM
      | cons m M => exact aoS11 own own2 X Y p P m M e hP hM
  · exact aoSe own own2 X Y hn e
end Go.Proofs.Ytjpfnfckpgilgaa
