/-
  absent.Sort, told. Nothing here is trusted.
-/
import Derived.Test.YtjpfnfckpgilgaaHTSo5x
namespace Go.Proofs.Ytjpfnfckpgilgaa
open Go Vx Go.RowKit
def vT (n : Nat) (row : Nat → List Value) : Bool := Nat.beq n n && (okVcs n row && decide ((n : Int) ≤ 9223372036854775807))
theorem vT_ok (Y : List V3) (h : (Y.length : Int) ≤ 9223372036854775807) : vT Y.length (vcRow Y) = true := by unfold vT; rw [Nat.beq_refl, okVcs_vcRow, decide_eq_true h]; rfl
/-- A list that grows from nothing: its value, its block. -/
def gv (b : Nat) (P : List V3) : Value := match P with
  | [] => .slice none 0 0
  | _ :: _ => .slice (some ⟨b, 0, some 0⟩) P.length 3
def gr (P : List V3) : Blk := match P with
  | [] => .no
  | _ :: _ => .rows true true 3 P.length (vcRow P)
def soE (own own2 : Bool) (n q : Nat) (xs : List O3) (Y : List V3) : St := stOf 47 [(0, .slice (some ⟨0, 0, some 0⟩) n 12), (1, .slice (some ⟨1, 0, some 0⟩) q 3), (8, .slice none 0 0), (9, .slice none 0 0)] [.rows own true 12 n (opRow xs), .rows own2 true 3 q (vcRow Y)]
def soE0 (own own2 : Bool) (n q : Nat) (xs : List O3) (Y : List V3) : St := stOf 47 [(0, .slice (some ⟨0, 0, some 0⟩) n 12), (1, .slice (some ⟨1, 0, some 0⟩) q 3), (4, .slice none 0 0), (5, .slice none 0 0), (6, vI 0)] [.rows own true 12 n (opRow xs), .rows own2 true 3 q (vcRow Y)]
def soO (own own2 : Bool) (n q : Nat) (xs : List O3) (Y : List V3) (e : Int) : St := stOf 47 [(4, .slice none 0 0), (5, .slice none 0 0), (6, vI e)] [.rows own true 12 n (opRow xs), .rows own2 true 3 q (vcRow Y)]
theorem soP (own own2 : Bool) (n q : Nat) (xs : List O3) (Y : List V3) : segR ((Ckx Try.prog).into 26 2) 60 3 (soB Try.prog) [0, 1, 8, 9] [.fix 0, .fix 1] (enter Try.f26 [.slice (some ⟨0, 0, some 0⟩) n 12, .slice (some ⟨1, 0, some 0⟩) q 3] [.rows own true 12 n (opRow xs), .rows own2 true 3 q (vcRow Y)]) = gd (lk q) (gd (vT q (vcRow Y)) (gd (lk n) (gd (oT n (opRow xs)) (gn (leastN (kxI (vcsOf q (vcRow Y))) (chkI (opsOf n (opRow xs))) != 0) (some (soE own own2 n q xs Y)))))) := by kernel_rfl
theorem soP0 (own own2 : Bool) (n q : Nat) (xs : List O3) (Y : List V3) : segR ((Ckx Try.prog).into 26 2) 60 1 (soB Try.prog) [0, 1, 4, 5, 6] [.fix 0, .fix 1] (enter Try.f26 [.slice (some ⟨0, 0, some 0⟩) n 12, .slice (some ⟨1, 0, some 0⟩) q 3] [.rows own true 12 n (opRow xs), .rows own2 true 3 q (vcRow Y)]) = some (soE0 own own2 n q xs Y) := by kernel_rfl
theorem soHas1 : hasStmt 1 (soB Try.prog) = true := by kernel_rfl
theorem soR1 (own own2 : Bool) (n q : Nat) (xs : List O3) (Y : List V3) : roundR ((Ckx Try.prog).into 26 2) 60 (stmt 1 (soB Try.prog)) [4, 5, 6] [4, 5, 6] [.fix 0, .fix 1] [.fix 0, .fix 1] (soE0 own own2 n q xs Y) = gd (lk q) (gd (vT q (vcRow Y)) (gd (lk n) (gd (oT n (opRow xs)) (match leastN (kxI (vcsOf q (vcRow Y))) (chkI (opsOf n (opRow xs))) != 0 with
    | true => some (.ret, soO own own2 n q xs Y (leastN (kxI (vcsOf q (vcRow Y))) (chkI (opsOf n (opRow xs)))))
    | false => some (.normal, soO own own2 n q xs Y 0))))) := by kernel_rfl
theorem soHd (own own2 : Bool) (n q : Nat) (xs : List O3) (Y : List V3) : roundR ((Ckx Try.prog).into 26 2) 60 (forHead (stmt 3 (soB Try.prog))) [0, 8, 9, 23, 24, 25] [0, 8, 9, 23, 24, 25] [.fix 0, .fix 1, .slot 8, .slot 9] [.fix 0, .fix 1, .slot 8, .slot 9] (soE own own2 n q xs Y) = some (.normal, soH00 own own2 n q xs Y 0) := by kernel_rfl
theorem soQe (own own2 : Bool) (n q : Nat) (xs : List O3) (Y : List V3) (e : Int) : (retA Try.prog Try.f26 (.ret, soO own own2 n q xs Y e)).res = some (.tuple #[.slice none 0 0, .slice none 0 0, vI e], [.rows own true 12 n (opRow xs), .rows own2 true 3 q (vcRow Y)]) := by kernel_rfl
def soF00 (own own2 : Bool) (n q : Nat) (xs : List O3) (Y : List V3)  : St := stOf 47 [(4, .slice none 0 0), (5, .slice none 0 0), (6, vI 0)] [.rows own true 12 n (opRow xs), .rows own2 true 3 q (vcRow Y), .no, .no]
theorem soD00 (own own2 : Bool) (n q : Nat) (xs : List O3) (Y : List V3)  : roundR ((Ckx Try.prog).into 26 2) 60 (seqDrop 4 (soB Try.prog)) [4, 5, 6] [4, 5, 6] [.fix 0, .fix 1, .slot 4, .slot 5] [.fix 0, .fix 1, .slot 4, .slot 5] (soZ00 own own2 n q xs Y ) = some (.ret, soF00 own own2 n q xs Y ) := by kernel_rfl
theorem soQ00 (own own2 : Bool) (n q : Nat) (xs : List O3) (Y : List V3)  : (retA Try.prog Try.f26 (.ret, soF00 own own2 n q xs Y )).res = some (.tuple #[.slice none 0 0, .slice none 0 0, vI 0], [.rows own true 12 n (opRow xs), .rows own2 true 3 q (vcRow Y), .no, .no]) := by kernel_rfl
def soF01 (own own2 : Bool) (n q : Nat) (xs : List O3) (Y : List V3) (l : Nat) (rm : Nat → List Value) : St := stOf 47 [(4, .slice none 0 0), (5, .slice (some ⟨3, 0, some 0⟩) l 3), (6, vI 0)] [.rows own true 12 n (opRow xs), .rows own2 true 3 q (vcRow Y), .no, .rows true true 3 l rm]
theorem soD01 (own own2 : Bool) (n q : Nat) (xs : List O3) (Y : List V3) (l : Nat) (rm : Nat → List Value) : roundR ((Ckx Try.prog).into 26 2) 60 (seqDrop 4 (soB Try.prog)) [4, 5, 6] [4, 5, 6] [.fix 0, .fix 1, .slot 4, .slot 5] [.fix 0, .fix 1, .slot 4, .slot 5] (soZ01 own own2 n q xs Y l rm) = some (.ret, soF01 own own2 n q xs Y l rm) := by kernel_rfl
theorem soQ01 (own own2 : Bool) (n q : Nat) (xs : List O3) (Y : List V3) (l : Nat) (rm : Nat → List Value) : (retA Try.prog Try.f26 (.ret, soF01 own own2 n q xs Y l rm)).res = some (.tuple #[.slice none 0 0, .slice (some ⟨3, 0, some 0⟩) l 3, vI 0], [.rows own true 12 n (opRow xs), .rows own2 true 3 q (vcRow Y), .no, .rows true true 3 l rm]) := by kernel_rfl
def soF10 (own own2 : Bool) (n q : Nat) (xs : List O3) (Y : List V3) (k : Nat) (rp : Nat → List Value) : St := stOf 47 [(4, .slice (some ⟨2, 0, some 0⟩) k 3), (5, .slice none 0 0), (6, vI 0)] [.rows own true 12 n (opRow xs), .rows own2 true 3 q (vcRow Y), .rows true true 3 k rp, .no]
theorem soD10 (own own2 : Bool) (n q : Nat) (xs : List O3) (Y : List V3) (k : Nat) (rp : Nat → List Value) : roundR ((Ckx Try.prog).into 26 2) 60 (seqDrop 4 (soB Try.prog)) [4, 5, 6] [4, 5, 6] [.fix 0, .fix 1, .slot 4, .slot 5] [.fix 0, .fix 1, .slot 4, .slot 5] (soZ10 own own2 n q xs Y k rp) = some (.ret, soF10 own own2 n q xs Y k rp) := by kernel_rfl
theorem soQ10 (own own2 : Bool) (n q : Nat) (xs : List O3) (Y : List V3) (k : Nat) (rp : Nat → List Value) : (retA Try.prog Try.f26 (.ret, soF10 own own2 n q xs Y k rp)).res = some (.tuple #[.slice (some ⟨2, 0, some 0⟩) k 3, .slice none 0 0, vI 0], [.rows own true 12 n (opRow xs), .rows own2 true 3 q (vcRow Y), .rows true true 3 k rp, .no]) := by kernel_rfl
def soF11 (own own2 : Bool) (n q : Nat) (xs : List O3) (Y : List V3) (k : Nat) (rp : Nat → List Value) (l : Nat) (rm : Nat → List Value) : St := stOf 47 [(4, .slice (some ⟨2, 0, some 0⟩) k 3), (5, .slice (some ⟨3, 0, some 0⟩) l 3), (6, vI 0)] [.rows own true 12 n (opRow xs), .rows own2 true 3 q (vcRow Y), .rows true true 3 k rp, .rows true true 3 l rm]
theorem soD11 (own own2 : Bool) (n q : Nat) (xs : List O3) (Y : List V3) (k : Nat) (rp : Nat → List Value) (l : Nat) (rm : Nat → List Value) : roundR ((Ckx Try.prog).into 26 2) 60 (seqDrop 4 (soB Try.prog)) [4, 5, 6] [4, 5, 6] [.fix 0, .fix 1, .slot 4, .slot 5] [.fix 0, .fix 1, .slot 4, .slot 5] (soZ11 own own2 n q xs Y k rp l rm) = some (.ret, soF11 own own2 n q xs Y k rp l rm) := by kernel_rfl
theorem soQ11 (own own2 : Bool) (n q : Nat) (xs : List O3) (Y : List V3) (k : Nat) (rp : Nat → List Value) (l : Nat) (rm : Nat → List Value) : (retA Try.prog Try.f26 (.ret, soF11 own own2 n q xs Y k rp l rm)).res = some (.tuple #[.slice (some ⟨2, 0, some 0⟩) k 3, .slice (some ⟨3, 0, some 0⟩) l 3, vI 0], [.rows own true 12 n (opRow xs), .rows own2 true 3 q (vcRow Y), .rows true true 3 k rp, .rows true true 3 l rm]) := by kernel_rfl
theorem kx_len {Y : List V3} (h : kxI Y = 0) : Y.length ≤ 4096 ∧ ∀ v ∈ Y, v.ixk = 0 := by
  unfold kxI at h
  cases hf : fst? (kxT Y) Y.length 0 with
  | some k =>
    have hk := fst?_some hf
    rw [hf] at h
    have := hk.2.2.1
    unfold kxT at this
    simp only at h
    rw [h] at this
    cases this
  | none =>
    rw [hf] at h
    have hk := fst?_none hf
    refine ⟨?_, fun v hv => ?_⟩
    · cases hc : decide ((Y.length : Int) > 4096) with
      | true => rw [hc] at h; cases h
      | false => have := of_decide_eq_false hc; omega
    · obtain ⟨j, hj, rfl⟩ := List.getElem_of_mem hv
      have := hk j (Nat.zero_le _) (by omega)
      unfold kxT at this
      rw [atV_get hj] at this
      simpa using this
/-- The two lists that Sort answers. -/
def soL (X : List O3) (Y : List V3) : List V3 := Y.filter fun v => !rsb X v
def soM (X : List O3) (Y : List V3) : List V3 := Y.filter fun v => rsb X v
theorem soS (own own2 : Bool) (X : List O3) (Y : List V3) (e : leastN (kxI Y) (chkI X) = 0) : MemSem Try.prog 26 [.slice (some ⟨0, 0, some 0⟩) X.length 12, .slice (some ⟨1, 0, some 0⟩) Y.length 3] [.rows own true 12 X.length (opRow X), .rows own2 true 3 Y.length (vcRow Y)] (.tuple #[gv 2 (soL X Y), gv 3 (soM X Y), vI 0]) [.rows own true 12 X.length (opRow X), .rows own2 true 3 Y.length (vcRow Y), gr (soL X Y), gr (soM X Y)] := by
  obtain ⟨e1, e2⟩ := leastN_zero.1 e
  have hq := (kx_len e1).1
  have hX := (chk_grp e2).2.2
  have r1 := soP own own2 X.length Y.length X Y
  rw [lk_true, gd_true, vT_ok Y (by omega), gd_true, lk_true, gd_true, oT_ok, gd_true, vcsOf_vcRow, opsOf_opRow, e] at r1
  have r1' : segR ((Ckx Try.prog).into 26 2) 60 3 (soB Try.prog) [0, 1, 8, 9] [.fix 0, .fix 1] (enter Try.f26 [.slice (some ⟨0, 0, some 0⟩) X.length 12, .slice (some ⟨1, 0, some 0⟩) Y.length 3] [.rows own true 12 X.length (opRow X), .rows own2 true 3 Y.length (vcRow Y)]) = some (soE own own2 X.length Y.length X Y) := r1
  have body0 : InBody ((Ckx Try.prog).into 26 2) (soB Try.prog) := Or.inl ⟨Try.f26, soB Try.prog, Try.func26, soB_eq, fun _ hx => hx⟩
  have hl := soLp own own2 X Y hX hq Y.length 0 [] [] (by omega) rfl
  rw [List.drop_zero, List.nil_append, List.nil_append] at hl
  have hd := end_rule (C := Ckx Try.prog) okkx (f := 26) (B := 2) soIn.1 (soHd own own2 X.length Y.length X Y)
  have fin : ∀ (z : St) (v : Value) (m : Mem), CodeSem Try.prog 2 (seqDrop 4 (soB Try.prog)) (soZ own own2 X.length Y.length X Y (soL X Y) (soM X Y)) .ret z → (retA Try.prog Try.f26 (.ret, z)).res = some (v, m) → MemSem Try.prog 26 [.slice (some ⟨0, 0, some 0⟩) X.length 12, .slice (some ⟨1, 0, some 0⟩) Y.length 3] [.rows own true 12 X.length (opRow X), .rows own2 true 3 Y.length (vcRow Y)] v m := fun z v m hz hv =>
    body_mem (P := Try.prog) (f := 26) (m := [.rows own true 12 X.length (opRow X), .rows own2 true 3 Y.length (vcRow Y)]) Try.func26 soB_eq (by kernel_rfl) (seg_rule (C := Ckx Try.prog) okkx (f := 26) (B := 2) (k := 3) body0 r1' (stmt_rule soHas (for_rule soFor hd hl) hz)) hv
  have hin := bodyOf_in (C := Ckx Try.prog) (f := 26) (B := 2) (k := 4) Try.func26 soB_eq
  generalize soL X Y = P at fin ⊢
  generalize soM X Y = M at fin ⊢
  cases P with
  | nil =>
    cases M with
    | nil => exact fin _ _ _ (end_rule (C := Ckx Try.prog) okkx (f := 26) (B := 2) hin (soD00 own own2 X.length Y.length X Y)) (soQ00 own own2 X.length Y.length X Y)
    | cons m M => exact fin _ _ _ (end_rule (C := Ckx Try.prog) okkx (f := 26) (B := 2) hin (soD01 own own2 X.length Y.length X Y _ _)) (soQ01 own own2 X.length Y.length X Y _ _)
  | cons p P =>
    cases M with
    | nil => exact fin _ _ _ (end_rule (C := Ckx Try.prog) okkx (f := 26) (B := 2) hin (soD10 own own2 X.length Y.length X Y _ _)) (soQ10 own own2 X.length Y.length X Y _ _)
    | cons m M => exact fin _ _ _ (end_rule (C := Ckx Try.prog) okkx (f := 26) (B := 2) hin (soD11 own own2 X.length Y.length X Y _ _ _ _)) (soQ11 own own2 X.length Y.length X Y _ _ _ _)
theorem soSe (own own2 : Bool) (X : List O3) (Y : List V3) (hn : (Y.length : Int) ≤ 9223372036854775807) (e : leastN (kxI Y) (chkI X) ≠ 0) : MemSem Try.prog 26 [.slice (some ⟨0, 0, some 0⟩) X.length 12, .slice (some ⟨1, 0, some 0⟩) Y.length 3] [.rows own true 12 X.length (opRow X), .rows own2 true 3 Y.length (vcRow Y)] (.tuple #[.slice none 0 0, .slice none 0 0, vI (leastN (kxI Y) (chkI X))]) [.rows own true 12 X.length (opRow X), .rows own2 true 3 Y.length (vcRow Y)] := by
  have r1 := soR1 own own2 X.length Y.length X Y
  rw [lk_true, gd_true, vT_ok Y hn, gd_true, lk_true, gd_true, oT_ok, gd_true, vcsOf_vcRow, opsOf_opRow, show (leastN (kxI Y) (chkI X) != 0) = true by simpa using e] at r1
  have body0 : InBody ((Ckx Try.prog).into 26 2) (soB Try.prog) := Or.inl ⟨Try.f26, soB Try.prog, Try.func26, soB_eq, fun _ hx => hx⟩
  exact body_mem (P := Try.prog) (f := 26) (m := [.rows own true 12 X.length (opRow X), .rows own2 true 3 Y.length (vcRow Y)]) Try.func26 soB_eq (by kernel_rfl) (seg_rule (C := Ckx Try.prog) okkx (f := 26) (B := 2) (k := 1) body0 (soP0 own own2 X.length Y.length X Y) (stmt_out soHas1 (end_rule (C := Ckx Try.prog) okkx (f := 26) (B := 2) (stmt_in Try.func26 soB_eq) r1) (by simp))) (soQe own own2 X.length Y.length X Y _)
end Go.Proofs.Ytjpfnfckpgilgaa
