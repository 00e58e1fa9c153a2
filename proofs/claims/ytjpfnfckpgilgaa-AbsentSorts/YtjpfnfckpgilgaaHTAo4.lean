/-
  facetlaw14.AbsentSorts: a list or a group that is nil. Nothing here is trusted.
-/
import Derived.Test.YtjpfnfckpgilgaaHTAo3
namespace Go.Proofs.Ytjpfnfckpgilgaa
open Go Vx Go.RowKit
theorem ao00E : exT ((Ckx Try.prog).at 5) 80 Try.f5 [.slice none 0 0, .slice none 0 0] [] [] = some (.bool true, []) := by kernel_rfl
theorem ao_nn : MemSem Try.prog 5 [.slice none 0 0, .slice none 0 0] [] (.bool true) [] := exT_ok okkx Try.func5 (by kernel_rfl) ao00E
theorem soNE (own : Bool) (n : Nat) (xs : List O3) : exT ((Ckx Try.prog).at 26) 60 Try.f26 [.slice (some ⟨0, 0, some 0⟩) n 12, .slice none 0 0] [.rows own true 12 n (opRow xs)] [.fix 0] = gd (lk n) (gd (oT n (opRow xs)) (match chkI (opsOf n (opRow xs)) != 0 with
    | true => some (.tuple #[.slice none 0 0, .slice none 0 0, vI (chkI (opsOf n (opRow xs)))], [.rows own true 12 n (opRow xs)])
    | false => some (.tuple #[.slice none 0 0, .slice none 0 0, vI 0], [.rows own true 12 n (opRow xs)]))) := by kernel_rfl
theorem soN (own : Bool) (X : List O3) : MemSem Try.prog 26 [.slice (some ⟨0, 0, some 0⟩) X.length 12, .slice none 0 0] [.rows own true 12 X.length (opRow X)] (.tuple #[.slice none 0 0, .slice none 0 0, vI (chkI X)]) [.rows own true 12 X.length (opRow X)] := by
  have r := soNE own X.length X
  rw [lk_true, gd_true, oT_ok, gd_true, opsOf_opRow] at r
  refine exT_ok okkx Try.func26 (by kernel_rfl) (r.trans ?_)
  by_cases e : chkI X = 0
  · rw [e]; rfl
  · rw [show (chkI X != 0) = true by simpa using e]
theorem dsNE (own : Bool) (n : Nat) (xs : List O3) : exT ((Ckx Try.prog).at 27) 60 Try.f27 [.slice (some ⟨0, 0, some 0⟩) n 12, .slice none 0 0] [.rows own true 12 n (opRow xs)] [.fix 0] = gd (lk n) (gd (oT n (opRow xs)) (match chkI (opsOf n (opRow xs)) != 0 with
    | true => some (.tuple #[.slice none 0 0, .slice none 0 0, vI (chkI (opsOf n (opRow xs)))], [.rows own true 12 n (opRow xs)])
    | false => some (.tuple #[.slice none 0 0, .slice none 0 0, vI 0], [.rows own true 12 n (opRow xs)]))) := by kernel_rfl
theorem dsN (own : Bool) (X : List O3) : MemSem Try.prog 27 [.slice (some ⟨0, 0, some 0⟩) X.length 12, .slice none 0 0] [.rows own true 12 X.length (opRow X)] (.tuple #[.slice none 0 0, .slice none 0 0, vI (chkI X)]) [.rows own true 12 X.length (opRow X)] := by
  have r := dsNE own X.length X
  rw [lk_true, gd_true, oT_ok, gd_true, opsOf_opRow] at r
  refine exT_ok okkx Try.func27 (by kernel_rfl) (r.trans ?_)
  by_cases e : chkI X = 0
  · rw [e]; rfl
  · rw [show (chkI X != 0) = true by simpa using e]
def nlF : List Value → Mem → Option (Ans (Value × Mem))
  | [.slice (some ⟨0, 0, some 0⟩) N 12, .slice none 0 0], [.rows own true 12 N2 row] => some (.br (Nat.beq N N2 && okOps N row) (.out (.tuple #[.slice none 0 0, .slice none 0 0, vI (chkI (opsOf N row))], [.rows own true 12 N (opRow (opsOf N row))])) .fail)
  | _, _ => none
theorem nlF_ok (f : FuncId) (hS : ∀ (own : Bool) (X : List O3), MemSem Try.prog f [.slice (some ⟨0, 0, some 0⟩) X.length 12, .slice none 0 0] [.rows own true 12 X.length (opRow X)] (.tuple #[.slice none 0 0, .slice none 0 0, vI (chkI X)]) [.rows own true 12 X.length (opRow X)]) : ∀ args m ans v m', nlF args m = some ans → ans.res = some (v, m') → MemSem Try.prog f args m v m' := by
  intro args m ans v m' h hr
  unfold nlF at h
  split at h
  · rename_i N own N2 row
    simp only [Option.some.injEq] at h
    subst h
    rcases Ans.br_some hr with ⟨hc, hr1⟩ | ⟨_, hr1⟩
    rotate_left
    · simp [Ans.res] at hr1
    clear hr
    rw [Bool.and_eq_true] at hc
    obtain ⟨c1, c2⟩ := hc
    have c1 := beq_len c1
    subst c1
    simp only [Ans.res, Option.some.injEq, Prod.mk.injEq] at hr1
    obtain ⟨rfl, rfl⟩ := hr1
    have := hS own (opsOf N row)
    rw [opsOf_length] at this
    exact this.like ⟨.rows (ops_like c2), trivial⟩
  · cases h
def Cnl (P : Program) : Cx := (((Cow P).addE 28 smxF).addE 26 nlF).addE 27 nlF
theorem oknl : CxOk (Cnl Try.prog) := Cx.addE_ok (Cx.addE_ok (Cx.addE_ok okow smxF_ok) (nlF_ok 26 soN)) (nlF_ok 27 dsN)
theorem aoNE (own : Bool) (n : Nat) (xs : List O3) : exT ((Cnl Try.prog).at 5) 80 Try.f5 [.slice (some ⟨0, 0, some 0⟩) n 12, .slice none 0 0] [.rows own true 12 n (opRow xs)] [.fix 0] = gd (lk n) (gd (oT n (opRow xs)) (gd (lk n) (gd (oT n (opRow xs)) (match chkI (opsOf n (opRow xs)) != chkI (opsOf n (opRow xs)) with
    | true => some (.bool false, [.rows own true 12 n (opRow xs)])
    | false => match chkI (opsOf n (opRow xs)) != 0 with
      | true => some (.bool true, [.rows own true 12 n (opRow xs)])
      | false => some (.bool true, [.rows own true 12 n (opRow xs)]))))) := by kernel_rfl
theorem ao_gn (own : Bool) (X : List O3) : MemSem Try.prog 5 [.slice (some ⟨0, 0, some 0⟩) X.length 12, .slice none 0 0] [.rows own true 12 X.length (opRow X)] (.bool true) [.rows own true 12 X.length (opRow X)] := by
  have r := aoNE own X.length X
  rw [lk_true, gd_true, oT_ok, gd_true, gd_true, gd_true, opsOf_opRow, show (chkI X != chkI X) = false by simp] at r
  refine exT_ok oknl Try.func5 (by kernel_rfl) (r.trans ?_)
  cases chkI X != 0 <;> rfl
def sgO (own2 : Bool) (q : Nat) (Y : List V3) (e : Int) : St := stOf 47 [(4, .slice none 0 0), (5, .slice none 0 0), (6, vI e)] [.rows own2 true 3 q (vcRow Y)]
def sgE (own2 : Bool) (q : Nat) (Y : List V3) : St := stOf 47 [(0, .slice none 0 0), (1, .slice (some ⟨0, 0, some 0⟩) q 3), (4, .slice none 0 0), (5, .slice none 0 0), (6, vI 0)] [.rows own2 true 3 q (vcRow Y)]
theorem sgP (own2 : Bool) (q : Nat) (Y : List V3) : segR ((Ckx Try.prog).into 26 1) 60 1 (soB Try.prog) [0, 1, 4, 5, 6] [.fix 0] (enter Try.f26 [.slice none 0 0, .slice (some ⟨0, 0, some 0⟩) q 3] [.rows own2 true 3 q (vcRow Y)]) = some (sgE own2 q Y) := by kernel_rfl
theorem sgR (own2 : Bool) (q : Nat) (Y : List V3) : roundR ((Ckx Try.prog).into 26 1) 60 (stmt 1 (soB Try.prog)) [4, 5, 6] [4, 5, 6] [.fix 0] [.fix 0] (sgE own2 q Y) = gd (lk q) (gd (vT q (vcRow Y)) (match (leastN (kxI (vcsOf q (vcRow Y))) 5) != 0 with
    | true => some (.ret, sgO own2 q Y (leastN (kxI (vcsOf q (vcRow Y))) 5))
    | false => some (.normal, sgO own2 q Y 0))) := by kernel_rfl
theorem sgQ (own2 : Bool) (q : Nat) (Y : List V3) (e : Int) : (retA Try.prog Try.f26 (.ret, sgO own2 q Y e)).res = some (.tuple #[.slice none 0 0, .slice none 0 0, vI e], [.rows own2 true 3 q (vcRow Y)]) := by kernel_rfl
theorem l5_ne (Y : List V3) : (leastN (kxI Y) 5) ≠ 0 := fun h => by have := (leastN_zero.1 h).2; omega
theorem sgS (own2 : Bool) (Y : List V3) (hn : (Y.length : Int) ≤ 9223372036854775807) : MemSem Try.prog 26 [.slice none 0 0, .slice (some ⟨0, 0, some 0⟩) Y.length 3] [.rows own2 true 3 Y.length (vcRow Y)] (.tuple #[.slice none 0 0, .slice none 0 0, vI (leastN (kxI Y) 5)]) [.rows own2 true 3 Y.length (vcRow Y)] := by
  have r1 := sgR own2 Y.length Y
  rw [lk_true, gd_true, vT_ok Y hn, gd_true, vcsOf_vcRow, show ((leastN (kxI Y) 5) != 0) = true by simpa using l5_ne Y] at r1
  have body0 : InBody ((Ckx Try.prog).into 26 1) (soB Try.prog) := Or.inl ⟨Try.f26, soB Try.prog, Try.func26, soB_eq, fun _ hx => hx⟩
  exact body_mem (P := Try.prog) (f := 26) (m := [.rows own2 true 3 Y.length (vcRow Y)]) Try.func26 soB_eq (by kernel_rfl) (seg_rule (C := Ckx Try.prog) okkx (f := 26) (B := 1) (k := 1) body0 (sgP own2 Y.length Y) (stmt_out soHas1 (end_rule (C := Ckx Try.prog) okkx (f := 26) (B := 1) (stmt_in Try.func26 soB_eq) r1) (by simp))) (sgQ own2 Y.length Y _)
def dgS (own2 : Bool) (q : Nat) (Y : List V3) (a e : Int) : St := stOf 60 [(0, .slice none 0 0), (1, .slice (some ⟨0, 0, some 0⟩) q 3), (4, .slice none 0 0), (5, .slice none 0 0), (6, vI a), (7, vI e)] [.rows own2 true 3 q (vcRow Y)]
def dgI (own2 : Bool) (q : Nat) (Y : List V3) (e i : Int) : St := stOf 60 [(0, .slice none 0 0), (1, .slice (some ⟨0, 0, some 0⟩) q 3), (4, .slice none 0 0), (5, .slice none 0 0), (6, vI 0), (7, vI e), (27, .slice (some ⟨0, 0, some 0⟩) q 3), (28, vI q), (29, vI i)] [.rows own2 true 3 q (vcRow Y)]
def dgO (own2 : Bool) (q : Nat) (Y : List V3) (e : Int) : St := stOf 60 [(4, .slice none 0 0), (5, .slice none 0 0), (6, vI e)] [.rows own2 true 3 q (vcRow Y)]
theorem dgP (own2 : Bool) (q : Nat) (Y : List V3) : segR ((Ckx Try.prog).into 27 1) 60 2 (dsB Try.prog) [0, 1, 4, 5, 6, 7] [.fix 0] (enter Try.f27 [.slice none 0 0, .slice (some ⟨0, 0, some 0⟩) q 3] [.rows own2 true 3 q (vcRow Y)]) = some (dgS own2 q Y 0 5) := by kernel_rfl
theorem dgR2 (own2 : Bool) (q : Nat) (Y : List V3) : roundR ((Ckx Try.prog).into 27 1) 60 (stmt 2 (dsB Try.prog)) [0, 1, 4, 5, 6, 7] [0, 1, 4, 5, 6, 7] [.fix 0] [.fix 0] (dgS own2 q Y 0 5) =
    (match decide ((q : Int) > 4096) with
    | true => some (.normal, dgS own2 q Y 0 2)
    | false => some (.normal, dgS own2 q Y 0 5)) := by kernel_rfl
theorem dgHd (own2 : Bool) (q : Nat) (Y : List V3) (e : Int) : roundR ((Ckx Try.prog).into 27 1) 60 (forHead (stmt 3 (dsB Try.prog))) [0, 1, 4, 5, 6, 7, 27, 28, 29] [0, 1, 4, 5, 6, 7, 27, 28, 29] [.fix 0] [.fix 0] (dgS own2 q Y 0 e) = some (.normal, dgI own2 q Y e 0) := by kernel_rfl
theorem dgR3 (own2 : Bool) (q : Nat) (Y : List V3) (e : Int) (i : Nat) : roundR ((Ckx Try.prog).into 27 1) 60 (forBody (stmt 3 (dsB Try.prog))) [0, 1, 4, 5, 6, 7, 27, 28, 29] [0, 1, 4, 5, 6, 7] [.fix 0] [.fix 0] (dgI own2 q Y e (i : Int)) =
    (match decide ((i : Int) < (q : Int)) with
    | true => gd (boundsI (i : Int) q) (match (atV Y i).ixk != 0 with
      | true => some (.ret, dgS own2 q Y 1 e)
      | false => some (.normal, dgI own2 q Y e (W ((i : Int) + 1))))
    | false => some (.exit 0, dgS own2 q Y 0 e)) := by kernel_rfl
theorem dgR4 (own2 : Bool) (q : Nat) (Y : List V3) (e : Int) : roundR ((Ckx Try.prog).into 27 1) 60 (stmt 4 (dsB Try.prog)) [4, 5, 6] [4, 5, 6] [.fix 0] [.fix 0] (dgS own2 q Y 0 e) =
    (match e != 0 with
    | true => some (.ret, dgO own2 q Y e)
    | false => some (.normal, dgO own2 q Y 0)) := by kernel_rfl
theorem dgQs (own2 : Bool) (q : Nat) (Y : List V3) (a e : Int) : (retA Try.prog Try.f27 (.ret, dgS own2 q Y a e)).res = some (.tuple #[.slice none 0 0, .slice none 0 0, vI a], [.rows own2 true 3 q (vcRow Y)]) := by kernel_rfl
theorem dgQo (own2 : Bool) (q : Nat) (Y : List V3) (e : Int) : (retA Try.prog Try.f27 (.ret, dgO own2 q Y e)).res = some (.tuple #[.slice none 0 0, .slice none 0 0, vI e], [.rows own2 true 3 q (vcRow Y)]) := by kernel_rfl
set_option maxRecDepth 100000 in
theorem dgIn : InBody ((Ckx Try.prog).into 27 1) (forHead (stmt 3 (dsB Try.prog))) ∧ InBody ((Ckx Try.prog).into 27 1) (forBody (stmt 3 (dsB Try.prog))) := for_in (C := Ckx Try.prog) (f := 27) (B := 1) (id := 0) (k := 3) (fn := Try.f27) (b := dsB Try.prog) Try.func27 dsB_eq dsFor3
def dgK (Y : List V3) : Int := match decide ((Y.length : Int) > 4096) with
  | true => 2
  | false => 5
theorem dg_bad {Y : List V3} {k : Nat} (h : fst? (kxT Y) Y.length 0 = some k) : (leastN (kxI Y) 5) = 1 := by
  have hk := (fst?_some h).2.2.1
  unfold kxI
  rw [h]
  unfold kxT at hk
  rcases ixk_vals (atV Y k) with h0 | h1
  · rw [h0] at hk; cases hk
  · simp only [h1]; rfl
theorem dg_good {Y : List V3} (h : fst? (kxT Y) Y.length 0 = none) : (leastN (kxI Y) 5) = dgK Y := by
  unfold kxI dgK
  rw [h]
  simp only
  cases decide ((Y.length : Int) > 4096) <;> rfl
theorem dgSem (own2 : Bool) (Y : List V3) (hn : (Y.length : Int) ≤ 9223372036854775807) : MemSem Try.prog 27 [.slice none 0 0, .slice (some ⟨0, 0, some 0⟩) Y.length 3] [.rows own2 true 3 Y.length (vcRow Y)] (.tuple #[.slice none 0 0, .slice none 0 0, vI (leastN (kxI Y) 5)]) [.rows own2 true 3 Y.length (vcRow Y)] := by
  have body0 : InBody ((Ckx Try.prog).into 27 1) (dsB Try.prog) := Or.inl ⟨Try.f27, dsB Try.prog, Try.func27, dsB_eq, fun _ hx => hx⟩
  have r2 : roundR ((Ckx Try.prog).into 27 1) 60 (stmt 2 (dsB Try.prog)) [0, 1, 4, 5, 6, 7] [0, 1, 4, 5, 6, 7] [.fix 0] [.fix 0] (dgS own2 Y.length Y 0 5) = some (.normal, dgS own2 Y.length Y 0 (dgK Y)) := by
    refine (dgR2 own2 Y.length Y).trans ?_
    unfold dgK
    cases decide ((Y.length : Int) > 4096) <;> rfl
  have pre : ∀ (z : St) (v : Value) (m : Mem), (retA Try.prog Try.f27 (.ret, z)).res = some (v, m) → CodeSem Try.prog 1 (seqDrop 3 (dsB Try.prog)) (dgS own2 Y.length Y 0 (dgK Y)) .ret z → MemSem Try.prog 27 [.slice none 0 0, .slice (some ⟨0, 0, some 0⟩) Y.length 3] [.rows own2 true 3 Y.length (vcRow Y)] v m := fun z v m hv h =>
    body_mem (P := Try.prog) (f := 27) (m := [.rows own2 true 3 Y.length (vcRow Y)]) Try.func27 dsB_eq (by kernel_rfl) (seg_rule (C := Ckx Try.prog) okkx (f := 27) (B := 1) (k := 2) body0 (dgP own2 Y.length Y) (stmt_rule dsHas2.1 (end_rule (C := Ckx Try.prog) okkx (f := 27) (B := 1) (stmt_in Try.func27 dsB_eq) r2) h)) hv
  have hl := scan_loop2 (C := Ckx Try.prog) okkx (f := 27) (B := 1) (m := 60) dgIn.2 hn (fun i => dgI own2 Y.length Y (dgK Y) i) (kxT Y) (fun _ => dgS own2 Y.length Y 1 (dgK Y)) 0 (dgS own2 Y.length Y 0 (dgK Y)) (mask := [0, 1, 4, 5, 6, 7, 27, 28, 29]) (mout := [0, 1, 4, 5, 6, 7]) (sp := [.fix 0]) (so := [.fix 0]) fun i _ => dgR3 own2 Y.length Y (dgK Y) i
  have hd := end_rule (C := Ckx Try.prog) okkx (f := 27) (B := 1) dgIn.1 (dgHd own2 Y.length Y (dgK Y))
  cases hf : fst? (kxT Y) Y.length 0 with
  | some k =>
    rw [dg_bad hf]
    exact pre _ _ _ (dgQs own2 Y.length Y 1 (dgK Y)) (stmt_out dsHas2.2.1 (for_ret dsFor3 hd (hl.1 k hf)) (by simp))
  | none =>
    have r4 := dgR4 own2 Y.length Y (dgK Y)
    rw [show (dgK Y != 0) = true by unfold dgK; cases decide ((Y.length : Int) > 4096) <;> rfl] at r4
    rw [dg_good hf]
    exact pre _ _ _ (dgQo own2 Y.length Y (dgK Y)) (stmt_rule dsHas2.2.1 (for_rule dsFor3 hd (hl.2 hf)) (stmt_out dsHas2.2.2 (end_rule (C := Ckx Try.prog) okkx (f := 27) (B := 1) (stmt_in Try.func27 dsB_eq) r4) (by simp)))
def ngF : List Value → Mem → Option (Ans (Value × Mem))
  | [.slice none 0 0, .slice (some ⟨0, 0, some 0⟩) N 3], [.rows own true 3 N2 row] => some (.br (Nat.beq N N2 && (okVcs N row && decide ((N : Int) ≤ 9223372036854775807))) (.out (.tuple #[.slice none 0 0, .slice none 0 0, vI (leastN (kxI (vcsOf N row)) 5)], [.rows own true 3 N (vcRow (vcsOf N row))])) .fail)
  | _, _ => none
theorem ngF_ok (f : FuncId) (hS : ∀ (own2 : Bool) (Y : List V3), (Y.length : Int) ≤ 9223372036854775807 → MemSem Try.prog f [.slice none 0 0, .slice (some ⟨0, 0, some 0⟩) Y.length 3] [.rows own2 true 3 Y.length (vcRow Y)] (.tuple #[.slice none 0 0, .slice none 0 0, vI (leastN (kxI Y) 5)]) [.rows own2 true 3 Y.length (vcRow Y)]) : ∀ args m ans v m', ngF args m = some ans → ans.res = some (v, m') → MemSem Try.prog f args m v m' := by
  intro args m ans v m' h hr
  unfold ngF at h
  split at h
  · rename_i N own N2 row
    simp only [Option.some.injEq] at h
    subst h
    rcases Ans.br_some hr with ⟨hc, hr1⟩ | ⟨_, hr1⟩
    rotate_left
    · simp [Ans.res] at hr1
    clear hr
    simp only [Bool.and_eq_true, decide_eq_true_eq] at hc
    obtain ⟨c1, c2, c3⟩ := hc
    have c1 := beq_len c1
    subst c1
    simp only [Ans.res, Option.some.injEq, Prod.mk.injEq] at hr1
    obtain ⟨rfl, rfl⟩ := hr1
    have hl := vcsOf_length N row
    have := hS own (vcsOf N row) (by rw [hl]; exact c3)
    rw [hl] at this
    exact this.like ⟨.rows (vcs_like c2), trivial⟩
  · cases h
def Cng (P : Program) : Cx := (((Cow P).addE 28 smxF).addE 26 ngF).addE 27 ngF
theorem okng : CxOk (Cng Try.prog) := Cx.addE_ok (Cx.addE_ok (Cx.addE_ok okow smxF_ok) (ngF_ok 26 sgS)) (ngF_ok 27 dgSem)
def agE (own2 : Bool) (q : Nat) (Y : List V3) (e : Int) : St := stOf 111 [(4, .bool false), (7, vI e)] [.rows own2 true 3 q (vcRow Y)]
def agO (own2 : Bool) (q : Nat) (Y : List V3) (b : Bool) : St := stOf 111 [(4, .bool b)] [.rows own2 true 3 q (vcRow Y)]
theorem agP (own2 : Bool) (q : Nat) (Y : List V3) : segR ((Cng Try.prog).into 5 1) 60 5 (aoB Try.prog) [4, 7] [.fix 0] (enter Try.f5 [.slice none 0 0, .slice (some ⟨0, 0, some 0⟩) q 3] [.rows own2 true 3 q (vcRow Y)]) = gd (lk q) (gd (vT q (vcRow Y)) (gd (lk q) (gd (vT q (vcRow Y)) (gn ((leastN (kxI (vcsOf q (vcRow Y))) 5) != (leastN (kxI (vcsOf q (vcRow Y))) 5)) (some (agE own2 q Y (leastN (kxI (vcsOf q (vcRow Y))) 5))))))) := by kernel_rfl
theorem agR (own2 : Bool) (q : Nat) (Y : List V3) (e : Int) : roundR ((Cow Try.prog).into 5 1) 60 (stmt 5 (aoB Try.prog)) [4] [4] [.fix 0] [.fix 0] (agE own2 q Y e) = (match e != 0 with
    | true => some (.ret, agO own2 q Y true)
    | false => some (.normal, agO own2 q Y false)) := by kernel_rfl
theorem agQ (own2 : Bool) (q : Nat) (Y : List V3) : (retA Try.prog Try.f5 (.ret, agO own2 q Y true)).res = some (.bool true, [.rows own2 true 3 q (vcRow Y)]) := by kernel_rfl
theorem ao_nl (own2 : Bool) (Y : List V3) (hn : (Y.length : Int) ≤ 9223372036854775807) : MemSem Try.prog 5 [.slice none 0 0, .slice (some ⟨0, 0, some 0⟩) Y.length 3] [.rows own2 true 3 Y.length (vcRow Y)] (.bool true) [.rows own2 true 3 Y.length (vcRow Y)] := by
  have r := agP own2 Y.length Y
  rw [vcsOf_vcRow, lk_true, vT_ok Y hn, show ((leastN (kxI Y) 5) != (leastN (kxI Y) 5)) = false by simp] at r
  have r5 := agR own2 Y.length Y (leastN (kxI Y) 5)
  rw [show ((leastN (kxI Y) 5) != 0) = true by simpa using l5_ne Y] at r5
  have body0 : InBody ((Cng Try.prog).into 5 1) (aoB Try.prog) := Or.inl ⟨Try.f5, aoB Try.prog, Try.func5, aoB_eq, fun _ hx => hx⟩
  exact body_mem (P := Try.prog) (f := 5) (m := [.rows own2 true 3 Y.length (vcRow Y)]) Try.func5 aoB_eq (by kernel_rfl) (seg_rule (C := Cng Try.prog) okng (f := 5) (B := 1) (k := 5) body0 r (stmt_out aoHas.2 (end_rule (C := Cow Try.prog) okow (f := 5) (B := 1) (stmt_in Try.func5 aoB_eq) r5) (by simp))) (agQ own2 Y.length Y)
end Go.Proofs.Ytjpfnfckpgilgaa
