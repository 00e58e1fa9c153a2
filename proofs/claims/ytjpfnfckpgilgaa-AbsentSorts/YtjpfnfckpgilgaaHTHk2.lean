/-
  hkl.turned, hkl.Of, told. Nothing here is trusted.
-/
import Derived.Test.YtjpfnfckpgilgaaHTHk1
import Derived.Test.YtjpfnfckpgilgaaHGrpM
namespace Go.Proofs.Ytjpfnfckpgilgaa
open Go Vx Go.RowKit

def Cav (P : Program) : Cx := (Cau P).addF 107 rwF
theorem okav : CxOk (Cav Try.prog) := Cx.addF_ok okau fun _ _ _ _ _ h hr => rwF_ok h hr
def Cbg (P : Program) : Cx := (Cav P).good 106 [true, false]
theorem okbg : CxOk (Cbg Try.prog) := Cx.good_ok okav _ _
def Cbe (P : Program) : Cx := (Cav P).road 106 [true, true]
theorem okbe : CxOk (Cbe Try.prog) := Cx.road_ok okav _ _
def tdB (P : Program) : Code := bodyOf P 68
theorem tdB_eq : Try.f68.body = some (tdB Try.prog) := by kernel_rfl
def tdS (own : Bool) (n : Nat) (xs : List O3) (h : V3) (e : Int) : St := stOf 24 [(3, .pointer (some ⟨1, 0, none⟩)), (4, .slice none 0 0), (5, vI 0), (7, vI e)] [.rows own true 12 n (opRow xs), .cells true 0 h.cells]
def tdG (own : Bool) (n : Nat) (xs : List O3) (h : V3) (ms : List M3) : St := stOf 24 [(3, .pointer (some ⟨1, 0, none⟩)), (4, .slice none 0 0), (5, vI 0), (6, .slice (some ⟨2, 0, some 0⟩) ms.length 9)] [.rows own true 12 n (opRow xs), .cells true 0 h.cells, .rows true true 9 ms.length (mtRow ms)]
def rwT (n : Nat) (row : Nat → List Value) : Bool := Nat.beq n n && (okMts n row && Nat.ble n 1000)
theorem tdPe (own : Bool) (n : Nat) (xs : List O3) (h : V3) : segR ((Cbe Try.prog).into 68 1) 60 2 (tdB Try.prog) [3, 4, 5, 7] [.fix 0, .slot 3] (enter Try.f68 [.slice (some ⟨0, 0, some 0⟩) n 12, h.v] [.rows own true 12 n (opRow xs)]) = gd (lk n) (gd (oT n (opRow xs)) (gd (chkI (opsOf n (opRow xs)) != 0) (some (tdS own n xs h (chkI (opsOf n (opRow xs))))))) := by kernel_rfl
theorem tdPg (own : Bool) (n : Nat) (xs : List O3) (h : V3) : segR ((Cbg Try.prog).into 68 1) 60 2 (tdB Try.prog) [3, 4, 5, 7] [.fix 0, .slot 3] (enter Try.f68 [.slice (some ⟨0, 0, some 0⟩) n 12, h.v] [.rows own true 12 n (opRow xs)]) = gd (lk n) (gd (oT n (opRow xs)) (gn (chkI (opsOf n (opRow xs)) != 0) (some (tdS own n xs h 0)))) := by kernel_rfl
theorem tdRe (own : Bool) (n : Nat) (xs : List O3) (h : V3) (e : Int) : roundR ((Cav Try.prog).into 68 1) 60 (stmt 2 (tdB Try.prog)) [4, 5] [4, 5] [.fix 0] [.fix 0] (tdS own n xs h e) = (match leastN h.ixk e != 0 with
    | true => some (.ret, stOf 24 [(4, .slice none 0 0), (5, vI (leastN h.ixk e))] [.rows own true 12 n (opRow xs)])
    | false => some (.normal, stOf 24 [(4, .slice none 0 0), (5, vI 0)] [.rows own true 12 n (opRow xs)])) := by kernel_rfl
theorem tdHe : hasStmt 2 (tdB Try.prog) = true := by kernel_rfl
theorem tdQe (own : Bool) (xs : List O3) (e : Int) : (retA Try.prog Try.f68 (.ret, stOf 24 [(4, .slice none 0 0), (5, vI e)] [.rows own true 12 xs.length (opRow xs)])).res = some (nilE e, [.rows own true 12 xs.length (opRow xs)]) := by kernel_rfl
theorem tdP3 (own : Bool) (n : Nat) (xs : List O3) (h : V3) : segR ((Cbg Try.prog).into 68 1) 60 3 (tdB Try.prog) [3, 4, 5, 6] [.fix 0, .slot 3, .slot 6] (enter Try.f68 [.slice (some ⟨0, 0, some 0⟩) n 12, h.v] [.rows own true 12 n (opRow xs)]) = gd (lk n) (gd (oT n (opRow xs)) (gn (chkI (opsOf n (opRow xs)) != 0) (gn (leastN h.ixk 0 != 0) (some (tdG own n xs h (rotsT (opsOf n (opRow xs)))))))) := by kernel_rfl
theorem tdEnd (own : Bool) (n : Nat) (xs : List O3) (h : V3) (ms : List M3) : roundR ((Cav Try.prog).into 68 1) 60 (seqDrop 3 (tdB Try.prog)) [4, 5] [4, 5] [.fix 0, .slot 4] [.fix 0, .slot 4] (tdG own n xs h ms) = gd (rwT ms.length (mtRow ms)) (some (.ret, stOf 24 [(4, .slice (some ⟨1, 0, some 0⟩) ms.length 3), (5, vI 0)] [.rows own true 12 n (opRow xs), .rows true true 3 ms.length (vcRow ((mtsOf ms.length (mtRow ms)).map (rowI h)))])) := by kernel_rfl
theorem tdQ (own : Bool) (xs : List O3) (k : Nat) (r : Nat → List Value) : (retA Try.prog Try.f68 (.ret, stOf 24 [(4, .slice (some ⟨1, 0, some 0⟩) k 3), (5, vI 0)] [.rows own true 12 xs.length (opRow xs), .rows true true 3 k r])).res = some (.tuple #[.slice (some ⟨1, 0, some 0⟩) k 3, vI 0], [.rows own true 12 xs.length (opRow xs), .rows true true 3 k r]) := by kernel_rfl
/-- The indices into which the matrices of a group turn one. -/
def trn (X : List O3) (h : V3) : List V3 := (rotsT X).map (rowI h)
theorem rots_le {X : List O3} (h : chkI X = 0) : (rotsT X).length ≤ 192 := by
  have h1 := rots_cens (chk_grp h).2.1 (chk_grp h).1
  have h2 := (chk_grp h).2.2
  have h3 : 0 < (cens X).length := by
    rcases Nat.eq_zero_or_pos (cens X).length with e | e
    · rw [e, Nat.mul_zero] at h1
      have hx : X = [] := List.eq_nil_of_length_eq_zero h1.symm
      subst hx
      have h5 : chkI ([] : List O3) = 5 := by kernel_rfl
      rw [h5] at h
      exact absurd h (by decide)
    · exact e
  have := Nat.le_mul_of_pos_right (rotsT X).length h3
  omega
theorem tdE (own : Bool) (X : List O3) (h : V3) (hc : acI X h ≠ 0) : MemSem Try.prog 68 [.slice (some ⟨0, 0, some 0⟩) X.length 12, h.v] [.rows own true 12 X.length (opRow X)] (nilE (acI X h)) [.rows own true 12 X.length (opRow X)] := by
  have r2 := tdRe own X.length X h (chkI X)
  rw [show (leastN h.ixk (chkI X) != 0) = true by unfold acI at hc; simpa using hc] at r2
  by_cases h0 : chkI X = 0
  · have r1 := tdPg own X.length X h
    rw [lk_true, gd_true, oT_ok, gd_true, opsOf_opRow, h0] at r1
    rw [h0] at r2
    have body0 : InBody ((Cbg Try.prog).into 68 1) (tdB Try.prog) := Or.inl ⟨Try.f68, tdB Try.prog, Try.func68, tdB_eq, fun _ hx => hx⟩
    have := body_mem (P := Try.prog) (f := 68) (m := [.rows own true 12 X.length (opRow X)]) Try.func68 tdB_eq (by kernel_rfl) (seg_rule (C := Cbg Try.prog) okbg (f := 68) (B := 1) (k := 2) body0 r1 (stmt_out tdHe (end_rule (C := Cav Try.prog) okav (f := 68) (B := 1) (stmt_in Try.func68 tdB_eq) r2) (by simp))) (tdQe own X _)
    rw [← h0] at this
    exact this
  · have r1 := tdPe own X.length X h
    rw [lk_true, gd_true, oT_ok, gd_true, opsOf_opRow, show (chkI X != 0) = true by simpa using h0, gd_true] at r1
    have body0 : InBody ((Cbe Try.prog).into 68 1) (tdB Try.prog) := Or.inl ⟨Try.f68, tdB Try.prog, Try.func68, tdB_eq, fun _ hx => hx⟩
    exact body_mem (P := Try.prog) (f := 68) (m := [.rows own true 12 X.length (opRow X)]) Try.func68 tdB_eq (by kernel_rfl) (seg_rule (C := Cbe Try.prog) okbe (f := 68) (B := 1) (k := 2) body0 r1 (stmt_out tdHe (end_rule (C := Cav Try.prog) okav (f := 68) (B := 1) (stmt_in Try.func68 tdB_eq) r2) (by simp))) (tdQe own X _)
theorem tdM (own : Bool) (X : List O3) (h : V3) (hc : acI X h = 0) : MemSem Try.prog 68 [.slice (some ⟨0, 0, some 0⟩) X.length 12, h.v] [.rows own true 12 X.length (opRow X)] (.tuple #[.slice (some ⟨1, 0, some 0⟩) (trn X h).length 3, vI 0]) [.rows own true 12 X.length (opRow X), .rows true true 3 (trn X h).length (vcRow (trn X h))] := by
  obtain ⟨e1, e2⟩ := leastN_zero.1 hc
  have r1 := tdP3 own X.length X h
  rw [lk_true, gd_true, oT_ok, gd_true, opsOf_opRow, e1, e2] at r1
  have r2 := tdEnd own X.length X h (rotsT X)
  rw [show rwT (rotsT X).length (mtRow (rotsT X)) = true by unfold rwT; rw [Nat.beq_refl, okMts_mtRow]; have := rots_le e2; simp; omega, gd_true, mtsOf_mtRow] at r2
  have body0 : InBody ((Cbg Try.prog).into 68 1) (tdB Try.prog) := Or.inl ⟨Try.f68, tdB Try.prog, Try.func68, tdB_eq, fun _ hx => hx⟩
  have := body_mem (P := Try.prog) (f := 68) (m := [.rows own true 12 X.length (opRow X)]) Try.func68 tdB_eq (by kernel_rfl) (seg_rule (C := Cbg Try.prog) okbg (f := 68) (B := 1) (k := 3) body0 r1 (end_rule (C := Cav Try.prog) okav (f := 68) (B := 1) (bodyOf_in Try.func68 tdB_eq) r2)) (tdQ own X _ _)
  rw [show (rotsT X).length = (trn X h).length by simp [trn]] at this
  exact this
def tdF : List Value → Mem → Option (Ans (Value × Mem))
  | [.slice (some ⟨0, 0, some 0⟩) N 12, .agg co], [.rows own true 12 N2 row] => match vecCells co.toList with
    | some h => some (.br (Nat.beq N N2 && okOps N row) (.br (acI (opsOf N row) h != 0) (.out (nilE (acI (opsOf N row) h), [.rows own true 12 N (opRow (opsOf N row))])) (.out (.tuple #[.slice (some ⟨1, 0, some 0⟩) (trn (opsOf N row) h).length 3, vI 0], [.rows own true 12 N (opRow (opsOf N row)), .rows true true 3 (trn (opsOf N row) h).length (vcRow (trn (opsOf N row) h))]))) .fail)
    | none => none
  | _, _ => none
theorem tdF_ok {args : List Value} {m : Mem} {ans : Ans (Value × Mem)} {v : Value} {m' : Mem} (h : tdF args m = some ans) (hr : ans.res = some (v, m')) : MemSem Try.prog 68 args m v m' := by
  unfold tdF at h
  split at h
  rotate_left
  · cases h
  rename_i N co own N2 row
  split at h
  rotate_left
  · cases h
  rename_i p hp
  simp only [Option.some.injEq] at h
  subst h
  rcases Ans.br_some hr with ⟨hc, hr1⟩ | ⟨_, hr1⟩
  rotate_left
  · simp [Ans.res] at hr1
  rw [Bool.and_eq_true] at hc
  obtain ⟨c1, c2⟩ := hc
  have c1 := beq_len c1
  subst c1
  have e1 : co = p.cells.toArray := by rw [← vecCells_spec hp]
  subst e1
  have hl := opsOf_length N row
  rcases Ans.br_some hr1 with ⟨hq, hr2⟩ | ⟨hq, hr2⟩
  · simp only [Ans.res, Option.some.injEq, Prod.mk.injEq] at hr2
    obtain ⟨rfl, rfl⟩ := hr2
    have := tdE own (opsOf N row) p (by simpa using hq)
    rw [hl] at this
    exact this.like ⟨.rows (ops_like c2), trivial⟩
  · simp only [Ans.res, Option.some.injEq, Prod.mk.injEq] at hr2
    obtain ⟨rfl, rfl⟩ := hr2
    have := tdM own (opsOf N row) p (by simpa using hq)
    rw [hl] at this
    exact this.like ⟨.rows (ops_like c2), trivial⟩
/-! The sort, Compact -/
def srF : List Value → Mem → Option (Ans (Value × Mem))
  | [.slice (some ⟨0, 0, some 0⟩) N 3, .func (.func 109) f c], [.rows true true 3 N2 row] => match f.toList, c.toList with
    | [], [] => some (.br (Nat.beq N N2 && (okVcs N row && Nat.ble N 1000)) (.out (.tuple #[], [.rows true true 3 N (vcRow (sortK V3.key (vcsOf N row)))])) .fail)
    | _, _ => none
  | _, _ => none
theorem srF_ok {args : List Value} {m : Mem} {ans : Ans (Value × Mem)} {v : Value} {m' : Mem} (h : srF args m = some ans) (hr : ans.res = some (v, m')) : MemSem Try.prog 108 args m v m' := by
  unfold srF at h
  split at h
  rotate_left
  · cases h
  rename_i N f c N2 row
  split at h
  rotate_left
  · cases h
  rename_i hf hcl
  simp only [Option.some.injEq] at h
  subst h
  rcases Ans.br_some hr with ⟨hc, hr1⟩ | ⟨_, hr1⟩
  rotate_left
  · simp [Ans.res] at hr1
  simp only [Bool.and_eq_true] at hc
  obtain ⟨c1, c2, c5⟩ := hc
  have c1 := beq_len c1
  subst c1
  simp only [Ans.res, Option.some.injEq, Prod.mk.injEq] at hr1
  obtain ⟨rfl, rfl⟩ := hr1
  have hl := vcsOf_length N row
  have e1 : f = #[] := by apply Array.ext'; simpa using hf
  have e2 : c = #[] := by apply Array.ext'; simpa using hcl
  subst e1 e2
  have := sortSemV0 (vcsOf N row) (by rw [hl]; exact Nat.le_of_ble_eq_true c5)
  rw [hl] at this
  exact this.like ⟨.rows (vcs_like c2), trivial⟩
def cmF : List Value → Mem → Option (Ans (Value × Mem))
  | [.slice (some ⟨0, 0, some 0⟩) N 3], [.rows true true 3 N2 row] => some (.br (Nat.beq N N2 && (okVcs N row && Nat.ble N 1000)) (.out (.slice (some ⟨0, 0, some 0⟩) (cpct (vcsOf N row)).length 3, [.rows true true 3 N (vcRow (cpAll (vcsOf N row)))])) .fail)
  | _, _ => none
theorem cmF_ok {args : List Value} {m : Mem} {ans : Ans (Value × Mem)} {v : Value} {m' : Mem} (h : cmF args m = some ans) (hr : ans.res = some (v, m')) : MemSem Try.prog 110 args m v m' := by
  unfold cmF at h
  split at h
  rotate_left
  · cases h
  rename_i N N2 row
  simp only [Option.some.injEq] at h
  subst h
  rcases Ans.br_some hr with ⟨hc, hr1⟩ | ⟨_, hr1⟩
  rotate_left
  · simp [Ans.res] at hr1
  simp only [Bool.and_eq_true] at hc
  obtain ⟨c1, c2, c3⟩ := hc
  have c1 := beq_len c1
  subst c1
  simp only [Ans.res, Option.some.injEq, Prod.mk.injEq] at hr1
  obtain ⟨rfl, rfl⟩ := hr1
  have hl := vcsOf_length N row
  have := cpS (vcsOf N row) (by rw [hl]; exact Nat.le_of_ble_eq_true c3)
  rw [hl] at this
  exact this.like ⟨.rows (vcs_like c2), trivial⟩
/-! Of -/
def Cof (P : Program) : Cx := ((((Cav P).addF 68 tdF).addF 108 srF).addF 110 cmF).good 68 [true, false]
theorem okof : CxOk (Cof Try.prog) := Cx.good_ok (Cx.addF_ok (Cx.addF_ok (Cx.addF_ok okav fun _ _ _ _ _ h hr => tdF_ok h hr) fun _ _ _ _ _ h hr => srF_ok h hr) fun _ _ _ _ _ h hr => cmF_ok h hr) _ _
def Coe (P : Program) : Cx := ((Cav P).addF 68 tdF).road 68 [true, true]
theorem okoe : CxOk (Coe Try.prog) := Cx.road_ok (Cx.addF_ok okav fun _ _ _ _ _ h hr => tdF_ok h hr) _ _
def svT (n : Nat) (Y : List V3) : Bool := Nat.beq n n && (okVcs n (vcRow Y) && Nat.ble n 1000)
theorem ofE1 (own : Bool) (n : Nat) (xs : List O3) (h : V3) : exT ((Cof Try.prog).at 32) 60 Try.f32 [.slice (some ⟨0, 0, some 0⟩) n 12, h.v] [.rows own true 12 n (opRow xs)] [.fix 0, .slot 0] =
    gd (lk n) (gd (oT n (opRow xs)) (gn (acI (opsOf n (opRow xs)) h != 0) (gd (svT (trn (opsOf n (opRow xs)) h).length (trn (opsOf n (opRow xs)) h)) (gd (svT (trn (opsOf n (opRow xs)) h).length (sortK V3.key (vcsOf (trn (opsOf n (opRow xs)) h).length (vcRow (trn (opsOf n (opRow xs)) h)))))
      (some (.tuple #[.slice (some ⟨1, 0, some 0⟩) (cpct (vcsOf (trn (opsOf n (opRow xs)) h).length (vcRow (sortK V3.key (vcsOf (trn (opsOf n (opRow xs)) h).length (vcRow (trn (opsOf n (opRow xs)) h))))))).length 3, vI 0], [.rows own true 12 n (opRow xs), .rows true true 3 (trn (opsOf n (opRow xs)) h).length (vcRow (cpAll (vcsOf (trn (opsOf n (opRow xs)) h).length (vcRow (sortK V3.key (vcsOf (trn (opsOf n (opRow xs)) h).length (vcRow (trn (opsOf n (opRow xs)) h))))))))])))))) := by kernel_rfl
theorem ofE2 (own : Bool) (n : Nat) (xs : List O3) (h : V3) : exT ((Coe Try.prog).at 32) 60 Try.f32 [.slice (some ⟨0, 0, some 0⟩) n 12, h.v] [.rows own true 12 n (opRow xs)] [.fix 0] =
    gd (lk n) (gd (oT n (opRow xs)) (gd (acI (opsOf n (opRow xs)) h != 0) (match acI (opsOf n (opRow xs)) h != 0 with
      | true => some (nilE (acI (opsOf n (opRow xs)) h), [.rows own true 12 n (opRow xs)])
      | false => none))) := by kernel_rfl
end Go.Proofs.Ytjpfnfckpgilgaa
