/-
  slices.Clone of indices, hkl.withOpposites, hkl.Both, told. Nothing here is trusted.
-/
import Derived.Test.YtjpfnfckpgilgaaHTHk3
namespace Go.Proofs.Ytjpfnfckpgilgaa
open Go Vx Go.RowKit

def clnT (n : Nat) : Bool := true && (decide ((0 + n) * 24 ≤ 2 ^ 47) && decide (0 + n ≤ 2 ^ 62))
theorem clnE (n : Nat) (Y : List V3) : exT ((Cow Try.prog).at 111) 40 Try.f111 [.slice (some ⟨0, 0, some 0⟩) n 3] [.rows true true 3 n (vcRow Y)] [.fix 0, .slot 0] = (match Nat.beq n 0 with
    | true => some (.slice (some ⟨1, 0, some 0⟩) 0 3, [.rows true true 3 n (vcRow Y), .rows true true 3 0 (chop 3 0 [])])
    | false => gd (clnT n) (some (.slice (some ⟨1, 0, some 0⟩) (0 + n) 3, [.rows true true 3 n (vcRow Y), .rows true true 3 (0 + n) (catR 0 (chop 3 0 []) (vcRow Y))]))) := by kernel_rfl
theorem clnS (Y : List V3) (h0 : Y ≠ []) (hn : Y.length ≤ 1000) : MemSem Try.prog 111 [.slice (some ⟨0, 0, some 0⟩) Y.length 3] [.rows true true 3 Y.length (vcRow Y)] (.slice (some ⟨1, 0, some 0⟩) Y.length 3) [.rows true true 3 Y.length (vcRow Y), .rows true true 3 Y.length (vcRow Y)] := by
  have r := clnE Y.length Y
  have hb : Nat.beq Y.length 0 = false := by
    cases Y with
    | nil => exact absurd rfl h0
    | cons x l => rfl
  rw [hb, show clnT Y.length = true by unfold clnT; simp; omega] at r
  simp only [gd_true, Nat.zero_add] at r
  refine (exT_ok okow Try.func111 (by kernel_rfl) r).likes ⟨.refl _, .rows (fun i _ => ?_), trivial⟩
  unfold catR
  rw [blt_ff (Nat.not_lt_zero i)]
  rfl
def clnF : List Value → Mem → Option (Ans (Value × Mem))
  | [.slice (some ⟨0, 0, some 0⟩) N 3], [.rows true true 3 N2 row] => some (.br (Nat.beq N N2 && (okVcs N row && (Nat.blt 0 N && Nat.ble N 1000))) (.out (.slice (some ⟨1, 0, some 0⟩) N 3, [.rows true true 3 N (vcRow (vcsOf N row)), .rows true true 3 N (vcRow (vcsOf N row))])) .fail)
  | _, _ => none
theorem clnF_ok {args : List Value} {m : Mem} {ans : Ans (Value × Mem)} {v : Value} {m' : Mem} (h : clnF args m = some ans) (hr : ans.res = some (v, m')) : MemSem Try.prog 111 args m v m' := by
  unfold clnF at h
  split at h
  rotate_left
  · cases h
  rename_i N N2 row
  simp only [Option.some.injEq] at h
  subst h
  rcases Ans.br_some hr with ⟨hc, hr1⟩ | ⟨_, hr1⟩
  rotate_left
  · simp [Ans.res] at hr1
  simp only [Bool.and_eq_true] at hc
  obtain ⟨c1, c2, c3, c4⟩ := hc
  have c1 := beq_len c1
  subst c1
  simp only [Ans.res, Option.some.injEq, Prod.mk.injEq] at hr1
  obtain ⟨rfl, rfl⟩ := hr1
  have hl := vcsOf_length N row
  have := clnS (vcsOf N row) (fun e => by rw [e] at hl; have := Nat.blt_eq.mp c3; simp at hl; omega) (by rw [hl]; exact Nat.le_of_ble_eq_true c4)
  rw [hl] at this
  exact this.like ⟨.rows (vcs_like c2), trivial⟩
def Ccn (P : Program) : Cx := (Cow P).addF 111 clnF
theorem okcn : CxOk (Ccn Try.prog) := Cx.addF_ok okow fun _ _ _ _ _ h hr => clnF_ok h hr
def clnT2 (n : Nat) (Y : List V3) : Bool := Nat.beq n n && (okVcs n (vcRow Y) && (Nat.blt 0 n && Nat.ble n 1000))
def rT3 (k : Nat) : Bool := Nat.beq k k && (decide ((k + 1) * 24 ≤ 2 ^ 47) && decide (k + 1 ≤ 2 ^ 62))
def woB (P : Program) : Code := bodyOf P 70
theorem woB_eq : Try.f70.body = some (woB Try.prog) := by kernel_rfl
def woE (n : Nat) (Y Z : List V3) : St := stOf 29 [(0, .slice (some ⟨0, 0, some 0⟩) n 3), (2, .slice none 0 0), (3, .slice (some ⟨1, 0, some 0⟩) n 3)] [.rows true true 3 n (vcRow Y), .rows true true 3 n (vcRow Z)]
def woH (n : Nat) (Y : List V3) (k : Nat) (r : Nat → List Value) (i : Int) : St := stOf 29 [(2, .slice none 0 0), (3, .slice (some ⟨1, 0, some 0⟩) k 3), (8, .slice (some ⟨0, 0, some 0⟩) n 3), (9, vI n), (10, vI i)] [.rows true true 3 n (vcRow Y), .rows true true 3 k r]
def woZ (n : Nat) (Y : List V3) (k : Nat) (r : Nat → List Value) : St := stOf 29 [(2, .slice none 0 0), (3, .slice (some ⟨1, 0, some 0⟩) k 3)] [.rows true true 3 n (vcRow Y), .rows true true 3 k r]
theorem woP (n : Nat) (Y : List V3) : segR ((Ccn Try.prog).into 70 1) 60 2 (woB Try.prog) [0, 2, 3] [.fix 0, .slot 3] (enter Try.f70 [.slice (some ⟨0, 0, some 0⟩) n 3] [.rows true true 3 n (vcRow Y)]) = gd (clnT2 n Y) (some (woE n (vcsOf n (vcRow Y)) (vcsOf n (vcRow Y)))) := by kernel_rfl
theorem woFor : isFor 0 (stmt 2 (woB Try.prog)) = true := by kernel_rfl
theorem woHas : hasStmt 2 (woB Try.prog) = true := by kernel_rfl
theorem woHd (n : Nat) (Y Z : List V3) : roundR ((Ccn Try.prog).into 70 1) 60 (forHead (stmt 2 (woB Try.prog))) [2, 3, 8, 9, 10] [2, 3, 8, 9, 10] [.fix 0, .slot 3] [.fix 0, .slot 3] (woE n Y Z) = some (.normal, woH n Y n (vcRow Z) 0) := by kernel_rfl
theorem woR (n : Nat) (Y : List V3) (k : Nat) (P : List V3) (i : Nat) : roundR ((Ccn Try.prog).into 70 1) 60 (forBody (stmt 2 (woB Try.prog))) [2, 3, 8, 9, 10] [2, 3] [.fix 0, .slot 3] [.fix 0, .slot 3] (woH n Y k (vcRow P) (i : Int)) =
    (match decide ((i : Int) < (n : Int)) with
    | true => gd (boundsI (i : Int) n) (gd (rT3 k) (some (.normal, woH n Y (k + 1) (catR k (vcRow P) (chop 3 0 (oppW (atV Y i)).cells)) (W ((i : Int) + 1)))))
    | false => some (.exit 0, woZ n Y k (vcRow P))) := by kernel_rfl
theorem woEnd (n : Nat) (Y : List V3) (k : Nat) (r : Nat → List Value) : roundR ((Ccn Try.prog).into 70 1) 60 (seqDrop 3 (woB Try.prog)) [2] [2] [.fix 0, .slot 2] [.fix 0, .slot 2] (woZ n Y k r) = some (.ret, stOf 29 [(2, .slice (some ⟨1, 0, some 0⟩) k 3)] [.rows true true 3 n (vcRow Y), .rows true true 3 k r]) := by kernel_rfl
theorem woRet (n : Nat) (Y : List V3) (k : Nat) (r : Nat → List Value) : (retA Try.prog Try.f70 (.ret, stOf 29 [(2, .slice (some ⟨1, 0, some 0⟩) k 3)] [.rows true true 3 n (vcRow Y), .rows true true 3 k r])).res = some (.slice (some ⟨1, 0, some 0⟩) k 3, [.rows true true 3 n (vcRow Y), .rows true true 3 k r]) := by kernel_rfl
set_option maxRecDepth 100000 in
theorem woIn : InBody ((Ccn Try.prog).into 70 1) (forHead (stmt 2 (woB Try.prog))) ∧ InBody ((Ccn Try.prog).into 70 1) (forBody (stmt 2 (woB Try.prog))) := for_in (C := Ccn Try.prog) (f := 70) (B := 1) (id := 0) (k := 2) (fn := Try.f70) (b := woB Try.prog) Try.func70 woB_eq woFor
theorem woL (n : Nat) (Y : List V3) (hY : Y.length = n) (hn : n ≤ 1000) : ∀ (c i : Nat) (P : List V3), i + c = n → P.length ≤ n + i → LoopSem Try.prog 1 (forBody (stmt 2 (woB Try.prog))) (woH n Y P.length (vcRow P) (i : Int)) (.exit 0) (woZ n Y (P ++ (Y.drop i).map oppW).length (vcRow (P ++ (Y.drop i).map oppW))) := by
  intro c
  induction c with
  | zero =>
    intro i P hi hP
    have hr := woR n Y P.length P i
    rw [show decide ((i : Int) < (n : Int)) = false by simp; omega] at hr
    rw [List.drop_eq_nil_of_le (by omega), List.map_nil, List.append_nil]
    exact loop_leave (C := Ccn Try.prog) okcn (f := 70) (B := 1) woIn.2 hr (by simp)
  | succ c ih =>
    intro i P hi hP
    have hr := woR n Y P.length P i
    rw [show decide ((i : Int) < (n : Int)) = true by simp; omega, bd_ok' (show i < n by omega), show W ((i : Int) + 1) = ((i + 1 : Nat) : Int) by rw [W_in (by omega)]; simp, show rT3 P.length = true by unfold rT3; rw [Nat.beq_refl]; simp; omega] at hr
    simp only [gd_true] at hr
    have hd : Y.drop i = atV Y i :: Y.drop (i + 1) := by rw [List.drop_eq_getElem_cons (by omega), atV_get (by omega)]
    have := ih (i + 1) (P ++ [oppW (atV Y i)]) (by omega) (by simp; omega)
    rw [List.append_assoc, show [oppW (atV Y i)] ++ (Y.drop (i + 1)).map oppW = (Y.drop i).map oppW by rw [hd]; rfl, show (P ++ [oppW (atV Y i)]).length = P.length + 1 by simp] at this
    exact loop_next (C := Ccn Try.prog) okcn (f := 70) (B := 1) (s2 := woH n Y (P.length + 1) (vcRow (P ++ [oppW (atV Y i)])) ((i + 1 : Nat) : Int)) woIn.2 hr ⟨rfl, .refl _, like_nrvcs rfl _, trivial⟩ this
/-- A list, and the opposites behind it. -/
def opps (Y : List V3) : List V3 := Y ++ Y.map oppW
theorem opps_len (Y : List V3) : (opps Y).length = Y.length + Y.length := by simp [opps]
theorem woS (Y : List V3) (h0 : Y ≠ []) (hn : Y.length ≤ 1000) : MemSem Try.prog 70 [.slice (some ⟨0, 0, some 0⟩) Y.length 3] [.rows true true 3 Y.length (vcRow Y)] (.slice (some ⟨1, 0, some 0⟩) (opps Y).length 3) [.rows true true 3 Y.length (vcRow Y), .rows true true 3 (opps Y).length (vcRow (opps Y))] := by
  have r1 := woP Y.length Y
  rw [show clnT2 Y.length Y = true by unfold clnT2; rw [Nat.beq_refl, okVcs_vcRow]; have := List.length_pos_iff.2 h0; simp [Nat.blt_eq]; omega, gd_true, vcsOf_vcRow] at r1
  have hl := woL Y.length Y rfl hn Y.length 0 Y (by omega) (by omega)
  rw [List.drop_zero] at hl
  have body0 : InBody ((Ccn Try.prog).into 70 1) (woB Try.prog) := Or.inl ⟨Try.f70, woB Try.prog, Try.func70, woB_eq, fun _ hx => hx⟩
  exact body_mem (P := Try.prog) (f := 70) (m := [.rows true true 3 Y.length (vcRow Y)]) Try.func70 woB_eq (by kernel_rfl) (seg_rule (C := Ccn Try.prog) okcn (f := 70) (B := 1) (k := 2) body0 r1 (stmt_rule woHas (for_rule woFor (end_rule (C := Ccn Try.prog) okcn (f := 70) (B := 1) woIn.1 (woHd Y.length Y Y)) hl) (end_rule (C := Ccn Try.prog) okcn (f := 70) (B := 1) (bodyOf_in Try.func70 woB_eq) (woEnd Y.length Y _ _)))) (woRet Y.length Y _ _)
def woF : List Value → Mem → Option (Ans (Value × Mem))
  | [.slice (some ⟨0, 0, some 0⟩) N 3], [.rows true true 3 N2 row] => some (.br (Nat.beq N N2 && (okVcs N row && (Nat.blt 0 N && Nat.ble N 1000))) (.out (.slice (some ⟨1, 0, some 0⟩) (opps (vcsOf N row)).length 3, [.rows true true 3 N (vcRow (vcsOf N row)), .rows true true 3 (opps (vcsOf N row)).length (vcRow (opps (vcsOf N row)))])) .fail)
  | _, _ => none
theorem woF_ok {args : List Value} {m : Mem} {ans : Ans (Value × Mem)} {v : Value} {m' : Mem} (h : woF args m = some ans) (hr : ans.res = some (v, m')) : MemSem Try.prog 70 args m v m' := by
  unfold woF at h
  split at h
  rotate_left
  · cases h
  rename_i N N2 row
  simp only [Option.some.injEq] at h
  subst h
  rcases Ans.br_some hr with ⟨hc, hr1⟩ | ⟨_, hr1⟩
  rotate_left
  · simp [Ans.res] at hr1
  simp only [Bool.and_eq_true] at hc
  obtain ⟨c1, c2, c3, c4⟩ := hc
  have c1 := beq_len c1
  subst c1
  simp only [Ans.res, Option.some.injEq, Prod.mk.injEq] at hr1
  obtain ⟨rfl, rfl⟩ := hr1
  have hl := vcsOf_length N row
  have := woS (vcsOf N row) (fun e => by rw [e] at hl; have := Nat.blt_eq.mp c3; simp at hl; omega) (by rw [hl]; exact Nat.le_of_ble_eq_true c4)
  rw [hl] at this
  exact this.like ⟨.rows (vcs_like c2), trivial⟩
/-! Both -/
def Cbo (P : Program) : Cx := ((((((Cow P).addF 68 tdF).addF 70 woF).addF 108 srF).addF 110 cmF)).good 68 [true, false]
theorem okbo : CxOk (Cbo Try.prog) := Cx.good_ok (Cx.addF_ok (Cx.addF_ok (Cx.addF_ok (Cx.addF_ok okow fun _ _ _ _ _ h hr => tdF_ok h hr) fun _ _ _ _ _ h hr => woF_ok h hr) fun _ _ _ _ _ h hr => srF_ok h hr) fun _ _ _ _ _ h hr => cmF_ok h hr) _ _
def boU (X : List O3) (h : V3) : List V3 := opps (vcsOf (trn X h).length (vcRow (trn X h)))
def boV (X : List O3) (h : V3) : List V3 := sortK V3.key (vcsOf (boU X h).length (vcRow (boU X h)))
theorem boE1 (own : Bool) (n : Nat) (xs : List O3) (h : V3) : exT ((Cbo Try.prog).at 29) 60 Try.f29 [.slice (some ⟨0, 0, some 0⟩) n 12, h.v] [.rows own true 12 n (opRow xs)] [.fix 0, .slot 0] =
    gd (lk n) (gd (oT n (opRow xs)) (gn (acI (opsOf n (opRow xs)) h != 0) (gd (clnT2 (trn (opsOf n (opRow xs)) h).length (trn (opsOf n (opRow xs)) h)) (gd (svT (boU (opsOf n (opRow xs)) h).length (boU (opsOf n (opRow xs)) h)) (gd (svT (boU (opsOf n (opRow xs)) h).length (boV (opsOf n (opRow xs)) h))
      (some (.tuple #[.slice (some ⟨1, 0, some 0⟩) (cpct (vcsOf (boU (opsOf n (opRow xs)) h).length (vcRow (boV (opsOf n (opRow xs)) h)))).length 3, vI 0], [.rows own true 12 n (opRow xs), .rows true true 3 (boU (opsOf n (opRow xs)) h).length (vcRow (cpAll (vcsOf (boU (opsOf n (opRow xs)) h).length (vcRow (boV (opsOf n (opRow xs)) h)))))]))))))) := by kernel_rfl
def boL (X : List O3) (h : V3) : List V3 := cpct (sortK V3.key (opps (trn X h)))
def boA (X : List O3) (h : V3) : List V3 := cpAll (sortK V3.key (opps (trn X h)))
theorem boS (own : Bool) (X : List O3) (h : V3) (hc : acI X h = 0) (h0 : trn X h ≠ []) : MemSem Try.prog 29 [.slice (some ⟨0, 0, some 0⟩) X.length 12, h.v] [.rows own true 12 X.length (opRow X)] (.tuple #[.slice (some ⟨1, 0, some 0⟩) (boL X h).length 3, vI 0]) [.rows own true 12 X.length (opRow X), .rows true true 3 (opps (trn X h)).length (vcRow (boA X h))] := by
  have r := boE1 own X.length X h
  have hle := trn_le hc
  have hu : boU X h = opps (trn X h) := by unfold boU; rw [vcsOf_vcRow]
  have hlo := opps_len (trn X h)
  have hv : boV X h = sortK V3.key (opps (trn X h)) := by unfold boV; rw [hu, vcsOf_vcRow]
  have hl : (sortK V3.key (opps (trn X h))).length = (opps (trn X h)).length := sortK_len _ _
  have h2 : vcsOf (opps (trn X h)).length (vcRow (sortK V3.key (opps (trn X h)))) = sortK V3.key (opps (trn X h)) := by rw [← hl, vcsOf_vcRow]
  have h3 : svT (opps (trn X h)).length (sortK V3.key (opps (trn X h))) = true := by rw [← hl]; exact svT_ok (by rw [hl]; omega)
  have h4 : clnT2 (trn X h).length (trn X h) = true := by unfold clnT2; rw [Nat.beq_refl, okVcs_vcRow]; have := List.length_pos_iff.2 h0; simp [Nat.blt_eq]; omega
  rw [lk_true, gd_true, oT_ok, gd_true, opsOf_opRow, hc, h4, hu, hv, svT_ok (by omega), h3, h2] at r
  exact exT_ok okbo Try.func29 (by kernel_rfl) r
theorem trn_ne {X : List O3} {h : V3} (hc : acI X h = 0) : trn X h ≠ [] := by
  have h1 := (chk_grp (leastN_zero.1 hc).2).2.1.one
  cases X with
  | nil => cases h1
  | cons q l => unfold trn; rw [rotsT_cons]; simp
def boF : List Value → Mem → Option (Ans (Value × Mem))
  | [.slice (some ⟨0, 0, some 0⟩) N 12, .agg co], [.rows own true 12 N2 row] => match vecCells co.toList with
    | some h => some (.br (Nat.beq N N2 && okOps N row) (.br (acI (opsOf N row) h != 0) .fail (.out (.tuple #[.slice (some ⟨1, 0, some 0⟩) (boL (opsOf N row) h).length 3, vI 0], [.rows own true 12 N (opRow (opsOf N row)), .rows true true 3 (opps (trn (opsOf N row) h)).length (vcRow (boA (opsOf N row) h))]))) .fail)
    | none => none
  | _, _ => none
theorem boF_ok {args : List Value} {m : Mem} {ans : Ans (Value × Mem)} {v : Value} {m' : Mem} (h : boF args m = some ans) (hr : ans.res = some (v, m')) : MemSem Try.prog 29 args m v m' := by
  unfold boF at h
  split at h
  rotate_left
  · cases h
  rename_i N co own N2 row
  split at h
  rotate_left
  · cases h
  rename_i p hp
  simp only [Option.some.injEq] at h
  subst h
  rcases Ans.br_some hr with ⟨hc, hr1⟩ | ⟨_, hr1⟩
  rotate_left
  · simp [Ans.res] at hr1
  rw [Bool.and_eq_true] at hc
  obtain ⟨c1, c2⟩ := hc
  have c1 := beq_len c1
  subst c1
  rcases Ans.br_some hr1 with ⟨_, hr1⟩ | ⟨hq, hr1⟩
  · simp [Ans.res] at hr1
  have c3 : acI (opsOf N row) p = 0 := by simpa using hq
  have e1 : co = p.cells.toArray := by rw [← vecCells_spec hp]
  subst e1
  have hl := opsOf_length N row
  simp only [Ans.res, Option.some.injEq, Prod.mk.injEq] at hr1
  obtain ⟨rfl, rfl⟩ := hr1
  have := boS own (opsOf N row) p c3 (trn_ne c3)
  rw [hl] at this
  exact this.like ⟨.rows (ops_like c2), trivial⟩
def Cbx (P : Program) : Cx := ((Cow P).addF 29 boF).good 29 [true, false]
theorem okbx : CxOk (Cbx Try.prog) := Cx.good_ok (Cx.addF_ok okow fun _ _ _ _ _ h hr => boF_ok h hr) _ _
theorem oppW_neg {h : V3} (hh : h.Bd 512) : oppW h = ⟨-h.x, -h.y, -h.z⟩ := by
  obtain ⟨x, y, z⟩ := hh
  unfold oppW
  rw [W_in (by omega), W_in (by omega), W_in (by omega), Int.zero_sub, Int.zero_sub, Int.zero_sub]
end Go.Proofs.Ytjpfnfckpgilgaa
