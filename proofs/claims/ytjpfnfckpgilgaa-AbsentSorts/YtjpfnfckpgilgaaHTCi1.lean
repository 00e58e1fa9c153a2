/-
  plain.CheckIndices, told for every length. Nothing here is trusted.
-/
import Derived.Test.YtjpfnfckpgilgaaHTBo1
namespace Go.Proofs.Ytjpfnfckpgilgaa
open Go Vx Go.RowKit
theorem scan_loop2 {C : Cx} (hC : CxOk C) {f B m : Nat} {x : Code} {mask mout : List Nat} {sp so : List From} (hin : InBody (C.into f B) x) {n : Nat} (hn : (n : Int) ≤ 9223372036854775807) (H : Int → St) (t : Nat → Bool) (sx : Nat → St) (id : Nat) (s0 : St)
    (hr : ∀ i : Nat, i ≤ n → roundR (C.into f B) m x mask mout sp so (H (i : Int)) = (match decide ((i : Int) < (n : Int)) with
      | true => gd (boundsI (i : Int) n) (match t i with
        | true => some (.ret, sx i)
        | false => some (.normal, H (W ((i : Int) + 1))))
      | false => some (.exit id, s0))) :
    (∀ k, fst? t n 0 = some k → LoopSem C.P B x (H 0) .ret (sx k)) ∧ (fst? t n 0 = none → LoopSem C.P B x (H 0) (.exit id) s0) := by
  have key : ∀ (c i : Nat), i + c = n → (∀ k, fst? t c i = some k → LoopSem C.P B x (H (i : Int)) .ret (sx k)) ∧ (fst? t c i = none → LoopSem C.P B x (H (i : Int)) (.exit id) s0) := by
    intro c
    induction c with
    | zero =>
      intro i hi
      have h := hr i (by omega)
      rw [show decide ((i : Int) < (n : Int)) = false by simp; omega] at h
      exact ⟨fun k hk => (by simp [fst?] at hk), fun _ => loop_leave hC hin h (by simp)⟩
    | succ c ih =>
      intro i hi
      have h := hr i (by omega)
      rw [show decide ((i : Int) < (n : Int)) = true by simp; omega, bd_ok' (show i < n by omega)] at h
      simp only [gd_true] at h
      simp only [fst?]
      cases ht : t i with
      | true =>
        rw [ht] at h
        refine ⟨fun k hk => ?_, fun hk => by cases hk⟩
        simp only [Option.some.injEq] at hk
        subst hk
        exact loop_leave hC hin h (by simp)
      | false =>
        rw [ht] at h
        rw [show W ((i : Int) + 1) = ((i + 1 : Nat) : Int) by rw [W_id (by omega) (by omega)]; simp] at h
        have := ih (i + 1) (by omega)
        exact ⟨fun k hk => loop_next hC hin h (StLike.refl _) (this.1 k hk), fun hk => loop_next hC hin h (StLike.refl _) (this.2 hk)⟩
  exact key n 0 (by omega)

def kxB (P : Program) : Code := bodyOf P 65
theorem kxB_eq : Try.f65.body = some (kxB Try.prog) := by kernel_rfl
def kxE (own : Bool) (n : Nat) (Y : List V3) (e : Int) : St := stOf 21 [(0, .slice (some ⟨0, 0, some 0⟩) n 3), (2, vI e)] [.rows own true 3 n (vcRow Y)]
def kxH (own : Bool) (n : Nat) (Y : List V3) (i : Int) : St := stOf 21 [(0, .slice (some ⟨0, 0, some 0⟩) n 3), (2, vI 0), (6, .slice (some ⟨0, 0, some 0⟩) n 3), (7, vI n), (8, vI i)] [.rows own true 3 n (vcRow Y)]
def kxO (own : Bool) (n : Nat) (Y : List V3) (e : Int) : St := stOf 21 [(2, vI e)] [.rows own true 3 n (vcRow Y)]
theorem kxP (own : Bool) (n : Nat) (Y : List V3) : segR ((Cow Try.prog).into 65 1) 60 1 (kxB Try.prog) [0, 2] [.fix 0] (enter Try.f65 [.slice (some ⟨0, 0, some 0⟩) n 3] [.rows own true 3 n (vcRow Y)]) = some (kxE own n Y 0) := by kernel_rfl
theorem kxFor : isFor 0 (stmt 1 (kxB Try.prog)) = true := by kernel_rfl
theorem kxHas : hasStmt 1 (kxB Try.prog) = true := by kernel_rfl
theorem kxHd (own : Bool) (n : Nat) (Y : List V3) : roundR ((Cow Try.prog).into 65 1) 60 (forHead (stmt 1 (kxB Try.prog))) [0, 2, 6, 7, 8] [0, 2, 6, 7, 8] [.fix 0] [.fix 0] (kxE own n Y 0) = some (.normal, kxH own n Y 0) := by kernel_rfl
theorem kxR (own : Bool) (n : Nat) (Y : List V3) (i : Nat) : roundR ((Cow Try.prog).into 65 1) 60 (forBody (stmt 1 (kxB Try.prog))) [0, 2, 6, 7, 8] [0, 2] [.fix 0] [.fix 0] (kxH own n Y (i : Int)) =
    (match decide ((i : Int) < (n : Int)) with
    | true => gd (boundsI (i : Int) n) (match (atV Y i).ixk != 0 with
      | true => some (.ret, kxE own n Y (atV Y i).ixk)
      | false => some (.normal, kxH own n Y (W ((i : Int) + 1))))
    | false => some (.exit 0, kxE own n Y 0)) := by kernel_rfl
theorem kxEnd (own : Bool) (n : Nat) (Y : List V3) : roundR ((Cow Try.prog).into 65 1) 60 (seqDrop 2 (kxB Try.prog)) [2] [2] [.fix 0] [.fix 0] (kxE own n Y 0) = (match decide ((n : Int) > 4096) with
    | true => some (.ret, kxO own n Y 2)
    | false => some (.ret, kxO own n Y 0)) := by kernel_rfl
theorem kxQ (own : Bool) (n : Nat) (Y : List V3) (e : Int) : (retA Try.prog Try.f65 (.ret, kxE own n Y e)).res = some (vI e, [.rows own true 3 n (vcRow Y)]) := by kernel_rfl
theorem kxQo (own : Bool) (n : Nat) (Y : List V3) (e : Int) : (retA Try.prog Try.f65 (.ret, kxO own n Y e)).res = some (vI e, [.rows own true 3 n (vcRow Y)]) := by kernel_rfl
set_option maxRecDepth 100000 in
theorem kxIn : InBody ((Cow Try.prog).into 65 1) (forHead (stmt 1 (kxB Try.prog))) ∧ InBody ((Cow Try.prog).into 65 1) (forBody (stmt 1 (kxB Try.prog))) := for_in (C := Cow Try.prog) (f := 65) (B := 1) (id := 0) (k := 1) (fn := Try.f65) (b := kxB Try.prog) Try.func65 kxB_eq kxFor
def kxT (Y : List V3) (i : Nat) : Bool := (atV Y i).ixk != 0
def kxI (Y : List V3) : Int := match fst? (kxT Y) Y.length 0 with
  | some k => (atV Y k).ixk
  | none => match decide ((Y.length : Int) > 4096) with
    | true => 2
    | false => 0
theorem kxS (own : Bool) (Y : List V3) (hn : (Y.length : Int) ≤ 9223372036854775807) : MemSem Try.prog 65 [.slice (some ⟨0, 0, some 0⟩) Y.length 3] [.rows own true 3 Y.length (vcRow Y)] (vI (kxI Y)) [.rows own true 3 Y.length (vcRow Y)] := by
  have hl := scan_loop2 (C := Cow Try.prog) okow (f := 65) (B := 1) (m := 60) kxIn.2 hn (fun i => kxH own Y.length Y i) (kxT Y) (fun k => kxE own Y.length Y (atV Y k).ixk) 0 (kxE own Y.length Y 0) (mask := [0, 2, 6, 7, 8]) (mout := [0, 2]) (sp := [.fix 0]) (so := [.fix 0]) fun i _ => kxR own Y.length Y i
  have body0 : InBody ((Cow Try.prog).into 65 1) (kxB Try.prog) := Or.inl ⟨Try.f65, kxB Try.prog, Try.func65, kxB_eq, fun _ hx => hx⟩
  have hd := end_rule (C := Cow Try.prog) okow (f := 65) (B := 1) kxIn.1 (kxHd own Y.length Y)
  unfold kxI
  cases hf : fst? (kxT Y) Y.length 0 with
  | some k =>
    exact body_mem (P := Try.prog) (f := 65) (m := [.rows own true 3 Y.length (vcRow Y)]) Try.func65 kxB_eq (by kernel_rfl) (seg_rule (C := Cow Try.prog) okow (f := 65) (B := 1) (k := 1) body0 (kxP own Y.length Y) (stmt_out kxHas (for_ret kxFor hd (hl.1 k hf)) (by simp))) (kxQ own Y.length Y _)
  | none =>
    have he := kxEnd own Y.length Y
    have fin := fun (e : Int) (hx : roundR ((Cow Try.prog).into 65 1) 60 (seqDrop 2 (kxB Try.prog)) [2] [2] [.fix 0] [.fix 0] (kxE own Y.length Y 0) = some (.ret, kxO own Y.length Y e)) => body_mem (P := Try.prog) (f := 65) (m := [.rows own true 3 Y.length (vcRow Y)]) Try.func65 kxB_eq (by kernel_rfl) (seg_rule (C := Cow Try.prog) okow (f := 65) (B := 1) (k := 1) body0 (kxP own Y.length Y) (stmt_rule kxHas (for_rule kxFor hd (hl.2 hf)) (end_rule (C := Cow Try.prog) okow (f := 65) (B := 1) (bodyOf_in Try.func65 kxB_eq) hx))) (kxQo own Y.length Y e)
    cases hc : decide ((Y.length : Int) > 4096) with
    | true => rw [hc] at he; exact fin 2 he
    | false => rw [hc] at he; exact fin 0 he
theorem kxE0 : exT ((Cow Try.prog).at 65) 60 Try.f65 [.slice none 0 0] [] [] = some (vI 0, []) := by kernel_rfl
def kxF : List Value → Mem → Option (Ans (Value × Mem))
  | [.slice none 0 0], [] => some (.out (vI 0, []))
  | [.slice (some ⟨0, 0, some 0⟩) N 3], [.rows own true 3 N2 row] => some (.br (Nat.beq N N2 && (okVcs N row && decide ((N : Int) ≤ 9223372036854775807))) (.out (vI (kxI (vcsOf N row)), [.rows own true 3 N (vcRow (vcsOf N row))])) .fail)
  | _, _ => none
theorem kxF_ok : ∀ args m ans v m', kxF args m = some ans → ans.res = some (v, m') → MemSem Try.prog 65 args m v m' := by
  intro args m ans v m' h hr
  unfold kxF at h
  split at h
  · simp only [Option.some.injEq] at h
    subst h
    simp only [Ans.res, Option.some.injEq, Prod.mk.injEq] at hr
    obtain ⟨rfl, rfl⟩ := hr
    exact exT_ok okow Try.func65 (by kernel_rfl) kxE0
  · rename_i N own N2 row
    simp only [Option.some.injEq] at h
    subst h
    rcases Ans.br_some hr with ⟨hc, hr1⟩ | ⟨_, hr1⟩
    rotate_left
    · simp [Ans.res] at hr1
    clear hr
    simp only [Bool.and_eq_true, decide_eq_true_eq] at hc
    obtain ⟨c1, c2, c3⟩ := hc
    have c1 := beq_len c1
    subst c1
    simp only [Ans.res, Option.some.injEq, Prod.mk.injEq] at hr1
    obtain ⟨rfl, rfl⟩ := hr1
    have hl := vcsOf_length N row
    have := kxS own (vcsOf N row) (by rw [hl]; exact c3)
    rw [hl] at this
    exact this.like ⟨.rows (vcs_like c2), trivial⟩
  · cases h
/-- group.Check lent, CheckIndices. -/
def Ckx (P : Program) : Cx := (Cow P).addE 65 kxF
theorem okkx : CxOk (Ckx Try.prog) := Cx.addE_ok okow kxF_ok
end Go.Proofs.Ytjpfnfckpgilgaa
