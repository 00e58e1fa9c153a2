/-
  facetref14.SameList of two equal lists, told; Sort and DocSort as contracts. Nothing here is trusted.
-/
import Derived.Test.YtjpfnfckpgilgaaHTDs1
namespace Go.Proofs.Ytjpfnfckpgilgaa
open Go Vx Go.RowKit
def smxB (P : Program) : Code := bodyOf P 28
theorem smxB_eq : Try.f28.body = some (smxB Try.prog) := by kernel_rfl
def smxE (o1 o2 : Bool) (k : Nat) (P : List V3) : St := stOf 26 [(0, .slice (some ⟨0, 0, some 0⟩) k 3), (1, .slice (some ⟨1, 0, some 0⟩) k 3), (4, .bool false)] [.rows o1 true 3 k (vcRow P), .rows o2 true 3 k (vcRow P)]
def smxH (o1 o2 : Bool) (k : Nat) (P : List V3) (i : Int) : St := stOf 26 [(0, .slice (some ⟨0, 0, some 0⟩) k 3), (1, .slice (some ⟨1, 0, some 0⟩) k 3), (4, .bool false), (12, vI k), (13, vI i)] [.rows o1 true 3 k (vcRow P), .rows o2 true 3 k (vcRow P)]
def smxZ (o1 o2 : Bool) (k : Nat) (P : List V3) (b : Bool) : St := stOf 26 [(4, .bool b)] [.rows o1 true 3 k (vcRow P), .rows o2 true 3 k (vcRow P)]
theorem smxP (o1 o2 : Bool) (k : Nat) (P : List V3) : segR ((Cow Try.prog).into 28 2) 60 2 (smxB Try.prog) [0, 1, 4] [.fix 0, .fix 1] (enter Try.f28 [.slice (some ⟨0, 0, some 0⟩) k 3, .slice (some ⟨1, 0, some 0⟩) k 3] [.rows o1 true 3 k (vcRow P), .rows o2 true 3 k (vcRow P)]) = gn ((k : Int) != (k : Int)) (some (smxE o1 o2 k P)) := by kernel_rfl
theorem smxFor : isFor 0 (stmt 2 (smxB Try.prog)) = true := by kernel_rfl
theorem smxHas : hasStmt 2 (smxB Try.prog) = true := by kernel_rfl
theorem smxHd (o1 o2 : Bool) (k : Nat) (P : List V3) : roundR ((Cow Try.prog).into 28 2) 60 (forHead (stmt 2 (smxB Try.prog))) [0, 1, 4, 12, 13] [0, 1, 4, 12, 13] [.fix 0, .fix 1] [.fix 0, .fix 1] (smxE o1 o2 k P) = some (.normal, smxH o1 o2 k P 0) := by kernel_rfl
theorem smxR (o1 o2 : Bool) (k : Nat) (P : List V3) (i : Nat) : roundR ((Cow Try.prog).into 28 2) 60 (forBody (stmt 2 (smxB Try.prog))) [0, 1, 4, 12, 13] [4] [.fix 0, .fix 1] [.fix 0, .fix 1] (smxH o1 o2 k P (i : Int)) =
    (match decide ((i : Int) < (k : Int)) with
    | true => gd (boundsI (i : Int) k) (gd (boundsI (i : Int) k) (match !((atV P i).eqB (atV P i)) with
      | true => some (.ret, smxZ o1 o2 k P false)
      | false => some (.normal, smxH o1 o2 k P (W ((i : Int) + 1)))))
    | false => some (.exit 0, smxZ o1 o2 k P false)) := by kernel_rfl
theorem smxD (o1 o2 : Bool) (k : Nat) (P : List V3) : roundR ((Cow Try.prog).into 28 2) 60 (seqDrop 3 (smxB Try.prog)) [4] [4] [.fix 0, .fix 1] [.fix 0, .fix 1] (smxZ o1 o2 k P false) = some (.ret, smxZ o1 o2 k P true) := by kernel_rfl
theorem smxQ (o1 o2 : Bool) (k : Nat) (P : List V3) : (retA Try.prog Try.f28 (.ret, smxZ o1 o2 k P true)).res = some (.bool true, [.rows o1 true 3 k (vcRow P), .rows o2 true 3 k (vcRow P)]) := by kernel_rfl
set_option maxRecDepth 100000 in
theorem smxIn : InBody ((Cow Try.prog).into 28 2) (forHead (stmt 2 (smxB Try.prog))) ∧ InBody ((Cow Try.prog).into 28 2) (forBody (stmt 2 (smxB Try.prog))) := for_in (C := Cow Try.prog) (f := 28) (B := 2) (id := 0) (k := 2) (fn := Try.f28) (b := smxB Try.prog) Try.func28 smxB_eq smxFor
theorem smxL (o1 o2 : Bool) (P : List V3) (hk : P.length ≤ 4096) : ∀ (c i : Nat), i + c = P.length → LoopSem Try.prog 2 (forBody (stmt 2 (smxB Try.prog))) (smxH o1 o2 P.length P (i : Int)) (.exit 0) (smxZ o1 o2 P.length P false) := by
  intro c
  induction c with
  | zero =>
    intro i hi
    have hr := smxR o1 o2 P.length P i
    rw [show decide ((i : Int) < (P.length : Int)) = false by simp; omega] at hr
    exact loop_leave (C := Cow Try.prog) okow (f := 28) (B := 2) smxIn.2 hr (by simp)
  | succ c ih =>
    intro i hi
    have hr := smxR o1 o2 P.length P i
    rw [show decide ((i : Int) < (P.length : Int)) = true by simp; omega, bd_ok' (show i < P.length by omega), V3.eqB_refl, show W ((i : Int) + 1) = ((i + 1 : Nat) : Int) by rw [W_in (by omega)]; simp] at hr
    exact loop_next (C := Cow Try.prog) okow (f := 28) (B := 2) smxIn.2 hr (StLike.refl _) (ih (i + 1) (by omega))
theorem smxS (o1 o2 : Bool) (P : List V3) (hk : P.length ≤ 4096) : MemSem Try.prog 28 [.slice (some ⟨0, 0, some 0⟩) P.length 3, .slice (some ⟨1, 0, some 0⟩) P.length 3] [.rows o1 true 3 P.length (vcRow P), .rows o2 true 3 P.length (vcRow P)] (.bool true) [.rows o1 true 3 P.length (vcRow P), .rows o2 true 3 P.length (vcRow P)] := by
  have r1 := smxP o1 o2 P.length P
  rw [show ((P.length : Int) != (P.length : Int)) = false by simp] at r1
  have body0 : InBody ((Cow Try.prog).into 28 2) (smxB Try.prog) := Or.inl ⟨Try.f28, smxB Try.prog, Try.func28, smxB_eq, fun _ hx => hx⟩
  exact body_mem (P := Try.prog) (f := 28) (m := [.rows o1 true 3 P.length (vcRow P), .rows o2 true 3 P.length (vcRow P)]) Try.func28 smxB_eq (by kernel_rfl) (seg_rule (C := Cow Try.prog) okow (f := 28) (B := 2) (k := 2) body0 r1 (stmt_rule smxHas (for_rule smxFor (end_rule (C := Cow Try.prog) okow (f := 28) (B := 2) smxIn.1 (smxHd o1 o2 P.length P)) (smxL o1 o2 P hk P.length 0 (by omega))) (end_rule (C := Cow Try.prog) okow (f := 28) (B := 2) (bodyOf_in Try.func28 smxB_eq) (smxD o1 o2 P.length P)))) (smxQ o1 o2 P.length P)
theorem smxE0 : exT ((Cow Try.prog).at 28) 60 Try.f28 [.slice none 0 0, .slice none 0 0] [] [] = some (.bool true, []) := by kernel_rfl
def sameL (A B : List V3) : Bool := (A.length == B.length) && (A.zip B).all fun p => p.1.eqB p.2
theorem sameL_refl (A : List V3) : sameL A A = true := by
  unfold sameL
  rw [beq_self_eq_true, Bool.true_and, List.all_eq_true]
  rintro ⟨x, y⟩ h
  obtain ⟨i, hi, he⟩ := List.getElem_of_mem h
  simp only [List.getElem_zip, Prod.mk.injEq] at he
  obtain ⟨rfl, rfl⟩ := he
  exact V3.eqB_refl _
theorem sameL_eq {A B : List V3} (h : sameL A B = true) : A = B := by
  unfold sameL at h
  rw [Bool.and_eq_true, beq_iff_eq, List.all_eq_true] at h
  obtain ⟨h1, h2⟩ := h
  apply List.ext_getElem h1
  intro i ha hb
  have := h2 (A[i], B[i]) (by
    have hz : i < (A.zip B).length := by rw [List.length_zip]; omega
    have e : (A.zip B)[i] = (A[i], B[i]) := List.getElem_zip
    rw [← e]
    exact List.getElem_mem hz)
  exact V3.eqB_iff.1 this
def smxF : List Value → Mem → Option (Ans (Value × Mem))
  | [.slice none 0 0, .slice none 0 0], [] => some (.out (.bool true, []))
  | [.slice (some ⟨0, 0, some 0⟩) N 3, .slice (some ⟨1, 0, some 0⟩) N' 3], [.rows o1 true 3 N2 r1, .rows o2 true 3 N3 r2] => some (.br ((Nat.beq N N2 && (Nat.beq N N' && Nat.beq N N3)) && ((okVcs N r1 && okVcs N r2) && (Nat.ble N 4096 && sameL (vcsOf N r2) (vcsOf N r1)))) (.out (.bool true, [.rows o1 true 3 N (vcRow (vcsOf N r1)), .rows o2 true 3 N (vcRow (vcsOf N r1))])) .fail)
  | _, _ => none
theorem smxF_ok : ∀ args m ans v m', smxF args m = some ans → ans.res = some (v, m') → MemSem Try.prog 28 args m v m' := by
  intro args m ans v m' h hr
  unfold smxF at h
  split at h
  · simp only [Option.some.injEq] at h
    subst h
    simp only [Ans.res, Option.some.injEq, Prod.mk.injEq] at hr
    obtain ⟨rfl, rfl⟩ := hr
    exact exT_ok okow Try.func28 (by kernel_rfl) smxE0
  · rename_i N N' o1 N2 r1 o2 N3 r2
    simp only [Option.some.injEq] at h
    subst h
    rcases Ans.br_some hr with ⟨hc, hr1⟩ | ⟨_, hr1⟩
    rotate_left
    · simp [Ans.res] at hr1
    clear hr
    simp only [Bool.and_eq_true] at hc
    obtain ⟨⟨c1, c2, c3⟩, ⟨c4, c5⟩, c6, c7⟩ := hc
    have c1 := beq_len c1
    have c2 := beq_len c2
    have c3 := beq_len c3
    subst c1 c2 c3
    simp only [Ans.res, Option.some.injEq, Prod.mk.injEq] at hr1
    obtain ⟨rfl, rfl⟩ := hr1
    have c7 := sameL_eq c7
    have hl := vcsOf_length N r1
    have := smxS o1 o2 (vcsOf N r1) (by rw [hl]; exact Nat.le_of_ble_eq_true c6)
    rw [hl] at this
    exact this.like ⟨.rows (vcs_like c4), .rows (c7 ▸ vcs_like c5), trivial⟩
  · cases h
end Go.Proofs.Ytjpfnfckpgilgaa
