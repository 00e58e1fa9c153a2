/-
  The document's Obtuse told. Nothing here is trusted.
-/
import Derived.Test.YtofblakbfmjgkaaHTStq
namespace Go.Proofs.Ytofblakbfmjgkaa
open Go Vx Go.RowKit
def doB (P : Program) : Code := bodyOf P 41
theorem doB_eq : Try.f41.body = some (doB Try.prog) := by kernel_rfl
def doZ : List (Nat × Value) := [obPt 2 0, obPt 3 1]
def doM : Mem := [.cells true 0 (G6.cells G6.zero), .cells true 0 M3.zero.cells]
def do1 (m : G6) : St := stOf 41 [obPt 1 0, obPt 2 1, obPt 3 2] ([.cells true 0 (G6.cells m)] ++ doM)
def doH (l : List Int) (p : M3) (n : Int) : St := stOf 41 (doZ ++ [obPt 7 2, obPt 8 3, (9, vI n)]) (doM ++ [fC l, .cells true 0 p.cells])
def doX (m : G6) (p : M3) (n e : Int) : St := stOf 41 [obPt 2 0, obPt 3 1, (4, vI n), (5, vI e)] [.cells true 0 (G6.cells m), .cells true 0 p.cells]
theorem doE0 (m : G6) : segR ((CCu Try.prog).into 41 0) 60 1 (doB Try.prog) [1, 2, 3] [.slot 1, .slot 2, .slot 3] (enter Try.f41 [m.v] []) = some (do1 m) := by kernel_rfl
theorem doE1 (m : G6) : roundR ((CCu Try.prog).into 41 0) 60 (stmt 1 (doB Try.prog)) [1, 2, 3] [2, 3, 4, 5] [.slot 1, .slot 2, .slot 3] [.slot 2, .slot 3] (do1 m) = (match m.mck != 0 with
  | true => some (.ret, doX G6.zero M3.zero 0 m.mck)
  | false => some (.normal, do1 m)) := by kernel_rfl
theorem doE2 (m : G6) : segR ((CCu Try.prog).into 41 0) 60 2 (seqDrop 2 (doB Try.prog)) [2, 3, 7, 8, 9] [.slot 2, .slot 3, .slot 7, .slot 8] (do1 m) = some (doH ((laidL m).map W) M3.one 0) := by kernel_rfl
theorem doBlk : isBlk 0 (seqDrop 4 (doB Try.prog)) = true := by kernel_rfl
theorem doHas : hasStmt 1 (doB Try.prog) = true := by kernel_rfl
theorem doR (f0 f1 f2 f3 f4 f5 f6 f7 f8 f9 f10 f11 f12 f13 f14 f15 : Int) (p : M3) (n : Int) : roundR ((CCu Try.prog).into 41 0) 80 (blkBody (seqDrop 4 (doB Try.prog))) [2, 3, 7, 8, 9] [2, 3, 4, 5] [.slot 2, .slot 3, .slot 7, .slot 8] [.slot 2, .slot 3] (doH [f0, f1, f2, f3, f4, f5, f6, f7, f8, f9, f10, f11, f12, f13, f14, f15] p n) =
    gd (lidB [f0, f1, f2, f3, f4, f5, f6, f7, f8, f9, f10, f11, f12, f13, f14, f15]) (match !(decide ((gOf [f0, f1, f2, f3, f4, f5, f6, f7, f8, f9, f10, f11, f12, f13, f14, f15]).sharp.1 > 0)) with
    | true => some (.ret, doX (gOf [f0, f1, f2, f3, f4, f5, f6, f7, f8, f9, f10, f11, f12, f13, f14, f15]) p n 0)
    | false => some (.normal, doH (laidL (gOf [f0, f1, f2, f3, f4, f5, f6, f7, f8, f9, f10, f11, f12, f13, f14, f15]).next) (p.mul (gOf [f0, f1, f2, f3, f4, f5, f6, f7, f8, f9, f10, f11, f12, f13, f14, f15]).sharp.2).w (W (n + 1)))) := by kernel_rfl
theorem doRet (m : G6) (p : M3) (n e : Int) : (retA Try.prog Try.f41 (.ret, doX m p n e)).res = some (p4v m.v p.v (vI n) (vI e), [.cells true 0 (G6.cells m), .cells true 0 p.cells]) := by kernel_rfl
set_option maxRecDepth 100000 in
theorem doIn : InBody ((CCu Try.prog).into 41 0) (doB Try.prog) := bodyOf_in (C := CCu Try.prog) (f := 41) (B := 0) (k := 0) (fn := Try.f41) (b := doB Try.prog) Try.func41 doB_eq
theorem lid_laid {m : G6} (h : m.sbd = true) : lidB (laidL m) = true := by
  unfold lidB
  rw [gOf_laid, eqL_refl, h]; rfl
theorem doRm (m : G6) (h : m.sbd = true) (p : M3) (n : Int) : roundR ((CCu Try.prog).into 41 0) 80 (blkBody (seqDrop 4 (doB Try.prog))) [2, 3, 7, 8, 9] [2, 3, 4, 5] [.slot 2, .slot 3, .slot 7, .slot 8] [.slot 2, .slot 3] (doH (laidL m) p n) = (match !(decide (m.sharp.1 > 0)) with
    | true => some (.ret, doX m p n 0)
    | false => some (.normal, doH (laidL m.next) (p.mul m.sharp.2).w (W (n + 1)))) := by
  have e : roundR ((CCu Try.prog).into 41 0) 80 (blkBody (seqDrop 4 (doB Try.prog))) [2, 3, 7, 8, 9] [2, 3, 4, 5] [.slot 2, .slot 3, .slot 7, .slot 8] [.slot 2, .slot 3] (doH (laidL m) p n) = gd (lidB (laidL m)) (match !(decide ((gOf (laidL m)).sharp.1 > 0)) with
    | true => some (.ret, doX (gOf (laidL m)) p n 0)
    | false => some (.normal, doH (laidL (gOf (laidL m)).next) (p.mul (gOf (laidL m)).sharp.2).w (W (n + 1)))) := doR (m.dot e1v e1v) (m.dot e1v e2v) (m.dot e1v e3v) (m.dot e1v e4v) (m.dot e2v e1v) (m.dot e2v e2v) (m.dot e2v e3v) (m.dot e2v e4v) (m.dot e3v e1v) (m.dot e3v e2v) (m.dot e3v e3v) (m.dot e3v e4v) (m.dot e4v e1v) (m.dot e4v e2v) (m.dot e4v e3v) (m.dot e4v e4v) p n
  rw [gOf_laid, lid_laid h] at e
  exact e
theorem doBlkB {C : Cx} {c : Code} (h : InBody C c) : InBody C (blkBody c) := h.sub fun x hx => by
  unfold blkBody at hx
  split at hx
  · simp [loopsIn, hx]
  · simp [loopsIn] at hx
theorem doIn2 {C : Cx} {c : Code} (h : InBody C c) (k : Nat) : InBody C (blkBody (seqDrop k c)) := doBlkB (h.sub (seqDrop_loops k c))
theorem doL : ∀ (k : Nat) (m : G6) (p : M3) (n : Int), m.Pos → m.sq4 ≤ 1200000 → m.sq4 ≤ (k : Int) → 0 ≤ n → n + m.sq4 ≤ 1200000 → LoopSem Try.prog 0 (blkBody (seqDrop 4 (doB Try.prog))) (doH (laidL m) p.w n) .ret (doX (G6.walk m.sq4.toNat m p n).1 (G6.walk m.sq4.toNat m p n).2.1.w (G6.walk m.sq4.toNat m p n).2.2 0) := by
  intro k
  induction k with
  | zero => intro m p n hp _ hk _ _; have := G6.Pos.sq4 hp; omega
  | succ k ih =>
    intro m p n hp hs hk hn hn2
    have hr := doRm m (hp.sbd hs) p.w n
    by_cases h : m.sharp.1 > 0
    · rw [decide_eq_true h] at hr
      simp only [Bool.not_true] at hr
      have e := sq4_next m
      have h0 := G6.Pos.sq4 hp
      rw [W_in (by omega), M3.w_mulw] at hr
      rw [fin_step hp p n h]
      exact loop_next (C := CCu Try.prog) okCu (f := 41) (B := 0) (doIn2 doIn 4) hr (StLike.refl _) (ih m.next (p.mul m.sharp.2) (n + 1) hp.next (by omega) (by omega) (by omega) (by omega))
    · rw [decide_eq_false h] at hr
      simp only [Bool.not_false] at hr
      rw [walk_stop h]
      exact loop_leave (C := CCu Try.prog) okCu (f := 41) (B := 0) (doIn2 doIn 4) hr (by simp)
set_option maxRecDepth 100000 in
theorem doS (m : G6) : PlainSem Try.prog 41 [m.v] (fObtuse m) := by
  have body : CodeSem Try.prog 0 (doB Try.prog) (enter Try.f41 [m.v] []) .ret (doX (obG m) (obP m) (obN m) m.mck) := by
    refine seg_rule (C := CCu Try.prog) okCu (f := 41) (B := 0) (k := 1) doIn (doE0 m) ?_
    have e1 := doE1 m
    have hs1 : InBody ((CCu Try.prog).into 41 0) (stmt 1 (doB Try.prog)) := stmt_in (C := CCu Try.prog) (f := 41) (B := 0) (k := 1) (fn := Try.f41) (b := doB Try.prog) Try.func41 doB_eq
    by_cases h : m.mck = 0
    · obtain ⟨hb, hp, _⟩ := G6.mck_zero h
      rw [show (m.mck != 0) = false by rw [h]; rfl] at e1
      refine stmt_rule doHas (end_rule' (C := CCu Try.prog) okCu (f := 41) (B := 0) hs1 e1) ?_
      have e2 := doE2 m
      rw [map_W (laid_small (G6.sbd_iff.1 (hp.sbd hb.sq4))) (by omega)] at e2
      refine seg_rule (C := CCu Try.prog) okCu (f := 41) (B := 0) (k := 2) (doIn.sub (seqDrop_loops 2 _)) e2 ?_
      rw [seqDrop_drop]
      have hl := doL m.sq4.toNat m M3.one 0 hp hb.sq4 (by have := G6.Pos.sq4 hp; omega) (by omega) (by have := hb.sq4; omega)
      rw [M3.one_w] at hl
      have e3 : doX (obG m) (obP m) (obN m) m.mck = doX m.fin.1 m.fin.2.1.w m.fin.2.2 0 := by unfold obG obP obN; rw [h]; rfl
      rw [e3]
      exact blk_ret doBlk hl
    · rw [show (m.mck != 0) = true from (bif_beq h).2] at e1
      have e3 : doX (obG m) (obP m) (obN m) m.mck = doX G6.zero M3.zero 0 m.mck := by unfold obG obP obN; rw [(bif_beq h).1]; rfl
      rw [e3]
      exact stmt_out doHas (end_rule' (C := CCu Try.prog) okCu (f := 41) (B := 0) hs1 e1) (by simp)
  have hm : MemSem Try.prog 41 [m.v] [] (fObtuse m) _ := body_mem (f := 41) Try.func41 doB_eq (by kernel_rfl) body (doRet _ _ _ _)
  exact hm.plain (by intro x hx; simp only [List.mem_cons, List.not_mem_nil, or_false] at hx; rcases hx with rfl; rfl) rfl
def doF : List Int → Option (Bool × Value)
  | [a, b, c, d, e, f] => some (true, fObtuse ⟨a, b, c, d, e, f⟩)
  | _ => none
def CCob (P : Program) : Cx := (CCu P).addD 41 [some 6] doF
theorem okCob : CxOk (CCob Try.prog) := Cx.addP_ok okCu fun args v _ h _ => by
  split at h
  · rename_i l hu
    obtain ⟨rfl, hl⟩ := unpack_spec _ _ _ hu
    match l, hl, h with
    | [a, b, c, d, e, f], _, h =>
      simp only [doF, Option.some.injEq, Prod.mk.injEq, true_and] at h
      subst h
      exact doS _
  · cases h
end Go.Proofs.Ytofblakbfmjgkaa
