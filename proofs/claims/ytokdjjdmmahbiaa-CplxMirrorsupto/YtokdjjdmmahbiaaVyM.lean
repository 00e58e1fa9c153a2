/-
  Loops that stand alone as a statement; functions whose contract is a call without memory. Nothing here is trusted.
-/
import Derived.Test.YtokdjjdmmahbiaaVyK
import Derived.Test.YtokdjjdmmahbiaaVyH
namespace Go.Proofs.Ytokdjjdmmahbiaa.Vx
open Go Go.RowKit
theorem loop_leave {C : Cx} (hC : CxOk C) {f B n : Nat} {x : Code} {st s : St} {e : Exit} {mask mout : List Nat} {sp so : List From} (hin : InBody (C.into f B) x) (h : roundR (C.into f B) n x mask mout sp so st = some (e, s)) (he : e ≠ .normal) : LoopSem C.P B x st e s := by
  intro Q w0 keep r0 a w hB hQ hr
  obtain ⟨⟨e1, s1⟩, h3, h4⟩ := Ans.bind_some h
  refine LoopsTo.round ((exCode_sound hC n).1 f B x hin _ _ _ h3 _ w0 keep r0 a w hB ?_ hr)
  intro a' w' hr'
  obtain ⟨rfl, hs⟩ := clean_rel h4 hB hr'
  revert he hQ hs
  cases e <;> intro he hQ hs <;> first | exact absurd rfl he | exact hQ a' w' hs
theorem loop_next {C : Cx} (hC : CxOk C) {f B n : Nat} {x : Code} {st s s2 s3 : St} {e : Exit} {mask mout : List Nat} {sp so : List From} (hin : InBody (C.into f B) x) (h : roundR (C.into f B) n x mask mout sp so st = some (.normal, s)) (hl : StLike s s2) (hn : LoopSem C.P B x s2 e s3) : LoopSem C.P B x st e s3 := by
  intro Q w0 keep r0 a w hB hQ hr
  obtain ⟨⟨e1, s1⟩, h3, h4⟩ := Ans.bind_some h
  refine LoopsTo.round ((exCode_sound hC n).1 f B x hin _ _ _ h3 _ w0 keep r0 a w hB ?_ hr)
  intro a' w' hr'
  obtain ⟨he, hs⟩ := clean_rel h4 hB hr'
  subst he
  exact hn Q w0 keep r0 a' w' hB hQ (hs.like hl)
def blkBody : Code → Code
  | .block _ (.loop x) => x
  | _ => .skip
def isBlk (id : Nat) : Code → Bool
  | .block i (.loop _) => Nat.beq i id
  | _ => false
theorem blk_rule {P : Program} {B id : Nat} {c : Code} {st s' : St} (hf : isBlk id c = true) (h2 : LoopSem P B (blkBody c) st (.exit id) s') : CodeSem P B c st .normal s' := by
  unfold isBlk at hf
  split at hf
  · rename_i i y
    have := Nat.eq_of_beq_eq_true hf
    subst this
    exact CodeSem.block (CodeSem.loop h2)
  · cases hf
theorem blk_ret {P : Program} {B id : Nat} {c : Code} {st s' : St} (hf : isBlk id c = true) (h2 : LoopSem P B (blkBody c) st .ret s') : CodeSem P B c st .ret s' := by
  unfold isBlk at hf
  split at hf
  · exact CodeSem.blockR (CodeSem.loop h2)
  · cases hf
theorem blk_in {C : Cx} {f B id k : Nat} {fn : Func} {b : Code} (hf : C.P.funcs[f]? = some fn) (hb : fn.body = some b) (hs : isBlk id (stmt k b) = true) : InBody (C.into f B) (blkBody (stmt k b)) := by
  have h0 : ∀ x ∈ loopsIn (stmt k b), x ∈ loopsIn b := fun x hx => by
    refine seqDrop_loops k b x ?_
    unfold stmt at hx
    cases hc : seqDrop k b with
    | seq p q => rw [hc] at hx; simp only at hx; simp [loopsIn, hx]
    | _ => rw [hc] at hx; simp [loopsIn] at hx
  unfold isBlk at hs
  split at hs
  · rename_i i y hst
    rw [hst] at h0 ⊢
    exact Or.inl ⟨fn, b, hf, hb, fun z hz => h0 z (by simp only [blkBody] at hz; simp [loopsIn, hz])⟩
  · cases hs
theorem blk_inD {C : Cx} {f B id k : Nat} {fn : Func} {b : Code} (hf : C.P.funcs[f]? = some fn) (hb : fn.body = some b) (hs : isBlk id (seqDrop k b) = true) : InBody (C.into f B) (blkBody (seqDrop k b)) := by
  have h0 : ∀ x ∈ loopsIn (seqDrop k b), x ∈ loopsIn b := seqDrop_loops k b
  unfold isBlk at hs
  split at hs
  · rename_i i y hst
    rw [hst] at h0 ⊢
    exact Or.inl ⟨fn, b, hf, hb, fun z hz => h0 z (by simp only [blkBody] at hz; simp [loopsIn, hz])⟩
  · cases hs
/-- A statement that returns. -/
theorem stmt_out {P : Program} {B k : Nat} {c : Code} {st s : St} {e : Exit} (hk : hasStmt k c = true) (h1 : CodeSem P B (stmt k c) st e s) (he : e ≠ .normal) : CodeSem P B (seqDrop k c) st e s := by
  unfold hasStmt at hk
  unfold stmt at h1
  cases hc : seqDrop k c with
  | seq x y => rw [hc] at h1; exact h1.out he
  | _ => rw [hc] at hk; cases hk
theorem stmt_in {C : Cx} {f B k : Nat} {fn : Func} {b : Code} (hf : C.P.funcs[f]? = some fn) (hb : fn.body = some b) : InBody (C.into f B) (stmt k b) := by
  refine Or.inl ⟨fn, b, hf, hb, fun x hx => ?_⟩
  refine seqDrop_loops k b x ?_
  unfold stmt at hx
  cases hc : seqDrop k b with
  | seq p q => rw [hc] at hx; simp only at hx; simp [loopsIn, hx]
  | _ => rw [hc] at hx; simp [loopsIn] at hx
/-- A piece whose masks hang on how it ends. -/
theorem end_rule' {C : Cx} (hC : CxOk C) {f B n : Nat} {c : Code} {mask mout : List Nat} {sp so : List From} {st s : St} {e : Exit} (hin : InBody (C.into f B) c) (h : roundR (C.into f B) n c mask mout sp so st = some (e, s)) : CodeSem C.P B c st e s := by
  obtain ⟨⟨e1, s1⟩, h3, h4⟩ := Ans.bind_some h
  intro Q w0 keep r0 a w hB hQ hr
  refine (exCode_sound hC n).1 f B c hin _ _ _ h3 _ w0 keep r0 a w hB ?_ hr
  intro a' w' hr'
  obtain ⟨he, hs⟩ := clean_rel h4 hB hr'
  subst he
  exact hQ a' w' hs
/-- A function without memory, told by a proof. -/
theorem Cx.addP_ok {C : Cx} (hC : CxOk C) {f : FuncId} {F : List Value → Option (Bool × Value)} (h : ∀ args v, (∀ x ∈ args, Vx.plain x = true) → F args = some (true, v) → Vx.plain v = true → PlainSem C.P f args v) : CxOk (C.addR f F) := by
  refine ⟨hC.mixed, ?_, hC.tbm, hC.keys, hC.inl, hC.lp, hC.rd, hC.rd2, hC.ext⟩
  intro g args v hargs hv hp
  simp only [Cx.addR] at hv
  cases hg : Nat.beq g f with
  | false => simp only [hg] at hv; exact hC.tbl g args v hargs hv hp
  | true =>
    have hgf : g = f := Nat.eq_of_beq_eq_true hg
    subst hgf
    simp only [hg] at hv
    exact h args v hargs hv hp
def gn {α : Type} (b : Bool) (x : Option α) : Option α := match b with
  | true => none
  | false => x
theorem bd_ok' {i k : Nat} (h : i < k) : boundsI (i : Int) k = true := by simp [boundsI]; omega
end Go.Proofs.Ytokdjjdmmahbiaa.Vx
