/-
  Pieces with loops in them. Nothing here is trusted.
-/
import Derived.Test.YtokdjjdmmahbiaaVyI
namespace Go.Proofs.Ytokdjjdmmahbiaa.Vx
open Go Go.RowKit
theorem CodeSem.loop {P : Program} {B : Nat} {x : Code} {st s : St} {e : Exit} (h : LoopSem P B x st e s) : CodeSem P B (.loop x) st e s := fun Q w0 keep r0 a w hB hQ hr => (h Q w0 keep r0 a w hB hQ hr).wp
theorem CodeSem.block {P : Program} {B id : Nat} {x : Code} {st s : St} (h : CodeSem P B x st (.exit id) s) : CodeSem P B (.block id x) st .normal s := fun Q w0 keep r0 a w hB hQ hr =>
  wp_block (h _ w0 keep r0 a w hB (fun a' w' hr' => by
    simp only [Exit.inBlock]
    rw [if_pos trivial]
    exact hQ a' w' hr') hr)
/-- The k-th statement. -/
def stmt (k : Nat) (c : Code) : Code := match seqDrop k c with
  | .seq x _ => x
  | _ => .skip
def hasStmt (k : Nat) (c : Code) : Bool := match seqDrop k c with
  | .seq _ _ => true
  | _ => false
theorem stmt_rule {P : Program} {B k : Nat} {c : Code} {st s s' : St} {e : Exit} (hk : hasStmt k c = true) (h1 : CodeSem P B (stmt k c) st .normal s) (h2 : CodeSem P B (seqDrop (k + 1) c) s e s') : CodeSem P B (seqDrop k c) st e s' := by
  unfold hasStmt at hk
  unfold stmt at h1
  have e2 := seqDrop_drop k 1 c
  cases hc : seqDrop k c with
  | seq x y =>
    rw [hc] at h1 e2
    simp only [seqDrop] at e2
    rw [← e2] at h2
    exact h1.seq h2
  | _ => rw [hc] at hk; cases hk
/-- A 'for': what is ahead of it, then the loop. -/
def forHead : Code → Code
  | .seq x _ => x
  | _ => .skip
def forBody : Code → Code
  | .seq _ (.block _ (.loop x)) => x
  | _ => .skip
def isFor (id : Nat) : Code → Bool
  | .seq _ (.block i (.loop _)) => Nat.beq i id
  | _ => false
theorem for_rule {P : Program} {B id : Nat} {c : Code} {st s s' : St} (hf : isFor id c = true) (h1 : CodeSem P B (forHead c) st .normal s) (h2 : LoopSem P B (forBody c) s (.exit id) s') : CodeSem P B c st .normal s' := by
  unfold isFor at hf
  split at hf
  · rename_i x i y
    have := Nat.eq_of_beq_eq_true hf
    subst this
    exact h1.seq (CodeSem.block (CodeSem.loop h2))
  · cases hf
theorem for_in {C : Cx} {f B id k : Nat} {fn : Func} {b : Code} (hf : C.P.funcs[f]? = some fn) (hb : fn.body = some b) (hs : isFor id (stmt k b) = true) : InBody (C.into f B) (forHead (stmt k b)) ∧ InBody (C.into f B) (forBody (stmt k b)) := by
  have h0 : ∀ x ∈ loopsIn (stmt k b), x ∈ loopsIn b := fun x hx => by
    refine seqDrop_loops k b x ?_
    unfold stmt at hx
    cases hc : seqDrop k b with
    | seq p q => rw [hc] at hx; simp only at hx; simp [loopsIn, hx]
    | _ => rw [hc] at hx; simp [loopsIn] at hx
  unfold isFor at hs
  split at hs
  · rename_i x i y hst
    rw [hst] at h0 ⊢
    refine ⟨Or.inl ⟨fn, b, hf, hb, fun z hz => h0 z (by simp only [forHead] at hz; simp [loopsIn, hz])⟩, Or.inl ⟨fn, b, hf, hb, fun z hz => h0 z (by simp only [forBody] at hz; simp [loopsIn, hz])⟩⟩
  · cases hs
/-- A function that only looks, with no error, or yes. -/
def Cx.looksG (C : Cx) (f : FuncId) (p : List Bool) : Cx := C.putRd f 1 (lendP fun args m => match C.tbm f args m with
  | some ans => some (asmA (pickA p ans))
  | none => none)
theorem Cx.looksG_ok {C : Cx} (hC : CxOk C) (f : FuncId) (p : List Bool) : CxOk (C.looksG f p) :=
  Cx.putRd_ok hC (fun _ _ _ _ _ ha hr => lendP_ok (fun args m ans v m' h hr => by
    split at h
    · rename_i a0 h0
      simp only [Option.some.injEq] at h
      subst h
      exact hC.tbm f args m a0 v m' h0 (pickA_ok p a0 (asmA_ok hr))
    · cases h) ha hr) (fun _ _ _ _ _ _ ha hr => lendP_rd ha hr) (fun h => by cases h)
end Go.Proofs.Ytokdjjdmmahbiaa.Vx
