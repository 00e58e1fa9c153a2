/-
  Code put together out of its parts: branches, blocks, loops. Nothing here is trusted.
-/
import Derived.Test.YtokdjjdmmahbiaaVyJ
namespace Go.Proofs.Ytokdjjdmmahbiaa.Vx
open Go Go.RowKit
theorem CodeSem.out {P : Program} {B : Nat} {x y : Code} {st s : St} {e : Exit} (h : CodeSem P B x st e s) (he : e ≠ .normal) : CodeSem P B (.seq x y) st e s := fun Q w0 keep r0 a w hB hQ hr =>
  wp_seq (h _ w0 keep r0 a w hB (fun a' w' hr' => by cases e <;> first | exact absurd rfl he | exact hQ a' w' hr') hr)
theorem CodeSem.condT {P : Program} {B : Nat} {t : Tmp} {x y : Code} {st s : St} {e : Exit} (ht : st.tmps[t]? = some (.bool true)) (h : CodeSem P B x st e s) : CodeSem P B (.cond (.tmp t) x y) st e s := fun Q w0 keep r0 a w hB hQ hr => by
  obtain ⟨r, hx, hr'⟩ := hr
  have he : a.eval (.tmp t) = .bool true := by
    have := eval_R hr' (.tmp t)
    simp only [ev, ht, Option.getD_some] at this
    exact R_bool this
  exact wp_cond_true he (h Q w0 keep r0 a w hB hQ ⟨r, hx, hr'⟩)
theorem CodeSem.condF {P : Program} {B : Nat} {t : Tmp} {x y : Code} {st s : St} {e : Exit} (ht : st.tmps[t]? = some (.bool false)) (h : CodeSem P B y st e s) : CodeSem P B (.cond (.tmp t) x y) st e s := fun Q w0 keep r0 a w hB hQ hr => by
  obtain ⟨r, hx, hr'⟩ := hr
  have he : a.eval (.tmp t) = .bool false := by
    have := eval_R hr' (.tmp t)
    simp only [ev, ht, Option.getD_some] at this
    exact R_bool this
  exact wp_cond_false he (h Q w0 keep r0 a w hB hQ ⟨r, hx, hr'⟩)
theorem CodeSem.blockN {P : Program} {B id : Nat} {x : Code} {st s : St} (h : CodeSem P B x st .normal s) : CodeSem P B (.block id x) st .normal s := fun _ w0 keep r0 a w hB hQ hr =>
  wp_block (h _ w0 keep r0 a w hB (fun a' w' hr' => hQ a' w' hr') hr)
theorem CodeSem.blockR {P : Program} {B id : Nat} {x : Code} {st s : St} (h : CodeSem P B x st .ret s) : CodeSem P B (.block id x) st .ret s := fun _ w0 keep r0 a w hB hQ hr =>
  wp_block (h _ w0 keep r0 a w hB (fun a' w' hr' => hQ a' w' hr') hr)
/-- A loop is told by what its body comes to. -/
theorem loop_code {P : Program} {B : Nat} {x : Code} {σ : Type} (H : σ → St) (μ : σ → Nat) (Inv : σ → Prop) (out : σ → Exit × St)
    (hstep : ∀ g, Inv g → (∃ g', CodeSem P B x (H g) .normal (H g') ∧ Inv g' ∧ μ g' < μ g ∧ out g' = out g) ∨ (CodeSem P B x (H g) (out g).1 (out g).2 ∧ (out g).1 ≠ .normal)) :
    ∀ g, Inv g → LoopSem P B x (H g) (out g).1 (out g).2 := by
  have leave : ∀ g, CodeSem P B x (H g) (out g).1 (out g).2 → (out g).1 ≠ .normal → LoopSem P B x (H g) (out g).1 (out g).2 := by
    intro g h1 h2 Q w0 keep r0 a w hB hQ hr
    refine LoopsTo.round (h1 _ w0 keep r0 a w hB ?_ hr)
    intro a' w' hr'
    revert h2 hQ hr'
    cases (out g).1 <;> intro h2 hQ hr' <;> first | exact absurd rfl h2 | exact hQ a' w' hr'
  have key : ∀ k g, μ g ≤ k → Inv g → LoopSem P B x (H g) (out g).1 (out g).2 := by
    intro k
    induction k with
    | zero =>
      intro g hk hg
      rcases hstep g hg with ⟨g', _, _, hlt, _⟩ | ⟨h1, h2⟩
      · omega
      · exact leave g h1 h2
    | succ k ih =>
      intro g hk hg
      rcases hstep g hg with ⟨g', h1, hg', hlt, ho⟩ | ⟨h1, h2⟩
      · intro Q w0 keep r0 a w hB hQ hr
        refine LoopsTo.round (h1 _ w0 keep r0 a w hB ?_ hr)
        intro a' w' hr'
        refine ih g' (by omega) hg' Q w0 keep r0 a' w' hB ?_ hr'
        rw [ho]; exact hQ
      · exact leave g h1 h2
  exact fun g hg => key (μ g) g (Nat.le_refl _) hg
/-- States that tell the same, behind code. -/
theorem CodeSem.likes {P : Program} {B : Nat} {x : Code} {st s s2 : St} {e : Exit} (h : CodeSem P B x st e s) (hl : StLike s s2) : CodeSem P B x st e s2 := fun Q w0 keep r0 a w hB hQ hr =>
  h Q w0 keep r0 a w hB (fun a' w' hr' => hQ a' w' (hr'.like hl)) hr
/-- A piece of code that is run, cleaned: at its end or where it leaves. -/
theorem run_code {C : Cx} (hC : CxOk C) {f B n : Nat} {c : Code} {mask : List Nat} {sp : List From} {st s : St} {e : Exit} (hin : InBody (C.into f B) c) (h : roundR (C.into f B) n c mask mask sp sp st = some (e, s)) : CodeSem C.P B c st e s := end_rule hC hin h
/-- Parts of code. -/
def cL : Code → Code
  | .seq x _ => x
  | .block _ x => x
  | .loop x => x
  | .cond _ x _ => x
  | _ => .skip
def cR : Code → Code
  | .seq _ y => y
  | .cond _ _ y => y
  | _ => .skip
theorem cL_loops (c : Code) : ∀ x ∈ loopsIn (cL c), x ∈ loopsIn c := by
  cases c <;> simp [cL, loopsIn] <;> intro x h <;> simp [h]
theorem cR_loops (c : Code) : ∀ x ∈ loopsIn (cR c), x ∈ loopsIn c := by
  cases c <;> simp [cR, loopsIn] <;> intro x h <;> simp [h]
theorem InBody.left {C : Cx} {c : Code} (h : InBody C c) : InBody C (cL c) := h.sub (cL_loops c)
theorem InBody.right {C : Cx} {c : Code} (h : InBody C c) : InBody C (cR c) := h.sub (cR_loops c)
end Go.Proofs.Ytokdjjdmmahbiaa.Vx
