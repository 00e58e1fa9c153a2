/-
  Loops' contracts by cleaned states. Nothing here is trusted.
-/
import Derived.Test.YtofblakbfmjgkaaKai
namespace Go.Proofs.Ytofblakbfmjgkaa
open Go Vx Go.RowKit
def cleanS (mask : List Nat) (sp : List From) (B : Nat) (K : St → Option (Ans (Exit × St))) (st : St) : Option (Ans (Exit × St)) :=
  match (cleanA mask mask sp sp B (.ret, st)).res with
  | some (_, s0) => K s0
  | none => none
theorem cleanS_ok {P : Program} {B : Nat} {x : Code} {mask : List Nat} {sp : List From} {K : St → Option (Ans (Exit × St))} (h : ∀ st ans e s, K st = some ans → ans.res = some (e, s) → LoopSem P B x st e s) (st : St) (ans : Ans (Exit × St)) (e : Exit) (s : St) (hc : cleanS mask sp B K st = some ans) (hr : ans.res = some (e, s)) : LoopSem P B x st e s := by
  unfold cleanS at hc
  split at hc
  · rename_i e0 s0 h0
    exact fun Q w0 keep r0 a w hB hQ hrel => h s0 ans e s hc hr Q w0 keep r0 a w hB hQ (clean_rel h0 hB hrel).2
  · cases hc
theorem loop_run {C : Cx} (hC : CxOk C) {f B n : Nat} {x : Code} {mask mout : List Nat} {sp so : List From} {st s : St} {e : Exit} (hin : InBody (C.into f B) (.loop x)) (h : roundR (C.into f B) n (.loop x) mask mout sp so st = some (e, s)) : LoopSem C.P B x st e s := by
  obtain ⟨⟨e1, s1⟩, h3, h4⟩ := Ans.bind_some h
  intro Q w0 keep r0 a w hB hQ hr
  refine (exCode_sound hC n).2 f B x hin st e1 s1 h3 _ w0 keep r0 a w hB ?_ hr
  intro a' w' hr'
  obtain ⟨rfl, hs⟩ := clean_rel h4 hB hr'
  exact hQ a' w' hs
theorem loop_sub {x b : Code} (h : x ∈ loopsIn b) : ∀ y ∈ loopsIn (.loop x), y ∈ loopsIn b := fun y hy => by
  simp only [loopsIn, List.mem_cons] at hy
  rcases hy with rfl | hy
  · exact h
  · exact loopsIn_trans b x y h hy
end Go.Proofs.Ytofblakbfmjgkaa
