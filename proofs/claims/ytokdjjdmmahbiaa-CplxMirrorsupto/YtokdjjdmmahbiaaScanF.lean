/-
  Loops that look for the first element that has a property. Nothing here is trusted.
-/
import Derived.Test.YtokdjjdmmahbiaaVyM
import Derived.Test.YtokdjjdmmahbiaaVyK
import Derived.Test.YtokdjjdmmahbiaaRowT
namespace Go.Proofs.Ytokdjjdmmahbiaa.Vx
open Go Go.RowKit
theorem for_ret {P : Program} {B id : Nat} {c : Code} {st s s' : St} (hf : isFor id c = true) (h1 : CodeSem P B (forHead c) st .normal s) (h2 : LoopSem P B (forBody c) s .ret s') : CodeSem P B c st .ret s' := by
  unfold isFor at hf
  split at hf
  · rename_i x i y
    exact h1.seq (CodeSem.blockR (CodeSem.loop h2))
  · cases hf
/-- The first of c places from i on that has a property. -/
def fst? (t : Nat → Bool) : Nat → Nat → Option Nat
  | 0, _ => none
  | c + 1, i => match t i with
    | true => some i
    | false => fst? t c (i + 1)
theorem fst?_some {t : Nat → Bool} : ∀ {c i k : Nat}, fst? t c i = some k → i ≤ k ∧ k < i + c ∧ t k = true ∧ ∀ j, i ≤ j → j < k → t j = false
  | 0, i, k, h => by simp [fst?] at h
  | c + 1, i, k, h => by
    simp only [fst?] at h
    cases ht : t i with
    | true =>
      rw [ht] at h
      simp only [Option.some.injEq] at h
      subst h
      exact ⟨Nat.le_refl _, by omega, ht, fun j h1 h2 => by omega⟩
    | false =>
      rw [ht] at h
      obtain ⟨h1, h2, h3, h4⟩ := fst?_some h
      refine ⟨by omega, by omega, h3, fun j g1 g2 => ?_⟩
      by_cases hj : j = i
      · subst hj; exact ht
      · exact h4 j (by omega) g2
theorem fst?_none {t : Nat → Bool} : ∀ {c i : Nat}, fst? t c i = none → ∀ j, i ≤ j → j < i + c → t j = false
  | 0, i, h, j, h1, h2 => by omega
  | c + 1, i, h, j, h1, h2 => by
    simp only [fst?] at h
    cases ht : t i with
    | true => rw [ht] at h; cases h
    | false =>
      rw [ht] at h
      by_cases hj : j = i
      · subst hj; exact ht
      · exact fst?_none h j (by omega) (by omega)
theorem fst?_congr {t u : Nat → Bool} : ∀ {c i : Nat}, (∀ j, i ≤ j → j < i + c → t j = u j) → fst? t c i = fst? u c i
  | 0, i, _ => rfl
  | c + 1, i, h => by
    simp only [fst?]
    rw [h i (Nat.le_refl _) (by omega), fst?_congr (c := c) (i := i + 1) fun j h1 h2 => h j (by omega) (by omega)]
theorem scan_loop {C : Cx} (hC : CxOk C) {f B m : Nat} {x : Code} {mask mout : List Nat} {sp so : List From} (hin : InBody (C.into f B) x) {n : Nat} (hn : (n : Int) ≤ 9000000000000000000) (H : Int → St) (t : Nat → Bool) (sx : Nat → St) (id : Nat) (s0 : St)
    (hr : ∀ i : Nat, i ≤ n → roundR (C.into f B) m x mask mout sp so (H (i : Int)) = (match decide ((i : Int) < (n : Int)) with
      | true => gd (boundsI (i : Int) n) (match t i with
        | true => some (.ret, sx i)
        | false => some (.normal, H (W ((i : Int) + 1))))
      | false => some (.exit id, s0))) :
    (∀ k, fst? t n 0 = some k → LoopSem C.P B x (H 0) .ret (sx k)) ∧ (fst? t n 0 = none → LoopSem C.P B x (H 0) (.exit id) s0) := by
  have key : ∀ (c i : Nat), i + c = n → (∀ k, fst? t c i = some k → LoopSem C.P B x (H (i : Int)) .ret (sx k)) ∧ (fst? t c i = none → LoopSem C.P B x (H (i : Int)) (.exit id) s0) := by
    intro c
    induction c with
    | zero =>
      intro i hi
      have h := hr i (by omega)
      rw [show decide ((i : Int) < (n : Int)) = false by simp; omega] at h
      exact ⟨fun k hk => (by simp [fst?] at hk), fun _ => loop_leave hC hin h (by simp)⟩
    | succ c ih =>
      intro i hi
      have h := hr i (by omega)
      rw [show decide ((i : Int) < (n : Int)) = true by simp; omega, bd_ok' (show i < n by omega)] at h
      simp only [gd_true] at h
      simp only [fst?]
      cases ht : t i with
      | true =>
        rw [ht] at h
        refine ⟨fun k hk => ?_, fun hk => by cases hk⟩
        simp only [Option.some.injEq] at hk
        subst hk
        exact loop_leave hC hin h (by simp)
      | false =>
        rw [ht] at h
        rw [show W ((i : Int) + 1) = ((i + 1 : Nat) : Int) by rw [W_in (by omega)]; simp] at h
        have := ih (i + 1) (by omega)
        exact ⟨fun k hk => loop_next hC hin h (StLike.refl _) (this.1 k hk), fun hk => loop_next hC hin h (StLike.refl _) (this.2 hk)⟩
  exact key n 0 (by omega)
end Go.Proofs.Ytokdjjdmmahbiaa.Vx
