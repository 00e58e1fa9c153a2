/-
  PROVED: for every matrix, facetlaw01.VecNumbers answers true: vec.Check, Transpose, Det, Trace, Adjugate and Identity answer as the document says.
  No condition beyond the statement's own.
-/
import Derived.Test.YtklmanmeedfjpaaVecA
import Derived.Test.YtklmanmeedfjpaaVecM
import Derived.WalkKit
import Derived.ProofKit
import Derived.OpenShut
import Derived.ShutString
import Derived.ChangeOld
import Derived.Below
namespace Go.Proofs.Ytklmanmeedfjpaa
open Go Vx
open Go.ChangeShapes Go.WideShapes Go.ChangeAt Go.RowKit

theorem own : ownKnob Try.prog.godebug = none := by kernel_rfl
theorem laidOut : laidOutB Try.prog = true := by kernel_rfl

/-- Transcribed: the statement's own tests, in its order. -/
def numbersT (a b c d e f g h i : Int) : Option Value :=
  guardF [chk a b c d e f g h i != matR a b c d e f g h i, nth (transR a b c d e f g h i) 9 != matR a b c d e f g h i, nth (detE a b c d e f g h i) 1 != matR a b c d e f g h i, nth (traceE a b c d e f g h i) 1 != matR a b c d e f g h i, nth (adjE a b c d e f g h i) 9 != matR a b c d e f g h i]
    (orB [matR a b c d e f g h i != 0]
      (andO [eq9 (nth (transR a b c d e f g h i) 0) (nth (transR a b c d e f g h i) 1) (nth (transR a b c d e f g h i) 2) (nth (transR a b c d e f g h i) 3) (nth (transR a b c d e f g h i) 4) (nth (transR a b c d e f g h i) 5) (nth (transR a b c d e f g h i) 6) (nth (transR a b c d e f g h i) 7) (nth (transR a b c d e f g h i) 8) 0 0 0 0 0 0 0 0 0, nth (detE a b c d e f g h i) 0 == 0, nth (traceE a b c d e f g h i) 0 == 0,
        eq9 (nth (adjE a b c d e f g h i) 0) (nth (adjE a b c d e f g h i) 1) (nth (adjE a b c d e f g h i) 2) (nth (adjE a b c d e f g h i) 3) (nth (adjE a b c d e f g h i) 4) (nth (adjE a b c d e f g h i) 5) (nth (adjE a b c d e f g h i) 6) (nth (adjE a b c d e f g h i) 7) (nth (adjE a b c d e f g h i) 8) 0 0 0 0 0 0 0 0 0])
      (andO [eq9 (nth (transR a b c d e f g h i) 0) (nth (transR a b c d e f g h i) 1) (nth (transR a b c d e f g h i) 2) (nth (transR a b c d e f g h i) 3) (nth (transR a b c d e f g h i) 4) (nth (transR a b c d e f g h i) 5) (nth (transR a b c d e f g h i) 6) (nth (transR a b c d e f g h i) 7) (nth (transR a b c d e f g h i) 8) a d g b e h c f i, nth (detE a b c d e f g h i) 0 == rdet a b c d e f g h i, nth (traceE a b c d e f g h i) 0 == W (W (a + e) + i),
        eq9 (nth (adjE a b c d e f g h i) 0) (nth (adjE a b c d e f g h i) 1) (nth (adjE a b c d e f g h i) 2) (nth (adjE a b c d e f g h i) 3) (nth (adjE a b c d e f g h i) 4) (nth (adjE a b c d e f g h i) 5) (nth (adjE a b c d e f g h i) 6) (nth (adjE a b c d e f g h i) 7) (nth (adjE a b c d e f g h i) 8) (minR e i f h) (minR h c i b) (minR b f c e) (minR f g d i) (minR i a g c) (minR c d a f) (minR d h e g) (minR g b h a) (minR a e b d)]))
theorem numbers_run (a b c d e f g h i : Int) : exFun (C17 Try.prog) 60 Try.f4 [.agg (intsK .i64 [a, b, c, d, e, f, g, h, i]).toArray] = numbersT a b c d e f g h i := by kernel_rfl
theorem numbers_true (a b c d e f g h i : Int) : numbersT a b c d e f g h i = some (.bool true) := by
  unfold numbersT
  rw [chk_eq, mat_eq, transR_eq, detE_eq, traceE_eq, adjE_eq, detR_eq, rdet_eq]
  cases inB 1000 [a, b, c, d, e, f, g, h, i]
  · rfl
  · simp only [cond_true]
    rw [guardF_eq _ _ (by simp [nth, cofL])]
    refine (andO_eq _ ?_)
    simp [nth, cofL, eq9, eq3]
theorem numbers_law (l0 : List Int) (e0 : l0.length = 9) (_ : ∀ x ∈ l0, (Lit.int .i64 x).wf = true) : exFun (C17 Try.prog) 60 Try.f4 [.agg (intsK .i64 l0).toArray] = some (.bool true) := by
  match l0, e0 with
  | [a, b, c, d, e, f, g, h, i], _ => rw [numbers_run, numbers_true]

theorem vecNumbers_walk (l0 : List Int) (e0 : l0.length = 9) (u0 : ∀ x ∈ l0, (Lit.int .i64 x).wf = true) (w : World) : Calls Try.prog 4 #[.agg (intsK .i64 l0).toArray] w fun e w' => e = .returned (.bool true) ∧ Below w.heap.size w w' :=
  exFun_calls ok17 Try.func4 (args := [.agg (intsK .i64 l0).toArray]) (by
    intro x hx
    simp only [List.mem_cons, List.not_mem_nil, or_false] at hx
    rcases hx with rfl <;> rfl) (numbers_law l0 e0 u0) w

set_option maxRecDepth 100000 in
theorem vecNumbers_lifted (os : Os) (started : os.Started) (H : Type) (enc : TypeId × Value → H) :
    ReturnsInHanded {} Try.checked os 4 .any (Rows.vecNumbersSpec.pre6 enc Try.prog Try.f4 Rows.vecNumbersRow.domain false) (Rows.vecNumbersSpec.post enc Try.prog Try.f4 false true false false) := by
  refine returnsInHanded_of_change (C := Try.checked) own started (by kernel_rfl) Try.func4
    (ChangeSpec.witness6 (enc := enc) (C := Try.checked) false ⟨#[], #[.agg #[.int .i64 0, .int .i64 0, .int .i64 0, .int .i64 0, .int .i64 0, .int .i64 0, .int .i64 0, .int .i64 0, .int .i64 0]], []⟩ 8 (by kernel_rfl) (by kernel_rfl) (by kernel_rfl) (by kernel_rfl)) ?_
  intro W base args ds gs before hval0 hW _ _
  have hval : ∀ (j : Nat) t v, Try.f4.params[j]? = some t → args[j]? = some v → Value.okWide Try.prog W .any base t v := hval0
  have hW' := hW
  obtain ⟨p, q, hA0, hV, rfl, _, _⟩ := hW
  have hA : DataW.TrodAll enc Try.prog W 0 (fun _ => true) true Try.f4.params.toList args.toList ds p := hA0
  rw [Try.params4] at hA hval
  obtain ⟨v0, vs0, d0, ds0, p0, q0, hargs, rfl, rfl, h0, r0⟩ := trodAll_cons hA
  obtain ⟨rfl, rfl, rfl⟩ := trodAll_nil r0
  obtain rfl : args = #[v0] := by cases args; simp_all
  obtain ⟨rfl, rfl⟩ := trodVars_none hV
  have lt0 : ∀ x ∈ p0, x.block < W.heap.size := by obtain ⟨m, hm⟩ := h0; exact DataW.trod_lt m _ _ _ hm
  obtain ⟨l0, e0, rfl, u0⟩ := open_rowK (n := 9) (k := .i64) (by kernel_rfl) (by kernel_rfl) (hval 0 24 v0 rfl rfl) h0
  clear hA0 hval0
  refine (vecNumbers_walk l0 e0 u0 W).mono fun e W' ⟨he, bel⟩ => ?_
  subst he
  exact ⟨_, rfl, _, _, _, [], _, [], hW', trodAll_mk1 (shut_bool Try.underlying4 _), (trodAll_cons_mk (Below.trod laidOut (by kernel_rfl) (of_decide_eq_true (by kernel_rfl)) h0 bel lt0) trodAll_mk0), rfl, bel.frame _, fun h => by cases h⟩

theorem vecNumbers_holds : Rows.VecNumbersSaid :=
  OpenClaim.holds_of_wide 4 Try.f4 rfl rfl rfl rfl rfl rfl rfl ⟨rfl, rfl, rfl, rfl, rfl⟩ rfl rfl rfl rfl rfl (by kernel_rfl) Try.func4 (by kernel_rfl)
    (of_decide_eq_true (by kernel_rfl)) (by unfold Func.isWrapper; first | (rw [if_pos (by decide +kernel)]; kernel_rfl) | (rw [if_neg (by decide +kernel)]; exact ⟨rfl, rfl⟩))
    (fun os started H enc _ => vecNumbers_lifted os started H enc)

end Go.Proofs.Ytklmanmeedfjpaa
