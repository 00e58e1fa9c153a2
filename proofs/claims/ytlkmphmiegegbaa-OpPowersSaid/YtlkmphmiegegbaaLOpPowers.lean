/-
  PROVED: for every map and number, facetlaw03.OpPowers answers true: op.Power answers as the document says.
  No condition beyond the statement's own.
-/
import Derived.Test.YtlkmphmiegegbaaTAw3
import Derived.WalkKit
import Derived.ProofKit
import Derived.OpenShut
import Derived.ShutString
import Derived.ChangeOld
import Derived.Below
namespace Go.Proofs.Ytlkmphmiegegbaa
open Go Vx
open Go.ChangeShapes Go.WideShapes Go.ChangeAt Go.RowKit

theorem own : ownKnob Try.prog.godebug = none := by kernel_rfl
theorem laidOut : laidOutB Try.prog = true := by kernel_rfl


def tOpPowers (a : O3) (n : Int) : Option Value :=
  match (a.pow n).1.eqB (a.pow n).1 with
  | true => some (.bool ((a.pow n).2 == (a.pow n).2))
  | false => some (.bool false)
theorem tOpPowers_true (a : O3) (n : Int) : tOpPowers a n = some (.bool true) := by
  unfold tOpPowers
  rw [O3.eqB_refl, beq_self_eq_true]
theorem opPowers_run (a0 a1 a2 a3 a4 a5 a6 a7 a8 a9 a10 a11 b : Int) : exFun ((CCw Try.prog).at 5) 60 Try.f5 [.agg (intsK .i64 [a0, a1, a2, a3, a4, a5, a6, a7, a8, a9, a10, a11]).toArray, .int .i64 b] = tOpPowers ⟨⟨a0, a1, a2, a3, a4, a5, a6, a7, a8⟩, ⟨a9, a10, a11⟩⟩ b := by kernel_rfl
theorem opPowers_law (l0 : List Int) (z0 : l0.length = 12) (_ : ∀ x ∈ l0, (Lit.int .i64 x).wf = true) (b : Int) (_ : (Lit.int .i64 b).wf = true) : exFun ((CCw Try.prog).at 5) 60 Try.f5 [.agg (intsK .i64 l0).toArray, .int .i64 b] = some (.bool true) := by
  match l0, z0 with
  | [a0, a1, a2, a3, a4, a5, a6, a7, a8, a9, a10, a11], _ => rw [opPowers_run]; exact tOpPowers_true _ _ 

theorem opPowers_walk (l0 : List Int) (e0 : l0.length = 12) (u0 : ∀ x ∈ l0, (Lit.int .i64 x).wf = true) (x1 : Int) (u1 : (Lit.int .i64 x1).wf = true) (w : World) : Calls Try.prog 5 #[.agg (intsK .i64 l0).toArray, .int .i64 x1] w fun e w' => e = .returned (.bool true) ∧ Below w.heap.size w w' :=
  exFun_calls okCw Try.func5 (by kernel_rfl) (args := [.agg (intsK .i64 l0).toArray, .int .i64 x1]) (by
    intro x hx
    simp only [List.mem_cons, List.not_mem_nil, or_false] at hx
    rcases hx with rfl | rfl <;> first | rfl | exact plain_ints _ _) (opPowers_law l0 e0 u0 x1 u1) w

set_option maxRecDepth 100000 in
theorem opPowers_lifted (os : Os) (started : os.Started) (H : Type) (enc : TypeId × Value → H) :
    ReturnsInHanded {} Try.checked os 5 .any (Rows.opPowersSpec.pre6 enc Try.prog Try.f5 Rows.opPowersRow.domain false) (Rows.opPowersSpec.post enc Try.prog Try.f5 false true false false) := by
  refine returnsInHanded_of_change (C := Try.checked) own started (by kernel_rfl) Try.func5
    (ChangeSpec.witness6 (enc := enc) (C := Try.checked) false ⟨#[], #[.agg #[.int .i64 0, .int .i64 0, .int .i64 0, .int .i64 0, .int .i64 0, .int .i64 0, .int .i64 0, .int .i64 0, .int .i64 0, .int .i64 0, .int .i64 0, .int .i64 0], .int .i64 0], []⟩ 8 (by kernel_rfl) (by kernel_rfl) (by kernel_rfl) (by kernel_rfl)) ?_
  intro W base args ds gs before hval0 hW _ _
  have hval : ∀ (j : Nat) t v, Try.f5.params[j]? = some t → args[j]? = some v → Value.okWide Try.prog W .any base t v := hval0
  have hW' := hW
  obtain ⟨p, q, hA0, hV, rfl, _, _⟩ := hW
  have hA : DataW.TrodAll enc Try.prog W 0 (fun _ => true) true Try.f5.params.toList args.toList ds p := hA0
  rw [Try.params5] at hA hval
  obtain ⟨v0, vs0, d0, ds0, p0, q0, hargs, rfl, rfl, h0, r0⟩ := trodAll_cons hA
  obtain ⟨v1, vs1, d1, ds1, p1, q1, rfl, rfl, rfl, h1, r1⟩ := trodAll_cons r0
  obtain ⟨rfl, rfl, rfl⟩ := trodAll_nil r1
  obtain rfl : args = #[v0, v1] := by cases args; simp_all
  obtain ⟨rfl, rfl⟩ := trodVars_none hV
  have lt0 : ∀ x ∈ p0, x.block < W.heap.size := by obtain ⟨m, hm⟩ := h0; exact DataW.trod_lt m _ _ _ hm
  obtain ⟨l0, e0, rfl, u0⟩ := open_rowK (n := 12) (k := .i64) (by kernel_rfl) (by kernel_rfl) (hval 0 28 v0 rfl rfl) h0
  have lt1 : ∀ x ∈ p1, x.block < W.heap.size := by obtain ⟨m, hm⟩ := h1; exact DataW.trod_lt m _ _ _ hm
  obtain ⟨x1, rfl, _, _, u1⟩ := open_int Try.underlying3 (hval 1 3 v1 rfl rfl) h1
  clear hA0 hval0
  refine (opPowers_walk l0 e0 u0 x1 u1 W).mono fun e W' ⟨he, bel⟩ => ?_
  subst he
  exact ⟨_, rfl, _, _, _, [], _, [], hW', trodAll_mk1 (shut_bool Try.underlying4 _), (trodAll_cons_mk (Below.trod laidOut (by kernel_rfl) (of_decide_eq_true (by kernel_rfl)) h0 bel lt0) (trodAll_cons_mk (Below.trod laidOut (by kernel_rfl) (of_decide_eq_true (by kernel_rfl)) h1 bel lt1) trodAll_mk0)), rfl, bel.frame _, fun h => by cases h⟩

theorem opPowers_holds : Rows.OpPowersSaid :=
  OpenClaim.holds_of_wide 5 Try.f5 rfl rfl rfl rfl rfl rfl rfl ⟨rfl, rfl, rfl, rfl, rfl⟩ rfl rfl rfl rfl rfl (by kernel_rfl) Try.func5 (by kernel_rfl)
    (of_decide_eq_true (by kernel_rfl)) (by unfold Func.isWrapper; first | (rw [if_pos (by decide +kernel)]; kernel_rfl) | (rw [if_neg (by decide +kernel)]; exact ⟨rfl, rfl⟩))
    (fun os started H enc _ => opPowers_lifted os started H enc)

end Go.Proofs.Ytlkmphmiegegbaa
