/-
  PROVED: for every metric, facetlaw12.ReduceObtuses answers true: reduce.Obtuse and Shortest answer as the document says.
  No condition beyond the statement's own.
-/
import Derived.Test.YtofblakbfmjgkaaHTShP
import Derived.WalkKit
import Derived.ProofKit
import Derived.OpenShut
import Derived.ShutString
import Derived.ChangeOld
import Derived.Below
namespace Go.Proofs.Ytofblakbfmjgkaa
open Go Vx
open Go.ChangeShapes Go.WideShapes Go.ChangeAt Go.RowKit

theorem own : ownKnob Try.prog.godebug = none := by kernel_rfl
theorem laidOut : laidOutB Try.prog = true := by kernel_rfl

theorem reduceObtuses_run (a0 a1 a2 a3 a4 a5 : Int) : exFun ((CCsh Try.prog).at 12) 120 Try.f12 [.agg (intsK .i64 [a0, a1, a2, a3, a4, a5]).toArray] = tReduceObtuses ⟨a0, a1, a2, a3, a4, a5⟩ := by kernel_rfl
theorem reduceObtuses_law (l0 : List Int) (z0 : l0.length = 6) (_ : ∀ x ∈ l0, (Lit.int .i64 x).wf = true) : exFun ((CCsh Try.prog).at 12) 120 Try.f12 [.agg (intsK .i64 l0).toArray] = some (.bool true) := by
  match l0, z0 with
  | [a0, a1, a2, a3, a4, a5], _ => rw [reduceObtuses_run]; exact tReduceObtuses_true _ 

theorem reduceObtuses_walk (l0 : List Int) (e0 : l0.length = 6) (u0 : ∀ x ∈ l0, (Lit.int .i64 x).wf = true) (w : World) : Calls Try.prog 12 #[.agg (intsK .i64 l0).toArray] w fun e w' => e = .returned (.bool true) ∧ Below w.heap.size w w' :=
  exFun_calls okCsh Try.func12 (by kernel_rfl) (args := [.agg (intsK .i64 l0).toArray]) (by
    intro x hx
    simp only [List.mem_cons, List.not_mem_nil, or_false] at hx
    rcases hx with rfl <;> first | rfl | exact plain_ints _ _) (reduceObtuses_law l0 e0 u0) w

set_option maxRecDepth 100000 in
theorem reduceObtuses_lifted (os : Os) (started : os.Started) (H : Type) (enc : TypeId × Value → H) :
    ReturnsInHanded {} Try.checked os 12 .any (Rows.reduceObtusesSpec.pre6 enc Try.prog Try.f12 Rows.reduceObtusesRow.domain false) (Rows.reduceObtusesSpec.post enc Try.prog Try.f12 false true false false) := by
  refine returnsInHanded_of_change (C := Try.checked) own started (by kernel_rfl) Try.func12
    (ChangeSpec.witness6 (enc := enc) (C := Try.checked) false ⟨#[], #[.agg #[.int .i64 0, .int .i64 0, .int .i64 0, .int .i64 0, .int .i64 0, .int .i64 0]], []⟩ 8 (by kernel_rfl) (by kernel_rfl) (by kernel_rfl) (by kernel_rfl)) ?_
  intro W base args ds gs before hval0 hW _ _
  have hval : ∀ (j : Nat) t v, Try.f12.params[j]? = some t → args[j]? = some v → Value.okWide Try.prog W .any base t v := hval0
  have hW' := hW
  obtain ⟨p, q, hA0, hV, rfl, _, _⟩ := hW
  have hA : DataW.TrodAll enc Try.prog W 0 (fun _ => true) true Try.f12.params.toList args.toList ds p := hA0
  rw [Try.params12] at hA hval
  obtain ⟨v0, vs0, d0, ds0, p0, q0, hargs, rfl, rfl, h0, r0⟩ := trodAll_cons hA
  obtain ⟨rfl, rfl, rfl⟩ := trodAll_nil r0
  obtain rfl : args = #[v0] := by cases args; simp_all
  obtain ⟨rfl, rfl⟩ := trodVars_none hV
  have lt0 : ∀ x ∈ p0, x.block < W.heap.size := by obtain ⟨m, hm⟩ := h0; exact DataW.trod_lt m _ _ _ hm
  obtain ⟨l0, e0, rfl, u0⟩ := open_rowK (n := 6) (k := .i64) (by kernel_rfl) (by kernel_rfl) (hval 0 23 v0 rfl rfl) h0
  clear hA0 hval0
  refine (reduceObtuses_walk l0 e0 u0 W).mono fun e W' ⟨he, bel⟩ => ?_
  subst he
  exact ⟨_, rfl, _, _, _, [], _, [], hW', trodAll_mk1 (shut_bool Try.underlying4 _), (trodAll_cons_mk (Below.trod laidOut (by kernel_rfl) (of_decide_eq_true (by kernel_rfl)) h0 bel lt0) trodAll_mk0), rfl, bel.frame _, fun h => by cases h⟩

theorem reduceObtuses_holds : Rows.ReduceObtusesSaid :=
  OpenClaim.holds_of_wide 12 Try.f12 rfl rfl rfl rfl rfl rfl rfl ⟨rfl, rfl, rfl, rfl, rfl⟩ rfl rfl rfl rfl rfl (by kernel_rfl) Try.func12 (by kernel_rfl)
    (of_decide_eq_true (by kernel_rfl)) (by unfold Func.isWrapper; first | (rw [if_pos (by decide +kernel)]; kernel_rfl) | (rw [if_neg (by decide +kernel)]; exact ⟨rfl, rfl⟩))
    (fun os started H enc _ => reduceObtuses_lifted os started H enc)

end Go.Proofs.Ytofblakbfmjgkaa
