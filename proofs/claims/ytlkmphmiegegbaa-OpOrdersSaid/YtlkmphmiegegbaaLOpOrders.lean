/-
  PROVED: for every map, facetlaw03.OpOrders answers true: op.Order and Kind answer as the document says.
  No condition beyond the statement's own.
-/
import Derived.Test.YtlkmphmiegegbaaTAw3
import Derived.WalkKit
import Derived.ProofKit
import Derived.OpenShut
import Derived.ShutString
import Derived.ChangeOld
import Derived.Below
namespace Go.Proofs.Ytlkmphmiegegbaa
open Go Vx
open Go.ChangeShapes Go.WideShapes Go.ChangeAt Go.RowKit

theorem own : ownKnob Try.prog.godebug = none := by kernel_rfl
theorem laidOut : laidOutB Try.prog = true := by kernel_rfl


def tOpOrders (a : O3) : Option Value :=
  match a.ordF == a.ordF with
  | true => match a.ordE == a.ordE with
    | true => match a.kindF == a.kindF with
      | true => some (.bool (a.kindE == a.kindE))
      | false => some (.bool false)
    | false => some (.bool false)
  | false => some (.bool false)
theorem tOpOrders_true (a : O3) : tOpOrders a = some (.bool true) := by
  unfold tOpOrders
  simp only [beq_self_eq_true]
theorem opOrders_run (a0 a1 a2 a3 a4 a5 a6 a7 a8 a9 a10 a11 : Int) : exFun ((CCw Try.prog).at 6) 60 Try.f6 [.agg (intsK .i64 [a0, a1, a2, a3, a4, a5, a6, a7, a8, a9, a10, a11]).toArray] = tOpOrders ⟨⟨a0, a1, a2, a3, a4, a5, a6, a7, a8⟩, ⟨a9, a10, a11⟩⟩ := by kernel_rfl
theorem opOrders_law (l0 : List Int) (z0 : l0.length = 12) (_ : ∀ x ∈ l0, (Lit.int .i64 x).wf = true) : exFun ((CCw Try.prog).at 6) 60 Try.f6 [.agg (intsK .i64 l0).toArray] = some (.bool true) := by
  match l0, z0 with
  | [a0, a1, a2, a3, a4, a5, a6, a7, a8, a9, a10, a11], _ => rw [opOrders_run]; exact tOpOrders_true _ 

theorem opOrders_walk (l0 : List Int) (e0 : l0.length = 12) (u0 : ∀ x ∈ l0, (Lit.int .i64 x).wf = true) (w : World) : Calls Try.prog 6 #[.agg (intsK .i64 l0).toArray] w fun e w' => e = .returned (.bool true) ∧ Below w.heap.size w w' :=
  exFun_calls okCw Try.func6 (by kernel_rfl) (args := [.agg (intsK .i64 l0).toArray]) (by
    intro x hx
    simp only [List.mem_cons, List.not_mem_nil, or_false] at hx
    rcases hx with rfl <;> first | rfl | exact plain_ints _ _) (opOrders_law l0 e0 u0) w

set_option maxRecDepth 100000 in
theorem opOrders_lifted (os : Os) (started : os.Started) (H : Type) (enc : TypeId × Value → H) :
    ReturnsInHanded {} Try.checked os 6 .any (Rows.opOrdersSpec.pre6 enc Try.prog Try.f6 Rows.opOrdersRow.domain false) (Rows.opOrdersSpec.post enc Try.prog Try.f6 false true false false) := by
  refine returnsInHanded_of_change (C := Try.checked) own started (by kernel_rfl) Try.func6
    (ChangeSpec.witness6 (enc := enc) (C := Try.checked) false ⟨#[], #[.agg #[.int .i64 0, .int .i64 0, .int .i64 0, .int .i64 0, .int .i64 0, .int .i64 0, .int .i64 0, .int .i64 0, .int .i64 0, .int .i64 0, .int .i64 0, .int .i64 0]], []⟩ 8 (by kernel_rfl) (by kernel_rfl) (by kernel_rfl) (by kernel_rfl)) ?_
  intro W base args ds gs before hval0 hW _ _
  have hval : ∀ (j : Nat) t v, Try.f6.params[j]? = some t → args[j]? = some v → Value.okWide Try.prog W .any base t v := hval0
  have hW' := hW
  obtain ⟨p, q, hA0, hV, rfl, _, _⟩ := hW
  have hA : DataW.TrodAll enc Try.prog W 0 (fun _ => true) true Try.f6.params.toList args.toList ds p := hA0
  rw [Try.params6] at hA hval
  obtain ⟨v0, vs0, d0, ds0, p0, q0, hargs, rfl, rfl, h0, r0⟩ := trodAll_cons hA
  obtain ⟨rfl, rfl, rfl⟩ := trodAll_nil r0
  obtain rfl : args = #[v0] := by cases args; simp_all
  obtain ⟨rfl, rfl⟩ := trodVars_none hV
  have lt0 : ∀ x ∈ p0, x.block < W.heap.size := by obtain ⟨m, hm⟩ := h0; exact DataW.trod_lt m _ _ _ hm
  obtain ⟨l0, e0, rfl, u0⟩ := open_rowK (n := 12) (k := .i64) (by kernel_rfl) (by kernel_rfl) (hval 0 28 v0 rfl rfl) h0
  clear hA0 hval0
  refine (opOrders_walk l0 e0 u0 W).mono fun e W' ⟨he, bel⟩ => ?_
  subst he
  exact ⟨_, rfl, _, _, _, [], _, [], hW', trodAll_mk1 (shut_bool Try.underlying4 _), (trodAll_cons_mk (Below.trod laidOut (by kernel_rfl) (of_decide_eq_true (by kernel_rfl)) h0 bel lt0) trodAll_mk0), rfl, bel.frame _, fun h => by cases h⟩

theorem opOrders_holds : Rows.OpOrdersSaid :=
  OpenClaim.holds_of_wide 6 Try.f6 rfl rfl rfl rfl rfl rfl rfl ⟨rfl, rfl, rfl, rfl, rfl⟩ rfl rfl rfl rfl rfl (by kernel_rfl) Try.func6 (by kernel_rfl)
    (of_decide_eq_true (by kernel_rfl)) (by unfold Func.isWrapper; first | (rw [if_pos (by decide +kernel)]; kernel_rfl) | (rw [if_neg (by decide +kernel)]; exact ⟨rfl, rfl⟩))
    (fun os started H enc _ => opOrders_lifted os started H enc)

end Go.Proofs.Ytlkmphmiegegbaa
