/-
  PROVED: for every two ratios, facetlaw11.CellCompares answers true: cell.Compare answers as the document says, for ratios of any size.
  No condition beyond the statement's own.
-/
import Derived.Test.YtofblakbfmjgkaaKai
import Derived.WalkKit
import Derived.ProofKit
import Derived.OpenShut
import Derived.ShutString
import Derived.ChangeOld
import Derived.Below
namespace Go.Proofs.Ytofblakbfmjgkaa
open Go Vx
open Go.ChangeShapes Go.WideShapes Go.ChangeAt Go.RowKit

theorem own : ownKnob Try.prog.godebug = none := by kernel_rfl
theorem laidOut : laidOutB Try.prog = true := by kernel_rfl

theorem cellCompares_run (a0 a1 b0 b1 : Int) : exFun ((CCq Try.prog).at 6) 60 Try.f6 [.agg (intsK .i64 [a0, a1]).toArray, .agg (intsK .i64 [b0, b1]).toArray] = tCellCompares ⟨a0, a1⟩ ⟨b0, b1⟩ := by kernel_rfl
theorem cellCompares_law (l0 : List Int) (z0 : l0.length = 2) (u0 : ∀ x ∈ l0, (Lit.int .i64 x).wf = true) (l1 : List Int) (z1 : l1.length = 2) (u1 : ∀ x ∈ l1, (Lit.int .i64 x).wf = true) : exFun ((CCq Try.prog).at 6) 60 Try.f6 [.agg (intsK .i64 l0).toArray, .agg (intsK .i64 l1).toArray] = some (.bool true) := by
  match l0, z0, u0, l1, z1, u1 with
  | [a0, a1], _, u0, [b0, b1], _, u1 => rw [cellCompares_run]; exact tCellCompares_true _ _ u0 u1

theorem cellCompares_walk (l0 : List Int) (e0 : l0.length = 2) (u0 : ∀ x ∈ l0, (Lit.int .i64 x).wf = true) (l1 : List Int) (e1 : l1.length = 2) (u1 : ∀ x ∈ l1, (Lit.int .i64 x).wf = true) (w : World) : Calls Try.prog 6 #[.agg (intsK .i64 l0).toArray, .agg (intsK .i64 l1).toArray] w fun e w' => e = .returned (.bool true) ∧ Below w.heap.size w w' :=
  exFun_calls okCq Try.func6 (by kernel_rfl) (args := [.agg (intsK .i64 l0).toArray, .agg (intsK .i64 l1).toArray]) (by
    intro x hx
    simp only [List.mem_cons, List.not_mem_nil, or_false] at hx
    rcases hx with rfl | rfl <;> first | rfl | exact plain_ints _ _) (cellCompares_law l0 e0 u0 l1 e1 u1) w

set_option maxRecDepth 100000 in
theorem cellCompares_lifted (os : Os) (started : os.Started) (H : Type) (enc : TypeId × Value → H) :
    ReturnsInHanded {} Try.checked os 6 .any (Rows.cellComparesSpec.pre6 enc Try.prog Try.f6 Rows.cellComparesRow.domain false) (Rows.cellComparesSpec.post enc Try.prog Try.f6 false true false false) := by
  refine returnsInHanded_of_change (C := Try.checked) own started (by kernel_rfl) Try.func6
    (ChangeSpec.witness6 (enc := enc) (C := Try.checked) false ⟨#[], #[.agg #[.int .i64 0, .int .i64 0], .agg #[.int .i64 0, .int .i64 0]], []⟩ 8 (by kernel_rfl) (by kernel_rfl) (by kernel_rfl) (by kernel_rfl)) ?_
  intro W base args ds gs before hval0 hW _ _
  have hval : ∀ (j : Nat) t v, Try.f6.params[j]? = some t → args[j]? = some v → Value.okWide Try.prog W .any base t v := hval0
  have hW' := hW
  obtain ⟨p, q, hA0, hV, rfl, _, _⟩ := hW
  have hA : DataW.TrodAll enc Try.prog W 0 (fun _ => true) true Try.f6.params.toList args.toList ds p := hA0
  rw [Try.params6] at hA hval
  obtain ⟨v0, vs0, d0, ds0, p0, q0, hargs, rfl, rfl, h0, r0⟩ := trodAll_cons hA
  obtain ⟨v1, vs1, d1, ds1, p1, q1, rfl, rfl, rfl, h1, r1⟩ := trodAll_cons r0
  obtain ⟨rfl, rfl, rfl⟩ := trodAll_nil r1
  obtain rfl : args = #[v0, v1] := by cases args; simp_all
  obtain ⟨rfl, rfl⟩ := trodVars_none hV
  have lt0 : ∀ x ∈ p0, x.block < W.heap.size := by obtain ⟨m, hm⟩ := h0; exact DataW.trod_lt m _ _ _ hm
  obtain ⟨l0, e0, rfl, u0⟩ := open_rowK (n := 2) (k := .i64) (by kernel_rfl) (by kernel_rfl) (hval 0 38 v0 rfl rfl) h0
  have lt1 : ∀ x ∈ p1, x.block < W.heap.size := by obtain ⟨m, hm⟩ := h1; exact DataW.trod_lt m _ _ _ hm
  obtain ⟨l1, e1, rfl, u1⟩ := open_rowK (n := 2) (k := .i64) (by kernel_rfl) (by kernel_rfl) (hval 1 38 v1 rfl rfl) h1
  clear hA0 hval0
  refine (cellCompares_walk l0 e0 u0 l1 e1 u1 W).mono fun e W' ⟨he, bel⟩ => ?_
  subst he
  exact ⟨_, rfl, _, _, _, [], _, [], hW', trodAll_mk1 (shut_bool Try.underlying4 _), (trodAll_cons_mk (Below.trod laidOut (by kernel_rfl) (of_decide_eq_true (by kernel_rfl)) h0 bel lt0) (trodAll_cons_mk (Below.trod laidOut (by kernel_rfl) (of_decide_eq_true (by kernel_rfl)) h1 bel lt1) trodAll_mk0)), rfl, bel.frame _, fun h => by cases h⟩

theorem cellCompares_holds : Rows.CellComparesSaid :=
  OpenClaim.holds_of_wide 6 Try.f6 rfl rfl rfl rfl rfl rfl rfl ⟨rfl, rfl, rfl, rfl, rfl⟩ rfl rfl rfl rfl rfl (by kernel_rfl) Try.func6 (by kernel_rfl)
    (of_decide_eq_true (by kernel_rfl)) (by unfold Func.isWrapper; first | (rw [if_pos (by decide +kernel)]; kernel_rfl) | (rw [if_neg (by decide +kernel)]; exact ⟨rfl, rfl⟩))
    (fun os started H enc _ => cellCompares_lifted os started H enc)

end Go.Proofs.Ytofblakbfmjgkaa
