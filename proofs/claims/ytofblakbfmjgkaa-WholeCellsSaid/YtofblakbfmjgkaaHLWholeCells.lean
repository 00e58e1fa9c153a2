/-
  PROVED: for every matrix, two columns, index and sign of small numbers, facettop.WholeCells answers true: products, spacings and volumes do not hang on the edges that tell them; reduce finds obtuse edges and the shortest vector.
  No condition beyond the statement's own.
-/
import Derived.Test.YtofblakbfmjgkaaHTWcL
import Derived.WalkKit
import Derived.ProofKit
import Derived.OpenShut
import Derived.ShutString
import Derived.ChangeOld
import Derived.Below
namespace Go.Proofs.Ytofblakbfmjgkaa
open Go Vx
open Go.ChangeShapes Go.WideShapes Go.ChangeAt Go.RowKit

theorem own : ownKnob Try.prog.godebug = none := by kernel_rfl
theorem laidOut : laidOutB Try.prog = true := by kernel_rfl

theorem wholeCells_law (l0 : List Int) (z0 : l0.length = 9) (u0 : ∀ x ∈ l0, (Lit.int .i8 x).wf = true) (l1 : List Int) (z1 : l1.length = 3) (u1 : ∀ x ∈ l1, (Lit.int .i8 x).wf = true) (l2 : List Int) (z2 : l2.length = 3) (u2 : ∀ x ∈ l2, (Lit.int .i8 x).wf = true) (l3 : List Int) (z3 : l3.length = 3) (u3 : ∀ x ∈ l3, (Lit.int .u8 x).wf = true) (e : Int) (u4 : (Lit.int .u8 e).wf = true) : PlainSem Try.prog 17 [.agg (intsK .i8 l0).toArray, .agg (intsK .i8 l1).toArray, .agg (intsK .i8 l2).toArray, .agg (intsK .u8 l3).toArray, .int .u8 e] (.bool true) := by
  match l0, z0, u0, l1, z1, u1, l2, z2, u2, l3, z3, u3 with
  | [a0, a1, a2, a3, a4, a5, a6, a7, a8], _, u0, [b0, b1, b2], _, u1, [c0, c1, c2], _, u2, [d0, d1, d2], _, u3 => exact wcLaw a0 a1 a2 a3 a4 a5 a6 a7 a8 u0 b0 b1 b2 u1 c0 c1 c2 u2 d0 d1 d2 u3 e u4

theorem wholeCells_walk (l0 : List Int) (e0 : l0.length = 9) (u0 : ∀ x ∈ l0, (Lit.int .i8 x).wf = true) (l1 : List Int) (e1 : l1.length = 3) (u1 : ∀ x ∈ l1, (Lit.int .i8 x).wf = true) (l2 : List Int) (e2 : l2.length = 3) (u2 : ∀ x ∈ l2, (Lit.int .i8 x).wf = true) (l3 : List Int) (e3 : l3.length = 3) (u3 : ∀ x ∈ l3, (Lit.int .u8 x).wf = true) (x4 : Int) (u4 : (Lit.int .u8 x4).wf = true) (w : World) : Calls Try.prog 17 #[.agg (intsK .i8 l0).toArray, .agg (intsK .i8 l1).toArray, .agg (intsK .i8 l2).toArray, .agg (intsK .u8 l3).toArray, .int .u8 x4] w fun e w' => e = .returned (.bool true) ∧ Below w.heap.size w w' :=
  ((wholeCells_law l0 e0 u0 l1 e1 u1 l2 e2 u2 l3 e3 u3 x4 u4).2 w).mono fun _ _ h => ⟨h.1, h.2.1⟩

set_option maxRecDepth 100000 in
theorem wholeCells_lifted (os : Os) (started : os.Started) (H : Type) (enc : TypeId × Value → H) :
    ReturnsInHanded {} Try.checked os 17 .any (Rows.wholeCellsSpec.pre6 enc Try.prog Try.f17 Rows.wholeCellsRow.domain false) (Rows.wholeCellsSpec.post enc Try.prog Try.f17 false true false false) := by
  refine returnsInHanded_of_change (C := Try.checked) own started (by kernel_rfl) Try.func17
    (ChangeSpec.witness6 (enc := enc) (C := Try.checked) false ⟨#[], #[.agg #[.int .i8 0, .int .i8 0, .int .i8 0, .int .i8 0, .int .i8 0, .int .i8 0, .int .i8 0, .int .i8 0, .int .i8 0], .agg #[.int .i8 0, .int .i8 0, .int .i8 0], .agg #[.int .i8 0, .int .i8 0, .int .i8 0], .agg #[.int .u8 0, .int .u8 0, .int .u8 0], .int .u8 0], []⟩ 8 (by kernel_rfl) (by kernel_rfl) (by kernel_rfl) (by kernel_rfl)) ?_
  intro W base args ds gs before hval0 hW _ _
  have hval : ∀ (j : Nat) t v, Try.f17.params[j]? = some t → args[j]? = some v → Value.okWide Try.prog W .any base t v := hval0
  have hW' := hW
  obtain ⟨p, q, hA0, hV, rfl, _, _⟩ := hW
  have hA : DataW.TrodAll enc Try.prog W 0 (fun _ => true) true Try.f17.params.toList args.toList ds p := hA0
  rw [Try.params17] at hA hval
  obtain ⟨v0, vs0, d0, ds0, p0, q0, hargs, rfl, rfl, h0, r0⟩ := trodAll_cons hA
  obtain ⟨v1, vs1, d1, ds1, p1, q1, rfl, rfl, rfl, h1, r1⟩ := trodAll_cons r0
  obtain ⟨v2, vs2, d2, ds2, p2, q2, rfl, rfl, rfl, h2, r2⟩ := trodAll_cons r1
  obtain ⟨v3, vs3, d3, ds3, p3, q3, rfl, rfl, rfl, h3, r3⟩ := trodAll_cons r2
  obtain ⟨v4, vs4, d4, ds4, p4, q4, rfl, rfl, rfl, h4, r4⟩ := trodAll_cons r3
  obtain ⟨rfl, rfl, rfl⟩ := trodAll_nil r4
  obtain rfl : args = #[v0, v1, v2, v3, v4] := by cases args; simp_all
  obtain ⟨rfl, rfl⟩ := trodVars_none hV
  have lt0 : ∀ x ∈ p0, x.block < W.heap.size := by obtain ⟨m, hm⟩ := h0; exact DataW.trod_lt m _ _ _ hm
  obtain ⟨l0, e0, rfl, u0⟩ := open_rowK (n := 9) (k := .i8) (by kernel_rfl) (by kernel_rfl) (hval 0 90 v0 rfl rfl) h0
  have lt1 : ∀ x ∈ p1, x.block < W.heap.size := by obtain ⟨m, hm⟩ := h1; exact DataW.trod_lt m _ _ _ hm
  obtain ⟨l1, e1, rfl, u1⟩ := open_rowK (n := 3) (k := .i8) (by kernel_rfl) (by kernel_rfl) (hval 1 87 v1 rfl rfl) h1
  have lt2 : ∀ x ∈ p2, x.block < W.heap.size := by obtain ⟨m, hm⟩ := h2; exact DataW.trod_lt m _ _ _ hm
  obtain ⟨l2, e2, rfl, u2⟩ := open_rowK (n := 3) (k := .i8) (by kernel_rfl) (by kernel_rfl) (hval 2 87 v2 rfl rfl) h2
  have lt3 : ∀ x ∈ p3, x.block < W.heap.size := by obtain ⟨m, hm⟩ := h3; exact DataW.trod_lt m _ _ _ hm
  obtain ⟨l3, e3, rfl, u3⟩ := open_rowK (n := 3) (k := .u8) (by kernel_rfl) (by kernel_rfl) (hval 3 91 v3 rfl rfl) h3
  have lt4 : ∀ x ∈ p4, x.block < W.heap.size := by obtain ⟨m, hm⟩ := h4; exact DataW.trod_lt m _ _ _ hm
  obtain ⟨x4, rfl, _, _, u4⟩ := open_int Try.underlying5 (hval 4 5 v4 rfl rfl) h4
  clear hA0 hval0
  refine (wholeCells_walk l0 e0 u0 l1 e1 u1 l2 e2 u2 l3 e3 u3 x4 u4 W).mono fun e W' ⟨he, bel⟩ => ?_
  subst he
  exact ⟨_, rfl, _, _, _, [], _, [], hW', trodAll_mk1 (shut_bool Try.underlying4 _), (trodAll_cons_mk (Below.trod laidOut (by kernel_rfl) (of_decide_eq_true (by kernel_rfl)) h0 bel lt0) (trodAll_cons_mk (Below.trod laidOut (by kernel_rfl) (of_decide_eq_true (by kernel_rfl)) h1 bel lt1) (trodAll_cons_mk (Below.trod laidOut (by kernel_rfl) (of_decide_eq_true (by kernel_rfl)) h2 bel lt2) (trodAll_cons_mk (Below.trod laidOut (by kernel_rfl) (of_decide_eq_true (by kernel_rfl)) h3 bel lt3) (trodAll_cons_mk (Below.trod laidOut (by kernel_rfl) (of_decide_eq_true (by kernel_rfl)) h4 bel lt4) trodAll_mk0))))), rfl, bel.frame _, fun h => by cases h⟩

theorem wholeCells_holds : Rows.WholeCellsSaid :=
  OpenClaim.holds_of_wide 17 Try.f17 rfl rfl rfl rfl rfl rfl rfl ⟨rfl, rfl, rfl, rfl, rfl⟩ rfl rfl rfl rfl rfl (by kernel_rfl) Try.func17 (by kernel_rfl)
    (of_decide_eq_true (by kernel_rfl)) (by unfold Func.isWrapper; first | (rw [if_pos (by decide +kernel)]; kernel_rfl) | (rw [if_neg (by decide +kernel)]; exact ⟨rfl, rfl⟩))
    (fun os started H enc _ => wholeCells_lifted os started H enc)

end Go.Proofs.Ytofblakbfmjgkaa
