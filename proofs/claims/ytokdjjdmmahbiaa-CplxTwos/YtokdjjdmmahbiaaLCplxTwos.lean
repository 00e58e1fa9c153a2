/-
  PROVED: for every two numbers, whatever their bits, facetlaw16.CplxTwos answers true: cplx.Same, Scale and Mul answer as the document says, and Mul either way round the same.
  No condition beyond the statement's own.
-/
import Derived.Test.YtokdjjdmmahbiaaTCx1
import Derived.Test.YtokdjjdmmahbiaaFltM
import Derived.WalkKit
import Derived.ProofKit
import Derived.OpenShut
import Derived.ShutString
import Derived.ChangeOld
import Derived.Below
namespace Go.Proofs.Ytokdjjdmmahbiaa
open Go Vx
open Go.ChangeShapes Go.WideShapes Go.ChangeAt Go.RowKit

theorem own : ownKnob Try.prog.godebug = none := by kernel_rfl
theorem laidOut : laidOutB Try.prog = true := by kernel_rfl

theorem cplxTwos_run (a b c d : Int) : exFun ((CCc Try.prog).at 13) 80 Try.f13 [.agg (intsK .u64 [a, b]).toArray, .agg (intsK .u64 [c, d]).toArray] = (match ((sameN a.toNat c.toNat && sameN b.toNat d.toNat) == (sameN a.toNat c.toNat && sameN b.toNat d.toNat)) with | true => (match (sameN (fmul .f64 c.toNat a.toNat) (fmul .f64 c.toNat a.toNat) && sameN (fmul .f64 c.toNat b.toNat) (fmul .f64 c.toNat b.toNat)) with | true => (match (sameN (fsub .f64 (fmul .f64 a.toNat c.toNat) (fmul .f64 b.toNat d.toNat)) (fsub .f64 (fmul .f64 a.toNat c.toNat) (fmul .f64 b.toNat d.toNat)) && sameN (fadd .f64 (fmul .f64 a.toNat d.toNat) (fmul .f64 b.toNat c.toNat)) (fadd .f64 (fmul .f64 a.toNat d.toNat) (fmul .f64 b.toNat c.toNat))) with | true => some (.bool (sameN (fsub .f64 (fmul .f64 a.toNat c.toNat) (fmul .f64 b.toNat d.toNat)) (fsub .f64 (fmul .f64 c.toNat a.toNat) (fmul .f64 d.toNat b.toNat)) && sameN (fadd .f64 (fmul .f64 a.toNat d.toNat) (fmul .f64 b.toNat c.toNat)) (fadd .f64 (fmul .f64 c.toNat b.toNat) (fmul .f64 d.toNat a.toNat)))) | false => some (.bool false)) | false => some (.bool false)) | false => some (.bool false)) := by kernel_rfl
theorem cplxTwos_law (l0 : List Int) (z0 : l0.length = 2) (_ : ∀ x ∈ l0, (Lit.int .u64 x).wf = true) (l1 : List Int) (z1 : l1.length = 2) (_ : ∀ x ∈ l1, (Lit.int .u64 x).wf = true) : exFun ((CCc Try.prog).at 13) 80 Try.f13 [.agg (intsK .u64 l0).toArray, .agg (intsK .u64 l1).toArray] = some (.bool true) := by
  match l0, z0, l1, z1 with
  | [a, b], _, [c, d], _ =>
    rw [cplxTwos_run]
    rw [fmul_comm .f64 c.toNat a.toNat, fmul_comm .f64 d.toNat b.toNat, fmul_comm .f64 c.toNat b.toNat, fmul_comm .f64 d.toNat a.toNat, fadd_comm .f64 (fmul .f64 b.toNat c.toNat)]
    simp only [beq_self_eq_true, sameN_refl, Bool.and_self]

theorem cplxTwos_walk (l0 : List Int) (e0 : l0.length = 2) (u0 : ∀ x ∈ l0, (Lit.int .u64 x).wf = true) (l1 : List Int) (e1 : l1.length = 2) (u1 : ∀ x ∈ l1, (Lit.int .u64 x).wf = true) (w : World) : Calls Try.prog 13 #[.agg (intsK .u64 l0).toArray, .agg (intsK .u64 l1).toArray] w fun e w' => e = .returned (.bool true) ∧ Below w.heap.size w w' :=
  exFun_calls okCc Try.func13 (by kernel_rfl) (args := [.agg (intsK .u64 l0).toArray, .agg (intsK .u64 l1).toArray]) (by
    intro x hx
    simp only [List.mem_cons, List.not_mem_nil, or_false] at hx
    rcases hx with rfl | rfl <;> first | rfl | exact plain_ints _ _) (cplxTwos_law l0 e0 u0 l1 e1 u1) w

set_option maxRecDepth 100000 in
theorem cplxTwos_lifted (os : Os) (started : os.Started) (H : Type) (enc : TypeId × Value → H) :
    ReturnsInHanded {} Try.checked os 13 .any (Rows.cplxTwosSpec.pre6 enc Try.prog Try.f13 Rows.cplxTwosRow.domain false) (Rows.cplxTwosSpec.post enc Try.prog Try.f13 false true false false) := by
  refine returnsInHanded_of_change (C := Try.checked) own started (by kernel_rfl) Try.func13
    (ChangeSpec.witness6 (enc := enc) (C := Try.checked) false ⟨#[], #[.agg #[.int .u64 0, .int .u64 0], .agg #[.int .u64 0, .int .u64 0]], []⟩ 8 (by kernel_rfl) (by kernel_rfl) (by kernel_rfl) (by kernel_rfl)) ?_
  intro W base args ds gs before hval0 hW _ _
  have hval : ∀ (j : Nat) t v, Try.f13.params[j]? = some t → args[j]? = some v → Value.okWide Try.prog W .any base t v := hval0
  have hW' := hW
  obtain ⟨p, q, hA0, hV, rfl, _, _⟩ := hW
  have hA : DataW.TrodAll enc Try.prog W 0 (fun _ => true) true Try.f13.params.toList args.toList ds p := hA0
  rw [Try.params13] at hA hval
  obtain ⟨v0, vs0, d0, ds0, p0, q0, hargs, rfl, rfl, h0, r0⟩ := trodAll_cons hA
  obtain ⟨v1, vs1, d1, ds1, p1, q1, rfl, rfl, rfl, h1, r1⟩ := trodAll_cons r0
  obtain ⟨rfl, rfl, rfl⟩ := trodAll_nil r1
  obtain rfl : args = #[v0, v1] := by cases args; simp_all
  obtain ⟨rfl, rfl⟩ := trodVars_none hV
  have lt0 : ∀ x ∈ p0, x.block < W.heap.size := by obtain ⟨m, hm⟩ := h0; exact DataW.trod_lt m _ _ _ hm
  obtain ⟨l0, e0, rfl, u0⟩ := open_rowK (n := 2) (k := .u64) (by kernel_rfl) (by kernel_rfl) (hval 0 65 v0 rfl rfl) h0
  have lt1 : ∀ x ∈ p1, x.block < W.heap.size := by obtain ⟨m, hm⟩ := h1; exact DataW.trod_lt m _ _ _ hm
  obtain ⟨l1, e1, rfl, u1⟩ := open_rowK (n := 2) (k := .u64) (by kernel_rfl) (by kernel_rfl) (hval 1 65 v1 rfl rfl) h1
  clear hA0 hval0
  refine (cplxTwos_walk l0 e0 u0 l1 e1 u1 W).mono fun e W' ⟨he, bel⟩ => ?_
  subst he
  exact ⟨_, rfl, _, _, _, [], _, [], hW', trodAll_mk1 (shut_bool Try.underlying4 _), (trodAll_cons_mk (Below.trod laidOut (by kernel_rfl) (of_decide_eq_true (by kernel_rfl)) h0 bel lt0) (trodAll_cons_mk (Below.trod laidOut (by kernel_rfl) (of_decide_eq_true (by kernel_rfl)) h1 bel lt1) trodAll_mk0)), rfl, bel.frame _, fun h => by cases h⟩

theorem cplxTwos_holds : Rows.CplxTwosSaid :=
  OpenClaim.holds_of_wide 13 Try.f13 rfl rfl rfl rfl rfl rfl rfl ⟨rfl, rfl, rfl, rfl, rfl⟩ rfl rfl rfl rfl rfl (by kernel_rfl) Try.func13 (by kernel_rfl)
    (of_decide_eq_true (by kernel_rfl)) (by unfold Func.isWrapper; first | (rw [if_pos (by decide +kernel)]; kernel_rfl) | (rw [if_neg (by decide +kernel)]; exact ⟨rfl, rfl⟩))
    (fun os started H enc _ => cplxTwos_lifted os started H enc)

end Go.Proofs.Ytokdjjdmmahbiaa
