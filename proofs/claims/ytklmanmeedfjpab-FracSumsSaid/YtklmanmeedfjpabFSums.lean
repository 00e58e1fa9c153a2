/-
  PROVED: for every two columns and every number, facetlaw02.FracSums answers true: frac.Add, Sub, Neg and Times answer as the document says.
  No condition beyond the statement's own.
-/
import Derived.Test.YtklmanmeedfjpabFracC
import Derived.Test.YtklmanmeedfjpabFracM
import Derived.WalkKit
import Derived.ProofKit
import Derived.OpenShut
import Derived.ShutString
import Derived.ChangeOld
import Derived.Below
namespace Go.Proofs.Ytklmanmeedfjpab
open Go Vx
open Go.ChangeShapes Go.WideShapes Go.ChangeAt Go.RowKit

theorem own : ownKnob Try.prog.godebug = none := by kernel_rfl
theorem laidOut : laidOutB Try.prog = true := by kernel_rfl

def add1 (a b : Int) : Int := md (W (md a 24 + md b 24)) 24
def neg1 (a : Int) : Int := md (W (0 - md a 24)) 24
def times1 (n a : Int) : Int := md (W (md n 24 * md a 24)) 24
/-- Transcribed: the statement's own tests, in its order. -/
def sumsT (a b c d e f n : Int) : Option Value :=
  andO [eq3 (add1 a d) (add1 b e) (add1 c f) (add1 a d) (add1 b e) (add1 c f), eq3 (add1 a (neg1 d)) (add1 b (neg1 e)) (add1 c (neg1 f)) (add1 a (neg1 d)) (add1 b (neg1 e)) (add1 c (neg1 f)),
    eq3 (neg1 a) (neg1 b) (neg1 c) (neg1 a) (neg1 b) (neg1 c), eq3 (times1 n a) (times1 n b) (times1 n c) (times1 n a) (times1 n b) (times1 n c)]
theorem sums_run (a b c d e f n : Int) : exFun (CC Try.prog) 60 Try.f4 [.agg (intsK .i64 [a, b, c]).toArray, .agg (intsK .i64 [d, e, f]).toArray, .int .i64 n] = sumsT a b c d e f n := by kernel_rfl
theorem sums_law (l0 : List Int) (e0 : l0.length = 3) (_ : ∀ x ∈ l0, (Lit.int .i64 x).wf = true) (l1 : List Int) (e1 : l1.length = 3) (_ : ∀ x ∈ l1, (Lit.int .i64 x).wf = true) (n : Int) (_ : (Lit.int .i64 n).wf = true) :
    exFun (CC Try.prog) 60 Try.f4 [.agg (intsK .i64 l0).toArray, .agg (intsK .i64 l1).toArray, .int .i64 n] = some (.bool true) := by
  match l0, e0, l1, e1 with
  | [a, b, c], _, [d, e, f], _ =>
    rw [sums_run]
    unfold sumsT
    exact andO_eq _ (by simp [eq3])

theorem fracSums_walk (l0 : List Int) (e0 : l0.length = 3) (u0 : ∀ x ∈ l0, (Lit.int .i64 x).wf = true) (l1 : List Int) (e1 : l1.length = 3) (u1 : ∀ x ∈ l1, (Lit.int .i64 x).wf = true) (x2 : Int) (u2 : (Lit.int .i64 x2).wf = true) (w : World) : Calls Try.prog 4 #[.agg (intsK .i64 l0).toArray, .agg (intsK .i64 l1).toArray, .int .i64 x2] w fun e w' => e = .returned (.bool true) ∧ Below w.heap.size w w' :=
  exFun_calls okC Try.func4 (args := [.agg (intsK .i64 l0).toArray, .agg (intsK .i64 l1).toArray, .int .i64 x2]) (by
    intro x hx
    simp only [List.mem_cons, List.not_mem_nil, or_false] at hx
    rcases hx with rfl | rfl | rfl <;> rfl) (sums_law l0 e0 u0 l1 e1 u1 x2 u2) w

set_option maxRecDepth 100000 in
theorem fracSums_lifted (os : Os) (started : os.Started) (H : Type) (enc : TypeId × Value → H) :
    ReturnsInHanded {} Try.checked os 4 .any (Rows.fracSumsSpec.pre6 enc Try.prog Try.f4 Rows.fracSumsRow.domain false) (Rows.fracSumsSpec.post enc Try.prog Try.f4 false true false false) := by
  refine returnsInHanded_of_change (C := Try.checked) own started (by kernel_rfl) Try.func4
    (ChangeSpec.witness6 (enc := enc) (C := Try.checked) false ⟨#[], #[.agg #[.int .i64 0, .int .i64 0, .int .i64 0], .agg #[.int .i64 0, .int .i64 0, .int .i64 0], .int .i64 0], []⟩ 8 (by kernel_rfl) (by kernel_rfl) (by kernel_rfl) (by kernel_rfl)) ?_
  intro W base args ds gs before hval0 hW _ _
  have hval : ∀ (j : Nat) t v, Try.f4.params[j]? = some t → args[j]? = some v → Value.okWide Try.prog W .any base t v := hval0
  have hW' := hW
  obtain ⟨p, q, hA0, hV, rfl, _, _⟩ := hW
  have hA : DataW.TrodAll enc Try.prog W 0 (fun _ => true) true Try.f4.params.toList args.toList ds p := hA0
  rw [Try.params4] at hA hval
  obtain ⟨v0, vs0, d0, ds0, p0, q0, hargs, rfl, rfl, h0, r0⟩ := trodAll_cons hA
  obtain ⟨v1, vs1, d1, ds1, p1, q1, rfl, rfl, rfl, h1, r1⟩ := trodAll_cons r0
  obtain ⟨v2, vs2, d2, ds2, p2, q2, rfl, rfl, rfl, h2, r2⟩ := trodAll_cons r1
  obtain ⟨rfl, rfl, rfl⟩ := trodAll_nil r2
  obtain rfl : args = #[v0, v1, v2] := by cases args; simp_all
  obtain ⟨rfl, rfl⟩ := trodVars_none hV
  have lt0 : ∀ x ∈ p0, x.block < W.heap.size := by obtain ⟨m, hm⟩ := h0; exact DataW.trod_lt m _ _ _ hm
  obtain ⟨l0, e0, rfl, u0⟩ := open_rowK (n := 3) (k := .i64) (by kernel_rfl) (by kernel_rfl) (hval 0 36 v0 rfl rfl) h0
  have lt1 : ∀ x ∈ p1, x.block < W.heap.size := by obtain ⟨m, hm⟩ := h1; exact DataW.trod_lt m _ _ _ hm
  obtain ⟨l1, e1, rfl, u1⟩ := open_rowK (n := 3) (k := .i64) (by kernel_rfl) (by kernel_rfl) (hval 1 36 v1 rfl rfl) h1
  have lt2 : ∀ x ∈ p2, x.block < W.heap.size := by obtain ⟨m, hm⟩ := h2; exact DataW.trod_lt m _ _ _ hm
  obtain ⟨x2, rfl, _, _, u2⟩ := open_int Try.underlying3 (hval 2 3 v2 rfl rfl) h2
  clear hA0 hval0
  refine (fracSums_walk l0 e0 u0 l1 e1 u1 x2 u2 W).mono fun e W' ⟨he, bel⟩ => ?_
  subst he
  exact ⟨_, rfl, _, _, _, [], _, [], hW', trodAll_mk1 (shut_bool Try.underlying4 _), (trodAll_cons_mk (Below.trod laidOut (by kernel_rfl) (of_decide_eq_true (by kernel_rfl)) h0 bel lt0) (trodAll_cons_mk (Below.trod laidOut (by kernel_rfl) (of_decide_eq_true (by kernel_rfl)) h1 bel lt1) (trodAll_cons_mk (Below.trod laidOut (by kernel_rfl) (of_decide_eq_true (by kernel_rfl)) h2 bel lt2) trodAll_mk0))), rfl, bel.frame _, fun h => by cases h⟩

theorem fracSums_holds : Rows.FracSumsSaid :=
  OpenClaim.holds_of_wide 4 Try.f4 rfl rfl rfl rfl rfl rfl rfl ⟨rfl, rfl, rfl, rfl, rfl⟩ rfl rfl rfl rfl rfl (by kernel_rfl) Try.func4 (by kernel_rfl)
    (of_decide_eq_true (by kernel_rfl)) (by unfold Func.isWrapper; first | (rw [if_pos (by decide +kernel)]; kernel_rfl) | (rw [if_neg (by decide +kernel)]; exact ⟨rfl, rfl⟩))
    (fun os started H enc _ => fracSums_lifted os started H enc)

end Go.Proofs.Ytklmanmeedfjpab
