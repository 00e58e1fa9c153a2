/-
  PROVED: for every two matrices and every column, facetlaw01.VecProducts answers true: vec.Mul, Apply and Left answer as the document says.
  No condition beyond the statement's own.
-/
import Derived.Test.YtklmanmeedfjpaaVecA
import Derived.Test.YtklmanmeedfjpaaVecM
import Derived.WalkKit
import Derived.ProofKit
import Derived.OpenShut
import Derived.ShutString
import Derived.ChangeOld
import Derived.Below
namespace Go.Proofs.Ytklmanmeedfjpaa
open Go Vx
open Go.ChangeShapes Go.WideShapes Go.ChangeAt Go.RowKit

theorem own : ownKnob Try.prog.godebug = none := by kernel_rfl
theorem laidOut : laidOutB Try.prog = true := by kernel_rfl

def productsEnd (a b c d e f g h i x y z : Int) : Option Value :=
  orB [matR a b c d e f g h i != 0, colR x y z != 0]
    (andO [nth (applyR a b c d e f g h i x y z) 3 == 4, nth (leftR a b c d e f g h i x y z) 3 == 4, eq3 (nth (applyR a b c d e f g h i x y z) 0) (nth (applyR a b c d e f g h i x y z) 1) (nth (applyR a b c d e f g h i x y z) 2) 0 0 0, eq3 (nth (leftR a b c d e f g h i x y z) 0) (nth (leftR a b c d e f g h i x y z) 1) (nth (leftR a b c d e f g h i x y z) 2) 0 0 0])
    (andO [nth (applyR a b c d e f g h i x y z) 3 == 0, nth (leftR a b c d e f g h i x y z) 3 == 0, eq3 (nth (applyR a b c d e f g h i x y z) 0) (nth (applyR a b c d e f g h i x y z) 1) (nth (applyR a b c d e f g h i x y z) 2) (rdot a b c x y z) (rdot d e f x y z) (rdot g h i x y z), eq3 (nth (leftR a b c d e f g h i x y z) 0) (nth (leftR a b c d e f g h i x y z) 1) (nth (leftR a b c d e f g h i x y z) 2) (rdot a d g x y z) (rdot b e h x y z) (rdot c f i x y z)])
/-- Transcribed: the statement's own tests, in its order. -/
def productsT (a b c d e f g h i j k l m n o p q r x y z : Int) : Option Value :=
  orB [matR a b c d e f g h i != 0, matR j k l m n o p q r != 0]
    (guardF [nth (mulR a b c d e f g h i j k l m n o p q r) 9 != 4, !(eq9 (nth (mulR a b c d e f g h i j k l m n o p q r) 0) (nth (mulR a b c d e f g h i j k l m n o p q r) 1) (nth (mulR a b c d e f g h i j k l m n o p q r) 2) (nth (mulR a b c d e f g h i j k l m n o p q r) 3) (nth (mulR a b c d e f g h i j k l m n o p q r) 4) (nth (mulR a b c d e f g h i j k l m n o p q r) 5) (nth (mulR a b c d e f g h i j k l m n o p q r) 6) (nth (mulR a b c d e f g h i j k l m n o p q r) 7) (nth (mulR a b c d e f g h i j k l m n o p q r) 8) 0 0 0 0 0 0 0 0 0)] (productsEnd a b c d e f g h i x y z))
    (guardF [nth (mulR a b c d e f g h i j k l m n o p q r) 9 != 0, !(eq9 (nth (mulR a b c d e f g h i j k l m n o p q r) 0) (nth (mulR a b c d e f g h i j k l m n o p q r) 1) (nth (mulR a b c d e f g h i j k l m n o p q r) 2) (nth (mulR a b c d e f g h i j k l m n o p q r) 3) (nth (mulR a b c d e f g h i j k l m n o p q r) 4) (nth (mulR a b c d e f g h i j k l m n o p q r) 5) (nth (mulR a b c d e f g h i j k l m n o p q r) 6) (nth (mulR a b c d e f g h i j k l m n o p q r) 7) (nth (mulR a b c d e f g h i j k l m n o p q r) 8) (rdot a b c j m p) (rdot a b c k n q) (rdot a b c l o r) (rdot d e f j m p) (rdot d e f k n q) (rdot d e f l o r) (rdot g h i j m p) (rdot g h i k n q) (rdot g h i l o r))] (productsEnd a b c d e f g h i x y z))
theorem products_run (a b c d e f g h i j k l m n o p q r x y z : Int) : exFun (C17 Try.prog) 60 Try.f3 [.agg (intsK .i64 [a, b, c, d, e, f, g, h, i]).toArray, .agg (intsK .i64 [j, k, l, m, n, o, p, q, r]).toArray, .agg (intsK .i64 [x, y, z]).toArray] = productsT a b c d e f g h i j k l m n o p q r x y z := by kernel_rfl
theorem dot_comm (a b c d e f : Int) : dotR a b c d e f = dotR d e f a b c := by
  unfold dotR
  rw [Int.mul_comm a, Int.mul_comm b, Int.mul_comm c]
theorem end_true (a b c d e f g h i x y z : Int) : productsEnd a b c d e f g h i x y z = some (.bool true) := by
  unfold productsEnd
  rw [mat_eq, col_eq, applyR_eq, leftR_eq]
  simp only [rdot_eq]
  cases inB 1000 [a, b, c, d, e, f, g, h, i]
  · rfl
  · cases inB 2147483648 [x, y, z]
    · rfl
    · simp only [cond_true, Bool.and_self]
      refine (andO_eq _ ?_)
      simp [nth, applyD, leftD, eq3, dot_comm x y z]
theorem products_true (a b c d e f g h i j k l m n o p q r x y z : Int) : productsT a b c d e f g h i j k l m n o p q r x y z = some (.bool true) := by
  unfold productsT
  rw [end_true, mat_eq, mat_eq, mulR_eq]
  simp only [rdot_eq]
  cases inB 1000 [a, b, c, d, e, f, g, h, i]
  · rfl
  · cases inB 1000 [j, k, l, m, n, o, p, q, r]
    · rfl
    · simp only [cond_true, Bool.and_self]
      refine (guardF_eq _ _ ?_)
      simp [nth, mulD, prodL, eq9, eq3]
theorem products_law (l0 : List Int) (e0 : l0.length = 9) (_ : ∀ x ∈ l0, (Lit.int .i64 x).wf = true) (l1 : List Int) (e1 : l1.length = 9) (_ : ∀ x ∈ l1, (Lit.int .i64 x).wf = true) (l2 : List Int) (e2 : l2.length = 3) (_ : ∀ x ∈ l2, (Lit.int .i64 x).wf = true) :
    exFun (C17 Try.prog) 60 Try.f3 [.agg (intsK .i64 l0).toArray, .agg (intsK .i64 l1).toArray, .agg (intsK .i64 l2).toArray] = some (.bool true) := by
  match l0, e0, l1, e1, l2, e2 with
  | [a, b, c, d, e, f, g, h, i], _, [j, k, l, m, n, o, p, q, r], _, [x, y, z], _ => rw [products_run, products_true]

theorem vecProducts_walk (l0 : List Int) (e0 : l0.length = 9) (u0 : ∀ x ∈ l0, (Lit.int .i64 x).wf = true) (l1 : List Int) (e1 : l1.length = 9) (u1 : ∀ x ∈ l1, (Lit.int .i64 x).wf = true) (l2 : List Int) (e2 : l2.length = 3) (u2 : ∀ x ∈ l2, (Lit.int .i64 x).wf = true) (w : World) : Calls Try.prog 3 #[.agg (intsK .i64 l0).toArray, .agg (intsK .i64 l1).toArray, .agg (intsK .i64 l2).toArray] w fun e w' => e = .returned (.bool true) ∧ Below w.heap.size w w' :=
  exFun_calls ok17 Try.func3 (args := [.agg (intsK .i64 l0).toArray, .agg (intsK .i64 l1).toArray, .agg (intsK .i64 l2).toArray]) (by
    intro x hx
    simp only [List.mem_cons, List.not_mem_nil, or_false] at hx
    rcases hx with rfl | rfl | rfl <;> rfl) (products_law l0 e0 u0 l1 e1 u1 l2 e2 u2) w

set_option maxRecDepth 100000 in
theorem vecProducts_lifted (os : Os) (started : os.Started) (H : Type) (enc : TypeId × Value → H) :
    ReturnsInHanded {} Try.checked os 3 .any (Rows.vecProductsSpec.pre6 enc Try.prog Try.f3 Rows.vecProductsRow.domain false) (Rows.vecProductsSpec.post enc Try.prog Try.f3 false true false false) := by
  refine returnsInHanded_of_change (C := Try.checked) own started (by kernel_rfl) Try.func3
    (ChangeSpec.witness6 (enc := enc) (C := Try.checked) false ⟨#[], #[.agg #[.int .i64 0, .int .i64 0, .int .i64 0, .int .i64 0, .int .i64 0, .int .i64 0, .int .i64 0, .int .i64 0, .int .i64 0], .agg #[.int .i64 0, .int .i64 0, .int .i64 0, .int .i64 0, .int .i64 0, .int .i64 0, .int .i64 0, .int .i64 0, .int .i64 0], .agg #[.int .i64 0, .int .i64 0, .int .i64 0]], []⟩ 8 (by kernel_rfl) (by kernel_rfl) (by kernel_rfl) (by kernel_rfl)) ?_
  intro W base args ds gs before hval0 hW _ _
  have hval : ∀ (j : Nat) t v, Try.f3.params[j]? = some t → args[j]? = some v → Value.okWide Try.prog W .any base t v := hval0
  have hW' := hW
  obtain ⟨p, q, hA0, hV, rfl, _, _⟩ := hW
  have hA : DataW.TrodAll enc Try.prog W 0 (fun _ => true) true Try.f3.params.toList args.toList ds p := hA0
  rw [Try.params3] at hA hval
  obtain ⟨v0, vs0, d0, ds0, p0, q0, hargs, rfl, rfl, h0, r0⟩ := trodAll_cons hA
  obtain ⟨v1, vs1, d1, ds1, p1, q1, rfl, rfl, rfl, h1, r1⟩ := trodAll_cons r0
  obtain ⟨v2, vs2, d2, ds2, p2, q2, rfl, rfl, rfl, h2, r2⟩ := trodAll_cons r1
  obtain ⟨rfl, rfl, rfl⟩ := trodAll_nil r2
  obtain rfl : args = #[v0, v1, v2] := by cases args; simp_all
  obtain ⟨rfl, rfl⟩ := trodVars_none hV
  have lt0 : ∀ x ∈ p0, x.block < W.heap.size := by obtain ⟨m, hm⟩ := h0; exact DataW.trod_lt m _ _ _ hm
  obtain ⟨l0, e0, rfl, u0⟩ := open_rowK (n := 9) (k := .i64) (by kernel_rfl) (by kernel_rfl) (hval 0 24 v0 rfl rfl) h0
  have lt1 : ∀ x ∈ p1, x.block < W.heap.size := by obtain ⟨m, hm⟩ := h1; exact DataW.trod_lt m _ _ _ hm
  obtain ⟨l1, e1, rfl, u1⟩ := open_rowK (n := 9) (k := .i64) (by kernel_rfl) (by kernel_rfl) (hval 1 24 v1 rfl rfl) h1
  have lt2 : ∀ x ∈ p2, x.block < W.heap.size := by obtain ⟨m, hm⟩ := h2; exact DataW.trod_lt m _ _ _ hm
  obtain ⟨l2, e2, rfl, u2⟩ := open_rowK (n := 3) (k := .i64) (by kernel_rfl) (by kernel_rfl) (hval 2 25 v2 rfl rfl) h2
  clear hA0 hval0
  refine (vecProducts_walk l0 e0 u0 l1 e1 u1 l2 e2 u2 W).mono fun e W' ⟨he, bel⟩ => ?_
  subst he
  exact ⟨_, rfl, _, _, _, [], _, [], hW', trodAll_mk1 (shut_bool Try.underlying4 _), (trodAll_cons_mk (Below.trod laidOut (by kernel_rfl) (of_decide_eq_true (by kernel_rfl)) h0 bel lt0) (trodAll_cons_mk (Below.trod laidOut (by kernel_rfl) (of_decide_eq_true (by kernel_rfl)) h1 bel lt1) (trodAll_cons_mk (Below.trod laidOut (by kernel_rfl) (of_decide_eq_true (by kernel_rfl)) h2 bel lt2) trodAll_mk0))), rfl, bel.frame _, fun h => by cases h⟩

theorem vecProducts_holds : Rows.VecProductsSaid :=
  OpenClaim.holds_of_wide 3 Try.f3 rfl rfl rfl rfl rfl rfl rfl ⟨rfl, rfl, rfl, rfl, rfl⟩ rfl rfl rfl rfl rfl (by kernel_rfl) Try.func3 (by kernel_rfl)
    (of_decide_eq_true (by kernel_rfl)) (by unfold Func.isWrapper; first | (rw [if_pos (by decide +kernel)]; kernel_rfl) | (rw [if_neg (by decide +kernel)]; exact ⟨rfl, rfl⟩))
    (fun os started H enc _ => vecProducts_lifted os started H enc)

end Go.Proofs.Ytklmanmeedfjpaa
