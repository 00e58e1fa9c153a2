/-
  PROVED: for every place, number and column, facetlaw02.FracPlaces answers true: frac.Form, Place and Finer answer as the document says.
  No condition beyond the statement's own.
-/
import Derived.Test.YtklmanmeedfjpabFracC
import Derived.Test.YtklmanmeedfjpabFracM
import Derived.WalkKit
import Derived.ProofKit
import Derived.OpenShut
import Derived.ShutString
import Derived.ChangeOld
import Derived.Below
namespace Go.Proofs.Ytklmanmeedfjpab
open Go Vx
open Go.ChangeShapes Go.WideShapes Go.ChangeAt Go.RowKit

theorem own : ownKnob Try.prog.godebug = none := by kernel_rfl
theorem laidOut : laidOutB Try.prog = true := by kernel_rfl

/-- Transcribed: the statement's own tests, in its order. -/
def placesT (M x y z m t u v : Int) : Option Value :=
  guardF [!(formB M x y z == formB M x y z)]
    (guardF [!(eqP (nth (placeR m t u v) 0) (nth (placeR m t u v) 1) (nth (placeR m t u v) 2) (nth (placeR m t u v) 3) (nth (placeR m t u v) 0) (nth (placeR m t u v) 1) (nth (placeR m t u v) 2) (nth (placeR m t u v) 3)), nth (placeR m t u v) 4 != nth (placeR m t u v) 4]
      (andO [eqP (nth (finR M x y z m) 0) (nth (finR M x y z m) 1) (nth (finR M x y z m) 2) (nth (finR M x y z m) 3) (nth (dfinR M x y z m) 0) (nth (dfinR M x y z m) 1) (nth (dfinR M x y z m) 2) (nth (dfinR M x y z m) 3), nth (finR M x y z m) 4 == nth (dfinR M x y z m) 4]))
theorem places_run (M x y z m t u v : Int) : exFun (CC Try.prog) 60 Try.f5 [.agg (intsK .i64 [M, x, y, z]).toArray, .int .i64 m, .agg (intsK .i64 [t, u, v]).toArray] = placesT M x y z m t u v := by kernel_rfl
theorem places_law (l0 : List Int) (e0 : l0.length = 4) (_ : ∀ x ∈ l0, (Lit.int .i64 x).wf = true) (m : Int) (_ : (Lit.int .i64 m).wf = true) (l1 : List Int) (e1 : l1.length = 3) (_ : ∀ x ∈ l1, (Lit.int .i64 x).wf = true) :
    exFun (CC Try.prog) 60 Try.f5 [.agg (intsK .i64 l0).toArray, .int .i64 m, .agg (intsK .i64 l1).toArray] = some (.bool true) := by
  match l0, e0, l1, e1 with
  | [M, x, y, z], _, [t, u, v], _ =>
    rw [places_run]
    unfold placesT
    rw [fin_same, guardF_eq _ _ (by simp), guardF_eq _ _ (by simp [eqP, eq3])]
    exact andO_eq _ (by simp [eqP, eq3])

theorem fracPlaces_walk (l0 : List Int) (e0 : l0.length = 4) (u0 : ∀ x ∈ l0, (Lit.int .i64 x).wf = true) (x1 : Int) (u1 : (Lit.int .i64 x1).wf = true) (l2 : List Int) (e2 : l2.length = 3) (u2 : ∀ x ∈ l2, (Lit.int .i64 x).wf = true) (w : World) : Calls Try.prog 5 #[.agg (intsK .i64 l0).toArray, .int .i64 x1, .agg (intsK .i64 l2).toArray] w fun e w' => e = .returned (.bool true) ∧ Below w.heap.size w w' :=
  exFun_calls okC Try.func5 (args := [.agg (intsK .i64 l0).toArray, .int .i64 x1, .agg (intsK .i64 l2).toArray]) (by
    intro x hx
    simp only [List.mem_cons, List.not_mem_nil, or_false] at hx
    rcases hx with rfl | rfl | rfl <;> rfl) (places_law l0 e0 u0 x1 u1 l2 e2 u2) w

set_option maxRecDepth 100000 in
theorem fracPlaces_lifted (os : Os) (started : os.Started) (H : Type) (enc : TypeId × Value → H) :
    ReturnsInHanded {} Try.checked os 5 .any (Rows.fracPlacesSpec.pre6 enc Try.prog Try.f5 Rows.fracPlacesRow.domain false) (Rows.fracPlacesSpec.post enc Try.prog Try.f5 false true false false) := by
  refine returnsInHanded_of_change (C := Try.checked) own started (by kernel_rfl) Try.func5
    (ChangeSpec.witness6 (enc := enc) (C := Try.checked) false ⟨#[], #[.agg #[.int .i64 0, .int .i64 0, .int .i64 0, .int .i64 0], .int .i64 0, .agg #[.int .i64 0, .int .i64 0, .int .i64 0]], []⟩ 8 (by kernel_rfl) (by kernel_rfl) (by kernel_rfl) (by kernel_rfl)) ?_
  intro W base args ds gs before hval0 hW _ _
  have hval : ∀ (j : Nat) t v, Try.f5.params[j]? = some t → args[j]? = some v → Value.okWide Try.prog W .any base t v := hval0
  have hW' := hW
  obtain ⟨p, q, hA0, hV, rfl, _, _⟩ := hW
  have hA : DataW.TrodAll enc Try.prog W 0 (fun _ => true) true Try.f5.params.toList args.toList ds p := hA0
  rw [Try.params5] at hA hval
  obtain ⟨v0, vs0, d0, ds0, p0, q0, hargs, rfl, rfl, h0, r0⟩ := trodAll_cons hA
  obtain ⟨v1, vs1, d1, ds1, p1, q1, rfl, rfl, rfl, h1, r1⟩ := trodAll_cons r0
  obtain ⟨v2, vs2, d2, ds2, p2, q2, rfl, rfl, rfl, h2, r2⟩ := trodAll_cons r1
  obtain ⟨rfl, rfl, rfl⟩ := trodAll_nil r2
  obtain rfl : args = #[v0, v1, v2] := by cases args; simp_all
  obtain ⟨rfl, rfl⟩ := trodVars_none hV
  have lt0 : ∀ x ∈ p0, x.block < W.heap.size := by obtain ⟨m, hm⟩ := h0; exact DataW.trod_lt m _ _ _ hm
  obtain ⟨l0, e0, rfl, u0⟩ := open_rowK (n := 4) (k := .i64) (by kernel_rfl) (by kernel_rfl) (hval 0 45 v0 rfl rfl) h0
  have lt1 : ∀ x ∈ p1, x.block < W.heap.size := by obtain ⟨m, hm⟩ := h1; exact DataW.trod_lt m _ _ _ hm
  obtain ⟨x1, rfl, _, _, u1⟩ := open_int Try.underlying3 (hval 1 3 v1 rfl rfl) h1
  have lt2 : ∀ x ∈ p2, x.block < W.heap.size := by obtain ⟨m, hm⟩ := h2; exact DataW.trod_lt m _ _ _ hm
  obtain ⟨l2, e2, rfl, u2⟩ := open_rowK (n := 3) (k := .i64) (by kernel_rfl) (by kernel_rfl) (hval 2 36 v2 rfl rfl) h2
  clear hA0 hval0
  refine (fracPlaces_walk l0 e0 u0 x1 u1 l2 e2 u2 W).mono fun e W' ⟨he, bel⟩ => ?_
  subst he
  exact ⟨_, rfl, _, _, _, [], _, [], hW', trodAll_mk1 (shut_bool Try.underlying4 _), (trodAll_cons_mk (Below.trod laidOut (by kernel_rfl) (of_decide_eq_true (by kernel_rfl)) h0 bel lt0) (trodAll_cons_mk (Below.trod laidOut (by kernel_rfl) (of_decide_eq_true (by kernel_rfl)) h1 bel lt1) (trodAll_cons_mk (Below.trod laidOut (by kernel_rfl) (of_decide_eq_true (by kernel_rfl)) h2 bel lt2) trodAll_mk0))), rfl, bel.frame _, fun h => by cases h⟩

theorem fracPlaces_holds : Rows.FracPlacesSaid :=
  OpenClaim.holds_of_wide 5 Try.f5 rfl rfl rfl rfl rfl rfl rfl ⟨rfl, rfl, rfl, rfl, rfl⟩ rfl rfl rfl rfl rfl (by kernel_rfl) Try.func5 (by kernel_rfl)
    (of_decide_eq_true (by kernel_rfl)) (by unfold Func.isWrapper; first | (rw [if_pos (by decide +kernel)]; kernel_rfl) | (rw [if_neg (by decide +kernel)]; exact ⟨rfl, rfl⟩))
    (fun os started H enc _ => fracPlaces_lifted os started H enc)

end Go.Proofs.Ytklmanmeedfjpab
