/-
  PROVED: for every list of maps and every list of indices, facetlaw14.AbsentSorts answers true: absent.Sort answers what the document's loops answer, and index by index it goes by absent.Is.
  No condition beyond the statement's own.
-/
import Derived.Test.YtjpfnfckpgilgaaHTAo5
import Derived.Test.YtjpfnfckpgilgaaKal
import Derived.WalkKit
import Derived.ProofKit
import Derived.OpenShut
import Derived.ShutString
import Derived.ChangeOld
import Derived.Below
import Derived.JoinedCond
namespace Go.Proofs.Ytjpfnfckpgilgaa
open Go Vx
open Go.ChangeShapes Go.WideShapes Go.ChangeAt Go.RowKit

theorem ints_v3 : ∀ {l : List Int}, l.length = 3 → ∃ u : V3, l = [u.x, u.y, u.z]
  | [a, b, c], _ => ⟨⟨a, b, c⟩, rfl⟩
theorem ints_p3 : ∀ {l : List Int}, l.length = 4 → ∃ p : P3, l = [p.m, p.x.x, p.x.y, p.x.z]
  | [a, b, c, d], _ => ⟨⟨a, ⟨b, c, d⟩⟩, rfl⟩
theorem own : ownKnob Try.prog.godebug = none := by kernel_rfl
theorem laidOut : laidOutB Try.prog = true := by kernel_rfl

set_option maxRecDepth 100000 in
theorem absentSorts_contract (H : Type) (enc : TypeId × Value → H) (W : World) (base : Nat) (args : Array Value) (ds gs : List (DataW H)) (before : List MemPlace)
    (hval : ∀ (j : Nat) t v, Try.f5.params[j]? = some t → args[j]? = some v → Value.okWide Try.prog W .any base t v)
    (hW : DataW.Whole enc Try.prog Try.f5.params.toList Rows.absentSortsSpec.vars false W args.toList ds gs before) :
    Calls Try.prog 5 args W fun e W' => ∃ v, e = .returned v ∧ Rows.absentSortsSpec.post enc Try.prog Try.f5 false true false false W args v W' := by
  have hW' := hW
  obtain ⟨p, q, hA0, hV, rfl, _, _⟩ := hW
  have hA : DataW.TrodAll enc Try.prog W 0 (fun _ => true) true Try.f5.params.toList args.toList ds p := hA0
  rw [Try.params5] at hA hval
  obtain ⟨v0, vs0, d0, ds0, p0, q0, hargs, rfl, rfl, h0, r0⟩ := trodAll_cons hA
  obtain ⟨v1, vs1, d1, ds1, p1, q1, rfl, rfl, rfl, h1, r1⟩ := trodAll_cons r0
  obtain ⟨rfl, rfl, rfl⟩ := trodAll_nil r1
  obtain rfl : args = #[v0, v1] := by cases args; simp_all
  obtain ⟨rfl, rfl⟩ := trodVars_none hV
  have lt0 : ∀ x ∈ p0, x.block < W.heap.size := by obtain ⟨m, hm⟩ := h0; exact DataW.trod_lt m _ _ _ hm
  have lt1 : ∀ x ∈ p1, x.block < W.heap.size := by obtain ⟨m, hm⟩ := h1; exact DataW.trod_lt m _ _ _ hm
  clear hA0
  have fin : ∀ (e : Ending) (W' : World), e = .returned (.bool true) ∧ Below W.heap.size W W' → ∃ v, e = .returned v ∧ Rows.absentSortsSpec.post enc Try.prog Try.f5 false true false false W #[v0, v1] v W' := fun e W' ⟨he, bel⟩ => by
    subst he
    exact ⟨_, rfl, _, _, _, [], _, [], hW', trodAll_mk1 (shut_bool Try.underlying4 _), (trodAll_cons_mk (Below.trod laidOut (by kernel_rfl) (of_decide_eq_true (by kernel_rfl)) h0 bel lt0) (trodAll_cons_mk (Below.trod laidOut (by kernel_rfl) (of_decide_eq_true (by kernel_rfl)) h1 bel lt1) trodAll_mk0)), rfl, bel.frame _, fun h => by cases h⟩
  rcases open_ops Try.underlying24 (by kernel_rfl) (by kernel_rfl) (hval 0 24 v0 rfl rfl) h0 with rfl | ⟨a, cap, xs, es, rs, rfl, hcap, hat, rfl, hlen⟩
  · rcases open_vcs Try.underlying54 (by kernel_rfl) (by kernel_rfl) (hval 1 54 v1 rfl rfl) h1 with rfl | ⟨b, cap2, ys, es2, rs2, rfl, hcap2, hbt, rfl, hlen2⟩
    · exact (sorts_nn W).mono fin
    · exact (sorts_nl hbt hcap2 (slice_capV Try.underlying54 (hval 1 54 _ rfl rfl))).mono fin
  · rcases open_vcs Try.underlying54 (by kernel_rfl) (by kernel_rfl) (hval 1 54 v1 rfl rfl) h1 with rfl | ⟨b, cap2, ys, es2, rs2, rfl, hcap2, hbt, rfl, hlen2⟩
    · exact (sorts_ln hat hcap).mono fin
    · exact (sorts_ll hat hbt hcap hcap2 (slice_capV Try.underlying54 (hval 1 54 _ rfl rfl))).mono fin

set_option maxRecDepth 100000 in
theorem absentSorts_lifted (os : Os) (started : os.Started) (H : Type) (enc : TypeId × Value → H) :
    ReturnsInHanded {} Try.checked os 5 .any (Rows.absentSortsSpec.pre6 enc Try.prog Try.f5 Rows.absentSortsRow.domain false) (Rows.absentSortsSpec.post enc Try.prog Try.f5 false true false false) := by
  refine returnsInHanded_of_change (C := Try.checked) own started (by kernel_rfl) Try.func5
    (ChangeSpec.witness6 (enc := enc) (C := Try.checked) false ⟨#[], #[.slice none 0 0, .slice none 0 0], []⟩ 8 (by kernel_rfl) (by kernel_rfl) (by kernel_rfl) (by kernel_rfl)) ?_
  intro W base args ds gs before hval hW _ _
  exact absentSorts_contract H enc W base args ds gs before hval hW

theorem absentSorts_holds : Rows.AbsentSortsSaid :=
  OpenClaim.holds_of_wide 5 Try.f5 rfl rfl rfl rfl rfl rfl rfl ⟨rfl, rfl, rfl, rfl, rfl⟩ rfl rfl rfl rfl rfl (by kernel_rfl) Try.func5 (by kernel_rfl)
    (of_decide_eq_true (by kernel_rfl)) (by unfold Func.isWrapper; first | (rw [if_pos (by decide +kernel)]; kernel_rfl) | (rw [if_neg (by decide +kernel)]; exact ⟨rfl, rfl⟩))
    (fun os started H enc _ => absentSorts_lifted os started H enc)

end Go.Proofs.Ytjpfnfckpgilgaa
