/-
  PROVED: for every two rows of nine int8, every row of three int16, every byte and every flag, facettop.WholeMatrices answers true.
  No condition beyond the statement's own.
-/
import Derived.Test.YtagnkjdobkdhmabWmX
import Derived.WalkKit
import Derived.ProofKit
import Derived.OpenShut
import Derived.ShutString
import Derived.ChangeOld
import Derived.Below
namespace Go.Proofs.Ytagnkjdobkdhmab
open Go Vx
open Go.ChangeShapes Go.WideShapes Go.ChangeAt Go.RowKit

theorem own : ownKnob Try.prog.godebug = none := by kernel_rfl
theorem laidOut : laidOutB Try.prog = true := by kernel_rfl

theorem wholeMatrices_run (S X : Int → M3) (a0 a1 a2 a3 a4 a5 a6 a7 a8 b0 b1 b2 b3 b4 b5 b6 b7 b8 v0 v1 v2 k : Int) (hex : Bool) : exFun ((Cs S X Try.prog).at 7) 200 Try.f7 [.agg (intsK .i8 [a0, a1, a2, a3, a4, a5, a6, a7, a8]).toArray, .agg (intsK .i8 [b0, b1, b2, b3, b4, b5, b6, b7, b8]).toArray, .agg (intsK .i16 [v0, v1, v2]).toArray, .int .u8 k, .bool hex] = tWholeM S X (m12 a0 a1 a2 a3 a4 a5 a6 a7 a8) (m12 b0 b1 b2 b3 b4 b5 b6 b7 b8) ⟨W v0, W v1, W v2⟩ k hex := by kernel_rfl
theorem m12_Bd (a b c d e f g h i : Int) : (m12 a b c d e f g h i).Bd 11 := by
  have k : ∀ x : Int, -11 ≤ Int.tmod x 12 ∧ Int.tmod x 12 ≤ 11 := fun x => by
    have := tmod_bd x 12 (by omega); omega
  exact ⟨k _, k _, k _, k _, k _, k _, k _, k _, k _⟩
theorem i16_W {x : Int} (h : (Lit.int .i16 x).wf = true) : -40000 ≤ W x ∧ W x ≤ 40000 := by
  simp only [Lit.wf, Bool.and_eq_true, decide_eq_true_eq] at h
  have h1 : IntKind.i16.min = -32768 := by rfl
  have h2 : IntKind.i16.max = 32767 := by rfl
  rw [W_in (by omega)]; omega
theorem u8_wf {k : Int} (h : (Lit.int .u8 k).wf = true) : 0 ≤ k ∧ k < 256 := by
  simp only [Lit.wf, Bool.and_eq_true, decide_eq_true_eq] at h
  have h1 : IntKind.u8.min = 0 := by rfl
  have h2 : IntKind.u8.max = 255 := by rfl
  omega
theorem wholeMatrices_law (l0 : List Int) (z0 : l0.length = 9) (_ : ∀ x ∈ l0, (Lit.int .i8 x).wf = true) (l1 : List Int) (z1 : l1.length = 9) (_ : ∀ x ∈ l1, (Lit.int .i8 x).wf = true) (l2 : List Int) (z2 : l2.length = 3) (u2 : ∀ x ∈ l2, (Lit.int .i16 x).wf = true) (k : Int) (uk : (Lit.int .u8 k).wf = true) (hex : Bool) :
    exFun ((Cs sgM sxM Try.prog).at 7) 200 Try.f7 [.agg (intsK .i8 l0).toArray, .agg (intsK .i8 l1).toArray, .agg (intsK .i16 l2).toArray, .int .u8 k, .bool hex] = some (.bool true) := by
  match l0, z0, l1, z1, l2, z2, u2 with
  | [a0, a1, a2, a3, a4, a5, a6, a7, a8], _, [b0, b1, b2, b3, b4, b5, b6, b7, b8], _, [v0, v1, v2], _, u2 =>
    rw [wholeMatrices_run]
    exact whole_true sgM_ok sxM_ok (u8_wf uk) (m12_Bd _ _ _ _ _ _ _ _ _) (m12_Bd _ _ _ _ _ _ _ _ _) ⟨i16_W (u2 _ (by simp)), i16_W (u2 _ (by simp)), i16_W (u2 _ (by simp))⟩

theorem wholeMatrices_walk (l0 : List Int) (e0 : l0.length = 9) (u0 : ∀ x ∈ l0, (Lit.int .i8 x).wf = true) (l1 : List Int) (e1 : l1.length = 9) (u1 : ∀ x ∈ l1, (Lit.int .i8 x).wf = true) (l2 : List Int) (e2 : l2.length = 3) (u2 : ∀ x ∈ l2, (Lit.int .i16 x).wf = true) (x3 : Int) (u3 : (Lit.int .u8 x3).wf = true) (x4 : Bool) (w : World) : Calls Try.prog 7 #[.agg (intsK .i8 l0).toArray, .agg (intsK .i8 l1).toArray, .agg (intsK .i16 l2).toArray, .int .u8 x3, .bool x4] w fun e w' => e = .returned (.bool true) ∧ Below w.heap.size w w' :=
  exFun_calls okCs Try.func7 (by kernel_rfl) (args := [.agg (intsK .i8 l0).toArray, .agg (intsK .i8 l1).toArray, .agg (intsK .i16 l2).toArray, .int .u8 x3, .bool x4]) (by
    intro x hx
    simp only [List.mem_cons, List.not_mem_nil, or_false] at hx
    rcases hx with rfl | rfl | rfl | rfl | rfl <;> first | rfl | exact plain_ints _ _) (wholeMatrices_law l0 e0 u0 l1 e1 u1 l2 e2 u2 x3 u3 x4) w

set_option maxRecDepth 100000 in
theorem wholeMatrices_lifted (os : Os) (started : os.Started) (H : Type) (enc : TypeId × Value → H) :
    ReturnsInHanded {} Try.checked os 7 .any (Rows.wholeMatricesSpec.pre6 enc Try.prog Try.f7 Rows.wholeMatricesRow.domain false) (Rows.wholeMatricesSpec.post enc Try.prog Try.f7 false true false false) := by
  refine returnsInHanded_of_change (C := Try.checked) own started (by kernel_rfl) Try.func7
    (ChangeSpec.witness6 (enc := enc) (C := Try.checked) false ⟨#[], #[.agg #[.int .i8 0, .int .i8 0, .int .i8 0, .int .i8 0, .int .i8 0, .int .i8 0, .int .i8 0, .int .i8 0, .int .i8 0], .agg #[.int .i8 0, .int .i8 0, .int .i8 0, .int .i8 0, .int .i8 0, .int .i8 0, .int .i8 0, .int .i8 0, .int .i8 0], .agg #[.int .i16 0, .int .i16 0, .int .i16 0], .int .u8 0, .bool false], []⟩ 8 (by kernel_rfl) (by kernel_rfl) (by kernel_rfl) (by kernel_rfl)) ?_
  intro W base args ds gs before hval0 hW _ _
  have hval : ∀ (j : Nat) t v, Try.f7.params[j]? = some t → args[j]? = some v → Value.okWide Try.prog W .any base t v := hval0
  have hW' := hW
  obtain ⟨p, q, hA0, hV, rfl, _, _⟩ := hW
  have hA : DataW.TrodAll enc Try.prog W 0 (fun _ => true) true Try.f7.params.toList args.toList ds p := hA0
  rw [Try.params7] at hA hval
  obtain ⟨v0, vs0, d0, ds0, p0, q0, hargs, rfl, rfl, h0, r0⟩ := trodAll_cons hA
  obtain ⟨v1, vs1, d1, ds1, p1, q1, rfl, rfl, rfl, h1, r1⟩ := trodAll_cons r0
  obtain ⟨v2, vs2, d2, ds2, p2, q2, rfl, rfl, rfl, h2, r2⟩ := trodAll_cons r1
  obtain ⟨v3, vs3, d3, ds3, p3, q3, rfl, rfl, rfl, h3, r3⟩ := trodAll_cons r2
  obtain ⟨v4, vs4, d4, ds4, p4, q4, rfl, rfl, rfl, h4, r4⟩ := trodAll_cons r3
  obtain ⟨rfl, rfl, rfl⟩ := trodAll_nil r4
  obtain rfl : args = #[v0, v1, v2, v3, v4] := by cases args; simp_all
  obtain ⟨rfl, rfl⟩ := trodVars_none hV
  have lt0 : ∀ x ∈ p0, x.block < W.heap.size := by obtain ⟨m, hm⟩ := h0; exact DataW.trod_lt m _ _ _ hm
  obtain ⟨l0, e0, rfl, u0⟩ := open_rowK (n := 9) (k := .i8) (by kernel_rfl) (by kernel_rfl) (hval 0 57 v0 rfl rfl) h0
  have lt1 : ∀ x ∈ p1, x.block < W.heap.size := by obtain ⟨m, hm⟩ := h1; exact DataW.trod_lt m _ _ _ hm
  obtain ⟨l1, e1, rfl, u1⟩ := open_rowK (n := 9) (k := .i8) (by kernel_rfl) (by kernel_rfl) (hval 1 57 v1 rfl rfl) h1
  have lt2 : ∀ x ∈ p2, x.block < W.heap.size := by obtain ⟨m, hm⟩ := h2; exact DataW.trod_lt m _ _ _ hm
  obtain ⟨l2, e2, rfl, u2⟩ := open_rowK (n := 3) (k := .i16) (by kernel_rfl) (by kernel_rfl) (hval 2 59 v2 rfl rfl) h2
  have lt3 : ∀ x ∈ p3, x.block < W.heap.size := by obtain ⟨m, hm⟩ := h3; exact DataW.trod_lt m _ _ _ hm
  obtain ⟨x3, rfl, _, _, u3⟩ := open_int Try.underlying5 (hval 3 5 v3 rfl rfl) h3
  have lt4 : ∀ x ∈ p4, x.block < W.heap.size := by obtain ⟨m, hm⟩ := h4; exact DataW.trod_lt m _ _ _ hm
  obtain ⟨x4, rfl, _, _⟩ := open_bool Try.underlying4 (hval 4 4 v4 rfl rfl) h4
  clear hA0 hval0
  refine (wholeMatrices_walk l0 e0 u0 l1 e1 u1 l2 e2 u2 x3 u3 x4 W).mono fun e W' ⟨he, bel⟩ => ?_
  subst he
  exact ⟨_, rfl, _, _, _, [], _, [], hW', trodAll_mk1 (shut_bool Try.underlying4 _), (trodAll_cons_mk (Below.trod laidOut (by kernel_rfl) (of_decide_eq_true (by kernel_rfl)) h0 bel lt0) (trodAll_cons_mk (Below.trod laidOut (by kernel_rfl) (of_decide_eq_true (by kernel_rfl)) h1 bel lt1) (trodAll_cons_mk (Below.trod laidOut (by kernel_rfl) (of_decide_eq_true (by kernel_rfl)) h2 bel lt2) (trodAll_cons_mk (Below.trod laidOut (by kernel_rfl) (of_decide_eq_true (by kernel_rfl)) h3 bel lt3) (trodAll_cons_mk (Below.trod laidOut (by kernel_rfl) (of_decide_eq_true (by kernel_rfl)) h4 bel lt4) trodAll_mk0))))), rfl, bel.frame _, fun h => by cases h⟩

theorem wholeMatrices_holds : Rows.WholeMatricesSaid :=
  OpenClaim.holds_of_wide 7 Try.f7 rfl rfl rfl rfl rfl rfl rfl ⟨rfl, rfl, rfl, rfl, rfl⟩ rfl rfl rfl rfl rfl (by kernel_rfl) Try.func7 (by kernel_rfl)
    (of_decide_eq_true (by kernel_rfl)) (by unfold Func.isWrapper; first | (rw [if_pos (by decide +kernel)]; kernel_rfl) | (rw [if_neg (by decide +kernel)]; exact ⟨rfl, rfl⟩))
    (fun os started H enc _ => wholeMatrices_lifted os started H enc)

end Go.Proofs.Ytagnkjdobkdhmab
