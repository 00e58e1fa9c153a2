/-
  PROVED: for all bytes and lists facetlaw15.RingZero answers true: a product is nought only where a factor is, and what it says of conjugates.
  No condition beyond the statement's own.
-/
import Derived.Test.YtjhijkdicmbbiaaHTRl6
import Derived.Test.YtjhijkdicmbbiaaHOpenS
import Derived.WalkKit
import Derived.ProofKit
import Derived.OpenShut
import Derived.ShutString
import Derived.ChangeOld
import Derived.Below
import Derived.JoinedCond
namespace Go.Proofs.Ytjhijkdicmbbiaa
open Go Vx
open Go.ChangeShapes Go.WideShapes Go.ChangeAt Go.RowKit

theorem own : ownKnob Try.prog.godebug = none := by kernel_rfl
theorem laidOut : laidOutB Try.prog = true := by kernel_rfl
theorem wf_u8 {n : Int} (h : (Lit.int .u8 n).wf = true) : 0 ≤ n ∧ n < 256 := by
  have h2 : IntKind.u8.min ≤ n ∧ n ≤ IntKind.u8.max := by simpa [Lit.wf] using h
  have a : 0 ≤ n := h2.1
  have b : n ≤ 255 := h2.2
  exact ⟨a, by omega⟩

set_option maxRecDepth 100000 in
theorem ringZero_contract (H : Type) (enc : TypeId × Value → H) (W : World) (base : Nat) (args : Array Value) (ds gs : List (DataW H)) (before : List MemPlace)
    (hval : ∀ (j : Nat) t v, Try.f11.params[j]? = some t → args[j]? = some v → Value.okWide Try.prog W .any base t v)
    (hW : DataW.Whole enc Try.prog Try.f11.params.toList Rows.ringZeroSpec.vars false W args.toList ds gs before) :
    Calls Try.prog 11 args W fun e W' => ∃ v, e = .returned v ∧ Rows.ringZeroSpec.post enc Try.prog Try.f11 false true false false W args v W' := by
  have hW' := hW
  obtain ⟨p, q, hA0, hV, rfl, _, _⟩ := hW
  have hA : DataW.TrodAll enc Try.prog W 0 (fun _ => true) true Try.f11.params.toList args.toList ds p := hA0
  rw [Try.params11] at hA hval
  obtain ⟨v0, vs0, d0, ds0, p0, q0, hargs, rfl, rfl, h0, r0⟩ := trodAll_cons hA
  obtain ⟨v1, vs1, d1, ds1, p1, q1, rfl, rfl, rfl, h1, r1⟩ := trodAll_cons r0
  obtain ⟨v2, vs2, d2, ds2, p2, q2, rfl, rfl, rfl, h2, r2⟩ := trodAll_cons r1
  obtain ⟨rfl, rfl, rfl⟩ := trodAll_nil r2
  obtain rfl : args = #[v0, v1, v2] := by cases args; simp_all
  obtain ⟨rfl, rfl⟩ := trodVars_none hV
  have lt0 : ∀ x ∈ p0, x.block < W.heap.size := by obtain ⟨m, hm⟩ := h0; exact DataW.trod_lt m _ _ _ hm
  have lt1 : ∀ x ∈ p1, x.block < W.heap.size := by obtain ⟨m, hm⟩ := h1; exact DataW.trod_lt m _ _ _ hm
  have lt2 : ∀ x ∈ p2, x.block < W.heap.size := by obtain ⟨m, hm⟩ := h2; exact DataW.trod_lt m _ _ _ hm
  obtain ⟨x0, rfl, _, _, u0⟩ := open_int Try.underlying5 (hval 0 5 v0 rfl rfl) h0
  clear hA0
  have fin : ∀ (e : Ending) (W' : World), e = .returned (.bool true) ∧ Below W.heap.size W W' → ∃ v, e = .returned v ∧ Rows.ringZeroSpec.post enc Try.prog Try.f11 false true false false W #[.int .u8 x0, v1, v2] v W' := fun e W' ⟨he, bel⟩ => by
    subst he
    exact ⟨_, rfl, _, _, _, [], _, [], hW', trodAll_mk1 (shut_bool Try.underlying4 _), (trodAll_cons_mk (Below.trod laidOut (by kernel_rfl) (of_decide_eq_true (by kernel_rfl)) h0 bel lt0) (trodAll_cons_mk (Below.trod laidOut (by kernel_rfl) (of_decide_eq_true (by kernel_rfl)) h1 bel lt1) (trodAll_cons_mk (Below.trod laidOut (by kernel_rfl) (of_decide_eq_true (by kernel_rfl)) h2 bel lt2) trodAll_mk0))), rfl, bel.frame _, fun h => by cases h⟩
  rcases open_rows (z := 1) (kd := .i16) Try.underlying56 (by kernel_rfl) (by kernel_rfl) (hval 1 56 v1 rfl rfl) h1 with rfl | ⟨a1, cap1, xs1, es1, rs1, rfl, hcap1, hat1, rfl, hlen1, hw1⟩
  · rcases open_rows (z := 1) (kd := .i16) Try.underlying56 (by kernel_rfl) (by kernel_rfl) (hval 2 56 v2 rfl rfl) h2 with rfl | ⟨a2, cap2, xs2, es2, rs2, rfl, hcap2, hat2, rfl, hlen2, hw2⟩
    · exact ((rzNN x0 (wf_u8 u0).1 (wf_u8 u0).2).callsG (l := []) (args' := [.int .u8 x0, .slice none 0 0, .slice none 0 0]) (by simp) ⟨(R_plain (v := .int .u8 x0) rfl).2 rfl, (R_plain (v := .slice none 0 0) rfl).2 rfl, (R_plain (v := .slice none 0 0) rfl).2 rfl, trivial⟩).mono fin
    · have hn2 : xs2.length ≤ 9223372036854775807 := by have := slice_cap Try.underlying56 (hval 2 56 _ rfl rfl); omega
      exact ((rzNL x0 (wf_u8 u0).1 (wf_u8 u0).2 xs2.length hn2 false (iCol xs2)).callsG (l := [sLst a2 xs2]) (args' := [.int .u8 x0, .slice none 0 0, .slice (some a2) xs2.length cap2]) (lst_all1 (srows_col hat2 fun y hy => (hw2 y hy).1)) ⟨(R_plain (v := .int .u8 x0) rfl).2 rfl, (R_plain (v := .slice none 0 0) rfl).2 rfl, sLst_arg (l := [sLst a2 xs2]) (k := 0) rfl hat2.1 hcap2, trivial⟩).mono fin
  · rcases open_rows (z := 1) (kd := .i16) Try.underlying56 (by kernel_rfl) (by kernel_rfl) (hval 2 56 v2 rfl rfl) h2 with rfl | ⟨a2, cap2, xs2, es2, rs2, rfl, hcap2, hat2, rfl, hlen2, hw2⟩
    · have hn1 : xs1.length ≤ 9223372036854775807 := by have := slice_cap Try.underlying56 (hval 1 56 _ rfl rfl); omega
      exact ((rzLN x0 (wf_u8 u0).1 (wf_u8 u0).2 xs1.length hn1 false (iCol xs1)).callsG (l := [sLst a1 xs1]) (args' := [.int .u8 x0, .slice (some a1) xs1.length cap1, .slice none 0 0]) (lst_all1 (srows_col hat1 fun y hy => (hw1 y hy).1)) ⟨(R_plain (v := .int .u8 x0) rfl).2 rfl, sLst_arg (l := [sLst a1 xs1]) (k := 0) rfl hat1.1 hcap1, (R_plain (v := .slice none 0 0) rfl).2 rfl, trivial⟩).mono fin
    · have hn1 : xs1.length ≤ 9223372036854775807 := by have := slice_cap Try.underlying56 (hval 1 56 _ rfl rfl); omega
      have hn2 : xs2.length ≤ 9223372036854775807 := by have := slice_cap Try.underlying56 (hval 2 56 _ rfl rfl); omega
      exact ((rzLL x0 (wf_u8 u0).1 (wf_u8 u0).2 xs1.length hn1 false (iCol xs1) xs2.length hn2 false (iCol xs2)).callsG (l := [sLst a1 xs1, sLst a2 xs2]) (args' := [.int .u8 x0, .slice (some a1) xs1.length cap1, .slice (some a2) xs2.length cap2]) (lst_all2 (srows_col hat1 fun y hy => (hw1 y hy).1) (srows_col hat2 fun y hy => (hw2 y hy).1)) ⟨(R_plain (v := .int .u8 x0) rfl).2 rfl, sLst_arg (l := [sLst a1 xs1, sLst a2 xs2]) (k := 0) rfl hat1.1 hcap1, sLst_arg (l := [sLst a1 xs1, sLst a2 xs2]) (k := 1) rfl hat2.1 hcap2, trivial⟩).mono fin

set_option maxRecDepth 100000 in
theorem ringZero_lifted (os : Os) (started : os.Started) (H : Type) (enc : TypeId × Value → H) :
    ReturnsInHanded {} Try.checked os 11 .any (Rows.ringZeroSpec.pre6 enc Try.prog Try.f11 Rows.ringZeroRow.domain false) (Rows.ringZeroSpec.post enc Try.prog Try.f11 false true false false) := by
  refine returnsInHanded_of_change (C := Try.checked) own started (by kernel_rfl) Try.func11
    (ChangeSpec.witness6 (enc := enc) (C := Try.checked) false ⟨#[], #[.int .u8 0, .slice none 0 0, .slice none 0 0], []⟩ 8 (by kernel_rfl) (by kernel_rfl) (by kernel_rfl) (by kernel_rfl)) ?_
  intro W base args ds gs before hval hW _ _
  exact ringZero_contract H enc W base args ds gs before hval hW

theorem ringZero_holds : Rows.RingZeroSaid :=
  OpenClaim.holds_of_wide 11 Try.f11 rfl rfl rfl rfl rfl rfl rfl ⟨rfl, rfl, rfl, rfl, rfl⟩ rfl rfl rfl rfl rfl (by kernel_rfl) Try.func11 (by kernel_rfl)
    (of_decide_eq_true (by kernel_rfl)) (by unfold Func.isWrapper; first | (rw [if_pos (by decide +kernel)]; kernel_rfl) | (rw [if_neg (by decide +kernel)]; exact ⟨rfl, rfl⟩))
    (fun os started H enc _ => ringZero_lifted os started H enc)

end Go.Proofs.Ytjhijkdicmbbiaa
