/-
  PROVED: for every two ring numbers and every whole number facetlaw15.RingAsks answers true: ring.Form, Equal, Finer and Real answer as the document says.
  Its condition: what is handed in holds at most 1048576 values ('..UptoSaid').
-/
import Derived.Test.YtjhijkdicmbbiaaHTRk5
import Derived.Test.YtjhijkdicmbbiaaKai
import Derived.WalkKit
import Derived.ProofKit
import Derived.OpenShut
import Derived.ShutString
import Derived.ChangeOld
import Derived.Below
import Derived.JoinedCond
namespace Go.Proofs.Ytjhijkdicmbbiaa
open Go Vx
open Go.ChangeShapes Go.WideShapes Go.ChangeAt Go.RowKit

theorem own : ownKnob Try.prog.godebug = none := by kernel_rfl
theorem laidOut : laidOutB Try.prog = true := by kernel_rfl
theorem bulk_one {H : Type} (d : DataW H) : 1 ≤ Rows.uptoBulk d := by
  cases d with
  | lit l => cases l <;> simp [Rows.uptoBulk]
  | nil => simp [Rows.uptoBulk]
  | ptr d => simp [Rows.uptoBulk]
  | slice elems spare => simp [Rows.uptoBulk]
  | agg parts => simp [Rows.uptoBulk]
  | iface t d => simp [Rows.uptoBulk]
  | map entries => simp [Rows.uptoBulk]
  | held h => simp [Rows.uptoBulk]
theorem bulk_len {H : Type} : ∀ (l : List (DataW H)), l.length ≤ Rows.uptoBulkAll l
  | [] => by simp [Rows.uptoBulkAll]
  | x :: r => by have := bulk_one x; have := bulk_len r; simp only [Rows.uptoBulkAll, List.length_cons]; omega

set_option maxRecDepth 100000 in
theorem ringAsks_contract (H : Type) (enc : TypeId × Value → H) (W : World) (base : Nat) (args : Array Value) (ds gs : List (DataW H)) (before : List MemPlace)
    (hval : ∀ (j : Nat) t v, Try.f6.params[j]? = some t → args[j]? = some v → Value.okWide Try.prog W .any base t v)
    (hW : DataW.Whole enc Try.prog Try.f6.params.toList Rows.ringAsksSpec.vars false W args.toList ds gs before) (hk : Rows.uptoSmall H (ds ++ gs) = true) :
    Calls Try.prog 6 args W fun e W' => ∃ v, e = .returned v ∧ Rows.ringAsksSpec.post enc Try.prog Try.f6 false true false false W args v W' := by
  have hW' := hW
  obtain ⟨p, q, hA0, hV, rfl, _, _⟩ := hW
  have hA : DataW.TrodAll enc Try.prog W 0 (fun _ => true) true Try.f6.params.toList args.toList ds p := hA0
  rw [Try.params6] at hA hval
  obtain ⟨v0, vs0, d0, ds0, p0, q0, hargs, rfl, rfl, h0, r0⟩ := trodAll_cons hA
  obtain ⟨v1, vs1, d1, ds1, p1, q1, rfl, rfl, rfl, h1, r1⟩ := trodAll_cons r0
  obtain ⟨v2, vs2, d2, ds2, p2, q2, rfl, rfl, rfl, h2, r2⟩ := trodAll_cons r1
  obtain ⟨rfl, rfl, rfl⟩ := trodAll_nil r2
  obtain rfl : args = #[v0, v1, v2] := by cases args; simp_all
  obtain ⟨rfl, rfl⟩ := trodVars_none hV
  have lt0 : ∀ x ∈ p0, x.block < W.heap.size := by obtain ⟨m, hm⟩ := h0; exact DataW.trod_lt m _ _ _ hm
  have lt1 : ∀ x ∈ p1, x.block < W.heap.size := by obtain ⟨m, hm⟩ := h1; exact DataW.trod_lt m _ _ _ hm
  have lt2 : ∀ x ∈ p2, x.block < W.heap.size := by obtain ⟨m, hm⟩ := h2; exact DataW.trod_lt m _ _ _ hm
  obtain ⟨x2, rfl, _, _, u2⟩ := open_int Try.underlying3 (hval 2 3 v2 rfl rfl) h2
  clear hA0
  have fin : ∀ (e : Ending) (W' : World), e = .returned (.bool true) ∧ Below W.heap.size W W' → ∃ v, e = .returned v ∧ Rows.ringAsksSpec.post enc Try.prog Try.f6 false true false false W #[v0, v1, .int .i64 x2] v W' := fun e W' ⟨he, bel⟩ => by
    subst he
    exact ⟨_, rfl, _, _, _, [], _, [], hW', trodAll_mk1 (shut_bool Try.underlying4 _), (trodAll_cons_mk (Below.trod laidOut (by kernel_rfl) (of_decide_eq_true (by kernel_rfl)) h0 bel lt0) (trodAll_cons_mk (Below.trod laidOut (by kernel_rfl) (of_decide_eq_true (by kernel_rfl)) h1 bel lt1) (trodAll_cons_mk (Below.trod laidOut (by kernel_rfl) (of_decide_eq_true (by kernel_rfl)) h2 bel lt2) trodAll_mk0))), rfl, bel.frame _, fun h => by cases h⟩
  have hb : Rows.uptoBulkAll _ ≤ 1048576 := of_decide_eq_true hk
  obtain ⟨M0, wM0, rfl | ⟨a0, cap0, xs0, x0, es0, rs0, rfl, hcap0, hat0, rfl, hlen0, hw0⟩⟩ := open_ring Try.underlying24 (by kernel_rfl) (by kernel_rfl) (by kernel_rfl) (by kernel_rfl) (by kernel_rfl) (by kernel_rfl) Try.underlying3 Try.underlying22 (by kernel_rfl) (by kernel_rfl) (hval 0 24 v0 rfl rfl) h0
  · obtain ⟨M1, wM1, rfl | ⟨a1, cap1, xs1, x1, es1, rs1, rfl, hcap1, hat1, rfl, hlen1, hw1⟩⟩ := open_ring Try.underlying24 (by kernel_rfl) (by kernel_rfl) (by kernel_rfl) (by kernel_rfl) (by kernel_rfl) (by kernel_rfl) Try.underlying3 Try.underlying22 (by kernel_rfl) (by kernel_rfl) (hval 1 24 v1 rfl rfl) h1
    · exact ((kNN x2 M0 M1).callsG (l := []) (args' := [(.agg #[.int .i64 M0, .slice none 0 0]), (.agg #[.int .i64 M1, .slice none 0 0]), .int .i64 x2]) (by simp) ⟨R_ring ((R0_plain (v := .slice none 0 0) rfl).2 rfl), R_ring ((R0_plain (v := .slice none 0 0) rfl).2 rfl), (R_plain (v := .int .i64 x2) rfl).2 rfl, trivial⟩).mono fin
    · simp only [List.cons_append, List.nil_append, Rows.uptoBulkAll, Rows.uptoBulk] at hb
      have hn1 : xs1.length ≤ 1048576 := by have := bulk_len es1; omega
      exact ((kNL x2 xs1.length hn1 false M0 M1 (iCol xs1)).callsG (l := [iLst a1 xs1]) (args' := [(.agg #[.int .i64 M0, .slice none 0 0]), (.agg #[.int .i64 M1, .slice (some a1) xs1.length cap1]), .int .i64 x2]) (lst_all1 (rows_col hat1 fun y hy => (hw1 y hy).1)) ⟨R_ring ((R0_plain (v := .slice none 0 0) rfl).2 rfl), R_ring (iLst_arg (l := [iLst a1 xs1]) (k := 0) rfl hat1.1 hcap1), (R_plain (v := .int .i64 x2) rfl).2 rfl, trivial⟩).mono fin
  · obtain ⟨M1, wM1, rfl | ⟨a1, cap1, xs1, x1, es1, rs1, rfl, hcap1, hat1, rfl, hlen1, hw1⟩⟩ := open_ring Try.underlying24 (by kernel_rfl) (by kernel_rfl) (by kernel_rfl) (by kernel_rfl) (by kernel_rfl) (by kernel_rfl) Try.underlying3 Try.underlying22 (by kernel_rfl) (by kernel_rfl) (hval 1 24 v1 rfl rfl) h1
    · simp only [List.cons_append, List.nil_append, Rows.uptoBulkAll, Rows.uptoBulk] at hb
      have hn0 : xs0.length ≤ 1048576 := by have := bulk_len es0; omega
      exact ((kLN x2 xs0.length hn0 false M0 M1 (iCol xs0)).callsG (l := [iLst a0 xs0]) (args' := [(.agg #[.int .i64 M0, .slice (some a0) xs0.length cap0]), (.agg #[.int .i64 M1, .slice none 0 0]), .int .i64 x2]) (lst_all1 (rows_col hat0 fun y hy => (hw0 y hy).1)) ⟨R_ring (iLst_arg (l := [iLst a0 xs0]) (k := 0) rfl hat0.1 hcap0), R_ring ((R0_plain (v := .slice none 0 0) rfl).2 rfl), (R_plain (v := .int .i64 x2) rfl).2 rfl, trivial⟩).mono fin
    · simp only [List.cons_append, List.nil_append, Rows.uptoBulkAll, Rows.uptoBulk] at hb
      have hn0 : xs0.length ≤ 1048576 := by have := bulk_len es0; omega
      have hn1 : xs1.length ≤ 1048576 := by have := bulk_len es1; omega
      exact ((kLL x2 xs0.length xs1.length hn0 hn1 false false M0 M1 (iCol xs0) (iCol xs1)).callsG (l := [iLst a0 xs0, iLst a1 xs1]) (args' := [(.agg #[.int .i64 M0, .slice (some a0) xs0.length cap0]), (.agg #[.int .i64 M1, .slice (some a1) xs1.length cap1]), .int .i64 x2]) (lst_all2 (rows_col hat0 fun y hy => (hw0 y hy).1) (rows_col hat1 fun y hy => (hw1 y hy).1)) ⟨R_ring (iLst_arg (l := [iLst a0 xs0, iLst a1 xs1]) (k := 0) rfl hat0.1 hcap0), R_ring (iLst_arg (l := [iLst a0 xs0, iLst a1 xs1]) (k := 1) rfl hat1.1 hcap1), (R_plain (v := .int .i64 x2) rfl).2 rfl, trivial⟩).mono fin

set_option maxRecDepth 100000 in
theorem ringAsks_lifted (os : Os) (started : os.Started) (H : Type) (enc : TypeId × Value → H) (F : Stop.Interp) :
    ReturnsInHanded {} Try.checked os 6 .any ((Rows.OpenSpec.upto Rows.ringAsksSpec).pre6 enc Try.prog Try.f6 Rows.ringAsksUptoRow.domain false) (((Rows.OpenSpec.upto Rows.ringAsksSpec).at F).post enc Try.prog Try.f6 false true false false) := by
  refine returnsInHanded_of_cond (C := Try.checked) (s := Rows.OpenSpec.upto Rows.ringAsksSpec) (k := Rows.uptoSmall) rfl own started (by kernel_rfl) Try.func6
    (OpenSpec.witness (enc := enc) (C := Try.checked) (s := Rows.OpenSpec.upto Rows.ringAsksSpec) (k := Rows.uptoSmall) rfl false ⟨#[], #[.agg #[.int .i64 0, .slice none 0 0], .agg #[.int .i64 0, .slice none 0 0], .int .i64 0], []⟩ 8 (by kernel_rfl) (by kernel_rfl) (by kernel_rfl)
      (x := ([.agg [.lit (.int .i64 0), .nil], .agg [.lit (.int .i64 0), .nil], .lit (.int .i64 0)], [], [])) (by kernel_rfl) rfl (by kernel_rfl)) ?_
  intro W base args ds gs before hval hW _ hk _
  exact ringAsks_contract H enc W base args ds gs before hval hW hk

theorem ringAsks_holds : Rows.RingAsksUptoSaid :=
  OpenClaim.holds_of_cond 6 Try.f6 rfl rfl rfl rfl rfl rfl rfl ⟨rfl, rfl, rfl, rfl, rfl⟩ rfl rfl rfl rfl rfl (by kernel_rfl) Try.func6 (by kernel_rfl)
    (of_decide_eq_true (by kernel_rfl)) (by unfold Func.isWrapper; first | (rw [if_pos (by decide +kernel)]; kernel_rfl) | (rw [if_neg (by decide +kernel)]; exact ⟨rfl, rfl⟩))
    (fun os started H enc _ F => ringAsks_lifted os started H enc F)

end Go.Proofs.Ytjhijkdicmbbiaa
