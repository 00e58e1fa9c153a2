/-
  PROVED: for every two numbers and every list of numbers, whatever their bits, facetlaw16.CplxMirrors answers true: conjugates of products, sums, magnitudes are those of the conjugates.
  Its condition: what is handed in holds at most 1048576 values ('..UptoSaid').
-/
import Derived.Test.YtokdjjdmmahbiaaTMr1
import Derived.Test.YtokdjjdmmahbiaaOpenG
import Derived.Test.YtokdjjdmmahbiaaRowU
import Derived.WalkKit
import Derived.ProofKit
import Derived.OpenShut
import Derived.ShutString
import Derived.ChangeOld
import Derived.Below
import Derived.JoinedCond
namespace Go.Proofs.Ytokdjjdmmahbiaa
open Go Vx
open Go.ChangeShapes Go.WideShapes Go.ChangeAt Go.RowKit

theorem own : ownKnob Try.prog.godebug = none := by kernel_rfl
theorem laidOut : laidOutB Try.prog = true := by kernel_rfl
theorem bulk_one {H : Type} (d : DataW H) : 1 ≤ Rows.uptoBulk d := by
  cases d with
  | lit l => cases l <;> simp [Rows.uptoBulk]
  | nil => simp [Rows.uptoBulk]
  | ptr d => simp [Rows.uptoBulk]
  | slice elems spare => simp [Rows.uptoBulk]
  | agg parts => simp [Rows.uptoBulk]
  | iface t d => simp [Rows.uptoBulk]
  | map entries => simp [Rows.uptoBulk]
  | held h => simp [Rows.uptoBulk]
theorem bulk_len {H : Type} : ∀ (l : List (DataW H)), l.length ≤ Rows.uptoBulkAll l
  | [] => by simp [Rows.uptoBulkAll]
  | x :: r => by have := bulk_one x; have := bulk_len r; simp only [Rows.uptoBulkAll, List.length_cons]; omega
theorem pr_of {l : List Int} (h : l.length = 2) (hw : ∀ x ∈ l, (Lit.int .u64 x).wf = true) : ∃ a b : Int, (.agg (intsK .u64 l).toArray : Value) = prV a b ∧ b < 18446744073709551616 := by
  match l, h with
  | [a, b], _ =>
    refine ⟨a, b, rfl, ?_⟩
    have : IntKind.u64.min ≤ b ∧ b ≤ IntKind.u64.max := by simpa [Lit.wf] using hw b (by simp)
    have h2 := this.2
    rw [show IntKind.u64.max = 18446744073709551615 from rfl] at h2
    omega
theorem mr_nil (W : World) (l0 l1 : List Int) (e0 : l0.length = 2) (u0 : ∀ x ∈ l0, (Lit.int .u64 x).wf = true) (e1 : l1.length = 2) (u1 : ∀ x ∈ l1, (Lit.int .u64 x).wf = true) : Calls Try.prog 15 #[.agg (intsK .u64 l0).toArray, .agg (intsK .u64 l1).toArray, .slice none 0 0] W fun e W' => e = .returned (.bool true) ∧ Below W.heap.size W W' := by
  obtain ⟨a, b, ea, hb⟩ := pr_of e0 u0
  obtain ⟨c, d, ec, _⟩ := pr_of e1 u1
  rw [ea, ec]
  exact (mrNil a b c d hb).callsG (l := []) (args' := [prV a b, prV c d, .slice none 0 0]) (by simp) ⟨(R_plain (v := prV a b) rfl).2 rfl, (R_plain (v := prV c d) rfl).2 rfl, (R_plain (v := .slice none 0 0) rfl).2 rfl, trivial⟩
theorem mr_list {W : World} {a0 : Addr} {cap0 : Nat} {xs0 : List (List Int)} (hat0 : RowsAt W a0 2 xs0.length (kRow .u64 xs0)) (hw0 : ∀ x ∈ xs0, x.length = 2 ∧ ∀ y ∈ x, (Lit.int .u64 y).wf = true) (hn0 : xs0.length ≤ 1048576) (hcap0 : xs0.length ≤ cap0) (l0 l1 : List Int) (e0 : l0.length = 2) (u0 : ∀ x ∈ l0, (Lit.int .u64 x).wf = true) (e1 : l1.length = 2) (u1 : ∀ x ∈ l1, (Lit.int .u64 x).wf = true) : Calls Try.prog 15 #[.agg (intsK .u64 l0).toArray, .agg (intsK .u64 l1).toArray, .slice (some a0) xs0.length cap0] W fun e W' => e = .returned (.bool true) ∧ Below W.heap.size W W' := by
  obtain ⟨a, b, ea, hb⟩ := pr_of e0 u0
  obtain ⟨c, d, ec, _⟩ := pr_of e1 u1
  rw [ea, ec]
  exact (mrSem a b c d hb (prs xs0) (by rw [prs_len]; exact hn0)).callsG (l := [⟨a0, 2, (prs xs0).length, u2Row (prs xs0)⟩]) (args' := [prV a b, prV c d, .slice (some a0) xs0.length cap0]) (lst_one (rows_prs hat0 hw0)) ⟨(R_plain (v := prV a b) rfl).2 rfl, (R_plain (v := prV c d) rfl).2 rfl, lst_prs hat0.1 hcap0, trivial⟩

set_option maxRecDepth 100000 in
theorem cplxMirrors_contract (H : Type) (enc : TypeId × Value → H) (W : World) (base : Nat) (args : Array Value) (ds gs : List (DataW H)) (before : List MemPlace)
    (hval : ∀ (j : Nat) t v, Try.f15.params[j]? = some t → args[j]? = some v → Value.okWide Try.prog W .any base t v)
    (hW : DataW.Whole enc Try.prog Try.f15.params.toList Rows.cplxMirrorsSpec.vars false W args.toList ds gs before) (hk : Rows.uptoSmall H (ds ++ gs) = true) :
    Calls Try.prog 15 args W fun e W' => ∃ v, e = .returned v ∧ Rows.cplxMirrorsSpec.post enc Try.prog Try.f15 false true false false W args v W' := by
  have hW' := hW
  obtain ⟨p, q, hA0, hV, rfl, _, _⟩ := hW
  have hA : DataW.TrodAll enc Try.prog W 0 (fun _ => true) true Try.f15.params.toList args.toList ds p := hA0
  rw [Try.params15] at hA hval
  obtain ⟨v0, vs0, d0, ds0, p0, q0, hargs, rfl, rfl, h0, r0⟩ := trodAll_cons hA
  obtain ⟨v1, vs1, d1, ds1, p1, q1, rfl, rfl, rfl, h1, r1⟩ := trodAll_cons r0
  obtain ⟨v2, vs2, d2, ds2, p2, q2, rfl, rfl, rfl, h2, r2⟩ := trodAll_cons r1
  obtain ⟨rfl, rfl, rfl⟩ := trodAll_nil r2
  obtain rfl : args = #[v0, v1, v2] := by cases args; simp_all
  obtain ⟨rfl, rfl⟩ := trodVars_none hV
  have lt0 : ∀ x ∈ p0, x.block < W.heap.size := by obtain ⟨m, hm⟩ := h0; exact DataW.trod_lt m _ _ _ hm
  have lt1 : ∀ x ∈ p1, x.block < W.heap.size := by obtain ⟨m, hm⟩ := h1; exact DataW.trod_lt m _ _ _ hm
  have lt2 : ∀ x ∈ p2, x.block < W.heap.size := by obtain ⟨m, hm⟩ := h2; exact DataW.trod_lt m _ _ _ hm
  obtain ⟨l0, e0, rfl, u0⟩ := open_rowK (n := 2) (k := .u64) (by kernel_rfl) (by kernel_rfl) (hval 0 65 v0 rfl rfl) h0
  obtain ⟨l1, e1, rfl, u1⟩ := open_rowK (n := 2) (k := .u64) (by kernel_rfl) (by kernel_rfl) (hval 1 65 v1 rfl rfl) h1
  clear hA0
  have fin : ∀ (e : Ending) (W' : World), e = .returned (.bool true) ∧ Below W.heap.size W W' → ∃ v, e = .returned v ∧ Rows.cplxMirrorsSpec.post enc Try.prog Try.f15 false true false false W #[.agg (intsK .u64 l0).toArray, .agg (intsK .u64 l1).toArray, v2] v W' := fun e W' ⟨he, bel⟩ => by
    subst he
    exact ⟨_, rfl, _, _, _, [], _, [], hW', trodAll_mk1 (shut_bool Try.underlying4 _), (trodAll_cons_mk (Below.trod laidOut (by kernel_rfl) (of_decide_eq_true (by kernel_rfl)) h0 bel lt0) (trodAll_cons_mk (Below.trod laidOut (by kernel_rfl) (of_decide_eq_true (by kernel_rfl)) h1 bel lt1) (trodAll_cons_mk (Below.trod laidOut (by kernel_rfl) (of_decide_eq_true (by kernel_rfl)) h2 bel lt2) trodAll_mk0))), rfl, bel.frame _, fun h => by cases h⟩
  have hb : Rows.uptoBulkAll _ ≤ 1048576 := of_decide_eq_true hk
  rcases open_rows (z := 2) (kd := .u64) Try.underlying90 (by kernel_rfl) (by kernel_rfl) (hval 2 90 v2 rfl rfl) h2 with rfl | ⟨a2, cap2, xs2, es2, rs2, rfl, hcap2, hat2, rfl, hlen2, hw2⟩
  · exact (mr_nil W l0 l1 e0 u0 e1 u1).mono fin
  · simp only [List.cons_append, List.nil_append, Rows.uptoBulkAll, Rows.uptoBulk] at hb
    have hn2 : xs2.length ≤ 1048576 := by have := bulk_len es2; omega
    exact (mr_list hat2 hw2 hn2 hcap2 l0 l1 e0 u0 e1 u1).mono fin

set_option maxRecDepth 100000 in
theorem cplxMirrors_lifted (os : Os) (started : os.Started) (H : Type) (enc : TypeId × Value → H) (F : Stop.Interp) :
    ReturnsInHanded {} Try.checked os 15 .any ((Rows.OpenSpec.upto Rows.cplxMirrorsSpec).pre6 enc Try.prog Try.f15 Rows.cplxMirrorsUptoRow.domain false) (((Rows.OpenSpec.upto Rows.cplxMirrorsSpec).at F).post enc Try.prog Try.f15 false true false false) := by
  refine returnsInHanded_of_cond (C := Try.checked) (s := Rows.OpenSpec.upto Rows.cplxMirrorsSpec) (k := Rows.uptoSmall) rfl own started (by kernel_rfl) Try.func15
    (OpenSpec.witness (enc := enc) (C := Try.checked) (s := Rows.OpenSpec.upto Rows.cplxMirrorsSpec) (k := Rows.uptoSmall) rfl false ⟨#[], #[.agg #[.int .u64 0, .int .u64 0], .agg #[.int .u64 0, .int .u64 0], .slice none 0 0], []⟩ 8 (by kernel_rfl) (by kernel_rfl) (by kernel_rfl)
      (x := ([.agg [.lit (.int .u64 0), .lit (.int .u64 0)], .agg [.lit (.int .u64 0), .lit (.int .u64 0)], .nil], [], [])) (by kernel_rfl) rfl (by kernel_rfl)) ?_
  intro W base args ds gs before hval hW _ hk _
  exact cplxMirrors_contract H enc W base args ds gs before hval hW hk

theorem cplxMirrors_holds : Rows.CplxMirrorsUptoSaid :=
  OpenClaim.holds_of_cond 15 Try.f15 rfl rfl rfl rfl rfl rfl rfl ⟨rfl, rfl, rfl, rfl, rfl⟩ rfl rfl rfl rfl rfl (by kernel_rfl) Try.func15 (by kernel_rfl)
    (of_decide_eq_true (by kernel_rfl)) (by unfold Func.isWrapper; first | (rw [if_pos (by decide +kernel)]; kernel_rfl) | (rw [if_neg (by decide +kernel)]; exact ⟨rfl, rfl⟩))
    (fun os started H enc _ F => cplxMirrors_lifted os started H enc F)

end Go.Proofs.Ytokdjjdmmahbiaa
