/-
  PROVED: for every list of maps, facetlaw05.GroupCloses answers true: group.Close answers the group that the maps generate, or says that there is none, as the document does.
  Its condition: what is handed in holds at most 1048576 values ('..UptoSaid').
-/
import Derived.Test.YtcefeamjnnkahaaGt
import Derived.WalkKit
import Derived.ProofKit
import Derived.OpenShut
import Derived.ShutString
import Derived.ChangeOld
import Derived.Below
import Derived.JoinedCond
namespace Go.Proofs.Ytcefeamjnnkahaa
open Go Vx
open Go.ChangeShapes Go.WideShapes Go.ChangeAt Go.RowKit

theorem own : ownKnob Try.prog.godebug = none := by kernel_rfl
theorem laidOut : laidOutB Try.prog = true := by kernel_rfl
theorem bulk_one {H : Type} (d : DataW H) : 1 ≤ Rows.uptoBulk d := by
  cases d with
  | lit l => cases l <;> simp [Rows.uptoBulk]
  | nil => simp [Rows.uptoBulk]
  | ptr d => simp [Rows.uptoBulk]
  | slice elems spare => simp [Rows.uptoBulk]
  | agg parts => simp [Rows.uptoBulk]
  | iface t d => simp [Rows.uptoBulk]
  | map entries => simp [Rows.uptoBulk]
  | held h => simp [Rows.uptoBulk]
theorem bulk_len {H : Type} : ∀ (l : List (DataW H)), l.length ≤ Rows.uptoBulkAll l
  | [] => by simp [Rows.uptoBulkAll]
  | x :: r => by have := bulk_one x; have := bulk_len r; simp only [Rows.uptoBulkAll, List.length_cons]; omega

theorem gcT (own : Bool) (xs : List O3) (hn : xs.length ≤ 1048576) : ∃ m', exT ((Caw Try.prog).at 3) 60 Try.f3 [.slice (some ⟨0, 0, some 0⟩) xs.length 12] [.rows own true 12 xs.length (opRow xs)] [.fix 0] = some (.bool true, m') := by
  have hE := gcE1 own xs.length xs
  have t1 : twT xs.length (opRow xs) = true := by unfold twT; rw [Nat.beq_refl, okOps_opRow]; simp; omega
  have t2 : dcT xs.length (opRow xs) = true := by unfold dcT; rw [Nat.beq_refl, okOps_opRow]; simp; omega
  have t3 : oT xs.length (opRow xs) = true := by unfold oT; rw [Nat.beq_refl, okOps_opRow]; rfl
  rw [opsOf_row rfl, opsOf_row rfl, t1, gd_true] at hE
  cases xs with
  | nil => exact ⟨[.rows own true 12 0 (opRow [])], hE.trans (by kernel_rfl)⟩
  | cons x l =>
    generalize hxs : x :: l = ys at *
    have hz : Nat.beq ys.length 0 = false := by subst hxs; rfl
    unfold gcMid at hE
    rw [hz, t2, t3] at hE
    simp only [gd_true] at hE
    cases hc : clsOk ys with
    | true =>
      rw [hc] at hE
      have hl := clsOk_len hc
      have t4 : ssT (clsG ys).length (clsG ys).length (opRow (clsG ys)) (opRow (clsG ys)) = true := by unfold ssT; rw [Nat.beq_refl, okOps_opRow]; simp; omega
      simp only [t4, gd_true, opsOf_row, sameB_refl, gcEnd, beq_self_eq_true] at hE
      exact ⟨_, hE⟩
    | false =>
      rw [hc] at hE
      simp only [gcEnd, beq_self_eq_true] at hE
      exact ⟨_, hE⟩
theorem groupCloses_nil (w : World) : Calls Try.prog 3 #[.slice none 0 0] w fun e w' => e = .returned (.bool true) ∧ Below w.heap.size w w' := by
  have h : PlainSem Try.prog 3 [.slice none 0 0] (.bool true) := (exT_ok okaw Try.func3 (by kernel_rfl) gcE0).plain (by intro x hx; simp only [List.mem_cons, List.not_mem_nil, or_false] at hx; subst hx; rfl) rfl
  exact (h.2 w).mono fun _ _ hq => ⟨hq.1, hq.2.1⟩
theorem groupCloses_walk {W : World} {a : Addr} {xs : List O3} {cap : Nat} (hn : xs.length ≤ 1048576) (ha : OpsAt W a xs) (hc : xs.length ≤ cap) : Calls Try.prog 3 #[.slice (some a) xs.length cap] W fun e W' => e = .returned (.bool true) ∧ Below W.heap.size W W' := by
  obtain ⟨m', hE⟩ := gcT false xs hn
  exact (exT_ok okaw Try.func3 (by kernel_rfl) hE).calls ha hc (more := []) (more' := []) trivial

set_option maxRecDepth 100000 in
theorem groupCloses_contract (H : Type) (enc : TypeId × Value → H) (W : World) (base : Nat) (args : Array Value) (ds gs : List (DataW H)) (before : List MemPlace)
    (hval : ∀ (j : Nat) t v, Try.f3.params[j]? = some t → args[j]? = some v → Value.okWide Try.prog W .any base t v)
    (hW : DataW.Whole enc Try.prog Try.f3.params.toList Rows.groupClosesSpec.vars false W args.toList ds gs before) (hk : Rows.uptoSmall H (ds ++ gs) = true) :
    Calls Try.prog 3 args W fun e W' => ∃ v, e = .returned v ∧ Rows.groupClosesSpec.post enc Try.prog Try.f3 false true false false W args v W' := by
  have hW' := hW
  obtain ⟨p, q, hA0, hV, rfl, _, _⟩ := hW
  have hA : DataW.TrodAll enc Try.prog W 0 (fun _ => true) true Try.f3.params.toList args.toList ds p := hA0
  rw [Try.params3] at hA hval
  obtain ⟨v0, vs0, d0, ds0, p0, q0, hargs, rfl, rfl, h0, r0⟩ := trodAll_cons hA
  obtain ⟨rfl, rfl, rfl⟩ := trodAll_nil r0
  obtain rfl : args = #[v0] := by cases args; simp_all
  obtain ⟨rfl, rfl⟩ := trodVars_none hV
  have lt0 : ∀ x ∈ p0, x.block < W.heap.size := by obtain ⟨m, hm⟩ := h0; exact DataW.trod_lt m _ _ _ hm
  clear hA0
  have fin : ∀ (e : Ending) (W' : World), e = .returned (.bool true) ∧ Below W.heap.size W W' → ∃ v, e = .returned v ∧ Rows.groupClosesSpec.post enc Try.prog Try.f3 false true false false W #[v0] v W' := fun e W' ⟨he, bel⟩ => by
    subst he
    exact ⟨_, rfl, _, _, _, [], _, [], hW', trodAll_mk1 (shut_bool Try.underlying4 _), (trodAll_cons_mk (Below.trod laidOut (by kernel_rfl) (of_decide_eq_true (by kernel_rfl)) h0 bel lt0) trodAll_mk0), rfl, bel.frame _, fun h => by cases h⟩
  rcases open_ops Try.underlying22 (by kernel_rfl) (by kernel_rfl) (hval 0 22 v0 rfl rfl) h0 with rfl | ⟨a, cap, xs, es, rs, rfl, hcap, hat, rfl, hlen⟩
  · exact (groupCloses_nil W ).mono fin
  · have hn : xs.length ≤ 1048576 := by
      have hb : Rows.uptoBulkAll _ ≤ 1048576 := of_decide_eq_true hk
      simp only [List.cons_append, Rows.uptoBulkAll, Rows.uptoBulk] at hb
      have := bulk_len es
      omega
    exact (groupCloses_walk hn hat hcap ).mono fin

set_option maxRecDepth 100000 in
theorem groupCloses_lifted (os : Os) (started : os.Started) (H : Type) (enc : TypeId × Value → H) (F : Stop.Interp) :
    ReturnsInHanded {} Try.checked os 3 .any ((Rows.OpenSpec.upto Rows.groupClosesSpec).pre6 enc Try.prog Try.f3 Rows.groupClosesUptoRow.domain false) (((Rows.OpenSpec.upto Rows.groupClosesSpec).at F).post enc Try.prog Try.f3 false true false false) := by
  refine returnsInHanded_of_cond (C := Try.checked) (s := Rows.OpenSpec.upto Rows.groupClosesSpec) (k := Rows.uptoSmall) rfl own started (by kernel_rfl) Try.func3
    (OpenSpec.witness (enc := enc) (C := Try.checked) (s := Rows.OpenSpec.upto Rows.groupClosesSpec) (k := Rows.uptoSmall) rfl false ⟨#[], #[.slice none 0 0], []⟩ 8 (by kernel_rfl) (by kernel_rfl) (by kernel_rfl)
      (x := ([.nil], [], [])) (by kernel_rfl) rfl (by kernel_rfl)) ?_
  intro W base args ds gs before hval hW _ hk _
  exact groupCloses_contract H enc W base args ds gs before hval hW hk

theorem groupCloses_holds : Rows.GroupClosesUptoSaid :=
  OpenClaim.holds_of_cond 3 Try.f3 rfl rfl rfl rfl rfl rfl rfl ⟨rfl, rfl, rfl, rfl, rfl⟩ rfl rfl rfl rfl rfl (by kernel_rfl) Try.func3 (by kernel_rfl)
    (of_decide_eq_true (by kernel_rfl)) (by unfold Func.isWrapper; first | (rw [if_pos (by decide +kernel)]; kernel_rfl) | (rw [if_neg (by decide +kernel)]; exact ⟨rfl, rfl⟩))
    (fun os started H enc _ F => groupCloses_lifted os started H enc F)

end Go.Proofs.Ytcefeamjnnkahaa
