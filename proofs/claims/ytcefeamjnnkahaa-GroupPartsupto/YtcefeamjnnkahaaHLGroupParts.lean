/-
  PROVED: for every list of maps, facetlaw05.GroupParts answers true: group.Rotations and Centring answer the unlike matrices and the pure translations of a group, in order, or the error, as the document does.
  Its condition: what is handed in holds at most 1048576 values ('..UptoSaid').
-/
import Derived.Test.YtcefeamjnnkahaaGy
import Derived.Test.YtcefeamjnnkahaaGt
import Derived.WalkKit
import Derived.ProofKit
import Derived.OpenShut
import Derived.ShutString
import Derived.ChangeOld
import Derived.Below
import Derived.JoinedCond
namespace Go.Proofs.Ytcefeamjnnkahaa
open Go Vx
open Go.ChangeShapes Go.WideShapes Go.ChangeAt Go.RowKit

theorem own : ownKnob Try.prog.godebug = none := by kernel_rfl
theorem laidOut : laidOutB Try.prog = true := by kernel_rfl
theorem bulk_one {H : Type} (d : DataW H) : 1 ≤ Rows.uptoBulk d := by
  cases d with
  | lit l => cases l <;> simp [Rows.uptoBulk]
  | nil => simp [Rows.uptoBulk]
  | ptr d => simp [Rows.uptoBulk]
  | slice elems spare => simp [Rows.uptoBulk]
  | agg parts => simp [Rows.uptoBulk]
  | iface t d => simp [Rows.uptoBulk]
  | map entries => simp [Rows.uptoBulk]
  | held h => simp [Rows.uptoBulk]
theorem bulk_len {H : Type} : ∀ (l : List (DataW H)), l.length ≤ Rows.uptoBulkAll l
  | [] => by simp [Rows.uptoBulkAll]
  | x :: r => by have := bulk_one x; have := bulk_len r; simp only [Rows.uptoBulkAll, List.length_cons]; omega

theorem gpT (own : Bool) (xs : List O3) (hn : xs.length ≤ 1048576) : ∃ m', exT ((Cgb Try.prog).at 6) 60 Try.f6 [.slice (some ⟨0, 0, some 0⟩) xs.length 12] [.rows own true 12 xs.length (opRow xs)] [.fix 0] = some (.bool true, m') := by
  have hE := gpE1 own xs.length xs
  have t1 : twT xs.length (opRow xs) = true := by unfold twT; rw [Nat.beq_refl, okOps_opRow]; simp; omega
  have t2 : pT xs.length (opRow xs) = true := by unfold pT; rw [Nat.beq_refl, okOps_opRow]; simp; omega
  have t3 : zT1 xs.length (opRow xs) (opRow xs) = true := by unfold zT1; rw [Nat.beq_refl, okOps_opRow]; rfl
  have t4 : zT2 xs.length (opRow xs) = true := by unfold zT2; rw [Nat.beq_refl, okOps_opRow]; rfl
  have p2ok : p2A own xs.length xs = ansB own xs.length xs true := by
    unfold p2A
    rw [t1, gd_true, opsOf_row rfl, opsOf_row rfl]
    unfold p2
    rw [t2]
    simp only [gd_true]
    cases hz : Nat.beq xs.length 0 with
    | true =>
      have hx : xs = [] := List.eq_nil_of_length_eq_zero (beq_len hz)
      have hc : chkI xs = 5 := by subst hx; kernel_rfl
      rw [hc, t4, opsOf_row rfl]
      rfl
    | false =>
      by_cases h0 : chkI xs = 0
      · have hl := (chk_len h0).1
        have hk : (cens xs).length ≤ 192 := by
          have := bld_len (t := fun i => (atO xs i).r.eqB M3.one) (e := fun i => (atO xs i).t) xs.length 0 []
          unfold cens
          simp at this
          omega
        have t5 : gbT xs.length (opRow xs) (opRow xs) (cens xs).length (cens xs).length (vcRow (cens xs)) (vcRow (cens xs)) = true := by
          unfold gbT
          rw [Nat.beq_refl, Nat.beq_refl, okOps_opRow, okVcs_vcRow]
          simp; omega
        rw [h0, t5, opsOf_row rfl, vcsOf_row rfl]
        simp only [Int.toNat_zero, List.drop_zero, bne_self_eq_false, gd_true]
        rw [alkL_refl V3.eqB_refl]
      · rw [(bif_beq h0).2, t3, opsOf_row rfl]
        simp only [bne_self_eq_false, gd_true]
  rw [t1, gd_true, opsOf_row rfl, opsOf_row rfl] at hE
  unfold p1 at hE
  rw [t2] at hE
  simp only [gd_true] at hE
  cases hz : Nat.beq xs.length 0 with
  | true =>
    have hx : xs = [] := List.eq_nil_of_length_eq_zero (beq_len hz)
    have hc : chkI xs = 5 := by subst hx; kernel_rfl
    rw [hz, hc, t4, opsOf_row rfl, p2ok] at hE
    exact ⟨_, hE⟩
  | false =>
    rw [hz] at hE
    by_cases h0 : chkI xs = 0
    · have hl := (chk_len h0).1
      have hk : (rotsT xs).length ≤ 192 := by
        have := bld_len (t := fun i => rotT xs i) (e := fun i => (atO xs i).r) xs.length 0 []
        unfold rotsT
        simp at this
        omega
      have t5 : gaT xs.length (opRow xs) (opRow xs) (rotsT xs).length (rotsT xs).length (mtRow (rotsT xs)) (mtRow (rotsT xs)) = true := by
        unfold gaT
        rw [Nat.beq_refl, Nat.beq_refl, okOps_opRow, okMts_mtRow]
        simp; omega
      rw [h0, t5, opsOf_row rfl, mtsOf_row rfl] at hE
      simp only [Int.toNat_zero, List.drop_zero, bne_self_eq_false, gd_true] at hE
      rw [alkL_refl M3.eqB_refl, p2ok] at hE
      exact ⟨_, hE⟩
    · rw [(bif_beq h0).2, t3, opsOf_row rfl] at hE
      simp only [bne_self_eq_false, gd_true] at hE
      rw [p2ok] at hE
      exact ⟨_, hE⟩
theorem groupParts_nil (w : World) : Calls Try.prog 6 #[.slice none 0 0] w fun e w' => e = .returned (.bool true) ∧ Below w.heap.size w w' := by
  have h : PlainSem Try.prog 6 [.slice none 0 0] (.bool true) := (exT_ok okga Try.func6 (by kernel_rfl) gpE0).plain (by intro x hx; simp only [List.mem_cons, List.not_mem_nil, or_false] at hx; subst hx; rfl) rfl
  exact (h.2 w).mono fun _ _ hq => ⟨hq.1, hq.2.1⟩
theorem groupParts_walk {W : World} {a : Addr} {xs : List O3} {cap : Nat} (hn : xs.length ≤ 1048576) (ha : OpsAt W a xs) (hc : xs.length ≤ cap) : Calls Try.prog 6 #[.slice (some a) xs.length cap] W fun e W' => e = .returned (.bool true) ∧ Below W.heap.size W W' := by
  obtain ⟨m', hE⟩ := gpT false xs hn
  exact (exT_ok okgb Try.func6 (by kernel_rfl) hE).calls ha hc (more := []) (more' := []) trivial

set_option maxRecDepth 100000 in
theorem groupParts_contract (H : Type) (enc : TypeId × Value → H) (W : World) (base : Nat) (args : Array Value) (ds gs : List (DataW H)) (before : List MemPlace)
    (hval : ∀ (j : Nat) t v, Try.f6.params[j]? = some t → args[j]? = some v → Value.okWide Try.prog W .any base t v)
    (hW : DataW.Whole enc Try.prog Try.f6.params.toList Rows.groupPartsSpec.vars false W args.toList ds gs before) (hk : Rows.uptoSmall H (ds ++ gs) = true) :
    Calls Try.prog 6 args W fun e W' => ∃ v, e = .returned v ∧ Rows.groupPartsSpec.post enc Try.prog Try.f6 false true false false W args v W' := by
  have hW' := hW
  obtain ⟨p, q, hA0, hV, rfl, _, _⟩ := hW
  have hA : DataW.TrodAll enc Try.prog W 0 (fun _ => true) true Try.f6.params.toList args.toList ds p := hA0
  rw [Try.params6] at hA hval
  obtain ⟨v0, vs0, d0, ds0, p0, q0, hargs, rfl, rfl, h0, r0⟩ := trodAll_cons hA
  obtain ⟨rfl, rfl, rfl⟩ := trodAll_nil r0
  obtain rfl : args = #[v0] := by cases args; simp_all
  obtain ⟨rfl, rfl⟩ := trodVars_none hV
  have lt0 : ∀ x ∈ p0, x.block < W.heap.size := by obtain ⟨m, hm⟩ := h0; exact DataW.trod_lt m _ _ _ hm
  clear hA0
  have fin : ∀ (e : Ending) (W' : World), e = .returned (.bool true) ∧ Below W.heap.size W W' → ∃ v, e = .returned v ∧ Rows.groupPartsSpec.post enc Try.prog Try.f6 false true false false W #[v0] v W' := fun e W' ⟨he, bel⟩ => by
    subst he
    exact ⟨_, rfl, _, _, _, [], _, [], hW', trodAll_mk1 (shut_bool Try.underlying4 _), (trodAll_cons_mk (Below.trod laidOut (by kernel_rfl) (of_decide_eq_true (by kernel_rfl)) h0 bel lt0) trodAll_mk0), rfl, bel.frame _, fun h => by cases h⟩
  rcases open_ops Try.underlying22 (by kernel_rfl) (by kernel_rfl) (hval 0 22 v0 rfl rfl) h0 with rfl | ⟨a, cap, xs, es, rs, rfl, hcap, hat, rfl, hlen⟩
  · exact (groupParts_nil W ).mono fin
  · have hn : xs.length ≤ 1048576 := by
      have hb : Rows.uptoBulkAll _ ≤ 1048576 := of_decide_eq_true hk
      simp only [List.cons_append, Rows.uptoBulkAll, Rows.uptoBulk] at hb
      have := bulk_len es
      omega
    exact (groupParts_walk hn hat hcap ).mono fin

set_option maxRecDepth 100000 in
theorem groupParts_lifted (os : Os) (started : os.Started) (H : Type) (enc : TypeId × Value → H) (F : Stop.Interp) :
    ReturnsInHanded {} Try.checked os 6 .any ((Rows.OpenSpec.upto Rows.groupPartsSpec).pre6 enc Try.prog Try.f6 Rows.groupPartsUptoRow.domain false) (((Rows.OpenSpec.upto Rows.groupPartsSpec).at F).post enc Try.prog Try.f6 false true false false) := by
  refine returnsInHanded_of_cond (C := Try.checked) (s := Rows.OpenSpec.upto Rows.groupPartsSpec) (k := Rows.uptoSmall) rfl own started (by kernel_rfl) Try.func6
    (OpenSpec.witness (enc := enc) (C := Try.checked) (s := Rows.OpenSpec.upto Rows.groupPartsSpec) (k := Rows.uptoSmall) rfl false ⟨#[], #[.slice none 0 0], []⟩ 8 (by kernel_rfl) (by kernel_rfl) (by kernel_rfl)
      (x := ([.nil], [], [])) (by kernel_rfl) rfl (by kernel_rfl)) ?_
  intro W base args ds gs before hval hW _ hk _
  exact groupParts_contract H enc W base args ds gs before hval hW hk

theorem groupParts_holds : Rows.GroupPartsUptoSaid :=
  OpenClaim.holds_of_cond 6 Try.f6 rfl rfl rfl rfl rfl rfl rfl ⟨rfl, rfl, rfl, rfl, rfl⟩ rfl rfl rfl rfl rfl (by kernel_rfl) Try.func6 (by kernel_rfl)
    (of_decide_eq_true (by kernel_rfl)) (by unfold Func.isWrapper; first | (rw [if_pos (by decide +kernel)]; kernel_rfl) | (rw [if_neg (by decide +kernel)]; exact ⟨rfl, rfl⟩))
    (fun os started H enc _ F => groupParts_lifted os started H enc F)

end Go.Proofs.Ytcefeamjnnkahaa
