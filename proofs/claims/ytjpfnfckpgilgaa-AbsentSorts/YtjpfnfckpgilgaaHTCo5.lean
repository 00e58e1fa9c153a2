/-
  slices.Compact of indices, told: the whole. Nothing here is trusted.
-/
import Derived.Test.YtjpfnfckpgilgaaHTCo4
namespace Go.Proofs.Ytjpfnfckpgilgaa
open Go Vx Go.RowKit
theorem cpEnd (n : Nat) (Y : List V3) (k : Int) : roundR ((CChk Try.prog).into 110 1) 40 (seqDrop 3 (cpB Try.prog)) [0, 2] [0, 2] [.fix 0] [.fix 0] (cp1 n Y k) = some (.ret, stOf 61 [(0, .slice (some ⟨0, 0, some 0⟩) n 3), (2, .slice (some ⟨0, 0, some 0⟩) n 3)] [.rows true true 3 n (vcRow Y)]) := by kernel_rfl
theorem cpRet (n c : Nat) (r : Nat → List Value) : (retA Try.prog Try.f110 (.ret, stOf 61 [(0, .slice (some ⟨0, 0, some 0⟩) n 3), (2, .slice (some ⟨0, 0, some 0⟩) c 3)] [.rows true true 3 n r])).res = some (.slice (some ⟨0, 0, some 0⟩) c 3, [.rows true true 3 n r]) := by kernel_rfl
/-- What lies there behind it. -/
def cpAll (Y : List V3) : List V3 := cpct Y ++ List.replicate (Y.length - (cpct Y).length) V3.zero
def cpRes (Y : List V3) : St := stOf 61 [(0, .slice (some ⟨0, 0, some 0⟩) Y.length 3), (2, .slice (some ⟨0, 0, some 0⟩) (cpct Y).length 3)] [.rows true true 3 Y.length (vcRow (cpAll Y))]
theorem zero_like {Z Y : List V3} {k n : Nat} (hZ : Z.length = n) (hY : Y.length = n) (hk : k < n) (ht : Z.take k = cpct Y) : (cpct Y).length = k ∧ rowsLike n (zeroTail Z k (n - k)) (vcRow (cpAll Y)) := by
  have hl : (cpct Y).length = k := by rw [← ht]; simp; omega
  refine ⟨hl, fun q hq => ?_⟩
  have hlen : (cpAll Y).length = n := by unfold cpAll; simp; omega
  rw [vcRow_get (by omega : q < (cpAll Y).length)]
  unfold zeroTail
  by_cases h : q < k
  · have hb : (Nat.ble k q && Nat.blt q (k + (n - k))) = false := by
      cases hx : Nat.ble k q with
      | false => rfl
      | true => have := Nat.le_of_ble_eq_true hx; omega
    rw [hb]
    simp only
    rw [vcRow_get (by omega : q < Z.length)]
    unfold cpAll
    rw [List.getElem_append_left (by omega)]
    simp only [← ht, List.getElem_take]
  · have hb : (Nat.ble k q && Nat.blt q (k + (n - k))) = true := by rw [Bool.and_eq_true]; exact ⟨Nat.ble_eq_true_of_le (by omega), Nat.blt_eq.mpr (by omega)⟩
    rw [hb]
    simp only
    unfold cpAll
    rw [List.getElem_append_right (by omega)]
    simp
theorem cpFound (Y : List V3) (j : Nat) (hn : Y.length ≤ 1000) (hj : j + 1 < Y.length) (heq : (atV Y (j + 1)).eqB (atV Y j) = true) (hpre : cpct (Y.take (j + 1)) = Y.take (j + 1)) : CodeSem Try.prog 1 (cpX Try.prog) (cp2 Y.length Y ((j + 1 : Nat) : Int) true) .ret (cpRes Y) ∧ (cpct Y).length < Y.length := by
  have hs := cpct_step (Y := Y) (i := j + 1) (by omega) hj
  rw [show j + 1 - 1 = j by omega, heq] at hs
  simp only [List.append_nil] at hs
  obtain ⟨Z, k, g1, g2, g3, g4⟩ := cpInner Y.length j Y rfl hn ⟨Y, j + 1, 1⟩ ⟨rfl, Nat.le_refl _, by simp only; omega, by simp only; omega, by simp only; omega, fun _ _ => rfl, by simp only; rw [hs, hpre]⟩
  obtain ⟨hl, hlike⟩ := zero_like g2 rfl g3 g4
  refine ⟨?_, by omega⟩
  have hC := cpC Y.length Z k
  rw [show leI (k : Int) Y.length = true by simp [leI]; omega, show decide ((k : Int) < (Y.length : Int)) = true by simpa using g3, show (Nat.blt 0 (Y.length - k) && Nat.ble (k + (Y.length - k)) Y.length) = true by rw [Bool.and_eq_true]; exact ⟨Nat.blt_eq.mpr (by omega), Nat.ble_eq_true_of_le (by omega)⟩] at hC
  simp only [gd_true] at hC
  have h2 : CodeSem Try.prog 1 (seqDrop 2 (cpX Try.prog)) (cp1 Y.length Z k) .ret (cpRes Y) := by
    refine (end_rule (C := CChk Try.prog) okChk (f := 110) (B := 1) (cpInXs 2) hC).likes ?_
    unfold cpRes
    rw [hl]
    exact ⟨rfl, .rows hlike, trivial⟩
  have h1 : CodeSem Try.prog 1 (seqDrop 1 (cpX Try.prog)) (cp3a Y.length Y j (Y.length - (j + 1)) ((j + 1 : Nat) : Int)) .ret (cpRes Y) :=
    stmt_rule cpHas.2.2 (for_rule cpForI (end_rule (C := CChk Try.prog) okChk (f := 110) (B := 1) cpInXf.1 (cpHeadI Y.length Y j (Y.length - (j + 1)) ((j + 1 : Nat) : Int))) g1) h2
  have h0 := cpX0 Y.length Y j
  rw [show leI ((j + 1 : Nat) : Int) Y.length = true by simp [leI]; omega, show decide (((j + 1 : Nat) : Int) < (Y.length : Int)) = true by simp; omega] at h0
  exact seg_rule (C := CChk Try.prog) okChk (f := 110) (B := 1) (k := 1) cpInX h0 h1
theorem t25 (n : Nat) (Y : List V3) (k : Int) (b : Bool) : (cp2 n Y k b).tmps[25]? = some (.bool b) := rfl
theorem skip_code {P : Program} {B : Nat} {st : St} : CodeSem P B .skip st .normal st := fun _ _ _ _ a w _ hQ hr => wp_skip (hQ a w hr)
theorem cpOuter (Y : List V3) (hn : Y.length ≤ 1000) (h2 : 1 ≤ Y.length) : LoopSem Try.prog 1 (cpO Try.prog) (cp1 Y.length Y ((1 : Nat) : Int)) (if (cpct Y).length = Y.length then (.exit 0, cp1 Y.length Y (Y.length : Int)) else (.ret, cpRes Y) : Exit × St).1 (if (cpct Y).length = Y.length then (.exit 0, cp1 Y.length Y (Y.length : Int)) else (.ret, cpRes Y) : Exit × St).2 := by
  have h1 : cpct (Y.take 1) = Y.take 1 := by
    cases Y with
    | nil => simp at h2
    | cons x l => simp [cpct, cpF]
  refine loop_code (x := cpO Try.prog) (fun k : Nat => cp1 Y.length Y (k : Int)) (fun k => Y.length - k) (fun k => 1 ≤ k ∧ k ≤ Y.length ∧ cpct (Y.take k) = Y.take k) (fun _ => if (cpct Y).length = Y.length then (.exit 0, cp1 Y.length Y (Y.length : Int)) else (.ret, cpRes Y)) ?_ 1 ⟨Nat.le_refl _, h2, h1⟩
  rintro k ⟨k1, k2, k3⟩
  have hA := cpA Y.length Y (k : Int)
  by_cases hk : k < Y.length
  · rw [show decide ((k : Int) < (Y.length : Int)) = true by simpa using hk] at hA
    have cA : CodeSem Try.prog 1 (cL (cpO Try.prog)) (cp1 Y.length Y (k : Int)) .normal (cp1 Y.length Y (k : Int)) := end_rule (C := CChk Try.prog) okChk (f := 110) (B := 1) cpInO.2.left hA
    have hT := cpT Y.length Y k
    have hw : W ((k : Int) - 1) = ((k - 1 : Nat) : Int) := by rw [W_in (by omega)]; omega
    rw [bd_ok' hk, hw, bd_ok' (show k - 1 < Y.length by omega), Int.toNat_natCast] at hT
    simp only [gd_true] at hT
    have cT := end_rule (C := CChk Try.prog) okChk (f := 110) (B := 1) cpInI.left hT
    cases hb : (atV Y k).eqB (atV Y (k - 1)) with
    | true =>
      right
      obtain ⟨j, rfl⟩ : ∃ j, k = j + 1 := ⟨k - 1, by omega⟩
      rw [show j + 1 - 1 = j by omega] at hb cT
      obtain ⟨hX, hlt⟩ := cpFound Y j hn hk hb k3
      rw [if_neg (by omega)]
      refine ⟨?_, by simp⟩
      rw [hb] at cT
      rw [cpO_eq]
      refine CodeSem.seq cA (CodeSem.out (CodeSem.blockR ?_) (by simp))
      rw [cpI_eq]
      exact CodeSem.seq cT (CodeSem.condT (t25 _ _ _ _) hX)
    | false =>
      left
      rw [hb] at cT
      refine ⟨k + 1, ?_, ⟨by omega, by omega, ?_⟩, by omega, rfl⟩
      · rw [cpO_eq]
        refine CodeSem.seq cA (CodeSem.seq (s := cp2 Y.length Y (k : Int) false) (CodeSem.blockN ?_) ?_)
        · rw [cpI_eq]
          exact CodeSem.seq cT (CodeSem.condF (t25 _ _ _ _) skip_code)
        · have hN := cpN Y.length Y (k : Int)
          rw [show W ((k : Int) + 1) = ((k + 1 : Nat) : Int) by rw [W_in (by omega)]; simp] at hN
          exact end_rule (C := CChk Try.prog) okChk (f := 110) (B := 1) cpInO.2.right.right hN
      · rw [cpct_step (by omega) hk, hb, k3, atV_get hk, List.take_succ_eq_append_getElem hk]
  · right
    rw [show decide ((k : Int) < (Y.length : Int)) = false by simpa using hk] at hA
    have hkn : k = Y.length := by omega
    have hc : cpct Y = Y := by rw [hkn, List.take_length] at k3; exact k3
    rw [if_pos (by rw [hc])]
    refine ⟨?_, by simp⟩
    rw [cpO_eq]
    refine CodeSem.out ?_ (by simp)
    have := end_rule (C := CChk Try.prog) okChk (f := 110) (B := 1) cpInO.2.left hA
    rw [hkn] at this ⊢
    exact this
theorem cpF_same : ∀ (l : List V3) (p : V3), (cpF p l).length = l.length → cpF p l = l
  | [], _, _ => rfl
  | x :: l, p, h => by
    simp only [cpF] at h ⊢
    cases hx : x.eqB p with
    | true => rw [hx] at h; have := cpF_len l p; simp at h; omega
    | false => rw [hx] at h; simp at h; simp only; rw [cpF_same l x h]
theorem cpct_same {Y : List V3} (h : (cpct Y).length = Y.length) : cpct Y = Y := by
  cases Y with
  | nil => rfl
  | cons x l => simp [cpct] at h ⊢; exact cpF_same l x h
theorem short_same : ∀ {Y : List V3}, Y.length < 2 → cpct Y = Y ∧ cpAll Y = Y
  | [], _ => ⟨rfl, rfl⟩
  | [_], _ => ⟨rfl, rfl⟩
  | _ :: _ :: _, h => by simp at h; omega
set_option maxRecDepth 100000 in
/-- slices.Compact. -/
theorem cpS (Y : List V3) (hn : Y.length ≤ 1000) : MemSem Try.prog 110 [.slice (some ⟨0, 0, some 0⟩) Y.length 3] [.rows true true 3 Y.length (vcRow Y)] (.slice (some ⟨0, 0, some 0⟩) (cpct Y).length 3) [.rows true true 3 Y.length (vcRow (cpAll Y))] := by
  have body0 : InBody ((CChk Try.prog).into 110 1) (cpB Try.prog) := Or.inl ⟨Try.f110, cpB Try.prog, Try.func110, cpB_eq, fun _ hx => hx⟩
  have h2 := cpE2 Y.length Y
  by_cases h : Y.length < 2
  · have hc := short_same h
    rw [hc.1, hc.2]
    rw [show decide ((Y.length : Int) < 2) = true by simp; omega] at h2
    exact body_mem (f := 110) Try.func110 cpB_eq (by kernel_rfl) (seg_rule (C := CChk Try.prog) okChk (f := 110) (B := 1) (k := 1) body0 (cpE1 Y.length Y) (stmt_out cpHas.1 (end_rule (C := CChk Try.prog) okChk (f := 110) (B := 1) (stmt_in Try.func110 cpB_eq) h2) (by simp))) (cpRet Y.length Y.length (vcRow Y))
  · rw [show decide ((Y.length : Int) < 2) = false by simp; omega] at h2
    have c2 : CodeSem Try.prog 1 (stmt 1 (cpB Try.prog)) (cp0 Y.length Y) .normal (cp0 Y.length Y) := end_rule (C := CChk Try.prog) okChk (f := 110) (B := 1) (stmt_in Try.func110 cpB_eq) h2
    have cH : CodeSem Try.prog 1 (forHead (stmt 2 (cpB Try.prog))) (cp0 Y.length Y) .normal (cp1 Y.length Y 1) := end_rule (C := CChk Try.prog) okChk (f := 110) (B := 1) cpInO.1 (cpHead Y.length Y)
    have hO := cpOuter Y hn (by omega)
    have cE : CodeSem Try.prog 1 (seqDrop 2 (cpB Try.prog)) (cp0 Y.length Y) .ret (cpRes Y) := by
      by_cases hc : (cpct Y).length = Y.length
      · rw [if_pos hc] at hO
        have hall : cpAll Y = cpct Y := by unfold cpAll; rw [hc]; simp
        have hYY : cpct Y = Y := cpct_same hc
        refine stmt_rule cpHas.2.1 (for_rule cpFor cH hO) ?_
        have := end_rule (C := CChk Try.prog) okChk (f := 110) (B := 1) (bodyOf_in Try.func110 cpB_eq) (cpEnd Y.length Y (Y.length : Int))
        unfold cpRes
        rw [hall, hYY]
        exact this
      · rw [if_neg hc] at hO
        exact stmt_out cpHas.2.1 (for_ret cpFor cH hO) (by simp)
    exact body_mem (f := 110) Try.func110 cpB_eq (by kernel_rfl) (seg_rule (C := CChk Try.prog) okChk (f := 110) (B := 1) (k := 1) body0 (cpE1 Y.length Y) (stmt_rule cpHas.1 c2 cE)) (cpRet Y.length (cpct Y).length (vcRow (cpAll Y)))
end Go.Proofs.Ytjpfnfckpgilgaa
