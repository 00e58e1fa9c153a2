/-
  A map done over and over: what op.Power and the document's answer come to. Nothing here is trusted.
-/
import Derived.Test.YtloanoibojmlgaaRef3T
import Derived.Test.YtloanoibojmlgaaLoopS
namespace Go.Proofs.Ytloanoibojmlgaa.Vx
open Go

/-- So many times more; the map that was reached, and the error. -/
def powL (o : O3) : Nat → O3 → O3 × Int
  | 0, p => (p, 0)
  | k + 1, p => match o.mulE p != 0 with
    | true => (p, o.mulE p)
    | false => powL o k (o.mulF p)
def powOut (x : O3 × Int) : O3 × Int := bif x.2 == 0 then (x.1, 0) else (O3.zero, x.2)
def O3.pow (o : O3) (n : Int) : O3 × Int :=
  bif decide (n < -1000) || decide (n > 1000) then (O3.zero, 1)
  else bif o.ck != 0 then (O3.zero, o.ck)
  else bif decide (n < 0) then (bif o.invE != 0 then (O3.zero, o.invE) else powOut (powL o.invF (-n).toNat O3.one))
  else powOut (powL o n.toNat O3.one)
def tPowEnd (x : O3 × Int) : Option Value := match x.2 == 0 with
  | true => some (pOE x.1 0)
  | false => some (pOE O3.zero x.2)
def rngB (i n : Int) : Bool := decide (0 ≤ i) && (decide (i ≤ n) && decide (n ≤ 1000))
theorem rngB_iff {i n : Int} : rngB i n = true ↔ 0 ≤ i ∧ i ≤ n ∧ n ≤ 1000 := by simp [rngB]
def tPower (o : O3) (n : Int) : Option Value := match decide (n < -1000) with
  | true => some (pOE O3.zero 1)
  | false => match decide (n > 1000) with
    | true => some (pOE O3.zero 1)
    | false => match o.ck != 0 with
      | true => some (pOE O3.zero o.ck)
      | false => match decide (n < 0) with
        | true => match o.invE != 0 with
          | true => some (pOE O3.zero o.invE)
          | false => onO (rngB 0 (W (0 - n))) (tPowEnd (powL o.invF (W (0 - n) - 0).toNat O3.one))
        | false => onO (rngB 0 n) (tPowEnd (powL o (n - 0).toNat O3.one))
def fPower (o : O3) (n : Int) : Value := pOE (o.pow n).1 (o.pow n).2
theorem tPowEnd_eq (x : O3 × Int) : tPowEnd x = some (pOE (powOut x).1 (powOut x).2) := by
  unfold tPowEnd powOut
  cases x.2 == 0 <;> rfl
theorem tPower_eq (o : O3) (n : Int) : tPower o n = some (fPower o n) := by
  unfold tPower fPower O3.pow
  by_cases h1 : n < -1000
  · simp [h1]
  · by_cases h2 : n > 1000
    · simp [h1, h2]
    · by_cases h3 : o.ck = 0
      · by_cases h4 : n < 0
        · by_cases h5 : o.invE = 0
          · have hr : rngB 0 (0 - n) = true := rngB_iff.2 (by omega)
            simp only [h1, h2, h3, h4, h5, decide_false, decide_true, Bool.or_self, cond_false, cond_true, bne_self_eq_false]
            rw [W_in (by omega), onO_true hr, tPowEnd_eq, show (0 - n - 0).toNat = (-n).toNat by omega]
          · simp [h1, h2, h3, h4, (bif_beq h5).2]
        · have hr : rngB 0 n = true := rngB_iff.2 (by omega)
          simp only [h1, h2, h3, h4, decide_false, Bool.or_self, cond_false, bne_self_eq_false]
          rw [onO_true hr, tPowEnd_eq, show (n - 0).toNat = n.toNat by omega]
      · simp [h1, h2, (bif_beq h3).2]

/-! The document's -/
/-- What the document's loop does: so many times more; the map that was reached, and the error. -/
def rpowL (o : O3) : Nat → O3 → O3 × Int
  | 0, p => (p, 0)
  | k + 1, p => match (o.rmul p).smallE != 0 with
    | true => ((o.rmul p).small, (o.rmul p).smallE)
    | false => rpowL o k (o.rmul p).small
theorem O3.ck_mul {a b : O3} (ha : a.ck = 0) (hb : b.ck = 0) (h : (a.mul b).r.ok = true) : (a.mul b).ck = 0 := by
  obtain ⟨_, _, a3⟩ := O3.ck_zero.1 ha
  obtain ⟨_, _, b3⟩ := O3.ck_zero.1 hb
  exact O3.ck_zero.2 ⟨V3.md_part _, h, M3.U_mul a3 b3⟩
theorem O3.mulF_eq {a b : O3} (ha : a.ck = 0) (hb : b.ck = 0) : a.mulF b = (a.mul b).small ∧ a.mulE b = (a.mul b).smallE := by
  have : leastI a.ck b.ck = 0 := leastI_zero.2 ⟨ha, hb⟩
  unfold O3.mulF O3.mulE
  rw [this]; exact ⟨rfl, rfl⟩
theorem O3.smallE_zero {o : O3} : o.smallE = 0 ↔ o.r.ok = true := by unfold O3.smallE; cases o.r.ok <;> simp
theorem O3.small_ok {o : O3} (h : o.r.ok = true) : o.small = o := by unfold O3.small; rw [h]; rfl
theorem O3.ck_one : O3.one.ck = 0 := by decide
theorem rpow_eq (o : O3) (ho : o.ck = 0) : ∀ (k : Nat) (p : O3), p.ck = 0 → powOut (rpowL o k p) = powOut (powL o k p)
  | 0, p, _ => rfl
  | k + 1, p, hp => by
    simp only [rpowL, powL]
    rw [O3.rmul_eq ho hp, (O3.mulF_eq ho hp).1, (O3.mulF_eq ho hp).2]
    cases he : (o.mul p).smallE != 0 with
    | true =>
      have : ((o.mul p).smallE == 0) = false := by simpa using he
      simp only [powOut, this, cond_false]
    | false =>
      have h0 : (o.mul p).smallE = 0 := by simpa using he
      have hok := O3.smallE_zero.1 h0
      simp only
      rw [O3.small_ok hok]
      exact rpow_eq o ho k (o.mul p) (O3.ck_mul ho hp hok)
def tDocPower (o : O3) (n : Int) : Option Value := match decide (n < -1000) with
  | true => some (pOE O3.zero 1)
  | false => match decide (n > 1000) with
    | true => some (pOE O3.zero 1)
    | false => match o.ck != 0 with
      | true => some (pOE O3.zero o.ck)
      | false => match decide (n < 0) with
        | true => match o.rback.smallE != 0 with
          | true => some (pOE O3.zero o.rback.smallE)
          | false => onO (rngB 0 (W (0 - n))) (tPowEnd (rpowL o.rback.small (W (0 - n)).toNat O3.one))
        | false => onO (rngB 0 n) (tPowEnd (rpowL o n.toNat O3.one))
theorem O3.ck_inv {a : O3} (ha : a.ck = 0) (h : a.inv.r.ok = true) : a.inv.ck = 0 := by
  obtain ⟨_, _, a3⟩ := O3.ck_zero.1 ha
  exact O3.ck_zero.2 ⟨V3.md_part _, h, M3.U_inv a3⟩
theorem tDocPower_eq (o : O3) (n : Int) : tDocPower o n = some (fPower o n) := by
  rw [← tPower_eq]
  unfold tDocPower tPower
  by_cases h3 : o.ck = 0
  · have e1 : o.invE = o.rback.smallE ∧ o.invF = o.rback.small := by
      unfold O3.invE O3.invF
      rw [h3, O3.rback_eq h3]; exact ⟨rfl, rfl⟩
    rw [e1.1, e1.2]
    rw [tPowEnd_eq, tPowEnd_eq, tPowEnd_eq, tPowEnd_eq, rpow_eq o h3 _ _ O3.ck_one, show (n - 0).toNat = n.toNat by omega, show (W (0 - n) - 0).toNat = (W (0 - n)).toNat by omega]
    cases he : o.rback.smallE != 0 with
    | true => rfl
    | false =>
      have h0 : o.rback.smallE = 0 := by simpa using he
      have hok := O3.smallE_zero.1 h0
      have hck : o.rback.small.ck = 0 := by
        rw [O3.small_ok hok]
        rw [O3.rback_eq h3] at hok ⊢
        exact O3.ck_inv h3 hok
      rw [rpow_eq _ hck _ _ O3.ck_one]
  · rw [(bif_beq h3).2]
end Go.Proofs.Ytloanoibojmlgaa.Vx
