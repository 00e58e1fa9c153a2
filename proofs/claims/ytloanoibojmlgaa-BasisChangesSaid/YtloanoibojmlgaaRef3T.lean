/-
  The document's answer for layer 3: what the executor finds ('t..'), and what that comes to ('f..'). Nothing here is trusted.
-/
import Derived.Test.YtloanoibojmlgaaOpT
namespace Go.Proofs.Ytloanoibojmlgaa.Vx
open Go

def tRCheck (o : O3) : Option Value :=
  match !o.t.part with
  | true => some (vI 3)
  | false => match o.r.ok with
    | true => match W o.r.det != 1 with
      | true => match W o.r.det != -1 with
        | true => some (vI 3)
        | false => match !o.r.ok with
          | true => some (vI 4)
          | false => some (vI 0)
      | false => match !o.r.ok with
        | true => some (vI 4)
        | false => some (vI 0)
    | false => match !o.r.ok with
      | true => some (vI 4)
      | false => some (vI 0)
theorem Wdet {m : M3} (h : m.ok = true) : W m.det = m.det := by rw [← detW_W, detW_eq h]
theorem tRCheck_eq (o : O3) : tRCheck o = some (fOCheck o) := by
  unfold tRCheck fOCheck O3.ck M3.form
  cases h0 : o.t.part
  · rfl
  · cases h : o.r.ok
    · rfl
    · simp only [Wdet h, Bool.not_true, cond_true]
      by_cases h1 : o.r.det = 1
      · rw [h1]; rfl
      · by_cases h2 : o.r.det = -1
        · rw [h2]; rfl
        · have e1 : (o.r.det != 1) = true := by simpa using h1
          have e2 : (o.r.det != -1) = true := by simpa using h2
          have e3 : unitB o.r.det = false := by simp [unitB, h1, h2]
          rw [e1, e2, e3]; rfl
def tTwo (a b : O3) : Option Value :=
  match a.ck == 0 with
  | true => some (vI b.ck)
  | false => match b.ck != 0 with
    | true => match decide (b.ck < a.ck) with
      | true => some (vI b.ck)
      | false => some (vI a.ck)
    | false => some (vI a.ck)
def fTwo (a b : O3) : Value := vI (leastI a.ck b.ck)
theorem tTwo_eq (a b : O3) : tTwo a b = some (fTwo a b) := by
  unfold tTwo fTwo
  rcases O3.ck_cases a with h | h | h <;> rcases O3.ck_cases b with k | k | k <;> rw [h, k] <;> rfl
def fRMul (a b : O3) : Value := O3.v ⟨(a.r.mul b.r).w, (((a.r.app b.t).w).add a.t).w.md 24⟩
def tRMul (a b : O3) : Option Value := some (fRMul a b)
theorem tRMul_eq (a b : O3) : tRMul a b = some (fRMul a b) := rfl
def tUndone (m : M3) : Option Value := some (M3.v ⟨W (W (M3.det ⟨1, m.b, m.c, 0, m.e, m.f, 0, m.h, m.i⟩) * W m.det), W (W (M3.det ⟨0, m.b, m.c, 1, m.e, m.f, 0, m.h, m.i⟩) * W m.det), W (W (M3.det ⟨0, m.b, m.c, 0, m.e, m.f, 1, m.h, m.i⟩) * W m.det), W (W (M3.det ⟨m.a, 1, m.c, m.d, 0, m.f, m.g, 0, m.i⟩) * W m.det), W (W (M3.det ⟨m.a, 0, m.c, m.d, 1, m.f, m.g, 0, m.i⟩) * W m.det), W (W (M3.det ⟨m.a, 0, m.c, m.d, 0, m.f, m.g, 1, m.i⟩) * W m.det), W (W (M3.det ⟨m.a, m.b, 1, m.d, m.e, 0, m.g, m.h, 0⟩) * W m.det), W (W (M3.det ⟨m.a, m.b, 0, m.d, m.e, 1, m.g, m.h, 0⟩) * W m.det), W (W (M3.det ⟨m.a, m.b, 0, m.d, m.e, 0, m.g, m.h, 1⟩) * W m.det)⟩)
def fUndone (m : M3) : Value := m.inv.w.v
theorem W_mul2 (m n : Int) : W (W m * W n) = W (m * n) := by rw [W_mull, W_mulr]
theorem tUndone_eq (m : M3) : tUndone m = some (fUndone m) := by
  unfold tUndone fUndone
  simp only [W_mul2]
  unfold M3.w M3.inv M3.smul M3.adj
  simp only [M3.det]
  congr 2
  simp only [M3.mk.injEq]
  refine ⟨?_, ?_, ?_, ?_, ?_, ?_, ?_, ?_, ?_⟩ <;> (congr 2; grind)
def fBack (o : O3) : Value := O3.v ⟨o.r.inv.w, ((o.r.inv.w.app o.t).w.neg).w.md 24⟩
def tBack (o : O3) : Option Value := some (O3.v ⟨o.r.inv.w, V3.md 24 ⟨W (0 - (o.r.inv.w.app o.t).w.x), W (0 - (o.r.inv.w.app o.t).w.y), W (0 - (o.r.inv.w.app o.t).w.z)⟩⟩)
theorem tBack_eq (o : O3) : tBack o = some (fBack o) := by
  unfold tBack fBack V3.neg V3.w
  simp only [Int.zero_sub]
def tTrace (m : M3) : Option Value := some (vI (W (W (m.a + m.e) + m.i)))
def fTrace (m : M3) : Value := vI (W m.tr)
theorem tTrace_eq (m : M3) : tTrace m = some (fTrace m) := by
  unfold tTrace fTrace M3.tr; rw [W_addl]
def tRotation (m : M3) : Option Value :=
  match W m.tr != W m.inv.w.tr with
  | true => some (vI 0)
  | false => match W m.tr == 3 with
    | true => match m.eqB M3.one with
      | true => some (vI 1)
      | false => some (vI 0)
    | false => match W m.tr == -1 with
      | true => match (m.mul m).w.eqB M3.one with
        | true => some (vI 2)
        | false => some (vI 0)
      | false => match W m.tr == 0 with
        | true => some (vI 3)
        | false => match W m.tr == 1 with
          | true => some (vI 4)
          | false => match W m.tr == 2 with
            | true => some (vI 6)
            | false => some (vI 0)
def M3.rotW (m : M3) : Int :=
  bif W m.tr != W m.inv.w.tr then 0 else bif W m.tr == 3 then (bif m.eqB M3.one then 1 else 0) else bif W m.tr == -1 then (bif (m.mul m).w.eqB M3.one then 2 else 0) else
    bif W m.tr == 0 then 3 else bif W m.tr == 1 then 4 else bif W m.tr == 2 then 6 else 0
def fRotation (m : M3) : Value := vI m.rotW
theorem tRotation_eq (m : M3) : tRotation m = some (fRotation m) := by
  unfold tRotation fRotation M3.rotW
  cases W m.tr != W m.inv.w.tr <;> cases W m.tr == 3 <;> cases m.eqB M3.one <;> cases W m.tr == -1 <;> cases (m.mul m).w.eqB M3.one <;> cases W m.tr == 0 <;> cases W m.tr == 1 <;> cases W m.tr == 2 <;> rfl
def tRKind (m : M3) : Option Value :=
  match W m.det == 1 with
  | true => some (vI m.rotW)
  | false => some (vI (W (0 - m.negW.rotW)))
def M3.kindW (m : M3) : Int := bif W m.det == 1 then m.rotW else W (0 - m.negW.rotW)
def fRKind (m : M3) : Value := vI m.kindW
theorem tRKind_eq (m : M3) : tRKind m = some (fRKind m) := by
  unfold tRKind fRKind M3.kindW
  cases W m.det == 1 <;> rfl
def orderOfI (a : Int) : Int := bif decide (a > 0) then a else bif Int.tmod a 2 != 0 then W (-2 * a) else W (0 - a)
def tOrderOf (a : Int) : Option Value :=
  match decide (a > 0) with
  | true => some (vI a)
  | false => match Int.tmod a 2 != 0 with
    | true => some (vI (W (-2 * a)))
    | false => some (vI (W (0 - a)))
def fOrderOf (a : Int) : Value := vI (orderOfI a)
theorem tOrderOf_eq (a : Int) : tOrderOf a = some (fOrderOf a) := by
  unfold tOrderOf fOrderOf orderOfI
  cases decide (a > 0) <;> cases Int.tmod a 2 != 0 <;> rfl
def tSmall (o : O3) : Option Value :=
  match !o.r.ok with
  | true => some (pOE O3.zero 4)
  | false => some (pOE o 0)
def fSmall (o : O3) : Value := pOE o.small o.smallE
theorem tSmall_eq (o : O3) : tSmall o = some (fSmall o) := by
  unfold tSmall fSmall O3.small O3.smallE
  cases o.r.ok <;> rfl
def tDocMake (m : M3) (t : V3) : Option Value :=
  match (O3.mk m (t.md 24)).ck != 0 with
  | true => some (pOE O3.zero (O3.mk m (t.md 24)).ck)
  | false => some (pOE ⟨m, t.md 24⟩ 0)
theorem tDocMake_eq (m : M3) (t : V3) : tDocMake m t = some (fMake m t) := by
  have e : (O3.mk m (t.md 24)).ck = m.form := by unfold O3.ck; simp only [V3.md_part, cond_true]
  unfold tDocMake fMake O3.makeF
  rw [e]
  by_cases h : m.form = 0
  · rw [h]; rfl
  · rw [(bif_beq h).1, (bif_beq h).2]; rfl
/-- The document's product and inverse, before they are held against the bounds. -/
def O3.rmul (a b : O3) : O3 := ⟨(a.r.mul b.r).w, (((a.r.app b.t).w).add a.t).w.md 24⟩
def O3.rback (o : O3) : O3 := ⟨o.r.inv.w, ((o.r.inv.w.app o.t).w.neg).w.md 24⟩
theorem V3.part_bd {v : V3} (h : v.part = true) : v.Bd 23 := by rw [V3.part_iff] at h; unfold V3.Bd; omega
theorem V3.Bd.add {u v : V3} {k l : Int} (h : u.Bd k) (h' : v.Bd l) : (u.add v).Bd (k + l) := by unfold V3.Bd V3.add at *; simp only; omega
theorem V3.Bd.neg {u : V3} {k : Int} (h : u.Bd k) : u.neg.Bd k := by unfold V3.Bd V3.neg at *; simp only; omega
theorem O3.rmul_eq {a b : O3} (ha : a.ck = 0) (hb : b.ck = 0) : a.rmul b = a.mul b := by
  obtain ⟨a1, a2, a3⟩ := O3.ck_zero.1 ha
  obtain ⟨b1, b2, b3⟩ := O3.ck_zero.1 hb
  have h1 := (M3.ok_iff.1 a2).mul (M3.ok_iff.1 b2)
  have h2 := (M3.ok_iff.1 a2).app (V3.part_bd b1)
  have h3 := h2.add (V3.part_bd a1)
  unfold O3.rmul O3.mul
  rw [M3.w_eq (h1.mono (by omega)), V3.w_eq (h2.mono (by omega)), V3.w_eq (h3.mono (by omega))]
theorem O3.rback_eq {o : O3} (ho : o.ck = 0) : o.rback = o.inv := by
  obtain ⟨a1, a2, a3⟩ := O3.ck_zero.1 ho
  have h1 := (M3.ok_iff.1 a2).inv a3
  have h2 := h1.app (V3.part_bd a1)
  unfold O3.rback O3.inv
  rw [M3.w_eq (h1.mono (by omega)), V3.w_eq (h2.mono (by omega)), V3.w_eq (h2.neg.mono (by omega))]
def tDocMul (a b : O3) : Option Value :=
  match leastI a.ck b.ck != 0 with
  | true => some (pOE O3.zero (leastI a.ck b.ck))
  | false => some (fSmall (a.rmul b))
theorem tDocMul_eq (a b : O3) : tDocMul a b = some (fOMul a b) := by
  unfold tDocMul fOMul O3.mulF O3.mulE
  by_cases h : leastI a.ck b.ck = 0
  · obtain ⟨ha, hb⟩ := leastI_zero.1 h
    rw [h, O3.rmul_eq ha hb]; rfl
  · rw [(bif_beq h).1, (bif_beq h).2]; rfl
def tDocInverse (o : O3) : Option Value :=
  match o.ck != 0 with
  | true => some (pOE O3.zero o.ck)
  | false => some (fSmall o.rback)
theorem tDocInverse_eq (o : O3) : tDocInverse o = some (fOInverse o) := by
  unfold tDocInverse fOInverse O3.invF O3.invE
  by_cases h : o.ck = 0
  · rw [h, O3.rback_eq h]; rfl
  · rw [(bif_beq h).1, (bif_beq h).2]; rfl
def tRPlace (p : P3) : Option Value :=
  match p.m != 24 with
  | true => match p.m != 48 with
    | true => match p.m != 96 with
      | true => match p.m != 192 with
        | true => some (.bool false)
        | false => onO (modB p.m) (some (.bool (p.x.eqB (p.x.md p.m))))
      | false => onO (modB p.m) (some (.bool (p.x.eqB (p.x.md p.m))))
    | false => onO (modB p.m) (some (.bool (p.x.eqB (p.x.md p.m))))
  | false => onO (modB p.m) (some (.bool (p.x.eqB (p.x.md p.m))))
theorem tRPlace_eq (p : P3) : tRPlace p = some (fPForm p) := by
  obtain ⟨m, x⟩ := p
  unfold tRPlace fPForm P3.form
  cases h : isF m with
  | true =>
    simp only [onO_true (isF_modB h), Bool.true_and]
    rcases isF_iff.1 h with rfl | rfl | rfl | rfl <;> rfl
  | false =>
    have h' : ¬ (m = 24 ∨ m = 48 ∨ m = 96 ∨ m = 192) := by rw [← isF_iff, h]; simp
    have e1 : (m != 24) = true := by simp; omega
    have e2 : (m != 48) = true := by simp; omega
    have e3 : (m != 96) = true := by simp; omega
    have e4 : (m != 192) = true := by simp; omega
    simp only [e1, e2, e3, e4]; rfl
def rapp1 (x t m : Int) : Int := W (x + W (t * W (Int.tdiv m 24)))
def O3.rapp (o : O3) (p : P3) : P3 := ⟨p.m, V3.md p.m ⟨rapp1 (o.r.app p.x).w.x o.t.x p.m, rapp1 (o.r.app p.x).w.y o.t.y p.m, rapp1 (o.r.app p.x).w.z o.t.z p.m⟩⟩
def tRApply (o : O3) (p : P3) : Option Value := onO (modB p.m) (some (o.rapp p).v)
theorem tRApply_eq {o : O3} {p : P3} (h : modB p.m = true) : tRApply o p = some (o.rapp p).v := by unfold tRApply; rw [onO_true h]
theorem rapp1_eq {x t m : Int} (hm : m = 24 ∨ m = 48 ∨ m = 96 ∨ m = 192) (hx : -1000000 ≤ x ∧ x ≤ 1000000) (ht : 0 ≤ t ∧ t ≤ 23) : rapp1 x t m = x + m / 24 * t := by
  unfold rapp1
  rcases hm with rfl | rfl | rfl | rfl
  · rw [show W (Int.tdiv 24 24) = 1 from rfl, W_in (n := t * 1) (by omega), W_in (by omega)]; omega
  · rw [show W (Int.tdiv 48 24) = 2 from rfl, W_in (n := t * 2) (by omega), W_in (by omega)]; omega
  · rw [show W (Int.tdiv 96 24) = 4 from rfl, W_in (n := t * 4) (by omega), W_in (by omega)]; omega
  · rw [show W (Int.tdiv 192 24) = 8 from rfl, W_in (n := t * 8) (by omega), W_in (by omega)]; omega
theorem O3.rapp_eq {o : O3} {p : P3} (ho : o.ck = 0) (hp : p.form = true) : o.rapp p = o.app p := by
  obtain ⟨a1, a2, a3⟩ := O3.ck_zero.1 ho
  obtain ⟨hm, h1, h2, h3⟩ := P3.form_spec hp
  have hx : p.x.Bd 192 := by unfold V3.Bd; omega
  have hb := (M3.ok_iff.1 a2).app hx
  have hp' := V3.part_iff.1 a1
  unfold O3.rapp O3.app
  rw [V3.w_eq (hb.mono (by omega))]
  unfold V3.Bd at hb
  rw [rapp1_eq hm (by omega) hp'.1, rapp1_eq hm (by omega) hp'.2.1, rapp1_eq hm (by omega) hp'.2.2]
  rfl
def tDocApplyEnd (o : O3) (p : P3) (e : Int) : Option Value :=
  match e != 0 with
  | true => some (p2 P3.zero.v (vI e))
  | false => onO (modB p.m) (some (p2 (o.rapp p).v (vI 0)))
def tDocApply (o : O3) (p : P3) : Option Value :=
  match !p.form with
  | true => tDocApplyEnd o p 3
  | false => tDocApplyEnd o p o.ck
theorem tDocApply_eq (o : O3) (p : P3) : tDocApply o p = some (fOApply o p) := by
  unfold tDocApply fOApply O3.appF O3.appE tDocApplyEnd
  cases hp : p.form with
  | false => rfl
  | true =>
    simp only [Bool.not_true, cond_true]
    by_cases h : o.ck = 0
    · have hm : modB p.m = true := modB_iff.2 (by have := (P3.form_spec hp).1; omega)
      rw [h, O3.rapp_eq h hp, onO_true hm]
      rfl
    · rw [(bif_beq h).1, (bif_beq h).2]; rfl
end Go.Proofs.Ytloanoibojmlgaa.Vx
