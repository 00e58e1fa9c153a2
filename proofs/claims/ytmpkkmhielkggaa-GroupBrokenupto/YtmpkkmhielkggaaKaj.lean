/-
  The functions of layer 3 (op) and of the document's answer for it, without their loops: what the executor finds ('t..'), and what that comes to ('f..'). Nothing here is trusted.
-/
import Derived.Test.YtmpkkmhielkggaaKai
import Derived.Test.YtmpkkmhielkggaaProg

namespace Go.Proofs.Ytmpkkmhielkggaa.Vx
open Go

/-! What both come to -/
def part1 (x : Int) : Bool := decide (0 ≤ x) && decide (x ≤ 23)
def V3.part (v : V3) : Bool := part1 v.x && (part1 v.y && part1 v.z)
theorem V3.part_iff {v : V3} : v.part = true ↔ (0 ≤ v.x ∧ v.x ≤ 23) ∧ (0 ≤ v.y ∧ v.y ≤ 23) ∧ (0 ≤ v.z ∧ v.z ≤ 23) := by
  simp [V3.part, part1]
theorem V3.md_part (v : V3) : (v.md 24).part = true := by rw [V3.part_iff]; unfold V3.md; simp only; omega
theorem V3.part_md {v : V3} (h : v.part = true) : v.md 24 = v := by
  rw [V3.part_iff] at h
  apply V3.ext'; unfold V3.md; simp only; omega
theorem V3.part_ok {v : V3} (h : v.part = true) : v.ok = true := by
  rw [V3.part_iff] at h; rw [V3.ok_iff]; unfold V3.Bd; omega
/-- What keeps a map from being in form. -/
def O3.ck (o : O3) : Int := bif o.t.part then o.r.form else 3
theorem O3.ck_zero {o : O3} : o.ck = 0 ↔ o.t.part = true ∧ o.r.ok = true ∧ o.r.U := by
  unfold O3.ck
  cases h : o.t.part with
  | true => simp only [cond_true, true_and]; exact M3.form_zero
  | false => simp
theorem O3.ck_cases (o : O3) : o.ck = 0 ∨ o.ck = 3 ∨ o.ck = 4 := by
  unfold O3.ck M3.form
  cases o.t.part <;> cases o.r.ok <;> cases unitB o.r.det <;> simp
def leastI (a b : Int) : Int := bif (a == 0 || b == 0) then (if b > a then b else a) else (if b < a then b else a)
def O3.one : O3 := ⟨M3.one, V3.zero⟩
def O3.mul (a b : O3) : O3 := ⟨a.r.mul b.r, ((a.r.app b.t).add a.t).md 24⟩
def O3.inv (o : O3) : O3 := ⟨o.r.inv, ((o.r.inv.app o.t).neg).md 24⟩
/-- A map, if its entries lie within bounds. -/
def O3.small (o : O3) : O3 := bif o.r.ok then o else O3.zero
def O3.smallE (o : O3) : Int := bif o.r.ok then 0 else 4
def pOE (o : O3) (e : Int) : Value := p2 o.v (vI e)
def O3.mulF (a b : O3) : O3 := bif leastI a.ck b.ck == 0 then (a.mul b).small else O3.zero
def O3.mulE (a b : O3) : Int := bif leastI a.ck b.ck == 0 then (a.mul b).smallE else leastI a.ck b.ck
def O3.invF (a : O3) : O3 := bif a.ck == 0 then a.inv.small else O3.zero
def O3.invE (a : O3) : Int := bif a.ck == 0 then a.inv.smallE else a.ck
theorem leastI_zero {a b : O3} : leastI a.ck b.ck = 0 ↔ a.ck = 0 ∧ b.ck = 0 := by
  rcases O3.ck_cases a with h | h | h <;> rcases O3.ck_cases b with k | k | k <;> rw [h, k] <;> decide

theorem bif_beq {a : Int} (h : a ≠ 0) : (a == 0) = false ∧ (a != 0) = true := by constructor <;> simpa using h

/-! op -/
def tAwake : Option Value := some (.bool true)
def fAwake : Value := .bool true
theorem tAwake_eq : tAwake = some fAwake := rfl
def tOCheck (o : O3) : Option Value := chainO mk1 [(decide (o.t.x < 0), [3]), (decide (o.t.x ≥ 24), [3]), (decide (o.t.y < 0), [3]), (decide (o.t.y ≥ 24), [3]), (decide (o.t.z < 0), [3]), (decide (o.t.z ≥ 24), [3])] [o.r.form]
def fOCheck (o : O3) : Value := vI o.ck
theorem part1_eq (x : Int) : part1 x = (!(decide (x < 0)) && !(decide (x ≥ 24))) := by
  unfold part1
  rw [Bool.eq_iff_iff]
  simp only [Bool.and_eq_true, decide_eq_true_eq, Bool.not_eq_true', decide_eq_false_iff_not]
  omega
theorem tOCheck_eq (o : O3) : tOCheck o = some (fOCheck o) := by
  unfold tOCheck fOCheck O3.ck V3.part
  rw [chain_eq, part1_eq, part1_eq, part1_eq]
  cases decide (o.t.x < 0) <;> cases decide (o.t.x ≥ 24) <;> cases decide (o.t.y < 0) <;> cases decide (o.t.y ≥ 24) <;> cases decide (o.t.z < 0) <;> cases decide (o.t.z ≥ 24) <;> rfl
def tCheckM (m : M3) : Option Value :=
  match m.ck != 0 with
  | true => some (vI m.ck)
  | false => match (bif m.ok then m.det else 0) != 1 with
    | true => match (bif m.ok then m.det else 0) != -1 with
      | true => some (vI 3)
      | false => some (vI 0)
    | false => some (vI 0)
def fCheckM (m : M3) : Value := vI m.form
theorem tCheckM_eq (m : M3) : tCheckM m = some (fCheckM m) := by
  unfold tCheckM fCheckM M3.form M3.ck
  cases m.ok
  · rfl
  · simp only [cond_true, bne_self_eq_false]
    by_cases h1 : m.det = 1
    · rw [h1]; rfl
    · by_cases h2 : m.det = -1
      · rw [h2]; rfl
      · have e1 : (m.det != 1) = true := by simpa using h1
        have e2 : (m.det != -1) = true := by simpa using h2
        have e3 : unitB m.det = false := by simp [unitB, h1, h2]
        rw [e1, e2, e3]; rfl
def tLeast (a b : Int) : Option Value :=
  match a == 0 with
  | true => some (vI (if b > a then b else a))
  | false => match b == 0 with
    | true => some (vI (if b > a then b else a))
    | false => some (vI (if b < a then b else a))
def fLeast (a b : Int) : Value := vI (leastI a b)
theorem tLeast_eq (a b : Int) : tLeast a b = some (fLeast a b) := by
  unfold tLeast fLeast leastI
  cases a == 0 <;> cases b == 0 <;> rfl
def O3.send (o : O3) (t : V3) : V3 := ((o.r.appF t).add o.t).md 24
def tSend (o : O3) (t : V3) : Option Value := some (fAdd (o.r.appF t) o.t)
def fSend (o : O3) (t : V3) : Value := (o.send t).v
theorem tSend_eq (o : O3) (t : V3) : tSend o t = some (fSend o t) := rfl
def M3.w (m : M3) : M3 := ⟨W m.a, W m.b, W m.c, W m.d, W m.e, W m.f, W m.g, W m.h, W m.i⟩
def V3.w (m : V3) : V3 := ⟨W m.x, W m.y, W m.z⟩
theorem M3.w_eq {m : M3} (h : m.Bd 9000000000000000000) : m.w = m := by
  obtain ⟨h0, h1, h2, h3, h4, h5, h6, h7, h8⟩ := h
  unfold M3.w
  rw [W_in h0, W_in h1, W_in h2, W_in h3, W_in h4, W_in h5, W_in h6, W_in h7, W_in h8]
theorem V3.w_eq {m : V3} (h : m.Bd 9000000000000000000) : m.w = m := by
  obtain ⟨h0, h1, h2⟩ := h
  unfold V3.w
  rw [W_in h0, W_in h1, W_in h2]
def M3.negW (m : M3) : M3 := ⟨W (0 - m.a), W (0 - m.b), W (0 - m.c), W (0 - m.d), W (0 - m.e), W (0 - m.f), W (0 - m.g), W (0 - m.h), W (0 - m.i)⟩
theorem M3.negW_eq {m : M3} (h : m.Bd 1000) : m.negW = m.neg := by
  unfold M3.Bd at h
  unfold M3.negW M3.neg
  rw [W_in (n := 0 - m.a) (by omega), W_in (n := 0 - m.b) (by omega), W_in (n := 0 - m.c) (by omega), W_in (n := 0 - m.d) (by omega), W_in (n := 0 - m.e) (by omega), W_in (n := 0 - m.f) (by omega), W_in (n := 0 - m.g) (by omega), W_in (n := 0 - m.h) (by omega), W_in (n := 0 - m.i) (by omega)]
  simp only [Int.zero_sub]
def tOpposite (m : M3) : Option Value := some m.negW.v
def fOpposite (m : M3) : Value := m.negW.v
theorem tOpposite_eq (m : M3) : tOpposite m = some (fOpposite m) := rfl
def tOForm (o : O3) : Option Value := some (.bool (o.ck == 0))
def fOForm (o : O3) : Value := .bool (o.ck == 0)
theorem tOForm_eq (o : O3) : tOForm o = some (fOForm o) := rfl
def tMake (m : M3) (t : V3) : Option Value :=
  match m.form != 0 with
  | true => some (pOE O3.zero m.form)
  | false => some (pOE ⟨m, (t.add V3.zero).md 24⟩ 0)
def O3.makeF (m : M3) (t : V3) : O3 := bif m.form == 0 then ⟨m, t.md 24⟩ else O3.zero
def fMake (m : M3) (t : V3) : Value := pOE (O3.makeF m t) m.form
theorem V3.add_zero (t : V3) : t.add V3.zero = t := by unfold V3.add V3.zero; simp
theorem tMake_eq (m : M3) (t : V3) : tMake m t = some (fMake m t) := by
  unfold tMake fMake O3.makeF
  rw [V3.add_zero]
  by_cases h : m.form = 0
  · rw [h]; rfl
  · rw [(bif_beq h).1, (bif_beq h).2]; rfl
def tOne : Option Value := some O3.one.v
def fOne : Value := O3.one.v
theorem tOne_eq : tOne = some fOne := rfl
def tOMul (a b : O3) : Option Value :=
  match leastI a.ck b.ck != 0 with
  | true => some (pOE O3.zero (leastI a.ck b.ck))
  | false => match (a.r.mulF b.r).ck != 0 with
    | true => some (pOE O3.zero (a.r.mulF b.r).ck)
    | false => some (pOE ⟨a.r.mulF b.r, a.send b.t⟩ 0)
def fOMul (a b : O3) : Value := pOE (a.mulF b) (a.mulE b)
theorem O3.send_eq {o : O3} {t : V3} (h : o.r.ok = true) (ht : t.ok = true) : o.send t = ((o.r.app t).add o.t).md 24 := by
  unfold O3.send M3.appF; rw [h, ht]; rfl
theorem tOMul_eq (a b : O3) : tOMul a b = some (fOMul a b) := by
  unfold tOMul fOMul O3.mulF O3.mulE
  by_cases h : leastI a.ck b.ck = 0
  · obtain ⟨ha, hb⟩ := leastI_zero.1 h
    obtain ⟨a1, a2, a3⟩ := O3.ck_zero.1 ha
    obtain ⟨b1, b2, b3⟩ := O3.ck_zero.1 hb
    have e : a.r.mulF b.r = a.r.mul b.r := by unfold M3.mulF; rw [a2, b2]; rfl
    rw [h, e, O3.send_eq a2 (V3.part_ok b1)]
    unfold O3.small O3.smallE M3.ck
    simp only [O3.mul]
    cases (a.r.mul b.r).ok <;> rfl
  · rw [(bif_beq h).1, (bif_beq h).2]; rfl
def tOInverse (o : O3) : Option Value :=
  match o.ck != 0 with
  | true => some (pOE O3.zero o.ck)
  | false => match o.r.invF.ck != 0 with
    | true => some (pOE O3.zero o.r.invF.ck)
    | false => some (pOE ⟨o.r.invF, ((o.r.invF.appF o.t).neg).md 24⟩ 0)
def fOInverse (o : O3) : Value := pOE o.invF o.invE
theorem tOInverse_eq (o : O3) : tOInverse o = some (fOInverse o) := by
  unfold tOInverse fOInverse O3.invF O3.invE
  by_cases h : o.ck = 0
  · obtain ⟨a1, a2, a3⟩ := O3.ck_zero.1 h
    have e : o.r.invF = o.r.inv := by unfold M3.invF; rw [M3.form_zero.2 ⟨a2, a3⟩]; rfl
    rw [h, e]
    unfold O3.small O3.smallE M3.ck O3.inv M3.appF
    rw [V3.part_ok a1]
    cases o.r.inv.ok <;> rfl
  · rw [(bif_beq h).1, (bif_beq h).2]; rfl
/-- The kind of a matrix. -/
def M3.kindF (m : M3) : Int := bif m.det == 1 then m.ordI else -m.neg.ordI
theorem M3.neg_ok {m : M3} (h : m.ok = true) : m.neg.ok = true := by
  rw [M3.ok_iff] at *; unfold M3.Bd M3.neg at *; simp only; omega
theorem M3.det_neg (m : M3) : m.neg.det = -m.det := by unfold M3.det M3.neg; grind
theorem M3.U_neg {m : M3} (h : m.U) : m.neg.U := by
  unfold M3.U at *; rw [M3.det_neg]; omega
def M3.kindE (m : M3) : Int := bif m.kindF == 0 then 9 else 0
def O3.kindF (o : O3) : Int := bif o.ck == 0 then o.r.kindF else 0
def O3.kindE (o : O3) : Int := bif o.ck == 0 then o.r.kindE else o.ck
def tKind (o : O3) : Option Value :=
  match o.ck != 0 with
  | true => some (p2 (vI 0) (vI o.ck))
  | false => match (bif o.r.ok then o.r.det else 0) == 1 with
    | true => some (p2 (vI o.r.ordF) (vI o.r.ordE))
    | false => some (p2 (vI (W (0 - o.r.negW.ordF))) (vI o.r.negW.ordE))
def fKind (o : O3) : Value := p2 (vI o.kindF) (vI o.kindE)
theorem M3.ordI_bd (m : M3) : 0 ≤ m.ordI ∧ m.ordI ≤ 6 := by
  unfold M3.ordI
  cases m.eqB M3.one <;> cases (m.pow 2).eqB M3.one <;> cases (m.pow 3).eqB M3.one <;> cases (m.pow 4).eqB M3.one <;> cases (m.pow 6).eqB M3.one <;> decide
theorem tKind_eq (o : O3) : tKind o = some (fKind o) := by
  unfold tKind fKind O3.kindF O3.kindE
  by_cases h : o.ck = 0
  · obtain ⟨a1, a2, a3⟩ := O3.ck_zero.1 h
    rw [h, a2]
    unfold M3.kindE M3.kindF
    simp only [cond_true, bne_self_eq_false, beq_self_eq_true]
    cases hd : o.r.det == 1 with
    | true => unfold M3.ordF M3.ordE; rw [M3.form_zero.2 ⟨a2, a3⟩]; rfl
    | false =>
      rw [M3.negW_eq (M3.ok_iff.1 a2)]
      unfold M3.ordF M3.ordE
      rw [M3.form_zero.2 ⟨M3.neg_ok a2, M3.U_neg a3⟩]
      have := M3.ordI_bd o.r.neg
      simp only [beq_self_eq_true, cond_true, cond_false]
      rw [W_in (by omega), Int.zero_sub]
      congr 2
      have e : (o.r.neg.ordI == 0) = (-o.r.neg.ordI == 0) := beq_of_iff (by simp only [beq_iff_eq]; omega)
      rw [e]
  · rw [(bif_beq h).1, (bif_beq h).2]; rfl
/-- Apply. -/
def O3.app (o : O3) (p : P3) : P3 := ⟨p.m, ((o.r.app p.x).add (o.t.smul (p.m / 24))).md p.m⟩
def O3.appE (o : O3) (p : P3) : Int := bif p.form then o.ck else 3
def O3.appF (o : O3) (p : P3) : P3 := bif o.appE p == 0 then o.app p else P3.zero
def O3.appL (o : O3) (p : P3) : Int := bif !p.form then leastI o.ck 3 else o.ck
def tOApplyEnd (o : O3) (p : P3) (e : Int) : Option Value :=
  match e != 0 with
  | true => some (p2 P3.zero.v (vI e))
  | false => some (fShift (P3.place p.m (o.r.appF p.x)) o.t)
def tOApply (o : O3) (p : P3) : Option Value :=
  match !p.form with
  | true => tOApplyEnd o p (leastI o.ck 3)
  | false => tOApplyEnd o p o.ck
def fOApply (o : O3) (p : P3) : Value := p2 (o.appF p).v (vI (o.appE p))
theorem md_add_md (m : Int) (u v : V3) : ((u.md m).add v).md m = (u.add v).md m := by
  unfold V3.md V3.add
  simp only [Int.emod_add_emod]
theorem md_md (m : Int) (u : V3) : (u.md m).md m = u.md m := by
  unfold V3.md; simp only [Int.emod_emod]
theorem P3.x_ok {p : P3} (h : p.form = true) : p.x.ok = true := by
  obtain ⟨hm, h1, h2, h3⟩ := P3.form_spec h
  rw [V3.ok_iff]; unfold V3.Bd; omega
theorem tOApply_eq (o : O3) (p : P3) : tOApply o p = some (fOApply o p) := by
  unfold tOApply fOApply O3.appF O3.appE tOApplyEnd
  cases hp : p.form with
  | false =>
    have e : leastI o.ck 3 = 3 := by rcases O3.ck_cases o with h | h | h <;> rw [h] <;> rfl
    simp only [Bool.not_false, e]
    rfl
  | true =>
    simp only [Bool.not_true, cond_true]
    by_cases h : o.ck = 0
    · obtain ⟨a1, a2, a3⟩ := O3.ck_zero.1 h
      obtain ⟨hm, h1, h2, h3⟩ := P3.form_spec hp
      have hF : isF p.m = true := isF_iff.2 hm
      have e1 : P3.place p.m (o.r.appF p.x) = ⟨p.m, (o.r.app p.x).md p.m⟩ := by
        unfold P3.place M3.appF; rw [hF, a2, P3.x_ok hp]; rfl
      have e2 : P3.form ⟨p.m, (o.r.app p.x).md p.m⟩ = true := by
        unfold P3.form
        simp only [hF, md_md, V3.eqB_refl, Bool.and_self]
      rw [h, e1]
      unfold fShift
      rw [e2]
      simp only [bne_self_eq_false, beq_self_eq_true, cond_true]
      unfold P3.shift O3.app
      rw [md_add_md]
    · rw [(bif_beq h).1, (bif_beq h).2]; rfl

/-! The document's answer -/
def tMod (n m : Int) : Option Value := match m == 0 with
  | true => none
  | false => match m == 0 with
    | true => none
    | false => some (vI (Int.tmod (W (Int.tmod n m + m)) m))
theorem tMod_eq {n m : Int} (h : modB m = true) : tMod n m = some (vI (n % m)) := by
  obtain ⟨h0, h1⟩ := modB_iff.1 h
  have e : (m == 0) = false := by simp; omega
  unfold tMod
  rw [e]
  have hb := tmod_bd n m h0
  have e2 := Int.tmod_add_mul_tdiv n m
  have e3 : (n.tmod m) % m = n % m := by
    conv => rhs; rw [← e2]
    rw [Int.add_mul_emod_self_left]
  simp only
  rw [W_in (by omega), Int.tmod_eq_emod_of_nonneg (by omega), Int.add_emod_right, e3]
def tRDet (m : M3) : Option Value := some (vI (W (W (W (0 + W (m.a * minR m.e m.i m.f m.h)) + W (m.b * minR m.f m.g m.d m.i)) + W (m.c * minR m.d m.h m.e m.g))))
def fRDet (m : M3) : Value := vI (W m.det)
theorem tRDet_eq (m : M3) : tRDet m = some (fRDet m) := by
  unfold tRDet fRDet
  rw [← detW_W, Int.zero_add, W_W]; rfl
def tWithinM (m : M3) : Option Value := guardF [decide (m.a < -1000), decide (m.a > 1000), decide (m.b < -1000), decide (m.b > 1000), decide (m.c < -1000), decide (m.c > 1000), decide (m.d < -1000), decide (m.d > 1000), decide (m.e < -1000), decide (m.e > 1000), decide (m.f < -1000), decide (m.f > 1000), decide (m.g < -1000), decide (m.g > 1000), decide (m.h < -1000), decide (m.h > 1000), decide (m.i < -1000), decide (m.i > 1000)] (some (.bool true))
def fWithinM (m : M3) : Value := .bool m.ok
theorem guardF_all : ∀ (ts : List Bool), guardF ts (some (.bool true)) = some (.bool (ts.all (!·)))
  | [] => rfl
  | true :: ts => rfl
  | false :: ts => by simp only [guardF, List.all_cons, Bool.not_false, Bool.true_and]; exact guardF_all ts
theorem tWithinM_eq (m : M3) : tWithinM m = some (fWithinM m) := by
  unfold tWithinM fWithinM
  rw [guardF_all]
  congr 2
  rw [Bool.eq_iff_iff, M3.ok_iff]
  unfold M3.Bd
  simp only [List.all_cons, List.all_nil, Bool.and_true, Bool.and_eq_true, Bool.not_eq_true', decide_eq_false_iff_not]
  omega
def tPart (v : V3) : Option Value := guardF [decide (v.x < 0), decide (v.x > 23), decide (v.y < 0), decide (v.y > 23), decide (v.z < 0), decide (v.z > 23)] (some (.bool true))
def fPart (v : V3) : Value := .bool v.part
theorem tPart_eq (v : V3) : tPart v = some (fPart v) := by
  unfold tPart fPart
  rw [guardF_all]
  congr 2
  rw [Bool.eq_iff_iff, V3.part_iff]
  simp only [List.all_cons, List.all_nil, Bool.and_true, Bool.and_eq_true, Bool.not_eq_true', decide_eq_false_iff_not]
  omega
def tTimesM (m n : M3) : Option Value := some (M3.v ⟨rdot m.a m.b m.c n.a n.d n.g, rdot m.a m.b m.c n.b n.e n.h, rdot m.a m.b m.c n.c n.f n.i, rdot m.d m.e m.f n.a n.d n.g, rdot m.d m.e m.f n.b n.e n.h, rdot m.d m.e m.f n.c n.f n.i, rdot m.g m.h m.i n.a n.d n.g, rdot m.g m.h m.i n.b n.e n.h, rdot m.g m.h m.i n.c n.f n.i⟩)
def fTimesM (m n : M3) : Value := (m.mul n).w.v
theorem tTimesM_eq (m n : M3) : tTimesM m n = some (fTimesM m n) := by
  unfold tTimesM fTimesM
  simp only [rdot_eq, dotR_W]
  rfl
def tColumn (m : M3) (v : V3) : Option Value := some (V3.v ⟨rdot m.a m.b m.c v.x v.y v.z, rdot m.d m.e m.f v.x v.y v.z, rdot m.g m.h m.i v.x v.y v.z⟩)
def fColumn (m : M3) (v : V3) : Value := (m.app v).w.v
theorem tColumn_eq (m : M3) (v : V3) : tColumn m v = some (fColumn m v) := by
  unfold tColumn fColumn
  simp only [rdot_eq, dotR_W]
  rfl
def tBring (v : V3) (m : Int) : Option Value := onO (modB m) (onO (modB m) (onO (modB m) (some (v.md m).v)))
theorem tBring_eq {v : V3} {m : Int} (h : modB m = true) : tBring v m = some (v.md m).v := by
  unfold tBring; simp only [onO_true h]
def tRAdd (u v : V3) : Option Value := some (u.add v).w.v
def fRAdd (u v : V3) : Value := (u.add v).w.v
theorem tRAdd_eq (u v : V3) : tRAdd u v = some (fRAdd u v) := rfl
end Go.Proofs.Ytmpkkmhielkggaa.Vx


namespace Go.Proofs.Ytmpkkmhielkggaa
open Go Vx

def inlined : List Nat := [10, 12, 13, 14, 15, 16, 17, 18, 19, 20, 21, 22, 23, 24, 25, 27, 28, 29, 30, 31, 32, 33, 34, 35, 36, 37, 41, 42, 43, 44, 45, 46, 47, 48, 49, 50, 51, 54, 56, 58, 60, 61, 62, 63, 64, 65, 66, 69, 71, 72, 73, 77, 78, 79, 80, 81, 82, 83, 84, 85, 87, 88, 89, 90, 91, 92, 93, 94, 95, 96, 97, 116, 117, 118, 119, 120, 121, 122, 123, 132, 133, 134, 137]
def C0 (P : Program) : Cx := base P inlined
theorem ok0 : CxOk (C0 Try.prog) := base_ok (by kernel_rfl) (by kernel_rfl)
/-- vec.within -/
theorem e1 (a0 a1 a2 b : Int) : exFun ((C0 Try.prog).at 117) 60 Try.f117 (pack [some 3, none] [a0, a1, a2, b]) = tWithin ⟨a0, a1, a2⟩ b := by kernel_rfl
def F_117 : List Int → Option Value
  | [a0, a1, a2, b] => some (fWithin ⟨a0, a1, a2⟩ b)
  | _ => none
def C1 (P : Program) : Cx := (C0 P).add 117 [some 3, none] F_117
theorem ok1 : CxOk (C1 Try.prog) := Cx.add_ok ok0 (n := 60) Try.func117 (by kernel_rfl) fun l v hl h => by
  match l, hl, h with
  | [a0, a1, a2, b], _, hh => rw [e1, tWithin_eq]; exact hh
/-- vec.Check -/
theorem e2 (a0 a1 a2 a3 a4 a5 a6 a7 a8 : Int) : exFun ((C1 Try.prog).at 95) 60 Try.f95 (pack [some 9] [a0, a1, a2, a3, a4, a5, a6, a7, a8]) = tCheck ⟨a0, a1, a2, a3, a4, a5, a6, a7, a8⟩ := by kernel_rfl
def F_95 : List Int → Option Value
  | [a0, a1, a2, a3, a4, a5, a6, a7, a8] => some (fCheck ⟨a0, a1, a2, a3, a4, a5, a6, a7, a8⟩)
  | _ => none
def C2 (P : Program) : Cx := (C1 P).add 95 [some 9] F_95
theorem ok2 : CxOk (C2 Try.prog) := Cx.add_ok ok1 (n := 60) Try.func95 (by kernel_rfl) fun l v hl h => by
  match l, hl, h with
  | [a0, a1, a2, a3, a4, a5, a6, a7, a8], _, hh => rw [e2, tCheck_eq]; exact hh
/-- vec.checkBoth -/
theorem e3 (a0 a1 a2 a3 a4 a5 a6 a7 a8 b0 b1 b2 : Int) : exFun ((C2 Try.prog).at 89) 60 Try.f89 (pack [some 9, some 3] [a0, a1, a2, a3, a4, a5, a6, a7, a8, b0, b1, b2]) = tBoth ⟨a0, a1, a2, a3, a4, a5, a6, a7, a8⟩ ⟨b0, b1, b2⟩ := by kernel_rfl
def F_89 : List Int → Option Value
  | [a0, a1, a2, a3, a4, a5, a6, a7, a8, b0, b1, b2] => some (fBoth ⟨a0, a1, a2, a3, a4, a5, a6, a7, a8⟩ ⟨b0, b1, b2⟩)
  | _ => none
def C3 (P : Program) : Cx := (C2 P).add 89 [some 9, some 3] F_89
theorem ok3 : CxOk (C3 Try.prog) := Cx.add_ok ok2 (n := 60) Try.func89 (by kernel_rfl) fun l v hl h => by
  match l, hl, h with
  | [a0, a1, a2, a3, a4, a5, a6, a7, a8, b0, b1, b2], _, hh => rw [e3, tBoth_eq]; exact hh
/-- vec.Mul -/
theorem e4 (a0 a1 a2 a3 a4 a5 a6 a7 a8 b0 b1 b2 b3 b4 b5 b6 b7 b8 : Int) : exFun ((C3 Try.prog).at 122) 60 Try.f122 (pack [some 9, some 9] [a0, a1, a2, a3, a4, a5, a6, a7, a8, b0, b1, b2, b3, b4, b5, b6, b7, b8]) = tMul ⟨a0, a1, a2, a3, a4, a5, a6, a7, a8⟩ ⟨b0, b1, b2, b3, b4, b5, b6, b7, b8⟩ := by kernel_rfl
def F_122 : List Int → Option Value
  | [a0, a1, a2, a3, a4, a5, a6, a7, a8, b0, b1, b2, b3, b4, b5, b6, b7, b8] => some (fMul ⟨a0, a1, a2, a3, a4, a5, a6, a7, a8⟩ ⟨b0, b1, b2, b3, b4, b5, b6, b7, b8⟩)
  | _ => none
def C4 (P : Program) : Cx := (C3 P).add 122 [some 9, some 9] F_122
theorem ok4 : CxOk (C4 Try.prog) := Cx.add_ok ok3 (n := 60) Try.func122 (by kernel_rfl) fun l v hl h => by
  match l, hl, h with
  | [a0, a1, a2, a3, a4, a5, a6, a7, a8, b0, b1, b2, b3, b4, b5, b6, b7, b8], _, hh => rw [e4, tMul_eq]; exact hh
/-- vec.Apply -/
theorem e5 (a0 a1 a2 a3 a4 a5 a6 a7 a8 b0 b1 b2 : Int) : exFun ((C4 Try.prog).at 63) 60 Try.f63 (pack [some 9, some 3] [a0, a1, a2, a3, a4, a5, a6, a7, a8, b0, b1, b2]) = tApply ⟨a0, a1, a2, a3, a4, a5, a6, a7, a8⟩ ⟨b0, b1, b2⟩ := by kernel_rfl
def F_63 : List Int → Option Value
  | [a0, a1, a2, a3, a4, a5, a6, a7, a8, b0, b1, b2] => some (fApply ⟨a0, a1, a2, a3, a4, a5, a6, a7, a8⟩ ⟨b0, b1, b2⟩)
  | _ => none
def C5 (P : Program) : Cx := (C4 P).add 63 [some 9, some 3] F_63
theorem ok5 : CxOk (C5 Try.prog) := Cx.add_ok ok4 (n := 60) Try.func63 (by kernel_rfl) fun l v hl h => by
  match l, hl, h with
  | [a0, a1, a2, a3, a4, a5, a6, a7, a8, b0, b1, b2], _, hh => rw [e5, tApply_eq]; exact hh
/-- vec.Det -/
theorem e6 (a0 a1 a2 a3 a4 a5 a6 a7 a8 : Int) : exFun ((C5 Try.prog).at 116) 60 Try.f116 (pack [some 9] [a0, a1, a2, a3, a4, a5, a6, a7, a8]) = tDet ⟨a0, a1, a2, a3, a4, a5, a6, a7, a8⟩ := by kernel_rfl
def F_116 : List Int → Option Value
  | [a0, a1, a2, a3, a4, a5, a6, a7, a8] => some (fDet ⟨a0, a1, a2, a3, a4, a5, a6, a7, a8⟩)
  | _ => none
def C6 (P : Program) : Cx := (C5 P).add 116 [some 9] F_116
theorem ok6 : CxOk (C6 Try.prog) := Cx.add_ok ok5 (n := 60) Try.func116 (by kernel_rfl) fun l v hl h => by
  match l, hl, h with
  | [a0, a1, a2, a3, a4, a5, a6, a7, a8], _, hh => rw [e6, tDet_eq]; exact hh
/-- vec.Inverse -/
theorem e7 (a0 a1 a2 a3 a4 a5 a6 a7 a8 : Int) : exFun ((C6 Try.prog).at 94) 60 Try.f94 (pack [some 9] [a0, a1, a2, a3, a4, a5, a6, a7, a8]) = tInverse ⟨a0, a1, a2, a3, a4, a5, a6, a7, a8⟩ := by kernel_rfl
def F_94 : List Int → Option Value
  | [a0, a1, a2, a3, a4, a5, a6, a7, a8] => some (fInverse ⟨a0, a1, a2, a3, a4, a5, a6, a7, a8⟩)
  | _ => none
def C7 (P : Program) : Cx := (C6 P).add 94 [some 9] F_94
theorem ok7 : CxOk (C7 Try.prog) := Cx.add_ok ok6 (n := 60) Try.func94 (by kernel_rfl) fun l v hl h => by
  match l, hl, h with
  | [a0, a1, a2, a3, a4, a5, a6, a7, a8], _, hh => rw [e7, tInverse_eq]; exact hh
/-- frac.residue -/
theorem e8 (a b : Int) : exFun ((C7 Try.prog).at 87) 60 Try.f87 (pack [none, none] [a, b]) = tResidue a b := by kernel_rfl
def F_87 : List Int → Option (Bool × Value)
  | [a, b] => some (modB b, vI (a % b))
  | _ => none
def C8 (P : Program) : Cx := (C7 P).addD 87 [none, none] F_87
theorem ok8 : CxOk (C8 Try.prog) := Cx.addD_ok ok7 (n := 60) Try.func87 (by kernel_rfl) fun l v hl h => by
  match l, hl, h with
  | [a, b], _, hh => simp only [F_87, Option.some.injEq, Prod.mk.injEq] at hh; rw [e8, tResidue_eq hh.1, hh.2]
/-- frac.Add -/
theorem e9 (a0 a1 a2 b0 b1 b2 : Int) : exFun ((C8 Try.prog).at 134) 60 Try.f134 (pack [some 3, some 3] [a0, a1, a2, b0, b1, b2]) = tAdd ⟨a0, a1, a2⟩ ⟨b0, b1, b2⟩ := by kernel_rfl
def F_134 : List Int → Option Value
  | [a0, a1, a2, b0, b1, b2] => some (fAdd ⟨a0, a1, a2⟩ ⟨b0, b1, b2⟩)
  | _ => none
def C9 (P : Program) : Cx := (C8 P).add 134 [some 3, some 3] F_134
theorem ok9 : CxOk (C9 Try.prog) := Cx.add_ok ok8 (n := 60) Try.func134 (by kernel_rfl) fun l v hl h => by
  match l, hl, h with
  | [a0, a1, a2, b0, b1, b2], _, hh => rw [e9, tAdd_eq]; exact hh
/-- frac.Neg -/
theorem e10 (a0 a1 a2 : Int) : exFun ((C9 Try.prog).at 96) 60 Try.f96 (pack [some 3] [a0, a1, a2]) = tNeg ⟨a0, a1, a2⟩ := by kernel_rfl
def F_96 : List Int → Option Value
  | [a0, a1, a2] => some (fNeg ⟨a0, a1, a2⟩)
  | _ => none
def C10 (P : Program) : Cx := (C9 P).add 96 [some 3] F_96
theorem ok10 : CxOk (C10 Try.prog) := Cx.add_ok ok9 (n := 60) Try.func96 (by kernel_rfl) fun l v hl h => by
  match l, hl, h with
  | [a0, a1, a2], _, hh => rw [e10, tNeg_eq]; exact hh
/-- frac.isFineness -/
theorem e11 (a : Int) : exFun ((C10 Try.prog).at 60) 60 Try.f60 (pack [none] [a]) = tFine a := by kernel_rfl
def F_60 : List Int → Option Value
  | [a] => some (fFine a)
  | _ => none
def C11 (P : Program) : Cx := (C10 P).add 60 [none] F_60
theorem ok11 : CxOk (C11 Try.prog) := Cx.add_ok ok10 (n := 60) Try.func60 (by kernel_rfl) fun l v hl h => by
  match l, hl, h with
  | [a], _, hh => rw [e11, tFine_eq]; exact hh
/-- frac.Form -/
theorem e12 (a0 a1 a2 a3 : Int) : exFun ((C11 Try.prog).at 29) 60 Try.f29 (pack [some 4] [a0, a1, a2, a3]) = tPForm ⟨a0, ⟨a1, a2, a3⟩⟩ := by kernel_rfl
def F_29 : List Int → Option Value
  | [a0, a1, a2, a3] => some (fPForm ⟨a0, ⟨a1, a2, a3⟩⟩)
  | _ => none
def C12 (P : Program) : Cx := (C11 P).add 29 [some 4] F_29
theorem ok12 : CxOk (C12 Try.prog) := Cx.add_ok ok11 (n := 60) Try.func29 (by kernel_rfl) fun l v hl h => by
  match l, hl, h with
  | [a0, a1, a2, a3], _, hh => rw [e12, tPForm_eq]; exact hh
/-- frac.Place -/
theorem e13 (a b0 b1 b2 : Int) : exFun ((C12 Try.prog).at 64) 60 Try.f64 (pack [none, some 3] [a, b0, b1, b2]) = tPlace a ⟨b0, b1, b2⟩ := by kernel_rfl
def F_64 : List Int → Option Value
  | [a, b0, b1, b2] => some (fPlace a ⟨b0, b1, b2⟩)
  | _ => none
def C13 (P : Program) : Cx := (C12 P).add 64 [none, some 3] F_64
theorem ok13 : CxOk (C13 Try.prog) := Cx.add_ok ok12 (n := 60) Try.func64 (by kernel_rfl) fun l v hl h => by
  match l, hl, h with
  | [a, b0, b1, b2], _, hh => rw [e13, tPlace_eq]; exact hh
/-- frac.Shift -/
theorem e14 (a0 a1 a2 a3 b0 b1 b2 : Int) : exFun ((C13 Try.prog).at 65) 60 Try.f65 (pack [some 4, some 3] [a0, a1, a2, a3, b0, b1, b2]) = tShift ⟨a0, ⟨a1, a2, a3⟩⟩ ⟨b0, b1, b2⟩ := by kernel_rfl
def F_65 : List Int → Option Value
  | [a0, a1, a2, a3, b0, b1, b2] => some (fShift ⟨a0, ⟨a1, a2, a3⟩⟩ ⟨b0, b1, b2⟩)
  | _ => none
def C14 (P : Program) : Cx := (C13 P).add 65 [some 4, some 3] F_65
theorem ok14 : CxOk (C14 Try.prog) := Cx.add_ok ok13 (n := 60) Try.func65 (by kernel_rfl) fun l v hl h => by
  match l, hl, h with
  | [a0, a1, a2, a3, b0, b1, b2], _, hh => rw [e14, tShift_eq]; exact hh

def CC (P : Program) : Cx := C14 P
theorem okC : CxOk (CC Try.prog) := ok14

end Go.Proofs.Ytmpkkmhielkggaa


namespace Go.Proofs.Ytmpkkmhielkggaa.Vx
open Go

/-- The cells of a list's maps. -/
def opRow (l : List O3) : Nat → List Value := fun i => ((l[i]?).getD O3.zero).cells
def decO (l : List Value) : O3 := match opCells l with
  | some o => o
  | none => O3.zero
def isO (l : List Value) : Bool := match opCells l with
  | some _ => true
  | none => false
def okOps (n : Nat) (row : Nat → List Value) : Bool := (List.range n).all fun i => isO (row i)
def opsOf (n : Nat) (row : Nat → List Value) : List O3 := (List.range n).map fun i => decO (row i)
theorem opCells_cells (o : O3) : opCells o.cells = some o := rfl
theorem isO_cells (o : O3) : isO o.cells = true := rfl
theorem decO_cells (o : O3) : decO o.cells = o := rfl
theorem okOps_opRow (xs : List O3) (n : Nat) : okOps n (opRow xs) = true := List.all_eq_true.2 fun _ _ => isO_cells _
theorem opsOf_opRow (xs : List O3) : opsOf xs.length (opRow xs) = xs := by
  apply List.ext_getElem?
  intro i
  unfold opsOf opRow
  rw [List.getElem?_map]
  by_cases hi : i < xs.length
  · rw [List.getElem?_range hi, List.getElem?_eq_getElem hi]
    simp [decO_cells, List.getElem?_eq_getElem hi]
  · rw [List.getElem?_eq_none (by simp; omega), List.getElem?_eq_none (by omega)]; rfl
theorem opsOf_length (n : Nat) (row : Nat → List Value) : (opsOf n row).length = n := by simp [opsOf]
theorem ops_like {n : Nat} {row : Nat → List Value} (h : okOps n row = true) : rowsLike n row (opRow (opsOf n row)) := by
  intro i hi
  have := List.all_eq_true.1 h i (List.mem_range.2 hi)
  unfold isO at this
  split at this
  · rename_i o ho
    unfold opRow opsOf
    rw [List.getElem?_map, List.getElem?_range hi]
    simp only [Option.map_some, Option.getD_some, decO, ho]
    exact opCells_spec ho
  · cases this
theorem like_ops {own : Bool} {n : Nat} {row : Nat → List Value} (h : okOps n row = true) : Like (.rows own true 12 n row) (.rows own true 12 (opsOf n row).length (opRow (opsOf n row))) := by
  rw [opsOf_length]; exact .rows (ops_like h)
theorem blt_ff {a b : Nat} (h : ¬ a < b) : Nat.blt a b = false := by
  cases hb : Nat.blt a b with
  | false => rfl
  | true => exact absurd (Nat.blt_eq.mp hb) h
/-- One map behind others. -/
theorem catR_one (xs : List O3) (o : O3) (i : Nat) (hi : i < xs.length + 1) : catR xs.length (opRow xs) (chop 12 0 o.cells) i = opRow (xs ++ [o]) i := by
  unfold catR opRow
  by_cases h : i < xs.length
  · rw [show Nat.blt i xs.length = true by simpa [Nat.blt_eq] using h, List.getElem?_append_left h]
  · have : i = xs.length := by omega
    subst this
    rw [blt_ff (Nat.lt_irrefl _)]
    simp only [Nat.sub_self]
    rw [List.getElem?_append_right (Nat.le_refl _)]
    simp only [Nat.sub_self, List.getElem?_cons_zero, Option.getD_some]
    rfl
theorem like_ng {pl : Bool} {n : Nat} {xs : List O3} (hx : xs.length = n) (o : O3) : Like (.grow pl 12 (n + 1) (catR n (opRow xs) (chop 12 0 o.cells))) (.grow pl 12 (n + 1) (opRow (xs ++ [o]))) := by
  subst hx
  exact .grow fun i hi => catR_one xs o i hi
theorem like_nr {own pl : Bool} {n : Nat} {xs : List O3} (hx : xs.length = n) (o : O3) : Like (.rows own pl 12 (n + 1) (catR n (opRow xs) (chop 12 0 o.cells))) (.rows own pl 12 (n + 1) (opRow (xs ++ [o]))) := by
  subst hx
  exact .rows fun i hi => catR_one xs o i hi
theorem like_chop {own pl : Bool} (o : O3) : Like (.rows own pl 12 1 (chop 12 0 o.cells)) (.rows own pl 12 1 (opRow [o])) := .rows fun i hi => by
  have : i = 0 := by omega
  subst this
  rfl
theorem like_one {own pl : Bool} (xs : List O3) (o : O3) : Like (.rows own pl 12 (xs.length + 1) (catR xs.length (opRow xs) (chop 12 0 o.cells))) (.rows own pl 12 (xs ++ [o]).length (opRow (xs ++ [o]))) := by
  rw [List.length_append]
  exact .rows fun i hi => catR_one xs o i hi

theorem like_oneg {pl : Bool} (xs : List O3) (o : O3) : Like (.grow pl 12 (xs.length + 1) (catR xs.length (opRow xs) (chop 12 0 o.cells))) (.grow pl 12 (xs ++ [o]).length (opRow (xs ++ [o]))) := by
  rw [List.length_append]
  exact .grow fun i hi => catR_one xs o i hi

/-! Guards -/
def tAt (st : St) (i : Nat) : Option Value := st.tmps[i]?
def gd {α : Type} (b : Bool) (x : Option α) : Option α := match b with
  | true => x
  | false => none
theorem gd_true {α : Type} (x : Option α) : gd true x = x := rfl
theorem LoopSem.like {P : Program} {B : Nat} {x : Code} {tm : List Value} {m m2 : Mem} {s : St} {e : Exit} (h : LoopSem P B x ⟨tm, m2⟩ e s) (hl : LikeL m m2) : LoopSem P B x ⟨tm, m⟩ e s := by
  intro Q w0 keep r0 a w hB hQ hr
  refine h Q w0 keep r0 a w hB hQ ?_
  obtain ⟨r, hx, h1, h2, h3⟩ := hr
  exact ⟨r, hx, h1, h2, h3.like hl⟩
theorem beq_len {a b : Nat} (h : Nat.beq a b = true) : a = b := Nat.eq_of_beq_eq_true h
/-- Of two errors the lesser one, 0 being none. -/
def leastN (a b : Int) : Int := match a == 0 with
  | true => b
  | false => match b != 0 with
    | true => match decide (b < a) with
      | true => b
      | false => a
    | false => a
end Go.Proofs.Ytmpkkmhielkggaa.Vx


namespace Go.Proofs.Ytmpkkmhielkggaa
open Go Vx
def leastM (a b : Int) : Mem := [.cells true 1 [.int .i64 a, .int .i64 b]]
def leastA : List Value := [.slice (some ⟨0, 0, none⟩) 2 1]
theorem eLeast (a b : Int) : (exFunA ((CC Try.prog).at 42) 60 Try.f42 leastA (leastM a b)).res = (match a == 0 with
    | true => some (vI b, leastM a b)
    | false => match b != 0 with
      | true => match decide (b < a) with
        | true => some (vI b, leastM a b)
        | false => some (vI a, leastM a b)
      | false => some (vI a, leastM a b)) := by kernel_rfl
theorem eLeast' (a b : Int) : (exFunA ((CC Try.prog).at 42) 60 Try.f42 leastA (leastM a b)).res = some (vI (leastN a b), leastM a b) := by
  rw [eLeast]
  unfold leastN
  cases a == 0 <;> cases b != 0 <;> cases decide (b < a) <;> rfl
def leastS : List Value → Mem → Option (Ans (Value × Mem))
  | [.slice (some ⟨0, 0, none⟩) 2 1], [.cells true 1 [.int .i64 a, .int .i64 b]] => some (.out (vI (leastN a b), leastM a b))
  | _, _ => none
def CL (P : Program) : Cx := (CC P).addF 42 leastS
theorem okL : CxOk (CL Try.prog) := Cx.addF_ok okC fun args m ans v m' h hr => by
  unfold leastS at h
  split at h
  · rename_i a b
    simp only [Option.some.injEq] at h
    subst h
    simp only [Ans.res, Option.some.injEq, Prod.mk.injEq] at hr
    obtain ⟨rfl, rfl⟩ := hr
    exact exFunA_ok (n := 60) okC Try.func42 (by kernel_rfl) (eLeast' a b)
  · cases h
end Go.Proofs.Ytmpkkmhielkggaa


namespace Go.Proofs.Ytmpkkmhielkggaa.Vx
open Go

def tRCheck (o : O3) : Option Value :=
  match !o.t.part with
  | true => some (vI 3)
  | false => match o.r.ok with
    | true => match W o.r.det != 1 with
      | true => match W o.r.det != -1 with
        | true => some (vI 3)
        | false => match !o.r.ok with
          | true => some (vI 4)
          | false => some (vI 0)
      | false => match !o.r.ok with
        | true => some (vI 4)
        | false => some (vI 0)
    | false => match !o.r.ok with
      | true => some (vI 4)
      | false => some (vI 0)
theorem Wdet {m : M3} (h : m.ok = true) : W m.det = m.det := by rw [← detW_W, detW_eq h]
theorem tRCheck_eq (o : O3) : tRCheck o = some (fOCheck o) := by
  unfold tRCheck fOCheck O3.ck M3.form
  cases h0 : o.t.part
  · rfl
  · cases h : o.r.ok
    · rfl
    · simp only [Wdet h, Bool.not_true, cond_true]
      by_cases h1 : o.r.det = 1
      · rw [h1]; rfl
      · by_cases h2 : o.r.det = -1
        · rw [h2]; rfl
        · have e1 : (o.r.det != 1) = true := by simpa using h1
          have e2 : (o.r.det != -1) = true := by simpa using h2
          have e3 : unitB o.r.det = false := by simp [unitB, h1, h2]
          rw [e1, e2, e3]; rfl
def tTwo (a b : O3) : Option Value :=
  match a.ck == 0 with
  | true => some (vI b.ck)
  | false => match b.ck != 0 with
    | true => match decide (b.ck < a.ck) with
      | true => some (vI b.ck)
      | false => some (vI a.ck)
    | false => some (vI a.ck)
def fTwo (a b : O3) : Value := vI (leastI a.ck b.ck)
theorem tTwo_eq (a b : O3) : tTwo a b = some (fTwo a b) := by
  unfold tTwo fTwo
  rcases O3.ck_cases a with h | h | h <;> rcases O3.ck_cases b with k | k | k <;> rw [h, k] <;> rfl
def fRMul (a b : O3) : Value := O3.v ⟨(a.r.mul b.r).w, (((a.r.app b.t).w).add a.t).w.md 24⟩
def tRMul (a b : O3) : Option Value := some (fRMul a b)
theorem tRMul_eq (a b : O3) : tRMul a b = some (fRMul a b) := rfl
def tUndone (m : M3) : Option Value := some (M3.v ⟨W (W (M3.det ⟨1, m.b, m.c, 0, m.e, m.f, 0, m.h, m.i⟩) * W m.det), W (W (M3.det ⟨0, m.b, m.c, 1, m.e, m.f, 0, m.h, m.i⟩) * W m.det), W (W (M3.det ⟨0, m.b, m.c, 0, m.e, m.f, 1, m.h, m.i⟩) * W m.det), W (W (M3.det ⟨m.a, 1, m.c, m.d, 0, m.f, m.g, 0, m.i⟩) * W m.det), W (W (M3.det ⟨m.a, 0, m.c, m.d, 1, m.f, m.g, 0, m.i⟩) * W m.det), W (W (M3.det ⟨m.a, 0, m.c, m.d, 0, m.f, m.g, 1, m.i⟩) * W m.det), W (W (M3.det ⟨m.a, m.b, 1, m.d, m.e, 0, m.g, m.h, 0⟩) * W m.det), W (W (M3.det ⟨m.a, m.b, 0, m.d, m.e, 1, m.g, m.h, 0⟩) * W m.det), W (W (M3.det ⟨m.a, m.b, 0, m.d, m.e, 0, m.g, m.h, 1⟩) * W m.det)⟩)
def fUndone (m : M3) : Value := m.inv.w.v
theorem W_mul2 (m n : Int) : W (W m * W n) = W (m * n) := by rw [W_mull, W_mulr]
theorem tUndone_eq (m : M3) : tUndone m = some (fUndone m) := by
  unfold tUndone fUndone
  simp only [W_mul2]
  unfold M3.w M3.inv M3.smul M3.adj
  simp only [M3.det]
  congr 2
  simp only [M3.mk.injEq]
  refine ⟨?_, ?_, ?_, ?_, ?_, ?_, ?_, ?_, ?_⟩ <;> (congr 2; grind)
def fBack (o : O3) : Value := O3.v ⟨o.r.inv.w, ((o.r.inv.w.app o.t).w.neg).w.md 24⟩
def tBack (o : O3) : Option Value := some (O3.v ⟨o.r.inv.w, V3.md 24 ⟨W (0 - (o.r.inv.w.app o.t).w.x), W (0 - (o.r.inv.w.app o.t).w.y), W (0 - (o.r.inv.w.app o.t).w.z)⟩⟩)
theorem tBack_eq (o : O3) : tBack o = some (fBack o) := by
  unfold tBack fBack V3.neg V3.w
  simp only [Int.zero_sub]
def tTrace (m : M3) : Option Value := some (vI (W (W (m.a + m.e) + m.i)))
def fTrace (m : M3) : Value := vI (W m.tr)
theorem tTrace_eq (m : M3) : tTrace m = some (fTrace m) := by
  unfold tTrace fTrace M3.tr; rw [W_addl]
def tRotation (m : M3) : Option Value :=
  match W m.tr != W m.inv.w.tr with
  | true => some (vI 0)
  | false => match W m.tr == 3 with
    | true => match m.eqB M3.one with
      | true => some (vI 1)
      | false => some (vI 0)
    | false => match W m.tr == -1 with
      | true => match (m.mul m).w.eqB M3.one with
        | true => some (vI 2)
        | false => some (vI 0)
      | false => match W m.tr == 0 with
        | true => some (vI 3)
        | false => match W m.tr == 1 with
          | true => some (vI 4)
          | false => match W m.tr == 2 with
            | true => some (vI 6)
            | false => some (vI 0)
def M3.rotW (m : M3) : Int :=
  bif W m.tr != W m.inv.w.tr then 0 else bif W m.tr == 3 then (bif m.eqB M3.one then 1 else 0) else bif W m.tr == -1 then (bif (m.mul m).w.eqB M3.one then 2 else 0) else
    bif W m.tr == 0 then 3 else bif W m.tr == 1 then 4 else bif W m.tr == 2 then 6 else 0
def fRotation (m : M3) : Value := vI m.rotW
theorem tRotation_eq (m : M3) : tRotation m = some (fRotation m) := by
  unfold tRotation fRotation M3.rotW
  cases W m.tr != W m.inv.w.tr <;> cases W m.tr == 3 <;> cases m.eqB M3.one <;> cases W m.tr == -1 <;> cases (m.mul m).w.eqB M3.one <;> cases W m.tr == 0 <;> cases W m.tr == 1 <;> cases W m.tr == 2 <;> rfl
def tRKind (m : M3) : Option Value :=
  match W m.det == 1 with
  | true => some (vI m.rotW)
  | false => some (vI (W (0 - m.negW.rotW)))
def M3.kindW (m : M3) : Int := bif W m.det == 1 then m.rotW else W (0 - m.negW.rotW)
def fRKind (m : M3) : Value := vI m.kindW
theorem tRKind_eq (m : M3) : tRKind m = some (fRKind m) := by
  unfold tRKind fRKind M3.kindW
  cases W m.det == 1 <;> rfl
def orderOfI (a : Int) : Int := bif decide (a > 0) then a else bif Int.tmod a 2 != 0 then W (-2 * a) else W (0 - a)
def tOrderOf (a : Int) : Option Value :=
  match decide (a > 0) with
  | true => some (vI a)
  | false => match Int.tmod a 2 != 0 with
    | true => some (vI (W (-2 * a)))
    | false => some (vI (W (0 - a)))
def fOrderOf (a : Int) : Value := vI (orderOfI a)
theorem tOrderOf_eq (a : Int) : tOrderOf a = some (fOrderOf a) := by
  unfold tOrderOf fOrderOf orderOfI
  cases decide (a > 0) <;> cases Int.tmod a 2 != 0 <;> rfl
def tSmall (o : O3) : Option Value :=
  match !o.r.ok with
  | true => some (pOE O3.zero 4)
  | false => some (pOE o 0)
def fSmall (o : O3) : Value := pOE o.small o.smallE
theorem tSmall_eq (o : O3) : tSmall o = some (fSmall o) := by
  unfold tSmall fSmall O3.small O3.smallE
  cases o.r.ok <;> rfl
def tDocMake (m : M3) (t : V3) : Option Value :=
  match (O3.mk m (t.md 24)).ck != 0 with
  | true => some (pOE O3.zero (O3.mk m (t.md 24)).ck)
  | false => some (pOE ⟨m, t.md 24⟩ 0)
theorem tDocMake_eq (m : M3) (t : V3) : tDocMake m t = some (fMake m t) := by
  have e : (O3.mk m (t.md 24)).ck = m.form := by unfold O3.ck; simp only [V3.md_part, cond_true]
  unfold tDocMake fMake O3.makeF
  rw [e]
  by_cases h : m.form = 0
  · rw [h]; rfl
  · rw [(bif_beq h).1, (bif_beq h).2]; rfl
/-- The document's product and inverse, before they are held against the bounds. -/
def O3.rmul (a b : O3) : O3 := ⟨(a.r.mul b.r).w, (((a.r.app b.t).w).add a.t).w.md 24⟩
def O3.rback (o : O3) : O3 := ⟨o.r.inv.w, ((o.r.inv.w.app o.t).w.neg).w.md 24⟩
theorem V3.part_bd {v : V3} (h : v.part = true) : v.Bd 23 := by rw [V3.part_iff] at h; unfold V3.Bd; omega
theorem V3.Bd.add {u v : V3} {k l : Int} (h : u.Bd k) (h' : v.Bd l) : (u.add v).Bd (k + l) := by unfold V3.Bd V3.add at *; simp only; omega
theorem V3.Bd.neg {u : V3} {k : Int} (h : u.Bd k) : u.neg.Bd k := by unfold V3.Bd V3.neg at *; simp only; omega
theorem O3.rmul_eq {a b : O3} (ha : a.ck = 0) (hb : b.ck = 0) : a.rmul b = a.mul b := by
  obtain ⟨a1, a2, a3⟩ := O3.ck_zero.1 ha
  obtain ⟨b1, b2, b3⟩ := O3.ck_zero.1 hb
  have h1 := (M3.ok_iff.1 a2).mul (M3.ok_iff.1 b2)
  have h2 := (M3.ok_iff.1 a2).app (V3.part_bd b1)
  have h3 := h2.add (V3.part_bd a1)
  unfold O3.rmul O3.mul
  rw [M3.w_eq (h1.mono (by omega)), V3.w_eq (h2.mono (by omega)), V3.w_eq (h3.mono (by omega))]
theorem O3.rback_eq {o : O3} (ho : o.ck = 0) : o.rback = o.inv := by
  obtain ⟨a1, a2, a3⟩ := O3.ck_zero.1 ho
  have h1 := (M3.ok_iff.1 a2).inv a3
  have h2 := h1.app (V3.part_bd a1)
  unfold O3.rback O3.inv
  rw [M3.w_eq (h1.mono (by omega)), V3.w_eq (h2.mono (by omega)), V3.w_eq (h2.neg.mono (by omega))]
def tDocMul (a b : O3) : Option Value :=
  match leastI a.ck b.ck != 0 with
  | true => some (pOE O3.zero (leastI a.ck b.ck))
  | false => some (fSmall (a.rmul b))
theorem tDocMul_eq (a b : O3) : tDocMul a b = some (fOMul a b) := by
  unfold tDocMul fOMul O3.mulF O3.mulE
  by_cases h : leastI a.ck b.ck = 0
  · obtain ⟨ha, hb⟩ := leastI_zero.1 h
    rw [h, O3.rmul_eq ha hb]; rfl
  · rw [(bif_beq h).1, (bif_beq h).2]; rfl
def tDocInverse (o : O3) : Option Value :=
  match o.ck != 0 with
  | true => some (pOE O3.zero o.ck)
  | false => some (fSmall o.rback)
theorem tDocInverse_eq (o : O3) : tDocInverse o = some (fOInverse o) := by
  unfold tDocInverse fOInverse O3.invF O3.invE
  by_cases h : o.ck = 0
  · rw [h, O3.rback_eq h]; rfl
  · rw [(bif_beq h).1, (bif_beq h).2]; rfl
def tRPlace (p : P3) : Option Value :=
  match p.m != 24 with
  | true => match p.m != 48 with
    | true => match p.m != 96 with
      | true => match p.m != 192 with
        | true => some (.bool false)
        | false => onO (modB p.m) (some (.bool (p.x.eqB (p.x.md p.m))))
      | false => onO (modB p.m) (some (.bool (p.x.eqB (p.x.md p.m))))
    | false => onO (modB p.m) (some (.bool (p.x.eqB (p.x.md p.m))))
  | false => onO (modB p.m) (some (.bool (p.x.eqB (p.x.md p.m))))
theorem tRPlace_eq (p : P3) : tRPlace p = some (fPForm p) := by
  obtain ⟨m, x⟩ := p
  unfold tRPlace fPForm P3.form
  cases h : isF m with
  | true =>
    simp only [onO_true (isF_modB h), Bool.true_and]
    rcases isF_iff.1 h with rfl | rfl | rfl | rfl <;> rfl
  | false =>
    have h' : ¬ (m = 24 ∨ m = 48 ∨ m = 96 ∨ m = 192) := by rw [← isF_iff, h]; simp
    have e1 : (m != 24) = true := by simp; omega
    have e2 : (m != 48) = true := by simp; omega
    have e3 : (m != 96) = true := by simp; omega
    have e4 : (m != 192) = true := by simp; omega
    simp only [e1, e2, e3, e4]; rfl
def rapp1 (x t m : Int) : Int := W (x + W (t * W (Int.tdiv m 24)))
def O3.rapp (o : O3) (p : P3) : P3 := ⟨p.m, V3.md p.m ⟨rapp1 (o.r.app p.x).w.x o.t.x p.m, rapp1 (o.r.app p.x).w.y o.t.y p.m, rapp1 (o.r.app p.x).w.z o.t.z p.m⟩⟩
def tRApply (o : O3) (p : P3) : Option Value := onO (modB p.m) (some (o.rapp p).v)
theorem tRApply_eq {o : O3} {p : P3} (h : modB p.m = true) : tRApply o p = some (o.rapp p).v := by unfold tRApply; rw [onO_true h]
theorem rapp1_eq {x t m : Int} (hm : m = 24 ∨ m = 48 ∨ m = 96 ∨ m = 192) (hx : -1000000 ≤ x ∧ x ≤ 1000000) (ht : 0 ≤ t ∧ t ≤ 23) : rapp1 x t m = x + m / 24 * t := by
  unfold rapp1
  rcases hm with rfl | rfl | rfl | rfl
  · rw [show W (Int.tdiv 24 24) = 1 from rfl, W_in (n := t * 1) (by omega), W_in (by omega)]; omega
  · rw [show W (Int.tdiv 48 24) = 2 from rfl, W_in (n := t * 2) (by omega), W_in (by omega)]; omega
  · rw [show W (Int.tdiv 96 24) = 4 from rfl, W_in (n := t * 4) (by omega), W_in (by omega)]; omega
  · rw [show W (Int.tdiv 192 24) = 8 from rfl, W_in (n := t * 8) (by omega), W_in (by omega)]; omega
theorem O3.rapp_eq {o : O3} {p : P3} (ho : o.ck = 0) (hp : p.form = true) : o.rapp p = o.app p := by
  obtain ⟨a1, a2, a3⟩ := O3.ck_zero.1 ho
  obtain ⟨hm, h1, h2, h3⟩ := P3.form_spec hp
  have hx : p.x.Bd 192 := by unfold V3.Bd; omega
  have hb := (M3.ok_iff.1 a2).app hx
  have hp' := V3.part_iff.1 a1
  unfold O3.rapp O3.app
  rw [V3.w_eq (hb.mono (by omega))]
  unfold V3.Bd at hb
  rw [rapp1_eq hm (by omega) hp'.1, rapp1_eq hm (by omega) hp'.2.1, rapp1_eq hm (by omega) hp'.2.2]
  rfl
def tDocApplyEnd (o : O3) (p : P3) (e : Int) : Option Value :=
  match e != 0 with
  | true => some (p2 P3.zero.v (vI e))
  | false => onO (modB p.m) (some (p2 (o.rapp p).v (vI 0)))
def tDocApply (o : O3) (p : P3) : Option Value :=
  match !p.form with
  | true => tDocApplyEnd o p 3
  | false => tDocApplyEnd o p o.ck
theorem tDocApply_eq (o : O3) (p : P3) : tDocApply o p = some (fOApply o p) := by
  unfold tDocApply fOApply O3.appF O3.appE tDocApplyEnd
  cases hp : p.form with
  | false => rfl
  | true =>
    simp only [Bool.not_true, cond_true]
    by_cases h : o.ck = 0
    · have hm : modB p.m = true := modB_iff.2 (by have := (P3.form_spec hp).1; omega)
      rw [h, O3.rapp_eq h hp, onO_true hm]
      rfl
    · rw [(bif_beq h).1, (bif_beq h).2]; rfl
end Go.Proofs.Ytmpkkmhielkggaa.Vx


namespace Go.Proofs.Ytmpkkmhielkggaa.Vx
open Go

/-- So many times more; the map that was reached, and the error. -/
def powL (o : O3) : Nat → O3 → O3 × Int
  | 0, p => (p, 0)
  | k + 1, p => match o.mulE p != 0 with
    | true => (p, o.mulE p)
    | false => powL o k (o.mulF p)
def powOut (x : O3 × Int) : O3 × Int := bif x.2 == 0 then (x.1, 0) else (O3.zero, x.2)
def O3.pow (o : O3) (n : Int) : O3 × Int :=
  bif decide (n < -1000) || decide (n > 1000) then (O3.zero, 1)
  else bif o.ck != 0 then (O3.zero, o.ck)
  else bif decide (n < 0) then (bif o.invE != 0 then (O3.zero, o.invE) else powOut (powL o.invF (-n).toNat O3.one))
  else powOut (powL o n.toNat O3.one)
def tPowEnd (x : O3 × Int) : Option Value := match x.2 == 0 with
  | true => some (pOE x.1 0)
  | false => some (pOE O3.zero x.2)
def rngB (i n : Int) : Bool := decide (0 ≤ i) && (decide (i ≤ n) && decide (n ≤ 1000))
theorem rngB_iff {i n : Int} : rngB i n = true ↔ 0 ≤ i ∧ i ≤ n ∧ n ≤ 1000 := by simp [rngB]
def tPower (o : O3) (n : Int) : Option Value := match decide (n < -1000) with
  | true => some (pOE O3.zero 1)
  | false => match decide (n > 1000) with
    | true => some (pOE O3.zero 1)
    | false => match o.ck != 0 with
      | true => some (pOE O3.zero o.ck)
      | false => match decide (n < 0) with
        | true => match o.invE != 0 with
          | true => some (pOE O3.zero o.invE)
          | false => onO (rngB 0 (W (0 - n))) (tPowEnd (powL o.invF (W (0 - n) - 0).toNat O3.one))
        | false => onO (rngB 0 n) (tPowEnd (powL o (n - 0).toNat O3.one))
def fPower (o : O3) (n : Int) : Value := pOE (o.pow n).1 (o.pow n).2
theorem tPowEnd_eq (x : O3 × Int) : tPowEnd x = some (pOE (powOut x).1 (powOut x).2) := by
  unfold tPowEnd powOut
  cases x.2 == 0 <;> rfl
theorem tPower_eq (o : O3) (n : Int) : tPower o n = some (fPower o n) := by
  unfold tPower fPower O3.pow
  by_cases h1 : n < -1000
  · simp [h1]
  · by_cases h2 : n > 1000
    · simp [h1, h2]
    · by_cases h3 : o.ck = 0
      · by_cases h4 : n < 0
        · by_cases h5 : o.invE = 0
          · have hr : rngB 0 (0 - n) = true := rngB_iff.2 (by omega)
            simp only [h1, h2, h3, h4, h5, decide_false, decide_true, Bool.or_self, cond_false, cond_true, bne_self_eq_false]
            rw [W_in (by omega), onO_true hr, tPowEnd_eq, show (0 - n - 0).toNat = (-n).toNat by omega]
          · simp [h1, h2, h3, h4, (bif_beq h5).2]
        · have hr : rngB 0 n = true := rngB_iff.2 (by omega)
          simp only [h1, h2, h3, h4, decide_false, Bool.or_self, cond_false, bne_self_eq_false]
          rw [onO_true hr, tPowEnd_eq, show (n - 0).toNat = n.toNat by omega]
      · simp [h1, h2, (bif_beq h3).2]

/-! The document's -/
/-- What the document's loop does: so many times more; the map that was reached, and the error. -/
def rpowL (o : O3) : Nat → O3 → O3 × Int
  | 0, p => (p, 0)
  | k + 1, p => match (o.rmul p).smallE != 0 with
    | true => ((o.rmul p).small, (o.rmul p).smallE)
    | false => rpowL o k (o.rmul p).small
theorem O3.ck_mul {a b : O3} (ha : a.ck = 0) (hb : b.ck = 0) (h : (a.mul b).r.ok = true) : (a.mul b).ck = 0 := by
  obtain ⟨_, _, a3⟩ := O3.ck_zero.1 ha
  obtain ⟨_, _, b3⟩ := O3.ck_zero.1 hb
  exact O3.ck_zero.2 ⟨V3.md_part _, h, M3.U_mul a3 b3⟩
theorem O3.mulF_eq {a b : O3} (ha : a.ck = 0) (hb : b.ck = 0) : a.mulF b = (a.mul b).small ∧ a.mulE b = (a.mul b).smallE := by
  have : leastI a.ck b.ck = 0 := leastI_zero.2 ⟨ha, hb⟩
  unfold O3.mulF O3.mulE
  rw [this]; exact ⟨rfl, rfl⟩
theorem O3.smallE_zero {o : O3} : o.smallE = 0 ↔ o.r.ok = true := by unfold O3.smallE; cases o.r.ok <;> simp
theorem O3.small_ok {o : O3} (h : o.r.ok = true) : o.small = o := by unfold O3.small; rw [h]; rfl
theorem O3.ck_one : O3.one.ck = 0 := by decide
theorem rpow_eq (o : O3) (ho : o.ck = 0) : ∀ (k : Nat) (p : O3), p.ck = 0 → powOut (rpowL o k p) = powOut (powL o k p)
  | 0, p, _ => rfl
  | k + 1, p, hp => by
    simp only [rpowL, powL]
    rw [O3.rmul_eq ho hp, (O3.mulF_eq ho hp).1, (O3.mulF_eq ho hp).2]
    cases he : (o.mul p).smallE != 0 with
    | true =>
      have : ((o.mul p).smallE == 0) = false := by simpa using he
      simp only [powOut, this, cond_false]
    | false =>
      have h0 : (o.mul p).smallE = 0 := by simpa using he
      have hok := O3.smallE_zero.1 h0
      simp only
      rw [O3.small_ok hok]
      exact rpow_eq o ho k (o.mul p) (O3.ck_mul ho hp hok)
def tDocPower (o : O3) (n : Int) : Option Value := match decide (n < -1000) with
  | true => some (pOE O3.zero 1)
  | false => match decide (n > 1000) with
    | true => some (pOE O3.zero 1)
    | false => match o.ck != 0 with
      | true => some (pOE O3.zero o.ck)
      | false => match decide (n < 0) with
        | true => match o.rback.smallE != 0 with
          | true => some (pOE O3.zero o.rback.smallE)
          | false => onO (rngB 0 (W (0 - n))) (tPowEnd (rpowL o.rback.small (W (0 - n)).toNat O3.one))
        | false => onO (rngB 0 n) (tPowEnd (rpowL o n.toNat O3.one))
theorem O3.ck_inv {a : O3} (ha : a.ck = 0) (h : a.inv.r.ok = true) : a.inv.ck = 0 := by
  obtain ⟨_, _, a3⟩ := O3.ck_zero.1 ha
  exact O3.ck_zero.2 ⟨V3.md_part _, h, M3.U_inv a3⟩
theorem tDocPower_eq (o : O3) (n : Int) : tDocPower o n = some (fPower o n) := by
  rw [← tPower_eq]
  unfold tDocPower tPower
  by_cases h3 : o.ck = 0
  · have e1 : o.invE = o.rback.smallE ∧ o.invF = o.rback.small := by
      unfold O3.invE O3.invF
      rw [h3, O3.rback_eq h3]; exact ⟨rfl, rfl⟩
    rw [e1.1, e1.2]
    rw [tPowEnd_eq, tPowEnd_eq, tPowEnd_eq, tPowEnd_eq, rpow_eq o h3 _ _ O3.ck_one, show (n - 0).toNat = n.toNat by omega, show (W (0 - n) - 0).toNat = (W (0 - n)).toNat by omega]
    cases he : o.rback.smallE != 0 with
    | true => rfl
    | false =>
      have h0 : o.rback.smallE = 0 := by simpa using he
      have hok := O3.smallE_zero.1 h0
      have hck : o.rback.small.ck = 0 := by
        rw [O3.small_ok hok]
        rw [O3.rback_eq h3] at hok ⊢
        exact O3.ck_inv h3 hok
      rw [rpow_eq _ hck _ _ O3.ck_one]
  · rw [(bif_beq h3).2]
end Go.Proofs.Ytmpkkmhielkggaa.Vx
