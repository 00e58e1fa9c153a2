/-
  The functions of layer 3 (op) and of the document's answer for it, without their loops: what the executor finds ('t..'), and what that comes to ('f..'). Nothing here is trusted.
-/
import Derived.Test.YtloanoibojmlgaaTyp
namespace Go.Proofs.Ytloanoibojmlgaa.Vx
open Go

/-! What both come to -/
def part1 (x : Int) : Bool := decide (0 ≤ x) && decide (x ≤ 23)
def V3.part (v : V3) : Bool := part1 v.x && (part1 v.y && part1 v.z)
theorem V3.part_iff {v : V3} : v.part = true ↔ (0 ≤ v.x ∧ v.x ≤ 23) ∧ (0 ≤ v.y ∧ v.y ≤ 23) ∧ (0 ≤ v.z ∧ v.z ≤ 23) := by
  simp [V3.part, part1]
theorem V3.md_part (v : V3) : (v.md 24).part = true := by rw [V3.part_iff]; unfold V3.md; simp only; omega
theorem V3.part_md {v : V3} (h : v.part = true) : v.md 24 = v := by
  rw [V3.part_iff] at h
  apply V3.ext'; unfold V3.md; simp only; omega
theorem V3.part_ok {v : V3} (h : v.part = true) : v.ok = true := by
  rw [V3.part_iff] at h; rw [V3.ok_iff]; unfold V3.Bd; omega
/-- What keeps a map from being in form. -/
def O3.ck (o : O3) : Int := bif o.t.part then o.r.form else 3
theorem O3.ck_zero {o : O3} : o.ck = 0 ↔ o.t.part = true ∧ o.r.ok = true ∧ o.r.U := by
  unfold O3.ck
  cases h : o.t.part with
  | true => simp only [cond_true, true_and]; exact M3.form_zero
  | false => simp
theorem O3.ck_cases (o : O3) : o.ck = 0 ∨ o.ck = 3 ∨ o.ck = 4 := by
  unfold O3.ck M3.form
  cases o.t.part <;> cases o.r.ok <;> cases unitB o.r.det <;> simp
def leastI (a b : Int) : Int := bif (a == 0 || b == 0) then (if b > a then b else a) else (if b < a then b else a)
def O3.one : O3 := ⟨M3.one, V3.zero⟩
def O3.mul (a b : O3) : O3 := ⟨a.r.mul b.r, ((a.r.app b.t).add a.t).md 24⟩
def O3.inv (o : O3) : O3 := ⟨o.r.inv, ((o.r.inv.app o.t).neg).md 24⟩
/-- A map, if its entries lie within bounds. -/
def O3.small (o : O3) : O3 := bif o.r.ok then o else O3.zero
def O3.smallE (o : O3) : Int := bif o.r.ok then 0 else 4
def pOE (o : O3) (e : Int) : Value := p2 o.v (vI e)
def O3.mulF (a b : O3) : O3 := bif leastI a.ck b.ck == 0 then (a.mul b).small else O3.zero
def O3.mulE (a b : O3) : Int := bif leastI a.ck b.ck == 0 then (a.mul b).smallE else leastI a.ck b.ck
def O3.invF (a : O3) : O3 := bif a.ck == 0 then a.inv.small else O3.zero
def O3.invE (a : O3) : Int := bif a.ck == 0 then a.inv.smallE else a.ck
theorem leastI_zero {a b : O3} : leastI a.ck b.ck = 0 ↔ a.ck = 0 ∧ b.ck = 0 := by
  rcases O3.ck_cases a with h | h | h <;> rcases O3.ck_cases b with k | k | k <;> rw [h, k] <;> decide

theorem bif_beq {a : Int} (h : a ≠ 0) : (a == 0) = false ∧ (a != 0) = true := by constructor <;> simpa using h

/-! op -/
def tAwake : Option Value := some (.bool true)
def fAwake : Value := .bool true
theorem tAwake_eq : tAwake = some fAwake := rfl
def tOCheck (o : O3) : Option Value := chainO mk1 [(decide (o.t.x < 0), [3]), (decide (o.t.x ≥ 24), [3]), (decide (o.t.y < 0), [3]), (decide (o.t.y ≥ 24), [3]), (decide (o.t.z < 0), [3]), (decide (o.t.z ≥ 24), [3])] [o.r.form]
def fOCheck (o : O3) : Value := vI o.ck
theorem part1_eq (x : Int) : part1 x = (!(decide (x < 0)) && !(decide (x ≥ 24))) := by
  unfold part1
  rw [Bool.eq_iff_iff]
  simp only [Bool.and_eq_true, decide_eq_true_eq, Bool.not_eq_true', decide_eq_false_iff_not]
  omega
theorem tOCheck_eq (o : O3) : tOCheck o = some (fOCheck o) := by
  unfold tOCheck fOCheck O3.ck V3.part
  rw [chain_eq, part1_eq, part1_eq, part1_eq]
  cases decide (o.t.x < 0) <;> cases decide (o.t.x ≥ 24) <;> cases decide (o.t.y < 0) <;> cases decide (o.t.y ≥ 24) <;> cases decide (o.t.z < 0) <;> cases decide (o.t.z ≥ 24) <;> rfl
def tCheckM (m : M3) : Option Value :=
  match m.ck != 0 with
  | true => some (vI m.ck)
  | false => match (bif m.ok then m.det else 0) != 1 with
    | true => match (bif m.ok then m.det else 0) != -1 with
      | true => some (vI 3)
      | false => some (vI 0)
    | false => some (vI 0)
def fCheckM (m : M3) : Value := vI m.form
theorem tCheckM_eq (m : M3) : tCheckM m = some (fCheckM m) := by
  unfold tCheckM fCheckM M3.form M3.ck
  cases m.ok
  · rfl
  · simp only [cond_true, bne_self_eq_false]
    by_cases h1 : m.det = 1
    · rw [h1]; rfl
    · by_cases h2 : m.det = -1
      · rw [h2]; rfl
      · have e1 : (m.det != 1) = true := by simpa using h1
        have e2 : (m.det != -1) = true := by simpa using h2
        have e3 : unitB m.det = false := by simp [unitB, h1, h2]
        rw [e1, e2, e3]; rfl
def tLeast (a b : Int) : Option Value :=
  match a == 0 with
  | true => some (vI (if b > a then b else a))
  | false => match b == 0 with
    | true => some (vI (if b > a then b else a))
    | false => some (vI (if b < a then b else a))
def fLeast (a b : Int) : Value := vI (leastI a b)
theorem tLeast_eq (a b : Int) : tLeast a b = some (fLeast a b) := by
  unfold tLeast fLeast leastI
  cases a == 0 <;> cases b == 0 <;> rfl
def O3.send (o : O3) (t : V3) : V3 := ((o.r.appF t).add o.t).md 24
def tSend (o : O3) (t : V3) : Option Value := some (fAdd (o.r.appF t) o.t)
def fSend (o : O3) (t : V3) : Value := (o.send t).v
theorem tSend_eq (o : O3) (t : V3) : tSend o t = some (fSend o t) := rfl
def M3.w (m : M3) : M3 := ⟨W m.a, W m.b, W m.c, W m.d, W m.e, W m.f, W m.g, W m.h, W m.i⟩
def V3.w (m : V3) : V3 := ⟨W m.x, W m.y, W m.z⟩
theorem M3.w_eq {m : M3} (h : m.Bd 9000000000000000000) : m.w = m := by
  obtain ⟨h0, h1, h2, h3, h4, h5, h6, h7, h8⟩ := h
  unfold M3.w
  rw [W_in h0, W_in h1, W_in h2, W_in h3, W_in h4, W_in h5, W_in h6, W_in h7, W_in h8]
theorem V3.w_eq {m : V3} (h : m.Bd 9000000000000000000) : m.w = m := by
  obtain ⟨h0, h1, h2⟩ := h
  unfold V3.w
  rw [W_in h0, W_in h1, W_in h2]
def M3.negW (m : M3) : M3 := ⟨W (0 - m.a), W (0 - m.b), W (0 - m.c), W (0 - m.d), W (0 - m.e), W (0 - m.f), W (0 - m.g), W (0 - m.h), W (0 - m.i)⟩
theorem M3.negW_eq {m : M3} (h : m.Bd 1000) : m.negW = m.neg := by
  unfold M3.Bd at h
  unfold M3.negW M3.neg
  rw [W_in (n := 0 - m.a) (by omega), W_in (n := 0 - m.b) (by omega), W_in (n := 0 - m.c) (by omega), W_in (n := 0 - m.d) (by omega), W_in (n := 0 - m.e) (by omega), W_in (n := 0 - m.f) (by omega), W_in (n := 0 - m.g) (by omega), W_in (n := 0 - m.h) (by omega), W_in (n := 0 - m.i) (by omega)]
  simp only [Int.zero_sub]
def tOpposite (m : M3) : Option Value := some m.negW.v
def fOpposite (m : M3) : Value := m.negW.v
theorem tOpposite_eq (m : M3) : tOpposite m = some (fOpposite m) := rfl
def tOForm (o : O3) : Option Value := some (.bool (o.ck == 0))
def fOForm (o : O3) : Value := .bool (o.ck == 0)
theorem tOForm_eq (o : O3) : tOForm o = some (fOForm o) := rfl
def tMake (m : M3) (t : V3) : Option Value :=
  match m.form != 0 with
  | true => some (pOE O3.zero m.form)
  | false => some (pOE ⟨m, (t.add V3.zero).md 24⟩ 0)
def O3.makeF (m : M3) (t : V3) : O3 := bif m.form == 0 then ⟨m, t.md 24⟩ else O3.zero
def fMake (m : M3) (t : V3) : Value := pOE (O3.makeF m t) m.form
theorem V3.add_zero (t : V3) : t.add V3.zero = t := by unfold V3.add V3.zero; simp
theorem tMake_eq (m : M3) (t : V3) : tMake m t = some (fMake m t) := by
  unfold tMake fMake O3.makeF
  rw [V3.add_zero]
  by_cases h : m.form = 0
  · rw [h]; rfl
  · rw [(bif_beq h).1, (bif_beq h).2]; rfl
def tOne : Option Value := some O3.one.v
def fOne : Value := O3.one.v
theorem tOne_eq : tOne = some fOne := rfl
def tOMul (a b : O3) : Option Value :=
  match leastI a.ck b.ck != 0 with
  | true => some (pOE O3.zero (leastI a.ck b.ck))
  | false => match (a.r.mulF b.r).ck != 0 with
    | true => some (pOE O3.zero (a.r.mulF b.r).ck)
    | false => some (pOE ⟨a.r.mulF b.r, a.send b.t⟩ 0)
def fOMul (a b : O3) : Value := pOE (a.mulF b) (a.mulE b)
theorem O3.send_eq {o : O3} {t : V3} (h : o.r.ok = true) (ht : t.ok = true) : o.send t = ((o.r.app t).add o.t).md 24 := by
  unfold O3.send M3.appF; rw [h, ht]; rfl
theorem tOMul_eq (a b : O3) : tOMul a b = some (fOMul a b) := by
  unfold tOMul fOMul O3.mulF O3.mulE
  by_cases h : leastI a.ck b.ck = 0
  · obtain ⟨ha, hb⟩ := leastI_zero.1 h
    obtain ⟨a1, a2, a3⟩ := O3.ck_zero.1 ha
    obtain ⟨b1, b2, b3⟩ := O3.ck_zero.1 hb
    have e : a.r.mulF b.r = a.r.mul b.r := by unfold M3.mulF; rw [a2, b2]; rfl
    rw [h, e, O3.send_eq a2 (V3.part_ok b1)]
    unfold O3.small O3.smallE M3.ck
    simp only [O3.mul]
    cases (a.r.mul b.r).ok <;> rfl
  · rw [(bif_beq h).1, (bif_beq h).2]; rfl
def tOInverse (o : O3) : Option Value :=
  match o.ck != 0 with
  | true => some (pOE O3.zero o.ck)
  | false => match o.r.invF.ck != 0 with
    | true => some (pOE O3.zero o.r.invF.ck)
    | false => some (pOE ⟨o.r.invF, ((o.r.invF.appF o.t).neg).md 24⟩ 0)
def fOInverse (o : O3) : Value := pOE o.invF o.invE
theorem tOInverse_eq (o : O3) : tOInverse o = some (fOInverse o) := by
  unfold tOInverse fOInverse O3.invF O3.invE
  by_cases h : o.ck = 0
  · obtain ⟨a1, a2, a3⟩ := O3.ck_zero.1 h
    have e : o.r.invF = o.r.inv := by unfold M3.invF; rw [M3.form_zero.2 ⟨a2, a3⟩]; rfl
    rw [h, e]
    unfold O3.small O3.smallE M3.ck O3.inv M3.appF
    rw [V3.part_ok a1]
    cases o.r.inv.ok <;> rfl
  · rw [(bif_beq h).1, (bif_beq h).2]; rfl
/-- The kind of a matrix. -/
def M3.kindF (m : M3) : Int := bif m.det == 1 then m.ordI else -m.neg.ordI
theorem M3.neg_ok {m : M3} (h : m.ok = true) : m.neg.ok = true := by
  rw [M3.ok_iff] at *; unfold M3.Bd M3.neg at *; simp only; omega
theorem M3.det_neg (m : M3) : m.neg.det = -m.det := by unfold M3.det M3.neg; grind
theorem M3.U_neg {m : M3} (h : m.U) : m.neg.U := by
  unfold M3.U at *; rw [M3.det_neg]; omega
def M3.kindE (m : M3) : Int := bif m.kindF == 0 then 9 else 0
def O3.kindF (o : O3) : Int := bif o.ck == 0 then o.r.kindF else 0
def O3.kindE (o : O3) : Int := bif o.ck == 0 then o.r.kindE else o.ck
def tKind (o : O3) : Option Value :=
  match o.ck != 0 with
  | true => some (p2 (vI 0) (vI o.ck))
  | false => match (bif o.r.ok then o.r.det else 0) == 1 with
    | true => some (p2 (vI o.r.ordF) (vI o.r.ordE))
    | false => some (p2 (vI (W (0 - o.r.negW.ordF))) (vI o.r.negW.ordE))
def fKind (o : O3) : Value := p2 (vI o.kindF) (vI o.kindE)
theorem M3.ordI_bd (m : M3) : 0 ≤ m.ordI ∧ m.ordI ≤ 6 := by
  unfold M3.ordI
  cases m.eqB M3.one <;> cases (m.pow 2).eqB M3.one <;> cases (m.pow 3).eqB M3.one <;> cases (m.pow 4).eqB M3.one <;> cases (m.pow 6).eqB M3.one <;> decide
theorem tKind_eq (o : O3) : tKind o = some (fKind o) := by
  unfold tKind fKind O3.kindF O3.kindE
  by_cases h : o.ck = 0
  · obtain ⟨a1, a2, a3⟩ := O3.ck_zero.1 h
    rw [h, a2]
    unfold M3.kindE M3.kindF
    simp only [cond_true, bne_self_eq_false, beq_self_eq_true]
    cases hd : o.r.det == 1 with
    | true => unfold M3.ordF M3.ordE; rw [M3.form_zero.2 ⟨a2, a3⟩]; rfl
    | false =>
      rw [M3.negW_eq (M3.ok_iff.1 a2)]
      unfold M3.ordF M3.ordE
      rw [M3.form_zero.2 ⟨M3.neg_ok a2, M3.U_neg a3⟩]
      have := M3.ordI_bd o.r.neg
      simp only [beq_self_eq_true, cond_true, cond_false]
      rw [W_in (by omega), Int.zero_sub]
      congr 2
      have e : (o.r.neg.ordI == 0) = (-o.r.neg.ordI == 0) := beq_of_iff (by simp only [beq_iff_eq]; omega)
      rw [e]
  · rw [(bif_beq h).1, (bif_beq h).2]; rfl
/-- Apply. -/
def O3.app (o : O3) (p : P3) : P3 := ⟨p.m, ((o.r.app p.x).add (o.t.smul (p.m / 24))).md p.m⟩
def O3.appE (o : O3) (p : P3) : Int := bif p.form then o.ck else 3
def O3.appF (o : O3) (p : P3) : P3 := bif o.appE p == 0 then o.app p else P3.zero
def O3.appL (o : O3) (p : P3) : Int := bif !p.form then leastI o.ck 3 else o.ck
def tOApplyEnd (o : O3) (p : P3) (e : Int) : Option Value :=
  match e != 0 with
  | true => some (p2 P3.zero.v (vI e))
  | false => some (fShift (P3.place p.m (o.r.appF p.x)) o.t)
def tOApply (o : O3) (p : P3) : Option Value :=
  match !p.form with
  | true => tOApplyEnd o p (leastI o.ck 3)
  | false => tOApplyEnd o p o.ck
def fOApply (o : O3) (p : P3) : Value := p2 (o.appF p).v (vI (o.appE p))
theorem md_add_md (m : Int) (u v : V3) : ((u.md m).add v).md m = (u.add v).md m := by
  unfold V3.md V3.add
  simp only [Int.emod_add_emod]
theorem md_md (m : Int) (u : V3) : (u.md m).md m = u.md m := by
  unfold V3.md; simp only [Int.emod_emod]
theorem P3.x_ok {p : P3} (h : p.form = true) : p.x.ok = true := by
  obtain ⟨hm, h1, h2, h3⟩ := P3.form_spec h
  rw [V3.ok_iff]; unfold V3.Bd; omega
theorem tOApply_eq (o : O3) (p : P3) : tOApply o p = some (fOApply o p) := by
  unfold tOApply fOApply O3.appF O3.appE tOApplyEnd
  cases hp : p.form with
  | false =>
    have e : leastI o.ck 3 = 3 := by rcases O3.ck_cases o with h | h | h <;> rw [h] <;> rfl
    simp only [Bool.not_false, e]
    rfl
  | true =>
    simp only [Bool.not_true, cond_true]
    by_cases h : o.ck = 0
    · obtain ⟨a1, a2, a3⟩ := O3.ck_zero.1 h
      obtain ⟨hm, h1, h2, h3⟩ := P3.form_spec hp
      have hF : isF p.m = true := isF_iff.2 hm
      have e1 : P3.place p.m (o.r.appF p.x) = ⟨p.m, (o.r.app p.x).md p.m⟩ := by
        unfold P3.place M3.appF; rw [hF, a2, P3.x_ok hp]; rfl
      have e2 : P3.form ⟨p.m, (o.r.app p.x).md p.m⟩ = true := by
        unfold P3.form
        simp only [hF, md_md, V3.eqB_refl, Bool.and_self]
      rw [h, e1]
      unfold fShift
      rw [e2]
      simp only [bne_self_eq_false, beq_self_eq_true, cond_true]
      unfold P3.shift O3.app
      rw [md_add_md]
    · rw [(bif_beq h).1, (bif_beq h).2]; rfl

/-! The document's answer -/
def tMod (n m : Int) : Option Value := match m == 0 with
  | true => none
  | false => match m == 0 with
    | true => none
    | false => some (vI (Int.tmod (W (Int.tmod n m + m)) m))
theorem tMod_eq {n m : Int} (h : modB m = true) : tMod n m = some (vI (n % m)) := by
  obtain ⟨h0, h1⟩ := modB_iff.1 h
  have e : (m == 0) = false := by simp; omega
  unfold tMod
  rw [e]
  have hb := tmod_bd n m h0
  have e2 := Int.tmod_add_mul_tdiv n m
  have e3 : (n.tmod m) % m = n % m := by
    conv => rhs; rw [← e2]
    rw [Int.add_mul_emod_self_left]
  simp only
  rw [W_in (by omega), Int.tmod_eq_emod_of_nonneg (by omega), Int.add_emod_right, e3]
def tRDet (m : M3) : Option Value := some (vI (W (W (W (0 + W (m.a * minR m.e m.i m.f m.h)) + W (m.b * minR m.f m.g m.d m.i)) + W (m.c * minR m.d m.h m.e m.g))))
def fRDet (m : M3) : Value := vI (W m.det)
theorem tRDet_eq (m : M3) : tRDet m = some (fRDet m) := by
  unfold tRDet fRDet
  rw [← detW_W, Int.zero_add, W_W]; rfl
def tWithinM (m : M3) : Option Value := guardF [decide (m.a < -1000), decide (m.a > 1000), decide (m.b < -1000), decide (m.b > 1000), decide (m.c < -1000), decide (m.c > 1000), decide (m.d < -1000), decide (m.d > 1000), decide (m.e < -1000), decide (m.e > 1000), decide (m.f < -1000), decide (m.f > 1000), decide (m.g < -1000), decide (m.g > 1000), decide (m.h < -1000), decide (m.h > 1000), decide (m.i < -1000), decide (m.i > 1000)] (some (.bool true))
def fWithinM (m : M3) : Value := .bool m.ok
theorem guardF_all : ∀ (ts : List Bool), guardF ts (some (.bool true)) = some (.bool (ts.all (!·)))
  | [] => rfl
  | true :: ts => rfl
  | false :: ts => by simp only [guardF, List.all_cons, Bool.not_false, Bool.true_and]; exact guardF_all ts
theorem tWithinM_eq (m : M3) : tWithinM m = some (fWithinM m) := by
  unfold tWithinM fWithinM
  rw [guardF_all]
  congr 2
  rw [Bool.eq_iff_iff, M3.ok_iff]
  unfold M3.Bd
  simp only [List.all_cons, List.all_nil, Bool.and_true, Bool.and_eq_true, Bool.not_eq_true', decide_eq_false_iff_not]
  omega
def tPart (v : V3) : Option Value := guardF [decide (v.x < 0), decide (v.x > 23), decide (v.y < 0), decide (v.y > 23), decide (v.z < 0), decide (v.z > 23)] (some (.bool true))
def fPart (v : V3) : Value := .bool v.part
theorem tPart_eq (v : V3) : tPart v = some (fPart v) := by
  unfold tPart fPart
  rw [guardF_all]
  congr 2
  rw [Bool.eq_iff_iff, V3.part_iff]
  simp only [List.all_cons, List.all_nil, Bool.and_true, Bool.and_eq_true, Bool.not_eq_true', decide_eq_false_iff_not]
  omega
def tTimesM (m n : M3) : Option Value := some (M3.v ⟨rdot m.a m.b m.c n.a n.d n.g, rdot m.a m.b m.c n.b n.e n.h, rdot m.a m.b m.c n.c n.f n.i, rdot m.d m.e m.f n.a n.d n.g, rdot m.d m.e m.f n.b n.e n.h, rdot m.d m.e m.f n.c n.f n.i, rdot m.g m.h m.i n.a n.d n.g, rdot m.g m.h m.i n.b n.e n.h, rdot m.g m.h m.i n.c n.f n.i⟩)
def fTimesM (m n : M3) : Value := (m.mul n).w.v
theorem tTimesM_eq (m n : M3) : tTimesM m n = some (fTimesM m n) := by
  unfold tTimesM fTimesM
  simp only [rdot_eq, dotR_W]
  rfl
def tColumn (m : M3) (v : V3) : Option Value := some (V3.v ⟨rdot m.a m.b m.c v.x v.y v.z, rdot m.d m.e m.f v.x v.y v.z, rdot m.g m.h m.i v.x v.y v.z⟩)
def fColumn (m : M3) (v : V3) : Value := (m.app v).w.v
theorem tColumn_eq (m : M3) (v : V3) : tColumn m v = some (fColumn m v) := by
  unfold tColumn fColumn
  simp only [rdot_eq, dotR_W]
  rfl
def tBring (v : V3) (m : Int) : Option Value := onO (modB m) (onO (modB m) (onO (modB m) (some (v.md m).v)))
theorem tBring_eq {v : V3} {m : Int} (h : modB m = true) : tBring v m = some (v.md m).v := by
  unfold tBring; simp only [onO_true h]
def tRAdd (u v : V3) : Option Value := some (u.add v).w.v
def fRAdd (u v : V3) : Value := (u.add v).w.v
theorem tRAdd_eq (u v : V3) : tRAdd u v = some (fRAdd u v) := rfl
end Go.Proofs.Ytloanoibojmlgaa.Vx
