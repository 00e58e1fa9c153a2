/-
  The functions of layer 11 (cell) and of the document's answer for it that need no loop's rule: what the executor finds ('t..'), and what that comes to ('f..'). Nothing here is trusted.
-/
import Derived.Test.YtjpfnfckpgilgaaGreatHCelM
namespace Go.Proofs.YtjpfnfckpgilgaaGreat.Vx
open Go

theorem W3 (a b c d e f : Int) : W (W a * b + W c * d + W e * f) = W (a * b + c * d + e * f) := W_cadd (W_cadd (W_mull _ _) (W_mull _ _)) (W_mull _ _)
def G6.w (m : G6) : G6 := ⟨W m.aa, W m.bb, W m.cc, W m.bc, W m.ac, W m.ab⟩

/-! plain -/
def tPMatrix (m : G6) : Option Value := some m.mat.v
def fPMatrix (m : G6) : Value := m.mat.v
theorem tPMatrix_eq (m : G6) : tPMatrix m = some (fPMatrix m) := rfl
def tPDot (m : G6) (u v : V3) : Option Value := some (vI (dotR (M3.left u m.mat).w.x (M3.left u m.mat).w.y (M3.left u m.mat).w.z v.x v.y v.z))
def fPDot (m : G6) (u v : V3) : Value := vI (W (m.dot u v))
theorem left_dot (m : G6) (u v : V3) : (M3.left u m.mat).x * v.x + (M3.left u m.mat).y * v.y + (M3.left u m.mat).z * v.z = m.dot u v := by
  unfold M3.left G6.mat G6.dot; grind
theorem tPDot_eq (m : G6) (u v : V3) : tPDot m u v = some (fPDot m u v) := by
  unfold tPDot fPDot
  rw [dotR_W, ← left_dot]
  unfold V3.w
  rw [W3]
def tPTurned (m : G6) (p : M3) : Option Value := some (m.turn p).w.v
def fPTurned (m : G6) (p : M3) : Value := (m.turn p).w.v
theorem tPTurned_eq (m : G6) (p : M3) : tPTurned m p = some (fPTurned m p) := rfl

/-! cell -/
def detG (m : G6) : Int := W (W (W (W (W (W (m.aa * m.bb) * m.cc) + W (W (W (2 * m.bc) * m.ac) * m.ab)) - W (W (m.aa * m.bc) * m.bc)) - W (W (m.bb * m.ac) * m.ac)) - W (W (m.cc * m.ab) * m.ab))
theorem detG_eq (m : G6) : detG m = W m.det := by
  unfold detG G6.det
  simp only [W_mull, W_addl, W_addr, W_subl, W_subr]
def tGDet (m : G6) : Option Value := some (vI (detG m))
def fGDet (m : G6) : Value := vI (W m.det)
theorem tGDet_eq (m : G6) : tGDet m = some (fGDet m) := by unfold tGDet fGDet; rw [detG_eq]
def G6.syl (m : G6) : Bool := decide (0 < m.two) && decide (0 < m.det)
/-- What keeps it from being a metric. -/
def G6.mck (m : G6) : Int := bif m.ck == 0 then (bif m.syl then 0 else 3) else m.ck
def twoG (m : G6) : Int := W (W (m.aa * m.bb) - W (m.ab * m.ab))
def tMck (m : G6) : Option Value := match m.ck != 0 with
  | true => some (vI m.ck)
  | false => match decide (twoG m ≤ 0) with
    | true => some (vI 3)
    | false => match decide (W m.det ≤ 0) with
      | true => some (vI 3)
      | false => some (vI 0)
def fMck (m : G6) : Value := vI m.mck
theorem mul3_bd {k a b c : Int} (ha : -k ≤ a ∧ a ≤ k) (hb : -k ≤ b ∧ b ≤ k) (hc : -k ≤ c ∧ c ≤ k) : -(k * k * k) ≤ a * b * c ∧ a * b * c ≤ k * k * k := bd_mul (bd_mul ha hb) hc
theorem G6.Bd.det {m : G6} (h : m.Bd) : -6000000000000000 ≤ m.det ∧ m.det ≤ 6000000000000000 := by
  obtain ⟨⟨a1, a2⟩, ⟨b1, b2⟩, ⟨c1, c2⟩, d, e, f⟩ := h
  have a : -100000 ≤ m.aa ∧ m.aa ≤ 100000 := ⟨by omega, a2⟩
  have b : -100000 ≤ m.bb ∧ m.bb ≤ 100000 := ⟨by omega, b2⟩
  have c : -100000 ≤ m.cc ∧ m.cc ≤ 100000 := ⟨by omega, c2⟩
  have h1 := mul3_bd a b c
  have h2 := mul3_bd d e f
  have h3 := mul3_bd a d d
  have h4 := mul3_bd b e e
  have h5 := mul3_bd c f f
  unfold G6.det
  rw [show 2 * m.bc * m.ac * m.ab = 2 * (m.bc * m.ac * m.ab) by grind]
  omega
theorem G6.Bd.two {m : G6} (h : m.Bd) : -20000000000 ≤ m.two ∧ m.two ≤ 20000000000 := by
  obtain ⟨⟨a1, a2⟩, ⟨b1, b2⟩, _, _, _, f⟩ := h
  have h1 := bd_mul (m := 100000) (n := 100000) (x := m.aa) (y := m.bb) ⟨by omega, a2⟩ ⟨by omega, b2⟩
  have h2 := bd_mul f f
  unfold G6.two
  omega
theorem twoG_eq {m : G6} (h : m.Bd) : twoG m = m.two := by
  have := h.two
  unfold twoG
  rw [W_subl, W_subr]
  exact W_in (by unfold G6.two at this; omega)
theorem detWg {m : G6} (h : m.Bd) : W m.det = m.det := W_in (by have := h.det; omega)
theorem tMck_eq (m : G6) : tMck m = some (fMck m) := by
  unfold tMck fMck G6.mck G6.syl
  by_cases h : m.ck = 0
  · have hb := G6.ck_zero h
    rw [h, twoG_eq hb, detWg hb]
    by_cases h1 : 0 < m.two
    · by_cases h2 : 0 < m.det
      · rw [show decide (m.two ≤ 0) = false by simp; omega, show decide (m.det ≤ 0) = false by simp; omega, show decide (0 < m.two) = true by simpa using h1, show decide (0 < m.det) = true by simpa using h2]; rfl
      · rw [show decide (m.two ≤ 0) = false by simp; omega, show decide (m.det ≤ 0) = true by simp; omega, show decide (0 < m.two) = true by simpa using h1, show decide (0 < m.det) = false by simpa using h2]; rfl
    · rw [show decide (m.two ≤ 0) = true by simp; omega, show decide (0 < m.two) = false by simpa using h1]; rfl
  · rw [(bif_beq h).1, (bif_beq h).2]; rfl
theorem G6.ck_cases (m : G6) : m.ck = 0 ∨ m.ck = 1 := by
  have key : ∀ l : List (Bool × List Int), (∀ t ∈ l, t.2 = [1]) → nth (chainL l [0]) 0 = 0 ∨ nth (chainL l [0]) 0 = 1 := by
    intro l
    induction l with
    | nil => intro _; left; rfl
    | cons t l ih =>
      intro h
      obtain ⟨b, r⟩ := t
      have := h (b, r) (by simp)
      simp only at this
      subst this
      cases b
      · exact ih fun t ht => h t (by simp [ht])
      · right; rfl
  refine key _ ?_
  intro t ht
  simp only [G6.T, sqT, dgT, List.mem_cons, List.not_mem_nil, or_false] at ht
  rcases ht with rfl | rfl | rfl | rfl | rfl | rfl | rfl | rfl | rfl | rfl | rfl | rfl <;> rfl
theorem G6.mck_cases (m : G6) : m.mck = 0 ∨ m.mck = 1 ∨ m.mck = 3 := by
  unfold G6.mck
  rcases m.ck_cases with h | h <;> rw [h]
  · cases m.syl
    · right; right; rfl
    · left; rfl
  · right; left; rfl
theorem G6.mck_zero {m : G6} (h : m.mck = 0) : m.Bd ∧ m.Pos ∧ m.ck = 0 := by
  unfold G6.mck at h
  rcases m.ck_cases with h0 | h0
  · rw [h0] at h
    cases hs : m.syl with
    | false => rw [hs] at h; cases h
    | true =>
      unfold G6.syl at hs
      rw [Bool.and_eq_true, decide_eq_true_eq, decide_eq_true_eq] at hs
      have hb := G6.ck_zero h0
      exact ⟨hb, pos_of_syl (by unfold G6.Bd at hb; omega) hs.1 hs.2, h0⟩
  · rw [h0] at h; cases h
/-- A column's parts within MaxEntry. -/
def V3.in1 (v : V3) : Bool := inB 1000 v.l
def V3.ckv (v : V3) : Int := bif v.in1 then 0 else 4
def tCkv (v : V3) : Option Value := chainO mk1 (rangeT 1000 v.l) [0]
def fCkv (v : V3) : Value := vI v.ckv
theorem tCkv_eq (v : V3) : tCkv v = some (fCkv v) := by
  unfold tCkv fCkv V3.ckv V3.in1
  rw [chain_eq, ← range_eq]; rfl
theorem V3.in1_iff {v : V3} : v.in1 = true ↔ v.Bd 1000 := by
  unfold V3.in1 V3.l V3.Bd
  rw [inB_iff]
  simp only [List.mem_cons, List.not_mem_nil, or_false, forall_eq_or_imp, forall_eq]
theorem V3.ckv_cases (v : V3) : (v.ckv = 0 ∧ v.in1 = true) ∨ (v.ckv = 4 ∧ v.in1 = false) := by
  unfold V3.ckv; cases v.in1 <;> simp
def leastN3 (a b c : Int) : Int := leastN (leastN a b) c
def G6.dotE (m : G6) (u v : V3) : Int := leastN3 m.mck u.ckv v.ckv
def G6.dotF (m : G6) (u v : V3) : Int := bif m.dotE u v == 0 then m.dot u v else 0
def tCDot (m : G6) (u v : V3) : Option Value := match m.dotE u v != 0 with
  | true => some (p2 (vI 0) (vI (m.dotE u v)))
  | false => some (p2 (vI (W (m.dot u v))) (vI 0))
def fCDot (m : G6) (u v : V3) : Value := p2 (vI (m.dotF u v)) (vI (m.dotE u v))
theorem leastN3_zero {a b c : Int} : leastN3 a b c = 0 ↔ a = 0 ∧ b = 0 ∧ c = 0 := by
  unfold leastN3
  rw [leastZero, leastZero, and_assoc]
theorem dotE_zero {m : G6} {u v : V3} (h : m.dotE u v = 0) : m.mck = 0 ∧ u.Bd 1000 ∧ v.Bd 1000 := by
  obtain ⟨a, b, c⟩ := leastN3_zero.1 h
  refine ⟨a, ?_, ?_⟩
  · rcases u.ckv_cases with e | e
    · exact V3.in1_iff.1 e.2
    · omega
  · rcases v.ckv_cases with e | e
    · exact V3.in1_iff.1 e.2
    · omega
theorem dot_bound {m : G6} (h : m.Bd) {u v : V3} {k l : Int} (hu : u.Bd k) (hv : v.Bd l) : -(900000 * (k * l)) ≤ m.dot u v ∧ m.dot u v ≤ 900000 * (k * l) := by
  have h1 := (G6.mat_bd h).app hu
  have e : m.dot u v = (m.mat.app u).x * v.x + (m.mat.app u).y * v.y + (m.mat.app u).z * v.z := by unfold G6.dot G6.mat M3.app; grind
  obtain ⟨x, y, z⟩ := h1
  obtain ⟨x', y', z'⟩ := hv
  have := dot_bd x y z x' y' z'
  rw [e]
  have e2 : 3 * (3 * (100000 * k) * l) = 900000 * (k * l) := by grind
  omega
theorem tCDot_eq (m : G6) (u v : V3) : tCDot m u v = some (fCDot m u v) := by
  unfold tCDot fCDot G6.dotF
  by_cases h : m.dotE u v = 0
  · obtain ⟨h1, h2, h3⟩ := dotE_zero h
    have := dot_bound (G6.mck_zero h1).1 h2 h3
    rw [h, W_in (by omega)]; rfl
  · rw [(bif_beq h).1, (bif_beq h).2]; rfl
def G6.detF (m : G6) : Int := bif m.mck == 0 then m.det else 0
def tCDet (m : G6) : Option Value := match m.mck != 0 with
  | true => some (p2 (vI 0) (vI m.mck))
  | false => some (p2 (vI (W m.det)) (vI 0))
def fCDet (m : G6) : Value := p2 (vI m.detF) (vI m.mck)
theorem tCDet_eq (m : G6) : tCDet m = some (fCDet m) := by
  unfold tCDet fCDet G6.detF
  by_cases h : m.mck = 0
  · rw [h, detWg (G6.mck_zero h).1]; rfl
  · rw [(bif_beq h).1, (bif_beq h).2]; rfl

/-! The document's -/
def refDet (g : M3) : Int := W (W (W (0 + W (g.a * minR g.e g.i g.f g.h)) + W (g.b * minR g.f g.g g.d g.i)) + W (g.c * minR g.d g.h g.e g.g))
def tR11Det (m : G6) : Option Value := some (vI (refDet m.mat))
theorem tR11Det_eq (m : G6) : tR11Det m = some (fGDet m) := by
  unfold tR11Det fGDet refDet
  rw [← det_mat]
  simp only [minR_W, W_mulr, W_addl, W_addr, Int.zero_add]
  rfl
def tR11Check (m : G6) : Option Value := chainO mk1 m.T [0]
def tDocCheck (m : G6) : Option Value := orL m.T (match decide (twoG m ≤ 0) with
    | true => some (vI 3)
    | false => match decide (W m.det ≤ 0) with
      | true => some (vI 3)
      | false => some (vI 0))
where orL : List (Bool × List Int) → Option Value → Option Value
  | [], k => k
  | (b, _) :: l, k => match b with
    | true => some (vI 1)
    | false => orL l k
theorem orL_eq (K : Option Value) : ∀ (l : List (Bool × List Int)), (∀ t ∈ l, t.2 = [1]) → tDocCheck.orL l K = match nth (chainL l [0]) 0 != 0 with
    | true => some (vI (nth (chainL l [0]) 0))
    | false => K
  | [], _ => rfl
  | (b, r) :: l, h => by
    have := h (b, r) (by simp)
    simp only at this
    subst this
    cases b
    · exact orL_eq K l fun t ht => h t (by simp [ht])
    · rfl
theorem T_ones (m : G6) : ∀ t ∈ m.T, t.2 = [1] := by
  intro t ht
  simp only [G6.T, sqT, dgT, List.mem_cons, List.not_mem_nil, or_false] at ht
  rcases ht with rfl | rfl | rfl | rfl | rfl | rfl | rfl | rfl | rfl | rfl | rfl | rfl <;> rfl
theorem tDocCheck_eq (m : G6) : tDocCheck m = some (fMck m) := by
  rw [← tMck_eq]
  unfold tDocCheck
  rw [orL_eq _ _ (T_ones m)]
  rfl
def M3.bil (g : M3) (u v : V3) : Int := u.x * g.a * v.x + u.x * g.b * v.y + u.x * g.c * v.z + u.y * g.d * v.x + u.y * g.e * v.y + u.y * g.f * v.z + u.z * g.g * v.x + u.z * g.h * v.y + u.z * g.i * v.z
def bilW (g : M3) (u v : V3) : Int := W (W (W (W (W (W (W (W (W (0 + W (W (u.x * g.a) * v.x)) + W (W (u.x * g.b) * v.y)) + W (W (u.x * g.c) * v.z)) + W (W (u.y * g.d) * v.x)) + W (W (u.y * g.e) * v.y)) + W (W (u.y * g.f) * v.z)) + W (W (u.z * g.g) * v.x)) + W (W (u.z * g.h) * v.y)) + W (W (u.z * g.i) * v.z))
theorem bilW_eq (g : M3) (u v : V3) : bilW g u v = W (g.bil u v) := by
  unfold bilW M3.bil
  simp only [W_mull, W_addl, W_addr, Int.zero_add]
theorem bil_dot (m : G6) (u v : V3) : m.mat.bil u v = m.dot u v := by unfold M3.bil G6.mat G6.dot; grind
def tForm (g : M3) (u v : V3) : Option Value := some (vI (bilW g u v))
def fForm (g : M3) (u v : V3) : Value := vI (W (g.bil u v))
theorem tForm_eq (g : M3) (u v : V3) : tForm g u v = some (fForm g u v) := by unfold tForm fForm; rw [bilW_eq]
/-- Tests one behind the other that lead to one answer. -/
def orT (ts : List (Bool × List Int)) (a e : Option Value) : Option Value := match ts with
  | [] => e
  | (b, _) :: l => match b with
    | true => a
    | false => orT l a e
theorem orT_range (n : Int) (a e : Option Value) : ∀ (l : List Int), orT (rangeT n l) a e = bif inB n l then e else a
  | [] => rfl
  | x :: l => by
    have ih := orT_range n a e l
    unfold inB at ih ⊢
    simp only [rangeT, List.all_cons]
    by_cases h1 : x < -n
    · have : decide (-n ≤ x) = false := by simp; omega
      simp [orT, h1, this]
    · by_cases h2 : x > n
      · have : decide (x ≤ n) = false := by simp; omega
        simp [orT, h1, h2, this]
      · have e1 : decide (-n ≤ x) = true := by simp; omega
        have e2 : decide (x ≤ n) = true := by simp; omega
        simp only [orT, h1, h2, decide_false, e1, e2, Bool.true_and]
        exact ih
def tDocDot (m : G6) (u v : V3) : Option Value := match m.mck != 0 with
  | true => some (p2 (vI 0) (vI m.mck))
  | false => orT (rangeT 1000 u.l) (some (p2 (vI 0) (vI 4))) (orT (rangeT 1000 v.l) (some (p2 (vI 0) (vI 4))) (some (p2 (vI (W (m.mat.bil u v))) (vI 0))))
theorem tDocDot_eq (m : G6) (u v : V3) : tDocDot m u v = some (fCDot m u v) := by
  rw [← tCDot_eq]
  unfold tDocDot tCDot G6.dotE
  rw [orT_range, orT_range, bil_dot]
  show (match m.mck != 0 with
    | true => some (p2 (vI 0) (vI m.mck))
    | false => bif u.in1 then (bif v.in1 then some (p2 (vI (W (m.dot u v))) (vI 0)) else some (p2 (vI 0) (vI 4))) else some (p2 (vI 0) (vI 4))) = _
  rcases m.mck_cases with h | h | h <;> rcases u.ckv_cases with ⟨a, b⟩ | ⟨a, b⟩ <;> rcases v.ckv_cases with ⟨c, d⟩ | ⟨c, d⟩ <;> rw [h, a, b, c, d] <;> rfl

/-! small, few -/
def V3.fewB (v : V3) : Bool := inB 40 v.l
def tSml1 (v : V3) : Option Value := orT (rangeT 1000 v.l) (some (.bool false)) (some (.bool true))
def fSml1 (v : V3) : Value := .bool v.in1
theorem tSml1_eq (v : V3) : tSml1 v = some (fSml1 v) := by
  unfold tSml1 fSml1 V3.in1; rw [orT_range]; cases inB 1000 v.l <;> rfl
def tFew (v : V3) : Option Value := orT (rangeT 40 v.l) (some (.bool false)) (some (.bool true))
def fFew (v : V3) : Value := .bool v.fewB
theorem tFew_eq (v : V3) : tFew v = some (fFew v) := by
  unfold tFew fFew V3.fewB; rw [orT_range]; cases inB 40 v.l <;> rfl
end Go.Proofs.YtjpfnfckpgilgaaGreat.Vx
