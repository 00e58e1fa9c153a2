/-
  The functions of layer 11 (cell) and of the document's answer for it that need no loop's rule: what the executor finds ('t..'), and what that comes to ('f..'). Nothing here is trusted.
-/
import Derived.Test.YtofblakbfmjgkaaKag
import Derived.Test.YtofblakbfmjgkaaKaf
import Derived.Test.YtofblakbfmjgkaaKae
import Derived.Test.YtofblakbfmjgkaaRows

namespace Go.Proofs.Ytofblakbfmjgkaa.Vx
open Go

theorem W3 (a b c d e f : Int) : W (W a * b + W c * d + W e * f) = W (a * b + c * d + e * f) := W_cadd (W_cadd (W_mull _ _) (W_mull _ _)) (W_mull _ _)
def G6.w (m : G6) : G6 := ⟨W m.aa, W m.bb, W m.cc, W m.bc, W m.ac, W m.ab⟩

/-! plain -/
def tPMatrix (m : G6) : Option Value := some m.mat.v
def fPMatrix (m : G6) : Value := m.mat.v
theorem tPMatrix_eq (m : G6) : tPMatrix m = some (fPMatrix m) := rfl
def tPDot (m : G6) (u v : V3) : Option Value := some (vI (dotR (M3.left u m.mat).w.x (M3.left u m.mat).w.y (M3.left u m.mat).w.z v.x v.y v.z))
def fPDot (m : G6) (u v : V3) : Value := vI (W (m.dot u v))
theorem left_dot (m : G6) (u v : V3) : (M3.left u m.mat).x * v.x + (M3.left u m.mat).y * v.y + (M3.left u m.mat).z * v.z = m.dot u v := by
  unfold M3.left G6.mat G6.dot; grind
theorem tPDot_eq (m : G6) (u v : V3) : tPDot m u v = some (fPDot m u v) := by
  unfold tPDot fPDot
  rw [dotR_W, ← left_dot]
  unfold V3.w
  rw [W3]
def tPTurned (m : G6) (p : M3) : Option Value := some (m.turn p).w.v
def fPTurned (m : G6) (p : M3) : Value := (m.turn p).w.v
theorem tPTurned_eq (m : G6) (p : M3) : tPTurned m p = some (fPTurned m p) := rfl

/-! cell -/
def detG (m : G6) : Int := W (W (W (W (W (W (m.aa * m.bb) * m.cc) + W (W (W (2 * m.bc) * m.ac) * m.ab)) - W (W (m.aa * m.bc) * m.bc)) - W (W (m.bb * m.ac) * m.ac)) - W (W (m.cc * m.ab) * m.ab))
theorem detG_eq (m : G6) : detG m = W m.det := by
  unfold detG G6.det
  simp only [W_mull, W_addl, W_addr, W_subl, W_subr]
def tGDet (m : G6) : Option Value := some (vI (detG m))
def fGDet (m : G6) : Value := vI (W m.det)
theorem tGDet_eq (m : G6) : tGDet m = some (fGDet m) := by unfold tGDet fGDet; rw [detG_eq]
def G6.syl (m : G6) : Bool := decide (0 < m.two) && decide (0 < m.det)
/-- What keeps it from being a metric. -/
def G6.mck (m : G6) : Int := bif m.ck == 0 then (bif m.syl then 0 else 3) else m.ck
def twoG (m : G6) : Int := W (W (m.aa * m.bb) - W (m.ab * m.ab))
def tMck (m : G6) : Option Value := match m.ck != 0 with
  | true => some (vI m.ck)
  | false => match decide (twoG m ≤ 0) with
    | true => some (vI 3)
    | false => match decide (W m.det ≤ 0) with
      | true => some (vI 3)
      | false => some (vI 0)
def fMck (m : G6) : Value := vI m.mck
theorem mul3_bd {k a b c : Int} (ha : -k ≤ a ∧ a ≤ k) (hb : -k ≤ b ∧ b ≤ k) (hc : -k ≤ c ∧ c ≤ k) : -(k * k * k) ≤ a * b * c ∧ a * b * c ≤ k * k * k := bd_mul (bd_mul ha hb) hc
theorem G6.Bd.det {m : G6} (h : m.Bd) : -6000000000000000 ≤ m.det ∧ m.det ≤ 6000000000000000 := by
  obtain ⟨⟨a1, a2⟩, ⟨b1, b2⟩, ⟨c1, c2⟩, d, e, f⟩ := h
  have a : -100000 ≤ m.aa ∧ m.aa ≤ 100000 := ⟨by omega, a2⟩
  have b : -100000 ≤ m.bb ∧ m.bb ≤ 100000 := ⟨by omega, b2⟩
  have c : -100000 ≤ m.cc ∧ m.cc ≤ 100000 := ⟨by omega, c2⟩
  have h1 := mul3_bd a b c
  have h2 := mul3_bd d e f
  have h3 := mul3_bd a d d
  have h4 := mul3_bd b e e
  have h5 := mul3_bd c f f
  unfold G6.det
  rw [show 2 * m.bc * m.ac * m.ab = 2 * (m.bc * m.ac * m.ab) by grind]
  omega
theorem G6.Bd.two {m : G6} (h : m.Bd) : -20000000000 ≤ m.two ∧ m.two ≤ 20000000000 := by
  obtain ⟨⟨a1, a2⟩, ⟨b1, b2⟩, _, _, _, f⟩ := h
  have h1 := bd_mul (m := 100000) (n := 100000) (x := m.aa) (y := m.bb) ⟨by omega, a2⟩ ⟨by omega, b2⟩
  have h2 := bd_mul f f
  unfold G6.two
  omega
theorem twoG_eq {m : G6} (h : m.Bd) : twoG m = m.two := by
  have := h.two
  unfold twoG
  rw [W_subl, W_subr]
  exact W_in (by unfold G6.two at this; omega)
theorem detWg {m : G6} (h : m.Bd) : W m.det = m.det := W_in (by have := h.det; omega)
theorem tMck_eq (m : G6) : tMck m = some (fMck m) := by
  unfold tMck fMck G6.mck G6.syl
  by_cases h : m.ck = 0
  · have hb := G6.ck_zero h
    rw [h, twoG_eq hb, detWg hb]
    by_cases h1 : 0 < m.two
    · by_cases h2 : 0 < m.det
      · rw [show decide (m.two ≤ 0) = false by simp; omega, show decide (m.det ≤ 0) = false by simp; omega, show decide (0 < m.two) = true by simpa using h1, show decide (0 < m.det) = true by simpa using h2]; rfl
      · rw [show decide (m.two ≤ 0) = false by simp; omega, show decide (m.det ≤ 0) = true by simp; omega, show decide (0 < m.two) = true by simpa using h1, show decide (0 < m.det) = false by simpa using h2]; rfl
    · rw [show decide (m.two ≤ 0) = true by simp; omega, show decide (0 < m.two) = false by simpa using h1]; rfl
  · rw [(bif_beq h).1, (bif_beq h).2]; rfl
theorem G6.ck_cases (m : G6) : m.ck = 0 ∨ m.ck = 1 := by
  have key : ∀ l : List (Bool × List Int), (∀ t ∈ l, t.2 = [1]) → nth (chainL l [0]) 0 = 0 ∨ nth (chainL l [0]) 0 = 1 := by
    intro l
    induction l with
    | nil => intro _; left; rfl
    | cons t l ih =>
      intro h
      obtain ⟨b, r⟩ := t
      have := h (b, r) (by simp)
      simp only at this
      subst this
      cases b
      · exact ih fun t ht => h t (by simp [ht])
      · right; rfl
  refine key _ ?_
  intro t ht
  simp only [G6.T, sqT, dgT, List.mem_cons, List.not_mem_nil, or_false] at ht
  rcases ht with rfl | rfl | rfl | rfl | rfl | rfl | rfl | rfl | rfl | rfl | rfl | rfl <;> rfl
theorem G6.mck_cases (m : G6) : m.mck = 0 ∨ m.mck = 1 ∨ m.mck = 3 := by
  unfold G6.mck
  rcases m.ck_cases with h | h <;> rw [h]
  · cases m.syl
    · right; right; rfl
    · left; rfl
  · right; left; rfl
theorem G6.mck_zero {m : G6} (h : m.mck = 0) : m.Bd ∧ m.Pos ∧ m.ck = 0 := by
  unfold G6.mck at h
  rcases m.ck_cases with h0 | h0
  · rw [h0] at h
    cases hs : m.syl with
    | false => rw [hs] at h; cases h
    | true =>
      unfold G6.syl at hs
      rw [Bool.and_eq_true, decide_eq_true_eq, decide_eq_true_eq] at hs
      have hb := G6.ck_zero h0
      exact ⟨hb, pos_of_syl (by unfold G6.Bd at hb; omega) hs.1 hs.2, h0⟩
  · rw [h0] at h; cases h
/-- A column's parts within MaxEntry. -/
def V3.in1 (v : V3) : Bool := inB 1000 v.l
def V3.ckv (v : V3) : Int := bif v.in1 then 0 else 4
def tCkv (v : V3) : Option Value := chainO mk1 (rangeT 1000 v.l) [0]
def fCkv (v : V3) : Value := vI v.ckv
theorem tCkv_eq (v : V3) : tCkv v = some (fCkv v) := by
  unfold tCkv fCkv V3.ckv V3.in1
  rw [chain_eq, ← range_eq]; rfl
theorem V3.in1_iff {v : V3} : v.in1 = true ↔ v.Bd 1000 := by
  unfold V3.in1 V3.l V3.Bd
  rw [inB_iff]
  simp only [List.mem_cons, List.not_mem_nil, or_false, forall_eq_or_imp, forall_eq]
theorem V3.ckv_cases (v : V3) : (v.ckv = 0 ∧ v.in1 = true) ∨ (v.ckv = 4 ∧ v.in1 = false) := by
  unfold V3.ckv; cases v.in1 <;> simp
def leastN3 (a b c : Int) : Int := leastN (leastN a b) c
def G6.dotE (m : G6) (u v : V3) : Int := leastN3 m.mck u.ckv v.ckv
def G6.dotF (m : G6) (u v : V3) : Int := bif m.dotE u v == 0 then m.dot u v else 0
def tCDot (m : G6) (u v : V3) : Option Value := match m.dotE u v != 0 with
  | true => some (p2 (vI 0) (vI (m.dotE u v)))
  | false => some (p2 (vI (W (m.dot u v))) (vI 0))
def fCDot (m : G6) (u v : V3) : Value := p2 (vI (m.dotF u v)) (vI (m.dotE u v))
theorem leastN3_zero {a b c : Int} : leastN3 a b c = 0 ↔ a = 0 ∧ b = 0 ∧ c = 0 := by
  unfold leastN3
  rw [leastN_zero, leastN_zero, and_assoc]
theorem dotE_zero {m : G6} {u v : V3} (h : m.dotE u v = 0) : m.mck = 0 ∧ u.Bd 1000 ∧ v.Bd 1000 := by
  obtain ⟨a, b, c⟩ := leastN3_zero.1 h
  refine ⟨a, ?_, ?_⟩
  · rcases u.ckv_cases with e | e
    · exact V3.in1_iff.1 e.2
    · omega
  · rcases v.ckv_cases with e | e
    · exact V3.in1_iff.1 e.2
    · omega
theorem dot_bound {m : G6} (h : m.Bd) {u v : V3} {k l : Int} (hu : u.Bd k) (hv : v.Bd l) : -(900000 * (k * l)) ≤ m.dot u v ∧ m.dot u v ≤ 900000 * (k * l) := by
  have h1 := (G6.mat_bd h).app hu
  have e : m.dot u v = (m.mat.app u).x * v.x + (m.mat.app u).y * v.y + (m.mat.app u).z * v.z := by unfold G6.dot G6.mat M3.app; grind
  obtain ⟨x, y, z⟩ := h1
  obtain ⟨x', y', z'⟩ := hv
  have := dot_bd x y z x' y' z'
  rw [e]
  have e2 : 3 * (3 * (100000 * k) * l) = 900000 * (k * l) := by grind
  omega
theorem tCDot_eq (m : G6) (u v : V3) : tCDot m u v = some (fCDot m u v) := by
  unfold tCDot fCDot G6.dotF
  by_cases h : m.dotE u v = 0
  · obtain ⟨h1, h2, h3⟩ := dotE_zero h
    have := dot_bound (G6.mck_zero h1).1 h2 h3
    rw [h, W_in (by omega)]; rfl
  · rw [(bif_beq h).1, (bif_beq h).2]; rfl
def G6.detF (m : G6) : Int := bif m.mck == 0 then m.det else 0
def tCDet (m : G6) : Option Value := match m.mck != 0 with
  | true => some (p2 (vI 0) (vI m.mck))
  | false => some (p2 (vI (W m.det)) (vI 0))
def fCDet (m : G6) : Value := p2 (vI m.detF) (vI m.mck)
theorem tCDet_eq (m : G6) : tCDet m = some (fCDet m) := by
  unfold tCDet fCDet G6.detF
  by_cases h : m.mck = 0
  · rw [h, detWg (G6.mck_zero h).1]; rfl
  · rw [(bif_beq h).1, (bif_beq h).2]; rfl

/-! The document's -/
def refDet (g : M3) : Int := W (W (W (0 + W (g.a * minR g.e g.i g.f g.h)) + W (g.b * minR g.f g.g g.d g.i)) + W (g.c * minR g.d g.h g.e g.g))
def tR11Det (m : G6) : Option Value := some (vI (refDet m.mat))
theorem tR11Det_eq (m : G6) : tR11Det m = some (fGDet m) := by
  unfold tR11Det fGDet refDet
  rw [← det_mat]
  simp only [minR_W, W_mulr, W_addl, W_addr, Int.zero_add]
  rfl
def tR11Check (m : G6) : Option Value := chainO mk1 m.T [0]
def tDocCheck (m : G6) : Option Value := orL m.T (match decide (twoG m ≤ 0) with
    | true => some (vI 3)
    | false => match decide (W m.det ≤ 0) with
      | true => some (vI 3)
      | false => some (vI 0))
where orL : List (Bool × List Int) → Option Value → Option Value
  | [], k => k
  | (b, _) :: l, k => match b with
    | true => some (vI 1)
    | false => orL l k
theorem orL_eq (K : Option Value) : ∀ (l : List (Bool × List Int)), (∀ t ∈ l, t.2 = [1]) → tDocCheck.orL l K = match nth (chainL l [0]) 0 != 0 with
    | true => some (vI (nth (chainL l [0]) 0))
    | false => K
  | [], _ => rfl
  | (b, r) :: l, h => by
    have := h (b, r) (by simp)
    simp only at this
    subst this
    cases b
    · exact orL_eq K l fun t ht => h t (by simp [ht])
    · rfl
theorem T_ones (m : G6) : ∀ t ∈ m.T, t.2 = [1] := by
  intro t ht
  simp only [G6.T, sqT, dgT, List.mem_cons, List.not_mem_nil, or_false] at ht
  rcases ht with rfl | rfl | rfl | rfl | rfl | rfl | rfl | rfl | rfl | rfl | rfl | rfl <;> rfl
theorem tDocCheck_eq (m : G6) : tDocCheck m = some (fMck m) := by
  rw [← tMck_eq]
  unfold tDocCheck
  rw [orL_eq _ _ (T_ones m)]
  rfl
def M3.bil (g : M3) (u v : V3) : Int := u.x * g.a * v.x + u.x * g.b * v.y + u.x * g.c * v.z + u.y * g.d * v.x + u.y * g.e * v.y + u.y * g.f * v.z + u.z * g.g * v.x + u.z * g.h * v.y + u.z * g.i * v.z
def bilW (g : M3) (u v : V3) : Int := W (W (W (W (W (W (W (W (W (0 + W (W (u.x * g.a) * v.x)) + W (W (u.x * g.b) * v.y)) + W (W (u.x * g.c) * v.z)) + W (W (u.y * g.d) * v.x)) + W (W (u.y * g.e) * v.y)) + W (W (u.y * g.f) * v.z)) + W (W (u.z * g.g) * v.x)) + W (W (u.z * g.h) * v.y)) + W (W (u.z * g.i) * v.z))
theorem bilW_eq (g : M3) (u v : V3) : bilW g u v = W (g.bil u v) := by
  unfold bilW M3.bil
  simp only [W_mull, W_addl, W_addr, Int.zero_add]
theorem bil_dot (m : G6) (u v : V3) : m.mat.bil u v = m.dot u v := by unfold M3.bil G6.mat G6.dot; grind
def tForm (g : M3) (u v : V3) : Option Value := some (vI (bilW g u v))
def fForm (g : M3) (u v : V3) : Value := vI (W (g.bil u v))
theorem tForm_eq (g : M3) (u v : V3) : tForm g u v = some (fForm g u v) := by unfold tForm fForm; rw [bilW_eq]
/-- Tests one behind the other that lead to one answer. -/
def orT (ts : List (Bool × List Int)) (a e : Option Value) : Option Value := match ts with
  | [] => e
  | (b, _) :: l => match b with
    | true => a
    | false => orT l a e
theorem orT_range (n : Int) (a e : Option Value) : ∀ (l : List Int), orT (rangeT n l) a e = bif inB n l then e else a
  | [] => rfl
  | x :: l => by
    have ih := orT_range n a e l
    unfold inB at ih ⊢
    simp only [rangeT, List.all_cons]
    by_cases h1 : x < -n
    · have : decide (-n ≤ x) = false := by simp; omega
      simp [orT, h1, this]
    · by_cases h2 : x > n
      · have : decide (x ≤ n) = false := by simp; omega
        simp [orT, h1, h2, this]
      · have e1 : decide (-n ≤ x) = true := by simp; omega
        have e2 : decide (x ≤ n) = true := by simp; omega
        simp only [orT, h1, h2, decide_false, e1, e2, Bool.true_and]
        exact ih
def tDocDot (m : G6) (u v : V3) : Option Value := match m.mck != 0 with
  | true => some (p2 (vI 0) (vI m.mck))
  | false => orT (rangeT 1000 u.l) (some (p2 (vI 0) (vI 4))) (orT (rangeT 1000 v.l) (some (p2 (vI 0) (vI 4))) (some (p2 (vI (W (m.mat.bil u v))) (vI 0))))
theorem tDocDot_eq (m : G6) (u v : V3) : tDocDot m u v = some (fCDot m u v) := by
  rw [← tCDot_eq]
  unfold tDocDot tCDot G6.dotE
  rw [orT_range, orT_range, bil_dot]
  show (match m.mck != 0 with
    | true => some (p2 (vI 0) (vI m.mck))
    | false => bif u.in1 then (bif v.in1 then some (p2 (vI (W (m.dot u v))) (vI 0)) else some (p2 (vI 0) (vI 4))) else some (p2 (vI 0) (vI 4))) = _
  rcases m.mck_cases with h | h | h <;> rcases u.ckv_cases with ⟨a, b⟩ | ⟨a, b⟩ <;> rcases v.ckv_cases with ⟨c, d⟩ | ⟨c, d⟩ <;> rw [h, a, b, c, d] <;> rfl

/-! small, few -/
def V3.fewB (v : V3) : Bool := inB 40 v.l
def tSml1 (v : V3) : Option Value := orT (rangeT 1000 v.l) (some (.bool false)) (some (.bool true))
def fSml1 (v : V3) : Value := .bool v.in1
theorem tSml1_eq (v : V3) : tSml1 v = some (fSml1 v) := by
  unfold tSml1 fSml1 V3.in1; rw [orT_range]; cases inB 1000 v.l <;> rfl
def tFew (v : V3) : Option Value := orT (rangeT 40 v.l) (some (.bool false)) (some (.bool true))
def fFew (v : V3) : Value := .bool v.fewB
theorem tFew_eq (v : V3) : tFew v = some (fFew v) := by
  unfold tFew fFew V3.fewB; rw [orT_range]; cases inB 40 v.l <;> rfl
end Go.Proofs.Ytofblakbfmjgkaa.Vx


namespace Go.Proofs.Ytofblakbfmjgkaa.Vx
open Go
/-- The number of 64 bits, none of them a sign's, that is left of a whole number. -/
def U (n : Int) : Int := IntKind.wrap .u64 n
theorem U_eq (n : Int) : U n = n % 18446744073709551616 := by
  unfold U IntKind.wrap
  simp only [IntKind.bits, IntKind.signed]
  have h1 : ((2 : Int) ^ 64) = 18446744073709551616 := rfl
  simp only [h1, Bool.false_and]
  rfl
theorem U_in {n : Int} (h : 0 ≤ n ∧ n ≤ 18446744073709551615) : U n = n := by rw [U_eq]; omega
def vU (n : Int) : Value := .int .u64 n
def gcdI (a b : Int) : Int := ((Nat.gcd a.toNat b.toNat : Nat) : Int)
theorem tmod_nat (a b : Nat) : Int.tmod (a : Int) (b : Int) = ((a % b : Nat) : Int) := by
  rw [Int.tmod_eq_emod_of_nonneg (Int.natCast_nonneg a)]; rfl
theorem gcd_next (a b : Nat) : Nat.gcd b (a % b) = Nat.gcd a b := by
  rw [Nat.gcd_comm a b, Nat.gcd_rec b a, Nat.gcd_comm]
/-- The magnitude. -/
def mag (n : Int) : Int := if n < 0 then -n else n
theorem mag_nn (n : Int) : 0 ≤ mag n := by unfold mag; split <;> omega
theorem mag_nat (n : Int) : mag n = (n.natAbs : Int) := by unfold mag; split <;> omega
def tMag (n : Int) : Option Value := match decide (n < 0) with
  | true => some (vU (U (0 - U n)))
  | false => some (vU (U n))
def fMag (n : Int) : Value := vU (U (mag n))
theorem tMag_eq (n : Int) : tMag n = some (fMag n) := by
  unfold tMag fMag mag
  by_cases h : n < 0
  · rw [decide_eq_true h, if_pos h]
    simp only [U_eq]
    rw [show (0 - n % 18446744073709551616) % 18446744073709551616 = -n % 18446744073709551616 by omega]
  · rw [decide_eq_false h, if_neg h]
end Go.Proofs.Ytofblakbfmjgkaa.Vx


namespace Go.Proofs.Ytofblakbfmjgkaa
open Go Vx

def inlined : List Nat := [19, 20, 21, 22, 23, 24, 25, 26, 27, 28, 29, 30, 31, 32, 33, 34, 35, 36, 37, 38, 39, 40, 41, 42, 43, 44, 45, 46, 47, 48, 49, 50, 51, 52, 53, 54, 55, 56, 57, 58, 59, 60, 61, 62, 63, 64, 65, 66, 67, 68, 69, 70, 71, 72, 73, 74, 75, 76, 77, 78, 79, 80, 81, 82, 83, 84, 85, 86, 87, 88, 89, 90, 91, 92, 93, 94, 96, 97, 98, 99, 100, 101, 102, 103, 104, 105, 106, 107, 108, 109, 110, 111, 112, 113, 114, 115, 116, 117, 118, 119, 120, 121, 122, 123, 124, 125, 126, 128, 129, 130, 132, 133, 134, 135, 136, 137, 138, 139, 142, 143, 144, 145, 146, 147, 148, 149, 150, 154, 156, 157, 168, 169, 170, 171, 177, 178, 179, 180, 182, 183]
def C0 (P : Program) : Cx := base P inlined
theorem ok0 : CxOk (C0 Try.prog) := base_ok (by kernel_rfl) (by kernel_rfl)
/-- vec.within -/
theorem e1 (a0 a1 a2 b : Int) : exFun ((C0 Try.prog).at 108) 60 Try.f108 (pack [some 3, none] [a0, a1, a2, b]) = tWithin ⟨a0, a1, a2⟩ b := by kernel_rfl
def F_108 : List Int → Option Value
  | [a0, a1, a2, b] => some (fWithin ⟨a0, a1, a2⟩ b)
  | _ => none
def C1 (P : Program) : Cx := (C0 P).add 108 [some 3, none] F_108
theorem ok1 : CxOk (C1 Try.prog) := Cx.add_ok ok0 (n := 60) Try.func108 (by kernel_rfl) fun l v hl h => by
  match l, hl, h with
  | [a0, a1, a2, b], _, hh => rw [e1, tWithin_eq]; exact hh
/-- vec.Check -/
theorem e2 (a0 a1 a2 a3 a4 a5 a6 a7 a8 : Int) : exFun ((C1 Try.prog).at 58) 60 Try.f58 (pack [some 9] [a0, a1, a2, a3, a4, a5, a6, a7, a8]) = tCheck ⟨a0, a1, a2, a3, a4, a5, a6, a7, a8⟩ := by kernel_rfl
def F_58 : List Int → Option Value
  | [a0, a1, a2, a3, a4, a5, a6, a7, a8] => some (fCheck ⟨a0, a1, a2, a3, a4, a5, a6, a7, a8⟩)
  | _ => none
def C2 (P : Program) : Cx := (C1 P).add 58 [some 9] F_58
theorem ok2 : CxOk (C2 Try.prog) := Cx.add_ok ok1 (n := 60) Try.func58 (by kernel_rfl) fun l v hl h => by
  match l, hl, h with
  | [a0, a1, a2, a3, a4, a5, a6, a7, a8], _, hh => rw [e2, tCheck_eq]; exact hh
/-- vec.checkBoth -/
theorem e3 (a0 a1 a2 a3 a4 a5 a6 a7 a8 b0 b1 b2 : Int) : exFun ((C2 Try.prog).at 90) 60 Try.f90 (pack [some 9, some 3] [a0, a1, a2, a3, a4, a5, a6, a7, a8, b0, b1, b2]) = tBoth ⟨a0, a1, a2, a3, a4, a5, a6, a7, a8⟩ ⟨b0, b1, b2⟩ := by kernel_rfl
def F_90 : List Int → Option Value
  | [a0, a1, a2, a3, a4, a5, a6, a7, a8, b0, b1, b2] => some (fBoth ⟨a0, a1, a2, a3, a4, a5, a6, a7, a8⟩ ⟨b0, b1, b2⟩)
  | _ => none
def C3 (P : Program) : Cx := (C2 P).add 90 [some 9, some 3] F_90
theorem ok3 : CxOk (C3 Try.prog) := Cx.add_ok ok2 (n := 60) Try.func90 (by kernel_rfl) fun l v hl h => by
  match l, hl, h with
  | [a0, a1, a2, a3, a4, a5, a6, a7, a8, b0, b1, b2], _, hh => rw [e3, tBoth_eq]; exact hh
/-- vec.Mul -/
theorem e4 (a0 a1 a2 a3 a4 a5 a6 a7 a8 b0 b1 b2 b3 b4 b5 b6 b7 b8 : Int) : exFun ((C3 Try.prog).at 170) 60 Try.f170 (pack [some 9, some 9] [a0, a1, a2, a3, a4, a5, a6, a7, a8, b0, b1, b2, b3, b4, b5, b6, b7, b8]) = tMul ⟨a0, a1, a2, a3, a4, a5, a6, a7, a8⟩ ⟨b0, b1, b2, b3, b4, b5, b6, b7, b8⟩ := by kernel_rfl
def F_170 : List Int → Option Value
  | [a0, a1, a2, a3, a4, a5, a6, a7, a8, b0, b1, b2, b3, b4, b5, b6, b7, b8] => some (fMul ⟨a0, a1, a2, a3, a4, a5, a6, a7, a8⟩ ⟨b0, b1, b2, b3, b4, b5, b6, b7, b8⟩)
  | _ => none
def C4 (P : Program) : Cx := (C3 P).add 170 [some 9, some 9] F_170
theorem ok4 : CxOk (C4 Try.prog) := Cx.add_ok ok3 (n := 60) Try.func170 (by kernel_rfl) fun l v hl h => by
  match l, hl, h with
  | [a0, a1, a2, a3, a4, a5, a6, a7, a8, b0, b1, b2, b3, b4, b5, b6, b7, b8], _, hh => rw [e4, tMul_eq]; exact hh
/-- vec.Apply -/
theorem e5 (a0 a1 a2 a3 a4 a5 a6 a7 a8 b0 b1 b2 : Int) : exFun ((C4 Try.prog).at 36) 60 Try.f36 (pack [some 9, some 3] [a0, a1, a2, a3, a4, a5, a6, a7, a8, b0, b1, b2]) = tApply ⟨a0, a1, a2, a3, a4, a5, a6, a7, a8⟩ ⟨b0, b1, b2⟩ := by kernel_rfl
def F_36 : List Int → Option Value
  | [a0, a1, a2, a3, a4, a5, a6, a7, a8, b0, b1, b2] => some (fApply ⟨a0, a1, a2, a3, a4, a5, a6, a7, a8⟩ ⟨b0, b1, b2⟩)
  | _ => none
def C5 (P : Program) : Cx := (C4 P).add 36 [some 9, some 3] F_36
theorem ok5 : CxOk (C5 Try.prog) := Cx.add_ok ok4 (n := 60) Try.func36 (by kernel_rfl) fun l v hl h => by
  match l, hl, h with
  | [a0, a1, a2, a3, a4, a5, a6, a7, a8, b0, b1, b2], _, hh => rw [e5, tApply_eq]; exact hh
/-- vec.Det -/
theorem e6 (a0 a1 a2 a3 a4 a5 a6 a7 a8 : Int) : exFun ((C5 Try.prog).at 57) 60 Try.f57 (pack [some 9] [a0, a1, a2, a3, a4, a5, a6, a7, a8]) = tDet ⟨a0, a1, a2, a3, a4, a5, a6, a7, a8⟩ := by kernel_rfl
def F_57 : List Int → Option Value
  | [a0, a1, a2, a3, a4, a5, a6, a7, a8] => some (fDet ⟨a0, a1, a2, a3, a4, a5, a6, a7, a8⟩)
  | _ => none
def C6 (P : Program) : Cx := (C5 P).add 57 [some 9] F_57
theorem ok6 : CxOk (C6 Try.prog) := Cx.add_ok ok5 (n := 60) Try.func57 (by kernel_rfl) fun l v hl h => by
  match l, hl, h with
  | [a0, a1, a2, a3, a4, a5, a6, a7, a8], _, hh => rw [e6, tDet_eq]; exact hh
/-- vec.Inverse -/
theorem e7 (a0 a1 a2 a3 a4 a5 a6 a7 a8 : Int) : exFun ((C6 Try.prog).at 101) 60 Try.f101 (pack [some 9] [a0, a1, a2, a3, a4, a5, a6, a7, a8]) = tInverse ⟨a0, a1, a2, a3, a4, a5, a6, a7, a8⟩ := by kernel_rfl
def F_101 : List Int → Option Value
  | [a0, a1, a2, a3, a4, a5, a6, a7, a8] => some (fInverse ⟨a0, a1, a2, a3, a4, a5, a6, a7, a8⟩)
  | _ => none
def C7 (P : Program) : Cx := (C6 P).add 101 [some 9] F_101
theorem ok7 : CxOk (C7 Try.prog) := Cx.add_ok ok6 (n := 60) Try.func101 (by kernel_rfl) fun l v hl h => by
  match l, hl, h with
  | [a0, a1, a2, a3, a4, a5, a6, a7, a8], _, hh => rw [e7, tInverse_eq]; exact hh
/-- frac.residue -/
theorem e8 (a b : Int) : exFun ((C7 Try.prog).at 113) 60 Try.f113 (pack [none, none] [a, b]) = tResidue a b := by kernel_rfl
def F_113 : List Int → Option (Bool × Value)
  | [a, b] => some (modB b, vI (a % b))
  | _ => none
def C8 (P : Program) : Cx := (C7 P).addD 113 [none, none] F_113
theorem ok8 : CxOk (C8 Try.prog) := Cx.addD_ok ok7 (n := 60) Try.func113 (by kernel_rfl) fun l v hl h => by
  match l, hl, h with
  | [a, b], _, hh => simp only [F_113, Option.some.injEq, Prod.mk.injEq] at hh; rw [e8, tResidue_eq hh.1, hh.2]
/-- frac.Add -/
theorem e9 (a0 a1 a2 b0 b1 b2 : Int) : exFun ((C8 Try.prog).at 180) 60 Try.f180 (pack [some 3, some 3] [a0, a1, a2, b0, b1, b2]) = tAdd ⟨a0, a1, a2⟩ ⟨b0, b1, b2⟩ := by kernel_rfl
def F_180 : List Int → Option Value
  | [a0, a1, a2, b0, b1, b2] => some (fAdd ⟨a0, a1, a2⟩ ⟨b0, b1, b2⟩)
  | _ => none
def C9 (P : Program) : Cx := (C8 P).add 180 [some 3, some 3] F_180
theorem ok9 : CxOk (C9 Try.prog) := Cx.add_ok ok8 (n := 60) Try.func180 (by kernel_rfl) fun l v hl h => by
  match l, hl, h with
  | [a0, a1, a2, b0, b1, b2], _, hh => rw [e9, tAdd_eq]; exact hh
/-- frac.Neg -/
theorem e10 (a0 a1 a2 : Int) : exFun ((C9 Try.prog).at 178) 60 Try.f178 (pack [some 3] [a0, a1, a2]) = tNeg ⟨a0, a1, a2⟩ := by kernel_rfl
def F_178 : List Int → Option Value
  | [a0, a1, a2] => some (fNeg ⟨a0, a1, a2⟩)
  | _ => none
def C10 (P : Program) : Cx := (C9 P).add 178 [some 3] F_178
theorem ok10 : CxOk (C10 Try.prog) := Cx.add_ok ok9 (n := 60) Try.func178 (by kernel_rfl) fun l v hl h => by
  match l, hl, h with
  | [a0, a1, a2], _, hh => rw [e10, tNeg_eq]; exact hh
/-- frac.isFineness -/
theorem e11 (a : Int) : exFun ((C10 Try.prog).at 110) 60 Try.f110 (pack [none] [a]) = tFine a := by kernel_rfl
def F_110 : List Int → Option Value
  | [a] => some (fFine a)
  | _ => none
def C11 (P : Program) : Cx := (C10 P).add 110 [none] F_110
theorem ok11 : CxOk (C11 Try.prog) := Cx.add_ok ok10 (n := 60) Try.func110 (by kernel_rfl) fun l v hl h => by
  match l, hl, h with
  | [a], _, hh => rw [e11, tFine_eq]; exact hh
/-- frac.Form -/
theorem e12 (a0 a1 a2 a3 : Int) : exFun ((C11 Try.prog).at 112) 60 Try.f112 (pack [some 4] [a0, a1, a2, a3]) = tPForm ⟨a0, ⟨a1, a2, a3⟩⟩ := by kernel_rfl
def F_112 : List Int → Option Value
  | [a0, a1, a2, a3] => some (fPForm ⟨a0, ⟨a1, a2, a3⟩⟩)
  | _ => none
def C12 (P : Program) : Cx := (C11 P).add 112 [some 4] F_112
theorem ok12 : CxOk (C12 Try.prog) := Cx.add_ok ok11 (n := 60) Try.func112 (by kernel_rfl) fun l v hl h => by
  match l, hl, h with
  | [a0, a1, a2, a3], _, hh => rw [e12, tPForm_eq]; exact hh
/-- frac.Place -/
theorem e13 (a b0 b1 b2 : Int) : exFun ((C12 Try.prog).at 61) 60 Try.f61 (pack [none, some 3] [a, b0, b1, b2]) = tPlace a ⟨b0, b1, b2⟩ := by kernel_rfl
def F_61 : List Int → Option Value
  | [a, b0, b1, b2] => some (fPlace a ⟨b0, b1, b2⟩)
  | _ => none
def C13 (P : Program) : Cx := (C12 P).add 61 [none, some 3] F_61
theorem ok13 : CxOk (C13 Try.prog) := Cx.add_ok ok12 (n := 60) Try.func61 (by kernel_rfl) fun l v hl h => by
  match l, hl, h with
  | [a, b0, b1, b2], _, hh => rw [e13, tPlace_eq]; exact hh

def CC (P : Program) : Cx := C13 P
theorem okC : CxOk (CC Try.prog) := ok13

end Go.Proofs.Ytofblakbfmjgkaa


namespace Go.Proofs.Ytofblakbfmjgkaa
open Go Vx
def leastM (a b : Int) : Mem := [.cells true 1 [.int .i64 a, .int .i64 b]]
def leastA : List Value := [.slice (some ⟨0, 0, none⟩) 2 1]
def leastM3 (a b c : Int) : Mem := [.cells true 1 [.int .i64 a, .int .i64 b, .int .i64 c]]
def leastA3 : List Value := [.slice (some ⟨0, 0, none⟩) 3 1]
def lst1 {α : Type} (x c : Int) (k : Int → Option α) : Option α := match x == 0 with
  | true => k c
  | false => match c != 0 with
    | true => match decide (c < x) with
      | true => k c
      | false => k x
    | false => k x
theorem lst1_eq {α : Type} (x c : Int) (k : Int → Option α) : lst1 x c k = k (leastN x c) := by
  unfold lst1 leastN
  cases x == 0 <;> cases c != 0 <;> cases decide (c < x) <;> rfl
theorem eLeast (a b : Int) : (exFunA ((CC Try.prog).at 68) 60 Try.f68 leastA (leastM a b)).res = lst1 a b (fun y => some (vI y, leastM a b)) := by kernel_rfl
theorem eLeast3 (a b c : Int) : (exFunA ((CC Try.prog).at 68) 60 Try.f68 leastA3 (leastM3 a b c)).res = lst1 a b (fun x => lst1 x c (fun y => some (vI y, leastM3 a b c))) := by kernel_rfl
def leastS : List Value → Mem → Option (Ans (Value × Mem))
  | [.slice (some ⟨0, 0, none⟩) 2 1], [.cells true 1 [.int .i64 a, .int .i64 b]] => some (.out (vI (leastN a b), leastM a b))
  | [.slice (some ⟨0, 0, none⟩) 3 1], [.cells true 1 [.int .i64 a, .int .i64 b, .int .i64 c]] => some (.out (vI (leastN3 a b c), leastM3 a b c))
  | _, _ => none
def CL (P : Program) : Cx := (CC P).addF 68 leastS
theorem okL : CxOk (CL Try.prog) := Cx.addF_ok okC fun args m ans v m' h hr => by
  unfold leastS at h
  split at h
  · rename_i a b
    simp only [Option.some.injEq] at h
    subst h
    simp only [Ans.res, Option.some.injEq, Prod.mk.injEq] at hr
    obtain ⟨rfl, rfl⟩ := hr
    exact exFunA_ok (n := 60) okC Try.func68 (by kernel_rfl) ((eLeast a b).trans (lst1_eq _ _ _))
  · rename_i a b c
    simp only [Option.some.injEq] at h
    subst h
    simp only [Ans.res, Option.some.injEq, Prod.mk.injEq] at hr
    obtain ⟨rfl, rfl⟩ := hr
    exact exFunA_ok (n := 60) okC Try.func68 (by kernel_rfl) ((eLeast3 a b c).trans ((lst1_eq _ _ _).trans (lst1_eq _ _ _)))
  · cases h
end Go.Proofs.Ytofblakbfmjgkaa


namespace Go.Proofs.Ytofblakbfmjgkaa
open Go Vx

def Cc0 (P : Program) : Cx := CL P
theorem okc0 : CxOk (Cc0 Try.prog) := okL
/-- plain.Row -/
theorem ec1 (a0 a1 a2 b0 b1 b2 b3 b4 b5 b6 b7 b8 : Int) : exFun ((Cc0 Try.prog).at 106) 60 Try.f106 (pack [some 3, some 9] [a0, a1, a2, b0, b1, b2, b3, b4, b5, b6, b7, b8]) = tRowTimes ⟨a0, a1, a2⟩ ⟨b0, b1, b2, b3, b4, b5, b6, b7, b8⟩ := by kernel_rfl
def Fc_106 : List Int → Option Value
  | [a0, a1, a2, b0, b1, b2, b3, b4, b5, b6, b7, b8] => some (fRowTimes ⟨a0, a1, a2⟩ ⟨b0, b1, b2, b3, b4, b5, b6, b7, b8⟩)
  | _ => none
def Cc1 (P : Program) : Cx := (Cc0 P).add 106 [some 3, some 9] Fc_106
theorem okc1 : CxOk (Cc1 Try.prog) := Cx.add_ok okc0 (n := 60) Try.func106 (by kernel_rfl) fun l v hl h => by
  match l, hl, h with
  | [a0, a1, a2, b0, b1, b2, b3, b4, b5, b6, b7, b8], _, hh => rw [ec1, tRowTimes_eq]; exact hh
/-- plain.Mul -/
theorem ec2 (a0 a1 a2 a3 a4 a5 a6 a7 a8 b0 b1 b2 b3 b4 b5 b6 b7 b8 : Int) : exFun ((Cc1 Try.prog).at 133) 60 Try.f133 (pack [some 9, some 9] [a0, a1, a2, a3, a4, a5, a6, a7, a8, b0, b1, b2, b3, b4, b5, b6, b7, b8]) = tProduct ⟨a0, a1, a2, a3, a4, a5, a6, a7, a8⟩ ⟨b0, b1, b2, b3, b4, b5, b6, b7, b8⟩ := by kernel_rfl
def Fc_133 : List Int → Option Value
  | [a0, a1, a2, a3, a4, a5, a6, a7, a8, b0, b1, b2, b3, b4, b5, b6, b7, b8] => some (fProduct ⟨a0, a1, a2, a3, a4, a5, a6, a7, a8⟩ ⟨b0, b1, b2, b3, b4, b5, b6, b7, b8⟩)
  | _ => none
def Cc2 (P : Program) : Cx := (Cc1 P).add 133 [some 9, some 9] Fc_133
theorem okc2 : CxOk (Cc2 Try.prog) := Cx.add_ok okc1 (n := 60) Try.func133 (by kernel_rfl) fun l v hl h => by
  match l, hl, h with
  | [a0, a1, a2, a3, a4, a5, a6, a7, a8, b0, b1, b2, b3, b4, b5, b6, b7, b8], _, hh => rw [ec2, tProduct_eq]; exact hh
/-- plain.Matrix -/
theorem ec3 (a0 a1 a2 a3 a4 a5 : Int) : exFun ((Cc2 Try.prog).at 115) 60 Try.f115 (pack [some 6] [a0, a1, a2, a3, a4, a5]) = tPMatrix ⟨a0, a1, a2, a3, a4, a5⟩ := by kernel_rfl
def Fc_115 : List Int → Option Value
  | [a0, a1, a2, a3, a4, a5] => some (fPMatrix ⟨a0, a1, a2, a3, a4, a5⟩)
  | _ => none
def Cc3 (P : Program) : Cx := (Cc2 P).add 115 [some 6] Fc_115
theorem okc3 : CxOk (Cc3 Try.prog) := Cx.add_ok okc2 (n := 60) Try.func115 (by kernel_rfl) fun l v hl h => by
  match l, hl, h with
  | [a0, a1, a2, a3, a4, a5], _, hh => rw [ec3, tPMatrix_eq]; exact hh
/-- plain.Dot -/
theorem ec4 (a0 a1 a2 a3 a4 a5 b0 b1 b2 c0 c1 c2 : Int) : exFun ((Cc3 Try.prog).at 70) 60 Try.f70 (pack [some 6, some 3, some 3] [a0, a1, a2, a3, a4, a5, b0, b1, b2, c0, c1, c2]) = tPDot ⟨a0, a1, a2, a3, a4, a5⟩ ⟨b0, b1, b2⟩ ⟨c0, c1, c2⟩ := by kernel_rfl
def Fc_70 : List Int → Option Value
  | [a0, a1, a2, a3, a4, a5, b0, b1, b2, c0, c1, c2] => some (fPDot ⟨a0, a1, a2, a3, a4, a5⟩ ⟨b0, b1, b2⟩ ⟨c0, c1, c2⟩)
  | _ => none
def Cc4 (P : Program) : Cx := (Cc3 P).add 70 [some 6, some 3, some 3] Fc_70
theorem okc4 : CxOk (Cc4 Try.prog) := Cx.add_ok okc3 (n := 60) Try.func70 (by kernel_rfl) fun l v hl h => by
  match l, hl, h with
  | [a0, a1, a2, a3, a4, a5, b0, b1, b2, c0, c1, c2], _, hh => rw [ec4, tPDot_eq]; exact hh
/-- plain.Turned -/
theorem ec5 (a0 a1 a2 a3 a4 a5 b0 b1 b2 b3 b4 b5 b6 b7 b8 : Int) : exFun ((Cc4 Try.prog).at 89) 60 Try.f89 (pack [some 6, some 9] [a0, a1, a2, a3, a4, a5, b0, b1, b2, b3, b4, b5, b6, b7, b8]) = tPTurned ⟨a0, a1, a2, a3, a4, a5⟩ ⟨b0, b1, b2, b3, b4, b5, b6, b7, b8⟩ := by kernel_rfl
def Fc_89 : List Int → Option Value
  | [a0, a1, a2, a3, a4, a5, b0, b1, b2, b3, b4, b5, b6, b7, b8] => some (fPTurned ⟨a0, a1, a2, a3, a4, a5⟩ ⟨b0, b1, b2, b3, b4, b5, b6, b7, b8⟩)
  | _ => none
def Cc5 (P : Program) : Cx := (Cc4 P).add 89 [some 6, some 9] Fc_89
theorem okc5 : CxOk (Cc5 Try.prog) := Cx.add_ok okc4 (n := 60) Try.func89 (by kernel_rfl) fun l v hl h => by
  match l, hl, h with
  | [a0, a1, a2, a3, a4, a5, b0, b1, b2, b3, b4, b5, b6, b7, b8], _, hh => rw [ec5, tPTurned_eq]; exact hh
/-- plain.CheckEntries -/
theorem ec6 (a0 a1 a2 a3 a4 a5 : Int) : exFun ((Cc5 Try.prog).at 65) 60 Try.f65 (pack [some 6] [a0, a1, a2, a3, a4, a5]) = tCheckG ⟨a0, a1, a2, a3, a4, a5⟩ := by kernel_rfl
def Fc_65 : List Int → Option Value
  | [a0, a1, a2, a3, a4, a5] => some (fCheckG ⟨a0, a1, a2, a3, a4, a5⟩)
  | _ => none
def Cc6 (P : Program) : Cx := (Cc5 P).add 65 [some 6] Fc_65
theorem okc6 : CxOk (Cc6 Try.prog) := Cx.add_ok okc5 (n := 60) Try.func65 (by kernel_rfl) fun l v hl h => by
  match l, hl, h with
  | [a0, a1, a2, a3, a4, a5], _, hh => rw [ec6, tCheckG_eq]; exact hh
/-- cell.det -/
theorem ec7 (a0 a1 a2 a3 a4 a5 : Int) : exFun ((Cc6 Try.prog).at 66) 60 Try.f66 (pack [some 6] [a0, a1, a2, a3, a4, a5]) = tGDet ⟨a0, a1, a2, a3, a4, a5⟩ := by kernel_rfl
def Fc_66 : List Int → Option Value
  | [a0, a1, a2, a3, a4, a5] => some (fGDet ⟨a0, a1, a2, a3, a4, a5⟩)
  | _ => none
def Cc7 (P : Program) : Cx := (Cc6 P).add 66 [some 6] Fc_66
theorem okc7 : CxOk (Cc7 Try.prog) := Cx.add_ok okc6 (n := 60) Try.func66 (by kernel_rfl) fun l v hl h => by
  match l, hl, h with
  | [a0, a1, a2, a3, a4, a5], _, hh => rw [ec7, tGDet_eq]; exact hh
/-- cell.Check -/
theorem ec8 (a0 a1 a2 a3 a4 a5 : Int) : exFun ((Cc7 Try.prog).at 20) 60 Try.f20 (pack [some 6] [a0, a1, a2, a3, a4, a5]) = tMck ⟨a0, a1, a2, a3, a4, a5⟩ := by kernel_rfl
def Fc_20 : List Int → Option Value
  | [a0, a1, a2, a3, a4, a5] => some (fMck ⟨a0, a1, a2, a3, a4, a5⟩)
  | _ => none
def Cc8 (P : Program) : Cx := (Cc7 P).add 20 [some 6] Fc_20
theorem okc8 : CxOk (Cc8 Try.prog) := Cx.add_ok okc7 (n := 60) Try.func20 (by kernel_rfl) fun l v hl h => by
  match l, hl, h with
  | [a0, a1, a2, a3, a4, a5], _, hh => rw [ec8, tMck_eq]; exact hh
/-- cell.checkVector -/
theorem ec9 (a0 a1 a2 : Int) : exFun ((Cc8 Try.prog).at 69) 60 Try.f69 (pack [some 3] [a0, a1, a2]) = tCkv ⟨a0, a1, a2⟩ := by kernel_rfl
def Fc_69 : List Int → Option Value
  | [a0, a1, a2] => some (fCkv ⟨a0, a1, a2⟩)
  | _ => none
def Cc9 (P : Program) : Cx := (Cc8 P).add 69 [some 3] Fc_69
theorem okc9 : CxOk (Cc9 Try.prog) := Cx.add_ok okc8 (n := 60) Try.func69 (by kernel_rfl) fun l v hl h => by
  match l, hl, h with
  | [a0, a1, a2], _, hh => rw [ec9, tCkv_eq]; exact hh
/-- cell.Det -/
theorem ec10 (a0 a1 a2 a3 a4 a5 : Int) : exFun ((Cc9 Try.prog).at 22) 60 Try.f22 (pack [some 6] [a0, a1, a2, a3, a4, a5]) = tCDet ⟨a0, a1, a2, a3, a4, a5⟩ := by kernel_rfl
def Fc_22 : List Int → Option Value
  | [a0, a1, a2, a3, a4, a5] => some (fCDet ⟨a0, a1, a2, a3, a4, a5⟩)
  | _ => none
def Cc10 (P : Program) : Cx := (Cc9 P).add 22 [some 6] Fc_22
theorem okc10 : CxOk (Cc10 Try.prog) := Cx.add_ok okc9 (n := 60) Try.func22 (by kernel_rfl) fun l v hl h => by
  match l, hl, h with
  | [a0, a1, a2, a3, a4, a5], _, hh => rw [ec10, tCDet_eq]; exact hh
/-- cell.Dot -/
theorem ec11 (a0 a1 a2 a3 a4 a5 b0 b1 b2 c0 c1 c2 : Int) : exFun ((Cc10 Try.prog).at 24) 60 Try.f24 (pack [some 6, some 3, some 3] [a0, a1, a2, a3, a4, a5, b0, b1, b2, c0, c1, c2]) = tCDot ⟨a0, a1, a2, a3, a4, a5⟩ ⟨b0, b1, b2⟩ ⟨c0, c1, c2⟩ := by kernel_rfl
def Fc_24 : List Int → Option Value
  | [a0, a1, a2, a3, a4, a5, b0, b1, b2, c0, c1, c2] => some (fCDot ⟨a0, a1, a2, a3, a4, a5⟩ ⟨b0, b1, b2⟩ ⟨c0, c1, c2⟩)
  | _ => none
def Cc11 (P : Program) : Cx := (Cc10 P).add 24 [some 6, some 3, some 3] Fc_24
theorem okc11 : CxOk (Cc11 Try.prog) := Cx.add_ok okc10 (n := 60) Try.func24 (by kernel_rfl) fun l v hl h => by
  match l, hl, h with
  | [a0, a1, a2, a3, a4, a5, b0, b1, b2, c0, c1, c2], _, hh => rw [ec11, tCDot_eq]; exact hh
/-- facetref11.Det -/
theorem ec12 (a0 a1 a2 a3 a4 a5 : Int) : exFun ((Cc11 Try.prog).at 67) 60 Try.f67 (pack [some 6] [a0, a1, a2, a3, a4, a5]) = tR11Det ⟨a0, a1, a2, a3, a4, a5⟩ := by kernel_rfl
def Fc_67 : List Int → Option Value
  | [a0, a1, a2, a3, a4, a5] => some (fGDet ⟨a0, a1, a2, a3, a4, a5⟩)
  | _ => none
def Cc12 (P : Program) : Cx := (Cc11 P).add 67 [some 6] Fc_67
theorem okc12 : CxOk (Cc12 Try.prog) := Cx.add_ok okc11 (n := 60) Try.func67 (by kernel_rfl) fun l v hl h => by
  match l, hl, h with
  | [a0, a1, a2, a3, a4, a5], _, hh => rw [ec12, tR11Det_eq]; exact hh
/-- facetref11.DocCheck -/
theorem ec13 (a0 a1 a2 a3 a4 a5 : Int) : exFun ((Cc12 Try.prog).at 21) 60 Try.f21 (pack [some 6] [a0, a1, a2, a3, a4, a5]) = tDocCheck ⟨a0, a1, a2, a3, a4, a5⟩ := by kernel_rfl
def Fc_21 : List Int → Option Value
  | [a0, a1, a2, a3, a4, a5] => some (fMck ⟨a0, a1, a2, a3, a4, a5⟩)
  | _ => none
def Cc13 (P : Program) : Cx := (Cc12 P).add 21 [some 6] Fc_21
theorem okc13 : CxOk (Cc13 Try.prog) := Cx.add_ok okc12 (n := 60) Try.func21 (by kernel_rfl) fun l v hl h => by
  match l, hl, h with
  | [a0, a1, a2, a3, a4, a5], _, hh => rw [ec13, tDocCheck_eq]; exact hh
/-- facetref11.DocDet -/
theorem ec14 (a0 a1 a2 a3 a4 a5 : Int) : exFun ((Cc13 Try.prog).at 23) 60 Try.f23 (pack [some 6] [a0, a1, a2, a3, a4, a5]) = tCDet ⟨a0, a1, a2, a3, a4, a5⟩ := by kernel_rfl
def Fc_23 : List Int → Option Value
  | [a0, a1, a2, a3, a4, a5] => some (fCDet ⟨a0, a1, a2, a3, a4, a5⟩)
  | _ => none
def Cc14 (P : Program) : Cx := (Cc13 P).add 23 [some 6] Fc_23
theorem okc14 : CxOk (Cc14 Try.prog) := Cx.add_ok okc13 (n := 60) Try.func23 (by kernel_rfl) fun l v hl h => by
  match l, hl, h with
  | [a0, a1, a2, a3, a4, a5], _, hh => rw [ec14, tCDet_eq]; exact hh
/-- facetref11.Form -/
theorem ec15 (a0 a1 a2 a3 a4 a5 a6 a7 a8 b0 b1 b2 c0 c1 c2 : Int) : exFun ((Cc14 Try.prog).at 72) 60 Try.f72 (pack [some 9, some 3, some 3] [a0, a1, a2, a3, a4, a5, a6, a7, a8, b0, b1, b2, c0, c1, c2]) = tForm ⟨a0, a1, a2, a3, a4, a5, a6, a7, a8⟩ ⟨b0, b1, b2⟩ ⟨c0, c1, c2⟩ := by kernel_rfl
def Fc_72 : List Int → Option Value
  | [a0, a1, a2, a3, a4, a5, a6, a7, a8, b0, b1, b2, c0, c1, c2] => some (fForm ⟨a0, a1, a2, a3, a4, a5, a6, a7, a8⟩ ⟨b0, b1, b2⟩ ⟨c0, c1, c2⟩)
  | _ => none
def Cc15 (P : Program) : Cx := (Cc14 P).add 72 [some 9, some 3, some 3] Fc_72
theorem okc15 : CxOk (Cc15 Try.prog) := Cx.add_ok okc14 (n := 60) Try.func72 (by kernel_rfl) fun l v hl h => by
  match l, hl, h with
  | [a0, a1, a2, a3, a4, a5, a6, a7, a8, b0, b1, b2, c0, c1, c2], _, hh => rw [ec15, tForm_eq]; exact hh
/-- facetref11.DocDot -/
theorem ec16 (a0 a1 a2 a3 a4 a5 b0 b1 b2 c0 c1 c2 : Int) : exFun ((Cc15 Try.prog).at 25) 60 Try.f25 (pack [some 6, some 3, some 3] [a0, a1, a2, a3, a4, a5, b0, b1, b2, c0, c1, c2]) = tDocDot ⟨a0, a1, a2, a3, a4, a5⟩ ⟨b0, b1, b2⟩ ⟨c0, c1, c2⟩ := by kernel_rfl
def Fc_25 : List Int → Option Value
  | [a0, a1, a2, a3, a4, a5, b0, b1, b2, c0, c1, c2] => some (fCDot ⟨a0, a1, a2, a3, a4, a5⟩ ⟨b0, b1, b2⟩ ⟨c0, c1, c2⟩)
  | _ => none
def Cc16 (P : Program) : Cx := (Cc15 P).add 25 [some 6, some 3, some 3] Fc_25
theorem okc16 : CxOk (Cc16 Try.prog) := Cx.add_ok okc15 (n := 60) Try.func25 (by kernel_rfl) fun l v hl h => by
  match l, hl, h with
  | [a0, a1, a2, a3, a4, a5, b0, b1, b2, c0, c1, c2], _, hh => rw [ec16, tDocDot_eq]; exact hh
/-- facetlaw11.small -/
theorem ec17 (a0 a1 a2 : Int) : exFun ((Cc16 Try.prog).at 32) 60 Try.f32 (pack [some 3] [a0, a1, a2]) = tSml1 ⟨a0, a1, a2⟩ := by kernel_rfl
def Fc_32 : List Int → Option Value
  | [a0, a1, a2] => some (fSml1 ⟨a0, a1, a2⟩)
  | _ => none
def Cc17 (P : Program) : Cx := (Cc16 P).add 32 [some 3] Fc_32
theorem okc17 : CxOk (Cc17 Try.prog) := Cx.add_ok okc16 (n := 60) Try.func32 (by kernel_rfl) fun l v hl h => by
  match l, hl, h with
  | [a0, a1, a2], _, hh => rw [ec17, tSml1_eq]; exact hh
/-- facetlaw11.few -/
theorem ec18 (a0 a1 a2 : Int) : exFun ((Cc17 Try.prog).at 33) 60 Try.f33 (pack [some 3] [a0, a1, a2]) = tFew ⟨a0, a1, a2⟩ := by kernel_rfl
def Fc_33 : List Int → Option Value
  | [a0, a1, a2] => some (fFew ⟨a0, a1, a2⟩)
  | _ => none
def Cc18 (P : Program) : Cx := (Cc17 P).add 33 [some 3] Fc_33
theorem okc18 : CxOk (Cc18 Try.prog) := Cx.add_ok okc17 (n := 60) Try.func33 (by kernel_rfl) fun l v hl h => by
  match l, hl, h with
  | [a0, a1, a2], _, hh => rw [ec18, tFew_eq]; exact hh

def CCc (P : Program) : Cx := Cc18 P
theorem okCc : CxOk (CCc Try.prog) := okc18

end Go.Proofs.Ytofblakbfmjgkaa


namespace Go.Proofs.Ytofblakbfmjgkaa
open Go Vx

def Ca0 (P : Program) : Cx := CCc P
theorem oka0 : CxOk (Ca0 Try.prog) := okCc
/-- facetlaw11.awake -/
theorem ea1 : exFun ((Ca0 Try.prog).at 19) 400 Try.f19 (pack [] []) = tAwake := by kernel_rfl
def Fa_19 : List Int → Option Value
  | [] => some (fAwake)
  | _ => none
def Ca1 (P : Program) : Cx := (Ca0 P).add 19 [] Fa_19
theorem oka1 : CxOk (Ca1 Try.prog) := Cx.add_ok oka0 (n := 400) Try.func19 (by kernel_rfl) fun l v hl h => by
  match l, hl, h with
  | [], _, hh => rw [ea1, tAwake_eq]; exact hh

def CCa (P : Program) : Cx := Ca1 P
theorem okCa : CxOk (CCa Try.prog) := oka1

end Go.Proofs.Ytofblakbfmjgkaa


namespace Go.Proofs.Ytofblakbfmjgkaa
open Go Vx Go.RowKit
def dvB (P : Program) : Code := bodyOf P 116
theorem dvB_eq : Try.f116.body = some (dvB Try.prog) := by kernel_rfl
def dvH (a b : Int) : St := stOf 12 [(0, vU a), (1, vU b)] []
theorem dvE (a b : Int) : segR ((CCa Try.prog).into 116 0) 40 1 (dvB Try.prog) [0, 1] [] (enter Try.f116 [vU a, vU b] []) = some (dvH a b) := by kernel_rfl
theorem dvHas : hasStmt 1 (dvB Try.prog) = true := by kernel_rfl
theorem dvBlk : isBlk 0 (stmt 1 (dvB Try.prog)) = true := by kernel_rfl
theorem dvR (a b : Int) : roundR ((CCa Try.prog).into 116 0) 40 (blkBody (stmt 1 (dvB Try.prog))) [0, 1] [0] [] [] (dvH a b) =
    (match b != 0 with
    | true => gn (b == 0) (some (.normal, dvH b (Int.tmod a b)))
    | false => some (.exit 0, stOf 12 [(0, vU a)] [])) := by kernel_rfl
theorem dvEnd (a : Int) : roundR ((CCa Try.prog).into 116 0) 40 (seqDrop 2 (dvB Try.prog)) [4] [4] [] [] (stOf 12 [(0, vU a)] []) = some (.ret, stOf 12 [(4, vU a)] []) := by kernel_rfl
theorem dvRet (a : Int) : (retA Try.prog Try.f116 (.ret, stOf 12 [(4, vU a)] [])).res = some (vU a, []) := by kernel_rfl
set_option maxRecDepth 100000 in
theorem dvIn : InBody ((CCa Try.prog).into 116 0) (blkBody (stmt 1 (dvB Try.prog))) := blk_in (C := CCa Try.prog) (f := 116) (B := 0) (id := 0) (k := 1) (fn := Try.f116) (b := dvB Try.prog) Try.func116 dvB_eq dvBlk
theorem dvL : ∀ (b a : Nat), LoopSem Try.prog 0 (blkBody (stmt 1 (dvB Try.prog))) (dvH (a : Int) (b : Int)) (.exit 0) (stOf 12 [(0, vU ((Nat.gcd a b : Nat) : Int))] []) := by
  intro b
  induction b using Nat.strongRecOn with
  | _ b ih =>
    intro a
    have hr := dvR (a : Int) (b : Int)
    by_cases hb : b = 0
    · subst hb
      rw [Nat.gcd_zero_right]
      exact loop_leave (C := CCa Try.prog) okCa (f := 116) (B := 0) dvIn hr (by simp)
    · rw [show ((b : Int) != 0) = true by simp; omega, show ((b : Int) == 0) = false by simp; omega, tmod_nat] at hr
      have := ih (a % b) (Nat.mod_lt _ (by omega)) b
      rw [gcd_next] at this
      exact loop_next (C := CCa Try.prog) okCa (f := 116) (B := 0) dvIn hr (StLike.refl _) this
theorem dvS (a b : Nat) : PlainSem Try.prog 116 [vU a, vU b] (vU ((Nat.gcd a b : Nat) : Int)) := by
  have hm : MemSem Try.prog 116 [vU a, vU b] [] (vU ((Nat.gcd a b : Nat) : Int)) [] :=
    body_mem (f := 116) Try.func116 dvB_eq (by kernel_rfl) (seg_rule (C := CCa Try.prog) okCa (f := 116) (B := 0) (k := 1) (Or.inl ⟨Try.f116, dvB Try.prog, Try.func116, dvB_eq, fun _ hx => hx⟩) (dvE a b)
      (stmt_rule dvHas (blk_rule dvBlk (dvL b a)) (end_rule (C := CCa Try.prog) okCa (f := 116) (B := 0) (bodyOf_in Try.func116 dvB_eq) (dvEnd _)))) (dvRet _)
  exact hm.plain (by intro x hx; simp only [List.mem_cons, List.not_mem_nil, or_false] at hx; rcases hx with rfl | rfl <;> rfl) rfl
theorem dvSI (a b : Int) (h0 : 0 ≤ a) (h1 : 0 ≤ b) : PlainSem Try.prog 116 [vU a, vU b] (vU (gcdI a b)) := by
  have := dvS a.toNat b.toNat
  rw [Int.toNat_of_nonneg h0, Int.toNat_of_nonneg h1] at this
  exact this
def dvF : List Value → Option (Bool × Value)
  | [.int .u64 a, .int .u64 b] => some (decide (0 ≤ a) && decide (0 ≤ b), vU (gcdI a b))
  | _ => none
def Cg1 (P : Program) : Cx := (CCa P).addR 116 dvF
theorem okg1 : CxOk (Cg1 Try.prog) := Cx.addP_ok okCa fun args v _ h _ => by
  unfold dvF at h
  split at h
  · simp only [Option.some.injEq, Prod.mk.injEq, Bool.and_eq_true, decide_eq_true_eq] at h
    obtain ⟨⟨h0, h1⟩, rfl⟩ := h
    exact dvSI _ _ h0 h1
  · cases h
/-- cell.magnitude -/
theorem eg2 (a : Int) : exFun ((Cg1 Try.prog).at 85) 60 Try.f85 (pack [none] [a]) = tMag a := by kernel_rfl
def Fg_85 : List Int → Option Value
  | [a] => some (fMag a)
  | _ => none
def Cg2 (P : Program) : Cx := (Cg1 P).add 85 [none] Fg_85
theorem okg2 : CxOk (Cg2 Try.prog) := Cx.add_ok okg1 (n := 60) Try.func85 (by kernel_rfl) fun l v hl h => by
  match l, hl, h with
  | [a], _, hh => rw [eg2, tMag_eq]; exact hh
/-- facetref11.Low -/
def loB (P : Program) : Code := bodyOf P 117
theorem loB_eq : Try.f117.body = some (loB Try.prog) := by kernel_rfl
def loBk : Blk := .cells true 0 [vI 0, vI 0]
def loP : Nat × Value := (4, .pointer (some ⟨0, 0, none⟩))
def loH (a b x y : Int) : St := stOf 22 [(0, vI a), (1, vI b), loP, (5, vI x), (6, vI y)] [loBk]
def loX (a b x : Int) : St := stOf 22 [(0, vI a), (1, vI b), loP, (5, vI x)] [loBk]
theorem loE (a b : Int) : segR ((Cg2 Try.prog).into 117 0) 40 2 (loB Try.prog) [0, 1, 4, 5, 6] [.slot 4] (enter Try.f117 [vI a, vI b] []) = some (loH a b a b) := by kernel_rfl
theorem loHas : hasStmt 2 (loB Try.prog) = true := by kernel_rfl
theorem loBlk : isBlk 0 (stmt 2 (loB Try.prog)) = true := by kernel_rfl
theorem loR (a b x y : Int) : roundR ((Cg2 Try.prog).into 117 0) 40 (blkBody (stmt 2 (loB Try.prog))) [0, 1, 4, 5, 6] [0, 1, 4, 5] [.slot 4] [.slot 4] (loH a b x y) =
    (match decide (y > 0) with
    | true => gn (y == 0) (some (.normal, loH a b y (Int.tmod x y)))
    | false => some (.exit 0, loX a b x)) := by kernel_rfl
theorem loEnd (a b x : Int) : roundR ((Cg2 Try.prog).into 117 0) 40 (seqDrop 3 (loB Try.prog)) [4] [4] [.slot 4] [.slot 4] (loX a b x) = gn (x == 0) (gn (x == 0) (some (.ret, stOf 22 [loP] [.cells true 0 [vI (W (a.tdiv x)), vI (W (b.tdiv x))]]))) := by kernel_rfl
theorem loRet (a b : Int) : (retA Try.prog Try.f117 (.ret, stOf 22 [loP] [.cells true 0 [vI a, vI b]])).res = some (.agg #[vI a, vI b], [.cells true 0 [vI a, vI b]]) := by kernel_rfl
set_option maxRecDepth 100000 in
theorem loIn : InBody ((Cg2 Try.prog).into 117 0) (blkBody (stmt 2 (loB Try.prog))) := blk_in (C := Cg2 Try.prog) (f := 117) (B := 0) (id := 0) (k := 2) (fn := Try.f117) (b := loB Try.prog) Try.func117 loB_eq loBlk
theorem loL (a b : Int) : ∀ (y x : Nat), LoopSem Try.prog 0 (blkBody (stmt 2 (loB Try.prog))) (loH a b (x : Int) (y : Int)) (.exit 0) (loX a b ((Nat.gcd x y : Nat) : Int)) := by
  intro y
  induction y using Nat.strongRecOn with
  | _ y ih =>
    intro x
    have hr := loR a b (x : Int) (y : Int)
    by_cases hb : y = 0
    · subst hb
      rw [Nat.gcd_zero_right]
      exact loop_leave (C := Cg2 Try.prog) okg2 (f := 117) (B := 0) loIn hr (by simp)
    · rw [show decide ((y : Int) > 0) = true by simp; omega, show ((y : Int) == 0) = false by simp; omega, tmod_nat] at hr
      have := ih (x % y) (Nat.mod_lt _ (by omega)) y
      rw [gcd_next] at this
      exact loop_next (C := Cg2 Try.prog) okg2 (f := 117) (B := 0) loIn hr (StLike.refl _) this
/-- Lowest terms of a over b, b above 0. -/
def lowV (a b : Int) : Value := .agg #[vI (W (a.tdiv (gcdI a b))), vI (W (b.tdiv (gcdI a b)))]
theorem gcdI_pos {a b : Int} (h : 0 < b) : 0 < gcdI a b := by
  unfold gcdI
  have := Nat.gcd_pos_of_pos_right a.toNat (n := b.toNat) (by omega)
  omega
theorem loS (a b : Int) (h0 : 0 ≤ a) (h1 : 0 < b) : PlainSem Try.prog 117 [vI a, vI b] (lowV a b) := by
  have hg := gcdI_pos (a := a) h1
  have he := loEnd a b (gcdI a b)
  rw [show (gcdI a b == 0) = false by simp; omega] at he
  have hl := loL a b b.toNat a.toNat
  rw [Int.toNat_of_nonneg h0, Int.toNat_of_nonneg (Int.le_of_lt h1)] at hl
  have hm : MemSem Try.prog 117 [vI a, vI b] [] (lowV a b) [.cells true 0 [vI (W (a.tdiv (gcdI a b))), vI (W (b.tdiv (gcdI a b)))]] :=
    body_mem (f := 117) Try.func117 loB_eq (by kernel_rfl) (seg_rule (C := Cg2 Try.prog) okg2 (f := 117) (B := 0) (k := 2) (Or.inl ⟨Try.f117, loB Try.prog, Try.func117, loB_eq, fun _ hx => hx⟩) (loE a b)
      (stmt_rule loHas (blk_rule loBlk hl) (end_rule (C := Cg2 Try.prog) okg2 (f := 117) (B := 0) (bodyOf_in Try.func117 loB_eq) he))) (loRet _ _)
  exact hm.plain (by intro x hx; simp only [List.mem_cons, List.not_mem_nil, or_false] at hx; rcases hx with rfl | rfl <;> rfl) rfl
def loF : List Value → Option (Bool × Value)
  | [.int .i64 a, .int .i64 b] => some (decide (0 ≤ a) && decide (0 < b), lowV a b)
  | _ => none
def Cg3 (P : Program) : Cx := (Cg2 P).addR 117 loF
theorem okg3 : CxOk (Cg3 Try.prog) := Cx.addP_ok okg2 fun args v _ h _ => by
  unfold loF at h
  split at h
  · simp only [Option.some.injEq, Prod.mk.injEq, Bool.and_eq_true, decide_eq_true_eq] at h
    obtain ⟨⟨h0, h1⟩, rfl⟩ := h
    exact loS _ _ h0 h1
  · cases h
end Go.Proofs.Ytofblakbfmjgkaa


namespace Go.Proofs.Ytofblakbfmjgkaa.Vx
open Go

def tR1Mat (m : M3) : Option Value := chainO mk1 (rangeT 1000 m.l) [0]
theorem tR1Mat_eq (m : M3) : tR1Mat m = some (fCheck m) := by
  unfold tR1Mat fCheck
  rw [chain_eq]
  show some (vI (matR m.a m.b m.c m.d m.e m.f m.g m.h m.i)) = _
  rw [mat_eq]; rfl
def tR1T (m : M3) : Option Value := some m.T.v
def fR1T (m : M3) : Value := m.T.v
theorem tR1T_eq (m : M3) : tR1T m = some (fR1T m) := rfl
def tR1Left (v : V3) (m : M3) : Option Value := some (m.T.app v).w.v
def fR1Left (v : V3) (m : M3) : Value := (M3.left v m).w.v
theorem left_T (v : V3) (m : M3) : m.T.app v = M3.left v m := by
  refine V3.ext' ⟨?_, ?_, ?_⟩ <;> (simp only [M3.T, M3.app, M3.left]; grind)
theorem tR1Left_eq (v : V3) (m : M3) : tR1Left v m = some (fR1Left v m) := by unfold tR1Left fR1Left; rw [left_T]
def tR1Det (m : M3) : Option Value := some (vI (rdet m.a m.b m.c m.d m.e m.f m.g m.h m.i))
theorem tR1Det_eq (m : M3) : tR1Det m = some (fRDet m) := by unfold tR1Det fRDet; rw [rdet_eq]; rfl
def tR1Adj (m : M3) : Option Value := some (lM (cofL m.a m.b m.c m.d m.e m.f m.g m.h m.i)).v
def fR1Adj (m : M3) : Value := m.adj.w.v
theorem tR1Adj_eq (m : M3) : tR1Adj m = some (fR1Adj m) := by
  unfold tR1Adj fR1Adj cofL
  simp only [minR_W]; rfl
def tR1Scale (n : Int) (m : M3) : Option Value := some (m.smul n).w.v
def fR1Scale (n : Int) (m : M3) : Value := (m.smul n).w.v
theorem tR1Scale_eq (n : Int) (m : M3) : tR1Scale n m = some (fR1Scale n m) := rfl
def tR1Inv (m : M3) : Option Value := some (m.adj.w.smul (W m.det)).w.v
def fR1Inv (m : M3) : Value := m.inv.w.v
theorem tR1Inv_eq (m : M3) : tR1Inv m = some (fR1Inv m) := by
  unfold tR1Inv fR1Inv M3.inv M3.smul M3.w
  simp only [W_mul2]
def tR1Form (m : M3) : Option Value :=
  match m.ck != 0 with
  | true => some (vI 4)
  | false => match W m.det != 1 with
    | true => match W m.det != -1 with
      | true => some (vI 3)
      | false => some (vI 0)
    | false => some (vI 0)
theorem tR1Form_eq (m : M3) : tR1Form m = some (fCheckM m) := by
  unfold tR1Form fCheckM M3.form M3.ck
  cases h : m.ok
  · rfl
  · simp only [cond_true, bne_self_eq_false, Wdet h]
    by_cases h1 : m.det = 1
    · rw [h1]; rfl
    · by_cases h2 : m.det = -1
      · rw [h2]; rfl
      · have e1 : (m.det != 1) = true := by simpa using h1
        have e2 : (m.det != -1) = true := by simpa using h2
        have e3 : unitB m.det = false := by simp [unitB, h1, h2]
        rw [e1, e2, e3]; rfl
theorem inv_w {m : M3} (h : m.form = 0) : m.inv.w = m.inv := by
  obtain ⟨h1, h2⟩ := M3.form_zero.1 h
  exact M3.w_eq (((M3.ok_iff.1 h1).inv h2).mono (by omega))
def tR1DocInv (m : M3) : Option Value :=
  match m.form != 0 with
  | true => some (p2 M3.zero.v (vI m.form))
  | false => some (p2 m.inv.w.v (vI 0))
theorem tR1DocInv_eq (m : M3) : tR1DocInv m = some (fInverse m) := by
  unfold tR1DocInv fInverse M3.invF
  by_cases h : m.form = 0
  · rw [inv_w h, h]; rfl
  · rw [(bif_beq h).1, (bif_beq h).2]; rfl
def tR2Form (p : P3) : Option Value := match isF p.m with
  | true => onO (modB p.m) (some (.bool (p.x.eqB (p.x.md p.m))))
  | false => some (.bool false)
theorem tR2Form_eq (p : P3) : tR2Form p = some (fPForm p) := by
  unfold tR2Form fPForm P3.form
  cases h : isF p.m with
  | true => simp only [onO_true (isF_modB h), Bool.true_and]
  | false => rfl
def tR4Form (o : O3) : Option Value := chainO mk1 [(decide (o.t.x < 0), [3]), (decide (o.t.x > 23), [3]), (decide (o.t.y < 0), [3]), (decide (o.t.y > 23), [3]), (decide (o.t.z < 0), [3]), (decide (o.t.z > 23), [3])] [o.r.form]
theorem part1_eq' (x : Int) : part1 x = (!(decide (x < 0)) && !(decide (x > 23))) := by
  unfold part1
  rw [Bool.eq_iff_iff]
  simp only [Bool.and_eq_true, decide_eq_true_eq, Bool.not_eq_true', decide_eq_false_iff_not]
  omega
theorem tR4Form_eq (o : O3) : tR4Form o = some (fOCheck o) := by
  unfold tR4Form fOCheck O3.ck V3.part
  rw [chain_eq, part1_eq', part1_eq', part1_eq']
  cases decide (o.t.x < 0) <;> cases decide (o.t.x > 23) <;> cases decide (o.t.y < 0) <;> cases decide (o.t.y > 23) <;> cases decide (o.t.z < 0) <;> cases decide (o.t.z > 23) <;> rfl
/-- m v + w modulo n. -/
def M3.img (m : M3) (v w : V3) (n : Int) : V3 := (((m.app (v.md n)).w).add (w.md n)).w.md n
def tImage (m : M3) (v w : V3) (n : Int) : Option Value := onO (modB n) (onO (modB n) (onO (modB n) (some (m.img v w n).v)))
theorem tImage_eq {m : M3} {v w : V3} {n : Int} (h : modB n = true) : tImage m v w n = some (m.img v w n).v := by
  unfold tImage; simp only [onO_true h]
theorem md_bd (v : V3) {n : Int} (h : modB n = true) : (v.md n).Bd 1000 := by
  obtain ⟨h0, h1⟩ := modB_iff.1 h
  have := Int.emod_nonneg v.x (show n ≠ 0 by omega)
  have := Int.emod_nonneg v.y (show n ≠ 0 by omega)
  have := Int.emod_nonneg v.z (show n ≠ 0 by omega)
  have := Int.emod_lt_of_pos v.x h0
  have := Int.emod_lt_of_pos v.y h0
  have := Int.emod_lt_of_pos v.z h0
  unfold V3.md V3.Bd
  simp only
  omega
theorem img_eq {m : M3} {v w : V3} {n : Int} (hm : m.ok = true) (h : modB n = true) : m.img v w n = ((m.app v).add w).md n := by
  have h1 := (M3.ok_iff.1 hm).app (md_bd v h)
  have h2 := h1.add (md_bd w h)
  unfold M3.img
  rw [V3.w_eq (h1.mono (by omega)), V3.w_eq (h2.mono (by omega)), V3.md_add_r, ← md_add_md, app_md', md_add_md]
def tDocBehind (a b : O3) : Option Value :=
  match leastN a.r.form b.r.form != 0 with
  | true => some (pOE O3.zero (leastN a.r.form b.r.form))
  | false => match ((a.r.mul b.r).w).ck != 0 with
    | true => some (pOE O3.zero ((a.r.mul b.r).w).ck)
    | false => some (pOE ⟨(a.r.mul b.r).w, a.r.img b.t a.t 24⟩ 0)
theorem mod24 : modB 24 = true := rfl
theorem tDocBehind_eq (a b : O3) : tDocBehind a b = some (fBehind a b) := by
  unfold tDocBehind fBehind O3.behF O3.behE
  by_cases h : leastN a.r.form b.r.form = 0
  · obtain ⟨ha, hb⟩ := leastN_zero.1 h
    obtain ⟨a1, a2⟩ := M3.form_zero.1 ha
    obtain ⟨b1, b2⟩ := M3.form_zero.1 hb
    rw [h, M3.w_eq (((M3.ok_iff.1 a1).mul (M3.ok_iff.1 b1)).mono (by omega)), img_eq a1 mod24]
    unfold O3.small O3.smallE O3.mul M3.ck
    simp only
    cases (a.r.mul b.r).ok <;> rfl
  · rw [(bif_beq h).1, (bif_beq h).2]; rfl
def V3.neg0 (u : V3) : V3 := ⟨W (0 - u.x), W (0 - u.y), W (0 - u.z)⟩
def tDocBack (c : O3) : Option Value :=
  match c.r.form != 0 with
  | true => some (pOE O3.zero c.r.form)
  | false => match c.r.invF.ck != 0 with
    | true => some (pOE O3.zero c.r.invF.ck)
    | false => some (pOE ⟨c.r.invF, ((c.r.invF.app (c.t.md 24)).w.neg0).md 24⟩ 0)
theorem neg0_eq {u : V3} (h : u.Bd 1000000000) : u.neg0 = u.neg := by
  unfold V3.neg0 V3.neg
  unfold V3.Bd at h
  rw [W_in (by omega), W_in (by omega), W_in (by omega)]
  simp only [Int.zero_sub]
theorem tDocBack_eq (c : O3) : tDocBack c = some (fBBack c) := by
  unfold tDocBack fBBack O3.bakF O3.bakE
  by_cases h : c.r.form = 0
  · obtain ⟨c1, c2⟩ := M3.form_zero.1 h
    have hb := ((M3.ok_iff.1 c1).inv c2).app (V3.part_bd (V3.md_part c.t))
    rw [h, invF_form h, V3.w_eq (hb.mono (by omega)), neg0_eq (hb.mono (by omega)), ← neg_md, app_md', neg_md]
    unfold O3.small O3.smallE O3.inv M3.ck
    simp only
    cases c.r.inv.ok <;> rfl
  · rw [(bif_beq h).1, (bif_beq h).2]; rfl
def pt1 (t m : Int) : Int := W (t % 24 * W (Int.tdiv m 24))
def V3.pts (t : V3) (m : Int) : V3 := ⟨pt1 t.x m, pt1 t.y m, pt1 t.z m⟩
def tDocPoint (c : O3) (p : P3) : Option Value :=
  match !p.form with
  | true => some (p2 P3.zero.v (vI 3))
  | false => match c.r.form != 0 with
    | true => some (p2 P3.zero.v (vI c.r.form))
    | false => onO (modB p.m) (some (p2 (P3.v ⟨p.m, c.r.img p.x (c.t.pts p.m) p.m⟩) (vI 0)))
theorem pt1_eq (t : Int) {m : Int} (hm : m = 24 ∨ m = 48 ∨ m = 96 ∨ m = 192) : pt1 t m = m / 24 * (t % 24) := by
  unfold pt1
  rcases hm with rfl | rfl | rfl | rfl
  · rw [show W (Int.tdiv 24 24) = 1 from rfl, W_in (n := t % 24 * 1) (by omega)]; omega
  · rw [show W (Int.tdiv 48 24) = 2 from rfl, W_in (n := t % 24 * 2) (by omega)]; omega
  · rw [show W (Int.tdiv 96 24) = 4 from rfl, W_in (n := t % 24 * 4) (by omega)]; omega
  · rw [show W (Int.tdiv 192 24) = 8 from rfl, W_in (n := t % 24 * 8) (by omega)]; omega
theorem pts_eq (t : V3) {m : Int} (hm : m = 24 ∨ m = 48 ∨ m = 96 ∨ m = 192) : t.pts m = (t.md 24).smul (m / 24) := by
  unfold V3.pts V3.smul V3.md
  rw [pt1_eq _ hm, pt1_eq _ hm, pt1_eq _ hm]
theorem tDocPoint_eq (c : O3) (p : P3) : tDocPoint c p = some (fPoint c p) := by
  unfold tDocPoint fPoint O3.ptF O3.ptE
  cases hp : p.form with
  | false => rfl
  | true =>
    simp only [Bool.not_true, cond_true]
    by_cases h : c.r.form = 0
    · obtain ⟨c1, c2⟩ := M3.form_zero.1 h
      have hm := (P3.form_spec hp).1
      have hmod : modB p.m = true := modB_iff.2 (by omega)
      rw [h, onO_true hmod, img_eq c1 hmod, pts_eq _ hm]
      have := O3.app_md (c := c) hp
      unfold O3.app at this ⊢
      simp only at this
      simp only [bne_self_eq_false, beq_self_eq_true, cond_true]
      rw [this]
    · rw [(bif_beq h).1, (bif_beq h).2]; rfl
def O3.rtold (c o : O3) : O3 :=
  ⟨((c.r.mul o.r).w.mul c.r.inv.w).w, V3.md 24 ⟨W ((c.r.img o.t c.t 24).x - Int.tmod (((c.r.mul o.r).w.mul c.r.inv.w).w.app (c.t.md 24)).w.x 24), W ((c.r.img o.t c.t 24).y - Int.tmod (((c.r.mul o.r).w.mul c.r.inv.w).w.app (c.t.md 24)).w.y 24), W ((c.r.img o.t c.t 24).z - Int.tmod (((c.r.mul o.r).w.mul c.r.inv.w).w.app (c.t.md 24)).w.z 24)⟩⟩
def tTold (c o : O3) : Option Value := some (c.rtold o).v
def fTold (c o : O3) : Value := (c.rtold o).v
theorem tTold_eq (c o : O3) : tTold c o = some (fTold c o) := rfl
theorem tmod24 (a u : Int) (ha : 0 ≤ a ∧ a < 24) : W (a - Int.tmod u 24) % 24 = (a - u) % 24 := by
  have h1 := tmod_bd u 24 (by omega)
  have h2 := Int.tmod_add_mul_tdiv u 24
  rw [W_in (by omega)]
  omega
theorem rtold_eq {c o : O3} (hc : c.r.form = 0) (ho : o.ck = 0) : c.rtold o = c.told o := by
  obtain ⟨c1, c2⟩ := M3.form_zero.1 hc
  obtain ⟨o1, o2, o3⟩ := O3.ck_zero.1 ho
  have h1 := (M3.ok_iff.1 c1).mul (M3.ok_iff.1 o2)
  have h2 := h1.mul ((M3.ok_iff.1 c1).inv c2)
  have h3 := h2.app (V3.part_bd (V3.md_part c.t))
  unfold O3.rtold O3.told
  rw [inv_w hc, M3.w_eq (h1.mono (by omega)), M3.w_eq (h2.mono (by omega)), V3.w_eq (h3.mono (by omega)), img_eq c1 mod24]
  congr 1
  have key := app_md' 24 ((c.r.mul o.r).mul c.r.inv) c.t
  generalize ((c.r.mul o.r).mul c.r.inv).app (c.t.md 24) = u at key ⊢
  generalize ((c.r.mul o.r).mul c.r.inv).app c.t = u' at key ⊢
  generalize (c.r.app o.t).add c.t = s
  unfold V3.md at key
  simp only [V3.mk.injEq] at key
  unfold V3.md V3.add V3.neg
  simp only [V3.mk.injEq]
  rw [tmod24 _ _ (by omega), tmod24 _ _ (by omega), tmod24 _ _ (by omega)]
  omega
def tDocOp (c o : O3) : Option Value :=
  match leastN c.r.form o.ck != 0 with
  | true => some (pOE O3.zero (leastN c.r.form o.ck))
  | false => match (c.rtold o).r.ck != 0 with
    | true => some (pOE O3.zero (c.rtold o).r.ck)
    | false => some (pOE (c.rtold o) 0)
theorem tDocOp_eq (c o : O3) : tDocOp c o = some (fBOp c o) := by
  unfold tDocOp fBOp O3.opcF O3.opcE
  by_cases h : leastN c.r.form o.ck = 0
  · obtain ⟨hc, ho⟩ := leastN_zero.1 h
    rw [h, rtold_eq hc ho]
    unfold O3.small O3.smallE M3.ck
    cases (c.told o).r.ok <;> rfl
  · rw [(bif_beq h).1, (bif_beq h).2]; rfl
theorem tDocIndex_eq (c : O3) (h : V3) : tIndex c h = some (fIndex c h) := tIndex_eq c h
def tTurned (m : G6) (p : M3) : Option Value := some (G6.of ((p.T.mul ((m.mat.mul p).w)).w)).v
def fTurned (m : G6) (p : M3) : Value := (G6.of ((p.T.mul ((m.mat.mul p).w)).w)).v
theorem tTurned_eq (m : G6) (p : M3) : tTurned m p = some (fTurned m p) := rfl
def tDocMetric (c : O3) (m : G6) : Option Value :=
  match m.ck != 0 with
  | true => some (pGE G6.zero m.ck)
  | false => match c.r.form != 0 with
    | true => some (pGE G6.zero c.r.form)
    | false => some (pGE (G6.of ((c.r.invF.T.mul ((m.mat.mul c.r.invF).w)).w)) 0)
theorem tDocMetric_eq (c : O3) (m : G6) : tDocMetric c m = some (fMetric c m) := by
  unfold tDocMetric fMetric O3.metF O3.metE
  by_cases hm : m.ck = 0
  · rw [hm]
    by_cases hc : c.r.form = 0
    · obtain ⟨c1, c2⟩ := M3.form_zero.1 hc
      have hi := (M3.ok_iff.1 c1).inv c2
      have h1 := (G6.mat_bd (G6.ck_zero hm)).mul hi
      have h2 := hi.T.mul h1
      rw [hc, invF_form hc, M3.w_eq (h1.mono (by omega)), M3.w_eq (h2.mono (by omega)), ← M3.mul_assoc]
      rfl
    · simp only [bne_self_eq_false, beq_self_eq_true, cond_true]
      rw [(bif_beq hc).1, (bif_beq hc).2]; rfl
  · rw [(bif_beq hm).1, (bif_beq hm).2]
    simp only [cond_false]
    rw [(bif_beq hm).1]; rfl
end Go.Proofs.Ytofblakbfmjgkaa.Vx


namespace Go.Proofs.Ytofblakbfmjgkaa.Vx
open Go

structure Q2 where
  (num den : Int)
def Q2.v (q : Q2) : Value := .agg #[.int .i64 q.num, .int .i64 q.den]
def Q2.zero : Q2 := ⟨0, 0⟩
def Q2.eqB (p q : Q2) : Bool := (p.num == q.num) && ((p.den == q.den) && true)
theorem Q2.ext' {p q : Q2} (h : p.num = q.num ∧ p.den = q.den) : p = q := by cases p; cases q; simp only [Q2.mk.injEq]; exact h
theorem Q2.eqB_iff {p q : Q2} : p.eqB q = true ↔ p = q := by cases p; cases q; simp [Q2.eqB]
theorem Q2.eqB_refl (p : Q2) : p.eqB p = true := Q2.eqB_iff.2 rfl
def low (a b : Int) : Q2 := ⟨W (a.tdiv (gcdI a b)), W (b.tdiv (gcdI a b))⟩

/-! lowest terms -/
def gn' {α : Type} (b : Bool) (x : Option α) : Option α := match b with
  | true => none
  | false => x
def tLowest (n d : Int) : Option Value := onO (decide (0 ≤ U (mag n)) && decide (0 ≤ U (mag d)))
  (gn' (W (gcdI (U (mag n)) (U (mag d))) == 0) (gn' (W (gcdI (U (mag n)) (U (mag d))) == 0) (some (Q2.v ⟨W (n.tdiv (W (gcdI (U (mag n)) (U (mag d))))), W (d.tdiv (W (gcdI (U (mag n)) (U (mag d)))))⟩))))
def lowB (n d : Int) : Bool := decide (0 ≤ n) && (decide (n ≤ 9000000000000000000) && (decide (0 < d) && decide (d ≤ 9000000000000000000)))
theorem lowB_iff {n d : Int} : lowB n d = true ↔ 0 ≤ n ∧ n ≤ 9000000000000000000 ∧ 0 < d ∧ d ≤ 9000000000000000000 := by simp [lowB]
def fLowest (n d : Int) : Value := (low n d).v
theorem gcdI_le {n d : Int} (hd : 0 < d) : 0 < gcdI n d ∧ gcdI n d ≤ d := by
  unfold gcdI
  have h1 := Nat.gcd_pos_of_pos_right n.toNat (n := d.toNat) (by omega)
  have h2 := Nat.gcd_le_right n.toNat (n := d.toNat) (by omega)
  omega
theorem tLowest_eq {n d : Int} (h : lowB n d = true) : tLowest n d = some (fLowest n d) := by
  obtain ⟨h0, h1, h2, h3⟩ := lowB_iff.1 h
  have e1 : mag n = n := by unfold mag; rw [if_neg (by omega)]
  have e2 : mag d = d := by unfold mag; rw [if_neg (by omega)]
  have hg := gcdI_le (n := n) h2
  unfold tLowest fLowest low
  rw [e1, e2, U_in (by omega), U_in (by omega), W_in (n := gcdI n d) (by omega), show (gcdI n d == 0) = false by simp; omega, decide_eq_true h0, decide_eq_true (Int.le_of_lt h2)]
  rfl

/-! indices -/
def rangeT1 (n : Int) : List Int → List (Bool × List Int)
  | [] => []
  | a :: l => (decide (a < -n), [1]) :: (decide (a > n), [1]) :: rangeT1 n l
theorem range1_eq (n : Int) : ∀ (l : List Int), nth (chainL (rangeT1 n l) [0]) 0 = bif inB n l then 0 else 1
  | [] => rfl
  | a :: l => by
    have ih := range1_eq n l
    unfold inB at ih ⊢
    simp only [rangeT1, List.all_cons]
    by_cases h1 : a < -n
    · have : decide (-n ≤ a) = false := by simp; omega
      simp [chainL, h1, this, nth]
    · by_cases h2 : a > n
      · have : decide (a ≤ n) = false := by simp; omega
        simp [chainL, h1, h2, this, nth]
      · have e1 : decide (-n ≤ a) = true := by simp; omega
        have e2 : decide (a ≤ n) = true := by simp; omega
        simp only [chainL, h1, h2, decide_false, e1, e2, Bool.true_and]
        exact ih
def V3.cki (h : V3) : Int := bif h.idx then 0 else 1
def tCki (h : V3) : Option Value := chainO mk1 (rangeT1 512 h.l) [0]
def fCki (h : V3) : Value := vI h.cki
theorem tCki_eq (h : V3) : tCki h = some (fCki h) := by
  unfold tCki fCki V3.cki V3.idx
  rw [chain_eq, ← range1_eq]; rfl
theorem V3.cki_cases (h : V3) : (h.cki = 0 ∧ h.idx = true) ∨ (h.cki = 1 ∧ h.idx = false) := by unfold V3.cki; cases h.idx <;> simp
theorem V3.idx_iff2 {h : V3} : h.idx = true ↔ h.Bd 512 := by
  unfold V3.idx V3.l V3.Bd
  rw [inB_iff]
  simp only [List.mem_cons, List.not_mem_nil, or_false, forall_eq_or_imp, forall_eq]

/-! adjugates -/
def G6.adj (m : G6) : G6 := ⟨m.bb * m.cc - m.bc * m.bc, m.aa * m.cc - m.ac * m.ac, m.aa * m.bb - m.ab * m.ab, m.ac * m.ab - m.aa * m.bc, m.ab * m.bc - m.bb * m.ac, m.ac * m.bc - m.cc * m.ab⟩
def tGAdj (m : G6) : Option Value := some (G6.v ⟨minR m.bb m.cc m.bc m.bc, minR m.aa m.cc m.ac m.ac, minR m.aa m.bb m.ab m.ab, minR m.ac m.ab m.aa m.bc, minR m.ab m.bc m.bb m.ac, minR m.ac m.bc m.cc m.ab⟩)
def fGAdj (m : G6) : Value := m.adj.w.v
theorem tGAdj_eq (m : G6) : tGAdj m = some (fGAdj m) := by
  unfold tGAdj fGAdj
  simp only [minR_W]; rfl
theorem W_dot (m : G6) (u v : V3) : W (m.w.dot u v) = W (m.dot u v) := by
  have e : ∀ (a b c : Int), W (W a * b * c) = W (a * b * c) := fun a b c => by rw [Int.mul_assoc, W_mull, Int.mul_assoc]
  unfold G6.dot G6.w
  simp only
  exact W_cadd (W_cadd (W_cadd (W_cadd (W_cadd (e _ _ _) (e _ _ _)) (e _ _ _)) (W_mull _ _)) (W_mull _ _)) (W_mull _ _)
theorem W_bil (g : M3) (u v : V3) : W (g.w.bil u v) = W (g.bil u v) := by
  have e : ∀ (a b c : Int), W (a * W b * c) = W (a * b * c) := fun a b c => by
    rw [← W_mull, W_mulr, W_mull]
  unfold M3.bil M3.w
  simp only
  exact W_cadd (W_cadd (W_cadd (W_cadd (W_cadd (W_cadd (W_cadd (W_cadd (e _ _ _) (e _ _ _)) (e _ _ _)) (e _ _ _)) (e _ _ _)) (e _ _ _)) (e _ _ _)) (e _ _ _)) (e _ _ _)
theorem adj_bil (m : G6) (u v : V3) : m.mat.adj.bil u v = m.adj.dot u v := by
  unfold M3.bil M3.adj G6.mat G6.adj G6.dot; simp only; grind
theorem adj_key (m : G6) (h : V3) : m.dot (m.adj.mat.app h) (m.adj.mat.app h) = m.det * m.adj.dot h h := by
  unfold G6.dot G6.adj G6.mat M3.app G6.det; simp only; grind
theorem Pos.adj_nn {m : G6} (hp : m.Pos) (h : V3) : 0 ≤ m.adj.dot h h := by
  have k := hp.nn (m.adj.mat.app h)
  rw [adj_key] at k
  have := hp.det
  by_cases hn : m.adj.dot h h < 0
  · have := Int.mul_neg_of_pos_of_neg this hn
    omega
  · omega
theorem adj_bound {m : G6} (hb : m.Bd) {h : V3} (hh : h.Bd 512) : m.adj.dot h h ≤ 48000000000000000 := by
  have h1 := (G6.mat_bd hb).adj
  have h2 := h1.app hh
  have e : m.adj.dot h h = (m.mat.adj.app h).x * h.x + (m.mat.adj.app h).y * h.y + (m.mat.adj.app h).z * h.z := by
    unfold G6.dot G6.adj G6.mat M3.app M3.adj; simp only; grind
  obtain ⟨x, y, z⟩ := h2
  obtain ⟨x', y', z'⟩ := hh
  have := dot_bd x y z x' y' z'
  rw [e]
  omega

/-! Spacing -/
def G6.spE (m : G6) (h : V3) : Int := bif h.idx then m.mck else 1
def G6.spF (m : G6) (h : V3) : Q2 := bif m.spE h == 0 then low (m.adj.dot h h) m.det else Q2.zero
theorem leastN_sp (m : G6) (h : V3) : leastN h.cki m.mck = m.spE h := by
  unfold G6.spE
  rcases h.cki_cases with ⟨a, b⟩ | ⟨a, b⟩ <;> rcases m.mck_cases with c | c | c <;> rw [a, b, c] <;> rfl
theorem spE_zero {m : G6} {h : V3} (e : m.spE h = 0) : m.mck = 0 ∧ h.idx = true := by
  unfold G6.spE at e
  cases hi : h.idx with
  | false => rw [hi] at e; cases e
  | true => rw [hi] at e; exact ⟨e, rfl⟩
def tSpacing (m : G6) (h : V3) : Option Value := match leastN h.cki m.mck != 0 with
  | true => some (p2 Q2.zero.v (vI (leastN h.cki m.mck)))
  | false => onO (lowB (W (m.adj.w.dot h h)) (W m.det)) (some (p2 (low (W (m.adj.w.dot h h)) (W m.det)).v (vI 0)))
def fSpacing (m : G6) (h : V3) : Value := p2 (m.spF h).v (vI (m.spE h))
theorem sp_vals {m : G6} {h : V3} (e : m.spE h = 0) : W (m.adj.dot h h) = m.adj.dot h h ∧ W m.det = m.det ∧ lowB (m.adj.dot h h) m.det = true := by
  obtain ⟨h1, h2⟩ := spE_zero e
  obtain ⟨hb, hp, _⟩ := G6.mck_zero h1
  have b1 := Pos.adj_nn hp h
  have b2 := adj_bound hb (V3.idx_iff2.1 h2)
  have b3 := hb.det
  have b4 := hp.det
  exact ⟨W_in (by omega), W_in (by omega), lowB_iff.2 ⟨b1, by omega, b4, by omega⟩⟩
theorem tSpacing_eq (m : G6) (h : V3) : tSpacing m h = some (fSpacing m h) := by
  unfold tSpacing fSpacing G6.spF
  rw [leastN_sp]
  by_cases e : m.spE h = 0
  · obtain ⟨a, b, c⟩ := sp_vals e
    rw [W_dot, a, b, c, e]; rfl
  · rw [(bif_beq e).1, (bif_beq e).2]; rfl
/-- The document's. -/
def tRSpacing (m : G6) (h : V3) : Option Value := onO (decide (0 ≤ W (m.mat.adj.w.bil h h)) && decide (0 < W m.det)) (some (low (W (m.mat.adj.w.bil h h)) (W m.det)).v)
def rspB (m : G6) (h : V3) : Bool := m.spE h == 0
def fRSpacing (m : G6) (h : V3) : Value := (low (m.adj.dot h h) m.det).v
theorem tRSpacing_eq {m : G6} {h : V3} (e : rspB m h = true) : tRSpacing m h = some (fRSpacing m h) := by
  obtain ⟨a, b, c⟩ := sp_vals (by simpa [rspB] using e)
  obtain ⟨c0, _, c2, _⟩ := lowB_iff.1 c
  unfold tRSpacing fRSpacing
  rw [W_bil, adj_bil, a, b, decide_eq_true c0, decide_eq_true c2]; rfl
def tDocSpacing (m : G6) (h : V3) : Option Value := orT (rangeT1 512 h.l) (some (p2 Q2.zero.v (vI 1))) (match m.mck != 0 with
  | true => some (p2 Q2.zero.v (vI m.mck))
  | false => onO (rspB m h) (some (p2 (low (m.adj.dot h h) m.det).v (vI 0))))
theorem orT_range1 (n : Int) (a e : Option Value) : ∀ (l : List Int), orT (rangeT1 n l) a e = bif inB n l then e else a
  | [] => rfl
  | x :: l => by
    have ih := orT_range1 n a e l
    unfold inB at ih ⊢
    simp only [rangeT1, List.all_cons]
    by_cases h1 : x < -n
    · have : decide (-n ≤ x) = false := by simp; omega
      simp [orT, h1, this]
    · by_cases h2 : x > n
      · have : decide (x ≤ n) = false := by simp; omega
        simp [orT, h1, h2, this]
      · have e1 : decide (-n ≤ x) = true := by simp; omega
        have e2 : decide (x ≤ n) = true := by simp; omega
        simp only [orT, h1, h2, decide_false, e1, e2, Bool.true_and]
        exact ih
theorem tDocSpacing_eq (m : G6) (h : V3) : tDocSpacing m h = some (fSpacing m h) := by
  unfold tDocSpacing fSpacing G6.spF
  rw [orT_range1]
  show (bif h.idx then _ else _) = _
  cases hi : h.idx with
  | false => unfold G6.spE; rw [hi]; rfl
  | true =>
    have e0 : m.spE h = m.mck := by unfold G6.spE; rw [hi]; rfl
    unfold rspB
    rw [e0]
    by_cases e : m.mck = 0
    · rw [e]; rfl
    · rw [(bif_beq e).1, (bif_beq e).2]; rfl

/-! Ratios -/
def Q2.form (q : Q2) : Bool := decide (q.den > 0) && (gcdI (U (mag q.num)) (U (mag q.den)) == 1)
theorem U_nn (n : Int) : 0 ≤ U n := by rw [U_eq]; omega
def tInForm (q : Q2) : Option Value := match decide (q.den > 0) with
  | true => onO (decide (0 ≤ U (mag q.num)) && decide (0 ≤ U (mag q.den))) (some (.bool (gcdI (U (mag q.num)) (U (mag q.den)) == 1)))
  | false => some (.bool false)
def fInForm (q : Q2) : Value := .bool q.form
theorem tInForm_eq (q : Q2) : tInForm q = some (fInForm q) := by
  unfold tInForm fInForm Q2.form
  rw [decide_eq_true (U_nn _), decide_eq_true (U_nn _)]
  cases decide (q.den > 0) <;> rfl
def cmpI (a b : Int) : Int := bif decide (a < b) then -1 else bif decide (a > b) then 1 else 0
def tCmpI (a b : Int) : Option Value := match decide (a < b) with
  | true => some (vI (-1))
  | false => match decide (a > b) with
    | true => some (vI 1)
    | false => some (vI 0)
def fCmpI (a b : Int) : Value := vI (cmpI a b)
theorem tCmpI_eq (a b : Int) : tCmpI a b = some (fCmpI a b) := by
  unfold tCmpI fCmpI cmpI
  cases decide (a < b) <;> cases decide (a > b) <;> rfl
theorem cmpI_cases (a b : Int) : (a < b ∧ cmpI a b = -1) ∨ (a = b ∧ cmpI a b = 0) ∨ (b < a ∧ cmpI a b = 1) := by
  unfold cmpI
  by_cases h : a < b
  · rw [decide_eq_true h]; exact Or.inl ⟨h, rfl⟩
  · by_cases k : a > b
    · rw [decide_eq_false h, decide_eq_true k]; exact Or.inr (Or.inr ⟨k, rfl⟩)
    · rw [decide_eq_false h, decide_eq_false k]; exact Or.inr (Or.inl ⟨by omega, rfl⟩)
/-- Products in two words. -/
def and32 (x : Int) : Int := U ((BitVec.ofInt 64 x &&& BitVec.ofInt 64 4294967295).toNat : Int)
def shr32 (x : Int) : Int := x.fdiv (2 ^ 32)
theorem shr32_eq (x : Int) : shr32 x = x / 4294967296 := by
  unfold shr32
  rw [Int.fdiv_eq_ediv_of_nonneg _ (by decide)]; rfl
theorem and32_eq {x : Int} (h : 0 ≤ x ∧ x ≤ 18446744073709551615) : and32 x = x % 4294967296 := by
  obtain ⟨n, rfl⟩ : ∃ n : Nat, x = (n : Int) := ⟨x.toNat, by omega⟩
  unfold and32
  rw [BitVec.toNat_and]
  have e1 : (BitVec.ofInt 64 (n : Int)).toNat = n := by
    rw [BitVec.toNat_ofInt]; omega
  have e2 : (BitVec.ofInt 64 4294967295).toNat = 2 ^ 32 - 1 := by decide
  rw [e1, e2, Nat.and_two_pow_sub_one_eq_mod, U_in (by omega)]
  omega
def m64w0 (x y : Int) : Int := U (and32 x * and32 y)
def m64t (x y : Int) : Int := U (U (shr32 x * and32 y) + shr32 (m64w0 x y))
def m64w1 (x y : Int) : Int := U (and32 (m64t x y) + U (and32 x * shr32 y))
def m64hi (x y : Int) : Int := U (U (U (shr32 x * shr32 y) + shr32 (m64t x y)) + shr32 (m64w1 x y))
theorem m64_hi {x y : Int} (hx : 0 ≤ x ∧ x ≤ 18446744073709551615) (hy : 0 ≤ y ∧ y ≤ 18446744073709551615) : m64hi x y = x * y / 18446744073709551616 := by
  have x0 := and32_eq hx
  have y0 := and32_eq hy
  have x1 := shr32_eq x
  have y1 := shr32_eq y
  obtain ⟨a0, ha0⟩ : ∃ a, a = x % 4294967296 := ⟨_, rfl⟩
  obtain ⟨a1, ha1⟩ : ∃ a, a = x / 4294967296 := ⟨_, rfl⟩
  obtain ⟨b0, hb0⟩ : ∃ a, a = y % 4294967296 := ⟨_, rfl⟩
  obtain ⟨b1, hb1⟩ : ∃ a, a = y / 4294967296 := ⟨_, rfl⟩
  have r0 : 0 ≤ a0 ∧ a0 ≤ 4294967295 := by omega
  have r1 : 0 ≤ a1 ∧ a1 ≤ 4294967295 := by omega
  have s0 : 0 ≤ b0 ∧ b0 ≤ 4294967295 := by omega
  have s1 : 0 ≤ b1 ∧ b1 ≤ 4294967295 := by omega
  have ex : x = a1 * 4294967296 + a0 := by omega
  have ey : y = b1 * 4294967296 + b0 := by omega
  have nn : ∀ {a b : Int}, 0 ≤ a ∧ a ≤ 4294967295 → 0 ≤ b ∧ b ≤ 4294967295 → 0 ≤ a * b ∧ a * b ≤ 18446744065119617025 := fun {a b} p q => ⟨Int.mul_nonneg p.1 q.1, by
    have := Int.mul_le_mul p.2 q.2 q.1 (by omega : (0 : Int) ≤ 4294967295)
    omega⟩
  have p := nn r1 s1
  have q := nn r1 s0
  have r := nn r0 s1
  have s := nn r0 s0
  have exy : x * y = a1 * b1 * 18446744073709551616 + a1 * b0 * 4294967296 + a0 * b1 * 4294967296 + a0 * b0 := by rw [ex, ey]; grind
  have t0 : m64w0 x y = a0 * b0 := by unfold m64w0; rw [x0, y0, ← ha0, ← hb0]; exact U_in (by omega)
  have t1 : m64t x y = a1 * b0 + a0 * b0 / 4294967296 := by
    unfold m64t
    rw [t0, x1, y0, ← ha1, ← hb0, shr32_eq, U_in (n := a1 * b0) (by omega)]
    exact U_in (by omega)
  have t2 : m64w1 x y = (a1 * b0 + a0 * b0 / 4294967296) % 4294967296 + a0 * b1 := by
    unfold m64w1
    rw [t1, x0, y1, ← ha0, ← hb1, and32_eq (by omega), U_in (n := a0 * b1) (by omega)]
    exact U_in (by omega)
  unfold m64hi
  rw [t2, t1, x1, y1, ← ha1, ← hb1, shr32_eq, shr32_eq, exy]
  generalize a1 * b1 = P at *
  generalize a1 * b0 = Q at *
  generalize a0 * b1 = R at *
  generalize a0 * b0 = S at *
  clear t0 t1 t2 exy
  rw [U_in (n := P) (by omega), U_in (n := P + _) (by omega), U_in (by omega)]
  omega
def u64B (x : Int) : Bool := decide (0 ≤ x) && decide (x ≤ 18446744073709551615)
theorem u64B_iff {x : Int} : u64B x = true ↔ 0 ≤ x ∧ x ≤ 18446744073709551615 := by simp [u64B]
theorem u64B_U (n : Int) : u64B (U n) = true := u64B_iff.2 (by rw [U_eq]; omega)
/-- Two products held against each other. -/
def cprT (a b c d : Int) : Option Value := onO (u64B a && u64B b) (onO (u64B c && u64B d) (match a * b / 18446744073709551616 != c * d / 18446744073709551616 with
  | true => some (vI (cmpI (a * b / 18446744073709551616) (c * d / 18446744073709551616)))
  | false => some (vI (cmpI (a * b % 18446744073709551616) (c * d % 18446744073709551616)))))
def cprB (a b c d : Int) : Bool := (u64B a && u64B b) && (u64B c && u64B d)
theorem cprT_eq {a b c d : Int} (h : cprB a b c d = true) : cprT a b c d = some (vI (cmpI (a * b) (c * d))) := by
  unfold cprB at h
  rw [Bool.and_eq_true] at h
  unfold cprT
  rw [h.1, h.2]
  simp only [onO]
  generalize a * b = x
  generalize c * d = y
  rcases cmpI_cases x y with ⟨h1, h2⟩ | ⟨h1, h2⟩ | ⟨h1, h2⟩ <;> rw [h2]
  · by_cases e : x / 18446744073709551616 = y / 18446744073709551616
    · rw [show (x / 18446744073709551616 != y / 18446744073709551616) = false by simpa using e]
      rcases cmpI_cases (x % 18446744073709551616) (y % 18446744073709551616) with ⟨k1, k2⟩ | ⟨k1, k2⟩ | ⟨k1, k2⟩
      · rw [k2]
      · omega
      · omega
    · rw [show (x / 18446744073709551616 != y / 18446744073709551616) = true by simpa using e]
      rcases cmpI_cases (x / 18446744073709551616) (y / 18446744073709551616) with ⟨k1, k2⟩ | ⟨k1, k2⟩ | ⟨k1, k2⟩
      · rw [k2]
      · omega
      · omega
  · subst h1
    simp only [bne_self_eq_false]
    rcases cmpI_cases (x % 18446744073709551616) (x % 18446744073709551616) with ⟨k1, k2⟩ | ⟨k1, k2⟩ | ⟨k1, k2⟩
    · omega
    · rw [k2]
    · omega
  · by_cases e : x / 18446744073709551616 = y / 18446744073709551616
    · rw [show (x / 18446744073709551616 != y / 18446744073709551616) = false by simpa using e]
      rcases cmpI_cases (x % 18446744073709551616) (y % 18446744073709551616) with ⟨k1, k2⟩ | ⟨k1, k2⟩ | ⟨k1, k2⟩
      · omega
      · omega
      · rw [k2]
    · rw [show (x / 18446744073709551616 != y / 18446744073709551616) = true by simpa using e]
      rcases cmpI_cases (x / 18446744073709551616) (y / 18446744073709551616) with ⟨k1, k2⟩ | ⟨k1, k2⟩ | ⟨k1, k2⟩
      · omega
      · omega
      · rw [k2]
/-- What comparing answers. -/
def sgnI (n : Int) : Int := cmpI n 0
def Q2.cmp (p q : Q2) : Int := bif cmpI (sgnI p.num) (sgnI q.num) != 0 then cmpI (sgnI p.num) (sgnI q.num) else
  bif decide (p.num < 0) then W (0 - cmpI (U (mag p.num) * U (mag q.den)) (U (mag q.num) * U (mag p.den))) else cmpI (U (mag p.num) * U (mag q.den)) (U (mag q.num) * U (mag p.den))
def Q2.cmpF (p q : Q2) : Int := bif p.form && q.form then p.cmp q else 0
def Q2.cmpE (p q : Q2) : Int := bif p.form && q.form then 0 else 3
def tQCmp (p q : Q2) : Option Value := orB [!p.form, !q.form] (some (p2 (vI 0) (vI 3))) (match cmpI (sgnI p.num) (sgnI q.num) != 0 with
  | true => some (p2 (vI (cmpI (sgnI p.num) (sgnI q.num))) (vI 0))
  | false => onO (cprB (U (mag p.num)) (U (mag q.den)) (U (mag q.num)) (U (mag p.den))) (match decide (p.num < 0) with
    | true => some (p2 (vI (W (0 - cmpI (U (mag p.num) * U (mag q.den)) (U (mag q.num) * U (mag p.den))))) (vI 0))
    | false => some (p2 (vI (cmpI (U (mag p.num) * U (mag q.den)) (U (mag q.num) * U (mag p.den)))) (vI 0))))
def fQCmp (p q : Q2) : Value := p2 (vI (p.cmpF q)) (vI (p.cmpE q))
theorem tQCmp_eq (p q : Q2) : tQCmp p q = some (fQCmp p q) := by
  unfold tQCmp fQCmp Q2.cmpF Q2.cmpE Q2.cmp cprB
  rw [u64B_U, u64B_U, u64B_U, u64B_U]
  cases p.form <;> cases q.form <;> first | rfl | (cases cmpI (sgnI p.num) (sgnI q.num) != 0 <;> cases decide (p.num < 0) <;> rfl)
end Go.Proofs.Ytofblakbfmjgkaa.Vx


namespace Go.Proofs.Ytofblakbfmjgkaa.Vx
open Go
def tSizeU (n : Int) : Option Value := match decide (n < 0) with
  | true => some (vU (U (U (W (0 - W (n + 1))) + 1)))
  | false => some (vU (U n))
theorem tSizeU_eq (n : Int) : tSizeU n = some (fMag n) := by
  unfold tSizeU fMag mag
  by_cases h : n < 0
  · rw [decide_eq_true h, if_pos h]
    simp only [U_eq, W_eq]
    rw [show (((0 - ((n + 1 + 9223372036854775808) % 18446744073709551616 - 9223372036854775808) + 9223372036854775808) % 18446744073709551616 - 9223372036854775808) % 18446744073709551616 + 1) % 18446744073709551616 = -n % 18446744073709551616 by omega]
  · rw [decide_eq_false h, if_neg h]
def tSgnI (n : Int) : Option Value := match decide (n < 0) with
  | true => some (vI (-1))
  | false => match decide (n > 0) with
    | true => some (vI 1)
    | false => some (vI 0)
def fSgnI (n : Int) : Value := vI (sgnI n)
theorem tSgnI_eq (n : Int) : tSgnI n = some (fSgnI n) := tCmpI_eq n 0
/-- The document's products. -/
def prdK (h l i k : Int) : Option Value := match decide (h < i) with
  | true => some (vI (-1))
  | false => match h == i with
    | true => match decide (l < k) with
      | true => some (vI (-1))
      | false => match decide (h > i) with
        | true => some (vI 1)
        | false => match decide (l > k) with
          | true => some (vI 1)
          | false => some (vI 0)
    | false => match decide (h > i) with
      | true => some (vI 1)
      | false => match decide (l > k) with
        | true => some (vI 1)
        | false => some (vI 0)
def prdT (a b c d : Int) : Option Value := onO (u64B a && u64B b) (onO (u64B c && u64B d) (prdK (a * b / 18446744073709551616) (a * b % 18446744073709551616) (c * d / 18446744073709551616) (c * d % 18446744073709551616)))
theorem prdT_eq {a b c d : Int} (h : cprB a b c d = true) : prdT a b c d = some (vI (cmpI (a * b) (c * d))) := by
  unfold cprB at h
  rw [Bool.and_eq_true] at h
  unfold prdT
  rw [h.1, h.2]
  simp only [onO]
  generalize a * b = x
  generalize c * d = y
  unfold prdK cmpI
  by_cases h1 : x / 18446744073709551616 < y / 18446744073709551616
  · rw [decide_eq_true h1, decide_eq_true (show x < y by omega)]; rfl
  · rw [decide_eq_false h1]
    by_cases h2 : x / 18446744073709551616 = y / 18446744073709551616
    · rw [show (x / 18446744073709551616 == y / 18446744073709551616) = true by simpa using h2, decide_eq_false (show ¬ x / 18446744073709551616 > y / 18446744073709551616 by omega)]
      by_cases h3 : x % 18446744073709551616 < y % 18446744073709551616
      · rw [decide_eq_true h3, decide_eq_true (show x < y by omega)]; rfl
      · rw [decide_eq_false h3, decide_eq_false (show ¬ x < y by omega)]
        by_cases h4 : x % 18446744073709551616 > y % 18446744073709551616
        · rw [decide_eq_true h4, decide_eq_true (show x > y by omega)]; rfl
        · rw [decide_eq_false h4, decide_eq_false (show ¬ x > y by omega)]; rfl
    · rw [show (x / 18446744073709551616 == y / 18446744073709551616) = false by simpa using h2, decide_eq_true (show x / 18446744073709551616 > y / 18446744073709551616 by omega), decide_eq_false (show ¬ x < y by omega), decide_eq_true (show x > y by omega)]; rfl
/-- The document's form. -/
def ifT {α : Type} (n d : Int) (a e : Option α) : Option α := match decide (d ≤ 0) with
  | true => a
  | false => match n == 0 with
    | true => match d != 1 with
      | true => a
      | false => e
    | false => e
theorem form_cases (n d : Int) (hd : d ≤ 9223372036854775807) : ((∀ {α : Type} (a e : Option α), ifT n d a e = a) ∧ Q2.form ⟨n, d⟩ = false) ∨ ((∀ {α : Type} (a e : Option α), ifT n d a e = e) ∧ Q2.form ⟨n, d⟩ = (gcdI (U (mag n)) (U d) == 1)) := by
  unfold ifT Q2.form
  simp only
  by_cases h1 : d ≤ 0
  · left
    rw [decide_eq_true h1, decide_eq_false (show ¬ d > 0 by omega)]
    exact ⟨fun _ _ => rfl, rfl⟩
  · have em : mag d = d := by unfold mag; rw [if_neg (by omega)]
    rw [decide_eq_false h1, decide_eq_true (show d > 0 by omega), em]
    by_cases h2 : n = 0
    · subst h2
      have e0 : gcdI (U (mag 0)) (U d) = d := by
        rw [show mag 0 = 0 from rfl, U_in (n := 0) (by omega), U_in (n := d) (by omega)]
        unfold gcdI
        simp
        omega
      by_cases h3 : d = 1
      · right
        rw [h3]
        exact ⟨fun _ _ => rfl, by simp⟩
      · left
        rw [e0, show (d != 1) = true by simpa using h3, show (d == 1) = false by simpa using h3]
        exact ⟨fun _ _ => rfl, rfl⟩
    · right
      rw [show (n == 0) = false by simpa using h2]
      exact ⟨fun _ _ => rfl, by simp⟩
def denB (p q : Q2) : Bool := decide (0 < p.den) && decide (0 < q.den)
def tRCmp (p q : Q2) : Option Value := match sgnI p.num != sgnI q.num with
  | true => match decide (sgnI p.num < sgnI q.num) with
    | true => some (vI (-1))
    | false => some (vI 1)
  | false => onO (cprB (U (mag p.num)) (U q.den) (U (mag q.num)) (U p.den)) (some (vI (W (sgnI p.num * cmpI (U (mag p.num) * U q.den) (U (mag q.num) * U p.den)))))
theorem tRCmp_eq {p q : Q2} (h : denB p q = true) : tRCmp p q = some (vI (p.cmp q)) := by
  unfold denB at h
  rw [Bool.and_eq_true, decide_eq_true_eq, decide_eq_true_eq] at h
  have ep : mag p.den = p.den := by unfold mag; rw [if_neg (by omega)]
  have eq : mag q.den = q.den := by unfold mag; rw [if_neg (by omega)]
  unfold tRCmp Q2.cmp cprB
  rw [ep, eq, u64B_U, u64B_U, u64B_U, u64B_U]
  have hp := cmpI_cases p.num 0
  have hq := cmpI_cases q.num 0
  unfold sgnI
  generalize hX : U (mag p.num) * U q.den = X
  generalize hY : U (mag q.num) * U p.den = Y
  have hxy := cmpI_cases X Y
  rcases hp with ⟨p1, p2⟩ | ⟨p1, p2⟩ | ⟨p1, p2⟩ <;> rcases hq with ⟨q1, q2⟩ | ⟨q1, q2⟩ | ⟨q1, q2⟩ <;> rw [p2, q2] <;> try rfl
  · rw [decide_eq_true p1]
    rcases hxy with ⟨_, e⟩ | ⟨_, e⟩ | ⟨_, e⟩ <;> rw [e] <;> rfl
  · rw [p1, show mag 0 = 0 from rfl, show U 0 = 0 from rfl, Int.zero_mul] at hX
    rw [q1, show mag 0 = 0 from rfl, show U 0 = 0 from rfl, Int.zero_mul] at hY
    subst hX; subst hY
    rw [p1]; rfl
  · rw [decide_eq_false (show ¬ p.num < 0 by omega)]
    rcases hxy with ⟨_, e⟩ | ⟨_, e⟩ | ⟨_, e⟩ <;> rw [e] <;> rfl
def max1 (q : Q2) : Bool := decide (q.den ≤ 9223372036854775807)
def rngQ (p q : Q2) : Bool := max1 p && max1 q
def tDocCmp (p q : Q2) : Option Value := onO (max1 p) (match !p.form with
  | true => some (p2 (vI 0) (vI 3))
  | false => onO (max1 q) (match !q.form with
    | true => some (p2 (vI 0) (vI 3))
    | false => onO (denB p q) (some (p2 (vI (p.cmp q)) (vI 0)))))
theorem tDocCmp_eq {p q : Q2} (h : rngQ p q = true) : tDocCmp p q = some (fQCmp p q) := by
  unfold rngQ at h
  rw [Bool.and_eq_true] at h
  unfold tDocCmp fQCmp Q2.cmpF Q2.cmpE denB
  rw [h.1, h.2]
  cases hp : p.form with
  | false => rfl
  | true => cases hq : q.form with
    | false => rfl
    | true =>
      unfold Q2.form at hp hq
      rw [Bool.and_eq_true] at hp hq
      rw [show decide (0 < p.den) = true from hp.1, show decide (0 < q.den) = true from hq.1]; rfl
end Go.Proofs.Ytofblakbfmjgkaa.Vx


namespace Go.Proofs.Ytofblakbfmjgkaa.Vx
open Go

def lexI : List Int → List Int → Int
  | a :: l, b :: m => if a < b then -1 else if a > b then 1 else lexI l m
  | _, _ => 0
def O3.l (o : O3) : List Int := [o.r.a, o.r.b, o.r.c, o.r.d, o.r.e, o.r.f, o.r.g, o.r.h, o.r.i, o.t.x, o.t.y, o.t.z]
theorem lexI_cases : ∀ (l m : List Int), lexI l m = -1 ∨ lexI l m = 0 ∨ lexI l m = 1
  | [], _ => Or.inr (Or.inl (by simp [lexI]))
  | _ :: _, [] => Or.inr (Or.inl (by simp [lexI]))
  | a :: l, b :: m => by
    simp only [lexI]
    split
    · exact Or.inl rfl
    · split
      · exact Or.inr (Or.inr rfl)
      · exact lexI_cases l m
theorem lexI_neg : ∀ (l m : List Int), lexI m l = -lexI l m
  | [], [] => rfl
  | [], _ :: _ => rfl
  | _ :: _, [] => rfl
  | a :: l, b :: m => by
    simp only [lexI]
    by_cases h1 : a < b
    · rw [if_pos h1, if_neg (by omega), if_pos (by omega)]; rfl
    · by_cases h2 : a > b
      · rw [if_pos (by omega), if_neg h1, if_pos h2]
      · rw [if_neg (by omega), if_neg (by omega), if_neg h1, if_neg h2]; exact lexI_neg l m
theorem lexI_zero : ∀ {l m : List Int}, l.length = m.length → (lexI l m = 0 ↔ l = m)
  | [], [], _ => by simp [lexI]
  | [], _ :: _, h => by simp at h
  | _ :: _, [], h => by simp at h
  | a :: l, b :: m, h => by
    simp only [lexI, List.cons.injEq]
    have ih := lexI_zero (l := l) (m := m) (by simpa using h)
    by_cases h1 : a < b
    · rw [if_pos h1]; constructor
      · intro h; omega
      · intro h; omega
    · by_cases h2 : a > b
      · rw [if_neg h1, if_pos h2]; constructor
        · intro h; omega
        · intro h; omega
      · rw [if_neg h1, if_neg h2, ih]
        constructor
        · intro h; exact ⟨by omega, h⟩
        · intro h; exact h.2
theorem lexI_trans : ∀ {l m n : List Int}, l.length = m.length → m.length = n.length → lexI l m ≤ 0 → lexI m n ≤ 0 → lexI l n ≤ 0
  | [], _, _, _, _, _, _ => by simp [lexI]
  | _ :: _, [], _, h, _, _, _ => by simp at h
  | _ :: _, _ :: _, [], _, h, _, _ => by simp at h
  | a :: l, b :: m, c :: n, h1, h2, h3, h4 => by
    simp only [lexI] at h3 h4 ⊢
    split at h3
    · split at h4
      · rw [if_pos (by omega)]; omega
      · split at h4
        · omega
        · rw [if_pos (by omega)]; omega
    · split at h3
      · omega
      · split at h4
        · rw [if_pos (by omega)]; omega
        · split at h4
          · omega
          · rw [if_neg (by omega), if_neg (by omega)]
            exact lexI_trans (by simpa using h1) (by simpa using h2) h3 h4
theorem comp_lex : ∀ (l m : List Int), l.length = m.length → nth (chainL (compT l m) [0]) 0 = lexI l m
  | [], [], _ => rfl
  | [], _ :: _, h => by simp at h
  | _ :: _, [], h => by simp at h
  | a :: l, b :: m, h => by
    have ih := comp_lex l m (by simpa using h)
    simp only [compT, lexI]
    have hc : cmpR a b = if a < b then -1 else if a > b then 1 else 0 := by
      unfold cmpR cmpT
      by_cases h1 : a < b
      · simp [chainL, h1, nth]
      · by_cases h2 : a > b
        · simp [chainL, h1, h2, nth]
        · simp [chainL, h1, h2, nth]
    rw [hc]
    by_cases h1 : a < b
    · simp [h1, chainL, nth]
    · by_cases h2 : a > b
      · simp [h1, h2, chainL, nth]
      · simp only [h1, h2, if_false, bne_self_eq_false, chainL]; exact ih
theorem dcomp_lex : ∀ (l m : List Int), l.length = m.length → nth (chainL (dcompT l m) [0]) 0 = lexI l m
  | [], [], _ => rfl
  | [], _ :: _, h => by simp at h
  | _ :: _, [], h => by simp at h
  | a :: l, b :: m, h => by
    have ih := dcomp_lex l m (by simpa using h)
    simp only [dcompT, lexI]
    by_cases h1 : a < b
    · simp [h1, chainL, nth]
    · by_cases h2 : a > b
      · simp [h1, h2, chainL, nth]
      · simp only [h1, h2, decide_false, if_false, chainL]; exact ih
theorem lexI_append : ∀ (l m l' m' : List Int), l.length = m.length → lexI (l ++ l') (m ++ m') = if lexI l m ≠ 0 then lexI l m else lexI l' m'
  | [], [], _, _, _ => by simp [lexI]
  | [], _ :: _, _, _, h => by simp at h
  | _ :: _, [], _, _, h => by simp at h
  | a :: l, b :: m, l', m', h => by
    simp only [List.cons_append, lexI]
    split
    · simp
    · split
      · simp
      · exact lexI_append l m l' m' (by simpa using h)
def tCmp (a b : Int) : Option Value := chainO mk1 (cmpT a b) [0]
def fCmp (a b : Int) : Value := vI (cmpR a b)
theorem tCmp_eq (a b : Int) : tCmp a b = some (fCmp a b) := by unfold tCmp fCmp; rw [chain_eq]; rfl
def tNaN (a : Int) : Option Value := some (.bool (a != a))
def fNaN (_ : Int) : Value := .bool false
theorem tNaN_eq (a : Int) : tNaN a = some (fNaN a) := by unfold tNaN fNaN; rw [bne_self_eq_false]
def tVCompare (a b : M3) : Option Value := chainO mk1 (compT a.l b.l) [0]
def fVCompare (a b : M3) : Value := vI (lexI a.l b.l)
theorem tVCompare_eq (a b : M3) : tVCompare a b = some (fVCompare a b) := by
  unfold tVCompare fVCompare
  rw [chain_eq, ← comp_lex a.l b.l rfl]; rfl
def tOCompare (a b : O3) : Option Value := match lexI a.r.l b.r.l != 0 with
  | true => some (vI (lexI a.r.l b.r.l))
  | false => chainO mk1 (compT a.t.l b.t.l) [0]
def fOCompare (a b : O3) : Value := vI (lexI a.l b.l)
theorem tOCompare_eq (a b : O3) : tOCompare a b = some (fOCompare a b) := by
  unfold tOCompare fOCompare
  have e : lexI a.l b.l = if lexI a.r.l b.r.l ≠ 0 then lexI a.r.l b.r.l else lexI a.t.l b.t.l := lexI_append a.r.l b.r.l a.t.l b.t.l rfl
  rw [e]
  by_cases h : lexI a.r.l b.r.l = 0
  · rw [h]
    simp only [bne_self_eq_false, ne_eq, not_true_eq_false, if_false]
    rw [chain_eq, ← comp_lex a.t.l b.t.l rfl]; rfl
  · rw [(bif_beq h).2, if_pos h]
def tRCompare (a b : O3) : Option Value := chainO mk1 (dcompT a.l b.l) [0]
theorem tRCompare_eq (a b : O3) : tRCompare a b = some (fOCompare a b) := by
  unfold tRCompare fOCompare
  rw [chain_eq, ← dcomp_lex a.l b.l rfl]; rfl
theorem O3.l_inj {a b : O3} (h : a.l = b.l) : a = b := by
  obtain ⟨⟨_, _, _, _, _, _, _, _, _⟩, ⟨_, _, _⟩⟩ := a
  obtain ⟨⟨_, _, _, _, _, _, _, _, _⟩, ⟨_, _, _⟩⟩ := b
  simp [O3.l] at h
  simp [h]
/-! The statement's tests, in its order -/
def tOpCompares (a b c : O3) : Option Value :=
  guardF [lexI a.l b.l != lexI a.l b.l, lexI b.l c.l != lexI b.l c.l, lexI a.l c.l != lexI a.l c.l, lexI b.l a.l != W (0 - lexI a.l b.l), (lexI a.l b.l == 0) != a.eqB b]
    (match decide (lexI a.l b.l > 0) with
      | true => some (.bool true)
      | false => match decide (lexI b.l c.l > 0) with
        | true => some (.bool true)
        | false => some (.bool (decide (lexI a.l c.l ≤ 0))))
theorem tOpCompares_true (a b c : O3) : tOpCompares a b c = some (.bool true) := by
  unfold tOpCompares
  rw [guardF_eq]
  · by_cases h1 : lexI a.l b.l > 0
    · simp [h1]
    · by_cases h2 : lexI b.l c.l > 0
      · simp [h1, h2]
      · have := lexI_trans (l := a.l) (m := b.l) (n := c.l) rfl rfl (by omega) (by omega)
        simp [h1, h2, this]
  · intro t ht
    simp only [List.mem_cons, List.not_mem_nil, or_false] at ht
    rcases ht with rfl | rfl | rfl | rfl | rfl
    · simp
    · simp
    · simp
    · have := lexI_cases a.l b.l
      rw [W_in (by omega), lexI_neg a.l b.l]
      simp
    · have : (lexI a.l b.l == 0) = a.eqB b := beq_of_iff (by
        rw [beq_iff_eq, O3.eqB_iff, lexI_zero (l := a.l) (m := b.l) rfl]
        exact ⟨O3.l_inj, fun h => by rw [h]⟩)
      rw [this]; simp
end Go.Proofs.Ytofblakbfmjgkaa.Vx


namespace Go.Proofs.Ytofblakbfmjgkaa
open Go Vx

def Cs0 (P : Program) : Cx := Cg3 P
theorem oks0 : CxOk (Cs0 Try.prog) := okg3
/-- cell.lowest -/
theorem es1 (a b : Int) : exFun ((Cs0 Try.prog).at 75) 60 Try.f75 (pack [none, none] [a, b]) = tLowest a b := by kernel_rfl
def Fs_75 : List Int → Option (Bool × Value)
  | [a, b] => some (lowB a b, fLowest a b)
  | _ => none
def Cs1 (P : Program) : Cx := (Cs0 P).addD 75 [none, none] Fs_75
theorem oks1 : CxOk (Cs1 Try.prog) := Cx.addD_ok oks0 (n := 60) Try.func75 (by kernel_rfl) fun l v hl h => by
  match l, hl, h with
  | [a, b], _, hh => simp only [Fs_75, Option.some.injEq, Prod.mk.injEq] at hh; rw [es1, tLowest_eq hh.1, hh.2]
/-- cell.checkIndex -/
theorem es2 (a0 a1 a2 : Int) : exFun ((Cs1 Try.prog).at 74) 60 Try.f74 (pack [some 3] [a0, a1, a2]) = tCki ⟨a0, a1, a2⟩ := by kernel_rfl
def Fs_74 : List Int → Option Value
  | [a0, a1, a2] => some (fCki ⟨a0, a1, a2⟩)
  | _ => none
def Cs2 (P : Program) : Cx := (Cs1 P).add 74 [some 3] Fs_74
theorem oks2 : CxOk (Cs2 Try.prog) := Cx.add_ok oks1 (n := 60) Try.func74 (by kernel_rfl) fun l v hl h => by
  match l, hl, h with
  | [a0, a1, a2], _, hh => rw [es2, tCki_eq]; exact hh
/-- cell.adjugate -/
theorem es3 (a0 a1 a2 a3 a4 a5 : Int) : exFun ((Cs2 Try.prog).at 76) 60 Try.f76 (pack [some 6] [a0, a1, a2, a3, a4, a5]) = tGAdj ⟨a0, a1, a2, a3, a4, a5⟩ := by kernel_rfl
def Fs_76 : List Int → Option Value
  | [a0, a1, a2, a3, a4, a5] => some (fGAdj ⟨a0, a1, a2, a3, a4, a5⟩)
  | _ => none
def Cs3 (P : Program) : Cx := (Cs2 P).add 76 [some 6] Fs_76
theorem oks3 : CxOk (Cs3 Try.prog) := Cx.add_ok oks2 (n := 60) Try.func76 (by kernel_rfl) fun l v hl h => by
  match l, hl, h with
  | [a0, a1, a2, a3, a4, a5], _, hh => rw [es3, tGAdj_eq]; exact hh
/-- cell.Spacing -/
theorem es4 (a0 a1 a2 a3 a4 a5 b0 b1 b2 : Int) : exFun ((Cs3 Try.prog).at 26) 60 Try.f26 (pack [some 6, some 3] [a0, a1, a2, a3, a4, a5, b0, b1, b2]) = tSpacing ⟨a0, a1, a2, a3, a4, a5⟩ ⟨b0, b1, b2⟩ := by kernel_rfl
def Fs_26 : List Int → Option Value
  | [a0, a1, a2, a3, a4, a5, b0, b1, b2] => some (fSpacing ⟨a0, a1, a2, a3, a4, a5⟩ ⟨b0, b1, b2⟩)
  | _ => none
def Cs4 (P : Program) : Cx := (Cs3 P).add 26 [some 6, some 3] Fs_26
theorem oks4 : CxOk (Cs4 Try.prog) := Cx.add_ok oks3 (n := 60) Try.func26 (by kernel_rfl) fun l v hl h => by
  match l, hl, h with
  | [a0, a1, a2, a3, a4, a5, b0, b1, b2], _, hh => rw [es4, tSpacing_eq]; exact hh
/-- facetref11.Adjugate -/
theorem es5 (a0 a1 a2 a3 a4 a5 a6 a7 a8 : Int) : exFun ((Cs4 Try.prog).at 118) 60 Try.f118 (pack [some 9] [a0, a1, a2, a3, a4, a5, a6, a7, a8]) = tR1Adj ⟨a0, a1, a2, a3, a4, a5, a6, a7, a8⟩ := by kernel_rfl
def Fs_118 : List Int → Option Value
  | [a0, a1, a2, a3, a4, a5, a6, a7, a8] => some (fR1Adj ⟨a0, a1, a2, a3, a4, a5, a6, a7, a8⟩)
  | _ => none
def Cs5 (P : Program) : Cx := (Cs4 P).add 118 [some 9] Fs_118
theorem oks5 : CxOk (Cs5 Try.prog) := Cx.add_ok oks4 (n := 60) Try.func118 (by kernel_rfl) fun l v hl h => by
  match l, hl, h with
  | [a0, a1, a2, a3, a4, a5, a6, a7, a8], _, hh => rw [es5, tR1Adj_eq]; exact hh
/-- facetref11.Spacing -/
theorem es6 (a0 a1 a2 a3 a4 a5 b0 b1 b2 : Int) : exFun ((Cs5 Try.prog).at 77) 60 Try.f77 (pack [some 6, some 3] [a0, a1, a2, a3, a4, a5, b0, b1, b2]) = tRSpacing ⟨a0, a1, a2, a3, a4, a5⟩ ⟨b0, b1, b2⟩ := by kernel_rfl
def Fs_77 : List Int → Option (Bool × Value)
  | [a0, a1, a2, a3, a4, a5, b0, b1, b2] => some (rspB ⟨a0, a1, a2, a3, a4, a5⟩ ⟨b0, b1, b2⟩, fRSpacing ⟨a0, a1, a2, a3, a4, a5⟩ ⟨b0, b1, b2⟩)
  | _ => none
def Cs6 (P : Program) : Cx := (Cs5 P).addD 77 [some 6, some 3] Fs_77
theorem oks6 : CxOk (Cs6 Try.prog) := Cx.addD_ok oks5 (n := 60) Try.func77 (by kernel_rfl) fun l v hl h => by
  match l, hl, h with
  | [a0, a1, a2, a3, a4, a5, b0, b1, b2], _, hh => simp only [Fs_77, Option.some.injEq, Prod.mk.injEq] at hh; rw [es6, tRSpacing_eq hh.1, hh.2]
/-- facetref11.DocSpacing -/
theorem es7 (a0 a1 a2 a3 a4 a5 b0 b1 b2 : Int) : exFun ((Cs6 Try.prog).at 27) 60 Try.f27 (pack [some 6, some 3] [a0, a1, a2, a3, a4, a5, b0, b1, b2]) = tDocSpacing ⟨a0, a1, a2, a3, a4, a5⟩ ⟨b0, b1, b2⟩ := by kernel_rfl
def Fs_27 : List Int → Option Value
  | [a0, a1, a2, a3, a4, a5, b0, b1, b2] => some (fSpacing ⟨a0, a1, a2, a3, a4, a5⟩ ⟨b0, b1, b2⟩)
  | _ => none
def Cs7 (P : Program) : Cx := (Cs6 P).add 27 [some 6, some 3] Fs_27
theorem oks7 : CxOk (Cs7 Try.prog) := Cx.add_ok oks6 (n := 60) Try.func27 (by kernel_rfl) fun l v hl h => by
  match l, hl, h with
  | [a0, a1, a2, a3, a4, a5, b0, b1, b2], _, hh => rw [es7, tDocSpacing_eq]; exact hh
/-- cell.inForm -/
theorem es8 (a0 a1 : Int) : exFun ((Cs7 Try.prog).at 82) 60 Try.f82 (pack [some 2] [a0, a1]) = tInForm ⟨a0, a1⟩ := by kernel_rfl
def Fs_82 : List Int → Option Value
  | [a0, a1] => some (fInForm ⟨a0, a1⟩)
  | _ => none
def Cs8 (P : Program) : Cx := (Cs7 P).add 82 [some 2] Fs_82
theorem oks8 : CxOk (Cs8 Try.prog) := Cx.add_ok oks7 (n := 60) Try.func82 (by kernel_rfl) fun l v hl h => by
  match l, hl, h with
  | [a0, a1], _, hh => rw [es8, tInForm_eq]; exact hh
/-- cmp.isNaN[int] -/
theorem es9 (a : Int) : exFun ((Cs8 Try.prog).at 121) 60 Try.f121 (pack [none] [a]) = tNaN a := by kernel_rfl
def Fs_121 : List Int → Option Value
  | [a] => some (fNaN a)
  | _ => none
def Cs9 (P : Program) : Cx := (Cs8 P).add 121 [none] Fs_121
theorem oks9 : CxOk (Cs9 Try.prog) := Cx.add_ok oks8 (n := 60) Try.func121 (by kernel_rfl) fun l v hl h => by
  match l, hl, h with
  | [a], _, hh => rw [es9, tNaN_eq]; exact hh
/-- cmp.Compare[int] -/
theorem es10 (a b : Int) : exFun ((Cs9 Try.prog).at 83) 60 Try.f83 (pack [none, none] [a, b]) = tCmpI a b := by kernel_rfl
def Fs_83 : List Int → Option Value
  | [a, b] => some (fCmpI a b)
  | _ => none
def Cs10 (P : Program) : Cx := (Cs9 P).add 83 [none, none] Fs_83
theorem oks10 : CxOk (Cs10 Try.prog) := Cx.add_ok oks9 (n := 60) Try.func83 (by kernel_rfl) fun l v hl h => by
  match l, hl, h with
  | [a, b], _, hh => rw [es10, tCmpI_eq]; exact hh
/-- facetref11.size -/
theorem es11 (a : Int) : exFun ((Cs10 Try.prog).at 124) 60 Try.f124 (pack [none] [a]) = tSizeU a := by kernel_rfl
def Fs_124 : List Int → Option Value
  | [a] => some (fMag a)
  | _ => none
def Cs11 (P : Program) : Cx := (Cs10 P).add 124 [none] Fs_124
theorem oks11 : CxOk (Cs11 Try.prog) := Cx.add_ok oks10 (n := 60) Try.func124 (by kernel_rfl) fun l v hl h => by
  match l, hl, h with
  | [a], _, hh => rw [es11, tSizeU_eq]; exact hh
/-- facetref11.sign -/
theorem es12 (a : Int) : exFun ((Cs11 Try.prog).at 125) 60 Try.f125 (pack [none] [a]) = tSgnI a := by kernel_rfl
def Fs_125 : List Int → Option Value
  | [a] => some (fSgnI a)
  | _ => none
def Cs12 (P : Program) : Cx := (Cs11 P).add 125 [none] Fs_125
theorem oks12 : CxOk (Cs12 Try.prog) := Cx.add_ok oks11 (n := 60) Try.func125 (by kernel_rfl) fun l v hl h => by
  match l, hl, h with
  | [a], _, hh => rw [es12, tSgnI_eq]; exact hh

def CCs (P : Program) : Cx := Cs12 P
theorem okCs : CxOk (CCs Try.prog) := oks12

end Go.Proofs.Ytofblakbfmjgkaa
