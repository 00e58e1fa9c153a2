/-
  Whole numbers alone: residues, places. No program in sight. Nothing here is trusted.
-/
import Derived.Test.YtklmanmeedfjpacFracS
namespace Go.Proofs.Ytklmanmeedfjpac.Vx
open Go

/-- The first test that holds answers false. -/
def guardF : List Bool → Option Value → Option Value
  | [], k => k
  | t :: ts, k => match t with
    | true => some (.bool false)
    | false => guardF ts k
/-- All of these. -/
def andO : List Bool → Option Value
  | [] => some (.bool true)
  | [b] => some (.bool b)
  | b :: bs => match b with
    | true => andO bs
    | false => some (.bool false)
theorem guardF_eq : ∀ (ts : List Bool) (k : Option Value), (∀ t ∈ ts, t = false) → guardF ts k = k
  | [], _, _ => rfl
  | t :: ts, k, h => by
    have := h t (by simp)
    subst this
    exact guardF_eq ts k fun u hu => h u (by simp [hu])
theorem andO_eq : ∀ (ts : List Bool), (∀ t ∈ ts, t = true) → andO ts = some (.bool true)
  | [], _ => rfl
  | [b], h => by have := h b (by simp); subst this; rfl
  | b :: c :: bs, h => by
    have := h b (by simp)
    subst this
    exact andO_eq (c :: bs) fun u hu => h u (by simp [hu])

theorem md_emod (n m : Int) (h0 : 0 < m) (h1 : m ≤ 1000) : md n m = n % m := by
  have hb : 0 ≤ n % m ∧ n % m < m := ⟨Int.emod_nonneg _ (by omega), Int.emod_lt_of_pos _ h0⟩
  have ht : Int.tmod n m = n % m ∨ (Int.tmod n m = n % m - m ∧ n % m ≠ 0) := by
    rw [Int.tmod_eq_emod]
    split
    · left; omega
    · rename_i hc
      right
      have hd : ¬ m ∣ n := fun hd => hc (Or.inr hd)
      refine ⟨by omega, fun hz => hd (Int.dvd_of_emod_eq_zero hz)⟩
  unfold md
  rcases ht with ht | ⟨ht, hz⟩
  · rw [ht]
    have : decide (n % m < 0) = false := by simp; omega
    rw [this]
  · rw [ht]
    have : decide (n % m - m < 0) = true := by simp; omega
    rw [this]
    simp only
    rw [show n % m - m + m = n % m by omega]
    exact W_id (by omega) (by omega)
theorem md24 (n : Int) : md n 24 = n % 24 := md_emod n 24 (by omega) (by omega)
theorem md48 (n : Int) : md n 48 = n % 48 := md_emod n 48 (by omega) (by omega)
theorem md96 (n : Int) : md n 96 = n % 96 := md_emod n 96 (by omega) (by omega)
theorem md192 (n : Int) : md n 192 = n % 192 := md_emod n 192 (by omega) (by omega)

theorem add1_eq (a b : Int) : add1 a b = (a + b) % 24 := by
  unfold add1; simp only [md24]; rw [W_id (by omega) (by omega)]; omega
theorem neg1_eq (a : Int) : neg1 a = (-a) % 24 := by
  unfold neg1; simp only [md24]; rw [W_id (by omega) (by omega)]; omega
theorem times1_eq (n a : Int) : times1 n a = (n * a) % 24 := by
  unfold times1; simp only [md24]
  have h1 : 0 ≤ n % 24 ∧ n % 24 ≤ 23 := by omega
  have h2 : 0 ≤ a % 24 ∧ a % 24 ≤ 23 := by omega
  have h3 : 0 ≤ n % 24 * (a % 24) := Int.mul_nonneg h1.1 h2.1
  have h4 : n % 24 * (a % 24) ≤ 23 * 23 := Int.mul_le_mul h1.2 h2.2 h2.1 (by omega)
  rw [W_id (by omega) (by omega), ← Int.mul_emod]

theorem form_spec {m x y z : Int} (h : formB m x y z = true) : (m = 24 ∨ m = 48 ∨ m = 96 ∨ m = 192) ∧ (0 ≤ x ∧ x < m) ∧ (0 ≤ y ∧ y < m) ∧ (0 ≤ z ∧ z < m) := by
  have hf := isF_cases (form_isF h)
  unfold formB at h
  simp only [eq3, Bool.and_eq_true, beq_iff_eq, Bool.and_true] at h
  obtain ⟨_, hx, hy, hz⟩ := h
  have hm : 0 < m ∧ m ≤ 1000 := by omega
  rw [md_emod _ _ hm.1 hm.2] at hx hy hz
  have b1 := Int.emod_nonneg x (show m ≠ 0 by omega)
  have b2 := Int.emod_lt_of_pos x hm.1
  have b3 := Int.emod_nonneg y (show m ≠ 0 by omega)
  have b4 := Int.emod_lt_of_pos y hm.1
  have b5 := Int.emod_nonneg z (show m ≠ 0 by omega)
  have b6 := Int.emod_lt_of_pos z hm.1
  exact ⟨hf, by omega, by omega, by omega⟩
theorem form_mk {m x y z : Int} (hf : m = 24 ∨ m = 48 ∨ m = 96 ∨ m = 192) (hx : 0 ≤ x ∧ x < m) (hy : 0 ≤ y ∧ y < m) (hz : 0 ≤ z ∧ z < m) : formB m x y z = true := by
  have hm : 0 < m ∧ m ≤ 1000 := by omega
  unfold formB
  rw [md_emod _ _ hm.1 hm.2, md_emod _ _ hm.1 hm.2, md_emod _ _ hm.1 hm.2, Int.emod_eq_of_lt hx.1 hx.2, Int.emod_eq_of_lt hy.1 hy.2, Int.emod_eq_of_lt hz.1 hz.2]
  have : isF m = true := by rcases hf with rfl | rfl | rfl | rfl <;> rfl
  simp [this, eq3]

theorem td24 : W (Int.tdiv 24 24) = 1 := rfl
theorem td48 : W (Int.tdiv 48 24) = 2 := rfl
theorem td96 : W (Int.tdiv 96 24) = 4 := rfl
theorem td192 : W (Int.tdiv 192 24) = 8 := rfl

theorem sh1_eq {m x : Int} (t : Int) (hm : m = 24 ∨ m = 48 ∨ m = 96 ∨ m = 192) (hx : 0 ≤ x ∧ x < m) : sh1 m x t = (x + t * (m / 24)) % m ∧ dsh1 m x t = (x + t * (m / 24)) % m := by
  unfold sh1 dsh1
  rcases hm with rfl | rfl | rfl | rfl
  · simp only [md24, td24]
    rw [W_id (n := t % 24 * 1) (by omega) (by omega), W_id (n := x + t % 24 * 1) (by omega) (by omega), W_id (n := 1 % 24 * (t % 24 % 24)) (by omega) (by omega), W_id (n := x % 24 + 1 % 24 * (t % 24 % 24) % 24 % 24) (by omega) (by omega)]
    omega
  · simp only [md24, md48, td48]
    rw [W_id (n := t % 24 * 2) (by omega) (by omega), W_id (n := x + t % 24 * 2) (by omega) (by omega), W_id (n := 2 % 48 * (t % 24 % 48)) (by omega) (by omega), W_id (n := x % 48 + 2 % 48 * (t % 24 % 48) % 48 % 48) (by omega) (by omega)]
    omega
  · simp only [md24, md96, td96]
    rw [W_id (n := t % 24 * 4) (by omega) (by omega), W_id (n := x + t % 24 * 4) (by omega) (by omega), W_id (n := 4 % 96 * (t % 24 % 96)) (by omega) (by omega), W_id (n := x % 96 + 4 % 96 * (t % 24 % 96) % 96 % 96) (by omega) (by omega)]
    omega
  · simp only [md24, md192, td192]
    rw [W_id (n := t % 24 * 8) (by omega) (by omega), W_id (n := x + t % 24 * 8) (by omega) (by omega), W_id (n := 8 % 192 * (t % 24 % 192)) (by omega) (by omega), W_id (n := x % 192 + 8 % 192 * (t % 24 % 192) % 192 % 192) (by omega) (by omega)]
    omega
theorem op1_eq {m : Int} (x : Int) (hm : m = 24 ∨ m = 48 ∨ m = 96 ∨ m = 192) : op1 m x = (-x) % m := by
  unfold op1
  rcases hm with rfl | rfl | rfl | rfl
  · simp only [md24]; rw [W_id (n := 0 - x % 24) (by omega) (by omega)]; omega
  · simp only [md48]; rw [W_id (n := 0 - x % 48) (by omega) (by omega)]; omega
  · simp only [md96]; rw [W_id (n := 0 - x % 96) (by omega) (by omega)]; omega
  · simp only [md192]; rw [W_id (n := 0 - x % 192) (by omega) (by omega)]; omega
theorem mn1_eq {m x a : Int} (hm : m = 24 ∨ m = 48 ∨ m = 96 ∨ m = 192) (hx : 0 ≤ x ∧ x < m) (ha : 0 ≤ a ∧ a < m) : md (W (x - a)) m = (x - a) % m ∧ dmn1 m x a = (x - a) % m := by
  unfold dmn1
  rcases hm with rfl | rfl | rfl | rfl
  · simp only [md24]
    rw [W_id (n := x - a) (by omega) (by omega), W_id (n := 0 - a % 24) (by omega) (by omega), W_id (n := x % 24 + (0 - a % 24) % 24 % 24) (by omega) (by omega)]
    omega
  · simp only [md48]
    rw [W_id (n := x - a) (by omega) (by omega), W_id (n := 0 - a % 48) (by omega) (by omega), W_id (n := x % 48 + (0 - a % 48) % 48 % 48) (by omega) (by omega)]
    omega
  · simp only [md96]
    rw [W_id (n := x - a) (by omega) (by omega), W_id (n := 0 - a % 96) (by omega) (by omega), W_id (n := x % 96 + (0 - a % 96) % 96 % 96) (by omega) (by omega)]
    omega
  · simp only [md192]
    rw [W_id (n := x - a) (by omega) (by omega), W_id (n := 0 - a % 192) (by omega) (by omega), W_id (n := x % 192 + (0 - a % 192) % 192 % 192) (by omega) (by omega)]
    omega

theorem shift_same (m x y z t u v : Int) : shiftR m x y z t u v = dshiftR m x y z t u v := by
  unfold shiftR dshiftR err5T
  cases h : formB m x y z with
  | false => rfl
  | true =>
    obtain ⟨hm, hx, hy, hz⟩ := form_spec h
    simp only [chainL, Bool.not_true]
    rw [(sh1_eq t hm hx).1, (sh1_eq t hm hx).2, (sh1_eq u hm hy).1, (sh1_eq u hm hy).2, (sh1_eq v hm hz).1, (sh1_eq v hm hz).2]
theorem minus_same (m x y z n a b c : Int) : minusR m x y z n a b c = dminusR m x y z n a b c := by
  unfold minusR dminusR
  cases h : formB m x y z with
  | false => rfl
  | true =>
    cases h' : formB n a b c with
    | false => rfl
    | true =>
      by_cases hmn : m = n
      · subst hmn
        obtain ⟨hm, hx, hy, hz⟩ := form_spec h
        obtain ⟨_, ha, hb, hc⟩ := form_spec h'
        simp only [chainL, Bool.not_true, Bool.or_self, bne_self_eq_false, minL, dminL]
        rw [(mn1_eq hm hx ha).1, (mn1_eq hm hx ha).2, (mn1_eq hm hy hb).1, (mn1_eq hm hy hb).2, (mn1_eq hm hz hc).1, (mn1_eq hm hz hc).2]
      · have : (m != n) = true := by simpa using hmn
        simp only [chainL, Bool.not_true, Bool.or_self, this]
theorem fin_same (m x y z n : Int) : finR m x y z n = dfinR m x y z n := by
  unfold finR dfinR
  cases isF n with
  | false => rfl
  | true =>
    cases formB m x y z with
    | false => rfl
    | true =>
      cases hq : Int.tmod n m != 0 with
      | true => rfl
      | false =>
        simp only [chainL, Bool.not_true, Bool.true_and, Bool.or_self, finL, dfinL]
        rw [Int.mul_comm x, Int.mul_comm y, Int.mul_comm z]

/-- -1, 0 or 1 by two numbers. -/
def tri (a b : Int) : Int := if a < b then -1 else if a > b then 1 else 0
theorem cmp_tri (a b : Int) : cmpR a b = tri a b := by
  unfold cmpR cmpT tri
  by_cases h1 : a < b
  · simp [chainL, h1, nth]
  · by_cases h2 : a > b
    · simp [chainL, h1, h2, nth]
    · simp [chainL, h1, h2, nth]
theorem tri_iff {a b c d : Int} (h1 : a < b ↔ c < d) (h2 : a > b ↔ c > d) : tri a b = tri c d := by
  unfold tri
  by_cases h : a < b
  · rw [if_pos h, if_pos (h1.1 h)]
  · rw [if_neg h, if_neg (fun q => h (h1.2 q))]
    by_cases g : a > b
    · rw [if_pos g, if_pos (h2.1 g)]
    · rw [if_neg g, if_neg (fun q => g (h2.2 q))]
/-- A place's part in 192nds. -/
def in192 (m x : Int) : Int := x * (192 / m)
theorem k1_eq {m x : Int} (hm : m = 24 ∨ m = 48 ∨ m = 96 ∨ m = 192) (hx : 0 ≤ x ∧ x < m) : k1 m x = in192 m x := by
  unfold k1 in192
  rcases hm with rfl | rfl | rfl | rfl
  · rw [show W (Int.tdiv 192 24) = 8 from rfl, W_id (by omega) (by omega)]; omega
  · rw [show W (Int.tdiv 192 48) = 4 from rfl, W_id (by omega) (by omega)]; omega
  · rw [show W (Int.tdiv 192 96) = 2 from rfl, W_id (by omega) (by omega)]; omega
  · rw [show W (Int.tdiv 192 192) = 1 from rfl, W_id (by omega) (by omega)]; omega
theorem cross_eq {m x n a : Int} (hm : m = 24 ∨ m = 48 ∨ m = 96 ∨ m = 192) (hx : 0 ≤ x ∧ x < m) (hn : n = 24 ∨ n = 48 ∨ n = 96 ∨ n = 192) (ha : 0 ≤ a ∧ a < n) : tri (W (x * n)) (W (a * m)) = tri (in192 m x) (in192 n a) := by
  unfold in192
  rcases hm with rfl | rfl | rfl | rfl <;> rcases hn with rfl | rfl | rfl | rfl <;>
    (rw [W_id (by omega) (by omega), W_id (by omega) (by omega)]; exact tri_iff (by omega) (by omega))
def lex3 (a b c d e f : Int) : Int := if a < d then -1 else if a > d then 1 else if b < e then -1 else if b > e then 1 else tri c f
theorem dc_lex (a b c d e f : Int) : nth (chainL (dcT [a, b, c] [d, e, f]) [0]) 0 = lex3 a b c d e f := by
  unfold lex3 tri
  simp only [dcT]
  by_cases h1 : a < d
  · simp [chainL, h1, nth]
  by_cases h2 : a > d
  · simp [chainL, h1, h2, nth]
  by_cases h3 : b < e
  · simp [chainL, h1, h2, h3, nth]
  by_cases h4 : b > e
  · simp [chainL, h1, h2, h3, h4, nth]
  by_cases h5 : c < f
  · simp [chainL, h1, h2, h3, h4, h5, nth]
  by_cases h6 : c > f
  · simp [chainL, h1, h2, h3, h4, h5, h6, nth]
  · simp [chainL, h1, h2, h3, h4, h5, h6, nth]
theorem tri_lex (a b c d e f : Int) : chainL [(tri a d != 0, [tri a d, 0]), (tri b e != 0, [tri b e, 0]), (tri c f != 0, [tri c f, 0])] [0, 0] = [lex3 a b c d e f, 0] := by
  unfold lex3 tri
  by_cases h1 : a < d
  · simp [chainL, h1]
  by_cases h2 : a > d
  · simp [chainL, h1, h2]
  by_cases h3 : b < e
  · simp [chainL, h1, h2, h3]
  by_cases h4 : b > e
  · simp [chainL, h1, h2, h3, h4]
  by_cases h5 : c < f
  · simp [chainL, h1, h2, h3, h4, h5]
  by_cases h6 : c > f
  · simp [chainL, h1, h2, h3, h4, h5, h6]
  · simp [chainL, h1, h2, h3, h4, h5, h6]
/-- Order of two places in form: by their parts in 192nds. -/
theorem ord_eq {m x y z n a b c : Int} (h : formB m x y z = true) (h' : formB n a b c = true) : ordR m x y z n a b c = [lex3 (in192 m x) (in192 m y) (in192 m z) (in192 n a) (in192 n b) (in192 n c), 0] := by
  obtain ⟨hm, hx, hy, hz⟩ := form_spec h
  obtain ⟨hn, ha, hb, hc⟩ := form_spec h'
  unfold ordR ordT
  simp only [h, h', Bool.not_true, Bool.or_self, cmp_tri]
  rw [cross_eq hm hx hn ha, cross_eq hm hy hn hb, cross_eq hm hz hn hc]
  exact tri_lex _ _ _ _ _ _
theorem ord_bad {m x y z n a b c : Int} (h : (formB m x y z && formB n a b c) = false) : ordR m x y z n a b c = [0, 3] := by
  unfold ordR
  revert h
  cases formB m x y z <;> cases formB n a b c <;> intro h <;> first | rfl | cases h
theorem ord_same (m x y z n a b c : Int) : ordR m x y z n a b c = dordR m x y z n a b c := by
  cases h : formB m x y z with
  | false => rw [ord_bad (by rw [h]; rfl)]; unfold dordR; rw [h]; rfl
  | true =>
    cases h' : formB n a b c with
    | false => rw [ord_bad (by rw [h, h']; rfl)]; unfold dordR; rw [h, h']; rfl
    | true =>
      obtain ⟨hm, hx, hy, hz⟩ := form_spec h
      obtain ⟨hn, ha, hb, hc⟩ := form_spec h'
      rw [ord_eq h h']
      unfold dordR dordV
      simp only [h, h', Bool.not_true, Bool.or_self, chainL]
      rw [dc_lex, k1_eq hm hx, k1_eq hm hy, k1_eq hm hz, k1_eq hn ha, k1_eq hn hb, k1_eq hn hc]

end Go.Proofs.Ytklmanmeedfjpac.Vx
