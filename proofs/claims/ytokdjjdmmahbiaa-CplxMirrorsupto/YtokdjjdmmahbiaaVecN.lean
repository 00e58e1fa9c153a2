/-
  Whole numbers alone: bounds, and matrices of small entries. No program in sight. Nothing here is trusted.
-/
import Derived.Test.YtokdjjdmmahbiaaVecM
namespace Go.Proofs.Ytokdjjdmmahbiaa.Vx
open Go

theorem bd_mul {m n x y : Int} (hx : -m ≤ x ∧ x ≤ m) (hy : -n ≤ y ∧ y ≤ n) : -(m * n) ≤ x * y ∧ x * y ≤ m * n := by
  have h1 := Int.mul_nonneg (show 0 ≤ m - x by omega) (show 0 ≤ n + y by omega)
  have h2 := Int.mul_nonneg (show 0 ≤ m + x by omega) (show 0 ≤ n - y by omega)
  have h3 := Int.mul_nonneg (show 0 ≤ m - x by omega) (show 0 ≤ n - y by omega)
  have h4 := Int.mul_nonneg (show 0 ≤ m + x by omega) (show 0 ≤ n + y by omega)
  have e1 : (m - x) * (n + y) + (m + x) * (n - y) = 2 * (m * n) - 2 * (x * y) := by grind
  have e2 : (m - x) * (n - y) + (m + x) * (n + y) = 2 * (m * n) + 2 * (x * y) := by grind
  omega

theorem tmod_bd (x n : Int) (hn : 0 < n) : -(n - 1) ≤ Int.tmod x n ∧ Int.tmod x n ≤ n - 1 := by
  have h1 := Int.tmod_lt_of_pos x hn
  have h2 := Int.tmod_lt_of_pos (-x) hn
  rw [Int.neg_tmod] at h2
  omega

theorem inB_iff {n : Int} {l : List Int} : inB n l = true ↔ ∀ x ∈ l, -n ≤ x ∧ x ≤ n := by
  unfold inB
  simp [List.all_eq_true]

theorem dotR_W (a b c d e f : Int) : dotR a b c d e f = W (a * d + b * e + c * f) := by
  unfold dotR
  simp only [W_addl, W_addr]
theorem minR_W (a b c d : Int) : minR a b c d = W (a * b - c * d) := by
  unfold minR
  simp only [W_subl, W_subr]

theorem dotR_bd {m n a b c d e f : Int} (ha : -m ≤ a ∧ a ≤ m) (hb : -m ≤ b ∧ b ≤ m) (hc : -m ≤ c ∧ c ≤ m) (hd : -n ≤ d ∧ d ≤ n) (he : -n ≤ e ∧ e ≤ n) (hf : -n ≤ f ∧ f ≤ n) (h : 3 * (m * n) ≤ 9223372036854775807) :
    dotR a b c d e f = a * d + b * e + c * f ∧ -(3 * (m * n)) ≤ dotR a b c d e f ∧ dotR a b c d e f ≤ 3 * (m * n) := by
  have h1 := bd_mul ha hd
  have h2 := bd_mul hb he
  have h3 := bd_mul hc hf
  rw [dotR_W]
  have : W (a * d + b * e + c * f) = a * d + b * e + c * f := W_id (by omega) (by omega)
  rw [this]
  exact ⟨rfl, by omega, by omega⟩
theorem minR_bd {m a b c d : Int} (ha : -m ≤ a ∧ a ≤ m) (hb : -m ≤ b ∧ b ≤ m) (hc : -m ≤ c ∧ c ≤ m) (hd : -m ≤ d ∧ d ≤ m) (h : 2 * (m * m) ≤ 9223372036854775807) :
    minR a b c d = a * b - c * d ∧ -(2 * (m * m)) ≤ minR a b c d ∧ minR a b c d ≤ 2 * (m * m) := by
  have h1 := bd_mul ha hb
  have h2 := bd_mul hc hd
  rw [minR_W]
  have : W (a * b - c * d) = a * b - c * d := W_id (by omega) (by omega)
  rw [this]
  exact ⟨rfl, by omega, by omega⟩

theorem inB_mono {m n : Int} (h : m ≤ n) {l : List Int} (hl : inB m l = true) : inB n l = true := by
  rw [inB_iff] at hl ⊢
  intro x hx
  have := hl x hx
  omega

theorem det_mul (a b c d e f g h i j k l m n o p q r : Int) :
    det (a * j + b * m + c * p) (a * k + b * n + c * q) (a * l + b * o + c * r) (d * j + e * m + f * p) (d * k + e * n + f * q) (d * l + e * o + f * r) (g * j + h * m + i * p) (g * k + h * n + i * q) (g * l + h * o + i * r) = det a b c d e f g h i * det j k l m n o p q r := by
  unfold det; grind

theorem W_cadd {x x' y y' : Int} (h1 : W x = W x') (h2 : W y = W y') : W (x + y) = W (x' + y') := by
  rw [← W_addl, ← W_addr, h1, h2, W_addr, W_addl]
theorem W_csub {x x' y y' : Int} (h1 : W x = W x') (h2 : W y = W y') : W (x - y) = W (x' - y') := by
  rw [← W_subl, ← W_subr, h1, h2, W_subr, W_subl]
theorem W_cmul {x x' y y' : Int} (h1 : W x = W x') (h2 : W y = W y') : W (x * y) = W (x' * y') := by
  rw [← W_mull, ← W_mulr, h1, h2, W_mulr, W_mull]
/-- Entries that wrap to the same have determinants that do. -/
theorem W_det {a b c d e f g h i a' b' c' d' e' f' g' h' i' : Int} (ha : W a = W a') (hb : W b = W b') (hc : W c = W c') (hd : W d = W d') (he : W e = W e') (hf : W f = W f') (hg : W g = W g') (hh : W h = W h') (hi : W i = W i') :
    W (det a b c d e f g h i) = W (det a' b' c' d' e' f' g' h' i') :=
  W_cadd (W_cadd (W_cmul ha (W_csub (W_cmul he hi) (W_cmul hf hh))) (W_cmul hb (W_csub (W_cmul hf hg) (W_cmul hd hi)))) (W_cmul hc (W_csub (W_cmul hd hh) (W_cmul he hg)))

end Go.Proofs.Ytokdjjdmmahbiaa.Vx
