/-
  Whole numbers alone: what the rows of tests of VecS come to. No program in sight. Nothing here is trusted.
-/
import Derived.Test.YtokdjjdmmahbiaaVecS
namespace Go.Proofs.Ytokdjjdmmahbiaa.Vx
open Go

/-- The first test that holds answers false. -/
def guardF : List Bool → Option Value → Option Value
  | [], k => k
  | t :: ts, k => match t with
    | true => some (.bool false)
    | false => guardF ts k
/-- All of these. -/
def andO : List Bool → Option Value
  | [] => some (.bool true)
  | [b] => some (.bool b)
  | b :: bs => match b with
    | true => andO bs
    | false => some (.bool false)
/-- One of these. -/
def orB : List Bool → Option Value → Option Value → Option Value
  | [], _, e => e
  | t :: ts, a, e => match t with
    | true => a
    | false => orB ts a e

theorem guardF_eq : ∀ (ts : List Bool) (k : Option Value), (∀ t ∈ ts, t = false) → guardF ts k = k
  | [], _, _ => rfl
  | t :: ts, k, h => by
    have := h t (by simp)
    subst this
    exact guardF_eq ts k fun u hu => h u (by simp [hu])
theorem andO_eq : ∀ (ts : List Bool), (∀ t ∈ ts, t = true) → andO ts = some (.bool true)
  | [], _ => rfl
  | [b], h => by have := h b (by simp); subst this; rfl
  | b :: c :: bs, h => by
    have := h b (by simp)
    subst this
    exact andO_eq (c :: bs) fun u hu => h u (by simp [hu])

def inB (n : Int) (l : List Int) : Bool := l.all fun x => decide (-n ≤ x) && decide (x ≤ n)

theorem range_eq (n : Int) : ∀ (l : List Int), nth (chainL (rangeT n l) [0]) 0 = bif inB n l then 0 else 4
  | [] => rfl
  | a :: l => by
    have ih := range_eq n l
    unfold inB at ih ⊢
    simp only [rangeT, List.all_cons]
    by_cases h1 : a < -n
    · have : decide (-n ≤ a) = false := by simp; omega
      simp [chainL, h1, this, nth]
    · by_cases h2 : a > n
      · have : decide (a ≤ n) = false := by simp; omega
        simp [chainL, h1, h2, this, nth]
      · have e1 : decide (-n ≤ a) = true := by simp; omega
        have e2 : decide (a ≤ n) = true := by simp; omega
        simp only [chainL, h1, h2, decide_false, e1, e2, Bool.true_and]
        exact ih

theorem within_eq (a b c n : Int) (h0 : 0 ≤ n) (h1 : n ≤ 9223372036854775807) : withinR a b c n = bif inB n [a, b, c] then 0 else 4 := by
  have : withinT a b c n = rangeT n [a, b, c] := by
    unfold withinT
    rw [show W (0 - n) = -n from by rw [W_id (by omega) (by omega)]; omega]
    rfl
  unfold withinR
  rw [this, range_eq]

theorem mat_eq (a b c d e f g h i : Int) : matR a b c d e f g h i = bif inB 1000 [a, b, c, d, e, f, g, h, i] then 0 else 4 := range_eq 1000 _
theorem col_eq (x y z : Int) : colR x y z = bif inB 2147483648 [x, y, z] then 0 else 4 := range_eq _ _

theorem chk_eq (a b c d e f g h i : Int) : chk a b c d e f g h i = bif inB 1000 [a, b, c, d, e, f, g, h, i] then 0 else 4 := by
  have hs : inB 1000 [a, b, c, d, e, f, g, h, i] = (inB 1000 [a, b, c] && (inB 1000 [d, e, f] && inB 1000 [g, h, i])) := by
    unfold inB; simp only [List.all_cons, List.all_nil, Bool.and_true]
    simp only [Bool.and_assoc]
  rw [hs]
  unfold chk checkT
  rw [within_eq a b c 1000 (by omega) (by omega), within_eq d e f 1000 (by omega) (by omega), within_eq g h i 1000 (by omega) (by omega)]
  cases inB 1000 [a, b, c] <;> cases inB 1000 [d, e, f] <;> cases inB 1000 [g, h, i] <;> rfl

theorem both_eq (a b c d e f g h i x y z : Int) : both a b c d e f g h i x y z = bif inB 1000 [a, b, c, d, e, f, g, h, i] && inB 2147483648 [x, y, z] then 0 else 4 := by
  unfold both bothT
  rw [chk_eq, within_eq x y z 2147483648 (by omega) (by omega)]
  cases inB 1000 [a, b, c, d, e, f, g, h, i] <;> cases inB 2147483648 [x, y, z] <;> rfl


theorem mulR_eq (a b c d e f g h i j k l m n o p q r : Int) : mulR a b c d e f g h i j k l m n o p q r = bif inB 1000 [a, b, c, d, e, f, g, h, i] && inB 1000 [j, k, l, m, n, o, p, q, r] then mulD a b c d e f g h i j k l m n o p q r else zeros9 4 := by
  unfold mulR mulT
  rw [chk_eq, chk_eq]
  cases inB 1000 [a, b, c, d, e, f, g, h, i] <;> cases inB 1000 [j, k, l, m, n, o, p, q, r] <;> rfl
theorem applyR_eq (a b c d e f g h i x y z : Int) : applyR a b c d e f g h i x y z = bif inB 1000 [a, b, c, d, e, f, g, h, i] && inB 2147483648 [x, y, z] then applyD a b c d e f g h i x y z else [0, 0, 0, 4] := by
  unfold applyR applyT
  rw [both_eq]
  cases inB 1000 [a, b, c, d, e, f, g, h, i] <;> cases inB 2147483648 [x, y, z] <;> rfl
theorem leftR_eq (a b c d e f g h i x y z : Int) : leftR a b c d e f g h i x y z = bif inB 1000 [a, b, c, d, e, f, g, h, i] && inB 2147483648 [x, y, z] then leftD a b c d e f g h i x y z else [0, 0, 0, 4] := by
  unfold leftR applyT
  rw [both_eq]
  cases inB 1000 [a, b, c, d, e, f, g, h, i] <;> cases inB 2147483648 [x, y, z] <;> rfl
theorem transR_eq (a b c d e f g h i : Int) : transR a b c d e f g h i = bif inB 1000 [a, b, c, d, e, f, g, h, i] then [a, d, g, b, e, h, c, f, i, 0] else zeros9 4 := by
  unfold transR err9T
  rw [chk_eq]
  cases inB 1000 [a, b, c, d, e, f, g, h, i] <;> rfl
theorem detE_eq (a b c d e f g h i : Int) : detE a b c d e f g h i = bif inB 1000 [a, b, c, d, e, f, g, h, i] then [detR a b c d e f g h i, 0] else [0, 4] := by
  unfold detE err1T
  rw [chk_eq]
  cases inB 1000 [a, b, c, d, e, f, g, h, i] <;> rfl
theorem traceE_eq (a b c d e f g h i : Int) : traceE a b c d e f g h i = bif inB 1000 [a, b, c, d, e, f, g, h, i] then [W (W (a + e) + i), 0] else [0, 4] := by
  unfold traceE err1T
  rw [chk_eq]
  cases inB 1000 [a, b, c, d, e, f, g, h, i] <;> rfl
theorem adjE_eq (a b c d e f g h i : Int) : adjE a b c d e f g h i = bif inB 1000 [a, b, c, d, e, f, g, h, i] then cofL a b c d e f g h i ++ [0] else zeros9 4 := by
  unfold adjE err9T
  rw [chk_eq]
  cases inB 1000 [a, b, c, d, e, f, g, h, i] <;> rfl

/-! The document's sums. -/
def rdot (a b c d e f : Int) : Int := W (W (W (0 + W (a * d)) + W (b * e)) + W (c * f))
theorem rdot_eq (a b c d e f : Int) : rdot a b c d e f = dotR a b c d e f := by
  unfold rdot dotR
  rw [Int.zero_add, W_W]
def det (a b c d e f g h i : Int) : Int := a * (e * i - f * h) + b * (f * g - d * i) + c * (d * h - e * g)
theorem detR_eq (a b c d e f g h i : Int) : detR a b c d e f g h i = W (det a b c d e f g h i) := by
  unfold detR minR det
  simp only [W_addl, W_addr, W_subl, W_subr, W_mulr]
theorem rdet_eq (a b c d e f g h i : Int) : rdet a b c d e f g h i = W (det a b c d e f g h i) := by
  unfold rdet det
  simp only [W_addl, W_addr, W_subl, W_subr, W_mull, Int.zero_add, W_W]
  congr 1
  grind

theorem eq3_refl (a b c : Int) : eq3 a b c a b c = true := by simp [eq3]
theorem eq9_refl (a b c d e f g h i : Int) : eq9 a b c d e f g h i a b c d e f g h i = true := by simp [eq9, eq3_refl]

end Go.Proofs.Ytokdjjdmmahbiaa.Vx
