/-
  The ring of the parts of a turn: what follows its rule; sums, products, conjugates, finer rings; no product of others is 0. Nothing here is trusted.
-/
import Derived.Test.YtjhijkdicmbbiaaKah

namespace Go.Proofs.Ytjhijkdicmbbiaa.Rin
open Go Vx
def S : Nat → (Nat → Int) → Int
  | 0, _ => 0
  | n + 1, f => S n f + f n
theorem S_congr {n : Nat} {f g : Nat → Int} (h : ∀ i, i < n → f i = g i) : S n f = S n g := by
  induction n with
  | zero => rfl
  | succ n ih =>
    show S n f + f n = S n g + g n
    rw [ih fun i hi => h i (by omega), h n (by omega)]
theorem S_add (n : Nat) (f g : Nat → Int) : S n (fun i => f i + g i) = S n f + S n g := by
  induction n with
  | zero => rfl
  | succ n ih =>
    show S n (fun i => f i + g i) + (f n + g n) = S n f + f n + (S n g + g n)
    rw [ih]; omega
theorem S_mul (n : Nat) (k : Int) (f : Nat → Int) : S n (fun i => k * f i) = k * S n f := by
  induction n with
  | zero => exact (Int.mul_zero k).symm
  | succ n ih =>
    show S n (fun i => k * f i) + k * f n = k * (S n f + f n)
    rw [ih, Int.mul_add]
theorem S_sub (n : Nat) (f g : Nat → Int) : S n (fun i => f i - g i) = S n f - S n g := by
  induction n with
  | zero => rfl
  | succ n ih =>
    show S n (fun i => f i - g i) + (f n - g n) = S n f + f n - (S n g + g n)
    rw [ih]; omega
theorem S_zero {n : Nat} {f : Nat → Int} (h : ∀ i, i < n → f i = 0) : S n f = 0 := by
  induction n with
  | zero => rfl
  | succ n ih =>
    show S n f + f n = 0
    rw [ih fun i hi => h i (by omega), h n (by omega)]; rfl
theorem S_one {n k : Nat} {f : Nat → Int} (hk : k < n) (h : ∀ i, i < n → i ≠ k → f i = 0) : S n f = f k := by
  induction n with
  | zero => omega
  | succ n ih =>
    show S n f + f n = f k
    by_cases hn : k = n
    · subst hn
      rw [S_zero fun i hi => h i (by omega) (by omega)]; omega
    · rw [ih (by omega) fun i hi => h i (by omega), h n (by omega) (by omega)]; omega
theorem S_swap (n m : Nat) (f : Nat → Nat → Int) : S n (fun i => S m (fun j => f i j)) = S m (fun j => S n (fun i => f i j)) := by
  induction n with
  | zero => exact (S_zero fun _ _ => rfl).symm
  | succ n ih =>
    show S n (fun i => S m (fun j => f i j)) + S m (fun j => f n j) = S m (fun j => S n (fun i => f i j) + f n j)
    rw [ih, S_add]
theorem S_put (n : Nat) (g : Nat → Int) (j : Nat) (v : Int) (T : Nat → Int) (hj : j < n) : S n (fun i => putG g j v i * T i) = S n (fun i => g i * T i) + (v - g j) * T j := by
  have : S n (fun i => putG g j v i * T i) = S n (fun i => g i * T i + (if i = j then (v - g j) * T j else 0)) := S_congr fun i _ => by
    unfold putG
    by_cases h : i = j
    · subst h; rw [if_pos rfl, if_pos rfl, Int.sub_mul]; omega
    · rw [if_neg h, if_neg h]; omega
  rw [this, S_add, S_one (f := fun i => if i = j then (v - g j) * T j else 0) hj fun i _ h => if_neg h]
  simp
def Rec (e : Nat) (T : Nat → Int) : Prop := ∀ n, T (n + 2 * e) = T (n + e) - T n
theorem Rec.half {e : Nat} {T : Nat → Int} (h : Rec e T) (n : Nat) : T (n + 3 * e) = -T n := by
  have a := h n
  have b := h (n + e)
  rw [show n + e + 2 * e = n + 3 * e by omega, show n + e + e = n + 2 * e by omega] at b
  omega
theorem Rec.full {e : Nat} {T : Nat → Int} (h : Rec e T) (n : Nat) : T (n + 6 * e) = T n := by
  have a := h.half n
  have b := h.half (n + 3 * e)
  rw [show n + 3 * e + 3 * e = n + 6 * e by omega] at b
  omega
theorem Rec.mod {e : Nat} {T : Nat → Int} (h : Rec e T) (n : Nat) : T (n % (6 * e)) = T n := by
  have key : ∀ k, T (n % (6 * e) + 6 * e * k) = T (n % (6 * e)) := fun k => by
    induction k with
    | zero => rfl
    | succ k ih => rw [Nat.mul_succ, ← Nat.add_assoc, h.full, ih]
  rw [← key (n / (6 * e)), Nat.mod_add_div]
theorem Rec.shift {e : Nat} {T : Nat → Int} (h : Rec e T) (k : Nat) : Rec e fun n => T (k + n) := fun n => by
  have := h (k + n)
  rw [show k + n + 2 * e = k + (n + 2 * e) by omega, show k + n + e = k + (n + e) by omega] at this
  exact this
theorem Rec.times {e k : Nat} {T : Nat → Int} (h : Rec (k * e) T) : Rec e fun n => T (n * k) := fun n => by
  have := h (n * k)
  show T ((n + 2 * e) * k) = T ((n + e) * k) - T (n * k)
  rw [show (n + 2 * e) * k = n * k + 2 * (k * e) by rw [Nat.add_mul, Nat.mul_assoc, Nat.mul_comm e k], show (n + e) * k = n * k + k * e by rw [Nat.add_mul, Nat.mul_comm e k]]
  exact this
/-- Gone through the other way round. -/
def bk (e : Nat) (T : Nat → Int) (n : Nat) : Int := T ((6 * e - n % (6 * e)) % (6 * e))
theorem Rec.bk {e : Nat} {T : Nat → Int} (he : 1 ≤ e) (h : Rec e T) : Rec e (Rin.bk e T) := fun n => by
  have at0 : ∀ n, Rin.bk e T n = T (6 * e - n % (6 * e)) := fun n => h.mod _
  rw [at0, at0, at0]
  have hlt := Nat.mod_lt n (show 0 < 6 * e by omega)
  have e1 : (n + e) % (6 * e) = if n % (6 * e) + e < 6 * e then n % (6 * e) + e else n % (6 * e) + e - 6 * e := by
    rw [Nat.add_mod, Nat.mod_eq_of_lt (show e < 6 * e by omega)]
    by_cases c : n % (6 * e) + e < 6 * e
    · rw [if_pos c, Nat.mod_eq_of_lt c]
    · rw [if_neg c, Nat.mod_eq_sub_mod (by omega), Nat.mod_eq_of_lt (by omega)]
  have e2 : (n + 2 * e) % (6 * e) = if n % (6 * e) + 2 * e < 6 * e then n % (6 * e) + 2 * e else n % (6 * e) + 2 * e - 6 * e := by
    rw [Nat.add_mod, Nat.mod_eq_of_lt (show 2 * e < 6 * e by omega)]
    by_cases c : n % (6 * e) + 2 * e < 6 * e
    · rw [if_pos c, Nat.mod_eq_of_lt c]
    · rw [if_neg c, Nat.mod_eq_sub_mod (by omega), Nat.mod_eq_of_lt (by omega)]
  rw [e1, e2]
  generalize n % (6 * e) = r at *
  by_cases c1 : r + e < 6 * e
  · rw [if_pos c1]
    by_cases c2 : r + 2 * e < 6 * e
    · rw [if_pos c2]
      have := h (6 * e - (r + 2 * e))
      rw [show 6 * e - (r + 2 * e) + 2 * e = 6 * e - r by omega, show 6 * e - (r + 2 * e) + e = 6 * e - (r + e) by omega] at this
      omega
    · rw [if_neg c2]
      have := h (6 * e - r)
      have f := h.full (6 * e - (r + 2 * e - 6 * e) - 6 * e)
      have k := h (6 * e + 6 * e - (r + 2 * e))
      have f2 := h.full (6 * e - r)
      have f3 := h.full (6 * e - (r + e))
      rw [show 6 * e + 6 * e - (r + 2 * e) + 2 * e = 6 * e - r + 6 * e by omega, show 6 * e + 6 * e - (r + 2 * e) + e = 6 * e - (r + e) + 6 * e by omega, f2, f3] at k
      rw [show 6 * e - (r + 2 * e - 6 * e) = 6 * e + 6 * e - (r + 2 * e) by omega]
      omega
  · rw [if_neg c1, if_neg (by omega)]
    have k := h (6 * e + 6 * e - (r + 2 * e))
    have f2 := h.full (6 * e - r)
    rw [show 6 * e + 6 * e - (r + 2 * e) + 2 * e = 6 * e - r + 6 * e by omega, show 6 * e + 6 * e - (r + 2 * e) + e = 6 * e - (r + e - 6 * e) by omega, f2] at k
    rw [show 6 * e - (r + 2 * e - 6 * e) = 6 * e + 6 * e - (r + 2 * e) by omega]
    omega
def wA (b : Nat) : Int := match b % 6 with
  | 0 => 1
  | 1 => 0
  | 2 => -1
  | 3 => -1
  | 4 => 0
  | _ => 1
def wB (b : Nat) : Int := match b % 6 with
  | 0 => 0
  | 1 => 1
  | 2 => 1
  | 3 => 0
  | 4 => -1
  | _ => -1
theorem six_cases (b : Nat) : b % 6 = 0 ∨ b % 6 = 1 ∨ b % 6 = 2 ∨ b % 6 = 3 ∨ b % 6 = 4 ∨ b % 6 = 5 := by omega
theorem wA_rec (b : Nat) : wA (b + 2) = wA (b + 1) - wA b ∧ wB (b + 2) = wB (b + 1) - wB b := by
  unfold wA wB
  rw [Nat.add_mod b 2, Nat.add_mod b 1]
  rcases six_cases b with h | h | h | h | h | h <;> rw [h] <;> decide
/-- How often the power q stands in the power n. -/
def cf (e q n : Nat) : Int := if n % e = q % e then (if q < e then wA (n / e) else wB (n / e)) else 0
theorem cf_rec {e : Nat} (he : 1 ≤ e) (q : Nat) : Rec e (cf e q) := fun n => by
  unfold cf
  have m1 : (n + e) % e = n % e := Nat.add_mod_right n e
  have m2 : (n + 2 * e) % e = n % e := by rw [Nat.mul_comm]; exact Nat.add_mul_mod_self_left n e 2
  have d1 : (n + e) / e = n / e + 1 := Nat.add_div_right n (by omega)
  have d2 : (n + 2 * e) / e = n / e + 2 := by rw [Nat.mul_comm, Nat.add_mul_div_left _ _ (by omega)]
  rw [m1, m2, d1, d2]
  by_cases h : n % e = q % e
  · rw [if_pos h, if_pos h, if_pos h]
    by_cases k : q < e
    · rw [if_pos k, if_pos k, if_pos k]; exact (wA_rec _).1
    · rw [if_neg k, if_neg k, if_neg k]; exact (wA_rec _).2
  · rw [if_neg h, if_neg h, if_neg h]; rfl
theorem cf_low {e q p : Nat} (he : 1 ≤ e) (hq : q < 2 * e) (hp : p < 2 * e) : cf e q p = if p = q then 1 else 0 := by
  have low : ∀ x, x < 2 * e → (x < e ∧ x % e = x ∧ x / e = 0) ∨ (e ≤ x ∧ x % e = x - e ∧ x / e = 1) := fun x hx => by
    by_cases h : x < e
    · exact Or.inl ⟨h, Nat.mod_eq_of_lt h, Nat.div_eq_of_lt h⟩
    · refine Or.inr ⟨by omega, ?_, ?_⟩
      · rw [Nat.mod_eq_sub_mod (by omega), Nat.mod_eq_of_lt (by omega)]
      · rw [Nat.div_eq_sub_div (by omega) (by omega), Nat.div_eq_of_lt (by omega)]
  unfold cf
  rcases low q hq with ⟨a, b, c⟩ | ⟨a, b, c⟩ <;> rcases low p hp with ⟨x, y, z⟩ | ⟨x, y, z⟩ <;> rw [b, y, z]
  · rw [if_pos a]
    by_cases h : p = q
    · rw [if_pos h, if_pos h]; rfl
    · rw [if_neg h, if_neg h]
  · rw [if_pos a]
    by_cases h : p - e = q
    · rw [if_pos h, if_neg (by omega)]; rfl
    · rw [if_neg h, if_neg (by omega)]
  · rw [if_neg (by omega : ¬ q < e)]
    by_cases h : p = q - e
    · rw [if_pos h, if_neg (by omega)]; rfl
    · rw [if_neg h, if_neg (by omega)]
  · rw [if_neg (by omega : ¬ q < e)]
    by_cases h : p = q
    · rw [if_pos (by omega), if_pos h]; rfl
    · rw [if_neg (by omega), if_neg h]
/-- What a list of powers comes to, where each power is worth what T says. -/
def ev (n : Nat) (g T : Nat → Int) : Int := S n fun i => g i * T i
theorem ev_cf {e q : Nat} (g : Nat → Int) (he : 1 ≤ e) (hq : q < 2 * e) : ev (2 * e) g (cf e q) = g q := by
  unfold ev
  rw [S_one hq fun i hi h => by show g i * cf e q i = 0; rw [cf_low he hq hi, if_neg h, Int.mul_zero]]
  show g q * cf e q q = g q
  rw [cf_low he hq hq, if_pos rfl, Int.mul_one]
/-- Two are alike that come to the same whatever the powers are worth. -/
theorem ev_eq {e : Nat} {g h : Nat → Int} (he : 1 ≤ e) (H : ∀ T, Rec e T → ev (2 * e) g T = ev (2 * e) h T) {q : Nat} (hq : q < 2 * e) : g q = h q := by
  rw [← ev_cf g he hq, ← ev_cf h he hq]
  exact H _ (cf_rec he q)
theorem ev_congr {n : Nat} {g h T : Nat → Int} (H : ∀ i, i < n → g i = h i) : ev n g T = ev n h T := S_congr fun i hi => by rw [H i hi]
theorem ev_congrT {n : Nat} {g T U : Nat → Int} (H : ∀ i, i < n → T i = U i) : ev n g T = ev n g U := S_congr fun i hi => by rw [H i hi]
theorem ev_redG {e i : Nat} (g : Nat → Int) {T : Nat → Int} (hT : Rec e T) (he : 1 ≤ e) (h1 : 2 * e ≤ i) : ev i (redG (2 * e) g i) T = ev (i + 1) g T := by
  have hd : 2 * e / 2 = e := by omega
  show S i (fun p => redG (2 * e) g i p * T p) = S i (fun p => g p * T p) + g i * T i
  unfold redG
  rw [hd, S_put _ _ _ _ _ (by omega), S_put _ _ _ _ _ (by omega)]
  have h0 : putG g (i - e) (g (i - e) + g i) (i - 2 * e) = g (i - 2 * e) := if_neg (by omega)
  have hr := hT (i - 2 * e)
  rw [show i - 2 * e + 2 * e = i by omega, show i - 2 * e + e = i - e by omega] at hr
  rw [h0, hr, Int.mul_sub]
  have a1 : g (i - e) + g i - g (i - e) = g i := by omega
  have a2 : g (i - 2 * e) - g i - g (i - 2 * e) = -g i := by omega
  rw [a1, a2, Int.neg_mul]
  omega
theorem ev_redN {e n : Nat} (g : Nat → Int) {T : Nat → Int} (hT : Rec e T) (he : 1 ≤ e) : ∀ r, r ≤ n - 2 * e → 2 * e ≤ n → ev (n - r) (redN (2 * e) n g r) T = ev n g T
  | 0, _, _ => rfl
  | r + 1, hr, hn => by
    rw [← ev_redN g hT he r (by omega) hn]
    show ev (n - (r + 1)) (redG (2 * e) (redN (2 * e) n g r) (n - 1 - r)) T = _
    rw [show n - (r + 1) = n - 1 - r by omega, ev_redG _ hT he (by omega), show n - 1 - r + 1 = n - r by omega]
theorem ev_cof {e n : Nat} (g : Nat → Int) {T : Nat → Int} (hT : Rec e T) (he : 1 ≤ e) (h1 : 2 * e ≤ n) (h2 : n ≤ 6 * e) : ev (2 * e) (cofE e n g) T = ev n g T := by
  rw [← ev_redN g hT he (n - 2 * e) (Nat.le_refl _) h1, show n - (n - 2 * e) = 2 * e by omega]
  exact ev_congr fun i hi => (redN_cof g he h1 h2 hi).symm
theorem ev_muI {n d i : Nat} (g : Nat → Int) (x : Int) (b T : Nat → Int) (h : i + d ≤ n) : ev n (muI g x b i d) T = ev n g T + x * ev d b (fun j => T (i + j)) := by
  induction d with
  | zero =>
    have : ev n (muI g x b i 0) T = ev n g T := ev_congr fun q _ => by unfold muI; rw [if_neg (by omega)]; omega
    rw [this]
    show _ = _ + x * 0
    omega
  | succ d ih =>
    have step : ev n (muI g x b i (d + 1)) T = ev n (putG (muI g x b i d) (i + d) (muI g x b i d (i + d) + x * b d)) T := ev_congr fun q _ => (by
      unfold putG
      by_cases hq : q = i + d
      · subst hq
        rw [if_pos rfl]
        unfold muI
        rw [if_pos (by omega), if_neg (by omega), Nat.add_sub_cancel_left]; omega
      · rw [if_neg hq]
        unfold muI
        by_cases k : i ≤ q ∧ q < i + d
        · rw [if_pos k, if_pos (by omega)]
        · rw [if_neg k, if_neg (by omega)])
    rw [step]
    unfold ev
    rw [S_put _ _ _ _ _ (by omega)]
    have this : S n (fun q => muI g x b i d q * T q) = S n (fun q => g q * T q) + x * S d (fun j => b j * T (i + j)) := ih (by omega)
    rw [this]
    show _ = S n (fun i => g i * T i) + x * (S d (fun j => b j * T (i + j)) + b d * T (i + d))
    rw [Int.mul_add, show muI g x b i d (i + d) + x * b d - muI g x b i d (i + d) = x * b d by omega, Int.mul_assoc]
    omega
theorem ev_mulP {n d : Nat} (a b T : Nat → Int) : ∀ i, i ≤ d → i + d ≤ n + 1 → ev n (mulP a b d i) T = S i fun p => a p * ev d b (fun j => T (p + j))
  | 0, _, _ => S_zero fun _ _ => Int.zero_mul _
  | i + 1, h, hn => by
    show ev n (muI (mulP a b d i) (a i) b i d) T = S i _ + _
    rw [ev_muI _ _ _ _ (by omega), ev_mulP a b T i (by omega) (by omega)]
/-- The product, in the ring. -/
def mulE (e : Nat) (a b : Nat → Int) : Nat → Int := cofE e (2 * (2 * e) - 1) (mulP a b (2 * e) (2 * e))
theorem ev_mul {e : Nat} (a b : Nat → Int) {T : Nat → Int} (hT : Rec e T) (he : 1 ≤ e) : ev (2 * e) (mulE e a b) T = S (2 * e) fun p => a p * ev (2 * e) b (fun j => T (p + j)) := by
  unfold mulE
  rw [ev_cof _ hT he (by omega) (by omega), ev_mulP a b T (2 * e) (Nat.le_refl _) (by omega)]
theorem ev_mul2 {e : Nat} (a b : Nat → Int) {T : Nat → Int} (hT : Rec e T) (he : 1 ≤ e) : ev (2 * e) (mulE e a b) T = S (2 * e) fun p => S (2 * e) fun j => a p * b j * T (p + j) := by
  rw [ev_mul a b hT he]
  refine S_congr fun p _ => ?_
  unfold ev
  rw [← S_mul]
  exact S_congr fun j _ => (Int.mul_assoc _ _ _).symm
def EqOn (d : Nat) (a b : Nat → Int) : Prop := ∀ q, q < d → a q = b q
theorem mul_comm {e : Nat} (he : 1 ≤ e) (a b : Nat → Int) : EqOn (2 * e) (mulE e a b) (mulE e b a) := fun q hq => ev_eq he (fun T hT => by
  rw [ev_mul2 a b hT he, ev_mul2 b a hT he, S_swap]
  exact S_congr fun j _ => S_congr fun p _ => by rw [Int.mul_comm (a p), Nat.add_comm]) hq
theorem ev_left {e : Nat} (a b c : Nat → Int) {T : Nat → Int} (hT : Rec e T) (he : 1 ≤ e) : ev (2 * e) (mulE e (mulE e a b) c) T = S (2 * e) fun k => c k * (S (2 * e) fun p => S (2 * e) fun j => a p * b j * T (k + (p + j))) := by
  rw [ev_mul2 _ c hT he, S_swap]
  refine S_congr fun k _ => ?_
  have := ev_mul2 a b (hT.shift k) he
  rw [← this]
  unfold ev
  rw [← S_mul]
  refine S_congr fun p _ => ?_
  rw [Nat.add_comm p k, Int.mul_comm (mulE e a b p), Int.mul_assoc]
theorem mul_assoc {e : Nat} (he : 1 ≤ e) (a b c : Nat → Int) : EqOn (2 * e) (mulE e (mulE e a b) c) (mulE e a (mulE e b c)) := fun q hq => ev_eq he (fun T hT => by
  rw [ev_left a b c hT he, ev_congr (mul_comm he a (mulE e b c)), ev_left b c a hT he]
  have l : ∀ x y z : Nat → Int, (S (2 * e) fun k => z k * (S (2 * e) fun p => S (2 * e) fun j => x p * y j * T (k + (p + j)))) = S (2 * e) fun k => S (2 * e) fun p => S (2 * e) fun j => z k * (x p * y j) * T (k + (p + j)) := fun x y z => S_congr fun k _ => by
    rw [← S_mul]
    refine S_congr fun p _ => ?_
    rw [← S_mul]
    exact S_congr fun j _ => (Int.mul_assoc _ _ _).symm
  rw [l, l]
  rw [S_swap]
  refine S_congr fun p _ => ?_
  rw [S_swap]
  refine S_congr fun j _ => S_congr fun k _ => ?_
  rw [show k + (p + j) = p + (j + k) by omega]
  congr 1
  rw [Int.mul_comm (c k), Int.mul_assoc]) hq
theorem ev_add (n : Nat) (a b T : Nat → Int) : ev n (fun i => a i + b i) T = ev n a T + ev n b T := by
  unfold ev
  rw [← S_add]
  exact S_congr fun i _ => Int.add_mul _ _ _
theorem mul_add {e : Nat} (he : 1 ≤ e) (a b c : Nat → Int) : EqOn (2 * e) (mulE e a fun i => b i + c i) (fun i => mulE e a b i + mulE e a c i) := fun q hq => ev_eq (g := mulE e a fun i => b i + c i) (h := fun i => mulE e a b i + mulE e a c i) he (fun T hT => by
  rw [ev_add _ (mulE e a b) (mulE e a c) T, ev_mul a (fun i => b i + c i) hT he, ev_mul a b hT he, ev_mul a c hT he, ← S_add]
  exact S_congr fun p _ => by rw [ev_add _ b c, Int.mul_add]) hq
theorem mul_congr {e : Nat} {a b a' b' : Nat → Int} (he : 1 ≤ e) (ha : EqOn (2 * e) a a') (hb : EqOn (2 * e) b b') : EqOn (2 * e) (mulE e a b) (mulE e a' b') := fun q hq => ev_eq he (fun T hT => by
  rw [ev_mul2 _ _ hT he, ev_mul2 _ _ hT he]
  exact S_congr fun p hp => S_congr fun j hj => by rw [ha p hp, hb j hj]) hq
def pwE (e n : Nat) : Nat → Int := fun q => cf e q n
theorem cf_all {e : Nat} {T : Nat → Int} (he : 1 ≤ e) (hT : Rec e T) : ∀ n, ev (2 * e) (pwE e n) T = T n := by
  intro n
  have hR : Rec e fun n => ev (2 * e) (pwE e n) T := fun n => by
    show ev _ _ _ = ev _ _ _ - ev _ _ _
    unfold ev
    rw [← S_sub]
    exact S_congr fun q _ => by
      show cf e q (n + 2 * e) * T q = cf e q (n + e) * T q - cf e q n * T q
      rw [cf_rec he q n, Int.sub_mul]
  have low : ∀ n, n < 2 * e → ev (2 * e) (pwE e n) T = T n := fun n hn => by
    unfold ev
    rw [S_one hn fun q hq h => by show cf e q n * T q = 0; rw [cf_low he hq hn, if_neg (fun x => h x.symm), Int.zero_mul]]
    show cf e n n * T n = T n
    rw [cf_low he hn hn, if_pos rfl, Int.one_mul]
  have key : ∀ m n, n < m → ev (2 * e) (pwE e n) T = T n := by
    intro m
    induction m with
    | zero => intro n h; omega
    | succ m ih =>
      intro n hn
      by_cases h : n < 2 * e
      · exact low n h
      · have a := hR (n - 2 * e)
        have b := hT (n - 2 * e)
        rw [show n - 2 * e + 2 * e = n by omega, show n - 2 * e + e = n - e by omega] at a b
        have x := ih (n - e) (by omega)
        have y := ih (n - 2 * e) (by omega)
        have a' : ev (2 * e) (pwE e n) T = ev (2 * e) (pwE e (n - e)) T - ev (2 * e) (pwE e (n - 2 * e)) T := a
        omega
  exact key (n + 1) n (by omega)
theorem S_linear {e n : Nat} {c T : Nat → Int} (hT : Rec e T) : Rec e fun p => S n fun j => c j * T (p + j) := fun p => by
  show S n _ = S n _ - S n _
  rw [← S_sub]
  exact S_congr fun j _ => by
    have := hT (p + j)
    rw [show p + 2 * e + j = p + j + 2 * e by omega, show p + e + j = p + j + e by omega, this, Int.mul_sub]
theorem ev_mul' {e : Nat} (a b : Nat → Int) {T : Nat → Int} (hT : Rec e T) (he : 1 ≤ e) : ev (2 * e) (mulE e a b) T = ev (2 * e) a (fun p => ev (2 * e) b fun j => T (p + j)) := ev_mul a b hT he
def bkI (e i : Nat) : Nat := (6 * e - i % (6 * e)) % (6 * e)
theorem bkI_lt {e : Nat} (he : 1 ≤ e) (i : Nat) : bkI e i < 6 * e := Nat.mod_lt _ (by omega)
theorem bkI_small {e i : Nat} (h : i < 6 * e) : bkI e i = if i = 0 then 0 else 6 * e - i := by
  unfold bkI
  rw [Nat.mod_eq_of_lt h]
  by_cases h0 : i = 0
  · rw [if_pos h0, h0, Nat.sub_zero, Nat.mod_self]
  · rw [if_neg h0, Nat.mod_eq_of_lt (by omega)]
theorem bkI_twice {e i : Nat} (h : i < 6 * e) : bkI e (bkI e i) = i := by
  rw [bkI_small h]
  by_cases h0 : i = 0
  · rw [if_pos h0, bkI_small (by omega), if_pos rfl, h0]
  · rw [if_neg h0, bkI_small (by omega), if_neg (by omega)]; omega
theorem bk_add {e : Nat} {T : Nat → Int} (hT : Rec e T) (he : 1 ≤ e) (p j : Nat) : T (bkI e p + bkI e j) = bk e T (p + j) := by
  show _ = T (bkI e (p + j))
  rw [← hT.mod (bkI e p + bkI e j)]
  congr 1
  have h1 := Nat.mod_lt p (show 0 < 6 * e by omega)
  have h2 := Nat.mod_lt j (show 0 < 6 * e by omega)
  have e0 : ∀ i, bkI e i = bkI e (i % (6 * e)) := fun i => by unfold bkI; rw [Nat.mod_mod]
  rw [e0 p, e0 j, e0 (p + j), Nat.add_mod p j]
  generalize p % (6 * e) = x at *
  generalize j % (6 * e) = y at *
  have hm : (x + y) % (6 * e) = if x + y < 6 * e then x + y else x + y - 6 * e := by
    by_cases c : x + y < 6 * e
    · rw [if_pos c, Nat.mod_eq_of_lt c]
    · rw [if_neg c, Nat.mod_eq_sub_mod (by omega), Nat.mod_eq_of_lt (by omega)]
  rw [hm, bkI_small h1, bkI_small h2]
  by_cases hx : x = 0
  · rw [if_pos hx, hx, if_pos (by omega : 0 + y < 6 * e), Nat.zero_add, Nat.zero_add, bkI_small h2]
    exact Nat.mod_eq_of_lt (by split <;> omega)
  · rw [if_neg hx]
    by_cases hy : y = 0
    · rw [if_pos hy, hy, if_pos (by omega : x + 0 < 6 * e), Nat.add_zero, Nat.add_zero, bkI_small h1, if_neg hx]
      exact Nat.mod_eq_of_lt (by omega)
    · rw [if_neg hy]
      by_cases c : x + y < 6 * e
      · rw [if_pos c, bkI_small c, if_neg (by omega), Nat.mod_eq_sub_mod (by omega), Nat.mod_eq_of_lt (by omega)]; omega
      · rw [if_neg c, bkI_small (by omega)]
        by_cases d : x + y - 6 * e = 0
        · rw [if_pos d, show 6 * e - x + (6 * e - y) = 6 * e by omega, Nat.mod_self]
        · rw [if_neg d, Nat.mod_eq_of_lt (by omega)]; omega
/-- The powers of the conjugate, so many of them laid. -/
def tbP (e : Nat) (a : Nat → Int) : Nat → (Nat → Int)
  | 0 => fun _ => 0
  | i + 1 => putG (tbP e a i) (bkI e i) (a i)
theorem tbP_free {e : Nat} (a : Nat → Int) : ∀ i q, i ≤ 6 * e → (∀ j, j < i → bkI e j ≠ q) → tbP e a i q = 0
  | 0, _, _, _ => rfl
  | i + 1, q, hi, h => by
    show putG (tbP e a i) (bkI e i) (a i) q = 0
    unfold putG
    rw [if_neg (fun x => h i (by omega) x.symm)]
    exact tbP_free a i q (by omega) fun j hj => h j (by omega)
theorem bkI_inj {e i j : Nat} (hi : i < 6 * e) (hj : j < 6 * e) (h : bkI e i = bkI e j) : i = j := by
  rw [← bkI_twice hi, h, bkI_twice hj]
theorem ev_tbP {e : Nat} (he : 1 ≤ e) (a T : Nat → Int) : ∀ i, i ≤ 6 * e → ev (6 * e) (tbP e a i) T = ev i a (bk e T)
  | 0, _ => S_zero fun _ _ => Int.zero_mul _
  | i + 1, hi => by
    show S (6 * e) (fun q => putG (tbP e a i) (bkI e i) (a i) q * T q) = S i _ + a i * bk e T i
    rw [S_put _ _ _ _ _ (bkI_lt he i)]
    have ih : S (6 * e) (fun q => tbP e a i q * T q) = S i fun q => a q * bk e T q := ev_tbP he a T i (by omega)
    rw [ih, tbP_free a i (bkI e i) (by omega) fun j hj h => absurd (bkI_inj (by omega) (by omega) h) (by omega), Int.sub_zero]
    rfl
def conjE (e : Nat) (a : Nat → Int) : Nat → Int := cofE e (6 * e) (tbP e a (2 * e))
theorem ev_conj {e : Nat} (a : Nat → Int) {T : Nat → Int} (hT : Rec e T) (he : 1 ≤ e) : ev (2 * e) (conjE e a) T = ev (2 * e) a (bk e T) := by
  unfold conjE
  rw [ev_cof _ hT he (by omega) (Nat.le_refl _), ev_tbP he a T (2 * e) (by omega)]
theorem conj_conj {e : Nat} (he : 1 ≤ e) (a : Nat → Int) : EqOn (2 * e) (conjE e (conjE e a)) a := fun q hq => ev_eq he (fun T hT => by
  rw [ev_conj _ hT he, ev_conj _ (hT.bk he) he]
  exact ev_congrT fun i hi => by
    show T (bkI e (bkI e i)) = T i
    rw [bkI_twice (by omega)]) hq
theorem conj_add {e : Nat} (he : 1 ≤ e) (a b : Nat → Int) : EqOn (2 * e) (conjE e fun i => a i + b i) (fun i => conjE e a i + conjE e b i) := fun q hq => ev_eq (g := conjE e fun i => a i + b i) (h := fun i => conjE e a i + conjE e b i) he (fun T hT => by
  rw [ev_add _ (conjE e a) (conjE e b) T, ev_conj _ hT he, ev_conj _ hT he, ev_conj _ hT he, ev_add _ a b]) hq
theorem conj_mul {e : Nat} (he : 1 ≤ e) (a b : Nat → Int) : EqOn (2 * e) (conjE e (mulE e a b)) (mulE e (conjE e a) (conjE e b)) := fun q hq => ev_eq he (fun T hT => by
  rw [ev_conj _ hT he, ev_mul2 _ _ (hT.bk he) he, ev_mul' _ _ hT he]
  have hG : Rec e fun p => ev (2 * e) (conjE e b) fun j => T (p + j) := S_linear hT
  rw [ev_conj _ hG he]
  unfold ev
  refine S_congr fun p _ => ?_
  have hb : bk e (fun p => S (2 * e) fun j => conjE e b j * T (p + j)) p = S (2 * e) fun j => b j * T (bkI e p + bkI e j) := by
    show ev (2 * e) (conjE e b) (fun j => T (bkI e p + j)) = _
    rw [ev_conj _ (hT.shift _) he]
    rfl
  rw [hb, ← S_mul]
  exact S_congr fun j _ => by rw [bk_add hT he, Int.mul_assoc]) hq
theorem S_fine {k : Nat} (hk : 1 ≤ k) (a T : Nat → Int) : ∀ n, S (n * k) (fun q => fineG k a q * T q) = S n fun i => a i * T (i * k)
  | 0 => by rw [Nat.zero_mul]; rfl
  | n + 1 => by
    have key : ∀ j, j ≤ k → S (n * k + j) (fun q => fineG k a q * T q) = S (n * k) (fun q => fineG k a q * T q) + if 0 < j then a n * T (n * k) else 0 := by
      intro j
      induction j with
      | zero => intro _; rw [if_neg (by omega), Nat.add_zero]; omega
      | succ j ih =>
        intro hj
        show S (n * k + j) _ + fineG k a (n * k + j) * T (n * k + j) = _
        rw [ih (by omega), if_pos (by omega : 0 < j + 1)]
        unfold fineG
        have hm : (n * k + j) % k = j := by rw [Nat.mul_comm, Nat.mul_add_mod, Nat.mod_eq_of_lt (by omega)]
        rw [hm]
        by_cases h0 : j = 0
        · subst h0
          rw [if_neg (by omega), if_pos rfl, Nat.add_zero, Nat.mul_div_cancel _ (by omega)]; omega
        · rw [if_pos (by omega), if_neg h0, Int.zero_mul]; omega
    rw [Nat.succ_mul, key k (Nat.le_refl _), if_pos (by omega), S_fine hk a T n]
    rfl
theorem ev_fine {e k : Nat} (hk : 1 ≤ k) (a T : Nat → Int) : ev (2 * (k * e)) (fineG k a) T = ev (2 * e) a fun n => T (n * k) := by
  unfold ev
  rw [show 2 * (k * e) = 2 * e * k by rw [Nat.mul_comm k e, Nat.mul_assoc], S_fine hk]
theorem fine_mul {e k : Nat} (he : 1 ≤ e) (hk : 1 ≤ k) (a b : Nat → Int) : EqOn (2 * (k * e)) (fineG k (mulE e a b)) (mulE (k * e) (fineG k a) (fineG k b)) := fun q hq => ev_eq (Nat.le_trans hk (Nat.le_mul_of_pos_right k he)) (fun T hT => by
  have hke : 1 ≤ k * e := Nat.le_trans hk (Nat.le_mul_of_pos_right k he)
  rw [ev_fine hk, ev_mul' _ _ hT.times he, ev_mul' _ _ hT hke, ev_fine hk]
  exact ev_congrT fun p _ => by
    show ev (2 * e) b (fun j => T ((p + j) * k)) = ev (2 * (k * e)) (fineG k b) fun j => T (p * k + j)
    rw [ev_fine hk]
    exact ev_congrT fun j _ => by
      show T ((p + j) * k) = T (p * k + j * k)
      rw [Nat.add_mul]) hq
theorem bk_times {e k : Nat} (T : Nat → Int) (_ : 1 ≤ k) (n : Nat) : bk e (fun n => T (n * k)) n = bk (k * e) T (n * k) := by
  show T ((6 * e - n % (6 * e)) % (6 * e) * k) = T ((6 * (k * e) - n * k % (6 * (k * e))) % (6 * (k * e)))
  congr 1
  have h : 6 * (k * e) = 6 * e * k := by rw [Nat.mul_comm k e, Nat.mul_assoc]
  rw [h, Nat.mul_mod_mul_right, ← Nat.sub_mul, Nat.mul_mod_mul_right]
theorem fine_conj {e k : Nat} (he : 1 ≤ e) (hk : 1 ≤ k) (a : Nat → Int) : EqOn (2 * (k * e)) (fineG k (conjE e a)) (conjE (k * e) (fineG k a)) := fun q hq => ev_eq (Nat.le_trans hk (Nat.le_mul_of_pos_right k he)) (fun T hT => by
  have hke : 1 ≤ k * e := Nat.le_trans hk (Nat.le_mul_of_pos_right k he)
  rw [ev_fine hk, ev_conj _ hT.times he, ev_conj _ hT hke, ev_fine hk]
  exact ev_congrT fun p _ => bk_times T hk p) hq
def isZ (d : Nat) (a : Nat → Int) : Prop := ∀ q, q < d → a q = 0
/-- What is a multiple of z^3 - 1. -/
def Im (e : Nat) (L : (Nat → Int) → Int) : Prop := ∃ b : Nat → Int, ∀ T, Rec e T → L T = ev (2 * e) b fun n => T (n + 3) - T n
theorem Rec.sub3 {e : Nat} {T : Nat → Int} (h : Rec e T) : Rec e fun n => T (n + 3) - T n := fun n => by
  have a := h n
  have b := h (n + 3)
  rw [show n + 3 + 2 * e = n + 2 * e + 3 by omega, show n + 3 + e = n + e + 3 by omega] at b
  show T (n + 2 * e + 3) - T (n + 2 * e) = T (n + e + 3) - T (n + e) - (T (n + 3) - T n)
  omega
theorem Im.congr {e : Nat} {L K : (Nat → Int) → Int} (h : Im e L) (hk : ∀ T, Rec e T → K T = L T) : Im e K := by
  obtain ⟨b, hb⟩ := h
  exact ⟨b, fun T hT => (hk T hT).trans (hb T hT)⟩
theorem Im.add {e : Nat} {L K : (Nat → Int) → Int} (h : Im e L) (k : Im e K) : Im e fun T => L T + K T := by
  obtain ⟨b, hb⟩ := h
  obtain ⟨c, hc⟩ := k
  exact ⟨fun i => b i + c i, fun T hT => by
    show L T + K T = _
    rw [ev_add _ b c, hb T hT, hc T hT]⟩
theorem Im.mul {e : Nat} {L : (Nat → Int) → Int} (h : Im e L) (k : Int) : Im e fun T => k * L T := by
  obtain ⟨b, hb⟩ := h
  refine ⟨fun i => k * b i, fun T hT => ?_⟩
  show k * L T = _
  rw [hb T hT]
  unfold ev
  rw [← S_mul]
  exact S_congr fun i _ => (Int.mul_assoc _ _ _).symm
theorem Im.zero (e : Nat) : Im e fun _ => 0 := ⟨fun _ => 0, fun _ _ => (S_zero fun _ _ => Int.zero_mul _).symm⟩
theorem Im.sum {e : Nat} {L : Nat → (Nat → Int) → Int} : ∀ n, (∀ i, i < n → Im e (L i)) → Im e fun T => S n fun i => L i T
  | 0, _ => Im.zero e
  | n + 1, h => (Im.sum n fun i hi => h i (by omega)).add (h n (by omega))
theorem Im.pow {e : Nat} (he : 1 ≤ e) (n : Nat) : Im e fun T => T (n + 3) - T n := ⟨pwE e n, fun _ hT => (cf_all he hT.sub3 n).symm⟩
theorem Im.pows {e : Nat} (he : 1 ≤ e) (n : Nat) : ∀ k, Im e fun T => T (n + 3 * k) - T n
  | 0 => (Im.zero e).congr fun T _ => by show T (n + 0) - T n = 0; rw [Nat.add_zero]; omega
  | k + 1 => ((Im.pows he n k).add (Im.pow he (n + 3 * k))).congr fun T _ => by
    show T (n + 3 * (k + 1)) - T n = T (n + 3 * k) - T n + (T (n + 3 * k + 3) - T (n + 3 * k))
    rw [show n + 3 * (k + 1) = n + 3 * k + 3 by omega]; omega
theorem Im.two {e : Nat} (he : 1 ≤ e) (n : Nat) : Im e fun T => 2 * T n := ((Im.pows he n e).mul (-1)).congr fun T hT => by
  show 2 * T n = -1 * (T (n + 3 * e) - T n)
  rw [hT.half]; omega
theorem S_tele (T : Nat → Int) (m : Nat) : ∀ n, S n (fun i => T (m + i + 1) - T (m + i)) = T (m + n) - T m
  | 0 => by show 0 = T (m + 0) - T m; rw [Nat.add_zero]; omega
  | n + 1 => by
    show S n _ + (T (m + n + 1) - T (m + n)) = _
    rw [S_tele T m n, show m + (n + 1) = m + n + 1 by omega]; omega
theorem Im.three {e : Nat} (he : 1 ≤ e) (n : Nat) : Im e fun T => T n + T (n + 1) + T (n + 2) := by
  refine ((Im.sum e fun i _ => Im.pow he (n + e + i)).mul (-1)).congr fun T hT => ?_
  show T n + T (n + 1) + T (n + 2) = -1 * S e fun i => T (n + e + i + 3) - T (n + e + i)
  have h : (S e fun i => T (n + e + i + 3) - T (n + e + i)) = (T (n + e + e) - T (n + e)) + (T (n + e + 1 + e) - T (n + e + 1)) + (T (n + e + 2 + e) - T (n + e + 2)) := by
    rw [← S_tele T (n + e) e, ← S_tele T (n + e + 1) e, ← S_tele T (n + e + 2) e, ← S_add, ← S_add]
    refine S_congr fun i _ => ?_
    rw [show n + e + 1 + i + 1 = n + e + i + 2 by omega, show n + e + 1 + i = n + e + i + 1 by omega, show n + e + 2 + i + 1 = n + e + i + 3 by omega, show n + e + 2 + i = n + e + i + 2 by omega]
    omega
  have a := hT n
  have b := hT (n + 1)
  have c := hT (n + 2)
  rw [h, show n + e + e = n + 2 * e by omega, show n + e + 1 + e = n + 1 + 2 * e by omega, show n + e + 2 + e = n + 2 + 2 * e by omega, show n + e + 1 = n + 1 + e by omega, show n + e + 2 = n + 2 + e by omega]
  omega
/-- The sum of a third of the coefficients. -/
def cls (n : Nat) (a : Nat → Int) (r : Nat) : Int := S n fun i => if i % 3 = r then a i else 0
theorem cls_sum (n : Nat) (a U : Nat → Int) : (S n fun i => a i * U (i % 3)) = cls n a 0 * U 0 + cls n a 1 * U 1 + cls n a 2 * U 2 := by
  induction n with
  | zero => show (0 : Int) = 0 * U 0 + 0 * U 1 + 0 * U 2; omega
  | succ n ih =>
    show (S n fun i => a i * U (i % 3)) + a n * U (n % 3) = (cls n a 0 + if n % 3 = 0 then a n else 0) * U 0 + (cls n a 1 + if n % 3 = 1 then a n else 0) * U 1 + (cls n a 2 + if n % 3 = 2 then a n else 0) * U 2
    rw [ih]
    rcases (by omega : n % 3 = 0 ∨ n % 3 = 1 ∨ n % 3 = 2) with h | h | h <;> rw [h] <;> simp [Int.add_mul] <;> omega
/-- Nought modulo the prime? -/
def phi (n : Nat) (a : Nat → Int) : Bool := (cls n a 0 - cls n a 1) % 2 == 0 && (cls n a 0 - cls n a 2) % 2 == 0
theorem phi_iff {n : Nat} {a : Nat → Int} : phi n a = true ↔ (cls n a 0 - cls n a 1) % 2 = 0 ∧ (cls n a 0 - cls n a 2) % 2 = 0 := by simp [phi]
theorem phi_div {e : Nat} (he : 1 ≤ e) {b : Nat → Int} (h : phi (2 * e) b = true) : ∃ b', ∀ T, Rec e T → ev (2 * e) b T = ev (2 * e) b' fun n => T (n + 3) - T n := by
  obtain ⟨h1, h2⟩ := phi_iff.1 h
  have s1 : Im e fun T => S (2 * e) fun q => b q * (T (q % 3 + 3 * (q / 3)) - T (q % 3)) := Im.sum (2 * e) fun q _ => (Im.pows he (q % 3) (q / 3)).mul (b q)
  have s2 : Im e fun T => cls (2 * e) b 0 * (T 0 + T (0 + 1) + T (0 + 2)) := (Im.three he 0).mul _
  have s3 : Im e fun T => (-((cls (2 * e) b 0 - cls (2 * e) b 1) / 2)) * (2 * T 1) := (Im.two he 1).mul _
  have s4 : Im e fun T => (-((cls (2 * e) b 0 - cls (2 * e) b 2) / 2)) * (2 * T 2) := (Im.two he 2).mul _
  refine (((s1.add s2).add s3).add s4).congr fun T hT => ?_
  show ev (2 * e) b T = (S (2 * e) fun q => b q * (T (q % 3 + 3 * (q / 3)) - T (q % 3))) + cls (2 * e) b 0 * (T 0 + T 1 + T 2) + (-((cls (2 * e) b 0 - cls (2 * e) b 1) / 2)) * (2 * T 1) + (-((cls (2 * e) b 0 - cls (2 * e) b 2) / 2)) * (2 * T 2)
  have e1 : (S (2 * e) fun q => b q * (T (q % 3 + 3 * (q / 3)) - T (q % 3))) = ev (2 * e) b T - (cls (2 * e) b 0 * T 0 + cls (2 * e) b 1 * T 1 + cls (2 * e) b 2 * T 2) := by
    rw [← cls_sum (2 * e) b T]
    unfold ev
    rw [← S_sub]
    exact S_congr fun q _ => by rw [Nat.mod_add_div, Int.mul_sub]
  rw [e1]
  obtain ⟨k, hk⟩ : ∃ k, cls (2 * e) b 0 - cls (2 * e) b 1 = 2 * k := ⟨_, (Int.mul_ediv_cancel' (Int.dvd_of_emod_eq_zero h1)).symm⟩
  obtain ⟨l, hl⟩ : ∃ l, cls (2 * e) b 0 - cls (2 * e) b 2 = 2 * l := ⟨_, (Int.mul_ediv_cancel' (Int.dvd_of_emod_eq_zero h2)).symm⟩
  rw [hk, hl, Int.mul_ediv_cancel_left _ (by decide), Int.mul_ediv_cancel_left _ (by decide)]
  generalize cls (2 * e) b 0 = x at *
  have hy : cls (2 * e) b 1 = x - 2 * k := by omega
  have hz : cls (2 * e) b 2 = x - 2 * l := by omega
  rw [hy, hz]
  grind
/-- z^3 times, less it. -/
def yE (e : Nat) (b : Nat → Int) : Nat → Int := fun q => mulE e (pwE e 3) b q - b q
theorem ev_pwmul {e n : Nat} (he : 1 ≤ e) (b : Nat → Int) {T : Nat → Int} (hT : Rec e T) : ev (2 * e) (mulE e (pwE e n) b) T = ev (2 * e) b fun j => T (n + j) := by
  have hG : Rec e fun p => ev (2 * e) b fun j => T (p + j) := S_linear hT
  rw [ev_mul' _ _ hT he, cf_all he hG]
theorem ev_sub (n : Nat) (a b T : Nat → Int) : ev n (fun i => a i - b i) T = ev n a T - ev n b T := by
  unfold ev
  rw [← S_sub]
  exact S_congr fun i _ => Int.sub_mul _ _ _
theorem ev_y {e : Nat} (he : 1 ≤ e) (b : Nat → Int) {T : Nat → Int} (hT : Rec e T) : ev (2 * e) (yE e b) T = ev (2 * e) b fun n => T (n + 3) - T n := by
  unfold yE
  rw [ev_sub, ev_pwmul he b hT]
  unfold ev
  rw [← S_sub]
  exact S_congr fun i _ => by
    show b i * T (3 + i) - b i * T i = b i * (T (i + 3) - T i)
    rw [Nat.add_comm 3 i, Int.mul_sub]
theorem phi_y {e : Nat} (he : 1 ≤ e) {b : Nat → Int} (h : phi (2 * e) b = true) : ∃ b', EqOn (2 * e) b (yE e b') := by
  obtain ⟨b', hb⟩ := phi_div he h
  exact ⟨b', fun q hq => ev_eq he (fun T hT => by rw [ev_y he b' hT, hb T hT]) hq⟩
theorem ev_z {e : Nat} {a : Nat → Int} (h : isZ (2 * e) a) (T : Nat → Int) : ev (2 * e) a T = 0 := S_zero fun i hi => by rw [h i hi, Int.zero_mul]
theorem z_ev {e : Nat} {a : Nat → Int} (he : 1 ≤ e) (h : ∀ T, Rec e T → ev (2 * e) a T = 0) : isZ (2 * e) a := fun q hq => ev_eq (h := fun _ => 0) he (fun T hT => by rw [h T hT]; exact (S_zero fun _ _ => Int.zero_mul _).symm) hq
theorem y_inj {e : Nat} (he : 1 ≤ e) {b : Nat → Int} (h : isZ (2 * e) (yE e b)) : isZ (2 * e) b := z_ev he fun T hT => by
  have step : ∀ U, Rec e U → (ev (2 * e) b fun n => U (n + 3)) = ev (2 * e) b U := fun U hU => by
    have a := ev_y he b hU
    rw [ev_z h] at a
    have a' : 0 = S (2 * e) fun i => b i * (U (i + 3) - U i) := a
    have : (S (2 * e) fun i => b i * (U (i + 3) - U i)) = (S (2 * e) fun i => b i * U (i + 3)) - S (2 * e) fun i => b i * U i := by
      rw [← S_sub]; exact S_congr fun i _ => Int.mul_sub _ _ _
    show (S (2 * e) fun i => b i * U (i + 3)) = S (2 * e) fun i => b i * U i
    omega
  have all : ∀ k, (ev (2 * e) b fun n => T (n + 3 * k)) = ev (2 * e) b T := fun k => by
    induction k with
    | zero => rfl
    | succ k ih =>
      rw [← ih]
      have hU : Rec e fun n => T (n + 3 * k) := fun n => by
        have := hT (n + 3 * k)
        rw [show n + 3 * k + 2 * e = n + 2 * e + 3 * k by omega, show n + 3 * k + e = n + e + 3 * k by omega] at this
        exact this
      rw [← step _ hU]
      exact ev_congrT fun i _ => by
        show T (i + 3 * (k + 1)) = T (i + 3 + 3 * k)
        rw [show i + 3 * (k + 1) = i + 3 + 3 * k by omega]
  have h3 := all e
  have h4 : (ev (2 * e) b fun n => T (n + 3 * e)) = -ev (2 * e) b T := by
    have : (ev (2 * e) b fun n => T (n + 3 * e)) = (-1) * ev (2 * e) b T := by
      unfold ev
      rw [← S_mul]
      exact S_congr fun i _ => by
        show b i * T (i + 3 * e) = -1 * (b i * T i)
        rw [hT.half]; grind
    omega
  omega
theorem y_mul {e : Nat} (he : 1 ≤ e) (a b : Nat → Int) : EqOn (2 * e) (mulE e a (yE e b)) (yE e (mulE e a b)) := fun q hq => ev_eq he (fun T hT => by
  rw [ev_mul' _ _ hT he, ev_y he _ hT, ev_mul' _ _ hT.sub3 he]
  exact ev_congrT fun p _ => by
    show ev (2 * e) (yE e b) (fun j => T (p + j)) = ev (2 * e) b fun j => T (p + j + 3) - T (p + j)
    rw [ev_y he _ (hT.shift p)]
    rfl) hq
theorem par_F (x0 x1 x2 y0 y1 y2 : Int) (h : ((x0 * y0 + x1 * y2 + x2 * y1) - (x0 * y1 + x1 * y0 + x2 * y2)) % 2 = 0 ∧ ((x0 * y0 + x1 * y2 + x2 * y1) - (x0 * y2 + x1 * y1 + x2 * y0)) % 2 = 0) :
    ((x0 - x1) % 2 = 0 ∧ (x0 - x2) % 2 = 0) ∨ ((y0 - y1) % 2 = 0 ∧ (y0 - y2) % 2 = 0) := by
  have red : ∀ a b : Int, (a * b) % 2 = (a % 2) * (b % 2) % 2 := fun a b => Int.mul_emod a b 2
  have two : ∀ a : Int, a % 2 = 0 ∨ a % 2 = 1 := fun a => by omega
  have k1 := red x0 y0; have k2 := red x0 y1; have k3 := red x0 y2
  have k4 := red x1 y0; have k5 := red x1 y1; have k6 := red x1 y2
  have k7 := red x2 y0; have k8 := red x2 y1; have k9 := red x2 y2
  generalize x0 * y0 = p1 at *
  generalize x0 * y1 = p2 at *
  generalize x0 * y2 = p3 at *
  generalize x1 * y0 = p4 at *
  generalize x1 * y1 = p5 at *
  generalize x1 * y2 = p6 at *
  generalize x2 * y0 = p7 at *
  generalize x2 * y1 = p8 at *
  generalize x2 * y2 = p9 at *
  rcases two x0 with a | a <;> rcases two x1 with b | b <;> rcases two x2 with c | c <;> rcases two y0 with d | d <;> rcases two y1 with f | f <;> rcases two y2 with g | g <;> rw [a, d] at k1 <;> rw [a, f] at k2 <;> rw [a, g] at k3 <;> rw [b, d] at k4 <;> rw [b, f] at k5 <;> rw [b, g] at k6 <;> rw [c, d] at k7 <;> rw [c, f] at k8 <;> rw [c, g] at k9 <;> omega
/-- The numbers of the classes, multiplied. -/
def clP (n : Nat) (a b : Nat → Int) (r : Nat) : Int := match r with
  | 0 => cls n a 0 * cls n b 0 + cls n a 1 * cls n b 2 + cls n a 2 * cls n b 1
  | 1 => cls n a 0 * cls n b 1 + cls n a 1 * cls n b 0 + cls n a 2 * cls n b 2
  | _ => cls n a 0 * cls n b 2 + cls n a 1 * cls n b 1 + cls n a 2 * cls n b 0
/-- What goes round by threes is kept by the ring's rule up to 2 times, where T2 = T1 + T0 is kept modulo 2. -/
def par (r : Nat) : Int := if r = 0 then 0 else 1
/-- A sequence of the ring that is, modulo 2, one of the two of the field of four. -/
def seqF (e s : Nat) : Nat → Int := fun n => S (2 * e) fun q => par ((q + s) % 3) * cf e q n
theorem seqF_rec {e : Nat} (he : 1 ≤ e) (s : Nat) : Rec e (seqF e s) := fun n => by
  show S _ _ = S _ _ - S _ _
  rw [← S_sub]
  exact S_congr fun q _ => by rw [cf_rec he q n, Int.mul_sub]
theorem seqF_par {e : Nat} (he : 1 ≤ e) (h3 : e % 3 ≠ 0) (s : Nat) : ∀ n, (seqF e s n - par ((n + s) % 3)) % 2 = 0 := by
  have low : ∀ n, n < 2 * e → seqF e s n = par ((n + s) % 3) := fun n hn => by
    unfold seqF
    rw [S_one hn fun q hq h => by rw [cf_low he hq hn, if_neg (fun x => h x.symm), Int.mul_zero], cf_low he hn hn, if_pos rfl, Int.mul_one]
  have key : ∀ m n, n < m → (seqF e s n - par ((n + s) % 3)) % 2 = 0 := by
    intro m
    induction m with
    | zero => intro n h; omega
    | succ m ih =>
      intro n hn
      by_cases h : n < 2 * e
      · rw [low n h]; omega
      · have a := seqF_rec he s (n - 2 * e)
        rw [show n - 2 * e + 2 * e = n by omega, show n - 2 * e + e = n - e by omega] at a
        have x := ih (n - e) (by omega)
        have y := ih (n - 2 * e) (by omega)
        have p : (par ((n + s) % 3) + par ((n - e + s) % 3) + par ((n - 2 * e + s) % 3)) % 2 = 0 := by
          have q1 : (n + s) % 3 = 0 ∨ (n + s) % 3 = 1 ∨ (n + s) % 3 = 2 := by omega
          have q2 : e % 3 = 1 ∨ e % 3 = 2 := by omega
          rcases q1 with q1 | q1 | q1 <;> rcases q2 with q2 | q2 <;> rw [q1]
          · rw [show (n - e + s) % 3 = 2 by omega, show (n - 2 * e + s) % 3 = 1 by omega]; decide
          · rw [show (n - e + s) % 3 = 1 by omega, show (n - 2 * e + s) % 3 = 2 by omega]; decide
          · rw [show (n - e + s) % 3 = 0 by omega, show (n - 2 * e + s) % 3 = 2 by omega]; decide
          · rw [show (n - e + s) % 3 = 2 by omega, show (n - 2 * e + s) % 3 = 0 by omega]; decide
          · rw [show (n - e + s) % 3 = 1 by omega, show (n - 2 * e + s) % 3 = 0 by omega]; decide
          · rw [show (n - e + s) % 3 = 0 by omega, show (n - 2 * e + s) % 3 = 1 by omega]; decide
        omega
  exact fun n => key (n + 1) n (by omega)
theorem S_mod2 {n : Nat} {f g : Nat → Int} (h : ∀ i, i < n → (f i - g i) % 2 = 0) : (S n f - S n g) % 2 = 0 := by
  induction n with
  | zero => rfl
  | succ n ih =>
    have a := ih fun i hi => h i (by omega)
    have b := h n (by omega)
    show (S n f + f n - (S n g + g n)) % 2 = 0
    omega
theorem mul_mod2 (a x y : Int) (h : (x - y) % 2 = 0) : (a * x - a * y) % 2 = 0 := by
  rw [← Int.mul_sub, Int.mul_emod, h]; simp
theorem ev_par {e : Nat} (he : 1 ≤ e) (h3 : e % 3 ≠ 0) (s : Nat) (a : Nat → Int) : (ev (2 * e) a (seqF e s) - (cls (2 * e) a 0 * par (s % 3) + cls (2 * e) a 1 * par ((1 + s) % 3) + cls (2 * e) a 2 * par ((2 + s) % 3))) % 2 = 0 := by
  have c := cls_sum (2 * e) a fun r => par ((r + s) % 3)
  simp only [Nat.zero_add] at c
  rw [← c]
  unfold ev
  refine S_mod2 fun i _ => mul_mod2 _ _ _ ?_
  have := seqF_par he h3 s i
  rw [show (i % 3 + s) % 3 = (i + s) % 3 by omega]
  exact this
theorem phi_ev {e : Nat} (he : 1 ≤ e) (h3 : e % 3 ≠ 0) (a : Nat → Int) : phi (2 * e) a = true ↔ ev (2 * e) a (seqF e 0) % 2 = 0 ∧ ev (2 * e) a (seqF e 1) % 2 = 0 := by
  have a0 := ev_par he h3 0 a
  have a1 := ev_par he h3 1 a
  rw [show par (0 % 3) = 0 by decide, show par ((1 + 0) % 3) = 1 by decide, show par ((2 + 0) % 3) = 1 by decide] at a0
  rw [show par (1 % 3) = 1 by decide, show par ((1 + 1) % 3) = 1 by decide, show par ((2 + 1) % 3) = 0 by decide] at a1
  rw [phi_iff]
  omega
theorem phi_mul {e : Nat} (he : 1 ≤ e) (h3 : e % 3 ≠ 0) {a b : Nat → Int} (h : phi (2 * e) (mulE e a b) = true) : phi (2 * e) a = true ∨ phi (2 * e) b = true := by
  have key : ∀ s, (ev (2 * e) (mulE e a b) (seqF e s) - (clP (2 * e) a b 0 * par (s % 3) + clP (2 * e) a b 1 * par ((1 + s) % 3) + clP (2 * e) a b 2 * par ((2 + s) % 3))) % 2 = 0 := fun s => by
    rw [ev_mul2 _ _ (seqF_rec he s) he]
    have inner : ∀ p, (S (2 * e) (fun j => a p * b j * seqF e s (p + j)) - a p * (cls (2 * e) b 0 * par ((p % 3 + s) % 3) + cls (2 * e) b 1 * par ((1 + (p % 3 + s)) % 3) + cls (2 * e) b 2 * par ((2 + (p % 3 + s)) % 3))) % 2 = 0 := fun p => by
      have c := cls_sum (2 * e) b fun r => par ((r + (p % 3 + s)) % 3)
      simp only [Nat.zero_add] at c
      rw [← c, ← S_mul]
      refine S_mod2 fun j _ => ?_
      rw [Int.mul_assoc]
      refine mul_mod2 _ _ _ (mul_mod2 _ _ _ ?_)
      have := seqF_par he h3 s (p + j)
      rw [show (j % 3 + (p % 3 + s)) % 3 = (p + j + s) % 3 by omega]
      exact this
    have outer := S_mod2 (n := 2 * e) fun p _ => inner p
    have c := cls_sum (2 * e) a fun r => cls (2 * e) b 0 * par ((r + s) % 3) + cls (2 * e) b 1 * par ((1 + (r + s)) % 3) + cls (2 * e) b 2 * par ((2 + (r + s)) % 3)
    rw [c] at outer
    unfold clP
    have m3 : (1 + (2 + s)) % 3 = s % 3 := by omega
    have m4 : (2 + (1 + s)) % 3 = s % 3 := by omega
    have m5 : (2 + (2 + s)) % 3 = (1 + s) % 3 := by omega
    have m1 : (1 + (1 + s)) % 3 = (2 + s) % 3 := by omega
    rw [Nat.zero_add, m1, m3, m4, m5] at outer
    generalize par (s % 3) = t0 at *
    generalize par ((1 + s) % 3) = t1 at *
    generalize par ((2 + s) % 3) = t2 at *
    generalize (S (2 * e) fun i => S (2 * e) fun j => a i * b j * seqF e s (i + j)) = z at *
    simp only
    grind
  have k0 := key 0
  have k1 := key 1
  rw [show par (0 % 3) = 0 by decide, show par ((1 + 0) % 3) = 1 by decide, show par ((2 + 0) % 3) = 1 by decide] at k0
  rw [show par (1 % 3) = 1 by decide, show par ((1 + 1) % 3) = 1 by decide, show par ((2 + 1) % 3) = 0 by decide] at k1
  obtain ⟨h0, h1⟩ := (phi_ev he h3 _).1 h
  have q0 : (clP (2 * e) a b 0 - clP (2 * e) a b 1) % 2 = 0 := by omega
  have q1 : (clP (2 * e) a b 0 - clP (2 * e) a b 2) % 2 = 0 := by omega
  rcases par_F _ _ _ _ _ _ ⟨q0, q1⟩ with x | x
  · exact Or.inl (phi_iff.2 x)
  · exact Or.inr (phi_iff.2 x)
def dl (T : Nat → Int) : Nat → Int := fun n => T (n + 3) - T n
def dlN : Nat → (Nat → Int) → (Nat → Int)
  | 0, T => T
  | k + 1, T => dl (dlN k T)
theorem dlN_rec {e : Nat} {T : Nat → Int} (hT : Rec e T) : ∀ k, Rec e (dlN k T)
  | 0 => hT
  | k + 1 => (dlN_rec hT k).sub3
theorem dl_mod {T U : Nat → Int} (h : ∀ n, (T n - U n) % 2 = 0) (n : Nat) : (dl T n - dl U n) % 2 = 0 := by
  have a := h n
  have b := h (n + 3)
  unfold dl
  omega
theorem dlN_mod {T U : Nat → Int} (h : ∀ n, (T n - U n) % 2 = 0) : ∀ k n, (dlN k T n - dlN k U n) % 2 = 0
  | 0, n => h n
  | k + 1, n => dl_mod (dlN_mod h k) n
theorem dlN_add (T : Nat → Int) (j : Nat) : ∀ k, dlN (k + j) T = dlN k (dlN j T)
  | 0 => by rw [Nat.zero_add]; rfl
  | k + 1 => by
    rw [show k + 1 + j = k + j + 1 by omega]
    show dl (dlN (k + j) T) = dl (dlN k (dlN j T))
    rw [dlN_add T j k]
theorem dlN_two (T : Nat → Int) : ∀ t n, (dlN (2 ^ t) T n - (T (n + 3 * 2 ^ t) - T n)) % 2 = 0 := by
  intro t
  induction t generalizing T with
  | zero => intro n; show (dl T n - (T (n + 3) - T n)) % 2 = 0; unfold dl; omega
  | succ t ih =>
    intro n
    rw [show 2 ^ (t + 1) = 2 ^ t + 2 ^ t by omega, dlN_add]
    have a := dlN_mod (ih T) (2 ^ t) n
    have b := ih (fun n => T (n + 3 * 2 ^ t) - T n) n
    have e1 : n + 3 * 2 ^ t + 3 * 2 ^ t = n + 3 * (2 ^ t + 2 ^ t) := by omega
    have b' : (dlN (2 ^ t) (fun n => T (n + 3 * 2 ^ t) - T n) n - (T (n + 3 * (2 ^ t + 2 ^ t)) - T (n + 3 * 2 ^ t) - (T (n + 3 * 2 ^ t) - T n))) % 2 = 0 := by rw [← e1]; exact b
    omega
def yN (e : Nat) : Nat → (Nat → Int) → (Nat → Int)
  | 0, b => b
  | k + 1, b => yN e k (yE e b)
theorem ev_yN {e : Nat} (he : 1 ≤ e) {T : Nat → Int} (hT : Rec e T) : ∀ k (b : Nat → Int), ev (2 * e) (yN e k b) T = ev (2 * e) b (dlN k T)
  | 0, _ => rfl
  | k + 1, b => by
    show ev (2 * e) (yN e k (yE e b)) T = _
    rw [ev_yN he hT k, ev_y he b (dlN_rec hT k)]
    rfl
theorem S_even {n : Nat} {f : Nat → Int} (h : ∀ i, i < n → f i % 2 = 0) : S n f % 2 = 0 := by
  have := S_mod2 (n := n) (f := f) (g := fun _ => 0) fun i hi => by have := h i hi; simpa using this
  rw [S_zero (f := fun _ => 0) fun _ _ => rfl] at this
  simpa using this
theorem yN_even {e t : Nat} (he : e = 2 ^ t) (b : Nat → Int) {q : Nat} (hq : q < 2 * e) : yN e e b q % 2 = 0 := by
  have h1 : 1 ≤ e := by rw [he]; exact Nat.one_le_two_pow
  rw [← ev_cf (yN e e b) h1 hq, ev_yN h1 (cf_rec h1 q)]
  unfold ev
  refine S_even fun i _ => ?_
  have a := dlN_two (cf e q) t i
  rw [← he, (cf_rec h1 q).half] at a
  have : dlN e (cf e q) i % 2 = 0 := by omega
  rw [Int.mul_emod, this]; simp
theorem isZ_congr {d : Nat} {a b : Nat → Int} (h : EqOn d a b) (z : isZ d b) : isZ d a := fun q hq => (h q hq).trans (z q hq)
theorem EqOn.symm {d : Nat} {a b : Nat → Int} (h : EqOn d a b) : EqOn d b a := fun q hq => (h q hq).symm
theorem EqOn.trans {d : Nat} {a b c : Nat → Int} (h : EqOn d a b) (k : EqOn d b c) : EqOn d a c := fun q hq => (h q hq).trans (k q hq)
theorem EqOn.rfl {d : Nat} {a : Nat → Int} : EqOn d a a := fun _ _ => Eq.refl _
theorem yN_congr {e : Nat} (he : 1 ≤ e) {a b : Nat → Int} (h : EqOn (2 * e) a b) (k : Nat) : EqOn (2 * e) (yN e k a) (yN e k b) := fun q hq => ev_eq he (fun T hT => by
  rw [ev_yN he hT, ev_yN he hT]
  exact ev_congr h) hq
theorem yN_inj {e : Nat} (he : 1 ≤ e) : ∀ k (b : Nat → Int), isZ (2 * e) (yN e k b) → isZ (2 * e) b
  | 0, _, h => h
  | k + 1, b, h => y_inj he (yN_inj he k (yE e b) h)
theorem dlN_ev {e n : Nat} (b T : Nat → Int) : ∀ k p, dlN k (fun p => ev n b fun j => T (p + j)) p = ev n b fun j => dlN k T (p + j)
  | 0, _ => rfl
  | k + 1, p => by
    show dlN k _ (p + 3) - dlN k _ p = ev n b fun j => dlN k T (p + j + 3) - dlN k T (p + j)
    rw [dlN_ev (e := e) b T k (p + 3), dlN_ev (e := e) b T k p]
    unfold ev
    rw [← S_sub]
    exact S_congr fun j _ => by
      show b j * dlN k T (p + 3 + j) - b j * dlN k T (p + j) = b j * (dlN k T (p + j + 3) - dlN k T (p + j))
      rw [show p + 3 + j = p + j + 3 by omega, Int.mul_sub]
theorem yN_mul {e : Nat} (he : 1 ≤ e) (c b : Nat → Int) (k : Nat) : EqOn (2 * e) (mulE e (yN e k c) b) (yN e k (mulE e c b)) := fun q hq => ev_eq he (fun T hT => by
  have hG : Rec e fun p => ev (2 * e) b fun j => T (p + j) := S_linear hT
  rw [ev_mul' _ _ hT he, ev_yN he hG, ev_yN he hT, ev_mul' _ _ (dlN_rec hT k) he]
  exact ev_congrT fun p _ => dlN_ev (e := e) b T k p) hq
def sz : Nat → (Nat → Int) → Nat
  | 0, _ => 0
  | n + 1, a => sz n a + (a n).natAbs
theorem sz_zero : ∀ {d : Nat} {a : Nat → Int}, sz d a = 0 → isZ d a
  | 0, _, _, _, hq => absurd hq (Nat.not_lt_zero _)
  | d + 1, a, h, q, hq => by
    have h' : sz d a + (a d).natAbs = 0 := h
    by_cases hd : q = d
    · subst hd; omega
    · exact sz_zero (d := d) (by omega) q (by omega)
theorem sz_half : ∀ {d : Nat} {a : Nat → Int}, (∀ q, q < d → a q % 2 = 0) → 2 * sz d (fun q => a q / 2) = sz d a
  | 0, _, _ => rfl
  | d + 1, a, h => by
    have ih := sz_half (d := d) (a := a) fun q hq => h q (by omega)
    have hd := h d (by omega)
    show 2 * (sz d (fun q => a q / 2) + (a d / 2).natAbs) = sz d a + (a d).natAbs
    omega
theorem mul_two {e : Nat} (he : 1 ≤ e) (a b : Nat → Int) : EqOn (2 * e) (mulE e a fun q => 2 * b q) (fun q => 2 * mulE e a b q) := fun q hq => ev_eq (g := mulE e a fun q => 2 * b q) (h := fun q => 2 * mulE e a b q) he (fun T hT => by
  have l : ∀ (c : Nat → Int) U, ev (2 * e) (fun q => 2 * c q) U = 2 * ev (2 * e) c U := fun c U => by
    unfold ev
    rw [← S_mul]
    exact S_congr fun i _ => Int.mul_assoc _ _ _
  rw [l (mulE e a b) T, ev_mul _ _ hT he, ev_mul _ _ hT he, ← S_mul]
  exact S_congr fun p _ => by rw [l b]; grind) hq
theorem mul_half {e : Nat} (he : 1 ≤ e) (a b : Nat → Int) (hb : ∀ q, q < 2 * e → b q % 2 = 0) (h : isZ (2 * e) (mulE e a b)) : isZ (2 * e) (mulE e a fun q => b q / 2) := fun q hq => by
  have h1 := mul_congr he (EqOn.rfl (a := a)) (b := b) (b' := fun q => 2 * (b q / 2)) (fun q hq => by have := hb q hq; show b q = 2 * (b q / 2); omega) q hq
  have h2 := mul_two he a (fun q => b q / 2) q hq
  have h3 := h q hq
  have h4 : 2 * mulE e a (fun q => b q / 2) q = 0 := h2.symm.trans (h1.symm.trans h3)
  omega
theorem cls_z {d : Nat} {a : Nat → Int} (h : isZ d a) (r : Nat) : cls d a r = 0 := S_zero fun i hi => by
  by_cases c : i % 3 = r
  · rw [if_pos c, h i hi]
  · rw [if_neg c]
theorem phi_z {d : Nat} {a : Nat → Int} (h : isZ d a) : phi d a = true := phi_iff.2 ⟨by rw [cls_z h, cls_z h]; rfl, by rw [cls_z h, cls_z h]; rfl⟩
theorem div_all {e t : Nat} (he : e = 2 ^ t) (h3 : e % 3 ≠ 0) {a b : Nat → Int} (ha : phi (2 * e) a = false) (h : isZ (2 * e) (mulE e a b)) : ∀ q, q < 2 * e → b q % 2 = 0 := by
  have h1 : 1 ≤ e := by rw [he]; exact Nat.one_le_two_pow
  have key : ∀ k, ∃ c, EqOn (2 * e) b (yN e k c) ∧ isZ (2 * e) (mulE e a c) := by
    intro k
    induction k with
    | zero => exact ⟨b, EqOn.rfl, h⟩
    | succ k ih =>
      obtain ⟨c, hc, hz⟩ := ih
      have hp : phi (2 * e) c = true := by
        rcases phi_mul h1 h3 (phi_z hz) with x | x
        · rw [x] at ha; cases ha
        · exact x
      obtain ⟨c', hc'⟩ := phi_y h1 hp
      refine ⟨c', hc.trans (yN_congr h1 hc' k), y_inj h1 ?_⟩
      exact isZ_congr ((y_mul h1 a c').symm.trans (mul_congr h1 EqOn.rfl hc'.symm)) hz
  obtain ⟨c, hc, _⟩ := key e
  intro q hq
  rw [hc q hq]
  exact yN_even he c hq
theorem prim {e t : Nat} (he : e = 2 ^ t) (h3 : e % 3 ≠ 0) {a : Nat → Int} (ha : phi (2 * e) a = false) : ∀ n b, sz (2 * e) b ≤ n → isZ (2 * e) (mulE e a b) → isZ (2 * e) b := by
  have h1 : 1 ≤ e := by rw [he]; exact Nat.one_le_two_pow
  intro n
  induction n with
  | zero => exact fun b hb _ => sz_zero (by omega)
  | succ n ih =>
    intro b hb hz
    by_cases h0 : sz (2 * e) b = 0
    · exact sz_zero h0
    · have ev2 := div_all he h3 ha hz
      have hs := sz_half ev2
      have z2 := ih (fun q => b q / 2) (by omega) (mul_half h1 a b ev2 hz)
      intro q hq
      have k : b q / 2 = 0 := z2 q hq
      have := ev2 q hq
      omega
theorem norm {e t : Nat} (he : e = 2 ^ t) : ∀ n a, sz (2 * e) a ≤ n → ¬ isZ (2 * e) a → ∃ a1, phi (2 * e) a1 = false ∧ ∀ b, isZ (2 * e) (mulE e a b) → isZ (2 * e) (mulE e a1 b) := by
  have h1 : 1 ≤ e := by rw [he]; exact Nat.one_le_two_pow
  intro n
  induction n with
  | zero => exact fun a ha hz => absurd (sz_zero (by omega)) hz
  | succ n ih =>
    intro a ha hz
    have key : ∀ k, (∃ a1, phi (2 * e) a1 = false ∧ ∀ b, isZ (2 * e) (mulE e a b) → isZ (2 * e) (mulE e a1 b)) ∨ ∃ c, EqOn (2 * e) a (yN e k c) := by
      intro k
      induction k with
      | zero => exact Or.inr ⟨a, EqOn.rfl⟩
      | succ k ihk =>
        rcases ihk with x | ⟨c, hc⟩
        · exact Or.inl x
        · cases hp : phi (2 * e) c with
          | true =>
            obtain ⟨c', hc'⟩ := phi_y h1 hp
            exact Or.inr ⟨c', hc.trans (yN_congr h1 hc' k)⟩
          | false =>
            refine Or.inl ⟨c, hp, fun b hb => yN_inj h1 k _ ?_⟩
            exact isZ_congr ((yN_mul h1 c b k).symm.trans (mul_congr h1 hc.symm EqOn.rfl)) hb
    rcases key e with x | ⟨c, hc⟩
    · exact x
    · have ev2 : ∀ q, q < 2 * e → a q % 2 = 0 := fun q hq => by rw [hc q hq]; exact yN_even he c hq
      have hs := sz_half ev2
      have h0 : sz (2 * e) a ≠ 0 := fun x => hz (sz_zero x)
      obtain ⟨a1, p, f⟩ := ih (fun q => a q / 2) (by omega) fun z => hz fun q hq => by
        have k : a q / 2 = 0 := z q hq
        have := ev2 q hq
        omega
      refine ⟨a1, p, fun b hb => f b ?_⟩
      have := mul_half h1 b a ev2 (isZ_congr (mul_comm h1 b a) hb)
      exact isZ_congr (mul_comm h1 _ b) this
/-- No product of others is 0. -/
theorem no_zero {e t : Nat} (he : e = 2 ^ t) {a b : Nat → Int} : isZ (2 * e) (mulE e a b) ↔ isZ (2 * e) a ∨ isZ (2 * e) b := by
  have h1 : 1 ≤ e := by rw [he]; exact Nat.one_le_two_pow
  have h3 : e % 3 ≠ 0 := by
    rw [he]
    have : ∀ t, 2 ^ t % 3 = 1 ∨ 2 ^ t % 3 = 2 := fun t => by
      induction t with
      | zero => exact Or.inl rfl
      | succ t ih => omega
    have := this t
    omega
  constructor
  · intro h
    by_cases hz : isZ (2 * e) a
    · exact Or.inl hz
    · obtain ⟨a1, p, f⟩ := norm he _ a (Nat.le_refl _) hz
      exact Or.inr (prim he h3 p _ b (Nat.le_refl _) (f b h))
  · intro h
    refine z_ev h1 fun T hT => ?_
    rw [ev_mul2 _ _ hT h1]
    rcases h with h | h
    · exact S_zero fun p hp => S_zero fun j _ => by rw [h p hp]; grind
    · exact S_zero fun p _ => S_zero fun j hj => by rw [h j hj]; grind
end Go.Proofs.Ytjhijkdicmbbiaa.Rin
