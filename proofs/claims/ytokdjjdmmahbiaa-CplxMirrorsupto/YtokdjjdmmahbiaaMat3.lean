/-
  Matrices of three rows of whole numbers, columns, affine maps modulo 24: their algebra. No program in sight. Nothing here is trusted.
-/
import Derived.Test.YtokdjjdmmahbiaaChain
namespace Go.Proofs.Ytokdjjdmmahbiaa.Vx
open Go

structure M3 where
  (a b c d e f g h i : Int)
structure V3 where
  (x y z : Int)

theorem M3.ext' {m n : M3} (h : m.a = n.a ∧ m.b = n.b ∧ m.c = n.c ∧ m.d = n.d ∧ m.e = n.e ∧ m.f = n.f ∧ m.g = n.g ∧ m.h = n.h ∧ m.i = n.i) : m = n := by
  cases m; cases n; simp only [M3.mk.injEq]; exact h
theorem V3.ext' {m n : V3} (h : m.x = n.x ∧ m.y = n.y ∧ m.z = n.z) : m = n := by
  cases m; cases n; simp only [V3.mk.injEq]; exact h

def M3.mul (m n : M3) : M3 :=
  ⟨m.a * n.a + m.b * n.d + m.c * n.g, m.a * n.b + m.b * n.e + m.c * n.h, m.a * n.c + m.b * n.f + m.c * n.i,
   m.d * n.a + m.e * n.d + m.f * n.g, m.d * n.b + m.e * n.e + m.f * n.h, m.d * n.c + m.e * n.f + m.f * n.i,
   m.g * n.a + m.h * n.d + m.i * n.g, m.g * n.b + m.h * n.e + m.i * n.h, m.g * n.c + m.h * n.f + m.i * n.i⟩
def M3.one : M3 := ⟨1, 0, 0, 0, 1, 0, 0, 0, 1⟩
def M3.zero : M3 := ⟨0, 0, 0, 0, 0, 0, 0, 0, 0⟩
def M3.det (m : M3) : Int := m.a * (m.e * m.i - m.f * m.h) + m.b * (m.f * m.g - m.d * m.i) + m.c * (m.d * m.h - m.e * m.g)
def M3.adj (m : M3) : M3 :=
  ⟨m.e * m.i - m.f * m.h, m.h * m.c - m.i * m.b, m.b * m.f - m.c * m.e, m.f * m.g - m.d * m.i, m.i * m.a - m.g * m.c, m.c * m.d - m.a * m.f, m.d * m.h - m.e * m.g, m.g * m.b - m.h * m.a, m.a * m.e - m.b * m.d⟩
def M3.smul (k : Int) (m : M3) : M3 := ⟨m.a * k, m.b * k, m.c * k, m.d * k, m.e * k, m.f * k, m.g * k, m.h * k, m.i * k⟩
def M3.tr (m : M3) : Int := m.a + m.e + m.i
def M3.neg (m : M3) : M3 := ⟨-m.a, -m.b, -m.c, -m.d, -m.e, -m.f, -m.g, -m.h, -m.i⟩
def M3.inv (m : M3) : M3 := m.adj.smul m.det
def M3.app (m : M3) (v : V3) : V3 := ⟨m.a * v.x + m.b * v.y + m.c * v.z, m.d * v.x + m.e * v.y + m.f * v.z, m.g * v.x + m.h * v.y + m.i * v.z⟩
def V3.zero : V3 := ⟨0, 0, 0⟩
def V3.add (u v : V3) : V3 := ⟨u.x + v.x, u.y + v.y, u.z + v.z⟩
def V3.neg (u : V3) : V3 := ⟨-u.x, -u.y, -u.z⟩
def V3.md (m : Int) (u : V3) : V3 := ⟨u.x % m, u.y % m, u.z % m⟩

theorem M3.mul_assoc (m n o : M3) : (m.mul n).mul o = m.mul (n.mul o) := by
  refine M3.ext' ⟨?_, ?_, ?_, ?_, ?_, ?_, ?_, ?_, ?_⟩ <;> (simp only [M3.mul]; grind)
theorem M3.one_mul (m : M3) : M3.one.mul m = m := by
  refine M3.ext' ⟨?_, ?_, ?_, ?_, ?_, ?_, ?_, ?_, ?_⟩ <;> (simp only [M3.mul, M3.one]; omega)
theorem M3.mul_one (m : M3) : m.mul M3.one = m := by
  refine M3.ext' ⟨?_, ?_, ?_, ?_, ?_, ?_, ?_, ?_, ?_⟩ <;> (simp only [M3.mul, M3.one]; omega)
theorem M3.det_mul (m n : M3) : (m.mul n).det = m.det * n.det := by
  simp only [M3.det, M3.mul]; grind
theorem M3.mul_adj (m : M3) : m.mul m.adj = M3.one.smul m.det := by
  refine M3.ext' ⟨?_, ?_, ?_, ?_, ?_, ?_, ?_, ?_, ?_⟩ <;> (simp only [M3.mul, M3.adj, M3.smul, M3.det, M3.one]; grind)
theorem M3.adj_mul (m : M3) : m.adj.mul m = M3.one.smul m.det := by
  refine M3.ext' ⟨?_, ?_, ?_, ?_, ?_, ?_, ?_, ?_, ?_⟩ <;> (simp only [M3.mul, M3.adj, M3.smul, M3.det, M3.one]; grind)
theorem M3.mul_smul (k : Int) (m n : M3) : m.mul (n.smul k) = (m.mul n).smul k := by
  refine M3.ext' ⟨?_, ?_, ?_, ?_, ?_, ?_, ?_, ?_, ?_⟩ <;> (simp only [M3.mul, M3.smul]; grind)
theorem M3.smul_mul (k : Int) (m n : M3) : (m.smul k).mul n = (m.mul n).smul k := by
  refine M3.ext' ⟨?_, ?_, ?_, ?_, ?_, ?_, ?_, ?_, ?_⟩ <;> (simp only [M3.mul, M3.smul]; grind)
theorem M3.smul_smul (k l : Int) (m : M3) : (m.smul k).smul l = m.smul (k * l) := by
  refine M3.ext' ⟨?_, ?_, ?_, ?_, ?_, ?_, ?_, ?_, ?_⟩ <;> (simp only [M3.smul]; grind)
theorem M3.smul_one (m : M3) : m.smul 1 = m := by
  refine M3.ext' ⟨?_, ?_, ?_, ?_, ?_, ?_, ?_, ?_, ?_⟩ <;> (simp only [M3.smul]; omega)

/-- The determinant is 1 or -1. -/
def M3.U (m : M3) : Prop := m.det = 1 ∨ m.det = -1
theorem M3.U.sq {m : M3} (h : m.U) : m.det * m.det = 1 := by rcases h with h | h <;> rw [h] <;> rfl
theorem M3.mul_inv {m : M3} (h : m.U) : m.mul m.inv = M3.one := by
  unfold M3.inv; rw [M3.mul_smul, M3.mul_adj, M3.smul_smul, h.sq, M3.smul_one]
theorem M3.inv_mul {m : M3} (h : m.U) : m.inv.mul m = M3.one := by
  unfold M3.inv; rw [M3.smul_mul, M3.adj_mul, M3.smul_smul, h.sq, M3.smul_one]
theorem M3.det_one : M3.one.det = 1 := by decide
theorem M3.U_one : M3.one.U := Or.inl M3.det_one
theorem M3.U_mul {m n : M3} (hm : m.U) (hn : n.U) : (m.mul n).U := by
  unfold M3.U
  rw [M3.det_mul]
  rcases hm with h | h <;> rcases hn with k | k <;> rw [h, k] <;> decide
theorem M3.det_inv {m : M3} (h : m.U) : m.inv.det = m.det := by
  have e := congrArg M3.det (M3.mul_inv h)
  rw [M3.det_mul, M3.det_one] at e
  rcases h with h | h <;> rw [h] at e ⊢ <;> omega
theorem M3.U_inv {m : M3} (h : m.U) : m.inv.U := by unfold M3.U; rw [M3.det_inv h]; exact h
/-- What undoes from the right is the inverse. -/
theorem M3.inv_unique {m n : M3} (h : m.U) (e : m.mul n = M3.one) : n = m.inv := by
  have := congrArg (M3.mul m.inv) e
  rwa [← M3.mul_assoc, M3.inv_mul h, M3.one_mul, M3.mul_one] at this
theorem M3.inv_inv {m : M3} (h : m.U) : m.inv.inv = m := (M3.inv_unique (M3.U_inv h) (M3.inv_mul h)).symm
theorem M3.cancel_left {m n o : M3} (h : m.U) (e : m.mul n = m.mul o) : n = o := by
  have := congrArg (M3.mul m.inv) e
  rwa [← M3.mul_assoc, ← M3.mul_assoc, M3.inv_mul h, M3.one_mul, M3.one_mul] at this
theorem M3.comm_one {m n : M3} (h : m.U) (e : m.mul n = M3.one) : n.mul m = M3.one := by
  rw [M3.inv_unique h e, M3.inv_mul h]

theorem M3.app_mul (m n : M3) (v : V3) : (m.mul n).app v = m.app (n.app v) := by
  refine V3.ext' ⟨?_, ?_, ?_⟩ <;> (simp only [M3.mul, M3.app]; grind)
theorem M3.app_one (v : V3) : M3.one.app v = v := by
  refine V3.ext' ⟨?_, ?_, ?_⟩ <;> (simp only [M3.app, M3.one]; omega)
theorem M3.app_add (m : M3) (u v : V3) : m.app (u.add v) = (m.app u).add (m.app v) := by
  refine V3.ext' ⟨?_, ?_, ?_⟩ <;> (simp only [M3.app, V3.add]; grind)
theorem M3.app_neg (m : M3) (u : V3) : m.app u.neg = (m.app u).neg := by
  refine V3.ext' ⟨?_, ?_, ?_⟩ <;> (simp only [M3.app, V3.neg]; grind)

def M3.pow (m : M3) : Nat → M3
  | 0 => M3.one
  | n + 1 => m.mul (m.pow n)
theorem M3.pow_one (m : M3) : m.pow 1 = m := M3.mul_one m
theorem M3.pow_add (m : M3) (k : Nat) : ∀ n, m.pow (n + k) = (m.pow n).mul (m.pow k)
  | 0 => by rw [Nat.zero_add]; exact (M3.one_mul _).symm
  | n + 1 => by rw [show n + 1 + k = (n + k) + 1 by omega]; simp only [M3.pow]; rw [M3.pow_add m k n, M3.mul_assoc]
theorem M3.U_pow {m : M3} (h : m.U) : ∀ n, (m.pow n).U
  | 0 => M3.U_one
  | n + 1 => M3.U_mul h (M3.U_pow h n)

/-- Powers: a power is the identity just where it is so a multiple of the least one. -/
def M3.IsOrd (m : M3) (n : Nat) : Prop := 0 < n ∧ m.pow n = M3.one ∧ ∀ k, 0 < k → k < n → m.pow k ≠ M3.one
theorem M3.pow_mul_one {m : M3} {n : Nat} (h : m.pow n = M3.one) : ∀ k, m.pow (n * k) = M3.one
  | 0 => rfl
  | k + 1 => by rw [Nat.mul_succ, M3.pow_add, M3.pow_mul_one h k, h]; exact M3.one_mul _
theorem M3.IsOrd.dvd {m : M3} {n : Nat} (h : m.IsOrd n) (k : Nat) : m.pow k = M3.one ↔ n ∣ k := by
  constructor
  · intro hk
    have e : k = n * (k / n) + k % n := (Nat.div_add_mod k n).symm
    rw [e, M3.pow_add, M3.pow_mul_one h.2.1, M3.one_mul] at hk
    have hlt := Nat.mod_lt k h.1
    rcases Nat.eq_zero_or_pos (k % n) with h0 | h0
    · exact Nat.dvd_of_mod_eq_zero h0
    · exact absurd hk (h.2.2 _ h0 hlt)
  · rintro ⟨q, rfl⟩; exact M3.pow_mul_one h.2.1 q
theorem M3.IsOrd.unique {m : M3} {n k : Nat} (h : m.IsOrd n) (g : m.IsOrd k) : n = k := Nat.dvd_antisymm ((h.dvd k).1 g.2.1) ((g.dvd n).1 h.2.1)
/-- The least power is the first of 1, 2, 3, 4, 6 that is the identity. -/
theorem M3.ord1 {m : M3} (h : m = M3.one) : m.IsOrd 1 := ⟨by omega, by rw [M3.pow_one]; exact h, fun k h1 h2 => by omega⟩
theorem M3.ord2 {m : M3} (h1 : m ≠ M3.one) (h2 : m.pow 2 = M3.one) : m.IsOrd 2 := by
  refine ⟨by omega, h2, fun k k1 k2 => ?_⟩
  obtain rfl : k = 1 := by omega
  rw [M3.pow_one]; exact h1
theorem M3.ord3 {m : M3} (h1 : m ≠ M3.one) (h3 : m.pow 3 = M3.one) : m.IsOrd 3 := by
  refine ⟨by omega, h3, fun k k1 k2 hk => ?_⟩
  have : k = 1 ∨ k = 2 := by omega
  rcases this with rfl | rfl
  · rw [M3.pow_one] at hk; exact h1 hk
  · rw [show (3 : Nat) = 1 + 2 from rfl, M3.pow_add, hk, M3.mul_one, M3.pow_one] at h3; exact h1 h3
theorem M3.ord4 {m : M3} (h1 : m ≠ M3.one) (h2 : m.pow 2 ≠ M3.one) (h4 : m.pow 4 = M3.one) : m.IsOrd 4 := by
  refine ⟨by omega, h4, fun k k1 k2 hk => ?_⟩
  have : k = 1 ∨ k = 2 ∨ k = 3 := by omega
  rcases this with rfl | rfl | rfl
  · rw [M3.pow_one] at hk; exact h1 hk
  · exact h2 hk
  · rw [show (4 : Nat) = 1 + 3 from rfl, M3.pow_add, hk, M3.mul_one, M3.pow_one] at h4; exact h1 h4
theorem M3.ord6 {m : M3} (h1 : m ≠ M3.one) (h2 : m.pow 2 ≠ M3.one) (h3 : m.pow 3 ≠ M3.one) (h6 : m.pow 6 = M3.one) : m.IsOrd 6 := by
  refine ⟨by omega, h6, fun k k1 k2 hk => ?_⟩
  have : k = 1 ∨ k = 2 ∨ k = 3 ∨ k = 4 ∨ k = 5 := by omega
  rcases this with rfl | rfl | rfl | rfl | rfl
  · rw [M3.pow_one] at hk; exact h1 hk
  · exact h2 hk
  · exact h3 hk
  · rw [show (6 : Nat) = 2 + 4 from rfl, M3.pow_add, hk, M3.mul_one] at h6; exact h2 h6
  · rw [show (6 : Nat) = 1 + 5 from rfl, M3.pow_add, hk, M3.mul_one, M3.pow_one] at h6; exact h1 h6

/-- Told from elsewhere. -/
theorem M3.conj_pow {m p q : M3} (hpq : q.mul p = M3.one) (hqp : p.mul q = M3.one) : ∀ n, ((p.mul m).mul q).pow n = (p.mul (m.pow n)).mul q
  | 0 => by simp only [M3.pow]; rw [M3.mul_one, hqp]
  | n + 1 => by
    simp only [M3.pow]
    rw [M3.conj_pow hpq hqp n, M3.mul_assoc (p.mul m) q, ← M3.mul_assoc q, ← M3.mul_assoc q p, hpq, M3.one_mul, M3.mul_assoc p m, ← M3.mul_assoc m, ← M3.mul_assoc p, ← M3.mul_assoc p]
theorem M3.conj_one {m p q : M3} (hpq : q.mul p = M3.one) (hqp : p.mul q = M3.one) : (p.mul m).mul q = M3.one ↔ m = M3.one := by
  constructor
  · intro h
    have := congrArg (fun x => (q.mul x).mul p) h
    rw [M3.mul_one, hpq, ← M3.mul_assoc, ← M3.mul_assoc, hpq, M3.one_mul, M3.mul_assoc, hpq, M3.mul_one] at this
    exact this
  · rintro rfl; rw [M3.mul_one, hqp]
theorem M3.conj_ord {m p q : M3} (hpq : q.mul p = M3.one) (hqp : p.mul q = M3.one) {n : Nat} (h : m.IsOrd n) : ((p.mul m).mul q).IsOrd n := by
  refine ⟨h.1, ?_, fun k k1 k2 => ?_⟩
  · rw [M3.conj_pow hpq hqp, M3.conj_one hpq hqp]; exact h.2.1
  · rw [M3.conj_pow hpq hqp, Ne, M3.conj_one hpq hqp]; exact h.2.2 k k1 k2
/-- Undone. -/
theorem M3.pow_comm (m : M3) : ∀ n, (m.pow n).mul m = m.mul (m.pow n)
  | 0 => by simp only [M3.pow]; rw [M3.one_mul, M3.mul_one]
  | n + 1 => by simp only [M3.pow]; rw [M3.mul_assoc, M3.pow_comm m n]
theorem M3.inv_pow {m : M3} (h : m.U) : ∀ n, (m.pow n).mul (m.inv.pow n) = M3.one
  | 0 => M3.one_mul _
  | n + 1 => by
    have e : m.pow (n + 1) = (m.pow n).mul m := (M3.pow_comm m n).symm
    rw [e]
    simp only [M3.pow]
    rw [M3.mul_assoc, ← M3.mul_assoc m, M3.mul_inv h, M3.one_mul, M3.inv_pow h n]
theorem M3.inv_ord {m : M3} (h : m.U) {n : Nat} (g : m.IsOrd n) : m.inv.IsOrd n := by
  have key : ∀ k, m.inv.pow k = M3.one ↔ m.pow k = M3.one := fun k => by
    have e := M3.inv_pow h k
    constructor
    · intro hk; rwa [hk, M3.mul_one] at e
    · intro hk; rwa [hk, M3.one_mul] at e
  exact ⟨g.1, (key n).2 g.2.1, fun k k1 k2 hk => g.2.2 k k1 k2 ((key k).1 hk)⟩
end Go.Proofs.Ytokdjjdmmahbiaa.Vx
