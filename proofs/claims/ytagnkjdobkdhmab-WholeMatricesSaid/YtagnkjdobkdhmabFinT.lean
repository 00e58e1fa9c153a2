/-
  Whole matrices of small entries: a power up to the twelfth is the identity only where one of the powers 1, 2, 3, 4, 6 is.
  No program in sight. Nothing here is trusted.
-/
import Derived.Test.YtagnkjdobkdhmabOrdT
namespace Go.Proofs.Ytagnkjdobkdhmab.Vx
open Go

def M3.sr (m : M3) : Int := (m.e * m.i - m.f * m.h) + (m.i * m.a - m.g * m.c) + (m.a * m.e - m.b * m.d)
def M3.ent (m : M3) : Nat → Int
  | 0 => m.a | 1 => m.b | 2 => m.c | 3 => m.d | 4 => m.e | 5 => m.f | 6 => m.g | 7 => m.h | _ => m.i
theorem M3.ent_ext {m n : M3} (h : ∀ j, m.ent j = n.ent j) : m = n :=
  M3.ext' ⟨h 0, h 1, h 2, h 3, h 4, h 5, h 6, h 7, h 8⟩
theorem V3.ch (m : M3) (v : V3) : (m.app (m.app (m.app v))).x = m.tr * (m.app (m.app v)).x - m.sr * (m.app v).x + m.det * v.x ∧
    (m.app (m.app (m.app v))).y = m.tr * (m.app (m.app v)).y - m.sr * (m.app v).y + m.det * v.y ∧
    (m.app (m.app (m.app v))).z = m.tr * (m.app (m.app v)).z - m.sr * (m.app v).z + m.det * v.z := by
  simp only [M3.app, M3.tr, M3.sr, M3.det]
  refine ⟨?_, ?_, ?_⟩ <;> grind
theorem M3.ch (m n : M3) (j : Nat) : (m.mul (m.mul (m.mul n))).ent j = m.tr * (m.mul (m.mul n)).ent j - m.sr * (m.mul n).ent j + m.det * n.ent j := by
  have h1 := V3.ch m ⟨n.a, n.d, n.g⟩
  have h2 := V3.ch m ⟨n.b, n.e, n.h⟩
  have h3 := V3.ch m ⟨n.c, n.f, n.i⟩
  match j with
  | 0 => exact h1.1
  | 1 => exact h2.1
  | 2 => exact h3.1
  | 3 => exact h1.2.1
  | 4 => exact h2.2.1
  | 5 => exact h3.2.1
  | 6 => exact h1.2.2
  | 7 => exact h2.2.2
  | 8 => exact h3.2.2
  | k + 9 => exact h3.2.2
theorem M3.pow_rec {m : M3} (hd : m.det = 1) (j k : Nat) : (m.pow (k + 3)).ent j = m.tr * (m.pow (k + 2)).ent j - m.sr * (m.pow (k + 1)).ent j + (m.pow k).ent j := by
  have := M3.ch m (m.pow k) j
  rw [hd, Int.one_mul] at this
  exact this
theorem M3.tr_rec {m : M3} (hd : m.det = 1) (k : Nat) : (m.pow (k + 3)).tr = m.tr * (m.pow (k + 2)).tr - m.sr * (m.pow (k + 1)).tr + (m.pow k).tr := by
  have h0 := M3.pow_rec hd 0 k
  have h4 := M3.pow_rec hd 4 k
  have h8 := M3.pow_rec hd 8 k
  simp only [M3.ent] at h0 h4 h8
  unfold M3.tr at *
  rw [h0, h4, h8]
  grind
theorem M3.tr_two (m : M3) : (m.pow 2).tr = m.tr * m.tr - 2 * m.sr := by
  rw [M3.pow2]; unfold M3.tr M3.sr M3.mul; grind
/-! Traces that come again -/
def goT (t s : Int) : Nat → Int → Int → Int → Bool
  | 0, _, _, _ => true
  | n + 1, x, y, z => !(y == 3 && z == t && t * z - s * y + x == t * t - 2 * s) && goT t s n y z (t * z - s * y + x)
def fewB (t s : Int) : Bool := (t == s) && (t == 3 || t == -1 || t == 0 || t == 1 || t == 2)
def allT : Bool := (List.range 19).all fun a => (List.range 109).all fun b => fewB ((a : Int) - 9) ((b : Int) - 54) || goT ((a : Int) - 9) ((b : Int) - 54) 24 3 ((a : Int) - 9) (((a : Int) - 9) * ((a : Int) - 9) - 2 * ((b : Int) - 54))
theorem goT_spec {t s : Int} {f : Nat → Int} (hr : ∀ k, f (k + 3) = t * f (k + 2) - s * f (k + 1) + f k) : ∀ (n k : Nat), goT t s n (f k) (f (k + 1)) (f (k + 2)) = true → ∀ j, k < j → j ≤ k + n → ¬ (f j = 3 ∧ f (j + 1) = t ∧ f (j + 2) = t * t - 2 * s)
  | 0, k, _, j, h1, h2 => by omega
  | n + 1, k, h, j, h1, h2 => by
    simp only [goT, Bool.and_eq_true] at h
    rw [← hr] at h
    by_cases hj : j = k + 1
    · subst hj
      rintro ⟨a, b, c⟩
      have := h.1
      rw [show k + 1 + 1 = k + 2 from rfl] at b
      rw [show k + 1 + 2 = k + 3 from rfl] at c
      rw [a, b, c] at this
      simp at this
    · exact goT_spec hr n (k + 1) h.2 j (by omega) (by omega)
end Go.Proofs.Ytagnkjdobkdhmab.Vx
