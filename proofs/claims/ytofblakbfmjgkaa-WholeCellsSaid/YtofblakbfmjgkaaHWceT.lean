/-
  Closed forms of what the whole statement of cells draws from bytes. No program in sight. Nothing here is trusted.
-/
import Derived.Test.YtofblakbfmjgkaaHWceM
import Derived.Test.YtofblakbfmjgkaaHBasN
namespace Go.Proofs.Ytofblakbfmjgkaa.Vx
open Go
def tTDot (u v : V3) : Option Value := some (vI (dotR u.x u.y u.z v.x v.y v.z))
def fTDot (u v : V3) : Value := vI (W (u.x * v.x + u.y * v.y + u.z * v.z))
theorem tTDot_eq (u v : V3) : tTDot u v = some (fTDot u v) := by
  unfold tTDot fTDot
  rw [dotR_W]
def prodWM (m n : M3) : M3 := ⟨dotR m.a m.b m.c n.a n.d n.g, dotR m.a m.b m.c n.b n.e n.h, dotR m.a m.b m.c n.c n.f n.i, dotR m.d m.e m.f n.a n.d n.g, dotR m.d m.e m.f n.b n.e n.h, dotR m.d m.e m.f n.c n.f n.i, dotR m.g m.h m.i n.a n.d n.g, dotR m.g m.h m.i n.b n.e n.h, dotR m.g m.h m.i n.c n.f n.i⟩
def tTimesW (m n : M3) : Option Value := some (prodWM m n).v
theorem tTimesW_eq (m n : M3) : tTimesW m n = some (fProduct m n) := by
  unfold tTimesW fProduct prodWM M3.w M3.mul
  simp only [dotR_W]
/-- An 8-bit number with a sign, as an integer, and its rest by twelve. -/
def e12 (k : Int) : Int := Int.tmod k 12
theorem e12_bd (k : Int) : -11 ≤ e12 k ∧ e12 k ≤ 11 := by
  unfold e12
  rcases Int.le_total 0 k with h | h
  · have := Int.tmod_nonneg 12 h
    have := Int.tmod_lt_of_pos k (show (0 : Int) < 12 by decide)
    omega
  · have h2 : Int.tmod k 12 = - Int.tmod (-k) 12 := by rw [Int.neg_tmod]; omega
    have := Int.tmod_nonneg 12 (show 0 ≤ -k by omega)
    have := Int.tmod_lt_of_pos (-k) (show (0 : Int) < 12 by decide)
    omega
def e12M (a b c d e f g h i : Int) : M3 := ⟨e12 a, e12 b, e12 c, e12 d, e12 e, e12 f, e12 g, e12 h, e12 i⟩
def mB (m : M3) : Prop := m.Bd 11
theorem e12M_bd (a b c d e f g h i : Int) : mB (e12M a b c d e f g h i) := by
  unfold mB M3.Bd e12M
  exact ⟨e12_bd _, e12_bd _, e12_bd _, e12_bd _, e12_bd _, e12_bd _, e12_bd _, e12_bd _, e12_bd _⟩
end Go.Proofs.Ytofblakbfmjgkaa.Vx
