/-
  Adjugates, rows and transposed matrices: closed forms. Nothing here is trusted.
-/
import Derived.Test.YtagnkjdobkdhmabPwT
namespace Go.Proofs.Ytagnkjdobkdhmab.Vx
open Go
def adjW (m : M3) : List Int := [minR m.e m.i m.f m.h, minR m.h m.c m.i m.b, minR m.b m.f m.c m.e, minR m.f m.g m.d m.i, minR m.i m.a m.g m.c, minR m.c m.d m.a m.f, minR m.d m.h m.e m.g, minR m.g m.b m.h m.a, minR m.a m.e m.b m.d]
def tAdjugate (m : M3) : Option Value := chainO mkMe [(m.ck != 0, zeros9 m.ck)] (adjW m ++ [0])
def M3.adjF (m : M3) : M3 := bif m.ok then m.adj else M3.zero
def fAdjugate (m : M3) : Value := p2 m.adjF.v (vI m.ck)
theorem adjW_eq {m : M3} (h : m.ok = true) : adjW m = m.adj.l := by
  obtain ⟨h0, h1, h2, h3, h4, h5, h6, h7, h8⟩ := (M3.ok_iff.1 h).adj.mono (show 2 * (1000 * 1000) ≤ 9000000000000000000 by omega)
  simp only [M3.adj] at h0 h1 h2 h3 h4 h5 h6 h7 h8
  simp only [adjW, M3.adj, M3.l]
  rw [minR_in h0, minR_in h1, minR_in h2, minR_in h3, minR_in h4, minR_in h5, minR_in h6, minR_in h7, minR_in h8]
theorem tAdjugate_eq (m : M3) : tAdjugate m = some (fAdjugate m) := by
  unfold tAdjugate fAdjugate M3.adjF
  rw [chain_eq]
  unfold M3.ck
  cases h : m.ok
  · rfl
  · rw [adjW_eq h]; rfl
def M3.tp (m : M3) : M3 := ⟨m.a, m.d, m.g, m.b, m.e, m.h, m.c, m.f, m.i⟩
def tTranspose (m : M3) : Option Value := chainO mkMe [(m.ck != 0, zeros9 m.ck)] (m.tp.l ++ [0])
def M3.tpF (m : M3) : M3 := bif m.ok then m.tp else M3.zero
def fTranspose (m : M3) : Value := p2 m.tpF.v (vI m.ck)
theorem tTranspose_eq (m : M3) : tTranspose m = some (fTranspose m) := by
  unfold tTranspose fTranspose M3.tpF
  rw [chain_eq]
  unfold M3.ck
  cases h : m.ok <;> rfl
def M3.left (v : V3) (m : M3) : V3 := ⟨v.x * m.a + v.y * m.d + v.z * m.g, v.x * m.b + v.y * m.e + v.z * m.h, v.x * m.c + v.y * m.f + v.z * m.i⟩
theorem M3.left_eq (v : V3) (m : M3) : M3.left v m = m.tp.app v := by
  unfold M3.left M3.tp M3.app
  simp only [Int.mul_comm]
def leftW (v : V3) (m : M3) : List Int := [dotR v.x v.y v.z m.a m.d m.g, dotR v.x v.y v.z m.b m.e m.h, dotR v.x v.y v.z m.c m.f m.i]
def tLeft (v : V3) (m : M3) : Option Value := chainO mkVe [((bif m.ok && v.ok then 0 else 4 : Int) != 0, [0, 0, 0, bif m.ok && v.ok then 0 else 4])] (leftW v m ++ [0])
def M3.leftF (v : V3) (m : M3) : V3 := bif m.ok && v.ok then M3.left v m else V3.zero
def fLeft (v : V3) (m : M3) : Value := p2 (M3.leftF v m).v (vI (bif m.ok && v.ok then 0 else 4))
theorem M3.Bd.tp {n : Int} {m : M3} (h : m.Bd n) : m.tp.Bd n := by unfold M3.Bd M3.tp at *; simp only; omega
theorem leftW_eq {m : M3} {v : V3} (h : (M3.left v m).Bd 9000000000000000000) : leftW v m = (M3.left v m).l := by
  obtain ⟨h0, h1, h2⟩ := h
  simp only [leftW, V3.l]
  rw [dotR_in h0, dotR_in h1, dotR_in h2]
  rfl
theorem tLeft_eq (v : V3) (m : M3) : tLeft v m = some (fLeft v m) := by
  unfold tLeft fLeft M3.leftF
  rw [chain_eq]
  cases h1 : m.ok <;> cases h2 : v.ok <;> simp only [cond_true, cond_false, Bool.and_true, Bool.and_false, chainL, bne_self_eq_false]
  · rfl
  · rfl
  · rfl
  · rw [leftW_eq (by rw [M3.left_eq]; exact ((M3.ok_iff.1 h1).tp.app (V3.ok_iff.1 h2)).mono (by omega))]; rfl
def tTm (m n : M3) : Option Value := some (lM (prodW m n)).v
theorem prodW_w (m n : M3) : lM (prodW m n) = (m.mul n).w := by
  refine M3.ext' ⟨?_, ?_, ?_, ?_, ?_, ?_, ?_, ?_, ?_⟩ <;> exact dotR_W _ _ _ _ _ _
theorem tTm_eq (m n : M3) : tTm m n = some (fTimesM m n) := by unfold tTm fTimesM; rw [prodW_w]
end Go.Proofs.Ytagnkjdobkdhmab.Vx
