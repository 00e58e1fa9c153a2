/-
  WholeCells answers true. Nothing here is trusted.
-/
import Derived.Test.YtofblakbfmjgkaaHWceI
namespace Go.Proofs.Ytofblakbfmjgkaa
open Go Vx Go.RowKit
theorem u8_bounds {n : Int} (h : (Lit.int .u8 n).wf = true) : 0 ≤ n ∧ n < 256 := by
  simp [Lit.wf, IntKind.min, IntKind.max, IntKind.signed, IntKind.bits] at h
  omega
theorem w8_bd {n : Int} (h : (Lit.int .i8 n).wf = true) : -128 ≤ W n ∧ W n ≤ 128 := by
  have := i8_bounds h
  rw [W_in (by omega)]
  omega
theorem w11_bd {n : Int} (h : (Lit.int .u8 n).wf = true) : -5 ≤ w11 n ∧ w11 n ≤ 5 := by
  obtain ⟨a, b⟩ := u8_bounds h
  have p := Int.tmod_nonneg 11 a
  have q := Int.tmod_lt_of_pos n (show (0 : Int) < 11 by decide)
  unfold w11
  rw [W_in (n := Int.tmod n 11) (by omega), W_in (by omega)]
  omega
theorem wcLaw (b0 b1 b2 b3 b4 b5 b6 b7 b8 : Int) (_ : ∀ n ∈ [b0, b1, b2, b3, b4, b5, b6, b7, b8], (Lit.int .i8 n).wf = true) (x y z : Int) (u1 : ∀ n ∈ [x, y, z], (Lit.int .i8 n).wf = true) (u v w : Int) (u2 : ∀ n ∈ [u, v, w], (Lit.int .i8 n).wf = true) (i j l : Int) (u3 : ∀ n ∈ [i, j, l], (Lit.int .u8 n).wf = true) (k : Int) (u4 : (Lit.int .u8 k).wf = true) :
    PlainSem Try.prog 17 [.agg (intsK .i8 [b0, b1, b2, b3, b4, b5, b6, b7, b8]).toArray, .agg (intsK .i8 [x, y, z]).toArray, .agg (intsK .i8 [u, v, w]).toArray, .agg (intsK .u8 [i, j, l]).toArray, .int .u8 k] (.bool true) := by
  have hk := u8_bounds u4
  refine wcS b0 b1 b2 b3 b4 b5 b6 b7 b8 x y z u v w i j l k ?_ (fun hz => mck_det (by rw [gram_det, hz]; rfl)) (fun hd => wcGood (w12M_bd b0 b1 b2 b3 b4 b5 b6 b7 b8) hd ?_ ?_ ?_ k)
  · rw [decide_eq_true hk.1, decide_eq_true hk.2]; rfl
  · exact ⟨w8_bd (u1 x (by simp)), w8_bd (u1 y (by simp)), w8_bd (u1 z (by simp))⟩
  · exact ⟨w8_bd (u2 u (by simp)), w8_bd (u2 v (by simp)), w8_bd (u2 w (by simp))⟩
  · exact ⟨w11_bd (u3 i (by simp)), w11_bd (u3 j (by simp)), w11_bd (u3 l (by simp))⟩
end Go.Proofs.Ytofblakbfmjgkaa
