/-
  What RingFiner shares with RingZero. Nothing here is trusted.
-/
import Derived.Test.YtjhijkdicmbbiaaHTRl4
namespace Go.Proofs.Ytjhijkdicmbbiaa
open Go Vx Go.RowKit
theorem dfine {m : Int} (h : fineB m = true) : decide (m.toNat / 3 ≤ 4611686018427387904) = true := by
  have hc := fine_cases h
  exact decide_eq_true (by omega)
theorem bself (b : Bool) : (b == b) = true := by cases b <;> rfl
theorem ors : (∀ b : Bool, (false || b) = b) ∧ (∀ b : Bool, (true || b) = true) := ⟨fun b => by cases b <;> rfl, fun b => by cases b <;> rfl⟩
theorem rz_facts {M : Int} (hM : fineB M = true) {a b : Nat → Int} (ha : bd 999 a) (hb : bd 999 b) :
    (bd 255488256 (Rin.mulE (M.toNat / 6) a b) ∧ bd 3996 (Rin.conjE (M.toNat / 6) a) ∧ bd 3996 (Rin.conjE (M.toNat / 6) b) ∧ bd 1021953024 (Rin.mulE (M.toNat / 6) a (Rin.conjE (M.toNat / 6) a)) ∧ bd 1998 fun q => a q + b q) ∧
    (bd 1021953024 (Rin.conjE (M.toNat / 6) (Rin.mulE (M.toNat / 6) a b)) ∧ bd 7992 (Rin.conjE (M.toNat / 6) fun q => a q + b q) ∧ bd 4087812096 (Rin.mulE (M.toNat / 6) (Rin.conjE (M.toNat / 6) a) (Rin.conjE (M.toNat / 6) b)) ∧ (bd 7992 fun q => Rin.conjE (M.toNat / 6) a q + Rin.conjE (M.toNat / 6) b q) ∧ bd 15984 (Rin.conjE (M.toNat / 6) (Rin.conjE (M.toNat / 6) a))) := by
  have hc := fine_cases hM
  have he : M.toNat / 6 ≤ 32 := by omega
  have p := mulE_B (e := M.toNat / 6) ha hb (P := 998001) (Q := 255488256) (by decide) (by decide) he (by decide)
  have c := conj_B (e := M.toNat / 6) (B := 999) (Q := 3996) (by decide) ha (by decide)
  have d := conj_B (e := M.toNat / 6) (B := 999) (Q := 3996) (by decide) hb (by decide)
  have n := mulE_B (e := M.toNat / 6) ha c (P := 3992004) (Q := 1021953024) (by decide) (by decide) he (by decide)
  have s := add_B ha hb (Q := 1998) (by decide)
  exact ⟨⟨p, c, d, n, s⟩, conj_B (by decide) p (by decide), conj_B (by decide) s (by decide), mulE_B c d (P := 15968016) (by decide) (by decide) he (by decide), add_B c d (by decide), conj_B (by decide) c (by decide)⟩
end Go.Proofs.Ytjhijkdicmbbiaa
