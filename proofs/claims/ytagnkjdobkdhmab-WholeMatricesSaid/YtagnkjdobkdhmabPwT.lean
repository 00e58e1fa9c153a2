/-
  What the statement VecPowers asks. No program in sight. Nothing here is trusted.
-/
import Derived.Test.YtagnkjdobkdhmabFinB
namespace Go.Proofs.Ytagnkjdobkdhmab.Vx
open Go
def fIdent : Value := M3.one.v
def tIdent : Option Value := some M3.one.v
theorem tIdent_eq : tIdent = some fIdent := rfl
def M3.mulE (q m : M3) : Int := bif q.ok && m.ok then 0 else 4
def maxI (n : Int) : Int := if 1 > n then 1 else n
def mulQ (m : M3) : Nat → M3 → M3
  | 0, q => q
  | j + 1, q => match q.mulE m != 0 with
    | true => q.mulF m
    | false => mulQ m j (q.mulF m)
def powI (m q : M3) (n e k : Int) : Bool := inB 3 m.l && (unitB m.det && (n == m.ordF && (e == m.ordE && (decide (1 ≤ k) && (decide (k ≤ 13) && q.eqB (m.pow (k - 1).toNat))))))
theorem M3.B3_iff {m : M3} : inB 3 m.l = true ↔ m.B3 := by
  unfold M3.l M3.B3
  rw [inB_iff]
  simp only [List.mem_cons, List.not_mem_nil, or_false, forall_eq_or_imp, forall_eq]
theorem powI_iff {m q : M3} {n e k : Int} : powI m q n e k = true ↔ m.B3 ∧ m.U ∧ n = m.ordF ∧ e = m.ordE ∧ 1 ≤ k ∧ k ≤ 13 ∧ q = m.pow (k - 1).toNat := by
  unfold powI
  simp only [Bool.and_eq_true, beq_iff_eq, decide_eq_true_eq, M3.eqB_iff, M3.B3_iff, unitB_iff]
  rfl
theorem M3.B3.form {m : M3} (h : m.B3) (hu : m.U) : m.form = 0 := by
  refine M3.form_zero.2 ⟨M3.ok_iff.2 ?_, hu⟩
  unfold M3.B3 at h; unfold M3.Bd; omega
theorem pow_step {m q : M3} {n e k : Int} (h : powI m q n e k = true) (hk : k ≤ 12) (he : q.mulE m = 0) : powI m (q.mulF m) n e (k + 1) = true ∧ ((e == 0) = true → (maxI n == 0) = false ∧ ((q.mulF m).eqB M3.one != (Int.tmod k (maxI n) == 0)) = false) ∧ ((e == 0) = false → ((q.mulF m).eqB M3.one != false) = false) := by
  obtain ⟨h1, h2, h3, h4, h5, h6, h7⟩ := powI_iff.1 h
  have hf := h1.form h2
  have hok : (q.ok && m.ok) = true := by
    unfold M3.mulE at he
    cases hc : q.ok && m.ok with
    | true => rfl
    | false => rw [hc] at he; cases he
  have hm : q.mulF m = m.pow (k + 1 - 1).toNat := by
    unfold M3.mulF
    rw [hok, show (k + 1 - 1).toNat = (k - 1).toNat + 1 by omega, h7]
    simp only [cond_true, M3.pow]
    exact M3.pow_comm _ _
  refine ⟨powI_iff.2 ⟨h1, h2, h3, h4, by omega, by omega, hm⟩, ?_, ?_⟩
  · intro he0
    have hI : m.ordI ≠ 0 := by
      intro h0
      rw [h4] at he0
      unfold M3.ordE at he0
      rw [hf, h0] at he0
      exact absurd he0 (by decide)
    have hn : n = m.ordI := by rw [h3]; unfold M3.ordF; rw [hf]; rfl
    obtain ⟨N, e1, g1, g2⟩ := M3.ordI_spec hI
    have hpos := g1.1
    have hmax : maxI n = N := by unfold maxI; rw [hn, e1]; split <;> omega
    refine ⟨by rw [hmax]; simp; omega, ?_⟩
    have : (q.mulF m).eqB M3.one = (Int.tmod k (maxI n) == 0) := beq_of_iff (by
      rw [M3.eqB_iff, hm, g1.dvd, hmax, beq_iff_eq, show k + 1 - 1 = k by omega, Int.tmod_eq_emod_of_nonneg (by omega), ← Int.dvd_iff_emod_eq_zero]
      obtain ⟨K, rfl⟩ := Int.eq_ofNat_of_zero_le (show 0 ≤ k by omega)
      rw [Int.toNat_natCast, Int.natCast_dvd_natCast])
    rw [this]; simp
  · intro he0
    have hI : m.ordI = 0 := by
      rw [h4] at he0
      unfold M3.ordE at he0
      rw [hf] at he0
      cases hc : m.ordI == 0 with
      | true => simpa using hc
      | false => rw [hc] at he0; exact absurd he0 (by decide)
    have : (q.mulF m).eqB M3.one = false := by
      rw [M3.eqB_false, hm]
      intro hone
      exact fin_order h1 h2 (k := (k + 1 - 1).toNat) (by omega) (by omega) hone hI
    rw [this]; rfl
end Go.Proofs.Ytagnkjdobkdhmab.Vx
