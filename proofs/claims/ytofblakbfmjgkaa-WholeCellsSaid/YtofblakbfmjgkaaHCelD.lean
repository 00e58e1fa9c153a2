/-
  Spacings against edges; lowest terms of four times a ratio. No program in sight. Nothing here is trusted.
-/
import Derived.Test.YtofblakbfmjgkaaKai
namespace Go.Proofs.Ytofblakbfmjgkaa.Vx
open Go
structure LowSpec (a d : Int) : Prop where
  n0 : 0 ≤ (low a d).num
  n1 : (low a d).num ≤ a
  d0 : 0 < (low a d).den
  d1 : (low a d).den ≤ d
  cross : (low a d).num * d = a * (low a d).den
  cop : Nat.gcd (low a d).num.natAbs (low a d).den.natAbs = 1
theorem low_spec {a d : Int} (ha : 0 ≤ a) (ha1 : a ≤ 9000000000000000000) (hd : 0 < d) (hd1 : d ≤ 9000000000000000000) : LowSpec a d := by
  obtain ⟨A, rfl⟩ : ∃ n : Nat, a = (n : Int) := ⟨a.toNat, by omega⟩
  obtain ⟨D, rfl⟩ : ∃ n : Nat, d = (n : Int) := ⟨d.toNat, by omega⟩
  have hg : 0 < Nat.gcd A D := Nat.gcd_pos_of_pos_right A (by omega)
  have e1 : (low (A : Int) (D : Int)).num = ((A / Nat.gcd A D : Nat) : Int) := by
    show W (Int.tdiv (A : Int) (gcdI A D)) = _
    unfold gcdI
    simp only [Int.toNat_natCast]
    rw [show Int.tdiv (A : Int) ((Nat.gcd A D : Nat) : Int) = ((A / Nat.gcd A D : Nat) : Int) from by rw [Int.tdiv_eq_ediv_of_nonneg (Int.natCast_nonneg A)]; rfl]
    have := Nat.div_le_self A (Nat.gcd A D)
    generalize A / Nat.gcd A D = q at *
    exact W_in (by omega)
  have e2 : (low (A : Int) (D : Int)).den = ((D / Nat.gcd A D : Nat) : Int) := by
    show W (Int.tdiv (D : Int) (gcdI A D)) = _
    unfold gcdI
    simp only [Int.toNat_natCast]
    rw [show Int.tdiv (D : Int) ((Nat.gcd A D : Nat) : Int) = ((D / Nat.gcd A D : Nat) : Int) from by rw [Int.tdiv_eq_ediv_of_nonneg (Int.natCast_nonneg D)]; rfl]
    have := Nat.div_le_self D (Nat.gcd A D)
    generalize D / Nat.gcd A D = q at *
    exact W_in (by omega)
  have d1 := Nat.div_le_self A (Nat.gcd A D)
  have d2 := Nat.div_le_self D (Nat.gcd A D)
  have d3 : 0 < D / Nat.gcd A D := Nat.div_pos (Nat.gcd_le_right A (by omega)) hg
  have c1 : Nat.gcd A D * (A / Nat.gcd A D) = A := Nat.mul_div_cancel' (Nat.gcd_dvd_left A D)
  have c2 : Nat.gcd A D * (D / Nat.gcd A D) = D := Nat.mul_div_cancel' (Nat.gcd_dvd_right A D)
  have cop : Nat.gcd (A / Nat.gcd A D) (D / Nat.gcd A D) = 1 := Nat.coprime_div_gcd_div_gcd hg
  refine ⟨by rw [e1]; exact Int.natCast_nonneg _, by rw [e1]; exact Int.ofNat_le.2 d1, by rw [e2]; exact Int.ofNat_lt.2 d3, by rw [e2]; exact Int.ofNat_le.2 d2, ?_, ?_⟩
  · rw [e1, e2, ← Int.natCast_mul, ← Int.natCast_mul]
    congr 1
    generalize A / Nat.gcd A D = X at *
    generalize D / Nat.gcd A D = Y at *
    generalize Nat.gcd A D = G at *
    rw [← c1, ← c2]
    grind
  · rw [e1, e2, Int.natAbs_natCast, Int.natAbs_natCast]
    exact cop
theorem wf_of {n : Int} (h : -9223372036854775808 ≤ n ∧ n ≤ 9223372036854775807) : (Lit.int .i64 n).wf = true := by
  simp [Lit.wf, IntKind.min, IntKind.max, IntKind.signed, IntKind.bits]
  omega
theorem wf_q {q : Q2} (h0 : 0 ≤ q.num) (h1 : q.num ≤ 9000000000000000000) (h2 : 0 < q.den) (h3 : q.den ≤ 9000000000000000000) : Wf [q.num, q.den] := by
  intro x hx
  simp only [List.mem_cons, List.not_mem_nil, or_false] at hx
  rcases hx with rfl | rfl
  · exact wf_of (by omega)
  · exact wf_of (by omega)
theorem LowSpec.wf {a d : Int} (h : LowSpec a d) (ha : a ≤ 9000000000000000000) (hd : d ≤ 9000000000000000000) : Wf [(low a d).num, (low a d).den] :=
  wf_q h.n0 (by have := h.n1; omega) h.d0 (by have := h.d1; omega)
theorem LowSpec.form {a d : Int} (h : LowSpec a d) (ha : a ≤ 9000000000000000000) (hd : d ≤ 9000000000000000000) : (low a d).form = true :=
  (form_iff (h.wf ha hd)).2 ⟨h.d0, h.cop⟩
/-- One halving. -/
def hv (q : Q2) : Q2 := if q.den % 2 = 0 ∧ q.num > 0 then ⟨q.num / 2, q.den / 2⟩ else q
theorem hv_e {x y : Int} (h : y % 2 = 0) (h2 : x > 0) : hv ⟨x, y⟩ = ⟨x / 2, y / 2⟩ := if_pos ⟨h, h2⟩
theorem hv_o {x y : Int} (h : ¬ y % 2 = 0) : hv ⟨x, y⟩ = ⟨x, y⟩ := if_neg fun k => h k.1
theorem cop2 {n : Nat} (h : n % 2 = 1) : Nat.Coprime 2 n := by
  show Nat.gcd 2 n = 1
  rw [Nat.gcd_rec, h]
  exact Nat.gcd_one_left 2
theorem four_low {a d : Int} (ha : 0 ≤ a) (ha1 : a ≤ 2000000000000000000) (hd : 0 < d) (hd1 : d ≤ 9000000000000000000) : hv (hv ⟨4 * (low a d).num, (low a d).den⟩) = low (4 * a) d := by
  have h := low_spec ha (by omega) hd hd1
  have h4 := low_spec (a := 4 * a) (by omega) (by omega) hd hd1
  obtain ⟨n0, n1, d0, d1, cr, cp⟩ := h
  generalize (low a d).num = n at *
  generalize (low a d).den = e at *
  have key : ∀ q : Q2, 0 ≤ q.num → q.num ≤ 4 * n → 0 < q.den → q.den ≤ e → q.num * d = 4 * a * q.den → Nat.gcd q.num.natAbs q.den.natAbs = 1 → q = low (4 * a) d := by
    intro q q0 q1 q2 q3 q4 q5
    have wq : Wf [q.num, q.den] := wf_q q0 (by omega) q2 (by omega)
    have w4 := h4.wf (by omega) hd1
    refine lowest_eq wq w4 ((form_iff wq).2 ⟨q2, q5⟩) (h4.form (by omega) hd1) ?_
    have c4 := h4.cross
    have : (q.num * (low (4 * a) d).den) * d = ((low (4 * a) d).num * q.den) * d := by
      rw [show (q.num * (low (4 * a) d).den) * d = (q.num * d) * (low (4 * a) d).den by grind, q4, show ((low (4 * a) d).num * q.den) * d = ((low (4 * a) d).num * d) * q.den by grind, c4]
      grind
    exact Int.eq_of_mul_eq_mul_right (by omega) this
  by_cases e2 : e % 2 = 0
  · by_cases hn : n = 0
    · subst hn
      simp at cp
      omega
    · rw [hv_e e2 (by omega)]
      have ea : 4 * n / 2 = 2 * n := by omega
      rw [ea]
      obtain ⟨f, hf⟩ : ∃ f, e = 2 * f := ⟨e / 2, by omega⟩
      have ef : e / 2 = f := by omega
      rw [ef]
      have cpf : Nat.Coprime n.natAbs f.natAbs := by
        refine Nat.Coprime.coprime_dvd_right ⟨2, ?_⟩ cp
        omega
      have crf : n * d = 2 * (a * f) := by rw [cr, hf]; grind
      by_cases f2 : f % 2 = 0
      · rw [hv_e f2 (by omega)]
        obtain ⟨k, hk⟩ : ∃ k, f = 2 * k := ⟨f / 2, by omega⟩
        rw [show 2 * n / 2 = n by omega, show f / 2 = k by omega]
        refine key _ (by simp only; omega) (by simp only; omega) (by simp only; omega) (by simp only; omega) (by simp only; rw [crf, hk]; grind) ?_
        simp only
        refine Nat.Coprime.coprime_dvd_right ⟨2, ?_⟩ cpf
        omega
      · rw [hv_o f2]
        refine key _ (by simp only; omega) (by simp only; omega) (by simp only; omega) (by simp only; omega) (by simp only; rw [show 2 * n * d = 2 * (n * d) by grind, crf]; grind) ?_
        simp only
        rw [Int.natAbs_mul]
        exact Nat.Coprime.mul_left (cop2 (by omega)) cpf
  · rw [hv_o e2, hv_o e2]
    refine key _ (by simp only; omega) (by simp only; omega) (by simp only; omega) (by simp only; omega) (by simp only; rw [show 4 * n * d = 4 * (n * d) by grind, cr]; grind) ?_
    simp only
    rw [Int.natAbs_mul]
    refine Nat.Coprime.mul_left ?_ cp
    have c2 : Nat.Coprime 2 e.natAbs := cop2 (by omega)
    exact Nat.Coprime.mul_left c2 c2
/-- The product of an index and a column. -/
def V3.pr (h u : V3) : Int := h.x * u.x + h.y * u.y + h.z * u.z
theorem adj_pr (m : G6) (h u : V3) : m.dot (m.adj.mat.app h) u = m.det * h.pr u := by
  unfold G6.dot G6.adj G6.mat M3.app G6.det V3.pr; simp only; grind
/-- Cauchy and Schwarz for an index and a column. -/
theorem dual_cs {m : G6} (hp : m.Pos) (h u : V3) : h.pr u * h.pr u * m.det ≤ m.adj.dot h h * m.dot u u := by
  have c := hp.cs (m.adj.mat.app h) u
  rw [adj_pr, adj_key] at c
  have hd := hp.det
  have : m.det * (h.pr u * h.pr u * m.det) ≤ m.det * (m.adj.dot h h * m.dot u u) := by
    rw [show m.det * (h.pr u * h.pr u * m.det) = m.det * h.pr u * (m.det * h.pr u) by grind, show m.det * (m.adj.dot h h * m.dot u u) = m.det * m.adj.dot h h * m.dot u u by grind]
    exact c
  exact Int.le_of_mul_le_mul_left this hd
theorem dual_cmp {a d x y : Int} (ha : 0 ≤ a) (ha1 : a ≤ 9000000000000000000) (hd : 0 < d) (hd1 : d ≤ 9000000000000000000) (hx : 0 ≤ x) (hx1 : x ≤ 9000000000000000000) (hy : 0 < y) (hy1 : y ≤ 9000000000000000000) (h : x * d ≤ a * y) :
    (low a d).cmpE (low x y) = 0 ∧ 0 ≤ (low a d).cmpF (low x y) := by
  have p := low_spec ha ha1 hd hd1
  have q := low_spec hx hx1 hy hy1
  have fp := p.form ha1 hd1
  have fq := q.form hx1 hy1
  refine ⟨by unfold Q2.cmpE; rw [fp, fq]; rfl, ?_⟩
  have e0 : (low a d).cmpF (low x y) = cmpI ((low a d).num * (low x y).den) ((low x y).num * (low a d).den) := by
    unfold Q2.cmpF; rw [fp, fq]; exact cmp_true (p.wf ha1 hd1) (q.wf hx1 hy1) p.d0 q.d0
  rw [e0]
  clear e0
  have c := cmpI_cases ((low a d).num * (low x y).den) ((low x y).num * (low a d).den)
  have : (low x y).num * (low a d).den ≤ (low a d).num * (low x y).den := by
    obtain ⟨_, _, p1, _, p2, _⟩ := p
    obtain ⟨_, _, q1, _, q2, _⟩ := q
    generalize (low a d).num = n at *
    generalize (low a d).den = e at *
    generalize (low x y).num = k at *
    generalize (low x y).den = f at *
    have hpos : 0 < d * y := Int.mul_pos hd hy
    have : (k * e) * (d * y) ≤ (n * f) * (d * y) := by
      rw [show (k * e) * (d * y) = (k * y) * (e * d) by grind, q2, show (n * f) * (d * y) = (n * d) * (f * y) by grind, p2, show x * f * (e * d) = (x * d) * (e * f) by grind, show a * e * (f * y) = (a * y) * (e * f) by grind]
      exact Int.mul_le_mul_of_nonneg_right h (Int.le_of_lt (Int.mul_pos p1 q1))
    exact Int.le_of_mul_le_mul_right this hpos
  omega
theorem adj_two (m : G6) (h : V3) : m.adj.dot ⟨2 * h.x, 2 * h.y, 2 * h.z⟩ ⟨2 * h.x, 2 * h.y, 2 * h.z⟩ = 4 * m.adj.dot h h := by unfold G6.dot; simp only; grind
theorem adj_minus (m : G6) (h : V3) : m.adj.dot ⟨-h.x, -h.y, -h.z⟩ ⟨-h.x, -h.y, -h.z⟩ = m.adj.dot h h := by unfold G6.dot; simp only; grind
end Go.Proofs.Ytofblakbfmjgkaa.Vx
