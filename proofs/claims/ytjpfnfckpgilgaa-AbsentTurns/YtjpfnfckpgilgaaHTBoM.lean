/-
  What turns into one another is absent together: a map on h R is o o2 o^-1 on h. Nothing here is trusted.
-/
import Derived.Test.YtjpfnfckpgilgaaHBasT
import Derived.Test.YtjpfnfckpgilgaaHTHk3
namespace Go.Proofs.Ytjpfnfckpgilgaa
open Go Vx
def dotv (h t : V3) : Int := h.x * t.x + h.y * t.y + h.z * t.z
def negv (h : V3) : V3 := ⟨-h.x, -h.y, -h.z⟩
theorem v3e {u v : V3} (h1 : u.x = v.x) (h2 : u.y = v.y) (h3 : u.z = v.z) : u = v := by cases u; cases v; simp_all
theorem left_mul2 (h : V3) (a b : M3) : M3.left h (a.mul b) = M3.left (M3.left h a) b := by
  apply v3e <;> (simp only [M3.left, M3.mul]; grind)
theorem left_one2 (h : V3) : M3.left h M3.one = h := by
  apply v3e <;> simp [M3.left, M3.one]
theorem dot_app2 (h : V3) (m : M3) (t : V3) : dotv h (m.app t) = dotv (M3.left h m) t := by
  simp only [dotv, M3.app, M3.left]; grind
theorem dot_add2 (h u v : V3) : dotv h (u.add v) = dotv h u + dotv h v := by
  simp only [dotv, V3.add]; grind
theorem dot_md2 (h t : V3) : dotv h (t.md 24) % 24 = dotv h t % 24 := by
  have e : dotv h (t.md 24) = dotv h t + 24 * (-(h.x * (t.x / 24) + h.y * (t.y / 24) + h.z * (t.z / 24))) := by
    simp only [dotv, V3.md, Int.emod_def]; grind
  rw [e, Int.add_mul_emod_self_left]
theorem ph_mul2 (h : V3) (a b : O3) : dotv h (a.mul b).t % 24 = (dotv (M3.left h a.r) b.t + dotv h a.t) % 24 := by
  show dotv h (((a.r.app b.t).add a.t).md 24) % 24 = _
  rw [dot_md2, dot_add2, dot_app2]
theorem conj_in {X : List O3} (hX : Grp X) {o o2 : O3} (ho : o ∈ X) (ho2 : o2 ∈ X) {h : V3} (hk : M3.left (M3.left h o.r) o2.r = M3.left h o.r) (hp : dotv (M3.left h o.r) o2.t % 24 ≠ 0) : ∃ o3 ∈ X, M3.left h o3.r = h ∧ dotv h o3.t % 24 ≠ 0 := by
  obtain ⟨b, hb, hob⟩ := grp_undo hX.nd (fun x hx => O3.inv_ck (hX.ck x hx)) hX.one hX.mul ho
  refine ⟨(o.mul o2).mul b, hX.mul _ (hX.mul _ ho _ ho2) _ hb, ?_, ?_⟩
  · show M3.left h ((o.r.mul o2.r).mul b.r) = h
    rw [left_mul2, left_mul2, hk, ← left_mul2]
    have : o.r.mul b.r = M3.one := congrArg O3.r hob
    rw [this, left_one2]
  · have e1 := ph_mul2 h (o.mul o2) b
    have e2 := ph_mul2 h o o2
    have e3 := ph_mul2 h o b
    rw [hob] at e3
    have e4 : dotv h O3.one.t = 0 := by simp [dotv, O3.one, V3.zero]
    rw [e4] at e3
    have e5 : M3.left h (o.mul o2).r = M3.left h o.r := by
      show M3.left h (o.r.mul o2.r) = _
      rw [left_mul2, hk]
    rw [e5] at e1
    omega
theorem right_bd {h : V3} (hk : h.ixk = 0) : h.Bd 512 := by
  have hb : inB 512 h.l = true := by
    unfold V3.ixk at hk
    cases hi : inB 512 h.l with
    | true => rfl
    | false => rw [hi] at hk; cases hk
  unfold V3.l at hb
  rw [inB_iff] at hb
  simp only [List.mem_cons, List.not_mem_nil, or_false, forall_eq_or_imp, forall_eq] at hb
  exact hb
theorem w3 {a b c : Int} (ha : -1000000000 ≤ a ∧ a ≤ 1000000000) (hb : -1000000000 ≤ b ∧ b ≤ 1000000000) (hc : -1000000000 ≤ c ∧ c ≤ 1000000000) : W (W (W (0 + W a) + W b) + W c) = a + b + c ∧ W (W (W a + W b) + W c) = a + b + c := by
  rw [W_in (n := a) (by omega), W_in (n := b) (by omega), W_in (n := c) (by omega), Int.zero_add, W_in (n := a) (by omega), W_in (n := a + b) (by omega), W_in (n := a + b + c) (by omega)]
  exact ⟨rfl, rfl⟩
theorem pb {x y : Int} (hx : -512 ≤ x ∧ x ≤ 512) (hy : -1000 ≤ y ∧ y ≤ 1000) : -1000000000 ≤ x * y ∧ x * y ≤ 1000000000 := by
  have := bd_mul hx hy
  omega
theorem row_left {h : V3} {m : M3} (hh : h.Bd 512) (hm : m.Bd 1000) : rowI h m = M3.left h m := by
  obtain ⟨x, y, z⟩ := hh
  unfold M3.Bd at hm
  unfold rowI M3.left
  rw [(w3 (pb x hm.1) (pb y hm.2.2.2.1) (pb z hm.2.2.2.2.2.2.1)).1, (w3 (pb x hm.2.1) (pb y hm.2.2.2.2.1) (pb z hm.2.2.2.2.2.2.2.1)).1, (w3 (pb x hm.2.2.1) (pb y hm.2.2.2.2.2.1) (pb z hm.2.2.2.2.2.2.2.2)).1]
theorem opp_left {h : V3} {m : M3} (hh : h.Bd 512) (hm : m.Bd 1000) : oppW (M3.left h m) = negv (M3.left h m) := by
  obtain ⟨x, y, z⟩ := hh
  unfold M3.Bd at hm
  have a1 := pb x hm.1
  have a2 := pb y hm.2.2.2.1
  have a3 := pb z hm.2.2.2.2.2.2.1
  have b1 := pb x hm.2.1
  have b2 := pb y hm.2.2.2.2.1
  have b3 := pb z hm.2.2.2.2.2.2.2.1
  have c1 := pb x hm.2.2.1
  have c2 := pb y hm.2.2.2.2.2.1
  have c3 := pb z hm.2.2.2.2.2.2.2.2
  unfold oppW negv M3.left
  simp only
  rw [W_in (by omega), W_in (by omega), W_in (by omega), Int.zero_sub, Int.zero_sub, Int.zero_sub]
theorem ixk_bd {h : V3} (hh : h.Bd 512) : h.ixk = 0 := by
  have hb : inB 512 h.l = true := by
    unfold V3.l
    rw [inB_iff]
    simp only [List.mem_cons, List.not_mem_nil, or_false, forall_eq_or_imp, forall_eq]
    exact hh
  unfold V3.ixk
  rw [hb]; rfl
theorem ixk_neg {u : V3} (h : (negv u).ixk = 0) : u.ixk = 0 := by
  obtain ⟨x, y, z⟩ := right_bd h
  simp only [negv] at x y z
  exact ixk_bd ⟨by omega, by omega, by omega⟩
theorem ph_dot {h : V3} {o : O3} (hh : h.Bd 512) (ht : o.t.part = true) : phI o h = dotv h o.t % 24 := by
  obtain ⟨x, y, z⟩ := hh
  unfold V3.part part1 at ht
  simp only [Bool.and_eq_true, decide_eq_true_eq] at ht
  unfold phI dotv
  rw [(w3 (pb x (by omega)) (pb y (by omega)) (pb z (by omega))).2]
theorem memO {X : List O3} {i : Nat} (hi : i < X.length) : atO X (i : Int) ∈ X := by
  unfold atO
  rw [Int.toNat_natCast, List.getElem?_eq_getElem hi]
  exact List.getElem_mem hi
theorem isb_grp {X : List O3} {h : V3} (e : acI X h = 0) : isb X h = true ↔ ∃ o ∈ X, M3.left h o.r = h ∧ dotv h o.t % 24 ≠ 0 := by
  obtain ⟨e1, e2⟩ := leastN_zero.1 e
  have hX := (chk_grp e2).2.1
  have hh := right_bd e1
  have key : ∀ i, i < X.length → (rst X h i = true ↔ M3.left h (atO X (i : Int)).r = h ∧ dotv h (atO X (i : Int)).t % 24 ≠ 0) := fun i hi => by
    obtain ⟨c1, c2, _⟩ := O3.ck_zero.1 (hX.ck _ (memO hi))
    unfold rst
    rw [grp_phase e hi, row_left hh (M3.ok_iff.1 c2), ph_dot hh c1, Bool.and_eq_true, V3.eqB_iff, bne_iff_ne]
  unfold isb rsb
  rw [e]
  simp only [bne_self_eq_false]
  cases hf : fst? (rst X h) X.length 0 with
  | some k =>
    have hk := fst?_some hf
    simp only [true_iff]
    exact ⟨_, memO (by omega), (key k (by omega)).1 hk.2.2.1⟩
  | none =>
    have hk := fst?_none hf
    simp only [Bool.false_eq_true, false_iff, not_exists]
    rintro o ⟨ho, hr⟩
    obtain ⟨i, hi, rfl⟩ := List.getElem_of_mem ho
    have ha : atO X (i : Int) = X[i] := by
      unfold atO
      rw [Int.toNat_natCast, List.getElem?_eq_getElem hi]
      rfl
    have := (key i hi).2 (by rw [ha]; exact hr)
    rw [hk i (Nat.zero_le _) (by omega)] at this
    cases this
theorem left_neg (h : V3) (m : M3) : M3.left (negv h) m = negv (M3.left h m) := by
  apply v3e <;> (simp only [M3.left, negv]; grind)
theorem dot_neg (h t : V3) : dotv (negv h) t = -dotv h t := by simp only [dotv, negv]; grind
theorem negv_inj {u v : V3} (h : negv u = negv v) : u = v := by
  simp only [negv, V3.mk.injEq] at h
  exact v3e (by omega) (by omega) (by omega)
theorem acI_zero {X : List O3} {h : V3} (hc : chkI X = 0) (hb : h.ixk = 0) : acI X h = 0 := leastN_zero.2 ⟨hb, hc⟩
/-- Turned. -/
theorem isb_turn {X : List O3} {h : V3} {o : O3} (e : acI X h = 0) (ho : o ∈ X) (ek : acI X (M3.left h o.r) = 0) : isb X (M3.left h o.r) = isb X h := by
  have hX := (chk_grp (leastN_zero.1 e).2).2.1
  rw [Bool.eq_iff_iff, isb_grp ek, isb_grp e]
  constructor
  · rintro ⟨o2, ho2, h1, h2⟩
    exact conj_in hX ho ho2 h1 h2
  · rintro ⟨o2, ho2, h1, h2⟩
    obtain ⟨b, hb, hob⟩ := grp_undo hX.nd (fun x hx => O3.inv_ck (hX.ck x hx)) hX.one hX.mul ho
    have hr : M3.left (M3.left h o.r) b.r = h := by
      rw [← left_mul2, show o.r.mul b.r = M3.one from congrArg O3.r hob, left_one2]
    exact conj_in hX hb ho2 (h := M3.left h o.r) (by rw [hr]; exact h1) (by rw [hr]; exact h2)
/-- Opposite. -/
theorem isb_neg {X : List O3} {h : V3} (e : acI X h = 0) (ek : acI X (negv h) = 0) : isb X (negv h) = isb X h := by
  rw [Bool.eq_iff_iff, isb_grp ek, isb_grp e]
  constructor
  · rintro ⟨o, ho, h1, h2⟩
    rw [left_neg] at h1
    rw [dot_neg] at h2
    exact ⟨o, ho, negv_inj h1, by omega⟩
  · rintro ⟨o, ho, h1, h2⟩
    exact ⟨o, ho, by rw [left_neg, h1], by rw [dot_neg]; omega⟩
theorem isb_nought {X : List O3} (e : acI X V3.zero = 0) : isb X V3.zero = false := by
  cases hb : isb X V3.zero with
  | false => rfl
  | true =>
    obtain ⟨o, _, _, h2⟩ := (isb_grp e).1 hb
    simp [dotv, V3.zero] at h2
end Go.Proofs.Ytjpfnfckpgilgaa
