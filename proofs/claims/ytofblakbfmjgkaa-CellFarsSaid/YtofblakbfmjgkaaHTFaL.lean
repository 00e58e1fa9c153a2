/-
  CellFars: what it comes to. Nothing here is trusted.
-/
import Derived.Test.YtofblakbfmjgkaaHTDfP
namespace Go.Proofs.Ytofblakbfmjgkaa
open Go Vx
theorem dW_sW (m : G6) (x y z : Int) : dW m x y z = sW m x y z := by unfold dW sW; rw [bil_dot]
theorem minE_comm (p q : P3) : p.minE q = q.minE p := by
  unfold P3.minE
  rw [Bool.and_comm, show (p.m == q.m) = (q.m == p.m) by rw [Bool.eq_iff_iff]; simp only [beq_iff_eq]; exact ⟨Eq.symm, Eq.symm⟩]
theorem farE_comm (m : G6) (p q : P3) : farE m q p = farE m p q := by unfold farE; rw [minE_comm]
structure FarOk (m : G6) (p q : P3) : Prop where
  hb : m.Bd
  hp : m.Pos
  m0 : 0 < p.m
  m1 : p.m ≤ 192
  eq : q.m = p.m
  x : 0 ≤ (p.minX q).x ∧ (p.minX q).x < p.m
  y : 0 ≤ (p.minX q).y ∧ (p.minX q).y < p.m
  z : 0 ≤ (p.minX q).z ∧ (p.minX q).z < p.m
theorem far_ok {m : G6} {p q : P3} (h : farE m p q = 0) : FarOk m p q := by
  obtain ⟨h1, h2⟩ := farE_zero h
  obtain ⟨hb, hp, _⟩ := G6.mck_zero h1
  unfold P3.minE at h2
  cases fp : p.form with
  | false => rw [fp] at h2; cases h2
  | true =>
    cases fq : q.form with
    | false => rw [fp, fq] at h2; cases h2
    | true =>
      rw [fp, fq] at h2
      have hm : p.m = q.m := by
        cases hc : p.m == q.m with
        | true => exact beq_iff_eq.1 hc
        | false => rw [hc] at h2; cases h2
      obtain ⟨_, hM, _⟩ := form_rng fp
      have m0 : 0 < p.m := by omega
      have r : ∀ t : Int, 0 ≤ t % p.m ∧ t % p.m < p.m := fun t => ⟨Int.emod_nonneg _ (by omega), Int.emod_lt_of_pos _ m0⟩
      exact ⟨hb, hp, m0, by omega, hm.symm, r _, r _, r _⟩
def sV (m : G6) (u : V3) : Int := sW m u.x u.y u.z
theorem sV_val {m : G6} {p q : P3} (h : FarOk m p q) {u : V3} (hu : u ∈ allV p.m (p.minX q)) : sV m u = m.dot u u ∧ 0 ≤ m.dot u u := by
  obtain ⟨h1, h2, h3⟩ := mem_allV.1 hu
  have b1 := img_bd h.m0 h.x _ h1
  have b2 := img_bd h.m0 h.y _ h2
  have b3 := img_bd h.m0 h.z _ h3
  have m1 := h.m1
  have hb3 : u.Bd 192 := by unfold V3.Bd; omega
  have := dot_bound h.hb hb3 hb3
  exact ⟨W_in (n := m.dot u u) (by omega), h.hp.nn u⟩
theorem far_min {m : G6} {p q : P3} (h : farE m p q = 0) : IsMin ((allV p.m (p.minX q)).map (sV m)) (farV m p q) := by
  have ok := far_ok h
  have m1 := ok.m1
  have e : farV m p q = ((allV p.m (p.minX q)).map (sV m)).foldl min2I (sV m (p.minX q)) := by
    unfold farV
    rw [h, ← fold_map min2I (sV m)]
    exact farF_eq m ok.m0 (by omega) ok.x ok.y ok.z _
  rw [e]
  exact fold_in (List.mem_map.2 ⟨p.minX q, mem_allV.2 ⟨self_img, self_img, self_img⟩, rfl⟩)
theorem doc_min {m : G6} {p q : P3} (h : farE m p q = 0) : IsMin ((allV p.m (p.minX q)).map (sV m)) (dfV m p q) := by
  have ok := far_ok h
  have e : dfV m p q = ((allV p.m (p.minX q)).map (sV m)).foldl updS (-1) := by
    unfold dfV
    rw [h, ← fold_map updS (sV m)]
    show docFar (dW m) p.m (p.minX q) = _
    rw [docFar_eq (dW m) ok.m0 ok.x ok.y ok.z]
    simp only [dW_sW]; rfl
  rw [e]
  refine fold_doc ?_ ?_
  · intro hn
    have : sV m (p.minX q) ∈ (allV p.m (p.minX q)).map (sV m) := List.mem_map.2 ⟨p.minX q, mem_allV.2 ⟨self_img, self_img, self_img⟩, rfl⟩
    rw [hn] at this
    cases this
  · intro x hx
    obtain ⟨u, hu, rfl⟩ := List.mem_map.1 hx
    have := sV_val ok hu
    omega
theorem neg_mem {m : G6} {p q : P3} (ok : FarOk m p q) {u : V3} (hu : u ∈ allV p.m (p.minX q)) : u.neg ∈ allV q.m (q.minX p) := by
  obtain ⟨h1, h2, h3⟩ := mem_allV.1 hu
  have k : ∀ a b : Int, (b - a) % p.m = (-((a - b) % p.m)) % p.m := fun a b => by
    have e := Int.emod_add_mul_ediv (a - b) p.m
    rw [show -((a - b) % p.m) = (b - a) + p.m * ((a - b) / p.m) by omega, Int.add_mul_emod_self_left]
  refine mem_allV.2 ⟨?_, ?_, ?_⟩
  · have := img_neg ok.m0 ok.x h1
    show -u.x ∈ imgE ((q.x.x - p.x.x) % q.m) q.m
    rw [ok.eq, k]; exact this
  · have := img_neg ok.m0 ok.y h2
    show -u.y ∈ imgE ((q.x.y - p.x.y) % q.m) q.m
    rw [ok.eq, k]; exact this
  · have := img_neg ok.m0 ok.z h3
    show -u.z ∈ imgE ((q.x.z - p.x.z) % q.m) q.m
    rw [ok.eq, k]; exact this
theorem sV_neg (m : G6) (u : V3) : sV m u.neg = sV m u := by
  unfold sV sW V3.neg
  congr 1
  unfold G6.dot
  simp only
  grind
theorem far_back {m : G6} {p q : P3} (h : farE m p q = 0) : farV m q p = farV m p q := by
  have h' : farE m q p = 0 := by rw [farE_comm]; exact h
  have ok := far_ok h
  have ok' := far_ok h'
  obtain ⟨a1, a2⟩ := far_min h
  obtain ⟨b1, b2⟩ := far_min h'
  obtain ⟨u, hu, eu⟩ := List.mem_map.1 a1
  obtain ⟨v, hv, ev⟩ := List.mem_map.1 b1
  have c := b2 _ (List.mem_map.2 ⟨u.neg, neg_mem ok hu, rfl⟩)
  have d := a2 _ (List.mem_map.2 ⟨v.neg, neg_mem ok' hv, rfl⟩)
  rw [sV_neg] at c d
  omega
def tCellFars (m : G6) (p q : P3) : Option Value := andO [farV m p q == dfV m p q, farE m p q == farE m p q, farV m q p == farV m p q, farE m q p == farE m p q]
theorem tCellFars_true (m : G6) (p q : P3) : tCellFars m p q = some (.bool true) := by
  have e : farV m p q = dfV m p q ∧ farV m q p = farV m p q := by
    by_cases h : farE m p q = 0
    · exact ⟨IsMin.unique (far_min h) (doc_min h), far_back h⟩
    · have h' : farE m q p ≠ 0 := by rw [farE_comm]; exact h
      unfold farV dfV
      rw [(bif_beq h).1, (bif_beq h').1]
      exact ⟨rfl, rfl⟩
  refine andO_eq _ ?_
  simp only [List.mem_cons, List.not_mem_nil, or_false, forall_eq_or_imp, forall_eq, ← e.1, e.2, farE_comm, beq_self_eq_true, and_self]
end Go.Proofs.Ytofblakbfmjgkaa
