/-
  WholeCells: what it holds to holds. Nothing here is trusted.
-/
import Derived.Test.YtofblakbfmjgkaaHWceH
namespace Go.Proofs.Ytofblakbfmjgkaa
open Go Vx Go.RowKit
theorem gram_bd {b : M3} (h : b.Bd 132) (hd : b.det ≠ 0) : (gramG b).mck = 0 := by
  have hp := gram_pos hd
  have pa := hp.aa
  have pb := hp.bb
  have pc := hp.cc
  refine mck_of ?_ hp
  obtain ⟨ha, hb, hc, hd', he, hf, hg, hh, hi⟩ := h
  have q : ∀ {x y : Int}, -132 ≤ x ∧ x ≤ 132 → -132 ≤ y ∧ y ≤ 132 → -17424 ≤ x * y ∧ x * y ≤ 17424 := fun r s => bd_mul r s
  have := q ha ha; have := q hd' hd'; have := q hg hg
  have := q hb hb; have := q he he; have := q hh hh
  have := q hc hc; have := q hf hf; have := q hi hi
  have := q hb hc; have := q he hf; have := q hh hi
  have := q ha hc; have := q hd' hf; have := q hg hi
  have := q ha hb; have := q hd' he; have := q hg hh
  unfold G6.Bd
  simp only [gramG] at *
  omega
theorem gram_sq4 {b : M3} (h : b.Bd 11) : (gramG b).sq4 ≤ 100000 := by
  obtain ⟨ha, hb, hc, hd', he, hf, hg, hh, hi⟩ := h
  have q : ∀ {x y : Int}, -11 ≤ x ∧ x ≤ 11 → -11 ≤ y ∧ y ≤ 11 → -121 ≤ x * y ∧ x * y ≤ 121 := fun r s => bd_mul r s
  have := q ha ha; have := q hd' hd'; have := q hg hg
  have := q hb hb; have := q he he; have := q hh hh
  have := q hc hc; have := q hf hf; have := q hi hi
  have := q hb hc; have := q he hf; have := q hh hi
  have := q ha hc; have := q hd' hf; have := q hg hi
  have := q ha hb; have := q hd' he; have := q hg hh
  unfold G6.sq4
  simp only [gramG]
  omega
theorem wcGood {M : M3} (hM : M.Bd 11) (hd : M.det ≠ 0) {u v h : V3} (hu : u.Bd 128) (hv : v.Bd 128) (hh : h.Bd 5) (k : Int) :
    Good Rc (gramG M) (Rc.bm ⟨Rc.tm (Rc.sg k) shr3, ⟨0, 0, 0⟩⟩ (gramG M)) ⟨Rc.tm (Rc.sg k) shr3, ⟨0, 0, 0⟩⟩ u v h := by
  obtain ⟨hok, hU, hP, hI⟩ := chg_spec k
  have hap := fun {w : V3} (hw : w.Bd 128) => app_small k hw
  have hQ : Rc.tm (Rc.sg k) shr3 = (sgM k).mul shr3 := by
    show ((sgM k).mul shr3).w = _
    obtain ⟨a, b, c, d, e, f, g, h', i⟩ := hP
    refine M3.ext' ⟨?_, ?_, ?_, ?_, ?_, ?_, ?_, ?_, ?_⟩ <;> exact W_in (by omega)
  rw [hQ]
  generalize (sgM k).mul shr3 = P at *
  have h11 : M.Bd 132 := by unfold M3.Bd at *; omega
  have hm := gram_bd h11 hd
  have hq := gram_sq4 hM
  have hIU : P.inv.U := M3.U_inv hU
  have hId : P.inv.det ≠ 0 := by rcases hIU with e | e <;> rw [e] <;> decide
  have hI2 : P.inv.det * P.inv.det = 1 := by rcases hIU with e | e <;> rw [e] <;> rfl
  have hn : ((gramG M).turn P.inv).mck = 0 := by
    rw [gram_turn, turn_mul, ← gram_turn]
    refine gram_bd ?_ ?_
    · have := M3.Bd.mul hM hI
      exact this
    · rw [M3.det_mul]
      exact fun e => by rcases Int.mul_eq_zero.1 e with a | a <;> contradiction
  generalize gramG M = m at *
  obtain ⟨hb, hp, _⟩ := G6.mck_zero hm
  obtain ⟨hbn, hpn, _⟩ := G6.mck_zero hn
  have hf : P.form = 0 := M3.form_zero.2 ⟨hok, hU⟩
  have hck : m.ck = 0 := ck_of hb
  have ebe : Rc.be ⟨P, ⟨0, 0, 0⟩⟩ m = 0 := by show (bif m.ck == 0 then P.form else m.ck) = 0; rw [hck, hf]; rfl
  have ebm : Rc.bm ⟨P, ⟨0, 0, 0⟩⟩ m = m.turn P.inv := by
    show O3.metF ⟨P, ⟨0, 0, 0⟩⟩ m = _
    unfold O3.metF
    rw [show O3.metE ⟨P, ⟨0, 0, 0⟩⟩ m = 0 from ebe, ← turn_of, ← M3.mul_assoc]
    rfl
  rw [ebm]
  generalize hnn : m.turn P.inv = n at *
  have in1 : ∀ {w : V3}, w.Bd 1000 → w.ckv = 0 := fun {w} hw => by unfold V3.ckv; rw [V3.in1_iff.2 hw]; rfl
  have mono : ∀ {w : V3}, w.Bd 128 → w.Bd 1000 := fun {w} hw => by unfold V3.Bd at *; omega
  have okv' : ∀ {w : V3}, w.Bd 128 → w.ok = true := fun {w} hw => V3.ok_iff.2 (by unfold V3.Bd at *; omega)
  have ap : ∀ {w : V3}, w.Bd 128 → Rc.ap P w = P.app w := fun {w} hw => by show P.appF w = _; unfold M3.appF; rw [hok, okv' hw]; rfl
  have ae : ∀ {w : V3}, w.Bd 128 → Rc.ae P w = 0 := fun {w} hw => by show (bif P.ok && w.ok then 0 else 4) = (0 : Int); rw [hok, okv' hw]; rfl
  have f1 : Rc.f m u v = 0 := by show G6.dotE m u v = 0; unfold G6.dotE; rw [hm, in1 (mono hu), in1 (mono hv)]; rfl
  have f2 : Rc.f n (P.app u) (P.app v) = 0 := by show G6.dotE n _ _ = 0; unfold G6.dotE; rw [hn, in1 (hap hu), in1 (hap hv)]; rfl
  have d1 : Rc.d m u v = m.dot u v := by show G6.dotF m u v = _; unfold G6.dotF; rw [show m.dotE u v = 0 from f1]; rfl
  have d2 : Rc.d n (P.app u) (P.app v) = m.dot u v := by
    show G6.dotF n _ _ = _
    unfold G6.dotF
    rw [show n.dotE (P.app u) (P.app v) = 0 from f2, ← hnn, dot_turn, ← M3.app_mul, ← M3.app_mul, M3.inv_mul hU, M3.app_one, M3.app_one]; rfl
  have h5 : h.Bd 512 := by unfold V3.Bd at *; omega
  have hx : h.idx = true := V3.idx_iff.2 h5
  have ebi : Rc.bie ⟨P, ⟨0, 0, 0⟩⟩ h = 0 := by show (bif h.idx then P.form else 1) = 0; rw [hx, hf]; rfl
  have ej : Rc.bi ⟨P, ⟨0, 0, 0⟩⟩ h = M3.left h P.inv := by
    show O3.idxF ⟨P, ⟨0, 0, 0⟩⟩ h = _
    unfold O3.idxF
    rw [show O3.idxE ⟨P, ⟨0, 0, 0⟩⟩ h = 0 from ebi]; rfl
  have hj := left_small hh hI
  have s1 : Rc.e m h = 0 := by show m.spE h = 0; unfold G6.spE; rw [hx]; exact hm
  have s2 : Rc.e n (M3.left h P.inv) = 0 := by show n.spE _ = 0; unfold G6.spE; rw [V3.idx_iff.2 hj]; exact hn
  have hdet : n.det = m.det := by rw [← hnn, turn_det, hI2, Int.mul_one]
  have s3 : Rc.s n (M3.left h P.inv) = Rc.s m h := by
    show G6.spF n _ = G6.spF m h
    unfold G6.spF
    rw [show n.spE (M3.left h P.inv) = 0 from s2, show m.spE h = 0 from s1, hdet, ← hnn, adj_turn, hI2, Int.one_mul]
  have D1 : Rc.D m = Rc.D n := by
    show G6.detF m = G6.detF n
    unfold G6.detF
    rw [hm, hn, hdet]
  have k1 : Rc.K m = 0 := hm
  have k2 : Rc.K n = 0 := hn
  have nz : (((Rc.s m h).num == 0) != eq3 h.x h.y h.z 0 0 0) = false := by
    have z := num_zero hm h5
    have z2 : eq3 h.x h.y h.z 0 0 0 = true ↔ h = V3.zero := by
      rw [V3.zero_iff]; simp [eq3]
    have z3 : ((Rc.s m h).num == 0) = eq3 h.x h.y h.z 0 0 0 := by
      rw [Bool.eq_iff_iff, z2, ← z]
      exact beq_iff_eq
    rw [z3]; simp
  refine ⟨k1, fun x hx => ?_, gB hm hq hn (by rw [← hnn]; exact short_turn hm hIU (by rw [hnn]; exact hn)), gC hm hq, gD hm hq, gE hm⟩
  simp only [L19, ebe, ap hu, ap hv, ae hu, ae hv, f1, f2, ebi, ej, s1, s2, k1, k2, d1, d2, s3, D1, nz, Q2.eqB_refl, bne_self_eq_false, Bool.not_true, List.mem_cons, List.not_mem_nil, or_false, or_self] at hx
  exact hx
end Go.Proofs.Ytofblakbfmjgkaa
