/-
  PROVED: for every matrix (its entries brought within 20), facetlaw01.VecAdjoins answers true: a matrix times its adjugate is its determinant, an inverse undoes.
  No condition beyond the statement's own.
-/
import Derived.Test.YtklmanmeedfjpaaVecD
import Derived.Test.YtklmanmeedfjpaaVecN
import Derived.WalkKit
import Derived.ProofKit
import Derived.OpenShut
import Derived.ShutString
import Derived.ChangeOld
import Derived.Below
namespace Go.Proofs.Ytklmanmeedfjpaa
open Go Vx
open Go.ChangeShapes Go.WideShapes Go.ChangeAt Go.RowKit

theorem own : ownKnob Try.prog.godebug = none := by kernel_rfl
theorem laidOut : laidOutB Try.prog = true := by kernel_rfl

def adjoinsEnd (m : List Int) : Option Value :=
  andO [nth (invM m) 9 == 0, nth (mulL (invM m) m) 9 == 0, nth (detM (invM m)) 1 == 0, eqM (mulL (invM m) m) one9, nth (detM (invM m)) 0 == nth (detM m) 0]
/-- Transcribed: the statement's own tests, in its order. -/
def adjoinsT (m : List Int) : Option Value :=
  guardF [nth (adjM m) 9 != 0, nth (detM m) 1 != 0]
    (guardF [nth (mulL m (adjM m)) 9 != 0, nth (mulL (adjM m) m) 9 != 0, !(eqM (mulL m (adjM m)) [nth (detM m) 0, 0, 0, 0, nth (detM m) 0, 0, 0, 0, nth (detM m) 0]), !(eqM (mulL (adjM m) m) (mulL m (adjM m)))]
      (match nth (detM m) 0 != 1 with
        | true => match nth (detM m) 0 != -1 with
          | true => andO [nth (invM m) 9 == 3, eqM (invM m) [0, 0, 0, 0, 0, 0, 0, 0, 0]]
          | false => adjoinsEnd m
        | false => adjoinsEnd m))
theorem adjoins_run (a b c d e f g h i : Int) : exFun (CC Try.prog) 60 Try.f8 [.agg (intsK .i64 [a, b, c, d, e, f, g, h, i]).toArray] = adjoinsT [Int.tmod a 21, Int.tmod b 21, Int.tmod c 21, Int.tmod d 21, Int.tmod e 21, Int.tmod f 21, Int.tmod g 21, Int.tmod h 21, Int.tmod i 21] := by kernel_rfl
theorem det_adj (a b c d e f g h i : Int) : det (e * i - f * h) (h * c - i * b) (b * f - c * e) (f * g - d * i) (i * a - g * c) (c * d - a * f) (d * h - e * g) (g * b - h * a) (a * e - b * d) = det a b c d e f g h i * det a b c d e f g h i := by
  unfold det; grind
theorem det_scale (a b c d e f g h i t : Int) : det (a * t) (b * t) (c * t) (d * t) (e * t) (f * t) (g * t) (h * t) (i * t) = det a b c d e f g h i * (t * t * t) := by
  unfold det; grind
theorem adjoins_true (a b c d e f g h i : Int) (hb : ∀ x ∈ [a, b, c, d, e, f, g, h, i], -20 ≤ x ∧ x ≤ 20) : adjoinsT [a, b, c, d, e, f, g, h, i] = some (.bool true) := by
  have h1 : inB 1000 [a, b, c, d, e, f, g, h, i] = true := inB_mono (by omega) (inB_iff.2 hb)
  simp only [List.mem_cons, List.not_mem_nil, or_false, forall_eq_or_imp, forall_eq] at hb
  obtain ⟨ba, bb, bc, bd, be, bf, bg, bh, bi⟩ := hb
  have m0 := minR_bd be bi bf bh (by omega)
  have m1 := minR_bd bh bc bi bb (by omega)
  have m2 := minR_bd bb bf bc be (by omega)
  have m3 := minR_bd bf bg bd bi (by omega)
  have m4 := minR_bd bi ba bg bc (by omega)
  have m5 := minR_bd bc bd ba bf (by omega)
  have m6 := minR_bd bd bh be bg (by omega)
  have m7 := minR_bd bg bb bh ba (by omega)
  have m8 := minR_bd ba be bb bd (by omega)
  have h2 : inB 1000 [minR e i f h, minR h c i b, minR b f c e, minR f g d i, minR i a g c, minR c d a f, minR d h e g, minR g b h a, minR a e b d] = true := by
    rw [inB_iff]
    simp only [List.mem_cons, List.not_mem_nil, or_false, forall_eq_or_imp, forall_eq]
    omega
  have hdet : nth (detM [a, b, c, d, e, f, g, h, i]) 0 = W (det a b c d e f g h i) := by
    show nth (detE a b c d e f g h i) 0 = _
    rw [detE_eq, h1, detR_eq]; rfl
  have hdet1 : nth (detM [a, b, c, d, e, f, g, h, i]) 1 = 0 := by
    show nth (detE a b c d e f g h i) 1 = _
    rw [detE_eq, h1]; rfl
  have hadj : adjM [a, b, c, d, e, f, g, h, i] = cofL a b c d e f g h i ++ [0] := by
    show adjE a b c d e f g h i = _
    rw [adjE_eq, h1]; rfl
  have hx : mulL [a, b, c, d, e, f, g, h, i] (adjM [a, b, c, d, e, f, g, h, i]) = [W (det a b c d e f g h i), 0, 0, 0, W (det a b c d e f g h i), 0, 0, 0, W (det a b c d e f g h i), 0] := by
    rw [hadj]
    show mulR a b c d e f g h i (minR e i f h) (minR h c i b) (minR b f c e) (minR f g d i) (minR i a g c) (minR c d a f) (minR d h e g) (minR g b h a) (minR a e b d) = _
    rw [mulR_eq, h1, h2]
    simp only [Bool.and_self, cond_true, mulD, prodL, dotR_W, List.cons_append, List.nil_append, m0.1, m1.1, m2.1, m3.1, m4.1, m5.1, m6.1, m7.1, m8.1]
    have z : (0 : Int) = W 0 := rfl
    simp only [List.cons.injEq, and_true]
    unfold det
    refine ⟨?_, ?_, ?_, ?_, ?_, ?_, ?_, ?_, ?_⟩ <;> first | rfl | (congr 1; grind) | (rw [z]; congr 1; grind)
  have hy : mulL (adjM [a, b, c, d, e, f, g, h, i]) [a, b, c, d, e, f, g, h, i] = [W (det a b c d e f g h i), 0, 0, 0, W (det a b c d e f g h i), 0, 0, 0, W (det a b c d e f g h i), 0] := by
    rw [hadj]
    show mulR (minR e i f h) (minR h c i b) (minR b f c e) (minR f g d i) (minR i a g c) (minR c d a f) (minR d h e g) (minR g b h a) (minR a e b d) a b c d e f g h i = _
    rw [mulR_eq, h1, h2]
    simp only [Bool.and_self, cond_true, mulD, prodL, dotR_W, List.cons_append, List.nil_append, m0.1, m1.1, m2.1, m3.1, m4.1, m5.1, m6.1, m7.1, m8.1]
    have z : (0 : Int) = W 0 := rfl
    simp only [List.cons.injEq, and_true]
    unfold det
    refine ⟨?_, ?_, ?_, ?_, ?_, ?_, ?_, ?_, ?_⟩ <;> first | rfl | (congr 1; grind) | (rw [z]; congr 1; grind)
  have hinv : invM [a, b, c, d, e, f, g, h, i] = bif W (det a b c d e f g h i) != 1 && W (det a b c d e f g h i) != -1 then zeros9 3 else invL a b c d e f g h i ++ [0] := by
    show invE a b c d e f g h i = _
    unfold invE
    rw [chk_eq, h1, detR_eq]
    cases W (det a b c d e f g h i) != 1 && W (det a b c d e f g h i) != -1 <;> rfl
  unfold adjoinsT
  rw [hx, hy, hdet, hdet1, hadj]
  rw [guardF_eq _ _ (by simp [nth, cofL]), guardF_eq _ _ (by simp [nth, eqM, eq9, eq3])]
  by_cases hd : W (det a b c d e f g h i) = 1 ∨ W (det a b c d e f g h i) = -1
  · have hend : adjoinsEnd [a, b, c, d, e, f, g, h, i] = some (.bool true) := by
      have hbad : (W (det a b c d e f g h i) != 1 && W (det a b c d e f g h i) != -1) = false := by
        rcases hd with hd | hd <;> rw [hd] <;> rfl
      rw [hbad] at hinv
      simp only [cond_false] at hinv
      have hD : W (det a b c d e f g h i * det a b c d e f g h i) = 1 := by
        rw [← W_mull, ← W_mulr]
        rcases hd with hd | hd <;> rw [hd] <;> rfl
      have hsmall : ∀ t, -800 ≤ t ∧ t ≤ 800 → -1000 ≤ W (t * W (det a b c d e f g h i)) ∧ W (t * W (det a b c d e f g h i)) ≤ 1000 := by
        intro t ht
        rcases hd with hd | hd
        · rw [hd, Int.mul_one, W_id (by omega) (by omega)]; omega
        · rw [hd, show t * -1 = -t by omega, W_id (by omega) (by omega)]; omega
      have h3 : inB 1000 (invL a b c d e f g h i) = true := by
        rw [inB_iff]
        unfold invL
        simp only [List.mem_cons, List.not_mem_nil, or_false, forall_eq_or_imp, forall_eq, detR_eq]
        exact ⟨hsmall _ (by omega), hsmall _ (by omega), hsmall _ (by omega), hsmall _ (by omega), hsmall _ (by omega), hsmall _ (by omega), hsmall _ (by omega), hsmall _ (by omega), hsmall _ (by omega)⟩
      have hz : mulL (invM [a, b, c, d, e, f, g, h, i]) [a, b, c, d, e, f, g, h, i] = [1, 0, 0, 0, 1, 0, 0, 0, 1, 0] := by
        rw [hinv]
        show mulR (W (minR e i f h * detR a b c d e f g h i)) (W (minR h c i b * detR a b c d e f g h i)) (W (minR b f c e * detR a b c d e f g h i)) (W (minR f g d i * detR a b c d e f g h i)) (W (minR i a g c * detR a b c d e f g h i)) (W (minR c d a f * detR a b c d e f g h i)) (W (minR d h e g * detR a b c d e f g h i)) (W (minR g b h a * detR a b c d e f g h i)) (W (minR a e b d * detR a b c d e f g h i)) a b c d e f g h i = _
        rw [mulR_eq, h1]
        unfold invL at h3
        rw [h3]
        simp only [Bool.and_self, cond_true, mulD, prodL, dotR_W, List.cons_append, List.nil_append, m0.1, m1.1, m2.1, m3.1, m4.1, m5.1, m6.1, m7.1, m8.1, detR_eq, W_mulr]
        have key : ∀ x y z u v q : Int, W (W x * u + W y * v + W z * q) = W (x * u + y * v + z * q) := fun x y z u v q => W_cadd (W_cadd (W_mull x u) (W_mull y v)) (W_mull z q)
        simp only [key, List.cons.injEq, and_true]
        have z : (0 : Int) = W 0 := rfl
        rw [← hD]
        unfold det
        refine ⟨?_, ?_, ?_, ?_, ?_, ?_, ?_, ?_, ?_⟩ <;> first | rfl | (congr 1; grind) | (rw [z]; congr 1; grind)
      have hk : detM (invM [a, b, c, d, e, f, g, h, i]) = [W (det a b c d e f g h i), 0] := by
        rw [hinv]
        show detE (W (minR e i f h * detR a b c d e f g h i)) (W (minR h c i b * detR a b c d e f g h i)) (W (minR b f c e * detR a b c d e f g h i)) (W (minR f g d i * detR a b c d e f g h i)) (W (minR i a g c * detR a b c d e f g h i)) (W (minR c d a f * detR a b c d e f g h i)) (W (minR d h e g * detR a b c d e f g h i)) (W (minR g b h a * detR a b c d e f g h i)) (W (minR a e b d * detR a b c d e f g h i)) = _
        rw [detE_eq]
        unfold invL at h3
        rw [h3]
        simp only [cond_true, detR_eq, m0.1, m1.1, m2.1, m3.1, m4.1, m5.1, m6.1, m7.1, m8.1, W_mulr]
        rw [W_det (W_W _) (W_W _) (W_W _) (W_W _) (W_W _) (W_W _) (W_W _) (W_W _) (W_W _), det_scale, det_adj]
        have e5 : det a b c d e f g h i * det a b c d e f g h i * (det a b c d e f g h i * det a b c d e f g h i * det a b c d e f g h i) = (det a b c d e f g h i * det a b c d e f g h i) * ((det a b c d e f g h i * det a b c d e f g h i) * det a b c d e f g h i) := by grind
        rw [e5, ← W_mull, hD, Int.one_mul, ← W_mull, hD, Int.one_mul]
      unfold adjoinsEnd
      rw [hz, hk, hdet]
      refine andO_eq _ ?_
      rw [hinv]
      simp [nth, eqM, eq9, eq3, one9, invL]
    rw [hend]
    rcases hd with hd | hd <;> rw [hd] <;> rfl
  · have hn1 : (W (det a b c d e f g h i) != 1) = true := by simp; omega
    have hn2 : (W (det a b c d e f g h i) != -1) = true := by simp; omega
    rw [hn1, hn2] at hinv ⊢
    simp only [Bool.and_self, cond_true] at hinv
    rw [hinv]
    rfl
theorem adjoins_law (l0 : List Int) (e0 : l0.length = 9) (_ : ∀ x ∈ l0, (Lit.int .i64 x).wf = true) : exFun (CC Try.prog) 60 Try.f8 [.agg (intsK .i64 l0).toArray] = some (.bool true) := by
  match l0, e0 with
  | [a, b, c, d, e, f, g, h, i], _ =>
    rw [adjoins_run]
    refine adjoins_true _ _ _ _ _ _ _ _ _ ?_
    simp only [List.mem_cons, List.not_mem_nil, or_false, forall_eq_or_imp, forall_eq]
    exact ⟨tmod_bd a 21 (by omega), tmod_bd b 21 (by omega), tmod_bd c 21 (by omega), tmod_bd d 21 (by omega), tmod_bd e 21 (by omega), tmod_bd f 21 (by omega), tmod_bd g 21 (by omega), tmod_bd h 21 (by omega), tmod_bd i 21 (by omega)⟩

theorem vecAdjoins_walk (l0 : List Int) (e0 : l0.length = 9) (u0 : ∀ x ∈ l0, (Lit.int .i64 x).wf = true) (w : World) : Calls Try.prog 8 #[.agg (intsK .i64 l0).toArray] w fun e w' => e = .returned (.bool true) ∧ Below w.heap.size w w' :=
  exFun_calls okC Try.func8 (args := [.agg (intsK .i64 l0).toArray]) (by
    intro x hx
    simp only [List.mem_cons, List.not_mem_nil, or_false] at hx
    rcases hx with rfl <;> rfl) (adjoins_law l0 e0 u0) w

set_option maxRecDepth 100000 in
theorem vecAdjoins_lifted (os : Os) (started : os.Started) (H : Type) (enc : TypeId × Value → H) :
    ReturnsInHanded {} Try.checked os 8 .any (Rows.vecAdjoinsSpec.pre6 enc Try.prog Try.f8 Rows.vecAdjoinsRow.domain false) (Rows.vecAdjoinsSpec.post enc Try.prog Try.f8 false true false false) := by
  refine returnsInHanded_of_change (C := Try.checked) own started (by kernel_rfl) Try.func8
    (ChangeSpec.witness6 (enc := enc) (C := Try.checked) false ⟨#[], #[.agg #[.int .i64 0, .int .i64 0, .int .i64 0, .int .i64 0, .int .i64 0, .int .i64 0, .int .i64 0, .int .i64 0, .int .i64 0]], []⟩ 8 (by kernel_rfl) (by kernel_rfl) (by kernel_rfl) (by kernel_rfl)) ?_
  intro W base args ds gs before hval0 hW _ _
  have hval : ∀ (j : Nat) t v, Try.f8.params[j]? = some t → args[j]? = some v → Value.okWide Try.prog W .any base t v := hval0
  have hW' := hW
  obtain ⟨p, q, hA0, hV, rfl, _, _⟩ := hW
  have hA : DataW.TrodAll enc Try.prog W 0 (fun _ => true) true Try.f8.params.toList args.toList ds p := hA0
  rw [Try.params8] at hA hval
  obtain ⟨v0, vs0, d0, ds0, p0, q0, hargs, rfl, rfl, h0, r0⟩ := trodAll_cons hA
  obtain ⟨rfl, rfl, rfl⟩ := trodAll_nil r0
  obtain rfl : args = #[v0] := by cases args; simp_all
  obtain ⟨rfl, rfl⟩ := trodVars_none hV
  have lt0 : ∀ x ∈ p0, x.block < W.heap.size := by obtain ⟨m, hm⟩ := h0; exact DataW.trod_lt m _ _ _ hm
  obtain ⟨l0, e0, rfl, u0⟩ := open_rowK (n := 9) (k := .i64) (by kernel_rfl) (by kernel_rfl) (hval 0 24 v0 rfl rfl) h0
  clear hA0 hval0
  refine (vecAdjoins_walk l0 e0 u0 W).mono fun e W' ⟨he, bel⟩ => ?_
  subst he
  exact ⟨_, rfl, _, _, _, [], _, [], hW', trodAll_mk1 (shut_bool Try.underlying4 _), (trodAll_cons_mk (Below.trod laidOut (by kernel_rfl) (of_decide_eq_true (by kernel_rfl)) h0 bel lt0) trodAll_mk0), rfl, bel.frame _, fun h => by cases h⟩

theorem vecAdjoins_holds : Rows.VecAdjoinsSaid :=
  OpenClaim.holds_of_wide 8 Try.f8 rfl rfl rfl rfl rfl rfl rfl ⟨rfl, rfl, rfl, rfl, rfl⟩ rfl rfl rfl rfl rfl (by kernel_rfl) Try.func8 (by kernel_rfl)
    (of_decide_eq_true (by kernel_rfl)) (by unfold Func.isWrapper; first | (rw [if_pos (by decide +kernel)]; kernel_rfl) | (rw [if_neg (by decide +kernel)]; exact ⟨rfl, rfl⟩))
    (fun os started H enc _ => vecAdjoins_lifted os started H enc)

end Go.Proofs.Ytklmanmeedfjpaa
