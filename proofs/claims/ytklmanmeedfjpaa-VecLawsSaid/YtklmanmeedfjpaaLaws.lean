/-
  PROVED: for every three matrices and two columns (brought within small bounds), facetlaw01.VecLaws answers true: products, determinants, transposes, traces, rows and columns agree.
  No condition beyond the statement's own.
-/
import Derived.Test.YtklmanmeedfjpaaVecD
import Derived.Test.YtklmanmeedfjpaaVecP
import Derived.WalkKit
import Derived.ProofKit
import Derived.OpenShut
import Derived.ShutString
import Derived.ChangeOld
import Derived.Below
namespace Go.Proofs.Ytklmanmeedfjpaa
open Go Vx
open Go.ChangeShapes Go.WideShapes Go.ChangeAt Go.RowKit

theorem own : ownKnob Try.prog.godebug = none := by kernel_rfl
theorem laidOut : laidOutB Try.prog = true := by kernel_rfl

/-- Transcribed: the statement's own tests, in its order. -/
def lawsT (A B C V U : List Int) : Option Value :=
  guardF [nth (mulL A B) 9 != 0, nth (mulL B A) 9 != 0, nth (mulL B C) 9 != 0]
    (guardF [nth (mulL (mulL A B) C) 9 != 0, nth (mulL A (mulL B C)) 9 != 0, nth (applyL B V) 3 != 0, !(eqM (mulL (mulL A B) C) (mulL A (mulL B C)))]
      (guardF [nth (applyL (mulL A B) V) 3 != 0, nth (applyL A (applyL B V)) 3 != 0, nth (leftL U (mulL A B)) 3 != 0, !(eqV3 (applyL (mulL A B) V) (applyL A (applyL B V))),
          dotR (nth U 0) (nth U 1) (nth U 2) (nth (applyL (mulL A B) V) 0) (nth (applyL (mulL A B) V) 1) (nth (applyL (mulL A B) V) 2) != dotR (nth (leftL U (mulL A B)) 0) (nth (leftL U (mulL A B)) 1) (nth (leftL U (mulL A B)) 2) (nth V 0) (nth V 1) (nth V 2)]
        (andO [nth (detM (mulL A B)) 0 == W (nth (detM A) 0 * nth (detM B) 0), nth (traceM (mulL A B)) 0 == nth (traceM (mulL B A)) 0, eqM (mulL (transM B) (transM A)) (transM (mulL A B))])))
theorem laws_run (a b c d e f g h i j k l m n o p q r a2 b2 c2 d2 e2 f2 g2 h2 i2 x y z u v w : Int) : exFun (CC Try.prog) 60 Try.f7 [.agg (intsK .i64 [a, b, c, d, e, f, g, h, i]).toArray, .agg (intsK .i64 [j, k, l, m, n, o, p, q, r]).toArray, .agg (intsK .i64 [a2, b2, c2, d2, e2, f2, g2, h2, i2]).toArray, .agg (intsK .i64 [x, y, z]).toArray, .agg (intsK .i64 [u, v, w]).toArray] =
    lawsT [Int.tmod a 11, Int.tmod b 11, Int.tmod c 11, Int.tmod d 11, Int.tmod e 11, Int.tmod f 11, Int.tmod g 11, Int.tmod h 11, Int.tmod i 11] [Int.tmod j 11, Int.tmod k 11, Int.tmod l 11, Int.tmod m 11, Int.tmod n 11, Int.tmod o 11, Int.tmod p 11, Int.tmod q 11, Int.tmod r 11] [Int.tmod a2 11, Int.tmod b2 11, Int.tmod c2 11, Int.tmod d2 11, Int.tmod e2 11, Int.tmod f2 11, Int.tmod g2 11, Int.tmod h2 11, Int.tmod i2 11] [Int.tmod x 1000, Int.tmod y 1000, Int.tmod z 1000] [Int.tmod u 1000, Int.tmod v 1000, Int.tmod w 1000] := by kernel_rfl
theorem laws_true (a b c d e f g h i j k l m n o p q r a2 b2 c2 d2 e2 f2 g2 h2 i2 x y z u v w : Int) (hA : Bds 10 [a, b, c, d, e, f, g, h, i]) (hB : Bds 10 [j, k, l, m, n, o, p, q, r]) (hC : Bds 10 [a2, b2, c2, d2, e2, f2, g2, h2, i2]) (hV : Bds 999 [x, y, z]) (hU : Bds 999 [u, v, w]) : lawsT [a, b, c, d, e, f, g, h, i] [j, k, l, m, n, o, p, q, r] [a2, b2, c2, d2, e2, f2, g2, h2, i2] [x, y, z] [u, v, w] = some (.bool true) := by
  obtain ⟨ab, bab⟩ := mul_small hA hB (by omega) (by omega) (by omega)
  obtain ⟨ba, bba⟩ := mul_small hB hA (by omega) (by omega) (by omega)
  obtain ⟨bc, bbc⟩ := mul_small hB hC (by omega) (by omega) (by omega)
  obtain ⟨bv, bbv⟩ := apply_small hB hV (by omega) (by omega) (by omega)
  unfold mulP at bab bba bbc
  unfold applyP at bbv
  obtain ⟨abc, _⟩ := mul_small bab hC (by omega) (by omega) (by omega)
  obtain ⟨abc', _⟩ := mul_small hA bbc (by omega) (by omega) (by omega)
  obtain ⟨abv, _⟩ := apply_small bab hV (by omega) (by omega) (by omega)
  obtain ⟨abv', _⟩ := apply_small hA bbv (by omega) (by omega) (by omega)
  obtain ⟨uab, _⟩ := left_small bab hU (by omega) (by omega) (by omega)
  have dab := det_small (bab.mono (by omega))
  have da := det_small (hA.mono (show (10 : Int) ≤ 1000 by omega))
  have db := det_small (hB.mono (show (10 : Int) ≤ 1000 by omega))
  have tab := trace_small (bab.mono (by omega))
  have tba := trace_small (bba.mono (by omega))
  have ta := trans_small (hA.mono (show (10 : Int) ≤ 1000 by omega))
  have tb := trans_small (hB.mono (show (10 : Int) ≤ 1000 by omega))
  have tabm := trans_small (bab.mono (by omega))
  have hA' : Bds 10 [a, d, g, b, e, h, c, f, i] := fun x hx => hA x (by simp only [List.mem_cons, List.not_mem_nil, or_false] at hx ⊢; omega)
  have hB' : Bds 10 [j, m, p, k, n, q, l, o, r] := fun x hx => hB x (by simp only [List.mem_cons, List.not_mem_nil, or_false] at hx ⊢; omega)
  obtain ⟨btat, _⟩ := mul_small hB' hA' (by omega) (by omega) (by omega)
  unfold mulP at ab ba bc abc abc' btat
  unfold applyP at bv abv abv'
  unfold leftP at uab
  simp only [List.cons_append, List.nil_append] at ab ba bc abc abc' btat bv abv abv' uab
  have hab : mulL [a, b, c, d, e, f, g, h, i] [j, k, l, m, n, o, p, q, r] = _ := ab
  have hba : mulL [j, k, l, m, n, o, p, q, r] [a, b, c, d, e, f, g, h, i] = _ := ba
  have hbc : mulL [j, k, l, m, n, o, p, q, r] [a2, b2, c2, d2, e2, f2, g2, h2, i2] = _ := bc
  have hbv : applyL [j, k, l, m, n, o, p, q, r] [x, y, z] = _ := bv
  unfold lawsT
  rw [hab, hba, hbc, hbv]
  simp only [mulL, applyL, leftL, detM, traceM, transM, nth]
  rw [abc, abc', abv, abv', uab, dab, da, db, tab, tba, ta, tb, tabm]
  simp only [nth]
  rw [btat]
  rw [guardF_eq _ _ (by simp), guardF_eq, guardF_eq, andO_eq]
  · simp only [List.mem_cons, List.not_mem_nil, or_false, forall_eq_or_imp, forall_eq]
    refine ⟨?_, ?_, ?_⟩
    · rw [W_mull, W_mulr, det_mul]; simp
    · rw [beq_iff_eq]; congr 1; grind
    · simp only [eqM, nth, eq9, eq3, Bool.and_true, Bool.and_eq_true, beq_iff_eq]
      refine ⟨⟨?_, ?_, ?_⟩, ⟨?_, ?_, ?_⟩, ⟨?_, ?_, ?_⟩⟩ <;> grind
  · simp only [List.mem_cons, List.not_mem_nil, or_false, forall_eq_or_imp, forall_eq, bne_self_eq_false, true_and, Bool.not_eq_false']
    refine ⟨?_, ?_⟩
    · simp only [eqV3, nth, eq3, Bool.and_true, Bool.and_eq_true, beq_iff_eq]
      refine ⟨?_, ?_, ?_⟩ <;> grind
    · rw [dotR_W, dotR_W, bne_eq_false_iff_eq]
      congr 1; grind
  · simp only [List.mem_cons, List.not_mem_nil, or_false, forall_eq_or_imp, forall_eq, bne_self_eq_false, true_and, Bool.not_eq_false']
    simp only [eqM, nth, eq9, eq3, Bool.and_true, Bool.and_eq_true, beq_iff_eq]
    refine ⟨⟨?_, ?_, ?_⟩, ⟨?_, ?_, ?_⟩, ⟨?_, ?_, ?_⟩⟩ <;> grind
theorem laws_law (l0 : List Int) (e0 : l0.length = 9) (_ : ∀ x ∈ l0, (Lit.int .i64 x).wf = true) (l1 : List Int) (e1 : l1.length = 9) (_ : ∀ x ∈ l1, (Lit.int .i64 x).wf = true) (l2 : List Int) (e2 : l2.length = 9) (_ : ∀ x ∈ l2, (Lit.int .i64 x).wf = true)
    (l3 : List Int) (e3 : l3.length = 3) (_ : ∀ x ∈ l3, (Lit.int .i64 x).wf = true) (l4 : List Int) (e4 : l4.length = 3) (_ : ∀ x ∈ l4, (Lit.int .i64 x).wf = true) :
    exFun (CC Try.prog) 60 Try.f7 [.agg (intsK .i64 l0).toArray, .agg (intsK .i64 l1).toArray, .agg (intsK .i64 l2).toArray, .agg (intsK .i64 l3).toArray, .agg (intsK .i64 l4).toArray] = some (.bool true) := by
  match l0, e0, l1, e1, l2, e2, l3, e3, l4, e4 with
  | [a, b, c, d, e, f, g, h, i], _, [j, k, l, m, n, o, p, q, r], _, [a2, b2, c2, d2, e2, f2, g2, h2, i2], _, [x, y, z], _, [u, v, w], _ =>
    rw [laws_run]
    refine laws_true _ _ _ _ _ _ _ _ _ _ _ _ _ _ _ _ _ _ _ _ _ _ _ _ _ _ _ _ _ _ _ _ _ ?_ ?_ ?_ ?_ ?_ <;> simp only [Bds, List.mem_cons, List.not_mem_nil, or_false, forall_eq_or_imp, forall_eq]
    · exact ⟨tmod_bd a 11 (by omega), tmod_bd b 11 (by omega), tmod_bd c 11 (by omega), tmod_bd d 11 (by omega), tmod_bd e 11 (by omega), tmod_bd f 11 (by omega), tmod_bd g 11 (by omega), tmod_bd h 11 (by omega), tmod_bd i 11 (by omega)⟩
    · exact ⟨tmod_bd j 11 (by omega), tmod_bd k 11 (by omega), tmod_bd l 11 (by omega), tmod_bd m 11 (by omega), tmod_bd n 11 (by omega), tmod_bd o 11 (by omega), tmod_bd p 11 (by omega), tmod_bd q 11 (by omega), tmod_bd r 11 (by omega)⟩
    · exact ⟨tmod_bd a2 11 (by omega), tmod_bd b2 11 (by omega), tmod_bd c2 11 (by omega), tmod_bd d2 11 (by omega), tmod_bd e2 11 (by omega), tmod_bd f2 11 (by omega), tmod_bd g2 11 (by omega), tmod_bd h2 11 (by omega), tmod_bd i2 11 (by omega)⟩
    · exact ⟨tmod_bd x 1000 (by omega), tmod_bd y 1000 (by omega), tmod_bd z 1000 (by omega)⟩
    · exact ⟨tmod_bd u 1000 (by omega), tmod_bd v 1000 (by omega), tmod_bd w 1000 (by omega)⟩

theorem vecLaws_walk (l0 : List Int) (e0 : l0.length = 9) (u0 : ∀ x ∈ l0, (Lit.int .i64 x).wf = true) (l1 : List Int) (e1 : l1.length = 9) (u1 : ∀ x ∈ l1, (Lit.int .i64 x).wf = true) (l2 : List Int) (e2 : l2.length = 9) (u2 : ∀ x ∈ l2, (Lit.int .i64 x).wf = true) (l3 : List Int) (e3 : l3.length = 3) (u3 : ∀ x ∈ l3, (Lit.int .i64 x).wf = true) (l4 : List Int) (e4 : l4.length = 3) (u4 : ∀ x ∈ l4, (Lit.int .i64 x).wf = true) (w : World) : Calls Try.prog 7 #[.agg (intsK .i64 l0).toArray, .agg (intsK .i64 l1).toArray, .agg (intsK .i64 l2).toArray, .agg (intsK .i64 l3).toArray, .agg (intsK .i64 l4).toArray] w fun e w' => e = .returned (.bool true) ∧ Below w.heap.size w w' :=
  exFun_calls okC Try.func7 (args := [.agg (intsK .i64 l0).toArray, .agg (intsK .i64 l1).toArray, .agg (intsK .i64 l2).toArray, .agg (intsK .i64 l3).toArray, .agg (intsK .i64 l4).toArray]) (by
    intro x hx
    simp only [List.mem_cons, List.not_mem_nil, or_false] at hx
    rcases hx with rfl | rfl | rfl | rfl | rfl <;> rfl) (laws_law l0 e0 u0 l1 e1 u1 l2 e2 u2 l3 e3 u3 l4 e4 u4) w

set_option maxRecDepth 100000 in
theorem vecLaws_lifted (os : Os) (started : os.Started) (H : Type) (enc : TypeId × Value → H) :
    ReturnsInHanded {} Try.checked os 7 .any (Rows.vecLawsSpec.pre6 enc Try.prog Try.f7 Rows.vecLawsRow.domain false) (Rows.vecLawsSpec.post enc Try.prog Try.f7 false true false false) := by
  refine returnsInHanded_of_change (C := Try.checked) own started (by kernel_rfl) Try.func7
    (ChangeSpec.witness6 (enc := enc) (C := Try.checked) false ⟨#[], #[.agg #[.int .i64 0, .int .i64 0, .int .i64 0, .int .i64 0, .int .i64 0, .int .i64 0, .int .i64 0, .int .i64 0, .int .i64 0], .agg #[.int .i64 0, .int .i64 0, .int .i64 0, .int .i64 0, .int .i64 0, .int .i64 0, .int .i64 0, .int .i64 0, .int .i64 0], .agg #[.int .i64 0, .int .i64 0, .int .i64 0, .int .i64 0, .int .i64 0, .int .i64 0, .int .i64 0, .int .i64 0, .int .i64 0], .agg #[.int .i64 0, .int .i64 0, .int .i64 0], .agg #[.int .i64 0, .int .i64 0, .int .i64 0]], []⟩ 8 (by kernel_rfl) (by kernel_rfl) (by kernel_rfl) (by kernel_rfl)) ?_
  intro W base args ds gs before hval0 hW _ _
  have hval : ∀ (j : Nat) t v, Try.f7.params[j]? = some t → args[j]? = some v → Value.okWide Try.prog W .any base t v := hval0
  have hW' := hW
  obtain ⟨p, q, hA0, hV, rfl, _, _⟩ := hW
  have hA : DataW.TrodAll enc Try.prog W 0 (fun _ => true) true Try.f7.params.toList args.toList ds p := hA0
  rw [Try.params7] at hA hval
  obtain ⟨v0, vs0, d0, ds0, p0, q0, hargs, rfl, rfl, h0, r0⟩ := trodAll_cons hA
  obtain ⟨v1, vs1, d1, ds1, p1, q1, rfl, rfl, rfl, h1, r1⟩ := trodAll_cons r0
  obtain ⟨v2, vs2, d2, ds2, p2, q2, rfl, rfl, rfl, h2, r2⟩ := trodAll_cons r1
  obtain ⟨v3, vs3, d3, ds3, p3, q3, rfl, rfl, rfl, h3, r3⟩ := trodAll_cons r2
  obtain ⟨v4, vs4, d4, ds4, p4, q4, rfl, rfl, rfl, h4, r4⟩ := trodAll_cons r3
  obtain ⟨rfl, rfl, rfl⟩ := trodAll_nil r4
  obtain rfl : args = #[v0, v1, v2, v3, v4] := by cases args; simp_all
  obtain ⟨rfl, rfl⟩ := trodVars_none hV
  have lt0 : ∀ x ∈ p0, x.block < W.heap.size := by obtain ⟨m, hm⟩ := h0; exact DataW.trod_lt m _ _ _ hm
  obtain ⟨l0, e0, rfl, u0⟩ := open_rowK (n := 9) (k := .i64) (by kernel_rfl) (by kernel_rfl) (hval 0 24 v0 rfl rfl) h0
  have lt1 : ∀ x ∈ p1, x.block < W.heap.size := by obtain ⟨m, hm⟩ := h1; exact DataW.trod_lt m _ _ _ hm
  obtain ⟨l1, e1, rfl, u1⟩ := open_rowK (n := 9) (k := .i64) (by kernel_rfl) (by kernel_rfl) (hval 1 24 v1 rfl rfl) h1
  have lt2 : ∀ x ∈ p2, x.block < W.heap.size := by obtain ⟨m, hm⟩ := h2; exact DataW.trod_lt m _ _ _ hm
  obtain ⟨l2, e2, rfl, u2⟩ := open_rowK (n := 9) (k := .i64) (by kernel_rfl) (by kernel_rfl) (hval 2 24 v2 rfl rfl) h2
  have lt3 : ∀ x ∈ p3, x.block < W.heap.size := by obtain ⟨m, hm⟩ := h3; exact DataW.trod_lt m _ _ _ hm
  obtain ⟨l3, e3, rfl, u3⟩ := open_rowK (n := 3) (k := .i64) (by kernel_rfl) (by kernel_rfl) (hval 3 25 v3 rfl rfl) h3
  have lt4 : ∀ x ∈ p4, x.block < W.heap.size := by obtain ⟨m, hm⟩ := h4; exact DataW.trod_lt m _ _ _ hm
  obtain ⟨l4, e4, rfl, u4⟩ := open_rowK (n := 3) (k := .i64) (by kernel_rfl) (by kernel_rfl) (hval 4 25 v4 rfl rfl) h4
  clear hA0 hval0
  refine (vecLaws_walk l0 e0 u0 l1 e1 u1 l2 e2 u2 l3 e3 u3 l4 e4 u4 W).mono fun e W' ⟨he, bel⟩ => ?_
  subst he
  exact ⟨_, rfl, _, _, _, [], _, [], hW', trodAll_mk1 (shut_bool Try.underlying4 _), (trodAll_cons_mk (Below.trod laidOut (by kernel_rfl) (of_decide_eq_true (by kernel_rfl)) h0 bel lt0) (trodAll_cons_mk (Below.trod laidOut (by kernel_rfl) (of_decide_eq_true (by kernel_rfl)) h1 bel lt1) (trodAll_cons_mk (Below.trod laidOut (by kernel_rfl) (of_decide_eq_true (by kernel_rfl)) h2 bel lt2) (trodAll_cons_mk (Below.trod laidOut (by kernel_rfl) (of_decide_eq_true (by kernel_rfl)) h3 bel lt3) (trodAll_cons_mk (Below.trod laidOut (by kernel_rfl) (of_decide_eq_true (by kernel_rfl)) h4 bel lt4) trodAll_mk0))))), rfl, bel.frame _, fun h => by cases h⟩

theorem vecLaws_holds : Rows.VecLawsSaid :=
  OpenClaim.holds_of_wide 7 Try.f7 rfl rfl rfl rfl rfl rfl rfl ⟨rfl, rfl, rfl, rfl, rfl⟩ rfl rfl rfl rfl rfl (by kernel_rfl) Try.func7 (by kernel_rfl)
    (of_decide_eq_true (by kernel_rfl)) (by unfold Func.isWrapper; first | (rw [if_pos (by decide +kernel)]; kernel_rfl) | (rw [if_neg (by decide +kernel)]; exact ⟨rfl, rfl⟩))
    (fun os started H enc _ => vecLaws_lifted os started H enc)

end Go.Proofs.Ytklmanmeedfjpaa
