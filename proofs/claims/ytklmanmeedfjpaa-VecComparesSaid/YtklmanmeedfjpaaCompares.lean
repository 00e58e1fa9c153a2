/-
  PROVED: for every three matrices of any entries, facetlaw01.VecCompares answers true: vec.Compare answers as the document says, and is one order.
  No condition beyond the statement's own.
-/
import Derived.Test.YtklmanmeedfjpaaVecA
import Derived.Test.YtklmanmeedfjpaaVecM
import Derived.WalkKit
import Derived.ProofKit
import Derived.OpenShut
import Derived.ShutString
import Derived.ChangeOld
import Derived.Below
namespace Go.Proofs.Ytklmanmeedfjpaa
open Go Vx
open Go.ChangeShapes Go.WideShapes Go.ChangeAt Go.RowKit

theorem own : ownKnob Try.prog.godebug = none := by kernel_rfl
theorem laidOut : laidOutB Try.prog = true := by kernel_rfl

/-- The order of rows of numbers. -/
def lex : List Int → List Int → Int
  | a :: l, b :: m => if a < b then -1 else if a > b then 1 else lex l m
  | _, _ => 0
theorem dcomp_lex : ∀ (l m : List Int), dcompR l m = lex l m
  | [], _ => by cases ‹List Int› <;> rfl
  | _ :: _, [] => rfl
  | a :: l, b :: m => by
    have ih := dcomp_lex l m
    unfold dcompR at ih ⊢
    simp only [dcompT, lex]
    by_cases h1 : a < b
    · simp [chainL, h1, nth]
    · by_cases h2 : a > b
      · simp [chainL, h1, h2, nth]
      · simp only [h1, h2, chainL, decide_false, if_false]; exact ih
theorem cmp_lex (a b : Int) : cmpR a b = if a < b then -1 else if a > b then 1 else 0 := by
  unfold cmpR cmpT
  by_cases h1 : a < b
  · simp [chainL, h1, nth]
  · by_cases h2 : a > b
    · simp [chainL, h1, h2, nth]
    · simp [chainL, h1, h2, nth]
theorem comp_lex : ∀ (l m : List Int), compR l m = lex l m
  | [], _ => by cases ‹List Int› <;> rfl
  | _ :: _, [] => rfl
  | a :: l, b :: m => by
    have ih := comp_lex l m
    unfold compR at ih ⊢
    simp only [compT, lex, cmp_lex]
    by_cases h1 : a < b
    · simp [chainL, h1, nth]
    · by_cases h2 : a > b
      · simp [chainL, h1, h2, nth]
      · simp only [h1, h2, chainL, if_false, bne_self_eq_false]; exact ih
theorem lex_refl : ∀ (l : List Int), lex l l = 0
  | [] => rfl
  | a :: l => by simp only [lex]; rw [if_neg (by omega), if_neg (by omega)]; exact lex_refl l
theorem lex_anti : ∀ (l m : List Int), lex m l = -lex l m
  | [], [] => rfl
  | [], _ :: _ => rfl
  | _ :: _, [] => rfl
  | a :: l, b :: m => by
    simp only [lex]
    have ih := lex_anti l m
    by_cases h1 : a < b
    · rw [if_neg (show ¬ b < a by omega), if_pos (show b > a by omega), if_pos h1]; rfl
    · by_cases h2 : a > b
      · rw [if_pos (show b < a by omega), if_neg h1, if_pos h2]
      · rw [if_neg (show ¬ b < a by omega), if_neg (show ¬ b > a by omega), if_neg h1, if_neg h2]; exact ih
theorem lex_range : ∀ (l m : List Int), lex l m = -1 ∨ lex l m = 0 ∨ lex l m = 1
  | [], _ => by cases ‹List Int› <;> exact Or.inr (Or.inl rfl)
  | _ :: _, [] => Or.inr (Or.inl rfl)
  | a :: l, b :: m => by
    simp only [lex]
    have ih := lex_range l m
    split
    · exact Or.inl rfl
    · split
      · exact Or.inr (Or.inr rfl)
      · exact ih
theorem lex_eq : ∀ (l m : List Int), l.length = m.length → (lex l m = 0 ↔ l = m)
  | [], [], _ => by simp [lex]
  | a :: l, b :: m, h => by
    simp only [List.length_cons, Nat.add_right_cancel_iff] at h
    have ih := lex_eq l m h
    simp only [lex, List.cons.injEq]
    split
    · rename_i hl; simp; omega
    · split
      · rename_i hl; simp; omega
      · rename_i h1 h2
        have : a = b := by omega
        simp [this, ih]
theorem lex_trans : ∀ (l m k : List Int), l.length = m.length → m.length = k.length → lex l m ≤ 0 → lex m k ≤ 0 → lex l k ≤ 0 ∧ (lex l m < 0 → lex l k = -1)
  | [], [], [], _, _, _, _ => by simp [lex]
  | a :: l, b :: m, c :: k, h1, h2, x, y => by
    simp only [List.length_cons, Nat.add_right_cancel_iff] at h1 h2
    simp only [lex] at x y ⊢
    by_cases ab : a < b
    · by_cases bc : b < c
      · rw [if_pos (show a < c by omega)]; omega
      · by_cases cb : b > c
        · rw [if_neg bc, if_pos cb] at y; omega
        · rw [if_pos (show a < c by omega)]; omega
    · by_cases ba : a > b
      · rw [if_neg ab, if_pos ba] at x; omega
      · rw [if_neg ab, if_neg ba] at x
        by_cases bc : b < c
        · rw [if_pos (show a < c by omega)]; omega
        · by_cases cb : b > c
          · rw [if_neg bc, if_pos cb] at y; omega
          · rw [if_neg bc, if_neg cb] at y
            rw [if_neg (show ¬ a < c by omega), if_neg (show ¬ a > c by omega), if_neg ab, if_neg ba]
            exact lex_trans l m k h1 h2 x y
theorem eq9_lex (a b c d e f g h i j k l m n o p q r : Int) : (lex [a, b, c, d, e, f, g, h, i] [j, k, l, m, n, o, p, q, r] == 0) = eq9 a b c d e f g h i j k l m n o p q r := by
  rw [Bool.eq_iff_iff]
  simp [lex_eq, eq9, eq3, and_assoc]

def compEnd2 (x y z : Int) : Option Value :=
  match decide (x < 0) with
  | true => match decide (y ≤ 0) with
    | true => some (.bool (!(z != -1)))
    | false => some (.bool true)
  | false => some (.bool true)
def compEnd (x y z : Int) : Option Value :=
  match decide (x ≤ 0) with
  | true => match decide (y ≤ 0) with
    | true => match !(decide (z > 0)) with
      | true => compEnd2 x y z
      | false => some (.bool false)
    | false => compEnd2 x y z
  | false => compEnd2 x y z
/-- Transcribed: the statement's own tests, in its order. -/
def comparesT (l m k : List Int) (e : Bool) : Option Value :=
  guardF [compR l m != dcompR l m, compR m k != dcompR m k, compR m l != W (0 - compR l m), compR l l != 0, !((compR l m == 0) == e)] (compEnd (compR l m) (compR m k) (compR l k))
theorem compares_run (a b c d e f g h i j k l m n o p q r a2 b2 c2 d2 e2 f2 g2 h2 i2 : Int) : exFun (C17 Try.prog) 60 Try.f6 [.agg (intsK .i64 [a, b, c, d, e, f, g, h, i]).toArray, .agg (intsK .i64 [j, k, l, m, n, o, p, q, r]).toArray, .agg (intsK .i64 [a2, b2, c2, d2, e2, f2, g2, h2, i2]).toArray] = comparesT [a, b, c, d, e, f, g, h, i] [j, k, l, m, n, o, p, q, r] [a2, b2, c2, d2, e2, f2, g2, h2, i2] (eq9 a b c d e f g h i j k l m n o p q r) := by kernel_rfl
theorem compEnd_true (x y z : Int) (h : x ≤ 0 → y ≤ 0 → z ≤ 0 ∧ (x < 0 → z = -1)) : compEnd x y z = some (.bool true) := by
  have e2 : compEnd2 x y z = some (.bool true) := by
    unfold compEnd2
    by_cases hx : x < 0
    · by_cases hy : y ≤ 0
      · have := (h (by omega) hy).2 hx
        simp [hx, hy, this]
      · simp [hx, hy]
    · simp [hx]
  unfold compEnd
  rw [e2]
  by_cases hx : x ≤ 0
  · by_cases hy : y ≤ 0
    · have h0 : ¬ z > 0 := by have := (h hx hy).1; omega
      simp only [hx, hy, h0, decide_true, decide_false, Bool.not_false]
    · simp [hx, hy]
  · simp [hx]
theorem compares_true (l m k : List Int) (h1 : l.length = m.length) (h2 : m.length = k.length) : comparesT l m k (lex l m == 0) = some (.bool true) := by
  unfold comparesT
  simp only [comp_lex, dcomp_lex]
  rw [guardF_eq]
  · exact compEnd_true _ _ _ fun x y => lex_trans l m k h1 h2 x y
  · have ha := lex_anti l m
    have hr := lex_range l m
    have hw : W (-lex l m) = -lex l m := W_id (by omega) (by omega)
    simp [lex_refl, hw, ha]
theorem compares_law (l0 : List Int) (e0 : l0.length = 9) (_ : ∀ x ∈ l0, (Lit.int .i64 x).wf = true) (l1 : List Int) (e1 : l1.length = 9) (_ : ∀ x ∈ l1, (Lit.int .i64 x).wf = true) (l2 : List Int) (e2 : l2.length = 9) (_ : ∀ x ∈ l2, (Lit.int .i64 x).wf = true) :
    exFun (C17 Try.prog) 60 Try.f6 [.agg (intsK .i64 l0).toArray, .agg (intsK .i64 l1).toArray, .agg (intsK .i64 l2).toArray] = some (.bool true) := by
  match l0, e0, l1, e1, l2, e2 with
  | [a, b, c, d, e, f, g, h, i], _, [j, k, l, m, n, o, p, q, r], _, [a2, b2, c2, d2, e2, f2, g2, h2, i2], _ => rw [compares_run, ← eq9_lex]; exact compares_true _ _ _ rfl rfl

theorem vecCompares_walk (l0 : List Int) (e0 : l0.length = 9) (u0 : ∀ x ∈ l0, (Lit.int .i64 x).wf = true) (l1 : List Int) (e1 : l1.length = 9) (u1 : ∀ x ∈ l1, (Lit.int .i64 x).wf = true) (l2 : List Int) (e2 : l2.length = 9) (u2 : ∀ x ∈ l2, (Lit.int .i64 x).wf = true) (w : World) : Calls Try.prog 6 #[.agg (intsK .i64 l0).toArray, .agg (intsK .i64 l1).toArray, .agg (intsK .i64 l2).toArray] w fun e w' => e = .returned (.bool true) ∧ Below w.heap.size w w' :=
  exFun_calls ok17 Try.func6 (args := [.agg (intsK .i64 l0).toArray, .agg (intsK .i64 l1).toArray, .agg (intsK .i64 l2).toArray]) (by
    intro x hx
    simp only [List.mem_cons, List.not_mem_nil, or_false] at hx
    rcases hx with rfl | rfl | rfl <;> rfl) (compares_law l0 e0 u0 l1 e1 u1 l2 e2 u2) w

set_option maxRecDepth 100000 in
theorem vecCompares_lifted (os : Os) (started : os.Started) (H : Type) (enc : TypeId × Value → H) :
    ReturnsInHanded {} Try.checked os 6 .any (Rows.vecComparesSpec.pre6 enc Try.prog Try.f6 Rows.vecComparesRow.domain false) (Rows.vecComparesSpec.post enc Try.prog Try.f6 false true false false) := by
  refine returnsInHanded_of_change (C := Try.checked) own started (by kernel_rfl) Try.func6
    (ChangeSpec.witness6 (enc := enc) (C := Try.checked) false ⟨#[], #[.agg #[.int .i64 0, .int .i64 0, .int .i64 0, .int .i64 0, .int .i64 0, .int .i64 0, .int .i64 0, .int .i64 0, .int .i64 0], .agg #[.int .i64 0, .int .i64 0, .int .i64 0, .int .i64 0, .int .i64 0, .int .i64 0, .int .i64 0, .int .i64 0, .int .i64 0], .agg #[.int .i64 0, .int .i64 0, .int .i64 0, .int .i64 0, .int .i64 0, .int .i64 0, .int .i64 0, .int .i64 0, .int .i64 0]], []⟩ 8 (by kernel_rfl) (by kernel_rfl) (by kernel_rfl) (by kernel_rfl)) ?_
  intro W base args ds gs before hval0 hW _ _
  have hval : ∀ (j : Nat) t v, Try.f6.params[j]? = some t → args[j]? = some v → Value.okWide Try.prog W .any base t v := hval0
  have hW' := hW
  obtain ⟨p, q, hA0, hV, rfl, _, _⟩ := hW
  have hA : DataW.TrodAll enc Try.prog W 0 (fun _ => true) true Try.f6.params.toList args.toList ds p := hA0
  rw [Try.params6] at hA hval
  obtain ⟨v0, vs0, d0, ds0, p0, q0, hargs, rfl, rfl, h0, r0⟩ := trodAll_cons hA
  obtain ⟨v1, vs1, d1, ds1, p1, q1, rfl, rfl, rfl, h1, r1⟩ := trodAll_cons r0
  obtain ⟨v2, vs2, d2, ds2, p2, q2, rfl, rfl, rfl, h2, r2⟩ := trodAll_cons r1
  obtain ⟨rfl, rfl, rfl⟩ := trodAll_nil r2
  obtain rfl : args = #[v0, v1, v2] := by cases args; simp_all
  obtain ⟨rfl, rfl⟩ := trodVars_none hV
  have lt0 : ∀ x ∈ p0, x.block < W.heap.size := by obtain ⟨m, hm⟩ := h0; exact DataW.trod_lt m _ _ _ hm
  obtain ⟨l0, e0, rfl, u0⟩ := open_rowK (n := 9) (k := .i64) (by kernel_rfl) (by kernel_rfl) (hval 0 24 v0 rfl rfl) h0
  have lt1 : ∀ x ∈ p1, x.block < W.heap.size := by obtain ⟨m, hm⟩ := h1; exact DataW.trod_lt m _ _ _ hm
  obtain ⟨l1, e1, rfl, u1⟩ := open_rowK (n := 9) (k := .i64) (by kernel_rfl) (by kernel_rfl) (hval 1 24 v1 rfl rfl) h1
  have lt2 : ∀ x ∈ p2, x.block < W.heap.size := by obtain ⟨m, hm⟩ := h2; exact DataW.trod_lt m _ _ _ hm
  obtain ⟨l2, e2, rfl, u2⟩ := open_rowK (n := 9) (k := .i64) (by kernel_rfl) (by kernel_rfl) (hval 2 24 v2 rfl rfl) h2
  clear hA0 hval0
  refine (vecCompares_walk l0 e0 u0 l1 e1 u1 l2 e2 u2 W).mono fun e W' ⟨he, bel⟩ => ?_
  subst he
  exact ⟨_, rfl, _, _, _, [], _, [], hW', trodAll_mk1 (shut_bool Try.underlying4 _), (trodAll_cons_mk (Below.trod laidOut (by kernel_rfl) (of_decide_eq_true (by kernel_rfl)) h0 bel lt0) (trodAll_cons_mk (Below.trod laidOut (by kernel_rfl) (of_decide_eq_true (by kernel_rfl)) h1 bel lt1) (trodAll_cons_mk (Below.trod laidOut (by kernel_rfl) (of_decide_eq_true (by kernel_rfl)) h2 bel lt2) trodAll_mk0))), rfl, bel.frame _, fun h => by cases h⟩

theorem vecCompares_holds : Rows.VecComparesSaid :=
  OpenClaim.holds_of_wide 6 Try.f6 rfl rfl rfl rfl rfl rfl rfl ⟨rfl, rfl, rfl, rfl, rfl⟩ rfl rfl rfl rfl rfl (by kernel_rfl) Try.func6 (by kernel_rfl)
    (of_decide_eq_true (by kernel_rfl)) (by unfold Func.isWrapper; first | (rw [if_pos (by decide +kernel)]; kernel_rfl) | (rw [if_neg (by decide +kernel)]; exact ⟨rfl, rfl⟩))
    (fun os started H enc _ => vecCompares_lifted os started H enc)

end Go.Proofs.Ytklmanmeedfjpaa
