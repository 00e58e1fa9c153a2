/-
  PROVED: for every three places, facetlaw02.FracTotal answers true: frac.Order is total; Opposite twice.
  No condition beyond the statement's own.
-/
import Derived.Test.YtklmanmeedfjpacFracCc
import Derived.Test.YtklmanmeedfjpacFracM
import Derived.WalkKit
import Derived.ProofKit
import Derived.OpenShut
import Derived.ShutString
import Derived.ChangeOld
import Derived.Below
namespace Go.Proofs.Ytklmanmeedfjpac
open Go Vx
open Go.ChangeShapes Go.WideShapes Go.ChangeAt Go.RowKit

theorem own : ownKnob Try.prog.godebug = none := by kernel_rfl
theorem laidOut : laidOutB Try.prog = true := by kernel_rfl

def formL (p : List Int) : Bool := formB (nth p 0) (nth p 1) (nth p 2) (nth p 3)
def shiftL (p t : List Int) : List Int := shiftR (nth p 0) (nth p 1) (nth p 2) (nth p 3) (nth t 0) (nth t 1) (nth t 2)
def minusL (p q : List Int) : List Int := minusR (nth p 0) (nth p 1) (nth p 2) (nth p 3) (nth q 0) (nth q 1) (nth q 2) (nth q 3)
def finL' (p : List Int) (m : Int) : List Int := finR (nth p 0) (nth p 1) (nth p 2) (nth p 3) m
def placeL (m : Int) (t : List Int) : List Int := placeR m (nth t 0) (nth t 1) (nth t 2)
def oppL (p : List Int) : List Int := oppR (nth p 0) (nth p 1) (nth p 2) (nth p 3)
def ordL (p q : List Int) : List Int := ordR (nth p 0) (nth p 1) (nth p 2) (nth p 3) (nth q 0) (nth q 1) (nth q 2) (nth q 3)
def eqPL (p q : List Int) : Bool := eqP (nth p 0) (nth p 1) (nth p 2) (nth p 3) (nth q 0) (nth q 1) (nth q 2) (nth q 3)
theorem shift_form {m x y z : Int} (t u v : Int) (h : formB m x y z = true) : shiftR m x y z t u v = [m, (x + t * (m / 24)) % m, (y + u * (m / 24)) % m, (z + v * (m / 24)) % m, 0] ∧ formB m ((x + t * (m / 24)) % m) ((y + u * (m / 24)) % m) ((z + v * (m / 24)) % m) = true := by
  obtain ⟨hm, hx, hy, hz⟩ := form_spec h
  constructor
  · unfold shiftR err5T
    rw [h]
    simp only [chainL, Bool.not_true]
    rw [(sh1_eq t hm hx).1, (sh1_eq u hm hy).1, (sh1_eq v hm hz).1]
  · have h0 : 0 < m := by omega
    exact form_mk hm ⟨Int.emod_nonneg _ (by omega), Int.emod_lt_of_pos _ h0⟩ ⟨Int.emod_nonneg _ (by omega), Int.emod_lt_of_pos _ h0⟩ ⟨Int.emod_nonneg _ (by omega), Int.emod_lt_of_pos _ h0⟩
theorem minus_form {m x y z a b c : Int} (h : formB m x y z = true) (h' : formB m a b c = true) : minusR m x y z m a b c = [m, (x - a) % m, (y - b) % m, (z - c) % m, 0] := by
  obtain ⟨hm, hx, hy, hz⟩ := form_spec h
  obtain ⟨_, ha, hb, hc⟩ := form_spec h'
  unfold minusR
  rw [h, h']
  simp only [chainL, Bool.not_true, Bool.or_self, bne_self_eq_false, minL]
  rw [(mn1_eq hm hx ha).1, (mn1_eq hm hy hb).1, (mn1_eq hm hz hc).1]
theorem fin_form {m x y z n : Int} (h : formB m x y z = true) (hn : n = 24 ∨ n = 48 ∨ n = 96 ∨ n = 192) (hmn : n % m = 0) : finR m x y z n = [n, x * (n / m), y * (n / m), z * (n / m), 0] ∧ formB n (x * (n / m)) (y * (n / m)) (z * (n / m)) = true := by
  obtain ⟨hm, hx, hy, hz⟩ := form_spec h
  have hfn : isF n = true := by rcases hn with rfl | rfl | rfl | rfl <;> rfl
  have ht : Int.tmod n m = 0 := by rw [Int.tmod_eq_emod_of_nonneg (by omega)]; exact hmn
  have hd : Int.tdiv n m = n / m := Int.tdiv_eq_ediv_of_nonneg (by omega)
  have hb : ∀ w, 0 ≤ w ∧ w < m → 0 ≤ w * (n / m) ∧ w * (n / m) < n := by
    intro w hw
    rcases hm with rfl | rfl | rfl | rfl <;> rcases hn with rfl | rfl | rfl | rfl <;> omega
  have hk : W (Int.tdiv n m) = n / m := by
    rw [hd]
    rcases hm with rfl | rfl | rfl | rfl <;> rcases hn with rfl | rfl | rfl | rfl <;> rfl
  constructor
  · unfold finR
    rw [hfn, h, ht]
    simp only [chainL, Bool.not_true, bne_self_eq_false, finL, hk]
    have b1 := hb x hx
    have b2 := hb y hy
    have b3 := hb z hz
    rw [W_id (by omega) (by omega), W_id (by omega) (by omega), W_id (by omega) (by omega)]
  · exact form_mk hn (hb x hx) (hb y hy) (hb z hz)

def and3 (a b c : Bool) (y n : Option Value) : Option Value :=
  match a with
  | true => match b with
    | true => match c with
      | true => y
      | false => n
    | false => n
  | false => n
theorem and3_no {a b c : Bool} (y n : Option Value) (h : (a && b && c) = false) : and3 a b c y n = n := by
  revert h
  cases a <;> cases b <;> cases c <;> intro h <;> first | rfl | cases h
def totalBad (p q : List Int) : Option Value :=
  match formL p with
  | true => match (nth (ordL p q) 1 == 0) == formL q with
    | true => some (.bool (nth (ordL p q) 1 == nth (ordL q p) 1))
    | false => some (.bool false)
  | false => match (nth (ordL p q) 1 == 0) == false with
    | true => some (.bool (nth (ordL p q) 1 == nth (ordL q p) 1))
    | false => some (.bool false)
def totalEnd (p q : List Int) : Option Value :=
  andO [nth (finL' p 192) 4 == 0, nth (finL' q 192) 4 == 0, nth (oppL p) 4 == 0, nth (oppL (oppL p)) 4 == 0, (nth (ordL p q) 0 == 0) == eqPL (finL' p 192) (finL' q 192), eqPL (oppL (oppL p)) p]
/-- Transcribed: the statement's own tests, in its order. -/
def totalT (p q r : List Int) : Option Value :=
  match !(formL p) with
  | true => totalBad p q
  | false => match !(formL q) with
    | true => totalBad p q
    | false => match !(formL r) with
      | true => totalBad p q
      | false => guardF [nth (ordL p q) 1 != 0, nth (ordL q r) 1 != 0, nth (ordL p r) 1 != 0, nth (ordL p q) 0 != W (0 - nth (ordL q p) 0)]
          (and3 (decide (nth (ordL p q) 0 ≤ 0)) (decide (nth (ordL q r) 0 ≤ 0)) (decide (nth (ordL p r) 0 > 0)) (some (.bool false))
            (and3 (decide (nth (ordL p q) 0 < 0)) (decide (nth (ordL q r) 0 ≤ 0)) (decide (nth (ordL p r) 0 ≥ 0)) (some (.bool false)) (totalEnd p q)))
theorem total_run (M x y z N a b c K d e f : Int) : exFun (CC Try.prog) 60 Try.f3 [.agg (intsK .i64 [M, x, y, z]).toArray, .agg (intsK .i64 [N, a, b, c]).toArray, .agg (intsK .i64 [K, d, e, f]).toArray] = totalT [M, x, y, z] [N, a, b, c] [K, d, e, f] := by kernel_rfl
theorem lex3_spec (a b c d e f : Int) : (lex3 a b c d e f = -1 ∧ (a < d ∨ (a = d ∧ (b < e ∨ (b = e ∧ c < f))))) ∨ (lex3 a b c d e f = 0 ∧ a = d ∧ b = e ∧ c = f) ∨ (lex3 a b c d e f = 1 ∧ (d < a ∨ (a = d ∧ (e < b ∨ (b = e ∧ f < c))))) := by
  unfold lex3 tri
  by_cases h1 : a < d
  · rw [if_pos h1]; omega
  rw [if_neg h1]
  by_cases h2 : a > d
  · rw [if_pos h2]; omega
  rw [if_neg h2]
  by_cases h3 : b < e
  · rw [if_pos h3]; omega
  rw [if_neg h3]
  by_cases h4 : b > e
  · rw [if_pos h4]; omega
  rw [if_neg h4]
  by_cases h5 : c < f
  · rw [if_pos h5]; omega
  rw [if_neg h5]
  by_cases h6 : c > f
  · rw [if_pos h6]; omega
  rw [if_neg h6]
  omega
theorem lex3_zero (a b c d e f : Int) : lex3 a b c d e f = 0 ↔ (a = d ∧ b = e ∧ c = f) := by
  have s1 := lex3_spec a b c d e f
  constructor
  · intro h; omega
  · intro h; omega
theorem lex3_range (a b c d e f : Int) : -1 ≤ lex3 a b c d e f ∧ lex3 a b c d e f ≤ 1 := by
  have s1 := lex3_spec a b c d e f
  omega
theorem lex3_anti (a b c d e f : Int) : lex3 d e f a b c = -lex3 a b c d e f := by
  have s1 := lex3_spec a b c d e f
  have s2 := lex3_spec d e f a b c
  omega
theorem lex3_tr (a b c d e f g h i : Int) (h1 : lex3 a b c d e f ≤ 0) (h2 : lex3 d e f g h i ≤ 0) : lex3 a b c g h i ≤ 0 ∧ (lex3 a b c d e f < 0 → lex3 a b c g h i < 0) := by
  have s1 := lex3_spec a b c d e f
  have s2 := lex3_spec d e f g h i
  have s3 := lex3_spec a b c g h i
  constructor
  · omega
  · intro h3; omega
theorem and3_dec {A B C : Prop} [Decidable A] [Decidable B] [Decidable C] (y n : Option Value) (h : A → B → ¬ C) : and3 (decide A) (decide B) (decide C) y n = n := by
  by_cases ha : A
  · by_cases hb : B
    · have hc := h ha hb
      simp [and3, ha, hb, hc]
    · simp [and3, ha, hb]
  · simp [and3, ha]
theorem total_true (M x y z N a b c K d e f : Int) : totalT [M, x, y, z] [N, a, b, c] [K, d, e, f] = some (.bool true) := by
  have hbad : ∀ {q : Bool}, (formB M x y z && formB N a b c) = q → totalBad [M, x, y, z] [N, a, b, c] = some (.bool true) := by
    intro q hq
    unfold totalBad
    simp only [formL, ordL, nth]
    cases h1 : formB M x y z with
    | false =>
      rw [ord_bad (m := M) (n := N) (by rw [h1]; rfl), ord_bad (m := N) (n := M) (by rw [h1, Bool.and_false])]
      rfl
    | true =>
      cases h2 : formB N a b c with
      | false =>
        rw [ord_bad (m := M) (n := N) (by rw [h1, h2]; rfl), ord_bad (m := N) (n := M) (by rw [h2]; rfl)]
        rfl
      | true =>
        rw [ord_eq h1 h2, ord_eq h2 h1]
        rfl
  unfold totalT
  cases h1 : formL [M, x, y, z] with
  | false => exact hbad rfl
  | true =>
    cases h2 : formL [N, a, b, c] with
    | false => exact hbad rfl
    | true =>
      cases h3 : formL [K, d, e, f] with
      | false => exact hbad rfl
      | true =>
        have f1 : formB M x y z = true := h1
        have f2 : formB N a b c = true := h2
        have f3 : formB K d e f = true := h3
        have o1 : ordL [M, x, y, z] [N, a, b, c] = _ := ord_eq f1 f2
        have o2 : ordL [N, a, b, c] [K, d, e, f] = _ := ord_eq f2 f3
        have o3 : ordL [M, x, y, z] [K, d, e, f] = _ := ord_eq f1 f3
        have o4 : ordL [N, a, b, c] [M, x, y, z] = _ := ord_eq f2 f1
        obtain ⟨hm, hx, hy, hz⟩ := form_spec f1
        obtain ⟨hn, ha, hb, hc⟩ := form_spec f2
        obtain ⟨g1, _⟩ := fin_form (n := 192) f1 (by omega) (by rcases hm with rfl | rfl | rfl | rfl <;> rfl)
        obtain ⟨g2, _⟩ := fin_form (n := 192) f2 (by omega) (by rcases hn with rfl | rfl | rfl | rfl <;> rfl)
        have p1 : oppR M x y z = [M, (-x) % M, (-y) % M, (-z) % M, 0] := by
          unfold oppR err5T; rw [f1]
          simp only [chainL, Bool.not_true, op1_eq _ hm]
        have hM : 0 < M := by omega
        have f4 : formB M ((-x) % M) ((-y) % M) ((-z) % M) = true := form_mk hm ⟨Int.emod_nonneg _ (by omega), Int.emod_lt_of_pos _ hM⟩ ⟨Int.emod_nonneg _ (by omega), Int.emod_lt_of_pos _ hM⟩ ⟨Int.emod_nonneg _ (by omega), Int.emod_lt_of_pos _ hM⟩
        have p2 : oppR M ((-x) % M) ((-y) % M) ((-z) % M) = [M, x, y, z, 0] := by
          unfold oppR err5T; rw [f4]
          simp only [chainL, Bool.not_true, op1_eq _ hm]
          rcases hm with rfl | rfl | rfl | rfl <;> simp only [List.cons.injEq, true_and, and_true] <;> omega
        have hend : totalEnd [M, x, y, z] [N, a, b, c] = some (.bool true) := by
          unfold totalEnd
          rw [o1]
          simp only [finL', oppL, nth]
          rw [g1, g2, p1]
          simp only [nth]
          rw [p2]
          refine andO_eq _ ?_
          simp only [nth, eqPL, eqP, eq3, List.mem_cons, List.not_mem_nil, or_false, forall_eq_or_imp, forall_eq, Bool.and_true, BEq.rfl, true_and, and_true, Bool.and_self]
          rw [beq_iff_eq, Bool.eq_iff_iff]
          simp only [beq_iff_eq, Bool.and_eq_true]
          rw [true_and]
          exact lex3_zero _ _ _ _ _ _
        simp only [Bool.not_true]
        rw [o1, o2, o3, o4, hend]
        simp only [nth]
        have r1 := lex3_range (in192 M x) (in192 M y) (in192 M z) (in192 N a) (in192 N b) (in192 N c)
        have a1 := lex3_anti (in192 M x) (in192 M y) (in192 M z) (in192 N a) (in192 N b) (in192 N c)
        have tr := lex3_tr (in192 M x) (in192 M y) (in192 M z) (in192 N a) (in192 N b) (in192 N c) (in192 K d) (in192 K e) (in192 K f)
        clear o1 o2 o3 o4 hend hbad g1 g2 p1 p2 f1 f2 f3 f4 h1 h2 h3 hm hn hx hy hz ha hb hc hM
        rw [a1]
        rw [guardF_eq]
        · refine (and3_dec _ _ (fun q1 q2 q3 => ?_)).trans (and3_dec _ _ (fun q1 q2 q3 => ?_))
          · have := (tr q1 q2).1; omega
          · have := (tr (by omega) q2).2 q1; omega
        · simp only [List.mem_cons, List.not_mem_nil, or_false, forall_eq_or_imp, forall_eq, bne_self_eq_false, true_and, bne_eq_false_iff_eq]
          rw [W_id (by omega) (by omega)]
          omega
theorem total_law (l0 : List Int) (e0 : l0.length = 4) (_ : ∀ x ∈ l0, (Lit.int .i64 x).wf = true) (l1 : List Int) (e1 : l1.length = 4) (_ : ∀ x ∈ l1, (Lit.int .i64 x).wf = true) (l2 : List Int) (e2 : l2.length = 4) (_ : ∀ x ∈ l2, (Lit.int .i64 x).wf = true) :
    exFun (CC Try.prog) 60 Try.f3 [.agg (intsK .i64 l0).toArray, .agg (intsK .i64 l1).toArray, .agg (intsK .i64 l2).toArray] = some (.bool true) := by
  match l0, e0, l1, e1, l2, e2 with
  | [M, x, y, z], _, [N, a, b, c], _, [K, d, e, f], _ => rw [total_run]; exact total_true _ _ _ _ _ _ _ _ _ _ _ _

theorem fracTotal_walk (l0 : List Int) (e0 : l0.length = 4) (u0 : ∀ x ∈ l0, (Lit.int .i64 x).wf = true) (l1 : List Int) (e1 : l1.length = 4) (u1 : ∀ x ∈ l1, (Lit.int .i64 x).wf = true) (l2 : List Int) (e2 : l2.length = 4) (u2 : ∀ x ∈ l2, (Lit.int .i64 x).wf = true) (w : World) : Calls Try.prog 3 #[.agg (intsK .i64 l0).toArray, .agg (intsK .i64 l1).toArray, .agg (intsK .i64 l2).toArray] w fun e w' => e = .returned (.bool true) ∧ Below w.heap.size w w' :=
  exFun_calls okC Try.func3 (args := [.agg (intsK .i64 l0).toArray, .agg (intsK .i64 l1).toArray, .agg (intsK .i64 l2).toArray]) (by
    intro x hx
    simp only [List.mem_cons, List.not_mem_nil, or_false] at hx
    rcases hx with rfl | rfl | rfl <;> rfl) (total_law l0 e0 u0 l1 e1 u1 l2 e2 u2) w

set_option maxRecDepth 100000 in
theorem fracTotal_lifted (os : Os) (started : os.Started) (H : Type) (enc : TypeId × Value → H) :
    ReturnsInHanded {} Try.checked os 3 .any (Rows.fracTotalSpec.pre6 enc Try.prog Try.f3 Rows.fracTotalRow.domain false) (Rows.fracTotalSpec.post enc Try.prog Try.f3 false true false false) := by
  refine returnsInHanded_of_change (C := Try.checked) own started (by kernel_rfl) Try.func3
    (ChangeSpec.witness6 (enc := enc) (C := Try.checked) false ⟨#[], #[.agg #[.int .i64 0, .int .i64 0, .int .i64 0, .int .i64 0], .agg #[.int .i64 0, .int .i64 0, .int .i64 0, .int .i64 0], .agg #[.int .i64 0, .int .i64 0, .int .i64 0, .int .i64 0]], []⟩ 8 (by kernel_rfl) (by kernel_rfl) (by kernel_rfl) (by kernel_rfl)) ?_
  intro W base args ds gs before hval0 hW _ _
  have hval : ∀ (j : Nat) t v, Try.f3.params[j]? = some t → args[j]? = some v → Value.okWide Try.prog W .any base t v := hval0
  have hW' := hW
  obtain ⟨p, q, hA0, hV, rfl, _, _⟩ := hW
  have hA : DataW.TrodAll enc Try.prog W 0 (fun _ => true) true Try.f3.params.toList args.toList ds p := hA0
  rw [Try.params3] at hA hval
  obtain ⟨v0, vs0, d0, ds0, p0, q0, hargs, rfl, rfl, h0, r0⟩ := trodAll_cons hA
  obtain ⟨v1, vs1, d1, ds1, p1, q1, rfl, rfl, rfl, h1, r1⟩ := trodAll_cons r0
  obtain ⟨v2, vs2, d2, ds2, p2, q2, rfl, rfl, rfl, h2, r2⟩ := trodAll_cons r1
  obtain ⟨rfl, rfl, rfl⟩ := trodAll_nil r2
  obtain rfl : args = #[v0, v1, v2] := by cases args; simp_all
  obtain ⟨rfl, rfl⟩ := trodVars_none hV
  have lt0 : ∀ x ∈ p0, x.block < W.heap.size := by obtain ⟨m, hm⟩ := h0; exact DataW.trod_lt m _ _ _ hm
  obtain ⟨l0, e0, rfl, u0⟩ := open_rowK (n := 4) (k := .i64) (by kernel_rfl) (by kernel_rfl) (hval 0 25 v0 rfl rfl) h0
  have lt1 : ∀ x ∈ p1, x.block < W.heap.size := by obtain ⟨m, hm⟩ := h1; exact DataW.trod_lt m _ _ _ hm
  obtain ⟨l1, e1, rfl, u1⟩ := open_rowK (n := 4) (k := .i64) (by kernel_rfl) (by kernel_rfl) (hval 1 25 v1 rfl rfl) h1
  have lt2 : ∀ x ∈ p2, x.block < W.heap.size := by obtain ⟨m, hm⟩ := h2; exact DataW.trod_lt m _ _ _ hm
  obtain ⟨l2, e2, rfl, u2⟩ := open_rowK (n := 4) (k := .i64) (by kernel_rfl) (by kernel_rfl) (hval 2 25 v2 rfl rfl) h2
  clear hA0 hval0
  refine (fracTotal_walk l0 e0 u0 l1 e1 u1 l2 e2 u2 W).mono fun e W' ⟨he, bel⟩ => ?_
  subst he
  exact ⟨_, rfl, _, _, _, [], _, [], hW', trodAll_mk1 (shut_bool Try.underlying4 _), (trodAll_cons_mk (Below.trod laidOut (by kernel_rfl) (of_decide_eq_true (by kernel_rfl)) h0 bel lt0) (trodAll_cons_mk (Below.trod laidOut (by kernel_rfl) (of_decide_eq_true (by kernel_rfl)) h1 bel lt1) (trodAll_cons_mk (Below.trod laidOut (by kernel_rfl) (of_decide_eq_true (by kernel_rfl)) h2 bel lt2) trodAll_mk0))), rfl, bel.frame _, fun h => by cases h⟩

theorem fracTotal_holds : Rows.FracTotalSaid :=
  OpenClaim.holds_of_wide 3 Try.f3 rfl rfl rfl rfl rfl rfl rfl ⟨rfl, rfl, rfl, rfl, rfl⟩ rfl rfl rfl rfl rfl (by kernel_rfl) Try.func3 (by kernel_rfl)
    (of_decide_eq_true (by kernel_rfl)) (by unfold Func.isWrapper; first | (rw [if_pos (by decide +kernel)]; kernel_rfl) | (rw [if_neg (by decide +kernel)]; exact ⟨rfl, rfl⟩))
    (fun os started H enc _ => fracTotal_lifted os started H enc)

end Go.Proofs.Ytklmanmeedfjpac
