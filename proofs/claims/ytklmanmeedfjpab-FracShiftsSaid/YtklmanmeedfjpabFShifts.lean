/-
  PROVED: for every place, two columns and every number, facetlaw02.FracShifts answers true: shifts one behind the other; finer places move alike.
  No condition beyond the statement's own.
-/
import Derived.Test.YtklmanmeedfjpabFracC
import Derived.Test.YtklmanmeedfjpabFracM
import Derived.WalkKit
import Derived.ProofKit
import Derived.OpenShut
import Derived.ShutString
import Derived.ChangeOld
import Derived.Below
namespace Go.Proofs.Ytklmanmeedfjpab
open Go Vx
open Go.ChangeShapes Go.WideShapes Go.ChangeAt Go.RowKit

theorem own : ownKnob Try.prog.godebug = none := by kernel_rfl
theorem laidOut : laidOutB Try.prog = true := by kernel_rfl

def formL (p : List Int) : Bool := formB (nth p 0) (nth p 1) (nth p 2) (nth p 3)
def shiftL (p t : List Int) : List Int := shiftR (nth p 0) (nth p 1) (nth p 2) (nth p 3) (nth t 0) (nth t 1) (nth t 2)
def minusL (p q : List Int) : List Int := minusR (nth p 0) (nth p 1) (nth p 2) (nth p 3) (nth q 0) (nth q 1) (nth q 2) (nth q 3)
def finL' (p : List Int) (m : Int) : List Int := finR (nth p 0) (nth p 1) (nth p 2) (nth p 3) m
def placeL (m : Int) (t : List Int) : List Int := placeR m (nth t 0) (nth t 1) (nth t 2)
def oppL (p : List Int) : List Int := oppR (nth p 0) (nth p 1) (nth p 2) (nth p 3)
def ordL (p q : List Int) : List Int := ordR (nth p 0) (nth p 1) (nth p 2) (nth p 3) (nth q 0) (nth q 1) (nth q 2) (nth q 3)
def eqPL (p q : List Int) : Bool := eqP (nth p 0) (nth p 1) (nth p 2) (nth p 3) (nth q 0) (nth q 1) (nth q 2) (nth q 3)
theorem shift_form {m x y z : Int} (t u v : Int) (h : formB m x y z = true) : shiftR m x y z t u v = [m, (x + t * (m / 24)) % m, (y + u * (m / 24)) % m, (z + v * (m / 24)) % m, 0] ∧ formB m ((x + t * (m / 24)) % m) ((y + u * (m / 24)) % m) ((z + v * (m / 24)) % m) = true := by
  obtain ⟨hm, hx, hy, hz⟩ := form_spec h
  constructor
  · unfold shiftR err5T
    rw [h]
    simp only [chainL, Bool.not_true]
    rw [(sh1_eq t hm hx).1, (sh1_eq u hm hy).1, (sh1_eq v hm hz).1]
  · have h0 : 0 < m := by omega
    exact form_mk hm ⟨Int.emod_nonneg _ (by omega), Int.emod_lt_of_pos _ h0⟩ ⟨Int.emod_nonneg _ (by omega), Int.emod_lt_of_pos _ h0⟩ ⟨Int.emod_nonneg _ (by omega), Int.emod_lt_of_pos _ h0⟩
theorem minus_form {m x y z a b c : Int} (h : formB m x y z = true) (h' : formB m a b c = true) : minusR m x y z m a b c = [m, (x - a) % m, (y - b) % m, (z - c) % m, 0] := by
  obtain ⟨hm, hx, hy, hz⟩ := form_spec h
  obtain ⟨_, ha, hb, hc⟩ := form_spec h'
  unfold minusR
  rw [h, h']
  simp only [chainL, Bool.not_true, Bool.or_self, bne_self_eq_false, minL]
  rw [(mn1_eq hm hx ha).1, (mn1_eq hm hy hb).1, (mn1_eq hm hz hc).1]
theorem fin_form {m x y z n : Int} (h : formB m x y z = true) (hn : n = 24 ∨ n = 48 ∨ n = 96 ∨ n = 192) (hmn : n % m = 0) : finR m x y z n = [n, x * (n / m), y * (n / m), z * (n / m), 0] ∧ formB n (x * (n / m)) (y * (n / m)) (z * (n / m)) = true := by
  obtain ⟨hm, hx, hy, hz⟩ := form_spec h
  have hfn : isF n = true := by rcases hn with rfl | rfl | rfl | rfl <;> rfl
  have ht : Int.tmod n m = 0 := by rw [Int.tmod_eq_emod_of_nonneg (by omega)]; exact hmn
  have hd : Int.tdiv n m = n / m := Int.tdiv_eq_ediv_of_nonneg (by omega)
  have hb : ∀ w, 0 ≤ w ∧ w < m → 0 ≤ w * (n / m) ∧ w * (n / m) < n := by
    intro w hw
    rcases hm with rfl | rfl | rfl | rfl <;> rcases hn with rfl | rfl | rfl | rfl <;> omega
  have hk : W (Int.tdiv n m) = n / m := by
    rw [hd]
    rcases hm with rfl | rfl | rfl | rfl <;> rcases hn with rfl | rfl | rfl | rfl <;> rfl
  constructor
  · unfold finR
    rw [hfn, h, ht]
    simp only [chainL, Bool.not_true, bne_self_eq_false, finL, hk]
    have b1 := hb x hx
    have b2 := hb y hy
    have b3 := hb z hz
    rw [W_id (by omega) (by omega), W_id (by omega) (by omega), W_id (by omega) (by omega)]
  · exact form_mk hn (hb x hx) (hb y hy) (hb z hz)

/-- Transcribed: the statement's own tests, in its order. -/
def shiftsEnd (p a : List Int) (m : Int) : Option Value :=
  andO [nth (shiftL (finL' p m) a) 4 == 0, nth (shiftL p a) 4 == 0, nth (finL' (shiftL p a) m) 4 == 0, nth (ordL (finL' p m) p) 1 == 0, eqPL (shiftL (finL' p m) a) (finL' (shiftL p a) m), nth (ordL (finL' p m) p) 0 == 0]
def shiftsT (p a b s : List Int) (m : Int) : Option Value :=
  match !(formL p) with
  | true => some (.bool (nth (shiftL p a) 4 == 3))
  | false => guardF [nth (shiftL p s) 4 != 0, nth (shiftL p a) 4 != 0, nth (shiftL (shiftL p a) b) 4 != 0, nth (minusL (shiftL p s) p) 4 != 0, nth (placeL 24 s) 4 != 0, nth (finL' (placeL 24 s) (nth p 0)) 4 != 0,
        !(eqPL (shiftL p s) (shiftL (shiftL p a) b)), !(eqPL (minusL (shiftL p s) p) (finL' (placeL 24 s) (nth p 0))), !(formL (shiftL p s))]
      (match nth (finL' p m) 4 != 0 with
        | true => some (.bool (nth (finL' p m) 4 == 1))
        | false => shiftsEnd p a m)
theorem shifts_run (M x y z a b c d e f m : Int) : exFun (CC Try.prog) 60 Try.f8 [.agg (intsK .i64 [M, x, y, z]).toArray, .agg (intsK .i64 [a, b, c]).toArray, .agg (intsK .i64 [d, e, f]).toArray, .int .i64 m] = shiftsT [M, x, y, z] [a, b, c] [d, e, f] [add1 a d, add1 b e, add1 c f] m := by kernel_rfl
theorem ord_self {m x y z n : Int} (h : formB m x y z = true) (hn : n = 24 ∨ n = 48 ∨ n = 96 ∨ n = 192) (hmn : n % m = 0) : ordR n (x * (n / m)) (y * (n / m)) (z * (n / m)) m x y z = [0, 0] := by
  obtain ⟨hm, hx, hy, hz⟩ := form_spec h
  rw [ord_eq (fin_form h hn hmn).2 h]
  have key : ∀ w, in192 n (w * (n / m)) = in192 m w := by
    intro w
    unfold in192
    rcases hm with rfl | rfl | rfl | rfl <;> rcases hn with rfl | rfl | rfl | rfl <;> omega
  rw [key, key, key]
  unfold lex3 tri
  simp
theorem shifts_true (M x y z a b c d e f m : Int) : shiftsT [M, x, y, z] [a, b, c] [d, e, f] [add1 a d, add1 b e, add1 c f] m = some (.bool true) := by
  unfold shiftsT
  cases h : formL [M, x, y, z] with
  | false =>
    have h' : formB M x y z = false := h
    have : shiftL [M, x, y, z] [a, b, c] = [0, 0, 0, 0, 3] := by
      show shiftR M x y z a b c = _
      unfold shiftR err5T; rw [h']; rfl
    rw [this]; rfl
  | true =>
    have h' : formB M x y z = true := h
    obtain ⟨hm, hx, hy, hz⟩ := form_spec h'
    obtain ⟨s1, f1⟩ := shift_form (add1 a d) (add1 b e) (add1 c f) h'
    obtain ⟨s2, f2⟩ := shift_form a b c h'
    obtain ⟨s3, f3⟩ := shift_form d e f f2
    have hmi := minus_form f1 h'
    have hpl : placeR 24 (add1 a d) (add1 b e) (add1 c f) = [24, (a + d) % 24, (b + e) % 24, (c + f) % 24, 0] := by
      unfold placeR
      simp only [add1_eq, md24]
      show [24, _, _, _, 0] = _
      simp
    have fpl : formB 24 ((a + d) % 24) ((b + e) % 24) ((c + f) % 24) = true := form_mk (Or.inl rfl) (by omega) (by omega) (by omega)
    obtain ⟨hfi, _⟩ := fin_form fpl hm (by rcases hm with rfl | rfl | rfl | rfl <;> rfl)
    have e1 : shiftL [M, x, y, z] [add1 a d, add1 b e, add1 c f] = _ := s1
    have e2 : shiftL [M, x, y, z] [a, b, c] = _ := s2
    have e4 : placeL 24 [add1 a d, add1 b e, add1 c f] = _ := hpl
    simp only [Bool.not_true]
    rw [e1, e2, e4]
    simp only [shiftL, minusL, finL', nth, formL]
    rw [s3, hmi, hfi, f1]
    rw [guardF_eq]
    · cases hfin : isF m && m % M == 0 with
      | false =>
        have hbad : nth (finR M x y z m) 4 = 1 := by
          unfold finR
          rw [h']
          cases hi : isF m with
          | false => rfl
          | true =>
            rw [hi] at hfin
            have hm0 := isF_cases hi
            have : (Int.tmod m M != 0) = true := by
              rw [Int.tmod_eq_emod_of_nonneg (by omega)]
              simp only [Bool.true_and] at hfin
              simpa using hfin
            rw [this]; rfl
        rw [hbad]; rfl
      | true =>
        rw [Bool.and_eq_true] at hfin
        have hn := isF_cases hfin.1
        have hmn : m % M = 0 := by simpa using hfin.2
        obtain ⟨g1, g2⟩ := fin_form h' hn hmn
        obtain ⟨g3, _⟩ := shift_form a b c g2
        obtain ⟨g4, _⟩ := fin_form f2 hn hmn
        have g5 := ord_self h' hn hmn
        rw [g1]
        simp only [nth, bne_self_eq_false]
        unfold shiftsEnd
        rw [e2]
        have q1 : finL' [M, x, y, z] m = _ := g1
        rw [q1]
        simp only [shiftL, finL', ordL, nth]
        rw [g3, g4, g5]
        refine andO_eq _ ?_
        simp only [nth, eqPL, eqP, eq3, List.mem_cons, List.not_mem_nil, or_false, forall_eq_or_imp, forall_eq, Bool.and_true, Bool.and_eq_true, beq_iff_eq, true_and, and_true, BEq.rfl]
        rcases hm with rfl | rfl | rfl | rfl <;> rcases hn with rfl | rfl | rfl | rfl <;> first | omega | (refine ⟨?_, ?_, ?_⟩ <;> omega)
    · simp only [nth, eqPL, eqP, eq3, List.mem_cons, List.not_mem_nil, or_false, forall_eq_or_imp, forall_eq, bne_self_eq_false, true_and, and_true, Bool.and_true, Bool.not_eq_false', Bool.and_eq_true, beq_iff_eq, add1_eq]
      rcases hm with rfl | rfl | rfl | rfl <;> refine ⟨⟨?_, ?_, ?_⟩, ?_, ?_, ?_⟩ <;> omega
theorem shifts_law (l0 : List Int) (e0 : l0.length = 4) (_ : ∀ x ∈ l0, (Lit.int .i64 x).wf = true) (l1 : List Int) (e1 : l1.length = 3) (_ : ∀ x ∈ l1, (Lit.int .i64 x).wf = true) (l2 : List Int) (e2 : l2.length = 3) (_ : ∀ x ∈ l2, (Lit.int .i64 x).wf = true) (m : Int) (_ : (Lit.int .i64 m).wf = true) :
    exFun (CC Try.prog) 60 Try.f8 [.agg (intsK .i64 l0).toArray, .agg (intsK .i64 l1).toArray, .agg (intsK .i64 l2).toArray, .int .i64 m] = some (.bool true) := by
  match l0, e0, l1, e1, l2, e2 with
  | [M, x, y, z], _, [a, b, c], _, [d, e, f], _ => rw [shifts_run]; exact shifts_true _ _ _ _ _ _ _ _ _ _ _

theorem fracShifts_walk (l0 : List Int) (e0 : l0.length = 4) (u0 : ∀ x ∈ l0, (Lit.int .i64 x).wf = true) (l1 : List Int) (e1 : l1.length = 3) (u1 : ∀ x ∈ l1, (Lit.int .i64 x).wf = true) (l2 : List Int) (e2 : l2.length = 3) (u2 : ∀ x ∈ l2, (Lit.int .i64 x).wf = true) (x3 : Int) (u3 : (Lit.int .i64 x3).wf = true) (w : World) : Calls Try.prog 8 #[.agg (intsK .i64 l0).toArray, .agg (intsK .i64 l1).toArray, .agg (intsK .i64 l2).toArray, .int .i64 x3] w fun e w' => e = .returned (.bool true) ∧ Below w.heap.size w w' :=
  exFun_calls okC Try.func8 (args := [.agg (intsK .i64 l0).toArray, .agg (intsK .i64 l1).toArray, .agg (intsK .i64 l2).toArray, .int .i64 x3]) (by
    intro x hx
    simp only [List.mem_cons, List.not_mem_nil, or_false] at hx
    rcases hx with rfl | rfl | rfl | rfl <;> rfl) (shifts_law l0 e0 u0 l1 e1 u1 l2 e2 u2 x3 u3) w

set_option maxRecDepth 100000 in
theorem fracShifts_lifted (os : Os) (started : os.Started) (H : Type) (enc : TypeId × Value → H) :
    ReturnsInHanded {} Try.checked os 8 .any (Rows.fracShiftsSpec.pre6 enc Try.prog Try.f8 Rows.fracShiftsRow.domain false) (Rows.fracShiftsSpec.post enc Try.prog Try.f8 false true false false) := by
  refine returnsInHanded_of_change (C := Try.checked) own started (by kernel_rfl) Try.func8
    (ChangeSpec.witness6 (enc := enc) (C := Try.checked) false ⟨#[], #[.agg #[.int .i64 0, .int .i64 0, .int .i64 0, .int .i64 0], .agg #[.int .i64 0, .int .i64 0, .int .i64 0], .agg #[.int .i64 0, .int .i64 0, .int .i64 0], .int .i64 0], []⟩ 8 (by kernel_rfl) (by kernel_rfl) (by kernel_rfl) (by kernel_rfl)) ?_
  intro W base args ds gs before hval0 hW _ _
  have hval : ∀ (j : Nat) t v, Try.f8.params[j]? = some t → args[j]? = some v → Value.okWide Try.prog W .any base t v := hval0
  have hW' := hW
  obtain ⟨p, q, hA0, hV, rfl, _, _⟩ := hW
  have hA : DataW.TrodAll enc Try.prog W 0 (fun _ => true) true Try.f8.params.toList args.toList ds p := hA0
  rw [Try.params8] at hA hval
  obtain ⟨v0, vs0, d0, ds0, p0, q0, hargs, rfl, rfl, h0, r0⟩ := trodAll_cons hA
  obtain ⟨v1, vs1, d1, ds1, p1, q1, rfl, rfl, rfl, h1, r1⟩ := trodAll_cons r0
  obtain ⟨v2, vs2, d2, ds2, p2, q2, rfl, rfl, rfl, h2, r2⟩ := trodAll_cons r1
  obtain ⟨v3, vs3, d3, ds3, p3, q3, rfl, rfl, rfl, h3, r3⟩ := trodAll_cons r2
  obtain ⟨rfl, rfl, rfl⟩ := trodAll_nil r3
  obtain rfl : args = #[v0, v1, v2, v3] := by cases args; simp_all
  obtain ⟨rfl, rfl⟩ := trodVars_none hV
  have lt0 : ∀ x ∈ p0, x.block < W.heap.size := by obtain ⟨m, hm⟩ := h0; exact DataW.trod_lt m _ _ _ hm
  obtain ⟨l0, e0, rfl, u0⟩ := open_rowK (n := 4) (k := .i64) (by kernel_rfl) (by kernel_rfl) (hval 0 45 v0 rfl rfl) h0
  have lt1 : ∀ x ∈ p1, x.block < W.heap.size := by obtain ⟨m, hm⟩ := h1; exact DataW.trod_lt m _ _ _ hm
  obtain ⟨l1, e1, rfl, u1⟩ := open_rowK (n := 3) (k := .i64) (by kernel_rfl) (by kernel_rfl) (hval 1 36 v1 rfl rfl) h1
  have lt2 : ∀ x ∈ p2, x.block < W.heap.size := by obtain ⟨m, hm⟩ := h2; exact DataW.trod_lt m _ _ _ hm
  obtain ⟨l2, e2, rfl, u2⟩ := open_rowK (n := 3) (k := .i64) (by kernel_rfl) (by kernel_rfl) (hval 2 36 v2 rfl rfl) h2
  have lt3 : ∀ x ∈ p3, x.block < W.heap.size := by obtain ⟨m, hm⟩ := h3; exact DataW.trod_lt m _ _ _ hm
  obtain ⟨x3, rfl, _, _, u3⟩ := open_int Try.underlying3 (hval 3 3 v3 rfl rfl) h3
  clear hA0 hval0
  refine (fracShifts_walk l0 e0 u0 l1 e1 u1 l2 e2 u2 x3 u3 W).mono fun e W' ⟨he, bel⟩ => ?_
  subst he
  exact ⟨_, rfl, _, _, _, [], _, [], hW', trodAll_mk1 (shut_bool Try.underlying4 _), (trodAll_cons_mk (Below.trod laidOut (by kernel_rfl) (of_decide_eq_true (by kernel_rfl)) h0 bel lt0) (trodAll_cons_mk (Below.trod laidOut (by kernel_rfl) (of_decide_eq_true (by kernel_rfl)) h1 bel lt1) (trodAll_cons_mk (Below.trod laidOut (by kernel_rfl) (of_decide_eq_true (by kernel_rfl)) h2 bel lt2) (trodAll_cons_mk (Below.trod laidOut (by kernel_rfl) (of_decide_eq_true (by kernel_rfl)) h3 bel lt3) trodAll_mk0)))), rfl, bel.frame _, fun h => by cases h⟩

theorem fracShifts_holds : Rows.FracShiftsSaid :=
  OpenClaim.holds_of_wide 8 Try.f8 rfl rfl rfl rfl rfl rfl rfl ⟨rfl, rfl, rfl, rfl, rfl⟩ rfl rfl rfl rfl rfl (by kernel_rfl) Try.func8 (by kernel_rfl)
    (of_decide_eq_true (by kernel_rfl)) (by unfold Func.isWrapper; first | (rw [if_pos (by decide +kernel)]; kernel_rfl) | (rw [if_neg (by decide +kernel)]; exact ⟨rfl, rfl⟩))
    (fun os started H enc _ => fracShifts_lifted os started H enc)

end Go.Proofs.Ytklmanmeedfjpab
