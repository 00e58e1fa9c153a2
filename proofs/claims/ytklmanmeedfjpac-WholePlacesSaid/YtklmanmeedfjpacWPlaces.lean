/-
  PROVED: for all translations, parts, places and numbers that are handed in, facettop.WholePlaces answers true: translations and places.
  No condition beyond the statement's own.
-/
import Derived.Test.YtklmanmeedfjpacFTotal
import Derived.Test.YtklmanmeedfjpacWPlcR
import Derived.WalkKit
import Derived.ProofKit
import Derived.OpenShut
import Derived.ShutString
import Derived.ChangeOld
import Derived.Below
namespace Go.Proofs.Ytklmanmeedfjpac
open Go Vx
open Go.ChangeShapes Go.WideShapes Go.ChangeAt Go.RowKit


theorem u8_wf {k : Int} (h : (Lit.int .u8 k).wf = true) : 0 ≤ k ∧ k < 256 := by
  simp only [Lit.wf, Bool.and_eq_true, decide_eq_true_eq] at h
  have h1 : IntKind.u8.min = 0 := by rfl
  have h2 : IntKind.u8.max = 255 := by rfl
  omega

theorem prt_or (k : Int) : prt k = 24 ∨ prt k = 48 ∨ prt k = 96 ∨ prt k = 192 := by
  unfold prt
  have : k.toNat % 4 = 0 ∨ k.toNat % 4 = 1 ∨ k.toNat % 4 = 2 ∨ k.toNat % 4 = 3 := by omega
  rcases this with h | h | h | h <;> rw [h] <;> simp [nth]
theorem place_form (m x y z : Int) (hm : m = 24 ∨ m = 48 ∨ m = 96 ∨ m = 192) : placeR m x y z = [m, x % m, y % m, z % m, 0] ∧ formB m (x % m) (y % m) (z % m) = true := by
  have h0 : 0 < m := by omega
  constructor
  · have hF : isF m = true := by rcases hm with rfl | rfl | rfl | rfl <;> rfl
    unfold placeR
    rw [hF]
    simp only [chainL, Bool.not_true]
    rw [md_emod x m h0 (by omega), md_emod y m h0 (by omega), md_emod z m h0 (by omega)]
  · exact form_mk hm ⟨Int.emod_nonneg _ (by omega), Int.emod_lt_of_pos _ h0⟩ ⟨Int.emod_nonneg _ (by omega), Int.emod_lt_of_pos _ h0⟩ ⟨Int.emod_nonneg _ (by omega), Int.emod_lt_of_pos _ h0⟩
theorem plcT2_true (m x y z a b c : Int) (h : formB m x y z = true) : plcT2 [m, x, y, z, 0] [m, 0, 0, 0, 0] [a, b, c] = some (.bool true) := by
  obtain ⟨hm, hx, hy, hz⟩ := form_spec h
  have h0 : 0 < m := by omega
  have hO : formB m 0 0 0 = true := form_mk hm ⟨by omega, h0⟩ ⟨by omega, h0⟩ ⟨by omega, h0⟩
  obtain ⟨s1, fq⟩ := shift_form a b c h
  obtain ⟨s2, _⟩ := shift_form (neg1 a) (neg1 b) (neg1 c) fq
  obtain ⟨s3, _⟩ := shift_form a b c hO
  have d1 := minus_form fq h
  have d2 := minus_form hO h
  have p1 : oppR m x y z = [m, (-x) % m, (-y) % m, (-z) % m, 0] := by
    unfold oppR err5T; rw [h]
    simp only [chainL, Bool.not_true, op1_eq _ hm]
  obtain ⟨g1, ff⟩ := fin_form (n := 192) h (by omega) (by rcases hm with rfl | rfl | rfl | rfl <;> rfl)
  have o1 := ord_eq ff h
  have o2 := ord_eq h fq
  have o3 := ord_eq fq h
  have r1 := lex3_range (in192 m x) (in192 m y) (in192 m z) (in192 m ((x + a * (m / 24)) % m)) (in192 m ((y + b * (m / 24)) % m)) (in192 m ((z + c * (m / 24)) % m))
  have a1 := lex3_anti (in192 m x) (in192 m y) (in192 m z) (in192 m ((x + a * (m / 24)) % m)) (in192 m ((y + b * (m / 24)) % m)) (in192 m ((z + c * (m / 24)) % m))
  have z1 := lex3_zero (in192 m x) (in192 m y) (in192 m z) (in192 m ((x + a * (m / 24)) % m)) (in192 m ((y + b * (m / 24)) % m)) (in192 m ((z + c * (m / 24)) % m))
  have c1 : lex3 (in192 192 (x * (192 / m))) (in192 192 (y * (192 / m))) (in192 192 (z * (192 / m))) (in192 m x) (in192 m y) (in192 m z) = 0 := by
    rw [lex3_zero]; unfold in192; omega
  have inj : ∀ s t : Int, in192 m s = in192 m t ↔ s = t := by
    intro s t; unfold in192
    rcases hm with rfl | rfl | rfl | rfl <;> omega
  rw [inj, inj, inj] at z1
  unfold plcT2
  simp only [shiftL, minusL, oppL, finL', ordL, formL, nth]
  rw [s1, s3, p1, g1, d2, h]
  simp only [nth]
  rw [s2, d1, o1, o2, o3]
  simp only [nth]
  have back : ∀ s t : Int, 0 ≤ s ∧ s < m → ((s + t * (m / 24)) % m + neg1 t * (m / 24)) % m = s := by
    intro s t hs
    rw [neg1_eq]
    rcases hm with rfl | rfl | rfl | rfl <;> omega
  have off : ∀ s t : Int, ((s + t * (m / 24)) % m - s) % m = (0 + t * (m / 24)) % m := by
    intro s t
    rcases hm with rfl | rfl | rfl | rfl <;> omega
  rw [guardF_eq]
  · refine andO_eq _ ?_
    simp only [List.mem_cons, List.not_mem_nil, or_false, forall_eq_or_imp, forall_eq, BEq.rfl, true_and, c1, a1]
    refine ⟨?_, ?_⟩
    · rw [beq_iff_eq, W_id (by omega) (by omega)]; omega
    · rw [beq_iff_eq, Bool.eq_iff_iff]
      simp only [eqPL, eqP, eq3, nth, beq_iff_eq, Bool.and_eq_true, Bool.and_true, true_and]
      exact z1
  · simp only [List.mem_cons, List.not_mem_nil, or_false, forall_eq_or_imp, forall_eq, bne_self_eq_false, eqPL, eqP, eq3, nth, back x a hx, back y b hy, back z c hz, off, Int.zero_sub, BEq.rfl, Bool.and_self, Bool.not_true, and_self]
theorem loopP_true (a b c d e f k x y z n ua ub uc wa wb wc sa sb sc : Int) (hk : byteB k = true) (K : Kont) (hK : ∀ u j p q r, K (.exit 0) (hstP u a b c d e f k x y z n ua ub uc wa wb wc sa sb sc j p q r) = plcEnd k x y z n ua ub uc wa wb wc p q r) :
    ∀ (m : Nat) (u : Nat → Value) (j p q r : Int), 0 ≤ j → j ≤ md (W n) 24 → md (W n) 24 - j < m → p = (j * ua) % 24 → q = (j * ub) % 24 → r = (j * uc) % 24 → exCode (CP Try.prog) (m + 20) (codeAt LPP (bodyOf Try.f5)) (hstP u a b c d e f k x y z n ua ub uc wa wb wc sa sb sc j p q r) K = some (.bool true)
  | 0, u, j, p, q, r, _, _, h, _, _, _ => by omega
  | m + 1, u, j, p, q, r, h0, h1, h2, hp, hq, hr => by
    have hN := md24 (W n)
    rw [atLoopP, show m + 1 + 20 = (m + 20) + 1 by omega, loop_step, stepP]
    by_cases hi : j < md (W n) 24
    · have : decide (j < md (W n) 24) = true := by simpa using hi
      rw [this]
      simp only
      rw [W_id (n := j + 1) (by omega) (by omega), ← atLoopP]
      refine loopP_true a b c d e f k x y z n ua ub uc wa wb wc sa sb sc hk K hK m _ (j + 1) _ _ _ (by omega) (by omega) (by omega) ?_ ?_ ?_
      · rw [add1_eq, hp, show (j + 1) * ua = j * ua + ua by rw [Int.add_mul, Int.one_mul]]; omega
      · rw [add1_eq, hq, show (j + 1) * ub = j * ub + ub by rw [Int.add_mul, Int.one_mul]]; omega
      · rw [add1_eq, hr, show (j + 1) * uc = j * uc + uc by rw [Int.add_mul, Int.one_mul]]; omega
    · have hjN : j = W n % 24 := by omega
      have : decide (j < md (W n) 24) = false := by simpa using hi
      rw [this]
      simp only
      rw [hK]
      have mm : ∀ v : Int, (W n * v) % 24 = (j * v) % 24 := by
        intro v
        rw [hjN, Int.mul_emod (W n) v 24, Int.mul_emod (W n % 24) v 24, Int.emod_emod]
      unfold plcEnd
      rw [guardF_eq, hk]
      · simp only
        have hm := prt_or k
        obtain ⟨q1, q2⟩ := place_form (prt k) (W x) (W y) (W z) hm
        obtain ⟨q3, _⟩ := place_form (prt k) 0 0 0 hm
        simp only [placeL, nth]
        rw [q1, q3]
        have z0 : (0 : Int) % prt k = 0 := Int.zero_emod _
        rw [z0]
        exact plcT2_true _ _ _ _ _ _ _ q2
      · simp only [List.mem_cons, List.not_mem_nil, or_false, forall_eq, times1_eq, mm, eq3, hp, hq, hr, BEq.rfl, Bool.and_self, Bool.not_true]
theorem plcHead_true (a b c d e f : Int) (r : Option Value) : plcHead a b c d e f r = r := by
  have e3 : ∀ {a b c d e f : Int}, a = d → b = e → c = f → (!(eq3 a b c d e f)) = false := fun h1 h2 h3 => by subst h1; subst h2; subst h3; simp [eq3]
  refine guardF_eq _ _ fun t ht => ?_
  simp only [List.mem_cons, List.not_mem_nil, or_false] at ht
  rcases ht with rfl | rfl | rfl <;> refine e3 ?_ ?_ ?_ <;> simp only [add1_eq, neg1_eq] <;> omega
theorem places_law (l0 : List Int) (e0 : l0.length = 3) (_ : ∀ x ∈ l0, (Lit.int .i16 x).wf = true) (l1 : List Int) (e1 : l1.length = 3) (_ : ∀ x ∈ l1, (Lit.int .i16 x).wf = true) (k : Int) (hk : (Lit.int .u8 k).wf = true) (l3 : List Int) (e3 : l3.length = 3) (_ : ∀ x ∈ l3, (Lit.int .i16 x).wf = true) (n : Int) (_ : (Lit.int .i8 n).wf = true) :
    exFun (CP Try.prog) 79 Try.f5 [.agg (intsK .i16 l0).toArray, .agg (intsK .i16 l1).toArray, .int .u8 k, .agg (intsK .i16 l3).toArray, .int .i8 n] = some (.bool true) := by
  match l0, e0, l1, e1, l3, e3 with
  | [a, b, c], _, [d, e, f], _, [x, y, z], _ =>
    have hb : byteB k = true := by
      have h2 := u8_wf hk
      simp only [byteB, Bool.and_eq_true, decide_eq_true_eq]
      exact h2
    have hN := md24 (W n)
    rw [startP 70, plcHead_true]
    exact loopP_true a b c d e f k x y z n _ _ _ _ _ _ _ _ _ hb _ (fun u j p q r => finP 19 u a b c d e f k x y z n _ _ _ _ _ _ _ _ _ j p q r) 50 _ 0 0 0 0 (by omega) (by omega) (by omega) (by simp) (by simp) (by simp)

theorem wholePlaces_walk (l0 : List Int) (e0 : l0.length = 3) (u0 : ∀ x ∈ l0, (Lit.int .i16 x).wf = true) (l1 : List Int) (e1 : l1.length = 3) (u1 : ∀ x ∈ l1, (Lit.int .i16 x).wf = true) (x2 : Int) (u2 : (Lit.int .u8 x2).wf = true) (l3 : List Int) (e3 : l3.length = 3) (u3 : ∀ x ∈ l3, (Lit.int .i16 x).wf = true) (x4 : Int) (u4 : (Lit.int .i8 x4).wf = true) (w : World) : Calls Try.prog 5 #[.agg (intsK .i16 l0).toArray, .agg (intsK .i16 l1).toArray, .int .u8 x2, .agg (intsK .i16 l3).toArray, .int .i8 x4] w fun e w' => e = .returned (.bool true) ∧ Below w.heap.size w w' :=
  exFun_calls okP Try.func5 (args := [.agg (intsK .i16 l0).toArray, .agg (intsK .i16 l1).toArray, .int .u8 x2, .agg (intsK .i16 l3).toArray, .int .i8 x4]) (by
    intro x hx
    simp only [List.mem_cons, List.not_mem_nil, or_false] at hx
    rcases hx with rfl | rfl | rfl | rfl | rfl <;> rfl) (places_law l0 e0 u0 l1 e1 u1 x2 u2 l3 e3 u3 x4 u4) w

set_option maxRecDepth 100000 in
theorem wholePlaces_lifted (os : Os) (started : os.Started) (H : Type) (enc : TypeId × Value → H) :
    ReturnsInHanded {} Try.checked os 5 .any (Rows.wholePlacesSpec.pre6 enc Try.prog Try.f5 Rows.wholePlacesRow.domain false) (Rows.wholePlacesSpec.post enc Try.prog Try.f5 false true false false) := by
  refine returnsInHanded_of_change (C := Try.checked) own started (by kernel_rfl) Try.func5
    (ChangeSpec.witness6 (enc := enc) (C := Try.checked) false ⟨#[], #[.agg #[.int .i16 0, .int .i16 0, .int .i16 0], .agg #[.int .i16 0, .int .i16 0, .int .i16 0], .int .u8 0, .agg #[.int .i16 0, .int .i16 0, .int .i16 0], .int .i8 0], []⟩ 8 (by kernel_rfl) (by kernel_rfl) (by kernel_rfl) (by kernel_rfl)) ?_
  intro W base args ds gs before hval0 hW _ _
  have hval : ∀ (j : Nat) t v, Try.f5.params[j]? = some t → args[j]? = some v → Value.okWide Try.prog W .any base t v := hval0
  have hW' := hW
  obtain ⟨p, q, hA0, hV, rfl, _, _⟩ := hW
  have hA : DataW.TrodAll enc Try.prog W 0 (fun _ => true) true Try.f5.params.toList args.toList ds p := hA0
  rw [Try.params5] at hA hval
  obtain ⟨v0, vs0, d0, ds0, p0, q0, hargs, rfl, rfl, h0, r0⟩ := trodAll_cons hA
  obtain ⟨v1, vs1, d1, ds1, p1, q1, rfl, rfl, rfl, h1, r1⟩ := trodAll_cons r0
  obtain ⟨v2, vs2, d2, ds2, p2, q2, rfl, rfl, rfl, h2, r2⟩ := trodAll_cons r1
  obtain ⟨v3, vs3, d3, ds3, p3, q3, rfl, rfl, rfl, h3, r3⟩ := trodAll_cons r2
  obtain ⟨v4, vs4, d4, ds4, p4, q4, rfl, rfl, rfl, h4, r4⟩ := trodAll_cons r3
  obtain ⟨rfl, rfl, rfl⟩ := trodAll_nil r4
  obtain rfl : args = #[v0, v1, v2, v3, v4] := by cases args; simp_all
  obtain ⟨rfl, rfl⟩ := trodVars_none hV
  have lt0 : ∀ x ∈ p0, x.block < W.heap.size := by obtain ⟨m, hm⟩ := h0; exact DataW.trod_lt m _ _ _ hm
  obtain ⟨l0, e0, rfl, u0⟩ := open_rowK (n := 3) (k := .i16) (by kernel_rfl) (by kernel_rfl) (hval 0 38 v0 rfl rfl) h0
  have lt1 : ∀ x ∈ p1, x.block < W.heap.size := by obtain ⟨m, hm⟩ := h1; exact DataW.trod_lt m _ _ _ hm
  obtain ⟨l1, e1, rfl, u1⟩ := open_rowK (n := 3) (k := .i16) (by kernel_rfl) (by kernel_rfl) (hval 1 38 v1 rfl rfl) h1
  have lt2 : ∀ x ∈ p2, x.block < W.heap.size := by obtain ⟨m, hm⟩ := h2; exact DataW.trod_lt m _ _ _ hm
  obtain ⟨x2, rfl, _, _, u2⟩ := open_int Try.underlying5 (hval 2 5 v2 rfl rfl) h2
  have lt3 : ∀ x ∈ p3, x.block < W.heap.size := by obtain ⟨m, hm⟩ := h3; exact DataW.trod_lt m _ _ _ hm
  obtain ⟨l3, e3, rfl, u3⟩ := open_rowK (n := 3) (k := .i16) (by kernel_rfl) (by kernel_rfl) (hval 3 38 v3 rfl rfl) h3
  have lt4 : ∀ x ∈ p4, x.block < W.heap.size := by obtain ⟨m, hm⟩ := h4; exact DataW.trod_lt m _ _ _ hm
  obtain ⟨x4, rfl, _, _, u4⟩ := open_int Try.underlying35 (hval 4 35 v4 rfl rfl) h4
  clear hA0 hval0
  refine (wholePlaces_walk l0 e0 u0 l1 e1 u1 x2 u2 l3 e3 u3 x4 u4 W).mono fun e W' ⟨he, bel⟩ => ?_
  subst he
  exact ⟨_, rfl, _, _, _, [], _, [], hW', trodAll_mk1 (shut_bool Try.underlying4 _), (trodAll_cons_mk (Below.trod laidOut (by kernel_rfl) (of_decide_eq_true (by kernel_rfl)) h0 bel lt0) (trodAll_cons_mk (Below.trod laidOut (by kernel_rfl) (of_decide_eq_true (by kernel_rfl)) h1 bel lt1) (trodAll_cons_mk (Below.trod laidOut (by kernel_rfl) (of_decide_eq_true (by kernel_rfl)) h2 bel lt2) (trodAll_cons_mk (Below.trod laidOut (by kernel_rfl) (of_decide_eq_true (by kernel_rfl)) h3 bel lt3) (trodAll_cons_mk (Below.trod laidOut (by kernel_rfl) (of_decide_eq_true (by kernel_rfl)) h4 bel lt4) trodAll_mk0))))), rfl, bel.frame _, fun h => by cases h⟩

theorem wholePlaces_holds : Rows.WholePlacesSaid :=
  OpenClaim.holds_of_wide 5 Try.f5 rfl rfl rfl rfl rfl rfl rfl ⟨rfl, rfl, rfl, rfl, rfl⟩ rfl rfl rfl rfl rfl (by kernel_rfl) Try.func5 (by kernel_rfl)
    (of_decide_eq_true (by kernel_rfl)) (by unfold Func.isWrapper; first | (rw [if_pos (by decide +kernel)]; kernel_rfl) | (rw [if_neg (by decide +kernel)]; exact ⟨rfl, rfl⟩))
    (fun os started H enc _ => wholePlaces_lifted os started H enc)

end Go.Proofs.Ytklmanmeedfjpac
