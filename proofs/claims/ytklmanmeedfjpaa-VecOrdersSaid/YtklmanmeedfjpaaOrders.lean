/-
  PROVED: for every matrix of nine numbers, facetlaw01.VecOrders answers true: every Inverse and every Order is what the document says.
  No condition beyond the statement's own.
-/
import Derived.Test.YtklmanmeedfjpaaVecQ
import Derived.Test.YtklmanmeedfjpaaVecT
import Derived.WalkKit
import Derived.ProofKit
import Derived.OpenShut
import Derived.ShutString
import Derived.ChangeOld
import Derived.Below
namespace Go.Proofs.Ytklmanmeedfjpaa
open Go Vx
open Go.ChangeShapes Go.WideShapes Go.ChangeAt Go.RowKit

theorem own : ownKnob Try.prog.godebug = none := by kernel_rfl
theorem laidOut : laidOutB Try.prog = true := by kernel_rfl

theorem eq9_iff (x0 x1 x2 x3 x4 x5 x6 x7 x8 y0 y1 y2 y3 y4 y5 y6 y7 y8 : Int) : eq9 x0 x1 x2 x3 x4 x5 x6 x7 x8 y0 y1 y2 y3 y4 y5 y6 y7 y8 = true ↔ (x0 = y0 ∧ x1 = y1 ∧ x2 = y2 ∧ x3 = y3 ∧ x4 = y4 ∧ x5 = y5 ∧ x6 = y6 ∧ x7 = y7 ∧ x8 = y8) := by
  simp only [eq9, eq3, Bool.and_true, Bool.and_eq_true, beq_iff_eq, and_assoc]
theorem and3N_no {t s d u v w y n : Int} (hh : ¬ (t = u ∧ s = v ∧ d = w)) : and3N (t == u) (s == v) (d == w) y n = n := by
  unfold and3N
  have : ((t == u) && ((s == v) && (d == w))) = false := by
    rw [Bool.eq_false_iff]
    intro hx
    simp only [Bool.and_eq_true, beq_iff_eq] at hx
    exact hh hx
  rw [this]
theorem dot_small {K a b c d e f : Int} (ha : -K ≤ a ∧ a ≤ K) (hb : -K ≤ b ∧ b ≤ K) (hc : -K ≤ c ∧ c ≤ K) (hd : -K ≤ d ∧ d ≤ K) (he : -K ≤ e ∧ e ≤ K) (hf : -K ≤ f ∧ f ≤ K) (hK : 3 * (K * K) ≤ 9223372036854775807) :
    dotR a b c d e f = a * d + b * e + c * f ∧ -(3 * (K * K)) ≤ a * d + b * e + c * f ∧ a * d + b * e + c * f ≤ 3 * (K * K) := by
  have h1 := bd_mul ha hd
  have h2 := bd_mul hb he
  have h3 := bd_mul hc hf
  refine ⟨?_, by omega, by omega⟩
  rw [dotR_W, W_id (by omega) (by omega)]
theorem min_small {a b c d : Int} (ha : -1000 ≤ a ∧ a ≤ 1000) (hb : -1000 ≤ b ∧ b ≤ 1000) (hc : -1000 ≤ c ∧ c ≤ 1000) (hd : -1000 ≤ d ∧ d ≤ 1000) : minR a b c d = a * b - c * d ∧ -2000000 ≤ a * b - c * d ∧ a * b - c * d ≤ 2000000 := by
  have h1 := bd_mul ha hb
  have h2 := bd_mul hc hd
  refine ⟨?_, by omega, by omega⟩
  rw [minR_W, W_id (by omega) (by omega)]
/-- The order by powers is the order by traces. -/
theorem ord_chain {b1 b2 b3 b4 b6 q : Bool} {t s D : Int} (hD : D = 1 ∨ D = -1) (h2 : b2 = q) (h3 : b1 = false → q = false → (b3 = true ↔ (t = 0 ∧ s = 0 ∧ D = 1))) (h4 : q = false → (b4 = true ↔ ((t = 1 ∧ s = 1 ∧ D = 1) ∨ (t = -1 ∧ s = 1 ∧ D = -1))))
    (h6 : q = false → ¬ (t = 0 ∧ s = 0 ∧ D = 1) → (b6 = true ↔ ((t = 0 ∧ s = 0 ∧ D = -1) ∨ (t = 2 ∧ s = 2 ∧ D = 1) ∨ (t = -2 ∧ s = 2 ∧ D = -1)))) :
    chainL [(b1, [1, 0]), (b2, [2, 0]), (b3, [3, 0]), (b4, [4, 0]), (b6, [6, 0])] [0, 9] = chainL [(rordN b1 q t s D == 0, [0, 9])] [rordN b1 q t s D, 0] := by
  subst h2
  cases b1 with
  | true => rfl
  | false =>
    cases b2 with
    | true => rfl
    | false =>
      have h3 := h3 rfl rfl
      have h4 := h4 rfl
      have h6 := h6 rfl
      cases b3 with
      | true =>
        obtain ⟨rfl, rfl, rfl⟩ := h3.1 rfl
        rfl
      | false =>
        have n3 : ¬ (t = 0 ∧ s = 0 ∧ D = 1) := fun hx => by have := h3.2 hx; cases this
        have h6 := h6 n3
        cases b4 with
        | true =>
          rcases h4.1 rfl with ⟨rfl, rfl, rfl⟩ | ⟨rfl, rfl, rfl⟩ <;> rfl
        | false =>
          have n4 : ¬ ((t = 1 ∧ s = 1 ∧ D = 1) ∨ (t = -1 ∧ s = 1 ∧ D = -1)) := fun hx => by have := h4.2 hx; cases this
          cases b6 with
          | true =>
            rcases h6.1 rfl with ⟨rfl, rfl, rfl⟩ | ⟨rfl, rfl, rfl⟩ | ⟨rfl, rfl, rfl⟩ <;> rfl
          | false =>
            have n6 : ¬ ((t = 0 ∧ s = 0 ∧ D = -1) ∨ (t = 2 ∧ s = 2 ∧ D = 1) ∨ (t = -2 ∧ s = 2 ∧ D = -1)) := fun hx => by have := h6.2 hx; cases this
            have r : rordN false false t s D = 0 := by
              simp only [rordN]
              rw [and3N_no n3, and3N_no (fun hx => n4 (Or.inl hx)), and3N_no (fun hx => n4 (Or.inr hx)), and3N_no (fun hx => n6 (Or.inl hx)), and3N_no (fun hx => n6 (Or.inr (Or.inl hx))), and3N_no (fun hx => n6 (Or.inr (Or.inr hx)))]
            rw [r]
            rfl
theorem ord_final {a b c d e f g h i p0 p1 p2 p3 p4 p5 p6 p7 p8 c0 c1 c2 c3 c4 c5 c6 c7 c8 t s D : Int} (A : Alg a b c d e f g h i p0 p1 p2 p3 p4 p5 p6 p7 p8 c0 c1 c2 c3 c4 c5 c6 c7 c8 t s D) (hD : D = 1 ∨ D = -1) (s0 : -(3 * (1000 * 1000)) ≤ p0 ∧ p0 ≤ 3 * (1000 * 1000)) (s1 : -(3 * (1000 * 1000)) ≤ p1 ∧ p1 ≤ 3 * (1000 * 1000)) (s2 : -(3 * (1000 * 1000)) ≤ p2 ∧ p2 ≤ 3 * (1000 * 1000)) (s3 : -(3 * (1000 * 1000)) ≤ p3 ∧ p3 ≤ 3 * (1000 * 1000)) (s4 : -(3 * (1000 * 1000)) ≤ p4 ∧ p4 ≤ 3 * (1000 * 1000)) (s5 : -(3 * (1000 * 1000)) ≤ p5 ∧ p5 ≤ 3 * (1000 * 1000)) (s6 : -(3 * (1000 * 1000)) ≤ p6 ∧ p6 ≤ 3 * (1000 * 1000)) (s7 : -(3 * (1000 * 1000)) ≤ p7 ∧ p7 ≤ 3 * (1000 * 1000)) (s8 : -(3 * (1000 * 1000)) ≤ p8 ∧ p8 ≤ 3 * (1000 * 1000)) (k0 : -2000000 ≤ c0 ∧ c0 ≤ 2000000) (k1 : -2000000 ≤ c1 ∧ c1 ≤ 2000000) (k2 : -2000000 ≤ c2 ∧ c2 ≤ 2000000) (k3 : -2000000 ≤ c3 ∧ c3 ≤ 2000000) (k4 : -2000000 ≤ c4 ∧ c4 ≤ 2000000) (k5 : -2000000 ≤ c5 ∧ c5 ≤ 2000000) (k6 : -2000000 ≤ c6 ∧ c6 ≤ 2000000) (k7 : -2000000 ≤ c7 ∧ c7 ≤ 2000000) (k8 : -2000000 ≤ c8 ∧ c8 ≤ 2000000) :
    chainL [(nth ([D * c0, D * c1, D * c2, D * c3, D * c4, D * c5, D * c6, D * c7, D * c8] ++ [0]) 9 != 0, [0, nth ([D * c0, D * c1, D * c2, D * c3, D * c4, D * c5, D * c6, D * c7, D * c8] ++ [0]) 9]), (eqM [a, b, c, d, e, f, g, h, i] one9, [1, 0]), (eqM [a, b, c, d, e, f, g, h, i] ([D * c0, D * c1, D * c2, D * c3, D * c4, D * c5, D * c6, D * c7, D * c8] ++ [0]), [2, 0]), (eqM [p0, p1, p2, p3, p4, p5, p6, p7, p8] ([D * c0, D * c1, D * c2, D * c3, D * c4, D * c5, D * c6, D * c7, D * c8] ++ [0]), [3, 0]), (eqM [p0, p1, p2, p3, p4, p5, p6, p7, p8] (prodM ([D * c0, D * c1, D * c2, D * c3, D * c4, D * c5, D * c6, D * c7, D * c8] ++ [0]) ([D * c0, D * c1, D * c2, D * c3, D * c4, D * c5, D * c6, D * c7, D * c8] ++ [0])), [4, 0]), (eqM (prodM [p0, p1, p2, p3, p4, p5, p6, p7, p8] [p0, p1, p2, p3, p4, p5, p6, p7, p8]) (prodM ([D * c0, D * c1, D * c2, D * c3, D * c4, D * c5, D * c6, D * c7, D * c8] ++ [0]) ([D * c0, D * c1, D * c2, D * c3, D * c4, D * c5, D * c6, D * c7, D * c8] ++ [0])), [6, 0])] [0, 9] =
      chainL [((0 : Int) != 0, [0, 0]), (rordN (eqM [a, b, c, d, e, f, g, h, i] one9) (eqM [p0, p1, p2, p3, p4, p5, p6, p7, p8] one9) t s D == 0, [0, 9])] [rordN (eqM [a, b, c, d, e, f, g, h, i] one9) (eqM [p0, p1, p2, p3, p4, p5, p6, p7, p8] one9) t s D, 0] := by
  have hq4 : prodM [p0, p1, p2, p3, p4, p5, p6, p7, p8] [p0, p1, p2, p3, p4, p5, p6, p7, p8] = [p0 * p0 + p1 * p3 + p2 * p6, p0 * p1 + p1 * p4 + p2 * p7, p0 * p2 + p1 * p5 + p2 * p8, p3 * p0 + p4 * p3 + p5 * p6, p3 * p1 + p4 * p4 + p5 * p7, p3 * p2 + p4 * p5 + p5 * p8, p6 * p0 + p7 * p3 + p8 * p6, p6 * p1 + p7 * p4 + p8 * p7, p6 * p2 + p7 * p5 + p8 * p8] := by
    unfold prodM prodL
    simp only [nth]
    rw [(dot_small (K := 3000000) s0 s1 s2 s0 s3 s6 (by omega)).1, (dot_small (K := 3000000) s0 s1 s2 s1 s4 s7 (by omega)).1, (dot_small (K := 3000000) s0 s1 s2 s2 s5 s8 (by omega)).1, (dot_small (K := 3000000) s3 s4 s5 s0 s3 s6 (by omega)).1, (dot_small (K := 3000000) s3 s4 s5 s1 s4 s7 (by omega)).1, (dot_small (K := 3000000) s3 s4 s5 s2 s5 s8 (by omega)).1, (dot_small (K := 3000000) s6 s7 s8 s0 s3 s6 (by omega)).1, (dot_small (K := 3000000) s6 s7 s8 s1 s4 s7 (by omega)).1, (dot_small (K := 3000000) s6 s7 s8 s2 s5 s8 (by omega)).1]
  have hisq : prodM ([D * c0, D * c1, D * c2, D * c3, D * c4, D * c5, D * c6, D * c7, D * c8] ++ [0]) ([D * c0, D * c1, D * c2, D * c3, D * c4, D * c5, D * c6, D * c7, D * c8] ++ [0]) = [c0 * c0 + c1 * c3 + c2 * c6, c0 * c1 + c1 * c4 + c2 * c7, c0 * c2 + c1 * c5 + c2 * c8, c3 * c0 + c4 * c3 + c5 * c6, c3 * c1 + c4 * c4 + c5 * c7, c3 * c2 + c4 * c5 + c5 * c8, c6 * c0 + c7 * c3 + c8 * c6, c6 * c1 + c7 * c4 + c8 * c7, c6 * c2 + c7 * c5 + c8 * c8] := by
    have d : ∀ x : Int, -2000000 ≤ x ∧ x ≤ 2000000 → -2000000 ≤ D * x ∧ D * x ≤ 2000000 := by
      intro x hx
      rcases hD with rfl | rfl <;> omega
    have dd : ∀ x y z u v w : Int, D * x * (D * u) + D * y * (D * v) + D * z * (D * w) = x * u + y * v + z * w := by
      intro x y z u v w
      rcases hD with rfl | rfl <;> grind
    unfold prodM prodL
    simp only [nth, List.cons_append]
    rw [(dot_small (K := 2000000) (d _ k0) (d _ k1) (d _ k2) (d _ k0) (d _ k3) (d _ k6) (by omega)).1, (dot_small (K := 2000000) (d _ k0) (d _ k1) (d _ k2) (d _ k1) (d _ k4) (d _ k7) (by omega)).1, (dot_small (K := 2000000) (d _ k0) (d _ k1) (d _ k2) (d _ k2) (d _ k5) (d _ k8) (by omega)).1, (dot_small (K := 2000000) (d _ k3) (d _ k4) (d _ k5) (d _ k0) (d _ k3) (d _ k6) (by omega)).1, (dot_small (K := 2000000) (d _ k3) (d _ k4) (d _ k5) (d _ k1) (d _ k4) (d _ k7) (by omega)).1, (dot_small (K := 2000000) (d _ k3) (d _ k4) (d _ k5) (d _ k2) (d _ k5) (d _ k8) (by omega)).1, (dot_small (K := 2000000) (d _ k6) (d _ k7) (d _ k8) (d _ k0) (d _ k3) (d _ k6) (by omega)).1, (dot_small (K := 2000000) (d _ k6) (d _ k7) (d _ k8) (d _ k1) (d _ k4) (d _ k7) (by omega)).1, (dot_small (K := 2000000) (d _ k6) (d _ k7) (d _ k8) (d _ k2) (d _ k5) (d _ k8) (by omega)).1]
    simp only [dd]
  rw [hq4, hisq]
  have mI : eqM [a, b, c, d, e, f, g, h, i] one9 = true ↔ (a = 1 ∧ b = 0 ∧ c = 0 ∧ d = 0 ∧ e = 1 ∧ f = 0 ∧ g = 0 ∧ h = 0 ∧ i = 1) := eq9_iff _ _ _ _ _ _ _ _ _ _ _ _ _ _ _ _ _ _
  have pI : eqM [p0, p1, p2, p3, p4, p5, p6, p7, p8] one9 = true ↔ (p0 = 1 ∧ p1 = 0 ∧ p2 = 0 ∧ p3 = 0 ∧ p4 = 1 ∧ p5 = 0 ∧ p6 = 0 ∧ p7 = 0 ∧ p8 = 1) := eq9_iff _ _ _ _ _ _ _ _ _ _ _ _ _ _ _ _ _ _
  have mD : eqM [a, b, c, d, e, f, g, h, i] ([D * c0, D * c1, D * c2, D * c3, D * c4, D * c5, D * c6, D * c7, D * c8] ++ [0]) = true ↔ (a = D * c0 ∧ b = D * c1 ∧ c = D * c2 ∧ d = D * c3 ∧ e = D * c4 ∧ f = D * c5 ∧ g = D * c6 ∧ h = D * c7 ∧ i = D * c8) := eq9_iff _ _ _ _ _ _ _ _ _ _ _ _ _ _ _ _ _ _
  have pD : eqM [p0, p1, p2, p3, p4, p5, p6, p7, p8] ([D * c0, D * c1, D * c2, D * c3, D * c4, D * c5, D * c6, D * c7, D * c8] ++ [0]) = true ↔ (p0 = D * c0 ∧ p1 = D * c1 ∧ p2 = D * c2 ∧ p3 = D * c3 ∧ p4 = D * c4 ∧ p5 = D * c5 ∧ p6 = D * c6 ∧ p7 = D * c7 ∧ p8 = D * c8) := eq9_iff _ _ _ _ _ _ _ _ _ _ _ _ _ _ _ _ _ _
  have pC : eqM [p0, p1, p2, p3, p4, p5, p6, p7, p8] [c0 * c0 + c1 * c3 + c2 * c6, c0 * c1 + c1 * c4 + c2 * c7, c0 * c2 + c1 * c5 + c2 * c8, c3 * c0 + c4 * c3 + c5 * c6, c3 * c1 + c4 * c4 + c5 * c7, c3 * c2 + c4 * c5 + c5 * c8, c6 * c0 + c7 * c3 + c8 * c6, c6 * c1 + c7 * c4 + c8 * c7, c6 * c2 + c7 * c5 + c8 * c8] = true ↔ (p0 = c0 * c0 + c1 * c3 + c2 * c6 ∧ p1 = c0 * c1 + c1 * c4 + c2 * c7 ∧ p2 = c0 * c2 + c1 * c5 + c2 * c8 ∧ p3 = c3 * c0 + c4 * c3 + c5 * c6 ∧ p4 = c3 * c1 + c4 * c4 + c5 * c7 ∧ p5 = c3 * c2 + c4 * c5 + c5 * c8 ∧ p6 = c6 * c0 + c7 * c3 + c8 * c6 ∧ p7 = c6 * c1 + c7 * c4 + c8 * c7 ∧ p8 = c6 * c2 + c7 * c5 + c8 * c8) := eq9_iff _ _ _ _ _ _ _ _ _ _ _ _ _ _ _ _ _ _
  have qC : eqM [p0 * p0 + p1 * p3 + p2 * p6, p0 * p1 + p1 * p4 + p2 * p7, p0 * p2 + p1 * p5 + p2 * p8, p3 * p0 + p4 * p3 + p5 * p6, p3 * p1 + p4 * p4 + p5 * p7, p3 * p2 + p4 * p5 + p5 * p8, p6 * p0 + p7 * p3 + p8 * p6, p6 * p1 + p7 * p4 + p8 * p7, p6 * p2 + p7 * p5 + p8 * p8] [c0 * c0 + c1 * c3 + c2 * c6, c0 * c1 + c1 * c4 + c2 * c7, c0 * c2 + c1 * c5 + c2 * c8, c3 * c0 + c4 * c3 + c5 * c6, c3 * c1 + c4 * c4 + c5 * c7, c3 * c2 + c4 * c5 + c5 * c8, c6 * c0 + c7 * c3 + c8 * c6, c6 * c1 + c7 * c4 + c8 * c7, c6 * c2 + c7 * c5 + c8 * c8] = true ↔ (p0 * p0 + p1 * p3 + p2 * p6 = c0 * c0 + c1 * c3 + c2 * c6 ∧ p0 * p1 + p1 * p4 + p2 * p7 = c0 * c1 + c1 * c4 + c2 * c7 ∧ p0 * p2 + p1 * p5 + p2 * p8 = c0 * c2 + c1 * c5 + c2 * c8 ∧ p3 * p0 + p4 * p3 + p5 * p6 = c3 * c0 + c4 * c3 + c5 * c6 ∧ p3 * p1 + p4 * p4 + p5 * p7 = c3 * c1 + c4 * c4 + c5 * c7 ∧ p3 * p2 + p4 * p5 + p5 * p8 = c3 * c2 + c4 * c5 + c5 * c8 ∧ p6 * p0 + p7 * p3 + p8 * p6 = c6 * c0 + c7 * c3 + c8 * c6 ∧ p6 * p1 + p7 * p4 + p8 * p7 = c6 * c1 + c7 * c4 + c8 * c7 ∧ p6 * p2 + p7 * p5 + p8 * p8 = c6 * c2 + c7 * c5 + c8 * c8) := eq9_iff _ _ _ _ _ _ _ _ _ _ _ _ _ _ _ _ _ _
  have nt : ∀ {x : Bool} {P : Prop}, (x = true ↔ P) → x = false → ¬ P := fun hx hf hP => by rw [hx.2 hP] at hf; cases hf
  refine ord_chain hD ?_ ?_ ?_ ?_
  · rw [Bool.eq_iff_iff, mD, pI]; exact E2 A hD
  · intro h1 _
    rw [pD]; exact E3 A hD (nt mI h1)
  · intro h1
    rw [pC]; exact E4 A hD (nt pI h1)
  · intro h1 h3
    rw [qC]; exact E6 A hD (nt pI h1) h3
theorem orders_true (a b c d e f g h i : Int) : andO [eqM (invE a b c d e f g h i) (dinvE a b c d e f g h i), nth (invE a b c d e f g h i) 9 == nth (dinvE a b c d e f g h i) 9, nth (orderR a b c d e f g h i) 0 == nth (dordR a b c d e f g h i) 0, nth (orderR a b c d e f g h i) 1 == nth (dordR a b c d e f g h i) 1] = some (.bool true) := by
  have fin : invE a b c d e f g h i = dinvE a b c d e f g h i → orderR a b c d e f g h i = dordR a b c d e f g h i → andO [eqM (invE a b c d e f g h i) (dinvE a b c d e f g h i), nth (invE a b c d e f g h i) 9 == nth (dinvE a b c d e f g h i) 9, nth (orderR a b c d e f g h i) 0 == nth (dordR a b c d e f g h i) 0, nth (orderR a b c d e f g h i) 1 == nth (dordR a b c d e f g h i) 1] = some (.bool true) := by
    intro e1 e2
    rw [e1, e2]
    refine andO_eq _ ?_
    simp only [eqM, eq9_refl, List.mem_cons, List.not_mem_nil, or_false, forall_eq_or_imp, forall_eq, BEq.rfl, and_self]
  cases hB : inB 1000 [a, b, c, d, e, f, g, h, i] with
  | false =>
    have hc : chk a b c d e f g h i = 4 := by rw [chk_eq, hB]; rfl
    have hm : matR a b c d e f g h i = 4 := by rw [mat_eq, hB]; rfl
    have hi : invE a b c d e f g h i = zeros9 4 := by unfold invE; rw [hc]; rfl
    have hf : formR a b c d e f g h i = 4 := by unfold formR; rw [hm]; rfl
    refine fin ?_ ?_
    · rw [hi]; unfold dinvE; rw [hf]; rfl
    · unfold orderR orderT dordR dordT; rw [hi, hf]; rfl
  | true =>
    have hc : chk a b c d e f g h i = 0 := by rw [chk_eq, hB]; rfl
    have hm : matR a b c d e f g h i = 0 := by rw [mat_eq, hB]; rfl
    have hb := inB_iff.1 hB
    simp only [List.mem_cons, List.not_mem_nil, or_false, forall_eq_or_imp, forall_eq] at hb
    obtain ⟨ba, bb, bc, bd, be, bf, bg, bh, bi⟩ := hb
    have k0 := min_small be bi bf bh
    have k1 := min_small bh bc bi bb
    have k2 := min_small bb bf bc be
    have k3 := min_small bf bg bd bi
    have k4 := min_small bi ba bg bc
    have k5 := min_small bc bd ba bf
    have k6 := min_small bd bh be bg
    have k7 := min_small bg bb bh ba
    have k8 := min_small ba be bb bd
    have s0 := dot_small (K := 1000) ba bb bc ba bd bg (by omega)
    have s1 := dot_small (K := 1000) ba bb bc bb be bh (by omega)
    have s2 := dot_small (K := 1000) ba bb bc bc bf bi (by omega)
    have s3 := dot_small (K := 1000) bd be bf ba bd bg (by omega)
    have s4 := dot_small (K := 1000) bd be bf bb be bh (by omega)
    have s5 := dot_small (K := 1000) bd be bf bc bf bi (by omega)
    have s6 := dot_small (K := 1000) bg bh bi ba bd bg (by omega)
    have s7 := dot_small (K := 1000) bg bh bi bb be bh (by omega)
    have s8 := dot_small (K := 1000) bg bh bi bc bf bi (by omega)
    have hdet : W (det a b c d e f g h i) = det a b c d e f g h i := by
      have q1 : -(1000 * 2000000) ≤ a * (e * i - f * h) ∧ a * (e * i - f * h) ≤ 1000 * 2000000 := bd_mul ba k0.2
      have q2 : -(1000 * 2000000) ≤ b * (f * g - d * i) ∧ b * (f * g - d * i) ≤ 1000 * 2000000 := bd_mul bb k3.2
      have q3 : -(1000 * 2000000) ≤ c * (d * h - e * g) ∧ c * (d * h - e * g) ≤ 1000 * 2000000 := bd_mul bc k6.2
      unfold det
      rw [W_id (by omega) (by omega)]
    have hR : detR a b c d e f g h i = det a b c d e f g h i := by rw [detR_eq, hdet]
    have hR' : rdet a b c d e f g h i = det a b c d e f g h i := by rw [rdet_eq, hdet]
    by_cases hD : det a b c d e f g h i = 1 ∨ det a b c d e f g h i = -1
    · have hbad : (det a b c d e f g h i != 1 && det a b c d e f g h i != -1) = false := by
        rcases hD with hD | hD <;> rw [hD] <;> rfl
      have hi : invE a b c d e f g h i = invL a b c d e f g h i ++ [0] := by unfold invE; rw [hc, hR, hbad]; rfl
      have hf : formR a b c d e f g h i = 0 := by unfold formR; rw [hm, hR', hbad]; rfl
      have hir : rinvL a b c d e f g h i = invL a b c d e f g h i := by unfold rinvL invL; rw [hR, hR']
      refine fin ?_ ?_
      · rw [hi]; unfold dinvE; rw [hf, hir]; rfl
      · have A := alg a b c d e f g h i
        unfold orderR orderT dordR dordT rordR
        rw [hf, hi]
        have hrs : rsq a b c d e f g h i = prodM [a, b, c, d, e, f, g, h, i] [a, b, c, d, e, f, g, h, i] := by
          unfold rsq prodM prodL
          simp only [nth, rdot_eq]
        have hsq : prodM [a, b, c, d, e, f, g, h, i] [a, b, c, d, e, f, g, h, i] = [a * a + b * d + c * g, a * b + b * e + c * h, a * c + b * f + c * i, d * a + e * d + f * g, d * b + e * e + f * h, d * c + e * f + f * i, g * a + h * d + i * g, g * b + h * e + i * h, g * c + h * f + i * i] := by
          unfold prodM prodL
          simp only [nth]
          rw [s0.1, s1.1, s2.1, s3.1, s4.1, s5.1, s6.1, s7.1, s8.1]
        have hinv : invL a b c d e f g h i = [det a b c d e f g h i * (e * i - f * h), det a b c d e f g h i * (h * c - i * b), det a b c d e f g h i * (b * f - c * e), det a b c d e f g h i * (f * g - d * i), det a b c d e f g h i * (i * a - g * c), det a b c d e f g h i * (c * d - a * f), det a b c d e f g h i * (d * h - e * g), det a b c d e f g h i * (g * b - h * a), det a b c d e f g h i * (a * e - b * d)] := by
          unfold invL
          rw [hR, k0.1, k1.1, k2.1, k3.1, k4.1, k5.1, k6.1, k7.1, k8.1]
          rcases hD with hD | hD <;> rw [hD] <;> simp only [List.cons.injEq, and_true] <;> refine ⟨?_, ?_, ?_, ?_, ?_, ?_, ?_, ?_, ?_⟩ <;> rw [W_id (by omega) (by omega)] <;> omega
        have ht : tr1 a b c d e f g h i = a + e + i := by
          unfold tr1
          rw [W_addl, W_id (by omega) (by omega)]
        have hs : tr2 a b c d e f g h i = e * i - f * h + (i * a - g * c) + (a * e - b * d) := by
          unfold tr2
          rw [k0.1, k4.1, k8.1, W_addl, W_id (by omega) (by omega)]
        rw [hrs, hsq, hinv, ht, hs, hR']
        clear hrs hsq hinv ht hs hir hi hf hbad hR hR' hdet hc hm hB fin
        have s0 := s0.2
        have k0 := k0.2
        have s1 := s1.2
        have k1 := k1.2
        have s2 := s2.2
        have k2 := k2.2
        have s3 := s3.2
        have k3 := k3.2
        have s4 := s4.2
        have k4 := k4.2
        have s5 := s5.2
        have k5 := k5.2
        have s6 := s6.2
        have k6 := k6.2
        have s7 := s7.2
        have k7 := k7.2
        have s8 := s8.2
        have k8 := k8.2
        generalize hDe : det a b c d e f g h i = D at *
        generalize a * a + b * d + c * g = p0 at *
        generalize a * b + b * e + c * h = p1 at *
        generalize a * c + b * f + c * i = p2 at *
        generalize d * a + e * d + f * g = p3 at *
        generalize d * b + e * e + f * h = p4 at *
        generalize d * c + e * f + f * i = p5 at *
        generalize g * a + h * d + i * g = p6 at *
        generalize g * b + h * e + i * h = p7 at *
        generalize g * c + h * f + i * i = p8 at *
        generalize hte : a + e + i = t at *
        generalize hse : e * i - f * h + (i * a - g * c) + (a * e - b * d) = s at *
        generalize e * i - f * h = c0 at *
        generalize h * c - i * b = c1 at *
        generalize b * f - c * e = c2 at *
        generalize f * g - d * i = c3 at *
        generalize i * a - g * c = c4 at *
        generalize c * d - a * f = c5 at *
        generalize d * h - e * g = c6 at *
        generalize g * b - h * a = c7 at *
        generalize a * e - b * d = c8 at *
        exact ord_final A hD s0 s1 s2 s3 s4 s5 s6 s7 s8 k0 k1 k2 k3 k4 k5 k6 k7 k8
    · have hbad : (det a b c d e f g h i != 1 && det a b c d e f g h i != -1) = true := by
        simp only [Bool.and_eq_true, bne_iff_ne]
        exact ⟨fun hx => hD (Or.inl hx), fun hx => hD (Or.inr hx)⟩
      have hi : invE a b c d e f g h i = zeros9 3 := by unfold invE; rw [hc, hR, hbad]; rfl
      have hf : formR a b c d e f g h i = 3 := by unfold formR; rw [hm, hR', hbad]; rfl
      refine fin ?_ ?_
      · rw [hi]; unfold dinvE; rw [hf]; rfl
      · unfold orderR orderT dordR dordT; rw [hi, hf]; rfl
theorem orders_law (l0 : List Int) (e0 : l0.length = 9) (_ : ∀ x ∈ l0, (Lit.int .i64 x).wf = true) : exFun (CQ Try.prog) 60 Try.f5 [.agg (intsK .i64 l0).toArray] = some (.bool true) := by
  match l0, e0 with
  | [a, b, c, d, e, f, g, h, i], _ => rw [orders_run]; exact orders_true _ _ _ _ _ _ _ _ _

theorem vecOrders_walk (l0 : List Int) (e0 : l0.length = 9) (u0 : ∀ x ∈ l0, (Lit.int .i64 x).wf = true) (w : World) : Calls Try.prog 5 #[.agg (intsK .i64 l0).toArray] w fun e w' => e = .returned (.bool true) ∧ Below w.heap.size w w' :=
  exFun_calls okQ Try.func5 (args := [.agg (intsK .i64 l0).toArray]) (by
    intro x hx
    simp only [List.mem_cons, List.not_mem_nil, or_false] at hx
    rcases hx with rfl <;> rfl) (orders_law l0 e0 u0) w

set_option maxRecDepth 100000 in
theorem vecOrders_lifted (os : Os) (started : os.Started) (H : Type) (enc : TypeId × Value → H) :
    ReturnsInHanded {} Try.checked os 5 .any (Rows.vecOrdersSpec.pre6 enc Try.prog Try.f5 Rows.vecOrdersRow.domain false) (Rows.vecOrdersSpec.post enc Try.prog Try.f5 false true false false) := by
  refine returnsInHanded_of_change (C := Try.checked) own started (by kernel_rfl) Try.func5
    (ChangeSpec.witness6 (enc := enc) (C := Try.checked) false ⟨#[], #[.agg #[.int .i64 0, .int .i64 0, .int .i64 0, .int .i64 0, .int .i64 0, .int .i64 0, .int .i64 0, .int .i64 0, .int .i64 0]], []⟩ 8 (by kernel_rfl) (by kernel_rfl) (by kernel_rfl) (by kernel_rfl)) ?_
  intro W base args ds gs before hval0 hW _ _
  have hval : ∀ (j : Nat) t v, Try.f5.params[j]? = some t → args[j]? = some v → Value.okWide Try.prog W .any base t v := hval0
  have hW' := hW
  obtain ⟨p, q, hA0, hV, rfl, _, _⟩ := hW
  have hA : DataW.TrodAll enc Try.prog W 0 (fun _ => true) true Try.f5.params.toList args.toList ds p := hA0
  rw [Try.params5] at hA hval
  obtain ⟨v0, vs0, d0, ds0, p0, q0, hargs, rfl, rfl, h0, r0⟩ := trodAll_cons hA
  obtain ⟨rfl, rfl, rfl⟩ := trodAll_nil r0
  obtain rfl : args = #[v0] := by cases args; simp_all
  obtain ⟨rfl, rfl⟩ := trodVars_none hV
  have lt0 : ∀ x ∈ p0, x.block < W.heap.size := by obtain ⟨m, hm⟩ := h0; exact DataW.trod_lt m _ _ _ hm
  obtain ⟨l0, e0, rfl, u0⟩ := open_rowK (n := 9) (k := .i64) (by kernel_rfl) (by kernel_rfl) (hval 0 24 v0 rfl rfl) h0
  clear hA0 hval0
  refine (vecOrders_walk l0 e0 u0 W).mono fun e W' ⟨he, bel⟩ => ?_
  subst he
  exact ⟨_, rfl, _, _, _, [], _, [], hW', trodAll_mk1 (shut_bool Try.underlying4 _), (trodAll_cons_mk (Below.trod laidOut (by kernel_rfl) (of_decide_eq_true (by kernel_rfl)) h0 bel lt0) trodAll_mk0), rfl, bel.frame _, fun h => by cases h⟩

theorem vecOrders_holds : Rows.VecOrdersSaid :=
  OpenClaim.holds_of_wide 5 Try.f5 rfl rfl rfl rfl rfl rfl rfl ⟨rfl, rfl, rfl, rfl, rfl⟩ rfl rfl rfl rfl rfl (by kernel_rfl) Try.func5 (by kernel_rfl)
    (of_decide_eq_true (by kernel_rfl)) (by unfold Func.isWrapper; first | (rw [if_pos (by decide +kernel)]; kernel_rfl) | (rw [if_neg (by decide +kernel)]; exact ⟨rfl, rfl⟩))
    (fun os started H enc _ => vecOrders_lifted os started H enc)

end Go.Proofs.Ytklmanmeedfjpaa
