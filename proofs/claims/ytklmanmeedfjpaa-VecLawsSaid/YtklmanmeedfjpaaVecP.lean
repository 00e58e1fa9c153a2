/-
  Whole numbers alone: products of small matrices. No program in sight. Nothing here is trusted.
-/
import Derived.Test.YtklmanmeedfjpaaVecN
namespace Go.Proofs.Ytklmanmeedfjpaa.Vx
open Go

def Bds (n : Int) (l : List Int) : Prop := ∀ x ∈ l, -n ≤ x ∧ x ≤ n
theorem Bds.mono {m n : Int} {l : List Int} (h : Bds m l) (hmn : m ≤ n) : Bds n l := fun x hx => by have := h x hx; omega
theorem Bds.inB {n : Int} {l : List Int} (h : Bds n l) : inB n l = true := inB_iff.2 h
def mulP (a b c d e f g h i j k l m n o p q r : Int) : List Int := [a * j + b * m + c * p, a * k + b * n + c * q, a * l + b * o + c * r, d * j + e * m + f * p, d * k + e * n + f * q, d * l + e * o + f * r, g * j + h * m + i * p, g * k + h * n + i * q, g * l + h * o + i * r]
theorem mul_small {K L : Int} {a b c d e f g h i j k l m n o p q r : Int} (hA : Bds K [a, b, c, d, e, f, g, h, i]) (hB : Bds L [j, k, l, m, n, o, p, q, r]) (hK : K ≤ 1000) (hL : L ≤ 1000) (hKL : 3 * (K * L) ≤ 9223372036854775807) :
    mulR a b c d e f g h i j k l m n o p q r = mulP a b c d e f g h i j k l m n o p q r ++ [0] ∧ Bds (3 * (K * L)) (mulP a b c d e f g h i j k l m n o p q r) := by
  have h1 := (hA.mono hK).inB
  have h2 := (hB.mono hL).inB
  simp only [Bds, List.mem_cons, List.not_mem_nil, or_false, forall_eq_or_imp, forall_eq] at hA hB
  obtain ⟨ha, hb, hc, hd, he, hf, hg, hh, hi⟩ := hA
  obtain ⟨hj, hk, hl, hm, hn, ho, hp, hq, hr⟩ := hB
  have p0 := dotR_bd ha hb hc hj hm hp hKL
  have p1 := dotR_bd ha hb hc hk hn hq hKL
  have p2 := dotR_bd ha hb hc hl ho hr hKL
  have p3 := dotR_bd hd he hf hj hm hp hKL
  have p4 := dotR_bd hd he hf hk hn hq hKL
  have p5 := dotR_bd hd he hf hl ho hr hKL
  have p6 := dotR_bd hg hh hi hj hm hp hKL
  have p7 := dotR_bd hg hh hi hk hn hq hKL
  have p8 := dotR_bd hg hh hi hl ho hr hKL
  constructor
  · rw [mulR_eq, h1, h2]
    simp only [Bool.and_self, cond_true, mulD, prodL, mulP, p0.1, p1.1, p2.1, p3.1, p4.1, p5.1, p6.1, p7.1, p8.1]
  · unfold mulP
    simp only [Bds, List.mem_cons, List.not_mem_nil, or_false, forall_eq_or_imp, forall_eq]
    exact ⟨by rw [← p0.1]; exact p0.2, by rw [← p1.1]; exact p1.2, by rw [← p2.1]; exact p2.2, by rw [← p3.1]; exact p3.2, by rw [← p4.1]; exact p4.2, by rw [← p5.1]; exact p5.2, by rw [← p6.1]; exact p6.2, by rw [← p7.1]; exact p7.2, by rw [← p8.1]; exact p8.2⟩

def applyP (a b c d e f g h i x y z : Int) : List Int := [a * x + b * y + c * z, d * x + e * y + f * z, g * x + h * y + i * z]
def leftP (a b c d e f g h i x y z : Int) : List Int := [x * a + y * d + z * g, x * b + y * e + z * h, x * c + y * f + z * i]
theorem apply_small {K L : Int} {a b c d e f g h i x y z : Int} (hA : Bds K [a, b, c, d, e, f, g, h, i]) (hB : Bds L [x, y, z]) (hK : K ≤ 1000) (hL : L ≤ 2147483648) (hKL : 3 * (K * L) ≤ 9223372036854775807) :
    applyR a b c d e f g h i x y z = applyP a b c d e f g h i x y z ++ [0] ∧ Bds (3 * (K * L)) (applyP a b c d e f g h i x y z) := by
  have h1 := (hA.mono hK).inB
  have h2 := (hB.mono hL).inB
  simp only [Bds, List.mem_cons, List.not_mem_nil, or_false, forall_eq_or_imp, forall_eq] at hA hB
  obtain ⟨ha, hb, hc, hd, he, hf, hg, hh, hi⟩ := hA
  obtain ⟨hx, hy, hz⟩ := hB
  have p0 := dotR_bd ha hb hc hx hy hz hKL
  have p1 := dotR_bd hd he hf hx hy hz hKL
  have p2 := dotR_bd hg hh hi hx hy hz hKL
  constructor
  · rw [applyR_eq, h1, h2]
    simp only [Bool.and_self, cond_true, applyD, applyP, p0.1, p1.1, p2.1, List.cons_append, List.nil_append]
  · unfold applyP
    simp only [Bds, List.mem_cons, List.not_mem_nil, or_false, forall_eq_or_imp, forall_eq]
    exact ⟨by rw [← p0.1]; exact p0.2, by rw [← p1.1]; exact p1.2, by rw [← p2.1]; exact p2.2⟩
theorem left_small {K L : Int} {a b c d e f g h i x y z : Int} (hA : Bds K [a, b, c, d, e, f, g, h, i]) (hB : Bds L [x, y, z]) (hK : K ≤ 1000) (hL : L ≤ 2147483648) (hKL : 3 * (L * K) ≤ 9223372036854775807) :
    leftR a b c d e f g h i x y z = leftP a b c d e f g h i x y z ++ [0] ∧ Bds (3 * (L * K)) (leftP a b c d e f g h i x y z) := by
  have h1 := (hA.mono hK).inB
  have h2 := (hB.mono hL).inB
  simp only [Bds, List.mem_cons, List.not_mem_nil, or_false, forall_eq_or_imp, forall_eq] at hA hB
  obtain ⟨ha, hb, hc, hd, he, hf, hg, hh, hi⟩ := hA
  obtain ⟨hx, hy, hz⟩ := hB
  have p0 := dotR_bd hx hy hz ha hd hg hKL
  have p1 := dotR_bd hx hy hz hb he hh hKL
  have p2 := dotR_bd hx hy hz hc hf hi hKL
  constructor
  · rw [leftR_eq, h1, h2]
    simp only [Bool.and_self, cond_true, leftD, leftP, p0.1, p1.1, p2.1, List.cons_append, List.nil_append]
  · unfold leftP
    simp only [Bds, List.mem_cons, List.not_mem_nil, or_false, forall_eq_or_imp, forall_eq]
    exact ⟨by rw [← p0.1]; exact p0.2, by rw [← p1.1]; exact p1.2, by rw [← p2.1]; exact p2.2⟩
theorem det_small {a b c d e f g h i : Int} (hA : Bds 1000 [a, b, c, d, e, f, g, h, i]) : detE a b c d e f g h i = [W (det a b c d e f g h i), 0] := by
  rw [detE_eq, hA.inB, detR_eq]; rfl
theorem trace_small {a b c d e f g h i : Int} (hA : Bds 1000 [a, b, c, d, e, f, g, h, i]) : traceE a b c d e f g h i = [W (a + e + i), 0] := by
  rw [traceE_eq, hA.inB, W_addl]; rfl
theorem trans_small {a b c d e f g h i : Int} (hA : Bds 1000 [a, b, c, d, e, f, g, h, i]) : transR a b c d e f g h i = [a, d, g, b, e, h, c, f, i, 0] := by
  rw [transR_eq, hA.inB]; rfl
theorem adj_small {a b c d e f g h i : Int} (hA : Bds 1000 [a, b, c, d, e, f, g, h, i]) : adjE a b c d e f g h i = cofL a b c d e f g h i ++ [0] := by
  rw [adjE_eq, hA.inB]; rfl

end Go.Proofs.Ytklmanmeedfjpaa.Vx
