/-
  Places less places, and the least distance: what the executor finds, and what that comes to. Nothing here is trusted.
-/
import Derived.Test.YtofblakbfmjgkaaKai
namespace Go.Proofs.Ytofblakbfmjgkaa.Vx
open Go
def P3.minE (p q : P3) : Int := bif p.form && q.form then (bif p.m == q.m then 0 else 6) else 3
def P3.minX (p q : P3) : V3 := ⟨(p.x.x - q.x.x) % p.m, (p.x.y - q.x.y) % p.m, (p.x.z - q.x.z) % p.m⟩
def P3.minF (p q : P3) : P3 := bif p.minE q == 0 then ⟨p.m, p.minX q⟩ else P3.zero
def fMinus (p q : P3) : Value := p2 (p.minF q).v (vI (p.minE q))
def tMinus (p q : P3) : Option Value := match !p.form with
  | true => some (p2 P3.zero.v (vI 3))
  | false => match !q.form with
    | true => some (p2 P3.zero.v (vI 3))
    | false => match p.m != q.m with
      | true => some (p2 P3.zero.v (vI 6))
      | false => onO (modB p.m) (onO (modB p.m) (onO (modB p.m) (some (p2 (P3.v ⟨p.m, ⟨W (p.x.x - q.x.x) % p.m, W (p.x.y - q.x.y) % p.m, W (p.x.z - q.x.z) % p.m⟩⟩) (vI 0)))))
theorem form_rng {p : P3} (h : p.form = true) : modB p.m = true ∧ (p.m = 24 ∨ p.m = 48 ∨ p.m = 96 ∨ p.m = 192) ∧ (0 ≤ p.x.x ∧ p.x.x < p.m) ∧ (0 ≤ p.x.y ∧ p.x.y < p.m) ∧ (0 ≤ p.x.z ∧ p.x.z < p.m) := by
  unfold P3.form at h
  rw [Bool.and_eq_true] at h
  have hm := isF_iff.1 h.1
  have e := V3.eqB_iff.1 h.2
  have h0 : p.m > 0 := by omega
  refine ⟨isF_modB h.1, hm, ?_, ?_, ?_⟩
  · have := congrArg V3.x e; simp only [V3.md] at this; have a := Int.emod_nonneg p.x.x (show p.m ≠ 0 by omega); have b := Int.emod_lt_of_pos p.x.x h0; omega
  · have := congrArg V3.y e; simp only [V3.md] at this; have a := Int.emod_nonneg p.x.y (show p.m ≠ 0 by omega); have b := Int.emod_lt_of_pos p.x.y h0; omega
  · have := congrArg V3.z e; simp only [V3.md] at this; have a := Int.emod_nonneg p.x.z (show p.m ≠ 0 by omega); have b := Int.emod_lt_of_pos p.x.z h0; omega
theorem tMinus_eq (p q : P3) : tMinus p q = some (fMinus p q) := by
  unfold tMinus fMinus P3.minF P3.minE
  cases hp : p.form with
  | false => rfl
  | true =>
    cases hq : q.form with
    | false => rfl
    | true =>
      by_cases hm : p.m = q.m
      · obtain ⟨a, b, c, d, e⟩ := form_rng hp
        obtain ⟨_, _, c', d', e'⟩ := form_rng hq
        rw [show (p.m != q.m) = false by simpa using hm, show (p.m == q.m) = true by simpa using hm, a, W_in (n := p.x.x - q.x.x) (by omega), W_in (n := p.x.y - q.x.y) (by omega), W_in (n := p.x.z - q.x.z) (by omega)]
        rfl
      · rw [show (p.m != q.m) = true by simpa using hm, show (p.m == q.m) = false by simpa using hm]
        rfl
/-! The document's -/
def tR2Neg (u : V3) (m : Int) : Option Value := onO (modB m) (onO (modB m) (some (V3.v ⟨W (0 - u.x % m) % m, W (0 - u.y % m) % m, W (0 - u.z % m) % m⟩)))
theorem tR2Neg_eq {u : V3} {m : Int} (h : modB m = true) : tR2Neg u m = some (u.neg.md m).v := by
  obtain ⟨h0, h1⟩ := modB_iff.1 h
  have k : ∀ x : Int, W (0 - x % m) % m = (-x) % m := fun x => by
    have a := Int.emod_nonneg x (show m ≠ 0 by omega)
    have b := Int.emod_lt_of_pos x h0
    have e := Int.emod_add_mul_ediv x m
    rw [W_in (by omega), show 0 - x % m = -x + m * (x / m) by omega, Int.add_mul_emod_self_left]
  unfold tR2Neg
  rw [h, k, k, k]; rfl
def tR2Add (u v : V3) (m : Int) : Option Value := onO (modB m) (onO (modB m) (onO (modB m) (some (V3.v ⟨W (u.x % m + v.x % m) % m, W (u.y % m + v.y % m) % m, W (u.z % m + v.z % m) % m⟩))))
theorem tR2Add_eq {u v : V3} {m : Int} (h : modB m = true) : tR2Add u v m = some ((u.add v).md m).v := by
  obtain ⟨h0, h1⟩ := modB_iff.1 h
  have k : ∀ x y : Int, W (x % m + y % m) % m = (x + y) % m := fun x y => by
    have a := Int.emod_nonneg x (show m ≠ 0 by omega)
    have b := Int.emod_lt_of_pos x h0
    have c := Int.emod_nonneg y (show m ≠ 0 by omega)
    have d := Int.emod_lt_of_pos y h0
    rw [W_in (by omega), ← Int.add_emod]
  unfold tR2Add
  rw [h, k, k, k]; rfl
def tR2Sub (u v : V3) (m : Int) : Option Value := onO (modB m) (onO (modB m) (some ((u.add (v.neg.md m)).md m).v))
theorem tR2Sub_eq {u v : V3} {m : Int} (h : modB m = true) : tR2Sub u v m = some ((u.add v.neg).md m).v := by
  unfold tR2Sub
  rw [h, V3.md_add_r]; rfl
def tDocMinus (p q : P3) : Option Value := match !p.form with
  | true => some (p2 P3.zero.v (vI 3))
  | false => match !q.form with
    | true => some (p2 P3.zero.v (vI 3))
    | false => match p.m != q.m with
      | true => some (p2 P3.zero.v (vI 6))
      | false => onO (modB p.m) (some (p2 (P3.v ⟨p.m, (p.x.add q.x.neg).md p.m⟩) (vI 0)))
theorem tDocMinus_eq (p q : P3) : tDocMinus p q = some (fMinus p q) := by
  unfold tDocMinus fMinus P3.minF P3.minE
  cases hp : p.form with
  | false => rfl
  | true =>
    cases hq : q.form with
    | false => rfl
    | true =>
      by_cases hm : p.m = q.m
      · obtain ⟨a, _⟩ := form_rng hp
        rw [show (p.m != q.m) = false by simpa using hm, show (p.m == q.m) = true by simpa using hm, a, show (p.x.add q.x.neg).md p.m = p.minX q by unfold V3.md V3.add V3.neg P3.minX; simp only [Int.sub_eq_add_neg]]
        rfl
      · rw [show (p.m != q.m) = true by simpa using hm, show (p.m == q.m) = false by simpa using hm]
        rfl
def tLst2 (a b : Int) : Option Value := lsu a b fun e => some (vI e)
def fLst2 (a b : Int) : Value := vI (leastN a b)
theorem tLst2_eq (a b : Int) : tLst2 a b = some (fLst2 a b) := by unfold tLst2; rw [lsu_eq]; rfl
/-! Far -/
def sW (m : G6) (x y z : Int) : Int := W (m.dot ⟨x, y, z⟩ ⟨x, y, z⟩)
def imgL (x m : Int) : List Int := if x = 0 then [W (0 - m), 0, m] else [W (x - m), x]
def midF (m : G6) (M Z x l : Int) (ys : List Int) : Int := ys.foldl (fun l y => (imgL Z M).foldl (fun l z => min2I l (sW m x y z)) l) l
def farF (m : G6) (M : Int) (v : V3) (l : Int) : Int := (imgL v.x M).foldl (fun l x => midF m M v.z x l (imgL v.y M)) l
def farE (m : G6) (p q : P3) : Int := leastN m.mck (p.minE q)
def farY (m : G6) (M : Int) (v : V3) (x l : Int) (k : Int → Option Value) : Option Value := match v.y == 0 with
  | true => k (midF m M v.z x l [W (0 - M), 0, M])
  | false => k (midF m M v.z x l [W (v.y - M), v.y])
theorem farY_eq (m : G6) (M : Int) (v : V3) (x l : Int) (k : Int → Option Value) : farY m M v x l k = k (midF m M v.z x l (imgL v.y M)) := by
  unfold farY
  by_cases h : v.y = 0
  · rw [show (v.y == 0) = true by simpa using h, show imgL v.y M = [W (0 - M), 0, M] from if_pos h]
  · rw [show (v.y == 0) = false by simpa using h, show imgL v.y M = [W (v.y - M), v.y] from if_neg h]
def farK (m : G6) (M : Int) (v : V3) (l : Int) : Option Value := match v.x == 0 with
  | true => farY m M v (W (0 - M)) l fun l => farY m M v 0 l fun l => farY m M v M l fun l => some (p2 (vI l) (vI 0))
  | false => farY m M v (W (v.x - M)) l fun l => farY m M v v.x l fun l => some (p2 (vI l) (vI 0))
theorem farK_eq (m : G6) (M : Int) (v : V3) (l : Int) : farK m M v l = some (p2 (vI (farF m M v l)) (vI 0)) := by
  unfold farK farF
  by_cases h : v.x = 0
  · rw [show (v.x == 0) = true by simpa using h, show imgL v.x M = [W (0 - M), 0, M] from if_pos h]
    simp only [farY_eq]; rfl
  · rw [show (v.x == 0) = false by simpa using h, show imgL v.x M = [W (v.x - M), v.x] from if_neg h]
    simp only [farY_eq]; rfl
def farV (m : G6) (p q : P3) : Int := bif farE m p q == 0 then farF m p.m (p.minX q) (W (m.dot (p.minX q) (p.minX q))) else 0
def tFar (m : G6) (p q : P3) : Option Value := match farE m p q != 0 with
  | true => some (p2 (vI 0) (vI (farE m p q)))
  | false => farK m (p.minF q).m (p.minF q).x (W (m.dot (p.minF q).x (p.minF q).x))
def fFar (m : G6) (p q : P3) : Value := p2 (vI (farV m p q)) (vI (farE m p q))
theorem farE_zero {m : G6} {p q : P3} (h : farE m p q = 0) : m.mck = 0 ∧ p.minE q = 0 := leastN_zero.1 h
theorem tFar_eq (m : G6) (p q : P3) : tFar m p q = some (fFar m p q) := by
  unfold tFar fFar farV
  by_cases h : farE m p q = 0
  · have e : p.minF q = ⟨p.m, p.minX q⟩ := by unfold P3.minF; rw [(farE_zero h).2]; rfl
    rw [h, e, farK_eq]; rfl
  · rw [(bif_beq h).1, (bif_beq h).2]; rfl
end Go.Proofs.Ytofblakbfmjgkaa.Vx
