/-
  plain.Residue, ring.Root, ring.Int, told. Nothing here is trusted.
-/
import Derived.Test.YtjhijkdicmbbiaaKaf

namespace Go.Proofs.Ytjhijkdicmbbiaa
open Go Vx Go.RowKit
theorem e108 (a b : Int) : exFun ((Cr3 Try.prog).at 108) 60 Try.f108 [vI a, vI b] = gn (b == 0) (match decide (a.tmod b < 0) with
    | true => some (vI (W (a.tmod b + b)))
    | false => some (vI (a.tmod b))) := by kernel_rfl
def F108 : List Value → Option (Bool × Value)
  | [.int .i64 a, .int .i64 b] => some (fineB b, vI (a % b))
  | _ => none
theorem tmod_res {a b : Int} (hb : fineB b = true) : (match decide (a.tmod b < 0) with
    | true => some (vI (W (a.tmod b + b)))
    | false => some (vI (a.tmod b)) : Option Value) = some (vI (a % b)) := by
  have h0 := fine_cases hb
  have h1 : a.tmod b = a % b ∨ (a.tmod b = a % b - b ∧ a % b ≠ 0) := by
    rw [Int.tmod_eq_emod]
    split
    · exact Or.inl (by omega)
    · refine Or.inr ⟨by rcases h0 with h | h | h | h <;> subst h <;> rfl, ?_⟩
      rename_i h
      intro hz
      exact h (Or.inr (Int.dvd_of_emod_eq_zero hz))
  have h2 : 0 ≤ a % b ∧ a % b < b := ⟨Int.emod_nonneg _ (by omega), Int.emod_lt_of_pos _ (by omega)⟩
  generalize a % b = x at *
  rcases h1 with h | ⟨h, _⟩
  · rw [h, show decide (x < 0) = false by simp; omega]
  · rw [h, show decide (x - b < 0) = true by simp; omega]
    simp only
    rw [W_in (by omega)]
    congr 2
    omega
def Cr108 (P : Program) : Cx := (Cr3 P).addR 108 F108
theorem okr108 : CxOk (Cr108 Try.prog) := Cx.addRa_ok okr3 (n := 60) Try.func108 (by kernel_rfl) fun args v h => by
  unfold F108 at h
  split at h
  · rename_i a b
    simp only [Option.some.injEq, Prod.mk.injEq] at h
    obtain ⟨h0, rfl⟩ := h
    refine (e108 a b).trans ?_
    have hf := fine_cases h0
    rw [show (b == 0) = false by simp; omega]
    exact tmod_res h0
  · cases h
def mkW (d : Int) : Bool := decide (0 ≤ d) && (decide (d ≤ d) && (decide (d * ((16 : Nat) : Int) ≤ 2 ^ 47) && decide (d ≤ 2 ^ 62)))
def zR : Nat → List Value := fun _ => [.int .u64 0, .int .u64 0]
def okR (m : Int) (h : Nat → Int) : Option (Value × Mem) := some (rgV m (SI 0 (m.toNat / 3)) 0, [.rows true true 1 (m.toNat / 3) (iRow fun i => nar (h i))])
def erR (e : Int) : Option (Value × Mem) := some (rgV 0 (.slice none 0 0) e, [.no])
/-- What a list of powers comes to. -/
def toR (m : Int) (n : Nat) (row : Nat → List Value) : Option (Value × Mem) := gd (shT n m row) (match allF (m.toNat / 3) (cofG n (m.toNat / 3) (gOf row)) with
  | true => okR m (cofG n (m.toNat / 3) (gOf row))
  | false => erR 4)
theorem rtT (j m : Int) : exT ((Cr108 Try.prog).at 32) 60 Try.f32 [vI j, vI m] [] [.cell 0 1] = (match !fineB m with
  | true => erR 1
  | false => gd (mkW m) (gd (fineB m) (gd (boundsI (j % m) m.toNat) (toR m m.toNat (stR zR (j % m).toNat (w2 1)))))) := by kernel_rfl
theorem itT (n m : Int) : exT ((Cr108 Try.prog).at 34) 60 Try.f34 [vI n, vI m] [] [.cell 0 1] = (match !fineB m with
  | true => erR 1
  | false => gd (mkW (W (m.tdiv 3))) (gd (i64B n) (gd (boundsI 0 (W (m.tdiv 3)).toNat) (toR m (W (m.tdiv 3)).toNat (stR zR 0 (w2 n)))))) := by kernel_rfl
end Go.Proofs.Ytjhijkdicmbbiaa


namespace Go.Proofs.Ytjhijkdicmbbiaa.Vx
open Go
/-- Nothing from n on. -/
def cut (n : Nat) (g : Nat → Int) (i : Nat) : Int := if i < n then g i else 0
def cofZ (e : Nat) (z : Nat → Int) (q : Nat) : Int := if q < e then z q - z (q + 2 * e) - z (q + 3 * e) + z (q + 5 * e) else z q + z (q + e) - z (q + 3 * e) - z (q + 4 * e)
def cofE (e n : Nat) (g : Nat → Int) : Nat → Int := cofZ e (cut n g)
/-- One step of it: the highest power is brought down and left out. -/
theorem cof_step {e i q : Nat} (g : Nat → Int) (he : 1 ≤ e) (h1 : 2 * e ≤ i) (h2 : i < 6 * e) (hq : q < 2 * e) : cofZ e (cut i (redG (2 * e) g i)) q = cofZ e (cut (i + 1) g) q := by
  have hd : 2 * e / 2 = e := by omega
  have val : ∀ p, cut i (redG (2 * e) g i) p = if p = i then 0 else if p = i - e then g (i - e) + g i else if p = i - 2 * e then g (i - 2 * e) - g i else cut (i + 1) g p := by
    intro p
    unfold cut redG putG
    rw [hd]
    by_cases a : p = i
    · subst a; rw [if_neg (by omega), if_pos rfl]
    · rw [if_neg a]
      by_cases b : p = i - e
      · rw [if_pos (show p < i by omega), if_neg (show ¬ p = i - 2 * e by omega), if_pos b, if_pos b]
      · by_cases c : p = i - 2 * e
        · rw [if_pos (show p < i by omega), if_pos c, if_neg b, if_pos c]
        · by_cases l : p < i
          · rw [if_pos l, if_neg c, if_neg b, if_neg b, if_neg c, if_pos (show p < i + 1 by omega)]
          · rw [if_neg l, if_neg b, if_neg c, if_neg (show ¬ p < i + 1 by omega)]
  have other : ∀ p, p ≠ i → p ≠ i - e → p ≠ i - 2 * e → cut i (redG (2 * e) g i) p = cut (i + 1) g p := fun p a b c => by rw [val, if_neg a, if_neg b, if_neg c]
  have v0 : cut i (redG (2 * e) g i) i = 0 := by rw [val, if_pos rfl]
  have v1 : cut i (redG (2 * e) g i) (i - e) = g (i - e) + g i := by rw [val, if_neg (by omega), if_pos rfl]
  have v2 : cut i (redG (2 * e) g i) (i - 2 * e) = g (i - 2 * e) - g i := by rw [val, if_neg (by omega), if_neg (by omega), if_pos rfl]
  have w0 : cut (i + 1) g i = g i := by unfold cut; rw [if_pos (by omega)]
  have w1 : cut (i + 1) g (i - e) = g (i - e) := by unfold cut; rw [if_pos (by omega)]
  have w2 : cut (i + 1) g (i - 2 * e) = g (i - 2 * e) := by unfold cut; rw [if_pos (by omega)]
  generalize cut i (redG (2 * e) g i) = x at *
  generalize cut (i + 1) g = y at *
  unfold cofZ
  by_cases hqe : q < e
  · rw [if_pos hqe, if_pos hqe]
    by_cases k2 : i = q + 2 * e
    · rw [show i - e = q + e by omega] at v1 w1 other
      rw [show i - 2 * e = q by omega] at v2 w2 other
      rw [k2] at v0 w0
      have o3 := other (q + 3 * e) (by omega) (by omega) (by omega)
      have o5 := other (q + 5 * e) (by omega) (by omega) (by omega)
      rw [k2] at v1 v2
      omega
    · by_cases k3 : i = q + 3 * e
      · rw [show i - e = q + 2 * e by omega] at v1 w1 other
        rw [show i - 2 * e = q + e by omega] at v2 w2 other
        rw [k3] at v0 w0
        have o0 := other q (by omega) (by omega) (by omega)
        have o5 := other (q + 5 * e) (by omega) (by omega) (by omega)
        rw [k3] at v1 v2
        omega
      · by_cases k4 : i = q + 4 * e
        · rw [show i - e = q + 3 * e by omega] at v1 w1 other
          rw [show i - 2 * e = q + 2 * e by omega] at v2 w2 other
          rw [k4] at v0 w0
          have o0 := other q (by omega) (by omega) (by omega)
          have o5 := other (q + 5 * e) (by omega) (by omega) (by omega)
          rw [k4] at v1 v2
          omega
        · by_cases k5 : i = q + 5 * e
          · rw [show i - e = q + 4 * e by omega] at v1 w1 other
            rw [show i - 2 * e = q + 3 * e by omega] at v2 w2 other
            rw [k5] at v0 w0
            have o0 := other q (by omega) (by omega) (by omega)
            have o2 := other (q + 2 * e) (by omega) (by omega) (by omega)
            rw [k5] at v1 v2
            omega
          · rw [other q (by omega) (by omega) (by omega), other (q + 2 * e) (by omega) (by omega) (by omega), other (q + 3 * e) (by omega) (by omega) (by omega), other (q + 5 * e) (by omega) (by omega) (by omega)]
  · rw [if_neg hqe, if_neg hqe]
    obtain ⟨p, rfl⟩ : ∃ p, q = p + e := ⟨q - e, by omega⟩
    by_cases k2 : i = p + 2 * e
    · rw [show i - e = p + e by omega] at v1 w1 other
      rw [show i - 2 * e = p by omega] at v2 w2 other
      rw [k2] at v0 w0
      rw [show p + e + e = p + 2 * e by omega, show p + e + 3 * e = p + 4 * e by omega, show p + e + 4 * e = p + 5 * e by omega]
      have o4 := other (p + 4 * e) (by omega) (by omega) (by omega)
      have o5 := other (p + 5 * e) (by omega) (by omega) (by omega)
      rw [k2] at v1 v2
      omega
    · rw [show p + e + e = p + 2 * e by omega, show p + e + 3 * e = p + 4 * e by omega, show p + e + 4 * e = p + 5 * e by omega]
      by_cases k3 : i = p + 3 * e
      · rw [show i - e = p + 2 * e by omega] at v1 w1 other
        rw [show i - 2 * e = p + e by omega] at v2 w2 other
        have o4 := other (p + 4 * e) (by omega) (by omega) (by omega)
        have o5 := other (p + 5 * e) (by omega) (by omega) (by omega)
        omega
      · by_cases k4 : i = p + 4 * e
        · rw [show i - e = p + 3 * e by omega] at v1 w1 other
          rw [show i - 2 * e = p + 2 * e by omega] at v2 w2 other
          rw [k4] at v0 w0
          have o1 := other (p + e) (by omega) (by omega) (by omega)
          have o5 := other (p + 5 * e) (by omega) (by omega) (by omega)
          rw [k4] at v2
          omega
        · by_cases k5 : i = p + 5 * e
          · rw [show i - e = p + 4 * e by omega] at v1 w1 other
            rw [show i - 2 * e = p + 3 * e by omega] at v2 w2 other
            rw [k5] at v0 w0
            have o1 := other (p + e) (by omega) (by omega) (by omega)
            have o2 := other (p + 2 * e) (by omega) (by omega) (by omega)
            rw [k5] at v1
            omega
          · rw [other (p + e) (by omega) (by omega) (by omega), other (p + 2 * e) (by omega) (by omega) (by omega), other (p + 4 * e) (by omega) (by omega) (by omega), other (p + 5 * e) (by omega) (by omega) (by omega)]
theorem red_cof {e n : Nat} (g : Nat → Int) (he : 1 ≤ e) (h1 : 2 * e ≤ n) (h2 : n ≤ 6 * e) : ∀ r, r ≤ n - 2 * e → ∀ q, q < 2 * e → cofZ e (cut (n - r) (redN (2 * e) n g r)) q = cofZ e (cut n g) q
  | 0, _, q, _ => rfl
  | r + 1, hr, q, hq => by
    rw [← red_cof g he h1 h2 r (by omega) q hq]
    show cofZ e (cut (n - (r + 1)) (redG (2 * e) (redN (2 * e) n g r) (n - 1 - r))) q = _
    rw [show n - (r + 1) = n - 1 - r by omega, cof_step _ he (by omega) (by omega) hq, show n - 1 - r + 1 = n - r by omega]
theorem cof_low {e : Nat} (g : Nat → Int) {q : Nat} (hq : q < 2 * e) : cofZ e (cut (2 * e) g) q = g q := by
  unfold cofZ cut
  by_cases h : q < e
  · rw [if_pos h, if_pos hq, if_neg (by omega), if_neg (by omega), if_neg (by omega)]; omega
  · rw [if_neg h, if_pos hq, if_neg (by omega), if_neg (by omega), if_neg (by omega)]; omega
theorem redN_cof {e n : Nat} (g : Nat → Int) (he : 1 ≤ e) (h1 : 2 * e ≤ n) (h2 : n ≤ 6 * e) {q : Nat} (hq : q < 2 * e) : redN (2 * e) n g (n - 2 * e) q = cofE e n g q := by
  have := red_cof g he h1 h2 (n - 2 * e) (Nat.le_refl _) q hq
  rw [show n - (n - 2 * e) = 2 * e by omega, cof_low _ hq] at this
  exact this
theorem wid_cof {e n : Nat} {g h : Nat → Int} (hgh : ∀ i, i < n → wid (g i) = wid (h i)) (q : Nat) : wid (cofE e n g q) = wid (cofE e n h q) := by
  have hc : ∀ i, wid (cut n g i) = wid (cut n h i) := fun i => by
    unfold cut
    by_cases hi : i < n
    · rw [if_pos hi, if_pos hi]; exact hgh i hi
    · rw [if_neg hi, if_neg hi]
  unfold cofE cofZ
  generalize cut n g = x at *
  generalize cut n h = y at *
  by_cases hq : q < e
  · rw [if_pos hq, if_pos hq]
    have a := hc q
    have b := hc (q + 2 * e)
    have c := hc (q + 3 * e)
    have d := hc (q + 5 * e)
    unfold wid at *
    omega
  · rw [if_neg hq, if_neg hq]
    have a := hc q
    have b := hc (q + e)
    have c := hc (q + 3 * e)
    have d := hc (q + 4 * e)
    unfold wid at *
    omega
end Go.Proofs.Ytjhijkdicmbbiaa.Vx


namespace Go.Proofs.Ytjhijkdicmbbiaa
open Go Vx Go.RowKit
theorem nar_wid {v w : Int} (h : wid v = wid w) : nar v = nar w ∧ fits v = fits w := by
  obtain ⟨a, b⟩ := wV_congr h
  have e : nar v = nar w := by unfold nar; rw [b]
  unfold fits fitW
  rw [e, a, b]
  exact ⟨rfl, rfl⟩
theorem inRg_iff {n : Int} : inRg n = true ↔ -4503599627370496 ≤ n ∧ n ≤ 4503599627370496 := by simp [inRg]
def b127 (v : Int) : Prop := -170141183460469231731687303715884105728 ≤ v ∧ v < 170141183460469231731687303715884105728
theorem fits_in {v : Int} (hv : b127 v) : fits v = inRg v ∧ (inRg v = true → nar v = v) := by
  unfold b127 at hv
  have hn : nar v = W v := by
    unfold nar loW
    rw [W_eq, W_eq]; omega
  refine ⟨?_, fun h => ?_⟩
  · cases hr : inRg v with
    | true =>
      have := inRg_iff.1 hr
      unfold fits fitW
      rw [hn, W_in (by omega)]
      simp [hr]
    | false =>
      unfold fits
      rw [hn]
      cases hf : fitW v with
      | false => rfl
      | true =>
        unfold fitW at hf
        rw [hn] at hf
        simp only [Bool.and_eq_true, beq_iff_eq, and_true] at hf
        have h1 := dec_hl v
        have h2 := dec_hl (W v)
        rw [← hf.1, ← hf.2, h2] at h1
        have h3 : -9223372036854775808 ≤ W v ∧ W v ≤ 9223372036854775807 := i64B_iff.1 (i64B_W v)
        have h4 : W v = v := by omega
        rw [h4, hr]; rfl
  · have := inRg_iff.1 h
    rw [hn, W_in (by omega)]
def allR (d : Nat) (c : Nat → Int) : Bool := (List.range d).all fun i => inRg (c i)
theorem cofG_wid {e n : Nat} {row : Nat → List Value} {g : Nat → Int} (he : 1 ≤ e) (h1 : 2 * e ≤ n) (h2 : n ≤ 6 * e) (hr : rowsLike n row (wRow g)) {q : Nat} (hq : q < 2 * e) : wid (cofG n (2 * e) (gOf row) q) = wid (cofE e n g q) := by
  unfold cofG
  rw [redN_cof _ he h1 h2 hq]
  refine wid_cof (fun i hi => ?_) q
  rw [gOf_row]
  have : gOf row i = gOf (wRow g) i := by unfold gOf; rw [hr i hi]
  rw [this, gOf_row]
/-- A call that comes to powers. -/
theorem toR_sem {f : FuncId} {args : List Value} {m : Int} {n e : Nat} {row : Nat → List Value} {g : Nat → Int} (hm : m = ((6 * e : Nat) : Int)) (hf : fineB m = true) (h1 : 2 * e ≤ n) (h2 : n ≤ 6 * e) (hr : rowsLike n row (wRow g)) (hw : okWs n row = true) (hb : ∀ q, q < 2 * e → b127 (cofE e n g q))
    (h : ∀ {v m'}, toR m n row = some (v, m') → MemSem Try.prog f args [] v m') :
    (allR (2 * e) (cofE e n g) = true → MemSem Try.prog f args [] (rgV m (SI 0 (2 * e)) 0) [.rows true true 1 (2 * e) (iRow (cofE e n g))]) ∧
    (allR (2 * e) (cofE e n g) = false → MemSem Try.prog f args [] (rgV 0 (.slice none 0 0) 4) [.no]) := by
  have hc := fine_cases hf
  have hd : m.toNat / 3 = 2 * e := by omega
  have ht : shT n m row = true := by
    unfold shT
    rw [hf, Nat.beq_refl, hw, decide_eq_true (by omega), decide_eq_true (by omega)]
    rfl
  have hq : ∀ q, q < 2 * e → fits (cofG n (2 * e) (gOf row) q) = inRg (cofE e n g q) ∧ (inRg (cofE e n g q) = true → nar (cofG n (2 * e) (gOf row) q) = cofE e n g q) := fun q hq => by
    obtain ⟨a, b⟩ := nar_wid (cofG_wid (by omega) h1 h2 hr hq)
    obtain ⟨c, d⟩ := fits_in (hb q hq)
    rw [a, b]
    exact ⟨c, d⟩
  have hall : allF (2 * e) (cofG n (2 * e) (gOf row)) = allR (2 * e) (cofE e n g) := by
    unfold allF allR
    rw [Bool.eq_iff_iff, List.all_eq_true, List.all_eq_true]
    exact ⟨fun h i hi => by rw [← (hq i (List.mem_range.1 hi)).1]; exact h i hi, fun h i hi => by rw [(hq i (List.mem_range.1 hi)).1]; exact h i hi⟩
  unfold toR at h
  rw [ht, hd, hall] at h
  simp only [gd_true] at h
  refine ⟨fun ha => ?_, fun ha => ?_⟩
  · rw [ha] at h
    unfold okR at h
    rw [hd] at h
    have := h rfl
    refine MemSem.likes this ⟨.rows fun i hi => ?_, trivial⟩
    show [vI (nar (cofG n (2 * e) (gOf row) i))] = [vI (cofE e n g i)]
    rw [(hq i hi).2 (List.all_eq_true.1 ha i (List.mem_range.2 hi))]
  · rw [ha] at h
    exact h rfl
def unG (k : Nat) (v : Int) : Nat → Int := putG (fun _ => 0) k v
theorem zR_like (n k : Nat) (v : Int) : rowsLike n (stR zR k (w2 v)) (wRow (unG k v)) := fun q _ => stR_w (fun _ => 0) k v q
theorem okWs_like {n : Nat} {row : Nat → List Value} {g : Nat → Int} (h : rowsLike n row (wRow g)) : okWs n row = true := List.all_eq_true.2 fun i hi => by
  rw [h i (List.mem_range.1 hi)]
  simp [wRow, hiW_ok, loW_ok]
theorem un_cof (e n k q : Nat) : -2 ≤ cofE e n (unG k 1) q ∧ cofE e n (unG k 1) q ≤ 2 := by
  have hz : ∀ i, cut n (unG k 1) i = 0 ∨ cut n (unG k 1) i = 1 := fun i => by
    unfold cut unG putG
    by_cases h : i < n
    · rw [if_pos h]
      by_cases hk : i = k
      · rw [if_pos hk]; exact Or.inr rfl
      · rw [if_neg hk]; exact Or.inl rfl
    · rw [if_neg h]; exact Or.inl rfl
  unfold cofE cofZ
  generalize cut n (unG k 1) = z at *
  by_cases hq : q < e
  · rw [if_pos hq]
    have a := hz q
    have b := hz (q + 2 * e)
    have c := hz (q + 3 * e)
    have d := hz (q + 5 * e)
    omega
  · rw [if_neg hq]
    have a := hz q
    have b := hz (q + e)
    have c := hz (q + 3 * e)
    have d := hz (q + 4 * e)
    omega
def rootC (j m : Int) : Nat → Int := cofE (m.toNat / 6) m.toNat (unG (j % m).toNat 1)
theorem six {m : Int} (h : fineB m = true) : m = ((6 * (m.toNat / 6) : Nat) : Int) ∧ 1 ≤ m.toNat / 6 ∧ m.toNat / 3 = 2 * (m.toNat / 6) ∧ m.toNat = 6 * (m.toNat / 6) := by
  have := fine_cases h
  omega
def rootF : List Value → Mem → Option (Ans (Value × Mem))
  | [.int .i64 j, .int .i64 m], [] => some (.br (fineB m) (.out (rgV m (SI 0 (m.toNat / 3)) 0, [.rows true true 1 (m.toNat / 3) (iRow (rootC j m))])) (.out (rgV 0 (.slice none 0 0) 1, [.no])))
  | _, _ => none
theorem rootF_ok {args : List Value} {m : Mem} {ans : Ans (Value × Mem)} {v : Value} {m' : Mem} (h : rootF args m = some ans) (hr : ans.res = some (v, m')) : MemSem Try.prog 32 args m v m' := by
  unfold rootF at h
  split at h
  · rename_i j m
    simp only [Option.some.injEq] at h
    subst h
    have ht := rtT j m
    rcases Ans.br_some hr with ⟨hf, g⟩ | ⟨hf, g⟩ <;> clear hr <;> simp only [Ans.res, Option.some.injEq, Prod.mk.injEq] at g <;> obtain ⟨rfl, rfl⟩ := g
    · obtain ⟨s1, s2, s3, s4⟩ := six hf
      have hc := fine_cases hf
      have h2 : 0 ≤ j % m ∧ j % m < m := ⟨Int.emod_nonneg _ (by omega), Int.emod_lt_of_pos _ (by omega)⟩
      rw [hf, show mkW m = true by unfold mkW; simp; omega, boundsI_ok (n := m.toNat) (i := j % m) (by omega)] at ht
      simp only [gd_true, Bool.not_true] at ht
      have hl := zR_like m.toNat (j % m).toNat 1
      have hb := un_cof (m.toNat / 6) m.toNat (j % m).toNat
      have := (toR_sem (f := 32) (args := [vI j, vI m]) (e := m.toNat / 6) s1 hf (by omega) (by omega) hl (okWs_like hl) (fun q _ => by have := hb q; unfold b127; omega) fun {v m'} h => exT_ok okr108 Try.func32 (by kernel_rfl) (ht.trans h)).1 (List.all_eq_true.2 fun i _ => inRg_iff.2 (by have := hb i; omega))
      rw [s3]
      exact this
    · rw [hf] at ht
      exact exT_ok okr108 Try.func32 (by kernel_rfl) ht
  · cases h
def intF : List Value → Mem → Option (Ans (Value × Mem))
  | [.int .i64 n, .int .i64 m], [] => some (.br (i64B n) (.br (fineB m) (.br (inRg n) (.out (rgV m (SI 0 (m.toNat / 3)) 0, [.rows true true 1 (m.toNat / 3) (iRow (unG 0 n))])) (.out (rgV 0 (.slice none 0 0) 4, [.no]))) (.out (rgV 0 (.slice none 0 0) 1, [.no]))) .fail)
  | _, _ => none
theorem int_cof {e q : Nat} (n : Int) (hq : q < 2 * e) : cofE e (2 * e) (unG 0 n) q = unG 0 n q := cof_low _ hq
theorem intF_ok {args : List Value} {m : Mem} {ans : Ans (Value × Mem)} {v : Value} {m' : Mem} (h : intF args m = some ans) (hr : ans.res = some (v, m')) : MemSem Try.prog 34 args m v m' := by
  unfold intF at h
  split at h
  · rename_i n m
    simp only [Option.some.injEq] at h
    subst h
    have ht := itT n m
    rcases Ans.br_some hr with ⟨hn, g0⟩ | ⟨_, g0⟩ <;> clear hr
    rotate_left
    · simp [Ans.res] at g0
    rcases Ans.br_some g0 with ⟨hf, g1⟩ | ⟨hf, g⟩ <;> clear g0
    · obtain ⟨s1, s2, s3, s4⟩ := six hf
      have hc := fine_cases hf
      have hw : W (m.tdiv 3) = ((2 * (m.toNat / 6) : Nat) : Int) := by
        rw [show m = ((3 * (2 * (m.toNat / 6)) : Nat) : Int) by omega, tdiv3, W_in (by omega)]
        omega
      rw [hf, hn, hw, show mkW ((2 * (m.toNat / 6) : Nat) : Int) = true by unfold mkW; simp; omega, Int.toNat_natCast, boundsI_ok (n := 2 * (m.toNat / 6)) (i := 0) (by omega)] at ht
      simp only [gd_true, Bool.not_true] at ht
      have hl := zR_like (2 * (m.toNat / 6)) 0 n
      have hi := i64B_iff.1 hn
      have hb : ∀ q, q < 2 * (m.toNat / 6) → cofE (m.toNat / 6) (2 * (m.toNat / 6)) (unG 0 n) q = 0 ∨ cofE (m.toNat / 6) (2 * (m.toNat / 6)) (unG 0 n) q = n := fun q hq => by
        rw [int_cof n hq]
        unfold unG putG
        by_cases h : q = 0
        · rw [if_pos h]; exact Or.inr rfl
        · rw [if_neg h]; exact Or.inl rfl
      have key := toR_sem (f := 34) (args := [vI n, vI m]) (e := m.toNat / 6) s1 hf (by omega) (by omega) hl (okWs_like hl) (fun q hq => by have := hb q hq; unfold b127; omega) fun {v m'} h => exT_ok okr108 Try.func34 (by kernel_rfl) (ht.trans h)
      have hall : allR (2 * (m.toNat / 6)) (cofE (m.toNat / 6) (2 * (m.toNat / 6)) (unG 0 n)) = inRg n := by
        cases hr : inRg n with
        | true =>
          refine List.all_eq_true.2 fun i hi => ?_
          have := inRg_iff.1 hr
          rcases hb i (List.mem_range.1 hi) with h | h <;> exact inRg_iff.2 (by omega)
        | false =>
          cases ha : allR (2 * (m.toNat / 6)) (cofE (m.toNat / 6) (2 * (m.toNat / 6)) (unG 0 n)) with
          | false => rfl
          | true =>
            have := List.all_eq_true.1 ha 0 (List.mem_range.2 (by omega))
            rw [int_cof n (by omega)] at this
            exact absurd (this.symm.trans hr) (by simp)
      rw [hall] at key
      rcases Ans.br_some g1 with ⟨hr, g⟩ | ⟨hr, g⟩ <;> clear g1 <;> simp only [Ans.res, Option.some.injEq, Prod.mk.injEq] at g <;> obtain ⟨rfl, rfl⟩ := g
      · rw [s3]
        exact (key.1 hr).likes ⟨.rows fun i hi => by unfold iRow; rw [int_cof n hi], trivial⟩
      · exact key.2 hr
    · simp only [Ans.res, Option.some.injEq, Prod.mk.injEq] at g
      obtain ⟨rfl, rfl⟩ := g
      rw [hf] at ht
      exact exT_ok okr108 Try.func34 (by kernel_rfl) ht
  · cases h
def Cr32 (P : Program) : Cx := (Cr108 P).addF 32 rootF
theorem okr32 : CxOk (Cr32 Try.prog) := Cx.addF_ok okr108 fun _ _ _ _ _ h hr => rootF_ok h hr
def Cr34 (P : Program) : Cx := (Cr32 P).addF 34 intF
theorem okr34 : CxOk (Cr34 Try.prog) := Cx.addF_ok okr32 fun _ _ _ _ _ h hr => intF_ok h hr
end Go.Proofs.Ytjhijkdicmbbiaa


namespace Go.Proofs.Ytjhijkdicmbbiaa
open Go Vx Go.RowKit
def ixB (P : Program) : Code := bodyOf P 144
theorem ixB_eq : Try.f144.body = some (ixB Try.prog) := by kernel_rfl
def fnB : Value := .func (.func 118) #[] #[]
abbrev Ir (own : Bool) (n : Nat) (c : Nat → Int) : Blk := .rows own true 1 n (iRow c)
def ixH (own : Bool) (n : Nat) (c : Nat → Int) (i : Int) : St := stOf 19 [(0, SI 0 n), (1, fnB), (4, vI 0), (7, vI n), (8, vI i)] [Ir own n c]
def ixX (own : Bool) (n : Nat) (c : Nat → Int) (v : Int) : St := stOf 19 [(4, vI v)] [Ir own n c]
theorem ixR (own : Bool) (n : Nat) (c : Nat → Int) (i : Nat) : roundR ((Cr34 Try.prog).into 144 1) 60 (forBody (stmt 1 (ixB Try.prog))) [0, 1, 4, 7, 8] [4] [.fix 0] [.fix 0] (ixH own n c (i : Int)) =
  (match decide ((i : Int) < (n : Int)) with
  | true => gd (boundsI (i : Int) n) (match !inRg (c i) with
    | true => some (.ret, ixX own n c (i : Int))
    | false => some (.normal, ixH own n c (W ((i : Int) + 1))))
  | false => some (.exit 0, ixX own n c 0)) := by kernel_rfl
theorem ixFor : isFor 0 (stmt 1 (ixB Try.prog)) = true := by kernel_rfl
theorem ixHas : hasStmt 1 (ixB Try.prog) = true := by kernel_rfl
theorem ixIn : InBody ((Cr34 Try.prog).into 144 1) (forHead (stmt 1 (ixB Try.prog))) ∧ InBody ((Cr34 Try.prog).into 144 1) (forBody (stmt 1 (ixB Try.prog))) := for_in (C := Cr34 Try.prog) (f := 144) (B := 1) (id := 0) (k := 1) (fn := Try.f144) (b := ixB Try.prog) Try.func144 ixB_eq ixFor
theorem ixP (own : Bool) (n : Nat) (c : Nat → Int) : segR ((Cr34 Try.prog).into 144 1) 60 1 (ixB Try.prog) [0, 1, 4] [.fix 0] (enter Try.f144 [SI 0 n, fnB] [Ir own n c]) = some (stOf 19 [(0, SI 0 n), (1, fnB), (4, vI 0)] [Ir own n c]) := by kernel_rfl
theorem ixHead (own : Bool) (n : Nat) (c : Nat → Int) : roundR ((Cr34 Try.prog).into 144 1) 60 (forHead (stmt 1 (ixB Try.prog))) [0, 1, 4, 7, 8] [0, 1, 4, 7, 8] [.fix 0] [.fix 0] (stOf 19 [(0, SI 0 n), (1, fnB), (4, vI 0)] [Ir own n c]) = some (.normal, ixH own n c 0) := by kernel_rfl
theorem ixEnd (own : Bool) (n : Nat) (c : Nat → Int) : roundR ((Cr34 Try.prog).into 144 1) 60 (seqDrop 2 (ixB Try.prog)) [4] [4] [.fix 0] [.fix 0] (ixX own n c 0) = some (.ret, ixX own n c (-1)) := by kernel_rfl
theorem ixRet (own : Bool) (n : Nat) (c : Nat → Int) (v : Int) : (retA Try.prog Try.f144 (.ret, ixX own n c v)).res = some (vI v, [Ir own n c]) := by kernel_rfl
def idxV (n : Nat) (c : Nat → Int) : Int := match fst? (fun i => !inRg (c i)) n 0 with
  | some k => (k : Int)
  | none => -1
theorem ixSem (own : Bool) (n : Nat) (c : Nat → Int) (hn : n ≤ 1048576) : MemSem Try.prog 144 [SI 0 n, fnB] [Ir own n c] (vI (idxV n c)) [Ir own n c] := by
  have body0 : InBody ((Cr34 Try.prog).into 144 1) (ixB Try.prog) := Or.inl ⟨Try.f144, ixB Try.prog, Try.func144, ixB_eq, fun _ hx => hx⟩
  have hs := scan_loop (C := Cr34 Try.prog) okr34 (f := 144) (B := 1) (m := 60) ixIn.2 (n := n) (by omega) (ixH own n c) (fun i => !inRg (c i)) (fun k => ixX own n c (k : Int)) 0 (ixX own n c 0) fun i _ => ixR own n c i
  have hh := end_rule (C := Cr34 Try.prog) okr34 (f := 144) (B := 1) ixIn.1 (ixHead own n c)
  unfold idxV
  cases hk : fst? (fun i => !inRg (c i)) n 0 with
  | none => exact body_mem (m := [Ir own n c]) (args := [SI 0 n, fnB]) (f := 144) Try.func144 ixB_eq (by kernel_rfl) (seg_rule (C := Cr34 Try.prog) okr34 (f := 144) (B := 1) (k := 1) body0 (ixP own n c) (stmt_rule ixHas (for_rule ixFor hh (hs.2 hk)) (end_rule (C := Cr34 Try.prog) okr34 (f := 144) (B := 1) (bodyOf_in Try.func144 ixB_eq) (ixEnd own n c)))) (ixRet own n c _)
  | some k => exact body_mem (m := [Ir own n c]) (args := [SI 0 n, fnB]) (f := 144) Try.func144 ixB_eq (by kernel_rfl) (seg_rule (C := Cr34 Try.prog) okr34 (f := 144) (B := 1) (k := 1) body0 (ixP own n c) (stmt_out ixHas (for_ret ixFor hh (hs.1 k hk)) (by simp))) (ixRet own n c _)
def isI : List Value → Bool
  | [.int .i64 _] => true
  | _ => false
def okIs (n : Nat) (row : Nat → List Value) : Bool := (List.range n).all fun i => isI (row i)
def iOf (row : Nat → List Value) (i : Nat) : Int := match row i with
  | [.int .i64 v] => v
  | _ => 0
theorem okIs_row (n : Nat) (c : Nat → Int) : okIs n (iRow c) = true := List.all_eq_true.2 fun _ _ => rfl
theorem is_like {n : Nat} {row : Nat → List Value} (h : okIs n row = true) : rowsLike n row (iRow (iOf row)) := by
  intro i hi
  have := List.all_eq_true.1 h i (List.mem_range.2 hi)
  unfold iRow iOf
  unfold isI at this
  split at this
  · rename_i v hx
    simp only [hx]
  · cases this
def idxF : List Value → Mem → Option (Ans (Value × Mem))
  | [.slice (some ⟨0, 0, some 0⟩) N 1, .func (.func 118) f c], [.rows own true 1 N2 row] => match f.toList, c.toList with
    | [], [] => some (.br (Nat.beq N N2 && (okIs N row && decide (N ≤ 1048576))) (.out (vI (idxV N (iOf row)), [.rows own true 1 N (iRow (iOf row))])) .fail)
    | _, _ => none
  | _, _ => none
theorem idxF_ok {args : List Value} {m : Mem} {ans : Ans (Value × Mem)} {v : Value} {m' : Mem} (h : idxF args m = some ans) (hr : ans.res = some (v, m')) : MemSem Try.prog 144 args m v m' := by
  unfold idxF at h
  split at h
  · rename_i N f c own N2 row
    split at h
    · rename_i e1 e2
      have hf : f = #[] := by apply Array.ext'; simpa using e1
      have hc : c = #[] := by apply Array.ext'; simpa using e2
      subst hf hc
      simp only [Option.some.injEq] at h
      subst h
      rcases Ans.br_some hr with ⟨hc, g⟩ | ⟨_, g⟩ <;> clear hr
      rotate_left
      · simp [Ans.res] at g
      simp only [Bool.and_eq_true, decide_eq_true_eq] at hc
      obtain ⟨c1, c2, c3⟩ := hc
      have e1 := Nat.eq_of_beq_eq_true c1
      subst e1
      simp only [Ans.res, Option.some.injEq, Prod.mk.injEq] at g
      obtain ⟨rfl, rfl⟩ := g
      exact MemSem.like (ixSem own N (iOf row) c3) ⟨.rows (is_like c2), trivial⟩
    · cases h
  · cases h
def Cr144 (P : Program) : Cx := (Cr34 P).addM 144 idxF
theorem okr144 : CxOk (Cr144 Try.prog) := Cx.addM_ok okr34 fun _ _ _ _ _ h hr => idxF_ok h hr
def Cr4 (P : Program) : Cx := (Cr144 P).lend 144
theorem okr4 : CxOk (Cr4 Try.prog) := Cx.lend_ok okr144 _
end Go.Proofs.Ytjhijkdicmbbiaa


namespace Go.Proofs.Ytjhijkdicmbbiaa
open Go Vx Go.RowKit
theorem fmT (own : Bool) (n : Nat) (m : Int) (c : Nat → Int) : exT ((Cr4 Try.prog).at 46) 60 Try.f46 [.agg #[vI m, SI 0 n]] [Ir own n c] [.fix 0] = (match fineB m with
  | true => (match (n : Int) == W (m.tdiv 3) with
    | true => gd (Nat.ble (0 + n) n && true) (gd (Nat.beq n n && (okIs n (shiftR 0 (iRow c)) && decide (n ≤ 1048576))) (some (.bool (!decide (idxV n (iOf (shiftR 0 (iRow c))) ≥ 0)), [Ir own n c])))
    | false => some (.bool false, [Ir own n c]))
  | false => some (.bool false, [Ir own n c])) := by kernel_rfl
theorem fmN (m : Int) : exT ((Cr4 Try.prog).at 46) 60 Try.f46 [.agg #[vI m, .slice none 0 0]] [] [] = (match fineB m with
  | true => (match (0 : Int) == W (m.tdiv 3) with
    | true => some (.bool true, [])
    | false => some (.bool false, []))
  | false => some (.bool false, [])) := by kernel_rfl
/-- In form? -/
def frmB (m : Int) (n : Nat) (c : Nat → Int) : Bool := fineB m && ((n : Int) * 3 == m && allR n c)
theorem idx_all (n : Nat) (c : Nat → Int) : (!decide (idxV n c ≥ 0)) = allR n c := by
  unfold idxV
  cases hk : fst? (fun i => !inRg (c i)) n 0 with
  | none =>
    have := fst?_none hk
    rw [show allR n c = true from List.all_eq_true.2 fun i hi => by simpa using this i (by omega) (by simpa using hi)]
    rfl
  | some k =>
    obtain ⟨_, a, b, _⟩ := fst?_some hk
    cases ha : allR n c with
    | false => simp
    | true =>
      have := List.all_eq_true.1 ha k (List.mem_range.2 (by omega))
      simp only [this] at b
      cases b
theorem shift0 (c : Nat → Int) (n : Nat) : okIs n (shiftR 0 (iRow c)) = true ∧ iOf (shiftR 0 (iRow c)) = c := by
  constructor
  · exact List.all_eq_true.2 fun _ _ => rfl
  · funext i
    simp [iOf, shiftR, iRow]
def formF : List Value → Mem → Option (Ans (Value × Mem))
  | [.agg a], m => match a.toList, m with
    | [.int .i64 _, .slice none 0 0], [] => some (.out (.bool false, []))
    | [.int .i64 m, .slice (some ⟨0, 0, some 0⟩) N 1], [.rows own true 1 N2 row] => some (.br (Nat.beq N N2 && okIs N row) (.out (.bool (frmB m N (iOf row)), [.rows own true 1 N row])) .fail)
    | _, _ => none
  | _, _ => none
theorem formF_ok {args : List Value} {m : Mem} {ans : Ans (Value × Mem)} {v : Value} {m' : Mem} (h : formF args m = some ans) (hr : ans.res = some (v, m')) : MemSem Try.prog 46 args m v m' := by
  unfold formF at h
  split at h
  · rename_i m a
    split at h
    · rename_i k e1
      have ha : a = #[.int .i64 k, .slice none 0 0] := by apply Array.ext'; simpa using e1
      subst ha
      simp only [Option.some.injEq] at h
      subst h
      simp only [Ans.res, Option.some.injEq, Prod.mk.injEq] at hr
      obtain ⟨rfl, rfl⟩ := hr
      have ht := fmN k
      cases hf : fineB k with
      | false => rw [hf] at ht; exact exT_ok okr4 Try.func46 (by kernel_rfl) ht
      | true =>
        have hc := fine_cases hf
        have hz : ((0 : Int) == W (k.tdiv 3)) = false := by
          rcases hc with h | h | h | h <;> subst h <;> decide
        rw [hf, hz] at ht
        exact exT_ok okr4 Try.func46 (by kernel_rfl) ht
    · rename_i k N own N2 row e1
      have ha : a = #[.int .i64 k, SI 0 N] := by apply Array.ext'; simpa [SI] using e1
      subst ha
      simp only [Option.some.injEq] at h
      subst h
      rcases Ans.br_some hr with ⟨hc, g⟩ | ⟨_, g⟩ <;> clear hr
      rotate_left
      · simp [Ans.res] at g
      simp only [Bool.and_eq_true] at hc
      obtain ⟨c1, c2⟩ := hc
      have e1 := Nat.eq_of_beq_eq_true c1
      subst e1
      simp only [Ans.res, Option.some.injEq, Prod.mk.injEq] at g
      obtain ⟨rfl, rfl⟩ := g
      have ht := fmT own N k (iOf row)
      have l1 : LikeL [.rows own true 1 N row] [Ir own N (iOf row)] := ⟨.rows (is_like c2), trivial⟩
      have l2 : LikeL [Ir own N (iOf row)] [.rows own true 1 N row] := ⟨.rows fun i hi => (is_like c2 i hi).symm, trivial⟩
      rw [(shift0 (iOf row) N).1, (shift0 (iOf row) N).2, idx_all, Nat.beq_refl, show (Nat.ble (0 + N) N && true) = true by simp [Nat.ble_eq]] at ht
      unfold frmB
      cases hf : fineB k with
      | false => rw [hf] at ht; exact (MemSem.like (exT_ok okr4 Try.func46 (by kernel_rfl) ht) l1).likes l2
      | true =>
        have hc := fine_cases hf
        have hw : W (k.tdiv 3) = ((k.toNat / 3 : Nat) : Int) := by rcases hc with h | h | h | h <;> subst h <;> decide
        rw [hf, hw] at ht
        cases hq : ((N : Int) == ((k.toNat / 3 : Nat) : Int)) with
        | false =>
          rw [hq] at ht
          have h3 : ((N : Int) * 3 == k) = false := by
            simp only [beq_eq_false_iff_ne, ne_eq] at hq ⊢
            omega
          rw [h3]
          exact (MemSem.like (exT_ok okr4 Try.func46 (by kernel_rfl) ht) l1).likes l2
        | true =>
          rw [hq] at ht
          have h3 : ((N : Int) * 3 == k) = true := by
            simp only [beq_iff_eq] at hq ⊢
            omega
          simp only [beq_iff_eq] at hq
          rw [h3, Bool.true_and]
          rw [decide_eq_true (by omega : N ≤ 1048576)] at ht
          simp only [Bool.and_self, gd_true] at ht
          exact (MemSem.like (exT_ok okr4 Try.func46 (by kernel_rfl) ht) l1).likes l2
    · cases h
  · cases h
def Cr46 (P : Program) : Cx := (Cr4 P).addM 46 formF
theorem okr46 : CxOk (Cr46 Try.prog) := Cx.addM_ok okr4 fun _ _ _ _ _ h hr => formF_ok h hr
def Cr5 (P : Program) : Cx := (Cr46 P).lend 46
theorem okr5 : CxOk (Cr5 Try.prog) := Cx.lend_ok okr46 _
def fnB' (P : Program) : Code := bodyOf P 42
theorem fn_eq : Try.f42.body = some (fnB' Try.prog) := by kernel_rfl
def fnS (own : Bool) (n : Nat) (c : Nat → Int) (M m : Int) : St := stOf 48 [(1, vI m), (2, pt 1), (4, pt 2), (5, vI 0)] [Ir own n c, .cells true 0 [vI M, SI 0 n], .cells true 0 [vI 0, .slice none 0 0]]
def fnE (own : Bool) (n : Nat) (c : Nat → Int) (e : Int) : St := stOf 48 [(4, pt 1), (5, vI e)] [Ir own n c, .cells true 0 [vI 0, .slice none 0 0]]
theorem fnP0 (own : Bool) (n : Nat) (c : Nat → Int) (M m : Int) : segR ((Cr5 Try.prog).into 42 1) 60 1 (fnB' Try.prog) [1, 2, 4, 5] [.fix 0, .slot 2, .slot 4] (enter Try.f42 [.agg #[vI M, SI 0 n], vI m] [Ir own n c]) = some (fnS own n c M m) := by kernel_rfl
theorem fnP1 (own : Bool) (n : Nat) (c : Nat → Int) (M m : Int) : roundR ((Cr5 Try.prog).into 42 1) 60 (stmt 1 (fnB' Try.prog)) [1, 2, 4, 5] [4, 5] [.fix 0, .slot 2, .slot 4] [.fix 0, .slot 4] (fnS own n c M m) = (match !fineB m with
  | true => some (.ret, fnE own n c 1)
  | false => some (.normal, fnS own n c M m)) := by kernel_rfl
def lk (k : Nat) : Bool := Nat.ble (0 + k) k && true
theorem fnP3 (own : Bool) (n : Nat) (c : Nat → Int) (M m : Int) : roundR ((Cr5 Try.prog).into 42 1) 60 (stmt 3 (fnB' Try.prog)) [1, 2, 4, 5] [4, 5] [.fix 0, .slot 2, .slot 4] [.fix 0, .slot 4] (fnS own n c M m) = gn (M == 0) (match (m.tmod M != 0) with
  | true => some (.ret, fnE own n c 1)
  | false => some (.normal, fnS own n c M m)) := by kernel_rfl
def fnM (own : Bool) (n d : Nat) (c : Nat → Int) (M m : Int) (f : Nat → List Value) : Mem := [Ir own n c, .cells true 0 [vI M, SI 0 n], .cells true 0 [vI 0, .slice none 0 0], .cells true 0 [vI m, SI 4 d], .rows true true 1 d f]
def fnS4 (own : Bool) (n d : Nat) (c : Nat → Int) (M m : Int) : St := stOf 48 [(1, vI m), (2, pt 1), (4, pt 2), (5, vI 0), (6, pt 3)] (fnM own n d c M m (iRow fun _ => 0))
def fnX (own : Bool) (n d : Nat) (c : Nat → Int) (M m : Int) (f : Nat → List Value) (i : Int) : St := stOf 48 [(1, vI m), (2, pt 1), (4, pt 2), (5, vI 0), (6, pt 3), (29, SI 0 n), (30, vI n), (31, vI i)] (fnM own n d c M m f)
def fnZ (own : Bool) (n d : Nat) (c : Nat → Int) (M m : Int) (f : Nat → List Value) : St := stOf 48 [(4, pt 2), (5, vI 0), (6, pt 3)] (fnM own n d c M m f)
theorem fnP4 (own : Bool) (n : Nat) (c : Nat → Int) (M m : Int) : segR ((Cr5 Try.prog).into 42 1) 60 1 (seqDrop 4 (fnB' Try.prog)) [1, 2, 4, 5, 6] [.fix 0, .slot 2, .slot 4, .slot 6, .cell 4 1] (fnS own n c M m) = gd (mkT (W (m.tdiv 3))) (some (fnS4 own n (W (m.tdiv 3)).toNat c M m)) := by kernel_rfl
theorem fnHead (own : Bool) (n d : Nat) (c : Nat → Int) (M m : Int) : roundR ((Cr5 Try.prog).into 42 1) 60 (forHead (stmt 5 (fnB' Try.prog))) [1, 2, 4, 5, 6, 29, 30, 31] [1, 2, 4, 5, 6, 29, 30, 31] [.fix 0, .slot 2, .slot 4, .slot 6, .cell 3 1] [.fix 0, .slot 2, .slot 4, .slot 6, .cell 3 1] (fnS4 own n d c M m) = some (.normal, fnX own n d c M m (iRow fun _ => 0) 0) := by kernel_rfl
theorem fnR (own : Bool) (n d : Nat) (c f : Nat → Int) (M m i : Int) : roundR ((Cr5 Try.prog).into 42 1) 60 (forBody (stmt 5 (fnB' Try.prog))) [1, 2, 4, 5, 6, 29, 30, 31] [4, 5, 6] [.fix 0, .slot 2, .slot 4, .slot 6, .cell 3 1] [.fix 0, .slot 2, .slot 4, .slot 6, .cell 3 1] (fnX own n d c M m (iRow f) i) = (match decide (i < (n : Int)) with
  | true => gd (boundsI i n) (gn (M == 0) (gd (boundsI (W (i * W (m.tdiv M))) d) (some (.normal, fnX own n d c M m (stR (iRow f) (W (i * W (m.tdiv M))).toNat [.int .i64 (c i.toNat)]) (W (i + 1))))))
  | false => some (.exit 0, fnZ own n d c M m (iRow f))) := by kernel_rfl
end Go.Proofs.Ytjhijkdicmbbiaa


namespace Go.Proofs.Ytjhijkdicmbbiaa
open Go Vx Go.RowKit
theorem fnP2 (own : Bool) (n : Nat) (c : Nat → Int) (M m : Int) : roundR ((Cr5 Try.prog).into 42 1) 60 (stmt 2 (fnB' Try.prog)) [1, 2, 4, 5] [4, 5] [.fix 0, .slot 2, .slot 4] [.fix 0, .slot 4] (fnS own n c M m) = gd (lk n && true) (gd (Nat.beq n n && okIs n (shiftR 0 (iRow c))) (match !frmB M n (iOf (shiftR 0 (iRow c))) with
  | true => some (.ret, fnE own n c 3)
  | false => some (.normal, fnS own n c M m))) := by kernel_rfl
def fnY (own : Bool) (n d : Nat) (c f : Nat → Int) (m : Int) : St := stOf 48 [(4, pt 1), (5, vI 0)] [Ir own n c, .cells true 0 [vI m, SI 2 d], .rows true true 1 d (iRow f)]
theorem fnEnd (own : Bool) (n d : Nat) (c f : Nat → Int) (M m : Int) : roundR ((Cr5 Try.prog).into 42 1) 60 (seqDrop 6 (fnB' Try.prog)) [4, 5] [4, 5] [.fix 0, .slot 4, .cell 2 1] [.fix 0, .slot 4, .cell 2 1] (fnZ own n d c M m (iRow f)) = some (.ret, fnY own n d c f m) := by kernel_rfl
theorem fnRet (own : Bool) (n d : Nat) (c f : Nat → Int) (m : Int) : (retA Try.prog Try.f42 (.ret, fnY own n d c f m)).res = some (rgV m (SI 2 d) 0, [Ir own n c, .cells true 0 [vI m, SI 2 d], .rows true true 1 d (iRow f)]) := by kernel_rfl
theorem fnTidy (own : Bool) (n d : Nat) (c f : Nat → Int) (m : Int) : (tidyA 1 [.fix 0, .cell 1 1] (rgV m (SI 2 d) 0, [Ir own n c, .cells true 0 [vI m, SI 2 d], .rows true true 1 d (iRow f)])).res = some (rgV m (SI 1 d) 0, [Ir own n c, .rows true true 1 d (iRow f)]) := by kernel_rfl
theorem fnRetE (own : Bool) (n : Nat) (c : Nat → Int) (e : Int) : (retA Try.prog Try.f42 (.ret, fnE own n c e)).res = some (rgV 0 (.slice none 0 0) e, [Ir own n c, .cells true 0 [vI 0, .slice none 0 0]]) := by kernel_rfl
theorem fnTidyE (own : Bool) (n : Nat) (c : Nat → Int) (e : Int) : (tidyA 1 [.fix 0] (rgV 0 (.slice none 0 0) e, [Ir own n c, .cells true 0 [vI 0, .slice none 0 0]])).res = some (rgV 0 (.slice none 0 0) e, [Ir own n c]) := by kernel_rfl
theorem fnN (M m : Int) : exT ((Cr5 Try.prog).at 42) 60 Try.f42 [.agg #[vI M, .slice none 0 0], vI m] [] [] = (match !fineB m with
  | true => some (rgV 0 (.slice none 0 0) 1, [])
  | false => some (rgV 0 (.slice none 0 0) 3, [])) := by kernel_rfl
theorem fnFor : isFor 0 (stmt 5 (fnB' Try.prog)) = true := by kernel_rfl
theorem fnHas : hasStmt 1 (fnB' Try.prog) = true ∧ hasStmt 2 (fnB' Try.prog) = true ∧ hasStmt 3 (fnB' Try.prog) = true ∧ hasStmt 5 (fnB' Try.prog) = true := ⟨by kernel_rfl, by kernel_rfl, by kernel_rfl, by kernel_rfl⟩
theorem fnIn : InBody ((Cr5 Try.prog).into 42 1) (forHead (stmt 5 (fnB' Try.prog))) ∧ InBody ((Cr5 Try.prog).into 42 1) (forBody (stmt 5 (fnB' Try.prog))) := for_in (C := Cr5 Try.prog) (f := 42) (B := 1) (id := 0) (k := 5) (fn := Try.f42) (b := fnB' Try.prog) Try.func42 fn_eq fnFor
/-- Among finer powers. -/
def fineG (k : Nat) (c : Nat → Int) (q : Nat) : Int := if q % k = 0 then c (q / k) else 0
def fineP (k : Nat) (c : Nat → Int) (i q : Nat) : Int := if q % k = 0 ∧ q / k < i then c (q / k) else 0
theorem fineP_step (k : Nat) (hk : 1 ≤ k) (c : Nat → Int) (i q : Nat) : putG (fineP k c i) (i * k) (c i) q = fineP k c (i + 1) q := by
  unfold putG fineP
  by_cases h : q = i * k
  · rw [if_pos h]
    subst h
    rw [Nat.mul_mod_left, Nat.mul_div_cancel _ (by omega), if_pos ⟨rfl, by omega⟩]
  · rw [if_neg h]
    by_cases a : q % k = 0 ∧ q / k < i
    · rw [if_pos a, if_pos ⟨a.1, by omega⟩]
    · rw [if_neg a, if_neg]
      rintro ⟨b1, b2⟩
      have e : q = q / k * k := by
        have := Nat.div_add_mod q k
        rw [b1, Nat.mul_comm] at this
        omega
      have : q / k = i := by
        have : ¬ q / k < i := fun hh => a ⟨b1, hh⟩
        omega
      rw [this] at e
      exact h e
theorem fineP_all (k n : Nat) (hk : 1 ≤ k) (c : Nat → Int) (q : Nat) (hq : q < n * k) : fineP k c n q = fineG k c q := by
  unfold fineP fineG
  have : q / k < n := (Nat.div_lt_iff_lt_mul (by omega)).2 hq
  by_cases h : q % k = 0
  · rw [if_pos ⟨h, this⟩, if_pos h]
  · rw [if_neg (fun hh => h hh.1), if_neg h]
theorem fineP_none (k : Nat) (c : Nat → Int) : fineP k c 0 = fun _ => 0 := by
  funext q
  unfold fineP
  rw [if_neg (fun h => absurd h.2 (Nat.not_lt_zero _))]
/-- Up to its loop. -/
theorem fnBody0 {own : Bool} {n : Nat} {c : Nat → Int} {M m : Int} {e : Exit} {s : St} (h : CodeSem Try.prog 1 (seqDrop 1 (fnB' Try.prog)) (fnS own n c M m) e s) : CodeSem Try.prog 1 (fnB' Try.prog) (enter Try.f42 [.agg #[vI M, SI 0 n], vI m] [Ir own n c]) e s :=
  seg_rule (C := Cr5 Try.prog) okr5 (f := 42) (B := 1) (k := 1) (Or.inl ⟨Try.f42, fnB' Try.prog, Try.func42, fn_eq, fun _ hx => hx⟩) (fnP0 own n c M m) h
theorem fnErr {own : Bool} {n : Nat} {c : Nat → Int} {M m e : Int} (h : CodeSem Try.prog 1 (seqDrop 1 (fnB' Try.prog)) (fnS own n c M m) .ret (fnE own n c e)) : MemSem Try.prog 42 [.agg #[vI M, SI 0 n], vI m] [Ir own n c] (rgV 0 (.slice none 0 0) e) [Ir own n c] :=
  (body_mem (m := [Ir own n c]) (args := [.agg #[vI M, SI 0 n], vI m]) (f := 42) Try.func42 fn_eq (by kernel_rfl) (fnBody0 h) (fnRetE own n c e)).tidy (fnTidyE own n c e)
theorem fn1 (own : Bool) (n : Nat) (c : Nat → Int) (M m : Int) (h : fineB m = false) : MemSem Try.prog 42 [.agg #[vI M, SI 0 n], vI m] [Ir own n c] (rgV 0 (.slice none 0 0) 1) [Ir own n c] := by
  have r := fnP1 own n c M m
  rw [h] at r
  exact fnErr (stmt_out fnHas.1 (end_rule' (C := Cr5 Try.prog) okr5 (f := 42) (B := 1) (stmt_in Try.func42 fn_eq) r) (by simp))
theorem fnTo2 {own : Bool} {n : Nat} {c : Nat → Int} {M m : Int} (h : fineB m = true) {e : Exit} {s : St} (hc : CodeSem Try.prog 1 (seqDrop 2 (fnB' Try.prog)) (fnS own n c M m) e s) : CodeSem Try.prog 1 (seqDrop 1 (fnB' Try.prog)) (fnS own n c M m) e s := by
  have r := fnP1 own n c M m
  rw [h] at r
  exact stmt_rule fnHas.1 (end_rule' (C := Cr5 Try.prog) okr5 (f := 42) (B := 1) (stmt_in Try.func42 fn_eq) r) hc
theorem fnP2' (own : Bool) (n : Nat) (c : Nat → Int) (M m : Int) : roundR ((Cr5 Try.prog).into 42 1) 60 (stmt 2 (fnB' Try.prog)) [1, 2, 4, 5] [4, 5] [.fix 0, .slot 2, .slot 4] [.fix 0, .slot 4] (fnS own n c M m) = (match !frmB M n c with
  | true => some (.ret, fnE own n c 3)
  | false => some (.normal, fnS own n c M m)) := by
  have r := fnP2 own n c M m
  rw [(shift0 c n).1, (shift0 c n).2, Nat.beq_refl, show (lk n && true) = true by unfold lk; simp [Nat.ble_eq]] at r
  simp only [Bool.and_self, gd_true] at r
  exact r
theorem fn2 (own : Bool) (n : Nat) (c : Nat → Int) (M m : Int) (h : fineB m = true) (h2 : frmB M n c = false) : MemSem Try.prog 42 [.agg #[vI M, SI 0 n], vI m] [Ir own n c] (rgV 0 (.slice none 0 0) 3) [Ir own n c] := by
  have r := fnP2' own n c M m
  rw [h2] at r
  exact fnErr (fnTo2 h (stmt_out fnHas.2.1 (end_rule' (C := Cr5 Try.prog) okr5 (f := 42) (B := 1) (stmt_in Try.func42 fn_eq) r) (by simp)))
theorem fnTo3 {own : Bool} {n : Nat} {c : Nat → Int} {M m : Int} (h : fineB m = true) (h2 : frmB M n c = true) {e : Exit} {s : St} (hc : CodeSem Try.prog 1 (seqDrop 3 (fnB' Try.prog)) (fnS own n c M m) e s) : CodeSem Try.prog 1 (seqDrop 1 (fnB' Try.prog)) (fnS own n c M m) e s := by
  have r := fnP2' own n c M m
  rw [h2] at r
  exact fnTo2 h (stmt_rule fnHas.2.1 (end_rule' (C := Cr5 Try.prog) okr5 (f := 42) (B := 1) (stmt_in Try.func42 fn_eq) r) hc)
theorem frm_fine {M : Int} {n : Nat} {c : Nat → Int} (h : frmB M n c = true) : fineB M = true ∧ M = ((3 * n : Nat) : Int) ∧ allR n c = true := by
  unfold frmB at h
  simp only [Bool.and_eq_true, beq_iff_eq] at h
  exact ⟨h.1, by omega, h.2.2⟩
theorem fn3 (own : Bool) (n : Nat) (c : Nat → Int) (M m : Int) (h : fineB m = true) (h2 : frmB M n c = true) (h3 : (m % M == 0) = false) : MemSem Try.prog 42 [.agg #[vI M, SI 0 n], vI m] [Ir own n c] (rgV 0 (.slice none 0 0) 1) [Ir own n c] := by
  have r := fnP3 own n c M m
  have hM := fine_cases (frm_fine h2).1
  have hm := fine_cases h
  rw [show (M == 0) = false by simp; omega, show (m.tmod M != 0) = true by rw [Int.tmod_eq_emod_of_nonneg (by omega)]; simpa using h3] at r
  simp only [gn] at r
  exact fnErr (fnTo3 h h2 (stmt_out fnHas.2.2.1 (end_rule' (C := Cr5 Try.prog) okr5 (f := 42) (B := 1) (stmt_in Try.func42 fn_eq) r) (by simp)))
theorem fn4 (own : Bool) (n : Nat) (c : Nat → Int) (M m : Int) (h : fineB m = true) (h2 : frmB M n c = true) (h3 : (m % M == 0) = true) : MemSem Try.prog 42 [.agg #[vI M, SI 0 n], vI m] [Ir own n c] (rgV m (SI 1 (m.toNat / 3)) 0) [Ir own n c, .rows true true 1 (m.toNat / 3) (iRow (fineG (m.toNat / M.toNat) c))] := by
  have r3 := fnP3 own n c M m
  obtain ⟨f1, f2, f3⟩ := frm_fine h2
  have hM := fine_cases f1
  have hm := fine_cases h
  rw [show (M == 0) = false by simp; omega, show (m.tmod M != 0) = false by rw [Int.tmod_eq_emod_of_nonneg (by omega)]; simpa using h3] at r3
  simp only [gn] at r3
  have r4 := fnP4 own n c M m
  have e1 : W (m.tdiv 3) = ((m.toNat / 3 : Nat) : Int) := by rw [show m = ((3 * (m.toNat / 3) : Nat) : Int) by omega, tdiv3, W_in (by omega)]; omega
  rw [e1, show mkT ((m.toNat / 3 : Nat) : Int) = true by unfold mkT; simp; omega] at r4
  simp only [gd_true, Int.toNat_natCast] at r4
  generalize hd : m.toNat / 3 = d at *
  obtain ⟨k, hk⟩ : ∃ k, k = m.toNat / M.toNat := ⟨_, rfl⟩
  have hmk : m.toNat = M.toNat * k ∧ 1 ≤ k ∧ k ≤ 8 := by
    simp only [beq_iff_eq] at h3
    rcases hM with a | a | a | a <;> rcases hm with b | b | b | b <;> subst a b <;> simp at h3 hk ⊢ <;> omega
  have hdk : d = n * k := by
    have : M.toNat = 3 * n := by omega
    rw [← hd, hmk.1, this, Nat.mul_assoc, Nat.mul_div_cancel_left _ (by omega)]
  have hq : W (m.tdiv M) = (k : Int) := by
    rw [show m = ((m.toNat : Nat) : Int) by omega, show M = ((M.toNat : Nat) : Int) by omega, Int.tdiv_eq_ediv_of_nonneg (by omega)]
    rw [show ((m.toNat : Nat) : Int) / ((M.toNat : Nat) : Int) = ((m.toNat / M.toNat : Nat) : Int) by simp, ← hk, W_in (by omega)]
  rw [← hk]
  have hn : n ≤ 64 := by omega
  have hr : ∀ i, i < n → ∃ s, roundR ((Cr5 Try.prog).into 42 1) 60 (forBody (stmt 5 (fnB' Try.prog))) [1, 2, 4, 5, 6, 29, 30, 31] [4, 5, 6] [.fix 0, .slot 2, .slot 4, .slot 6, .cell 3 1] [.fix 0, .slot 2, .slot 4, .slot 6, .cell 3 1] (fnX own n d c M m (iRow (fineP k c i)) (i : Int)) = some (.normal, s) ∧ StLike s (fnX own n d c M m (iRow (fineP k c (i + 1))) ((i + 1 : Nat) : Int)) := fun i hi => by
    have r := fnR own n d c (fineP k c i) M m i
    have hik : i * k < d := by rw [hdk]; exact (Nat.mul_lt_mul_right (by omega)).2 hi
    have hd2 : d ≤ 64 := by omega
    rw [show decide ((i : Int) < (n : Int)) = true by simp; omega, boundsI_ok (n := n) (i := (i : Int)) (by omega), show (M == 0) = false by simp; omega, hq, show (i : Int) * (k : Int) = ((i * k : Nat) : Int) by simp, W_in (n := ((i * k : Nat) : Int)) (by omega), boundsI_ok (n := d) (i := ((i * k : Nat) : Int)) (by omega)] at r
    simp only [gd_true, gn, Int.toNat_natCast] at r
    refine ⟨_, r, ?_⟩
    rw [show W ((i : Int) + 1) = ((i + 1 : Nat) : Int) by rw [W_in (by omega)]; simp]
    refine ⟨rfl, .refl _, .refl _, .refl _, .refl _, .rows fun q _ => ?_, trivial⟩
    rw [stR_i]
    simp only [iRow, fineP_step k hmk.2.1]
  have hE := fnR own n d c (fineP k c n) M m n
  rw [show decide ((n : Int) < (n : Int)) = false by simp] at hE
  have hl := run_loop (C := Cr5 Try.prog) okr5 (f := 42) (B := 1) (m := 60) fnIn.2 (by simp) n (fun i => fnX own n d c M m (iRow (fineP k c i)) (i : Int)) hr hE
  rw [fineP_none] at hl
  have hh := end_rule (C := Cr5 Try.prog) okr5 (f := 42) (B := 1) fnIn.1 (fnHead own n d c M m)
  have c5 := stmt_rule fnHas.2.2.2 (for_rule fnFor hh hl) (end_rule (C := Cr5 Try.prog) okr5 (f := 42) (B := 1) (bodyOf_in Try.func42 fn_eq) (fnEnd own n d c (fineP k c n) M m))
  have c4 := seg_rule (C := Cr5 Try.prog) okr5 (f := 42) (B := 1) (k := 1) (bodyOf_in Try.func42 fn_eq) r4 (by rw [seqDrop_drop]; exact c5)
  have c3 := fnTo3 h h2 (stmt_rule fnHas.2.2.1 (end_rule' (C := Cr5 Try.prog) okr5 (f := 42) (B := 1) (stmt_in Try.func42 fn_eq) r3) c4)
  have s1 := (body_mem (m := [Ir own n c]) (args := [.agg #[vI M, SI 0 n], vI m]) (f := 42) Try.func42 fn_eq (by kernel_rfl) (fnBody0 c3) (fnRet own n d c (fineP k c n) m)).tidy (fnTidy own n d c (fineP k c n) m)
  refine s1.likes ⟨.refl _, .rows fun q hq => ?_, trivial⟩
  simp only [iRow, fineP_all k n hmk.2.1 c q (by omega)]
def finerF : List Value → Mem → Option (Ans (Value × Mem))
  | [.agg a, .int .i64 m], mm => match a.toList, mm with
    | [.int .i64 _, .slice none 0 0], [] => some (.br (fineB m) (.out (rgV 0 (.slice none 0 0) 3, [])) (.out (rgV 0 (.slice none 0 0) 1, [])))
    | [.int .i64 M, .slice (some ⟨0, 0, some 0⟩) N 1], [.rows own true 1 N2 row] => some (.br (Nat.beq N N2 && okIs N row) (.br (fineB m) (.br (frmB M N (iOf row)) (.br (m % M == 0) (.out (rgV m (SI 1 (m.toNat / 3)) 0, [.rows own true 1 N row, .rows true true 1 (m.toNat / 3) (iRow (fineG (m.toNat / M.toNat) (iOf row)))])) (.out (rgV 0 (.slice none 0 0) 1, [.rows own true 1 N row]))) (.out (rgV 0 (.slice none 0 0) 3, [.rows own true 1 N row]))) (.out (rgV 0 (.slice none 0 0) 1, [.rows own true 1 N row]))) .fail)
    | _, _ => none
  | _, _ => none
theorem finerF_ok {args : List Value} {m : Mem} {ans : Ans (Value × Mem)} {v : Value} {m' : Mem} (h : finerF args m = some ans) (hr : ans.res = some (v, m')) : MemSem Try.prog 42 args m v m' := by
  unfold finerF at h
  split at h
  · rename_i mm a m
    split at h
    · rename_i k e1
      have ha : a = #[.int .i64 k, .slice none 0 0] := by apply Array.ext'; simpa using e1
      subst ha
      simp only [Option.some.injEq] at h
      subst h
      have ht := fnN k m
      rcases Ans.br_some hr with ⟨hf, g⟩ | ⟨hf, g⟩ <;> clear hr <;> simp only [Ans.res, Option.some.injEq, Prod.mk.injEq] at g <;> obtain ⟨rfl, rfl⟩ := g <;> rw [hf] at ht <;> exact exT_ok okr5 Try.func42 (by kernel_rfl) ht
    · rename_i M N own N2 row e1
      have ha : a = #[.int .i64 M, SI 0 N] := by apply Array.ext'; simpa [SI] using e1
      subst ha
      simp only [Option.some.injEq] at h
      subst h
      rcases Ans.br_some hr with ⟨hc, g⟩ | ⟨_, g⟩ <;> clear hr
      rotate_left
      · simp [Ans.res] at g
      simp only [Bool.and_eq_true] at hc
      obtain ⟨c1, c2⟩ := hc
      have e1 := Nat.eq_of_beq_eq_true c1
      subst e1
      have l1 : LikeL [.rows own true 1 N row] [Ir own N (iOf row)] := ⟨.rows (is_like c2), trivial⟩
      have l2 : LikeL [Ir own N (iOf row)] [.rows own true 1 N row] := ⟨.rows fun i hi => (is_like c2 i hi).symm, trivial⟩
      rcases Ans.br_some g with ⟨h1, g1⟩ | ⟨h1, g1⟩ <;> clear g
      · rcases Ans.br_some g1 with ⟨h2, g2⟩ | ⟨h2, g2⟩ <;> clear g1
        · rcases Ans.br_some g2 with ⟨h3, g3⟩ | ⟨h3, g3⟩ <;> clear g2 <;> simp only [Ans.res, Option.some.injEq, Prod.mk.injEq] at g3 <;> obtain ⟨rfl, rfl⟩ := g3
          · exact (MemSem.like (fn4 own N (iOf row) M m h1 h2 h3) l1).likes ⟨.rows fun i hi => (is_like c2 i hi).symm, .refl _, trivial⟩
          · exact (MemSem.like (fn3 own N (iOf row) M m h1 h2 h3) l1).likes l2
        · simp only [Ans.res, Option.some.injEq, Prod.mk.injEq] at g2
          obtain ⟨rfl, rfl⟩ := g2
          exact (MemSem.like (fn2 own N (iOf row) M m h1 h2) l1).likes l2
      · simp only [Ans.res, Option.some.injEq, Prod.mk.injEq] at g1
        obtain ⟨rfl, rfl⟩ := g1
        exact (MemSem.like (fn1 own N (iOf row) M m h1) l1).likes l2
    · cases h
  · cases h
def Cr42 (P : Program) : Cx := (Cr5 P).addM 42 finerF
theorem okr42 : CxOk (Cr42 Try.prog) := Cx.addM_ok okr5 fun _ _ _ _ _ h hr => finerF_ok h hr
def Cr6 (P : Program) : Cx := (Cr42 P).lend 42
theorem okr6 : CxOk (Cr6 Try.prog) := Cx.lend_ok okr42 _
end Go.Proofs.Ytjhijkdicmbbiaa


namespace Go.Proofs.Ytjhijkdicmbbiaa
open Go Vx Go.RowKit
def Cz0 (P : Program) : Cx := (Cr6 P).road 42 [true, true, true, true, true]
theorem okz0 : CxOk (Cz0 Try.prog) := Cx.road_ok okr6 _ _
def mx (a b : Int) : Int := if b > a then b else a
def lk2 (n : Nat) : Bool := Nat.ble (0 + n) n && true && true
def tI (n : Nat) (row : Nat → List Value) : Bool := Nat.beq n n && okIs n row
def sI (c : Nat → Int) : Nat → List Value := shiftR 0 (iRow c)
def sII (c : Nat → Int) : Nat → List Value := shiftR 0 (shiftR 0 (iRow c))
def alE : Value := .tuple #[.agg #[vI 0, .slice none 0 0], .agg #[vI 0, .slice none 0 0], vI 3]
def alV (m : Int) (a b d : Nat) : Value := .tuple #[.agg #[vI m, SI a d], .agg #[vI m, SI b d], vI 0]
theorem alT (n1 n2 : Nat) (o1 o2 : Bool) (M1 M2 : Int) (c1 c2 : Nat → Int) : exT ((Cz0 Try.prog).at 98) 60 Try.f98 [.agg #[vI M1, SI 0 n1], .agg #[vI M2, SI 1 n2]] [Ir o1 n1 c1, Ir o2 n2 c2] [.fix 0, .fix 1, .cell 4 1, .cell 5 1] =
  gd (lk2 n1) (gd (tI n1 (sI c1)) (match !frmB M1 n1 (iOf (sI c1)) with
  | true => some (alE, [Ir o1 n1 c1, Ir o2 n2 c2, .no, .no])
  | false => gd (lk2 n2) (gd (tI n2 (sI c2)) (match !frmB M2 n2 (iOf (sI c2)) with
    | true => some (alE, [Ir o1 n1 c1, Ir o2 n2 c2, .no, .no])
    | false => gd (lk2 n1) (gd (lk2 n1) (gd (tI n1 (sII c1)) (gd (fineB (mx M1 M2)) (gd (frmB M1 n1 (iOf (sII c1))) (gd (mx M1 M2 % M1 == 0) (gd (lk2 n2) (gd (lk2 n2) (gd (tI n2 (sII c2)) (gd (fineB (mx M1 M2)) (gd (frmB M2 n2 (iOf (sII c2))) (gd (mx M1 M2 % M2 == 0)
      (some (alV (mx M1 M2) 2 3 ((mx M1 M2).toNat / 3), [Ir o1 n1 c1, Ir o2 n2 c2, .rows true true 1 ((mx M1 M2).toNat / 3) (iRow (fineG ((mx M1 M2).toNat / M1.toNat) (iOf (sII c1)))), .rows true true 1 ((mx M1 M2).toNat / 3) (iRow (fineG ((mx M1 M2).toNat / M2.toNat) (iOf (sII c2))))]))))))))))))))))) := by kernel_rfl
theorem alNL (n2 : Nat) (o2 : Bool) (M1 M2 : Int) (c2 : Nat → Int) : exT ((Cz0 Try.prog).at 98) 60 Try.f98 [.agg #[vI M1, .slice none 0 0], .agg #[vI M2, SI 0 n2]] [Ir o2 n2 c2] [.fix 0] = some (alE, [Ir o2 n2 c2]) := by kernel_rfl
theorem alNN (M1 M2 : Int) : exT ((Cz0 Try.prog).at 98) 60 Try.f98 [.agg #[vI M1, .slice none 0 0], .agg #[vI M2, .slice none 0 0]] [] [] = some (alE, []) := by kernel_rfl
theorem alLN (n1 : Nat) (o1 : Bool) (M1 M2 : Int) (c1 : Nat → Int) : exT ((Cz0 Try.prog).at 98) 60 Try.f98 [.agg #[vI M1, SI 0 n1], .agg #[vI M2, .slice none 0 0]] [Ir o1 n1 c1] [.fix 0] = gd (lk2 n1) (gd (tI n1 (sI c1)) (match !frmB M1 n1 (iOf (sI c1)) with
  | true => some (alE, [Ir o1 n1 c1])
  | false => some (alE, [Ir o1 n1 c1]))) := by kernel_rfl
theorem lk2_ok (n : Nat) : lk2 n = true := by unfold lk2; simp [Nat.ble_eq]
theorem sII_ok (c : Nat → Int) (n : Nat) : tI n (sII c) = true ∧ iOf (sII c) = c := by
  constructor
  · unfold tI
    rw [Nat.beq_refl]
    exact List.all_eq_true.2 fun _ _ => rfl
  · funext i
    simp [iOf, sII, shiftR, iRow]
theorem sI_ok (c : Nat → Int) (n : Nat) : tI n (sI c) = true ∧ iOf (sI c) = c := by
  refine ⟨?_, (shift0 c n).2⟩
  unfold tI
  rw [Nat.beq_refl]
  exact (shift0 c n).1
theorem mx_ok {M1 M2 : Int} (h1 : fineB M1 = true) (h2 : fineB M2 = true) : fineB (mx M1 M2) = true ∧ (mx M1 M2 % M1 == 0) = true ∧ (mx M1 M2 % M2 == 0) = true := by
  rcases fine_cases h1 with a | a | a | a <;> rcases fine_cases h2 with b | b | b | b <;> subst a b <;> decide
def alikeF : List Value → Mem → Option (Ans (Value × Mem))
  | [.agg a, .agg b], mm => match a.toList, b.toList, mm with
    | [.int .i64 _, .slice none 0 0], [.int .i64 _, .slice none 0 0], [] => some (.out (alE, []))
    | [.int .i64 _, .slice none 0 0], [.int .i64 _, .slice (some ⟨0, 0, some 0⟩) N 1], [.rows own true 1 N2 row] => some (.br (Nat.beq N N2 && okIs N row) (.out (alE, [.rows own true 1 N row])) .fail)
    | [.int .i64 _, .slice (some ⟨0, 0, some 0⟩) N 1], [.int .i64 _, .slice none 0 0], [.rows own true 1 N2 row] => some (.br (Nat.beq N N2 && okIs N row) (.out (alE, [.rows own true 1 N row])) .fail)
    | [.int .i64 M1, .slice (some ⟨0, 0, some 0⟩) N 1], [.int .i64 M2, .slice (some ⟨1, 0, some 0⟩) K 1], [.rows own true 1 N2 row, .rows own2 true 1 K2 row2] => some (.br (Nat.beq N N2 && (okIs N row && (Nat.beq K K2 && okIs K row2))) (.br (frmB M1 N (iOf row)) (.br (frmB M2 K (iOf row2))
        (.out (alV (mx M1 M2) 2 3 ((mx M1 M2).toNat / 3), [.rows own true 1 N row, .rows own2 true 1 K row2, .rows true true 1 ((mx M1 M2).toNat / 3) (iRow (fineG ((mx M1 M2).toNat / M1.toNat) (iOf row))), .rows true true 1 ((mx M1 M2).toNat / 3) (iRow (fineG ((mx M1 M2).toNat / M2.toNat) (iOf row2)))]))
        (.out (alE, [.rows own true 1 N row, .rows own2 true 1 K row2, .no, .no]))) (.out (alE, [.rows own true 1 N row, .rows own2 true 1 K row2, .no, .no]))) .fail)
    | _, _, _ => none
  | _, _ => none
theorem alikeF_ok {args : List Value} {m : Mem} {ans : Ans (Value × Mem)} {v : Value} {m' : Mem} (h : alikeF args m = some ans) (hr : ans.res = some (v, m')) : MemSem Try.prog 98 args m v m' := by
  unfold alikeF at h
  split at h
  · rename_i mm a b
    split at h
    · rename_i M1 M2 e1 e2
      have ha : a = #[vI M1, .slice none 0 0] := by apply Array.ext'; simpa [vI] using e1
      have hb : b = #[vI M2, .slice none 0 0] := by apply Array.ext'; simpa [vI] using e2
      subst ha hb
      simp only [Option.some.injEq] at h
      subst h
      simp only [Ans.res, Option.some.injEq, Prod.mk.injEq] at hr
      obtain ⟨rfl, rfl⟩ := hr
      exact exT_ok okz0 Try.func98 (by kernel_rfl) (alNN M1 M2)
    · rename_i M1 M2 N own N2 row e1 e2
      have ha : a = #[vI M1, .slice none 0 0] := by apply Array.ext'; simpa [vI] using e1
      have hb : b = #[vI M2, SI 0 N] := by apply Array.ext'; simpa [SI, vI] using e2
      subst ha hb
      simp only [Option.some.injEq] at h
      subst h
      rcases Ans.br_some hr with ⟨hc, g⟩ | ⟨_, g⟩ <;> clear hr
      rotate_left
      · simp [Ans.res] at g
      simp only [Bool.and_eq_true] at hc
      have e1 := Nat.eq_of_beq_eq_true hc.1
      subst e1
      simp only [Ans.res, Option.some.injEq, Prod.mk.injEq] at g
      obtain ⟨rfl, rfl⟩ := g
      have l1 : LikeL [.rows own true 1 N row] [Ir own N (iOf row)] := ⟨.rows (is_like hc.2), trivial⟩
      exact (MemSem.like (exT_ok okz0 Try.func98 (by kernel_rfl) (alNL N own M1 M2 (iOf row))) l1).likes ⟨.rows fun i hi => (is_like hc.2 i hi).symm, trivial⟩
    · rename_i M1 N M2 own N2 row e1 e2
      have ha : a = #[vI M1, SI 0 N] := by apply Array.ext'; simpa [SI, vI] using e1
      have hb : b = #[vI M2, .slice none 0 0] := by apply Array.ext'; simpa [vI] using e2
      subst ha hb
      simp only [Option.some.injEq] at h
      subst h
      rcases Ans.br_some hr with ⟨hc, g⟩ | ⟨_, g⟩ <;> clear hr
      rotate_left
      · simp [Ans.res] at g
      simp only [Bool.and_eq_true] at hc
      have e1 := Nat.eq_of_beq_eq_true hc.1
      subst e1
      simp only [Ans.res, Option.some.injEq, Prod.mk.injEq] at g
      obtain ⟨rfl, rfl⟩ := g
      have ht := alLN N own M1 M2 (iOf row)
      rw [lk2_ok, (sI_ok _ N).1, (sI_ok _ N).2] at ht
      simp only [gd_true] at ht
      have ht2 : exT ((Cz0 Try.prog).at 98) 60 Try.f98 [.agg #[vI M1, SI 0 N], .agg #[vI M2, .slice none 0 0]] [Ir own N (iOf row)] [.fix 0] = some (alE, [Ir own N (iOf row)]) := by
        rw [ht]
        cases frmB M1 N (iOf row) <;> rfl
      have l1 : LikeL [.rows own true 1 N row] [Ir own N (iOf row)] := ⟨.rows (is_like hc.2), trivial⟩
      exact (MemSem.like (exT_ok okz0 Try.func98 (by kernel_rfl) ht2) l1).likes ⟨.rows fun i hi => (is_like hc.2 i hi).symm, trivial⟩
    · rename_i M1 N M2 K own N2 row own2 K2 row2 e1 e2
      have ha : a = #[vI M1, SI 0 N] := by apply Array.ext'; simpa [SI, vI] using e1
      have hb : b = #[vI M2, SI 1 K] := by apply Array.ext'; simpa [SI, vI] using e2
      subst ha hb
      simp only [Option.some.injEq] at h
      subst h
      rcases Ans.br_some hr with ⟨hc, g⟩ | ⟨_, g⟩ <;> clear hr
      rotate_left
      · simp [Ans.res] at g
      simp only [Bool.and_eq_true] at hc
      obtain ⟨c1, c2, c3, c4⟩ := hc
      have e1 := Nat.eq_of_beq_eq_true c1
      have e2 := Nat.eq_of_beq_eq_true c3
      subst e1 e2
      have l1 : LikeL [.rows own true 1 N row, .rows own2 true 1 K row2] [Ir own N (iOf row), Ir own2 K (iOf row2)] := ⟨.rows (is_like c2), .rows (is_like c4), trivial⟩
      have b1 : Like (Ir own N (iOf row)) (.rows own true 1 N row) := .rows fun i hi => (is_like c2 i hi).symm
      have b2 : Like (Ir own2 K (iOf row2)) (.rows own2 true 1 K row2) := .rows fun i hi => (is_like c4 i hi).symm
      have ht := alT N K own own2 M1 M2 (iOf row) (iOf row2)
      rw [lk2_ok, lk2_ok, (sI_ok _ N).1, (sI_ok _ N).2, (sI_ok _ K).1, (sI_ok _ K).2, (sII_ok _ N).1, (sII_ok _ N).2, (sII_ok _ K).1, (sII_ok _ K).2] at ht
      simp only [gd_true] at ht
      rcases Ans.br_some g with ⟨h1, g1⟩ | ⟨h1, g1⟩ <;> clear g
      · rcases Ans.br_some g1 with ⟨h2, g2⟩ | ⟨h2, g2⟩ <;> clear g1 <;> simp only [Ans.res, Option.some.injEq, Prod.mk.injEq] at g2 <;> obtain ⟨rfl, rfl⟩ := g2
        · obtain ⟨q1, q2, q3⟩ := mx_ok (frm_fine h1).1 (frm_fine h2).1
          rw [h1, h2, q1, q2, q3] at ht
          exact (MemSem.like (exT_ok okz0 Try.func98 (by kernel_rfl) ht) l1).likes ⟨b1, b2, .refl _, .refl _, trivial⟩
        · rw [h1, h2] at ht
          exact (MemSem.like (exT_ok okz0 Try.func98 (by kernel_rfl) ht) l1).likes ⟨b1, b2, .refl _, .refl _, trivial⟩
      · simp only [Ans.res, Option.some.injEq, Prod.mk.injEq] at g1
        obtain ⟨rfl, rfl⟩ := g1
        rw [h1] at ht
        exact (MemSem.like (exT_ok okz0 Try.func98 (by kernel_rfl) ht) l1).likes ⟨b1, b2, .refl _, .refl _, trivial⟩
    · cases h
  · cases h
def Cr98 (P : Program) : Cx := (Cr6 P).addM 98 alikeF
theorem okr98 : CxOk (Cr98 Try.prog) := Cx.addM_ok okr6 fun _ _ _ _ _ h hr => alikeF_ok h hr
def Cr7 (P : Program) : Cx := (Cr98 P).lend 98
theorem okr7 : CxOk (Cr7 Try.prog) := Cx.lend_ok okr98 _
end Go.Proofs.Ytjhijkdicmbbiaa


namespace Go.Proofs.Ytjhijkdicmbbiaa
open Go Vx Go.RowKit
def CaT (P : Program) : Cx := (Cr7 P).road 98 [true, true, true, true]
theorem okaT : CxOk (CaT Try.prog) := Cx.road_ok okr7 _ _
def CaF (P : Program) : Cx := (Cr7 P).road 98 [true, true, false]
theorem okaF : CxOk (CaF Try.prog) := Cx.road_ok okr7 _ _
def CaG (P : Program) : Cx := (Cr7 P).road 98 [true, true, true, false]
theorem okaG : CxOk (CaG Try.prog) := Cx.road_ok okr7 _ _
def adB (P : Program) : Code := bodyOf P 22
theorem ad_eq : Try.f22.body = some (adB Try.prog) := by kernel_rfl
def SWb (b n : Nat) : Value := .slice (some ⟨b, 0, some 0⟩) n 2
def lk3 (n1 n2 : Nat) : Bool := Nat.ble (0 + n1) n1 && true && (Nat.ble (0 + n2) n2 && true && true)
def tII (n1 n2 : Nat) (r1 r2 : Nat → List Value) : Bool := Nat.beq n1 n1 && (okIs n1 r1 && (Nat.beq n2 n2 && okIs n2 r2))
def rgE (e : Int) : Value := rgV 0 (.slice none 0 0) e
theorem adF (n1 n2 : Nat) (o1 o2 : Bool) (M1 M2 : Int) (c1 c2 : Nat → Int) : exT ((CaF Try.prog).at 22) 60 Try.f22 [.agg #[vI M1, SI 0 n1], .agg #[vI M2, SI 1 n2]] [Ir o1 n1 c1, Ir o2 n2 c2] [.fix 0, .fix 1] = gd (lk3 n1 n2) (gd (lk3 n1 n2) (gd (tII n1 n2 (sII c1) (sII c2)) (gn (frmB M1 n1 (iOf (sII c1))) (some (rgE 3, [Ir o1 n1 c1, Ir o2 n2 c2]))))) := by kernel_rfl
theorem adG (n1 n2 : Nat) (o1 o2 : Bool) (M1 M2 : Int) (c1 c2 : Nat → Int) : exT ((CaG Try.prog).at 22) 60 Try.f22 [.agg #[vI M1, SI 0 n1], .agg #[vI M2, SI 1 n2]] [Ir o1 n1 c1, Ir o2 n2 c2] [.fix 0, .fix 1] = gd (lk3 n1 n2) (gd (lk3 n1 n2) (gd (tII n1 n2 (sII c1) (sII c2)) (gd (frmB M1 n1 (iOf (sII c1))) (gn (frmB M2 n2 (iOf (sII c2))) (some (rgE 3, [Ir o1 n1 c1, Ir o2 n2 c2])))))) := by kernel_rfl
theorem adNL (n2 : Nat) (o2 : Bool) (M1 M2 : Int) (c2 : Nat → Int) : exT ((Cr7 Try.prog).at 22) 60 Try.f22 [.agg #[vI M1, .slice none 0 0], .agg #[vI M2, SI 0 n2]] [Ir o2 n2 c2] [.fix 0] = gd (lk2 n2) (gd (tI n2 (sI c2)) (some (rgE 3, [Ir o2 n2 c2]))) := by kernel_rfl
theorem adLN (n2 : Nat) (o2 : Bool) (M1 M2 : Int) (c2 : Nat → Int) : exT ((Cr7 Try.prog).at 22) 60 Try.f22 [.agg #[vI M1, SI 0 n2], .agg #[vI M2, .slice none 0 0]] [Ir o2 n2 c2] [.fix 0] = gd (lk2 n2) (gd (tI n2 (sI c2)) (some (rgE 3, [Ir o2 n2 c2]))) := by kernel_rfl
theorem adNN (M1 M2 : Int) : exT ((Cr7 Try.prog).at 22) 60 Try.f22 [.agg #[vI M1, .slice none 0 0], .agg #[vI M2, .slice none 0 0]] [] [] = some (rgE 3, []) := by kernel_rfl
def adM (n1 n2 d : Nat) (o1 o2 : Bool) (c1 c2 a b : Nat → Int) (m : Int) (g : Nat → List Value) : Mem := [Ir o1 n1 c1, Ir o2 n2 c2, .cells true 0 [vI m, SI 5 d], .cells true 0 [vI m, SI 6 d], .cells true 0 [vI 0, .slice none 0 0], Ir true d a, Ir true d b, .rows true true 2 d g]
def adS (n1 n2 d : Nat) (o1 o2 : Bool) (c1 c2 a b : Nat → Int) (m : Int) : St := stOf 52 [(2, pt 2), (3, pt 3), (4, pt 4), (5, vI 0), (7, SWb 7 d)] (adM n1 n2 d o1 o2 c1 c2 a b m zR)
def adX (n1 n2 d : Nat) (o1 o2 : Bool) (c1 c2 a b : Nat → Int) (m : Int) (g : Nat → List Value) (i : Int) : St := stOf 52 [(2, pt 2), (3, pt 3), (4, pt 4), (5, vI 0), (7, SWb 7 d), (25, vI d), (26, vI i)] (adM n1 n2 d o1 o2 c1 c2 a b m g)
def adZ (n1 n2 d : Nat) (o1 o2 : Bool) (c1 c2 a : Nat → Int) (m : Int) (g : Nat → List Value) : St := stOf 52 [(2, pt 2), (4, pt 3), (5, vI 0), (7, SWb 4 d)] [Ir o1 n1 c1, Ir o2 n2 c2, .cells true 0 [vI m, SI 5 d], .cells true 0 [vI 0, .slice none 0 0], .rows true true 2 d g, Ir true d a]
theorem adP (n1 n2 : Nat) (o1 o2 : Bool) (M1 M2 : Int) (c1 c2 : Nat → Int) : segR ((CaT Try.prog).into 22 2) 60 4 (adB Try.prog) [2, 3, 4, 5, 7] [.fix 0, .fix 1, .slot 2, .slot 3, .slot 4, .cell 2 1, .cell 3 1, .slot 7] (enter Try.f22 [.agg #[vI M1, SI 0 n1], .agg #[vI M2, SI 1 n2]] [Ir o1 n1 c1, Ir o2 n2 c2]) =
  gd (lk3 n1 n2) (gd (lk3 n1 n2) (gd (tII n1 n2 (sII c1) (sII c2)) (gd (frmB M1 n1 (iOf (sII c1))) (gd (frmB M2 n2 (iOf (sII c2))) (gd (mkW (((mx M1 M2).toNat / 3 : Nat) : Int))
    (some (adS n1 n2 ((mx M1 M2).toNat / 3) o1 o2 c1 c2 (fineG ((mx M1 M2).toNat / M1.toNat) (iOf (sII c1))) (fineG ((mx M1 M2).toNat / M2.toNat) (iOf (sII c2))) (mx M1 M2)))))))) := by kernel_rfl
theorem adHead (n1 n2 d : Nat) (o1 o2 : Bool) (c1 c2 a b : Nat → Int) (m : Int) : roundR ((CaT Try.prog).into 22 2) 60 (forHead (stmt 4 (adB Try.prog))) [2, 3, 4, 5, 7, 25, 26] [2, 3, 4, 5, 7, 25, 26] [.fix 0, .fix 1, .slot 2, .slot 3, .slot 4, .cell 2 1, .cell 3 1, .slot 7] [.fix 0, .fix 1, .slot 2, .slot 3, .slot 4, .cell 2 1, .cell 3 1, .slot 7] (adS n1 n2 d o1 o2 c1 c2 a b m) = some (.normal, adX n1 n2 d o1 o2 c1 c2 a b m zR 0) := by kernel_rfl
def u4 (x y : Int) : Bool := u64B (hiW x) && (u64B (loW x) && (u64B (hiW y) && u64B (loW y)))
theorem adR (n1 n2 d : Nat) (o1 o2 : Bool) (c1 c2 a b g : Nat → Int) (m i : Int) : roundR ((CaT Try.prog).into 22 2) 60 (forBody (stmt 4 (adB Try.prog))) [2, 3, 4, 5, 7, 25, 26] [2, 4, 5, 7] [.fix 0, .fix 1, .slot 2, .slot 3, .slot 4, .cell 2 1, .cell 3 1, .slot 7] [.fix 0, .fix 1, .slot 2, .slot 4, .slot 7, .cell 2 1] (adX n1 n2 d o1 o2 c1 c2 a b m (wRow g) i) = (match decide (i < (d : Int)) with
  | true => gd (boundsI i d) (gd (i64B (a i.toNat)) (gd (boundsI i d) (gd (i64B (b i.toNat)) (gd (u4 (a i.toNat) (b i.toNat)) (gd (boundsI i d) (some (.normal, adX n1 n2 d o1 o2 c1 c2 a b m (stR (wRow g) i.toNat (w2 (decW (hiW (a i.toNat)) (loW (a i.toNat)) + decW (hiW (b i.toNat)) (loW (b i.toNat))))) (W (i + 1)))))))))
  | false => some (.exit 0, adZ n1 n2 d o1 o2 c1 c2 a m (wRow g))) := by kernel_rfl
def adY (n1 n2 : Nat) (o1 o2 : Bool) (c1 c2 f : Nat → Int) (m : Int) : St := stOf 52 [(4, pt 2), (5, vI 0)] [Ir o1 n1 c1, Ir o2 n2 c2, .cells true 0 [vI m, SI 3 (m.toNat / 3)], .rows true true 1 (m.toNat / 3) (iRow f)]
def adE (n1 n2 : Nat) (o1 o2 : Bool) (c1 c2 : Nat → Int) (e : Int) : St := stOf 52 [(4, pt 2), (5, vI e)] [Ir o1 n1 c1, Ir o2 n2 c2, .cells true 0 [vI 0, .slice none 0 0], .no]
def shQ (n : Nat) (m : Int) (row : Nat → List Value) : Bool := fineB m && (Nat.beq n n && (okWs n row && (decide (m ≤ 3 * (n : Int)) && decide (n ≤ 1048576))))
theorem adEnd (n1 n2 d : Nat) (o1 o2 : Bool) (c1 c2 a : Nat → Int) (m : Int) (g : Nat → List Value) : roundR ((CaT Try.prog).into 22 2) 60 (seqDrop 5 (adB Try.prog)) [4, 5] [4, 5] [.fix 0, .fix 1, .slot 4, .cell 3 1] [.fix 0, .fix 1, .slot 4, .cell 3 1] (adZ n1 n2 d o1 o2 c1 c2 a m g) = gd (shQ d m g) (match allF (m.toNat / 3) (cofG d (m.toNat / 3) (gOf g)) with
  | true => some (.ret, adY n1 n2 o1 o2 c1 c2 (fun i => nar (cofG d (m.toNat / 3) (gOf g) i)) m)
  | false => some (.ret, adE n1 n2 o1 o2 c1 c2 4)) := by kernel_rfl
theorem adRet (n1 n2 : Nat) (o1 o2 : Bool) (c1 c2 f : Nat → Int) (m : Int) : (retA Try.prog Try.f22 (.ret, adY n1 n2 o1 o2 c1 c2 f m)).res = some (rgV m (SI 3 (m.toNat / 3)) 0, [Ir o1 n1 c1, Ir o2 n2 c2, .cells true 0 [vI m, SI 3 (m.toNat / 3)], .rows true true 1 (m.toNat / 3) (iRow f)]) := by kernel_rfl
theorem adTidy (n1 n2 : Nat) (o1 o2 : Bool) (c1 c2 f : Nat → Int) (m : Int) : (tidyA 2 [.fix 0, .fix 1, .cell 2 1] (rgV m (SI 3 (m.toNat / 3)) 0, [Ir o1 n1 c1, Ir o2 n2 c2, .cells true 0 [vI m, SI 3 (m.toNat / 3)], .rows true true 1 (m.toNat / 3) (iRow f)])).res = some (rgV m (SI 2 (m.toNat / 3)) 0, [Ir o1 n1 c1, Ir o2 n2 c2, .rows true true 1 (m.toNat / 3) (iRow f)]) := by kernel_rfl
theorem adRetE (n1 n2 : Nat) (o1 o2 : Bool) (c1 c2 : Nat → Int) (e : Int) : (retA Try.prog Try.f22 (.ret, adE n1 n2 o1 o2 c1 c2 e)).res = some (rgE e, [Ir o1 n1 c1, Ir o2 n2 c2, .cells true 0 [vI 0, .slice none 0 0], .no]) := by kernel_rfl
theorem adTidyE (n1 n2 : Nat) (o1 o2 : Bool) (c1 c2 : Nat → Int) (e : Int) : (tidyA 2 [.fix 0, .fix 1] (rgE e, [Ir o1 n1 c1, Ir o2 n2 c2, .cells true 0 [vI 0, .slice none 0 0], .no])).res = some (rgE e, [Ir o1 n1 c1, Ir o2 n2 c2]) := by kernel_rfl
end Go.Proofs.Ytjhijkdicmbbiaa


namespace Go.Proofs.Ytjhijkdicmbbiaa
open Go Vx Go.RowKit
theorem adFor : isFor 0 (stmt 4 (adB Try.prog)) = true := by kernel_rfl
theorem adHas : hasStmt 4 (adB Try.prog) = true := by kernel_rfl
theorem adIn : InBody ((CaT Try.prog).into 22 2) (forHead (stmt 4 (adB Try.prog))) ∧ InBody ((CaT Try.prog).into 22 2) (forBody (stmt 4 (adB Try.prog))) := for_in (C := CaT Try.prog) (f := 22) (B := 2) (id := 0) (k := 4) (fn := Try.f22) (b := adB Try.prog) Try.func22 ad_eq adFor
theorem u4_ok (x y : Int) : u4 x y = true := by unfold u4; rw [hiW_ok, loW_ok, hiW_ok, loW_ok]; rfl
def sumP (s : Nat → Int) (i q : Nat) : Int := if q < i then s q else 0
theorem sumP_step (s : Nat → Int) (i q : Nat) : putG (sumP s i) i (s i) q = sumP s (i + 1) q := by
  unfold putG sumP
  by_cases h : q = i
  · subst h; rw [if_pos rfl, if_pos (by omega)]
  · rw [if_neg h]
    by_cases k : q < i
    · rw [if_pos k, if_pos (by omega)]
    · rw [if_neg k, if_neg (by omega)]
theorem sumP_none (s : Nat → Int) : wRow (sumP s 0) = zR := by
  funext q
  unfold wRow sumP
  rw [if_neg (Nat.not_lt_zero _)]
  rfl
theorem i64_rg {n : Int} (h : inRg n = true) : i64B n = true := by
  have := inRg_iff.1 h
  exact i64B_iff.2 (by omega)
theorem rg_fine {k : Nat} {c : Nat → Int} {n : Nat} (h : allR n c = true) {q : Nat} (hq : q / k < n) : inRg (fineG k c q) = true := by
  unfold fineG
  by_cases hk : q % k = 0
  · rw [if_pos hk]; exact List.all_eq_true.1 h _ (List.mem_range.2 hq)
  · rw [if_neg hk]; rfl
/-- The loop of it. -/
theorem adLoop (n1 n2 d : Nat) (o1 o2 : Bool) (c1 c2 a b : Nat → Int) (m : Int) (hd : d ≤ 1048576) (ha : ∀ i, i < d → i64B (a i) = true) (hb : ∀ i, i < d → i64B (b i) = true) : CodeSem Try.prog 2 (stmt 4 (adB Try.prog)) (adS n1 n2 d o1 o2 c1 c2 a b m) .normal (adZ n1 n2 d o1 o2 c1 c2 a m (wRow (sumP (fun i => a i + b i) d))) := by
  have hh := end_rule (C := CaT Try.prog) okaT (f := 22) (B := 2) adIn.1 (adHead n1 n2 d o1 o2 c1 c2 a b m)
  have hr : ∀ i, i < d → ∃ s, roundR ((CaT Try.prog).into 22 2) 60 (forBody (stmt 4 (adB Try.prog))) [2, 3, 4, 5, 7, 25, 26] [2, 4, 5, 7] [.fix 0, .fix 1, .slot 2, .slot 3, .slot 4, .cell 2 1, .cell 3 1, .slot 7] [.fix 0, .fix 1, .slot 2, .slot 4, .slot 7, .cell 2 1] (adX n1 n2 d o1 o2 c1 c2 a b m (wRow (sumP (fun i => a i + b i) i)) (i : Int)) = some (.normal, s) ∧ StLike s (adX n1 n2 d o1 o2 c1 c2 a b m (wRow (sumP (fun i => a i + b i) (i + 1))) ((i + 1 : Nat) : Int)) := fun i hi => by
    have r := adR n1 n2 d o1 o2 c1 c2 a b (sumP (fun i => a i + b i) i) m i
    rw [show decide ((i : Int) < (d : Int)) = true by simp; omega, boundsI_ok (n := d) (i := (i : Int)) (by omega)] at r
    simp only [gd_true, Int.toNat_natCast, ha i hi, hb i hi, u4_ok] at r
    rw [w2_add] at r
    refine ⟨_, r, ?_⟩
    rw [show W ((i : Int) + 1) = ((i + 1 : Nat) : Int) by rw [W_in (by omega)]; simp]
    refine ⟨rfl, .refl _, .refl _, .refl _, .refl _, .refl _, .refl _, .refl _, .rows fun q _ => ?_, trivial⟩
    rw [stR_w]
    exact congrFun (congrArg wRow (funext fun q => sumP_step (fun i => a i + b i) i q)) q
  have hE := adR n1 n2 d o1 o2 c1 c2 a b (sumP (fun i => a i + b i) d) m d
  rw [show decide ((d : Int) < (d : Int)) = false by simp] at hE
  have hl := run_loop (C := CaT Try.prog) okaT (f := 22) (B := 2) (m := 60) adIn.2 (by simp) d (fun i => adX n1 n2 d o1 o2 c1 c2 a b m (wRow (sumP (fun i => a i + b i) i)) (i : Int)) hr hE
  rw [sumP_none] at hl
  exact for_rule adFor hh hl
/-- What is told at the end. -/
theorem told_end {m : Int} {e n : Nat} {g : Nat → Int} {row : Nat → List Value} (hm : m = ((6 * e : Nat) : Int)) (hf : fineB m = true) (h1 : 2 * e ≤ n) (h2 : n ≤ 6 * e) (hr : rowsLike n row (wRow g)) (hb : ∀ q, q < 2 * e → b127 (cofE e n g q)) :
    shQ n m row = true ∧ m.toNat / 3 = 2 * e ∧ allF (2 * e) (cofG n (2 * e) (gOf row)) = allR (2 * e) (cofE e n g) ∧ ∀ q, q < 2 * e → inRg (cofE e n g q) = true → nar (cofG n (2 * e) (gOf row) q) = cofE e n g q := by
  have hc := fine_cases hf
  have hq : ∀ q, q < 2 * e → fits (cofG n (2 * e) (gOf row) q) = inRg (cofE e n g q) ∧ (inRg (cofE e n g q) = true → nar (cofG n (2 * e) (gOf row) q) = cofE e n g q) := fun q hq => by
    obtain ⟨a, b⟩ := nar_wid (cofG_wid (by omega) h1 h2 hr hq)
    obtain ⟨c, d⟩ := fits_in (hb q hq)
    rw [a, b]
    exact ⟨c, d⟩
  refine ⟨?_, by omega, ?_, fun q h => (hq q h).2⟩
  · unfold shQ
    rw [hf, Nat.beq_refl, okWs_like hr, decide_eq_true (by omega), decide_eq_true (by omega)]
    rfl
  · unfold allF allR
    rw [Bool.eq_iff_iff, List.all_eq_true, List.all_eq_true]
    exact ⟨fun h i hi => by rw [← (hq i (List.mem_range.1 hi)).1]; exact h i hi, fun h i hi => by rw [(hq i (List.mem_range.1 hi)).1]; exact h i hi⟩
def addC (M1 M2 : Int) (c1 c2 : Nat → Int) : Nat → Int := fun i => fineG ((mx M1 M2).toNat / M1.toNat) c1 i + fineG ((mx M1 M2).toNat / M2.toNat) c2 i
theorem div_lt {M1 M2 : Int} {n : Nat} (h1 : fineB M1 = true) (h2 : fineB M2 = true) (hn : M1 = ((3 * n : Nat) : Int)) {q : Nat} (hq : q < (mx M1 M2).toNat / 3) : q / ((mx M1 M2).toNat / M1.toNat) < n := by
  rcases fine_cases h1 with a | a | a | a <;> rcases fine_cases h2 with b | b | b | b <;> subst b <;> rw [a] at hq ⊢ <;> simp [mx] at hq ⊢ <;> omega
theorem div_lt' {M1 M2 : Int} {n : Nat} (h1 : fineB M1 = true) (h2 : fineB M2 = true) (hn : M2 = ((3 * n : Nat) : Int)) {q : Nat} (hq : q < (mx M1 M2).toNat / 3) : q / ((mx M1 M2).toNat / M2.toNat) < n := by
  rcases fine_cases h1 with a | a | a | a <;> rcases fine_cases h2 with b | b | b | b <;> subst a <;> rw [b] at hq ⊢ <;> simp [mx] at hq ⊢ <;> omega
theorem adSem (n1 n2 : Nat) (o1 o2 : Bool) (M1 M2 : Int) (c1 c2 : Nat → Int) (h1 : frmB M1 n1 c1 = true) (h2 : frmB M2 n2 c2 = true) :
    (allR ((mx M1 M2).toNat / 3) (addC M1 M2 c1 c2) = true → MemSem Try.prog 22 [.agg #[vI M1, SI 0 n1], .agg #[vI M2, SI 1 n2]] [Ir o1 n1 c1, Ir o2 n2 c2] (rgV (mx M1 M2) (SI 2 ((mx M1 M2).toNat / 3)) 0) [Ir o1 n1 c1, Ir o2 n2 c2, Ir true ((mx M1 M2).toNat / 3) (addC M1 M2 c1 c2)]) ∧
    (allR ((mx M1 M2).toNat / 3) (addC M1 M2 c1 c2) = false → MemSem Try.prog 22 [.agg #[vI M1, SI 0 n1], .agg #[vI M2, SI 1 n2]] [Ir o1 n1 c1, Ir o2 n2 c2] (rgE 4) [Ir o1 n1 c1, Ir o2 n2 c2]) := by
  obtain ⟨f1, e1, r1⟩ := frm_fine h1
  obtain ⟨f2, e2, r2⟩ := frm_fine h2
  obtain ⟨fm, _, _⟩ := mx_ok f1 f2
  have body0 : InBody ((CaT Try.prog).into 22 2) (adB Try.prog) := Or.inl ⟨Try.f22, adB Try.prog, Try.func22, ad_eq, fun _ hx => hx⟩
  have hp := adP n1 n2 o1 o2 M1 M2 c1 c2
  have hlk : lk3 n1 n2 = true := by unfold lk3; simp [Nat.ble_eq]
  have hti : tII n1 n2 (sII c1) (sII c2) = true := by
    have a := (sII_ok c1 n1).1
    have b := (sII_ok c2 n2).1
    unfold tI at a b
    unfold tII
    rw [Bool.and_eq_true] at a b
    rw [a.1, a.2, b.1, b.2]
    rfl
  obtain ⟨s1, s2, s3, s4⟩ := six fm
  have hc := fine_cases fm
  have ha : ∀ i, i < (mx M1 M2).toNat / 3 → inRg (fineG ((mx M1 M2).toNat / M1.toNat) c1 i) = true := fun i hi => rg_fine r1 (div_lt f1 f2 e1 hi)
  have hb : ∀ i, i < (mx M1 M2).toNat / 3 → inRg (fineG ((mx M1 M2).toNat / M2.toNat) c2 i) = true := fun i hi => rg_fine r2 (div_lt' f1 f2 e2 hi)
  rw [hlk, hti, (sII_ok c1 n1).2, (sII_ok c2 n2).2, h1, h2, show mkW (((mx M1 M2).toNat / 3 : Nat) : Int) = true by unfold mkW; simp; omega] at hp
  simp only [gd_true] at hp
  have hl := adLoop n1 n2 ((mx M1 M2).toNat / 3) o1 o2 c1 c2 (fineG ((mx M1 M2).toNat / M1.toNat) c1) (fineG ((mx M1 M2).toNat / M2.toNat) c2) (mx M1 M2) (by omega) (fun i hi => i64_rg (ha i hi)) (fun i hi => i64_rg (hb i hi))
  have low : ∀ q, q < 2 * ((mx M1 M2).toNat / 6) → cofE ((mx M1 M2).toNat / 6) (2 * ((mx M1 M2).toNat / 6)) (sumP (addC M1 M2 c1 c2) ((mx M1 M2).toNat / 3)) q = addC M1 M2 c1 c2 q := fun q hq => by
    show cofZ _ _ _ = _
    rw [cof_low _ hq]
    unfold sumP
    rw [if_pos (by omega)]
  have hbnd : ∀ q, q < 2 * ((mx M1 M2).toNat / 6) → b127 (cofE ((mx M1 M2).toNat / 6) (2 * ((mx M1 M2).toNat / 6)) (sumP (addC M1 M2 c1 c2) ((mx M1 M2).toNat / 3)) q) := fun q hq => by
    rw [low q hq]
    have a := inRg_iff.1 (ha q (by omega))
    have b := inRg_iff.1 (hb q (by omega))
    unfold b127 addC
    omega
  obtain ⟨t1, t2, t3, t4⟩ := told_end (n := 2 * ((mx M1 M2).toNat / 6)) (row := wRow (sumP (addC M1 M2 c1 c2) ((mx M1 M2).toNat / 3))) s1 fm (Nat.le_refl _) (by omega) (fun _ _ => rfl) hbnd
  have t3' : allF ((mx M1 M2).toNat / 3) (cofG ((mx M1 M2).toNat / 3) ((mx M1 M2).toNat / 3) (gOf (wRow (sumP (addC M1 M2 c1 c2) ((mx M1 M2).toNat / 3))))) = allR ((mx M1 M2).toNat / 3) (addC M1 M2 c1 c2) := by
    rw [← s3] at t3
    rw [t3]
    unfold allR
    rw [Bool.eq_iff_iff, List.all_eq_true, List.all_eq_true]
    rw [← s3] at low
    exact ⟨fun h i hi => by rw [← low i (List.mem_range.1 hi)]; exact h i hi, fun h i hi => by rw [low i (List.mem_range.1 hi)]; exact h i hi⟩
  have he := adEnd n1 n2 ((mx M1 M2).toNat / 3) o1 o2 c1 c2 (fineG ((mx M1 M2).toNat / M1.toNat) c1) (mx M1 M2) (wRow (sumP (addC M1 M2 c1 c2) ((mx M1 M2).toNat / 3)))
  rw [← s3] at t1
  rw [t1, t3'] at he
  simp only [gd_true] at he
  refine ⟨fun hA => ?_, fun hA => ?_⟩
  · rw [hA] at he
    have code := seg_rule (C := CaT Try.prog) okaT (f := 22) (B := 2) (k := 4) body0 hp (stmt_rule adHas hl (end_rule (C := CaT Try.prog) okaT (f := 22) (B := 2) (bodyOf_in Try.func22 ad_eq) he))
    have sem := (body_mem (m := [Ir o1 n1 c1, Ir o2 n2 c2]) (args := [.agg #[vI M1, SI 0 n1], .agg #[vI M2, SI 1 n2]]) (f := 22) Try.func22 ad_eq (by kernel_rfl) code (adRet n1 n2 o1 o2 c1 c2 _ (mx M1 M2))).tidy (adTidy n1 n2 o1 o2 c1 c2 _ (mx M1 M2))
    refine sem.likes ⟨.refl _, .refl _, .rows fun q hq => ?_, trivial⟩
    have := t4 q (by omega)
    rw [low q (by omega)] at this
    rw [← s3] at this
    show [vI (nar _)] = [vI _]
    rw [this (List.all_eq_true.1 hA q (List.mem_range.2 hq))]
  · rw [hA] at he
    have code := seg_rule (C := CaT Try.prog) okaT (f := 22) (B := 2) (k := 4) body0 hp (stmt_rule adHas hl (end_rule (C := CaT Try.prog) okaT (f := 22) (B := 2) (bodyOf_in Try.func22 ad_eq) he))
    exact (body_mem (m := [Ir o1 n1 c1, Ir o2 n2 c2]) (args := [.agg #[vI M1, SI 0 n1], .agg #[vI M2, SI 1 n2]]) (f := 22) Try.func22 ad_eq (by kernel_rfl) code (adRetE n1 n2 o1 o2 c1 c2 4)).tidy (adTidyE n1 n2 o1 o2 c1 c2 4)
end Go.Proofs.Ytjhijkdicmbbiaa


namespace Go.Proofs.Ytjhijkdicmbbiaa
open Go Vx Go.RowKit
theorem lk3_ok (n1 n2 : Nat) : lk3 n1 n2 = true := by unfold lk3; simp [Nat.ble_eq]
theorem tII_ok (n1 n2 : Nat) (c1 c2 : Nat → Int) : tII n1 n2 (sII c1) (sII c2) = true := by
  have a := (sII_ok c1 n1).1
  have b := (sII_ok c2 n2).1
  unfold tI at a b
  unfold tII
  rw [Bool.and_eq_true] at a b
  rw [a.1, a.2, b.1, b.2]
  rfl
def addF' : List Value → Mem → Option (Ans (Value × Mem))
  | [.agg a, .agg b], mm => match a.toList, b.toList, mm with
    | [.int .i64 _, .slice none 0 0], [.int .i64 _, .slice none 0 0], [] => some (.out (rgE 3, []))
    | [.int .i64 _, .slice none 0 0], [.int .i64 _, .slice (some ⟨0, 0, some 0⟩) N 1], [.rows own true 1 N2 row] => some (.br (Nat.beq N N2 && okIs N row) (.out (rgE 3, [.rows own true 1 N row])) .fail)
    | [.int .i64 _, .slice (some ⟨0, 0, some 0⟩) N 1], [.int .i64 _, .slice none 0 0], [.rows own true 1 N2 row] => some (.br (Nat.beq N N2 && okIs N row) (.out (rgE 3, [.rows own true 1 N row])) .fail)
    | [.int .i64 M1, .slice (some ⟨0, 0, some 0⟩) N 1], [.int .i64 M2, .slice (some ⟨1, 0, some 0⟩) K 1], [.rows own true 1 N2 row, .rows own2 true 1 K2 row2] => some (.br (Nat.beq N N2 && (okIs N row && (Nat.beq K K2 && okIs K row2))) (.br (frmB M1 N (iOf row)) (.br (frmB M2 K (iOf row2)) (.br (allR ((mx M1 M2).toNat / 3) (addC M1 M2 (iOf row) (iOf row2)))
        (.out (rgV (mx M1 M2) (SI 2 ((mx M1 M2).toNat / 3)) 0, [.rows own true 1 N row, .rows own2 true 1 K row2, .rows true true 1 ((mx M1 M2).toNat / 3) (iRow (addC M1 M2 (iOf row) (iOf row2)))]))
        (.out (rgE 4, [.rows own true 1 N row, .rows own2 true 1 K row2]))) (.out (rgE 3, [.rows own true 1 N row, .rows own2 true 1 K row2]))) (.out (rgE 3, [.rows own true 1 N row, .rows own2 true 1 K row2]))) .fail)
    | _, _, _ => none
  | _, _ => none
theorem addF'_ok {args : List Value} {m : Mem} {ans : Ans (Value × Mem)} {v : Value} {m' : Mem} (h : addF' args m = some ans) (hr : ans.res = some (v, m')) : MemSem Try.prog 22 args m v m' := by
  unfold addF' at h
  split at h
  · rename_i mm a b
    split at h
    · rename_i M1 M2 e1 e2
      have ha : a = #[vI M1, .slice none 0 0] := by apply Array.ext'; simpa [vI] using e1
      have hb : b = #[vI M2, .slice none 0 0] := by apply Array.ext'; simpa [vI] using e2
      subst ha hb
      simp only [Option.some.injEq] at h
      subst h
      simp only [Ans.res, Option.some.injEq, Prod.mk.injEq] at hr
      obtain ⟨rfl, rfl⟩ := hr
      exact exT_ok okr7 Try.func22 (by kernel_rfl) (adNN M1 M2)
    · rename_i M1 M2 N own N2 row e1 e2
      have ha : a = #[vI M1, .slice none 0 0] := by apply Array.ext'; simpa [vI] using e1
      have hb : b = #[vI M2, SI 0 N] := by apply Array.ext'; simpa [SI, vI] using e2
      subst ha hb
      simp only [Option.some.injEq] at h
      subst h
      rcases Ans.br_some hr with ⟨hc, g⟩ | ⟨_, g⟩ <;> clear hr
      rotate_left
      · simp [Ans.res] at g
      simp only [Bool.and_eq_true] at hc
      have e1 := Nat.eq_of_beq_eq_true hc.1
      subst e1
      simp only [Ans.res, Option.some.injEq, Prod.mk.injEq] at g
      obtain ⟨rfl, rfl⟩ := g
      have ht := adNL N own M1 M2 (iOf row)
      rw [lk2_ok, (sI_ok _ N).1] at ht
      have l1 : LikeL [.rows own true 1 N row] [Ir own N (iOf row)] := ⟨.rows (is_like hc.2), trivial⟩
      exact (MemSem.like (exT_ok okr7 Try.func22 (by kernel_rfl) ht) l1).likes ⟨.rows fun i hi => (is_like hc.2 i hi).symm, trivial⟩
    · rename_i M1 N M2 own N2 row e1 e2
      have ha : a = #[vI M1, SI 0 N] := by apply Array.ext'; simpa [SI, vI] using e1
      have hb : b = #[vI M2, .slice none 0 0] := by apply Array.ext'; simpa [vI] using e2
      subst ha hb
      simp only [Option.some.injEq] at h
      subst h
      rcases Ans.br_some hr with ⟨hc, g⟩ | ⟨_, g⟩ <;> clear hr
      rotate_left
      · simp [Ans.res] at g
      simp only [Bool.and_eq_true] at hc
      have e1 := Nat.eq_of_beq_eq_true hc.1
      subst e1
      simp only [Ans.res, Option.some.injEq, Prod.mk.injEq] at g
      obtain ⟨rfl, rfl⟩ := g
      have ht := adLN N own M1 M2 (iOf row)
      rw [lk2_ok, (sI_ok _ N).1] at ht
      have l1 : LikeL [.rows own true 1 N row] [Ir own N (iOf row)] := ⟨.rows (is_like hc.2), trivial⟩
      exact (MemSem.like (exT_ok okr7 Try.func22 (by kernel_rfl) ht) l1).likes ⟨.rows fun i hi => (is_like hc.2 i hi).symm, trivial⟩
    · rename_i M1 N M2 K own N2 row own2 K2 row2 e1 e2
      have ha : a = #[vI M1, SI 0 N] := by apply Array.ext'; simpa [SI, vI] using e1
      have hb : b = #[vI M2, SI 1 K] := by apply Array.ext'; simpa [SI, vI] using e2
      subst ha hb
      simp only [Option.some.injEq] at h
      subst h
      rcases Ans.br_some hr with ⟨hc, g⟩ | ⟨_, g⟩ <;> clear hr
      rotate_left
      · simp [Ans.res] at g
      simp only [Bool.and_eq_true] at hc
      obtain ⟨c1, c2, c3, c4⟩ := hc
      have e1 := Nat.eq_of_beq_eq_true c1
      have e2 := Nat.eq_of_beq_eq_true c3
      subst e1 e2
      have l1 : LikeL [.rows own true 1 N row, .rows own2 true 1 K row2] [Ir own N (iOf row), Ir own2 K (iOf row2)] := ⟨.rows (is_like c2), .rows (is_like c4), trivial⟩
      have b1 : Like (Ir own N (iOf row)) (.rows own true 1 N row) := .rows fun i hi => (is_like c2 i hi).symm
      have b2 : Like (Ir own2 K (iOf row2)) (.rows own2 true 1 K row2) := .rows fun i hi => (is_like c4 i hi).symm
      rcases Ans.br_some g with ⟨h1, g1⟩ | ⟨h1, g1⟩ <;> clear g
      · rcases Ans.br_some g1 with ⟨h2, g2⟩ | ⟨h2, g2⟩ <;> clear g1
        · have key := adSem N K own own2 M1 M2 (iOf row) (iOf row2) h1 h2
          rcases Ans.br_some g2 with ⟨h3, g3⟩ | ⟨h3, g3⟩ <;> clear g2 <;> simp only [Ans.res, Option.some.injEq, Prod.mk.injEq] at g3 <;> obtain ⟨rfl, rfl⟩ := g3
          · exact (MemSem.like (key.1 h3) l1).likes ⟨b1, b2, .refl _, trivial⟩
          · exact (MemSem.like (key.2 h3) l1).likes ⟨b1, b2, trivial⟩
        · simp only [Ans.res, Option.some.injEq, Prod.mk.injEq] at g2
          obtain ⟨rfl, rfl⟩ := g2
          have ht := adG N K own own2 M1 M2 (iOf row) (iOf row2)
          rw [lk3_ok, tII_ok, (sII_ok _ N).2, (sII_ok _ K).2, h1, h2] at ht
          exact (MemSem.like (exT_ok okaG Try.func22 (by kernel_rfl) ht) l1).likes ⟨b1, b2, trivial⟩
      · simp only [Ans.res, Option.some.injEq, Prod.mk.injEq] at g1
        obtain ⟨rfl, rfl⟩ := g1
        have ht := adF N K own own2 M1 M2 (iOf row) (iOf row2)
        rw [lk3_ok, tII_ok, (sII_ok _ N).2, h1] at ht
        exact (MemSem.like (exT_ok okaF Try.func22 (by kernel_rfl) ht) l1).likes ⟨b1, b2, trivial⟩
    · cases h
  · cases h
def Cr22 (P : Program) : Cx := (Cr7 P).addM 22 addF'
theorem okr22 : CxOk (Cr22 Try.prog) := Cx.addM_ok okr7 fun _ _ _ _ _ h hr => addF'_ok h hr
def Cr8 (P : Program) : Cx := (Cr22 P).lend 22
theorem okr8 : CxOk (Cr8 Try.prog) := Cx.lend_ok okr22 _
end Go.Proofs.Ytjhijkdicmbbiaa


namespace Go.Proofs.Ytjhijkdicmbbiaa
open Go Vx Go.RowKit
def CmT (P : Program) : Cx := (Cr8 P).road 98 [true, true, true, true]
theorem okmT : CxOk (CmT Try.prog) := Cx.road_ok okr8 _ _
def CmF (P : Program) : Cx := (Cr8 P).road 98 [true, true, false]
theorem okmF : CxOk (CmF Try.prog) := Cx.road_ok okr8 _ _
def CmG (P : Program) : Cx := (Cr8 P).road 98 [true, true, true, false]
theorem okmG : CxOk (CmG Try.prog) := Cx.road_ok okr8 _ _
def muB (P : Program) : Code := bodyOf P 28
theorem mu_eq : Try.f28.body = some (muB Try.prog) := by kernel_rfl
theorem muF (n1 n2 : Nat) (o1 o2 : Bool) (M1 M2 : Int) (c1 c2 : Nat → Int) : exT ((CmF Try.prog).at 28) 60 Try.f28 [.agg #[vI M1, SI 0 n1], .agg #[vI M2, SI 1 n2]] [Ir o1 n1 c1, Ir o2 n2 c2] [.fix 0, .fix 1] = gd (lk3 n1 n2) (gd (lk3 n1 n2) (gd (tII n1 n2 (sII c1) (sII c2)) (gn (frmB M1 n1 (iOf (sII c1))) (some (rgE 3, [Ir o1 n1 c1, Ir o2 n2 c2]))))) := by kernel_rfl
theorem muG (n1 n2 : Nat) (o1 o2 : Bool) (M1 M2 : Int) (c1 c2 : Nat → Int) : exT ((CmG Try.prog).at 28) 60 Try.f28 [.agg #[vI M1, SI 0 n1], .agg #[vI M2, SI 1 n2]] [Ir o1 n1 c1, Ir o2 n2 c2] [.fix 0, .fix 1] = gd (lk3 n1 n2) (gd (lk3 n1 n2) (gd (tII n1 n2 (sII c1) (sII c2)) (gd (frmB M1 n1 (iOf (sII c1))) (gn (frmB M2 n2 (iOf (sII c2))) (some (rgE 3, [Ir o1 n1 c1, Ir o2 n2 c2])))))) := by kernel_rfl
theorem muNL (n2 : Nat) (o2 : Bool) (M1 M2 : Int) (c2 : Nat → Int) : exT ((Cr8 Try.prog).at 28) 60 Try.f28 [.agg #[vI M1, .slice none 0 0], .agg #[vI M2, SI 0 n2]] [Ir o2 n2 c2] [.fix 0] = gd (lk2 n2) (gd (tI n2 (sI c2)) (some (rgE 3, [Ir o2 n2 c2]))) := by kernel_rfl
theorem muLN (n2 : Nat) (o2 : Bool) (M1 M2 : Int) (c2 : Nat → Int) : exT ((Cr8 Try.prog).at 28) 60 Try.f28 [.agg #[vI M1, SI 0 n2], .agg #[vI M2, .slice none 0 0]] [Ir o2 n2 c2] [.fix 0] = gd (lk2 n2) (gd (tI n2 (sI c2)) (some (rgE 3, [Ir o2 n2 c2]))) := by kernel_rfl
theorem muNN (M1 M2 : Int) : exT ((Cr8 Try.prog).at 28) 60 Try.f28 [.agg #[vI M1, .slice none 0 0], .agg #[vI M2, .slice none 0 0]] [] [] = some (rgE 3, []) := by kernel_rfl
def muM (n1 n2 d n : Nat) (o1 o2 : Bool) (c1 c2 a b : Nat → Int) (m : Int) (g : Nat → List Value) : Mem := [Ir o1 n1 c1, Ir o2 n2 c2, .cells true 0 [vI m, SI 5 d], .cells true 0 [vI m, SI 6 d], .cells true 0 [vI 0, .slice none 0 0], Ir true d a, Ir true d b, .rows true true 2 n g]
def muS (n1 n2 d n : Nat) (o1 o2 : Bool) (c1 c2 a b : Nat → Int) (m : Int) : St := stOf 71 [(2, pt 2), (3, pt 3), (4, pt 4), (5, vI 0), (7, SWb 7 n)] (muM n1 n2 d n o1 o2 c1 c2 a b m zR)
def muX (n1 n2 d n : Nat) (o1 o2 : Bool) (c1 c2 a b : Nat → Int) (m : Int) (g : Nat → List Value) (i : Int) : St := stOf 71 [(2, pt 2), (3, pt 3), (4, pt 4), (5, vI 0), (7, SWb 7 n), (33, SI 5 d), (34, vI d), (35, vI i)] (muM n1 n2 d n o1 o2 c1 c2 a b m g)
def muY (n1 n2 d n : Nat) (o1 o2 : Bool) (c1 c2 a b : Nat → Int) (m : Int) (g : Nat → List Value) (i x : Int) : St := stOf 71 [(2, pt 2), (3, pt 3), (4, pt 4), (5, vI 0), (7, SWb 7 n), (8, vI i), (9, vI x), (33, SI 5 d), (34, vI d), (35, vI i)] (muM n1 n2 d n o1 o2 c1 c2 a b m g)
def muJ (n1 n2 d n : Nat) (o1 o2 : Bool) (c1 c2 a b : Nat → Int) (m : Int) (g : Nat → List Value) (i x j : Int) : St := stOf 71 [(2, pt 2), (3, pt 3), (4, pt 4), (5, vI 0), (7, SWb 7 n), (8, vI i), (9, vI x), (33, SI 5 d), (34, vI d), (35, vI i), (41, SI 6 d), (42, vI d), (43, vI j)] (muM n1 n2 d n o1 o2 c1 c2 a b m g)
def muZ (n1 n2 d n : Nat) (o1 o2 : Bool) (c1 c2 a : Nat → Int) (m : Int) (g : Nat → List Value) : St := stOf 71 [(2, pt 2), (4, pt 3), (5, vI 0), (7, SWb 4 n)] [Ir o1 n1 c1, Ir o2 n2 c2, .cells true 0 [vI m, SI 5 d], .cells true 0 [vI 0, .slice none 0 0], .rows true true 2 n g, Ir true d a]
theorem muP (n1 n2 : Nat) (o1 o2 : Bool) (M1 M2 : Int) (c1 c2 : Nat → Int) : segR ((CmT Try.prog).into 28 2) 60 4 (muB Try.prog) [2, 3, 4, 5, 7] [.fix 0, .fix 1, .slot 2, .slot 3, .slot 4, .cell 2 1, .cell 3 1, .slot 7] (enter Try.f28 [.agg #[vI M1, SI 0 n1], .agg #[vI M2, SI 1 n2]] [Ir o1 n1 c1, Ir o2 n2 c2]) =
  gd (lk3 n1 n2) (gd (lk3 n1 n2) (gd (tII n1 n2 (sII c1) (sII c2)) (gd (frmB M1 n1 (iOf (sII c1))) (gd (frmB M2 n2 (iOf (sII c2))) (gd (mkW (W (W ((((mx M1 M2).toNat / 3 : Nat) : Int) + (((mx M1 M2).toNat / 3 : Nat) : Int)) - 1)))
    (some (muS n1 n2 ((mx M1 M2).toNat / 3) (W (W ((((mx M1 M2).toNat / 3 : Nat) : Int) + (((mx M1 M2).toNat / 3 : Nat) : Int)) - 1)).toNat o1 o2 c1 c2 (fineG ((mx M1 M2).toNat / M1.toNat) (iOf (sII c1))) (fineG ((mx M1 M2).toNat / M2.toNat) (iOf (sII c2))) (mx M1 M2)))))))) := by kernel_rfl
def spM : List From := [.fix 0, .fix 1, .slot 2, .slot 3, .slot 4, .cell 2 1, .cell 3 1, .slot 7]
def muF1 (P : Program) : Code := forBody (stmt 4 (muB P))
def muK (P : Program) : Code := cL (cL (cR (cR (muF1 P))))
def muF2 (P : Program) : Code := cR (muK P)
def mu36 (n1 n2 d n : Nat) (o1 o2 : Bool) (c1 c2 a b : Nat → Int) (m : Int) (g : Nat → List Value) (i : Int) (t : Bool) : St := stOf 71 [(2, pt 2), (3, pt 3), (4, pt 4), (5, vI 0), (7, SWb 7 n), (33, SI 5 d), (34, vI d), (35, vI i), (36, .bool t)] (muM n1 n2 d n o1 o2 c1 c2 a b m g)
theorem muHead (n1 n2 d n : Nat) (o1 o2 : Bool) (c1 c2 a b : Nat → Int) (m : Int) : roundR ((CmT Try.prog).into 28 2) 60 (forHead (stmt 4 (muB Try.prog))) [2, 3, 4, 5, 7, 33, 34, 35] [2, 3, 4, 5, 7, 33, 34, 35] spM spM (muS n1 n2 d n o1 o2 c1 c2 a b m) = some (.normal, muX n1 n2 d n o1 o2 c1 c2 a b m zR 0) := by kernel_rfl
theorem muCode : muF1 Try.prog = .seq (cL (muF1 Try.prog)) (.seq (cL (cR (muF1 Try.prog))) (.seq (.block 1 (.seq (cL (muK Try.prog)) (muF2 Try.prog))) (cR (cR (cR (muF1 Try.prog)))))) := by kernel_rfl
theorem muFor1 : isFor 0 (stmt 4 (muB Try.prog)) = true := by kernel_rfl
theorem muFor2 : isFor 2 (muF2 Try.prog) = true := by kernel_rfl
theorem muHas : hasStmt 4 (muB Try.prog) = true := by kernel_rfl
theorem mu6 (n1 n2 d n : Nat) (o1 o2 : Bool) (c1 c2 a b g : Nat → Int) (m i : Int) : roundR ((CmT Try.prog).into 28 2) 60 (cL (muF1 Try.prog)) [2, 3, 4, 5, 7, 33, 34, 35, 36] [2, 3, 4, 5, 7, 33, 34, 35, 36] spM spM (muX n1 n2 d n o1 o2 c1 c2 a b m (wRow g) i) = some (.normal, mu36 n1 n2 d n o1 o2 c1 c2 a b m (wRow g) i (decide (i < (d : Int)))) := by kernel_rfl
theorem muAT (n1 n2 d n : Nat) (o1 o2 : Bool) (c1 c2 a b g : Nat → Int) (m i : Int) : roundR ((CmT Try.prog).into 28 2) 60 (cL (cR (muF1 Try.prog))) [2, 3, 4, 5, 7, 33, 34, 35] [2, 3, 4, 5, 7, 33, 34, 35] spM spM (mu36 n1 n2 d n o1 o2 c1 c2 a b m (wRow g) i true) = some (.normal, muX n1 n2 d n o1 o2 c1 c2 a b m (wRow g) i) := by kernel_rfl
theorem muAF (n1 n2 d n : Nat) (o1 o2 : Bool) (c1 c2 a b g : Nat → Int) (m i : Int) : roundR ((CmT Try.prog).into 28 2) 60 (cL (cR (muF1 Try.prog))) [2, 4, 5, 7] [2, 4, 5, 7] [.fix 0, .fix 1, .slot 2, .slot 4, .slot 7, .cell 2 1] [.fix 0, .fix 1, .slot 2, .slot 4, .slot 7, .cell 2 1] (mu36 n1 n2 d n o1 o2 c1 c2 a b m (wRow g) i false) = some (.exit 0, muZ n1 n2 d n o1 o2 c1 c2 a m (wRow g)) := by kernel_rfl
theorem mu7 (n1 n2 d n : Nat) (o1 o2 : Bool) (c1 c2 a b g : Nat → Int) (m i : Int) : roundR ((CmT Try.prog).into 28 2) 60 (cL (muK Try.prog)) [2, 3, 4, 5, 7, 8, 9, 33, 34, 35] [2, 3, 4, 5, 7, 8, 9, 33, 34, 35] spM spM (muX n1 n2 d n o1 o2 c1 c2 a b m (wRow g) i) = gd (boundsI i d) (some (.normal, muY n1 n2 d n o1 o2 c1 c2 a b m (wRow g) i (a i.toNat))) := by kernel_rfl
theorem muH2 (n1 n2 d n : Nat) (o1 o2 : Bool) (c1 c2 a b g : Nat → Int) (m i x : Int) : roundR ((CmT Try.prog).into 28 2) 60 (forHead (muF2 Try.prog)) [2, 3, 4, 5, 7, 8, 9, 33, 34, 35, 41, 42, 43] [2, 3, 4, 5, 7, 8, 9, 33, 34, 35, 41, 42, 43] spM spM (muY n1 n2 d n o1 o2 c1 c2 a b m (wRow g) i x) = some (.normal, muJ n1 n2 d n o1 o2 c1 c2 a b m (wRow g) i x 0) := by kernel_rfl
theorem muR2 (n1 n2 d n : Nat) (o1 o2 : Bool) (c1 c2 a b g : Nat → Int) (m i x j : Int) : roundR ((CmT Try.prog).into 28 2) 60 (forBody (muF2 Try.prog)) [2, 3, 4, 5, 7, 8, 9, 33, 34, 35, 41, 42, 43] [2, 3, 4, 5, 7, 33, 34, 35] spM spM (muJ n1 n2 d n o1 o2 c1 c2 a b m (wRow g) i x j) = (match decide (j < (d : Int)) with
  | true => gd (boundsI j d) (gd (boundsI (W (i + j)) n) (gd (i64B x && i64B (b j.toNat)) (gd (u4 (g (W (i + j)).toNat) (x * b j.toNat)) (gd (boundsI (W (i + j)) n) (some (.normal, muJ n1 n2 d n o1 o2 c1 c2 a b m (stR (wRow g) (W (i + j)).toNat (w2 (decW (hiW (g (W (i + j)).toNat)) (loW (g (W (i + j)).toNat)) + decW (hiW (x * b j.toNat)) (loW (x * b j.toNat))))) i x (W (j + 1))))))))
  | false => some (.exit 2, muX n1 n2 d n o1 o2 c1 c2 a b m (wRow g) i)) := by kernel_rfl
theorem mu13 (n1 n2 d n : Nat) (o1 o2 : Bool) (c1 c2 a b g : Nat → Int) (m i : Int) : roundR ((CmT Try.prog).into 28 2) 60 (cR (cR (cR (muF1 Try.prog)))) [2, 3, 4, 5, 7, 33, 34, 35] [2, 3, 4, 5, 7, 33, 34, 35] spM spM (muX n1 n2 d n o1 o2 c1 c2 a b m (wRow g) i) = some (.normal, muX n1 n2 d n o1 o2 c1 c2 a b m (wRow g) (W (i + 1))) := by kernel_rfl
def muO (n1 n2 : Nat) (o1 o2 : Bool) (c1 c2 f : Nat → Int) (m : Int) : St := stOf 71 [(4, pt 2), (5, vI 0)] [Ir o1 n1 c1, Ir o2 n2 c2, .cells true 0 [vI m, SI 3 (m.toNat / 3)], .rows true true 1 (m.toNat / 3) (iRow f)]
def muE (n1 n2 : Nat) (o1 o2 : Bool) (c1 c2 : Nat → Int) (e : Int) : St := stOf 71 [(4, pt 2), (5, vI e)] [Ir o1 n1 c1, Ir o2 n2 c2, .cells true 0 [vI 0, .slice none 0 0], .no]
theorem muEnd (n1 n2 d n : Nat) (o1 o2 : Bool) (c1 c2 a : Nat → Int) (m : Int) (g : Nat → List Value) : roundR ((CmT Try.prog).into 28 2) 60 (seqDrop 5 (muB Try.prog)) [4, 5] [4, 5] [.fix 0, .fix 1, .slot 4, .cell 3 1] [.fix 0, .fix 1, .slot 4, .cell 3 1] (muZ n1 n2 d n o1 o2 c1 c2 a m g) = gd (shQ n m g) (match allF (m.toNat / 3) (cofG n (m.toNat / 3) (gOf g)) with
  | true => some (.ret, muO n1 n2 o1 o2 c1 c2 (fun i => nar (cofG n (m.toNat / 3) (gOf g) i)) m)
  | false => some (.ret, muE n1 n2 o1 o2 c1 c2 4)) := by kernel_rfl
theorem muRet (n1 n2 : Nat) (o1 o2 : Bool) (c1 c2 f : Nat → Int) (m : Int) : (retA Try.prog Try.f28 (.ret, muO n1 n2 o1 o2 c1 c2 f m)).res = some (rgV m (SI 3 (m.toNat / 3)) 0, [Ir o1 n1 c1, Ir o2 n2 c2, .cells true 0 [vI m, SI 3 (m.toNat / 3)], .rows true true 1 (m.toNat / 3) (iRow f)]) := by kernel_rfl
theorem muRetE (n1 n2 : Nat) (o1 o2 : Bool) (c1 c2 : Nat → Int) (e : Int) : (retA Try.prog Try.f28 (.ret, muE n1 n2 o1 o2 c1 c2 e)).res = some (rgE e, [Ir o1 n1 c1, Ir o2 n2 c2, .cells true 0 [vI 0, .slice none 0 0], .no]) := by kernel_rfl
end Go.Proofs.Ytjhijkdicmbbiaa
