/-
  ring.Mul as a contract. Nothing here is trusted.
-/
import Derived.Test.YtjhijkdicmbbiaaKag

namespace Go.Proofs.Ytjhijkdicmbbiaa
open Go Vx Go.RowKit
theorem muIn : InBody ((CmT Try.prog).into 28 2) (forHead (stmt 4 (muB Try.prog))) ∧ InBody ((CmT Try.prog).into 28 2) (muF1 Try.prog) := for_in (C := CmT Try.prog) (f := 28) (B := 2) (id := 0) (k := 4) (fn := Try.f28) (b := muB Try.prog) Try.func28 mu_eq muFor1
theorem forHead_in {C : Cx} {id : Nat} {c : Code} (hs : isFor id c = true) (h : InBody C c) : InBody C (forHead c) ∧ InBody C (forBody c) := by
  unfold isFor at hs
  split at hs
  · exact ⟨h.sub fun z hz => by simp only [forHead] at hz; simp [loopsIn, hz], h.sub fun z hz => by simp only [forBody] at hz; simp [loopsIn, hz]⟩
  · cases hs
theorem muIn2 : InBody ((CmT Try.prog).into 28 2) (forHead (muF2 Try.prog)) ∧ InBody ((CmT Try.prog).into 28 2) (forBody (muF2 Try.prog)) := forHead_in muFor2 muIn.2.right.right.left.left.right
/-- One row of the product added. -/
def muI (g : Nat → Int) (x : Int) (b : Nat → Int) (i j q : Nat) : Int := g q + (if i ≤ q ∧ q < i + j then x * b (q - i) else 0)
def mulP (a b : Nat → Int) (d : Nat) : Nat → (Nat → Int)
  | 0 => fun _ => 0
  | i + 1 => muI (mulP a b d i) (a i) b i d
theorem muI_at (g : Nat → Int) (x : Int) (b : Nat → Int) (i j : Nat) : muI g x b i j (i + j) = g (i + j) := by
  unfold muI
  rw [if_neg (by omega)]; omega
theorem muI_step (g : Nat → Int) (x : Int) (b : Nat → Int) (i j q : Nat) : putG (muI g x b i j) (i + j) (muI g x b i j (i + j) + x * b j) q = muI g x b i (j + 1) q := by
  unfold putG
  by_cases h : q = i + j
  · rw [if_pos h, muI_at]
    subst h
    unfold muI
    rw [if_pos (by omega), Nat.add_sub_cancel_left]
  · rw [if_neg h]
    unfold muI
    by_cases k : i ≤ q ∧ q < i + j
    · rw [if_pos k, if_pos (by omega)]
    · rw [if_neg k, if_neg (by omega)]
theorem muI_none (g : Nat → Int) (x : Int) (b : Nat → Int) (i : Nat) : muI g x b i 0 = g := by
  funext q
  unfold muI
  rw [if_neg (by omega)]; omega
theorem muInner (n1 n2 d n : Nat) (o1 o2 : Bool) (c1 c2 a b g : Nat → Int) (m x : Int) (i : Nat) (hn : i + d ≤ n) (hn2 : n ≤ 4000000) (hx : i64B x = true) (hb : ∀ j, j < d → i64B (b j) = true) : CodeSem Try.prog 2 (muF2 Try.prog) (muY n1 n2 d n o1 o2 c1 c2 a b m (wRow g) i x) .normal (muX n1 n2 d n o1 o2 c1 c2 a b m (wRow (muI g x b i d)) i) := by
  have hh := end_rule (C := CmT Try.prog) okmT (f := 28) (B := 2) muIn2.1 (muH2 n1 n2 d n o1 o2 c1 c2 a b g m i x)
  have hr : ∀ j, j < d → ∃ s, roundR ((CmT Try.prog).into 28 2) 60 (forBody (muF2 Try.prog)) [2, 3, 4, 5, 7, 8, 9, 33, 34, 35, 41, 42, 43] [2, 3, 4, 5, 7, 33, 34, 35] spM spM (muJ n1 n2 d n o1 o2 c1 c2 a b m (wRow (muI g x b i j)) i x (j : Int)) = some (.normal, s) ∧ StLike s (muJ n1 n2 d n o1 o2 c1 c2 a b m (wRow (muI g x b i (j + 1))) i x ((j + 1 : Nat) : Int)) := fun j hj => by
    have r := muR2 n1 n2 d n o1 o2 c1 c2 a b (muI g x b i j) m i x j
    rw [show decide ((j : Int) < (d : Int)) = true by simp; omega, boundsI_ok (n := d) (i := (j : Int)) (by omega), show W ((i : Int) + (j : Int)) = ((i + j : Nat) : Int) by rw [W_in (by omega)]; omega, boundsI_ok (n := n) (i := ((i + j : Nat) : Int)) (by omega)] at r
    simp only [gd_true, Int.toNat_natCast, hx, hb j hj, u4_ok, Bool.and_self] at r
    rw [w2_add] at r
    refine ⟨_, r, ?_⟩
    rw [show W ((j : Int) + 1) = ((j + 1 : Nat) : Int) by rw [W_in (by omega)]; simp]
    refine ⟨rfl, .refl _, .refl _, .refl _, .refl _, .refl _, .refl _, .refl _, .rows fun q _ => ?_, trivial⟩
    rw [stR_w]
    exact congrFun (congrArg wRow (funext fun q => muI_step g x b i j q)) q
  have hE := muR2 n1 n2 d n o1 o2 c1 c2 a b (muI g x b i d) m i x d
  rw [show decide ((d : Int) < (d : Int)) = false by simp] at hE
  have hl := run_loop (C := CmT Try.prog) okmT (f := 28) (B := 2) (m := 60) muIn2.2 (by simp) d (fun j => muJ n1 n2 d n o1 o2 c1 c2 a b m (wRow (muI g x b i j)) i x (j : Int)) hr hE
  rw [muI_none] at hl
  exact for_rule muFor2 hh hl
theorem muLoop (n1 n2 d n : Nat) (o1 o2 : Bool) (c1 c2 a b : Nat → Int) (m : Int) (hn : 2 * d ≤ n + 1) (hn2 : n ≤ 4000000) (ha : ∀ i, i < d → i64B (a i) = true) (hb : ∀ i, i < d → i64B (b i) = true) : CodeSem Try.prog 2 (stmt 4 (muB Try.prog)) (muS n1 n2 d n o1 o2 c1 c2 a b m) .normal (muZ n1 n2 d n o1 o2 c1 c2 a m (wRow (mulP a b d d))) := by
  have i1 := muIn.2
  have hh := end_rule (C := CmT Try.prog) okmT (f := 28) (B := 2) muIn.1 (muHead n1 n2 d n o1 o2 c1 c2 a b m)
  have hr : ∀ i, i < d → CodeSem Try.prog 2 (muF1 Try.prog) (muX n1 n2 d n o1 o2 c1 c2 a b m (wRow (mulP a b d i)) (i : Int)) .normal (muX n1 n2 d n o1 o2 c1 c2 a b m (wRow (mulP a b d (i + 1))) ((i + 1 : Nat) : Int)) := fun i hi => by
    have r6 := mu6 n1 n2 d n o1 o2 c1 c2 a b (mulP a b d i) m i
    rw [show decide ((i : Int) < (d : Int)) = true by simp; omega] at r6
    have r7 := mu7 n1 n2 d n o1 o2 c1 c2 a b (mulP a b d i) m i
    rw [boundsI_ok (n := d) (i := (i : Int)) (by omega)] at r7
    simp only [gd_true, Int.toNat_natCast] at r7
    have r13 := mu13 n1 n2 d n o1 o2 c1 c2 a b (mulP a b d (i + 1)) m i
    rw [show W ((i : Int) + 1) = ((i + 1 : Nat) : Int) by rw [W_in (by omega)]; simp] at r13
    have inner : CodeSem Try.prog 2 (muF2 Try.prog) (muY n1 n2 d n o1 o2 c1 c2 a b m (wRow (mulP a b d i)) i (a i)) .normal (muX n1 n2 d n o1 o2 c1 c2 a b m (wRow (mulP a b d (i + 1))) i) := by
      by_cases hdi : i + d ≤ n
      · exact muInner n1 n2 d n o1 o2 c1 c2 a b (mulP a b d i) m (a i) i hdi hn2 (ha i hi) hb
      · omega
    rw [muCode]
    exact (end_rule (C := CmT Try.prog) okmT (f := 28) (B := 2) i1.left r6).seq ((end_rule (C := CmT Try.prog) okmT (f := 28) (B := 2) i1.right.left (muAT n1 n2 d n o1 o2 c1 c2 a b (mulP a b d i) m i)).seq ((CodeSem.blockN ((end_rule (C := CmT Try.prog) okmT (f := 28) (B := 2) i1.right.right.left.left.left r7).seq inner)).seq (end_rule (C := CmT Try.prog) okmT (f := 28) (B := 2) i1.right.right.right r13)))
  have hE : CodeSem Try.prog 2 (muF1 Try.prog) (muX n1 n2 d n o1 o2 c1 c2 a b m (wRow (mulP a b d d)) (d : Int)) (.exit 0) (muZ n1 n2 d n o1 o2 c1 c2 a m (wRow (mulP a b d d))) := by
    have r6 := mu6 n1 n2 d n o1 o2 c1 c2 a b (mulP a b d d) m d
    rw [show decide ((d : Int) < (d : Int)) = false by simp] at r6
    rw [muCode]
    exact (end_rule (C := CmT Try.prog) okmT (f := 28) (B := 2) i1.left r6).seq ((end_rule (C := CmT Try.prog) okmT (f := 28) (B := 2) i1.right.left (muAF n1 n2 d n o1 o2 c1 c2 a b (mulP a b d d) m d)).out (by simp))
  have hl := run_loopC (P := Try.prog) (B := 2) (x := muF1 Try.prog) (e := .exit 0) (by simp) d (fun i => muX n1 n2 d n o1 o2 c1 c2 a b m (wRow (mulP a b d i)) (i : Int)) hr hE
  exact for_rule muFor1 hh hl
/-- Bounds. -/
theorem mulP_bound (a b : Nat → Int) (d : Nat) (ha : ∀ i, i < d → inRg (a i) = true) (hb : ∀ i, i < d → inRg (b i) = true) : ∀ i, i ≤ d → ∀ q, -(20282409603651670423947251286016 * (i : Int)) ≤ mulP a b d i q ∧ mulP a b d i q ≤ 20282409603651670423947251286016 * (i : Int)
  | 0, _, q => ⟨Int.le_refl _, Int.le_refl _⟩
  | i + 1, hi, q => by
    have ih := mulP_bound a b d ha hb i (by omega) q
    show -(20282409603651670423947251286016 * ((i + 1 : Nat) : Int)) ≤ mulP a b d i q + _ ∧ mulP a b d i q + _ ≤ _
    by_cases h : i ≤ q ∧ q < i + d
    · rw [if_pos h]
      have x := inRg_iff.1 (ha i (by omega))
      have y := inRg_iff.1 (hb (q - i) (by omega))
      have p : -20282409603651670423947251286016 ≤ a i * b (q - i) ∧ a i * b (q - i) ≤ 20282409603651670423947251286016 := by
        generalize a i = X at *
        generalize b (q - i) = Y at *
        have h1 : (4503599627370496 - X) * (4503599627370496 - Y) ≥ 0 := Int.mul_nonneg (by omega) (by omega)
        have h2 : (4503599627370496 + X) * (4503599627370496 + Y) ≥ 0 := Int.mul_nonneg (by omega) (by omega)
        have h3 : (4503599627370496 - X) * (4503599627370496 + Y) ≥ 0 := Int.mul_nonneg (by omega) (by omega)
        have h4 : (4503599627370496 + X) * (4503599627370496 - Y) ≥ 0 := Int.mul_nonneg (by omega) (by omega)
        have e1 : (4503599627370496 - X) * (4503599627370496 - Y) = 20282409603651670423947251286016 - 4503599627370496 * X - 4503599627370496 * Y + X * Y := by grind
        have e2 : (4503599627370496 + X) * (4503599627370496 + Y) = 20282409603651670423947251286016 + 4503599627370496 * X + 4503599627370496 * Y + X * Y := by grind
        have e3 : (4503599627370496 - X) * (4503599627370496 + Y) = 20282409603651670423947251286016 - 4503599627370496 * X + 4503599627370496 * Y - X * Y := by grind
        have e4 : (4503599627370496 + X) * (4503599627370496 - Y) = 20282409603651670423947251286016 + 4503599627370496 * X - 4503599627370496 * Y - X * Y := by grind
        omega
      omega
    · rw [if_neg h]
      omega
def mulC (M1 M2 : Int) (c1 c2 : Nat → Int) : Nat → Int := cofE ((mx M1 M2).toNat / 6) (2 * ((mx M1 M2).toNat / 3) - 1) (mulP (fineG ((mx M1 M2).toNat / M1.toNat) c1) (fineG ((mx M1 M2).toNat / M2.toNat) c2) ((mx M1 M2).toNat / 3) ((mx M1 M2).toNat / 3))
theorem cof_bound {e n : Nat} {g : Nat → Int} {B : Int} (hB : 0 ≤ B) (h : ∀ i, -B ≤ g i ∧ g i ≤ B) (q : Nat) : -(4 * B) ≤ cofE e n g q ∧ cofE e n g q ≤ 4 * B := by
  have hz : ∀ i, -B ≤ cut n g i ∧ cut n g i ≤ B := fun i => by
    unfold cut
    by_cases hi : i < n
    · rw [if_pos hi]; exact h i
    · rw [if_neg hi]; omega
  unfold cofE cofZ
  generalize cut n g = z at *
  by_cases hq : q < e
  · rw [if_pos hq]
    have a := hz q
    have b := hz (q + 2 * e)
    have c := hz (q + 3 * e)
    have d := hz (q + 5 * e)
    omega
  · rw [if_neg hq]
    have a := hz q
    have b := hz (q + e)
    have c := hz (q + 3 * e)
    have d := hz (q + 4 * e)
    omega
theorem muSem (n1 n2 : Nat) (o1 o2 : Bool) (M1 M2 : Int) (c1 c2 : Nat → Int) (h1 : frmB M1 n1 c1 = true) (h2 : frmB M2 n2 c2 = true) :
    (allR ((mx M1 M2).toNat / 3) (mulC M1 M2 c1 c2) = true → MemSem Try.prog 28 [.agg #[vI M1, SI 0 n1], .agg #[vI M2, SI 1 n2]] [Ir o1 n1 c1, Ir o2 n2 c2] (rgV (mx M1 M2) (SI 2 ((mx M1 M2).toNat / 3)) 0) [Ir o1 n1 c1, Ir o2 n2 c2, Ir true ((mx M1 M2).toNat / 3) (mulC M1 M2 c1 c2)]) ∧
    (allR ((mx M1 M2).toNat / 3) (mulC M1 M2 c1 c2) = false → MemSem Try.prog 28 [.agg #[vI M1, SI 0 n1], .agg #[vI M2, SI 1 n2]] [Ir o1 n1 c1, Ir o2 n2 c2] (rgE 4) [Ir o1 n1 c1, Ir o2 n2 c2]) := by
  obtain ⟨f1, e1, r1⟩ := frm_fine h1
  obtain ⟨f2, e2, r2⟩ := frm_fine h2
  obtain ⟨fm, _, _⟩ := mx_ok f1 f2
  have body0 : InBody ((CmT Try.prog).into 28 2) (muB Try.prog) := Or.inl ⟨Try.f28, muB Try.prog, Try.func28, mu_eq, fun _ hx => hx⟩
  have hp := muP n1 n2 o1 o2 M1 M2 c1 c2
  obtain ⟨s1, s2, s3, s4⟩ := six fm
  have hc := fine_cases fm
  have ha : ∀ i, i < (mx M1 M2).toNat / 3 → inRg (fineG ((mx M1 M2).toNat / M1.toNat) c1 i) = true := fun i hi => rg_fine r1 (div_lt f1 f2 e1 hi)
  have hb : ∀ i, i < (mx M1 M2).toNat / 3 → inRg (fineG ((mx M1 M2).toNat / M2.toNat) c2 i) = true := fun i hi => rg_fine r2 (div_lt' f1 f2 e2 hi)
  have en : W (W ((((mx M1 M2).toNat / 3 : Nat) : Int) + (((mx M1 M2).toNat / 3 : Nat) : Int)) - 1) = ((2 * ((mx M1 M2).toNat / 3) - 1 : Nat) : Int) := by
    rw [W_in (n := _ + _) (by omega), W_in (by omega)]; omega
  rw [lk3_ok, tII_ok, (sII_ok c1 n1).2, (sII_ok c2 n2).2, h1, h2, en, show mkW ((2 * ((mx M1 M2).toNat / 3) - 1 : Nat) : Int) = true by unfold mkW; simp; omega, Int.toNat_natCast] at hp
  simp only [gd_true] at hp
  have hl := muLoop n1 n2 ((mx M1 M2).toNat / 3) (2 * ((mx M1 M2).toNat / 3) - 1) o1 o2 c1 c2 (fineG ((mx M1 M2).toNat / M1.toNat) c1) (fineG ((mx M1 M2).toNat / M2.toNat) c2) (mx M1 M2) (by omega) (by omega) (fun i hi => i64_rg (ha i hi)) (fun i hi => i64_rg (hb i hi))
  have hbd := mulP_bound (fineG ((mx M1 M2).toNat / M1.toNat) c1) (fineG ((mx M1 M2).toNat / M2.toNat) c2) ((mx M1 M2).toNat / 3) ha hb ((mx M1 M2).toNat / 3) (Nat.le_refl _)
  have hbnd : ∀ q, q < 2 * ((mx M1 M2).toNat / 6) → b127 (mulC M1 M2 c1 c2 q) := fun q _ => by
    have := cof_bound (e := (mx M1 M2).toNat / 6) (n := 2 * ((mx M1 M2).toNat / 3) - 1) (g := mulP (fineG ((mx M1 M2).toNat / M1.toNat) c1) (fineG ((mx M1 M2).toNat / M2.toNat) c2) ((mx M1 M2).toNat / 3) ((mx M1 M2).toNat / 3)) (B := 20282409603651670423947251286016 * 64) (by omega) (fun i => by have := hbd i; omega) q
    unfold b127
    unfold mulC
    omega
  obtain ⟨t1, t2, t3, t4⟩ := told_end (n := 2 * ((mx M1 M2).toNat / 3) - 1) (row := wRow (mulP (fineG ((mx M1 M2).toNat / M1.toNat) c1) (fineG ((mx M1 M2).toNat / M2.toNat) c2) ((mx M1 M2).toNat / 3) ((mx M1 M2).toNat / 3))) s1 fm (by omega) (by omega) (fun _ _ => rfl) hbnd
  rw [← s3] at t3 t4
  have he := muEnd n1 n2 ((mx M1 M2).toNat / 3) (2 * ((mx M1 M2).toNat / 3) - 1) o1 o2 c1 c2 (fineG ((mx M1 M2).toNat / M1.toNat) c1) (mx M1 M2) (wRow (mulP (fineG ((mx M1 M2).toNat / M1.toNat) c1) (fineG ((mx M1 M2).toNat / M2.toNat) c2) ((mx M1 M2).toNat / 3) ((mx M1 M2).toNat / 3)))
  rw [t1, t3] at he
  simp only [gd_true] at he
  refine ⟨fun hA => ?_, fun hA => ?_⟩
  · have hA' : allR ((mx M1 M2).toNat / 3) (cofE ((mx M1 M2).toNat / 6) (2 * ((mx M1 M2).toNat / 3) - 1) (mulP (fineG ((mx M1 M2).toNat / M1.toNat) c1) (fineG ((mx M1 M2).toNat / M2.toNat) c2) ((mx M1 M2).toNat / 3) ((mx M1 M2).toNat / 3))) = true := hA
    rw [hA'] at he
    have code := seg_rule (C := CmT Try.prog) okmT (f := 28) (B := 2) (k := 4) body0 hp (stmt_rule muHas hl (end_rule (C := CmT Try.prog) okmT (f := 28) (B := 2) (bodyOf_in Try.func28 mu_eq) he))
    have sem := (body_mem (m := [Ir o1 n1 c1, Ir o2 n2 c2]) (args := [.agg #[vI M1, SI 0 n1], .agg #[vI M2, SI 1 n2]]) (f := 28) Try.func28 mu_eq (by kernel_rfl) code (muRet n1 n2 o1 o2 c1 c2 _ (mx M1 M2))).tidy (adTidy n1 n2 o1 o2 c1 c2 _ (mx M1 M2))
    refine sem.likes ⟨.refl _, .refl _, .rows fun q hq => ?_, trivial⟩
    show [vI (nar _)] = [vI _]
    rw [t4 q (by omega) (List.all_eq_true.1 hA q (List.mem_range.2 hq))]
    rfl
  · have hA' : allR ((mx M1 M2).toNat / 3) (cofE ((mx M1 M2).toNat / 6) (2 * ((mx M1 M2).toNat / 3) - 1) (mulP (fineG ((mx M1 M2).toNat / M1.toNat) c1) (fineG ((mx M1 M2).toNat / M2.toNat) c2) ((mx M1 M2).toNat / 3) ((mx M1 M2).toNat / 3))) = false := hA
    rw [hA'] at he
    have code := seg_rule (C := CmT Try.prog) okmT (f := 28) (B := 2) (k := 4) body0 hp (stmt_rule muHas hl (end_rule (C := CmT Try.prog) okmT (f := 28) (B := 2) (bodyOf_in Try.func28 mu_eq) he))
    exact (body_mem (m := [Ir o1 n1 c1, Ir o2 n2 c2]) (args := [.agg #[vI M1, SI 0 n1], .agg #[vI M2, SI 1 n2]]) (f := 28) Try.func28 mu_eq (by kernel_rfl) code (muRetE n1 n2 o1 o2 c1 c2 4)).tidy (adTidyE n1 n2 o1 o2 c1 c2 4)
def mulF' : List Value → Mem → Option (Ans (Value × Mem))
  | [.agg a, .agg b], mm => match a.toList, b.toList, mm with
    | [.int .i64 _, .slice none 0 0], [.int .i64 _, .slice none 0 0], [] => some (.out (rgE 3, []))
    | [.int .i64 _, .slice none 0 0], [.int .i64 _, .slice (some ⟨0, 0, some 0⟩) N 1], [.rows own true 1 N2 row] => some (.br (Nat.beq N N2 && okIs N row) (.out (rgE 3, [.rows own true 1 N row])) .fail)
    | [.int .i64 _, .slice (some ⟨0, 0, some 0⟩) N 1], [.int .i64 _, .slice none 0 0], [.rows own true 1 N2 row] => some (.br (Nat.beq N N2 && okIs N row) (.out (rgE 3, [.rows own true 1 N row])) .fail)
    | [.int .i64 M1, .slice (some ⟨0, 0, some 0⟩) N 1], [.int .i64 M2, .slice (some ⟨1, 0, some 0⟩) K 1], [.rows own true 1 N2 row, .rows own2 true 1 K2 row2] => some (.br (Nat.beq N N2 && (okIs N row && (Nat.beq K K2 && okIs K row2))) (.br (frmB M1 N (iOf row)) (.br (frmB M2 K (iOf row2)) (.br (allR ((mx M1 M2).toNat / 3) (mulC M1 M2 (iOf row) (iOf row2)))
        (.out (rgV (mx M1 M2) (SI 2 ((mx M1 M2).toNat / 3)) 0, [.rows own true 1 N row, .rows own2 true 1 K row2, .rows true true 1 ((mx M1 M2).toNat / 3) (iRow (mulC M1 M2 (iOf row) (iOf row2)))]))
        (.out (rgE 4, [.rows own true 1 N row, .rows own2 true 1 K row2]))) (.out (rgE 3, [.rows own true 1 N row, .rows own2 true 1 K row2]))) (.out (rgE 3, [.rows own true 1 N row, .rows own2 true 1 K row2]))) .fail)
    | _, _, _ => none
  | _, _ => none
theorem mulF'_ok {args : List Value} {m : Mem} {ans : Ans (Value × Mem)} {v : Value} {m' : Mem} (h : mulF' args m = some ans) (hr : ans.res = some (v, m')) : MemSem Try.prog 28 args m v m' := by
  unfold mulF' at h
  split at h
  · rename_i mm a b
    split at h
    · rename_i M1 M2 e1 e2
      have ha : a = #[vI M1, .slice none 0 0] := by apply Array.ext'; simpa [vI] using e1
      have hb : b = #[vI M2, .slice none 0 0] := by apply Array.ext'; simpa [vI] using e2
      subst ha hb
      simp only [Option.some.injEq] at h
      subst h
      simp only [Ans.res, Option.some.injEq, Prod.mk.injEq] at hr
      obtain ⟨rfl, rfl⟩ := hr
      exact exT_ok okr8 Try.func28 (by kernel_rfl) (muNN M1 M2)
    · rename_i M1 M2 N own N2 row e1 e2
      have ha : a = #[vI M1, .slice none 0 0] := by apply Array.ext'; simpa [vI] using e1
      have hb : b = #[vI M2, SI 0 N] := by apply Array.ext'; simpa [SI, vI] using e2
      subst ha hb
      simp only [Option.some.injEq] at h
      subst h
      rcases Ans.br_some hr with ⟨hc, g⟩ | ⟨_, g⟩ <;> clear hr
      rotate_left
      · simp [Ans.res] at g
      simp only [Bool.and_eq_true] at hc
      have e1 := Nat.eq_of_beq_eq_true hc.1
      subst e1
      simp only [Ans.res, Option.some.injEq, Prod.mk.injEq] at g
      obtain ⟨rfl, rfl⟩ := g
      have ht := muNL N own M1 M2 (iOf row)
      rw [lk2_ok, (sI_ok _ N).1] at ht
      have l1 : LikeL [.rows own true 1 N row] [Ir own N (iOf row)] := ⟨.rows (is_like hc.2), trivial⟩
      exact (MemSem.like (exT_ok okr8 Try.func28 (by kernel_rfl) ht) l1).likes ⟨.rows fun i hi => (is_like hc.2 i hi).symm, trivial⟩
    · rename_i M1 N M2 own N2 row e1 e2
      have ha : a = #[vI M1, SI 0 N] := by apply Array.ext'; simpa [SI, vI] using e1
      have hb : b = #[vI M2, .slice none 0 0] := by apply Array.ext'; simpa [vI] using e2
      subst ha hb
      simp only [Option.some.injEq] at h
      subst h
      rcases Ans.br_some hr with ⟨hc, g⟩ | ⟨_, g⟩ <;> clear hr
      rotate_left
      · simp [Ans.res] at g
      simp only [Bool.and_eq_true] at hc
      have e1 := Nat.eq_of_beq_eq_true hc.1
      subst e1
      simp only [Ans.res, Option.some.injEq, Prod.mk.injEq] at g
      obtain ⟨rfl, rfl⟩ := g
      have ht := muLN N own M1 M2 (iOf row)
      rw [lk2_ok, (sI_ok _ N).1] at ht
      have l1 : LikeL [.rows own true 1 N row] [Ir own N (iOf row)] := ⟨.rows (is_like hc.2), trivial⟩
      exact (MemSem.like (exT_ok okr8 Try.func28 (by kernel_rfl) ht) l1).likes ⟨.rows fun i hi => (is_like hc.2 i hi).symm, trivial⟩
    · rename_i M1 N M2 K own N2 row own2 K2 row2 e1 e2
      have ha : a = #[vI M1, SI 0 N] := by apply Array.ext'; simpa [SI, vI] using e1
      have hb : b = #[vI M2, SI 1 K] := by apply Array.ext'; simpa [SI, vI] using e2
      subst ha hb
      simp only [Option.some.injEq] at h
      subst h
      rcases Ans.br_some hr with ⟨hc, g⟩ | ⟨_, g⟩ <;> clear hr
      rotate_left
      · simp [Ans.res] at g
      simp only [Bool.and_eq_true] at hc
      obtain ⟨c1, c2, c3, c4⟩ := hc
      have e1 := Nat.eq_of_beq_eq_true c1
      have e2 := Nat.eq_of_beq_eq_true c3
      subst e1 e2
      have l1 : LikeL [.rows own true 1 N row, .rows own2 true 1 K row2] [Ir own N (iOf row), Ir own2 K (iOf row2)] := ⟨.rows (is_like c2), .rows (is_like c4), trivial⟩
      have b1 : Like (Ir own N (iOf row)) (.rows own true 1 N row) := .rows fun i hi => (is_like c2 i hi).symm
      have b2 : Like (Ir own2 K (iOf row2)) (.rows own2 true 1 K row2) := .rows fun i hi => (is_like c4 i hi).symm
      rcases Ans.br_some g with ⟨h1, g1⟩ | ⟨h1, g1⟩ <;> clear g
      · rcases Ans.br_some g1 with ⟨h2, g2⟩ | ⟨h2, g2⟩ <;> clear g1
        · have key := muSem N K own own2 M1 M2 (iOf row) (iOf row2) h1 h2
          rcases Ans.br_some g2 with ⟨h3, g3⟩ | ⟨h3, g3⟩ <;> clear g2 <;> simp only [Ans.res, Option.some.injEq, Prod.mk.injEq] at g3 <;> obtain ⟨rfl, rfl⟩ := g3
          · exact (MemSem.like (key.1 h3) l1).likes ⟨b1, b2, .refl _, trivial⟩
          · exact (MemSem.like (key.2 h3) l1).likes ⟨b1, b2, trivial⟩
        · simp only [Ans.res, Option.some.injEq, Prod.mk.injEq] at g2
          obtain ⟨rfl, rfl⟩ := g2
          have ht := muG N K own own2 M1 M2 (iOf row) (iOf row2)
          rw [lk3_ok, tII_ok, (sII_ok _ N).2, (sII_ok _ K).2, h1, h2] at ht
          exact (MemSem.like (exT_ok okmG Try.func28 (by kernel_rfl) ht) l1).likes ⟨b1, b2, trivial⟩
      · simp only [Ans.res, Option.some.injEq, Prod.mk.injEq] at g1
        obtain ⟨rfl, rfl⟩ := g1
        have ht := muF N K own own2 M1 M2 (iOf row) (iOf row2)
        rw [lk3_ok, tII_ok, (sII_ok _ N).2, h1] at ht
        exact (MemSem.like (exT_ok okmF Try.func28 (by kernel_rfl) ht) l1).likes ⟨b1, b2, trivial⟩
    · cases h
  · cases h
def Cr28 (P : Program) : Cx := (Cr8 P).addM 28 mulF'
theorem okr28 : CxOk (Cr28 Try.prog) := Cx.addM_ok okr8 fun _ _ _ _ _ h hr => mulF'_ok h hr
def Cr9 (P : Program) : Cx := (Cr28 P).lend 28
theorem okr9 : CxOk (Cr9 Try.prog) := Cx.lend_ok okr28 _
end Go.Proofs.Ytjhijkdicmbbiaa


namespace Go.Proofs.Ytjhijkdicmbbiaa
open Go Vx Go.RowKit
def smB (P : Program) : Code := bodyOf P 27
theorem sm_eq : Try.f27.body = some (smB Try.prog) := by kernel_rfl
def smM (n1 n2 : Nat) (o1 o2 : Bool) (M1 M2 : Int) (c1 c2 : Nat → Int) : Mem := [Ir o1 n1 c1, Ir o2 n2 c2, .cells true 0 [vI M1, SI 0 n1], .cells true 0 [vI M2, SI 1 n2]]
def smS (n1 n2 : Nat) (o1 o2 : Bool) (M1 M2 : Int) (c1 c2 : Nat → Int) : St := stOf 38 [(2, pt 2), (3, pt 3), (4, .bool false)] (smM n1 n2 o1 o2 M1 M2 c1 c2)
def smX (n1 n2 : Nat) (o1 o2 : Bool) (c1 c2 : Nat → Int) (t : Bool) : St := stOf 38 [(4, .bool t)] [Ir o1 n1 c1, Ir o2 n2 c2]
def smH (n1 n2 : Nat) (o1 o2 : Bool) (M1 M2 : Int) (c1 c2 : Nat → Int) (i : Int) : St := stOf 38 [(2, pt 2), (3, pt 3), (4, .bool false), (22, vI n1), (23, vI i)] (smM n1 n2 o1 o2 M1 M2 c1 c2)
theorem smP0 (n1 n2 : Nat) (o1 o2 : Bool) (M1 M2 : Int) (c1 c2 : Nat → Int) : segR ((Cr9 Try.prog).into 27 2) 60 1 (smB Try.prog) [2, 3, 4] [.fix 0, .fix 1, .slot 2, .slot 3] (enter Try.f27 [.agg #[vI M1, SI 0 n1], .agg #[vI M2, SI 1 n2]] [Ir o1 n1 c1, Ir o2 n2 c2]) = some (smS n1 n2 o1 o2 M1 M2 c1 c2) := by kernel_rfl
theorem smP1 (n1 n2 : Nat) (o1 o2 : Bool) (M1 M2 : Int) (c1 c2 : Nat → Int) : roundR ((Cr9 Try.prog).into 27 2) 60 (stmt 1 (smB Try.prog)) [2, 3, 4] [4] [.fix 0, .fix 1, .slot 2, .slot 3] [.fix 0, .fix 1] (smS n1 n2 o1 o2 M1 M2 c1 c2) = (match (M1 != M2) with
  | true => some (.ret, smX n1 n2 o1 o2 c1 c2 false)
  | false => match ((n1 : Int) != (n2 : Int)) with
    | true => some (.ret, smX n1 n2 o1 o2 c1 c2 false)
    | false => some (.normal, smS n1 n2 o1 o2 M1 M2 c1 c2)) := by kernel_rfl
theorem smHead (n1 n2 : Nat) (o1 o2 : Bool) (M1 M2 : Int) (c1 c2 : Nat → Int) : roundR ((Cr9 Try.prog).into 27 2) 60 (forHead (stmt 2 (smB Try.prog))) [2, 3, 4, 22, 23] [2, 3, 4, 22, 23] [.fix 0, .fix 1, .slot 2, .slot 3] [.fix 0, .fix 1, .slot 2, .slot 3] (smS n1 n2 o1 o2 M1 M2 c1 c2) = some (.normal, smH n1 n2 o1 o2 M1 M2 c1 c2 0) := by kernel_rfl
theorem smR (n : Nat) (o1 o2 : Bool) (M1 M2 : Int) (c1 c2 : Nat → Int) (i : Nat) : roundR ((Cr9 Try.prog).into 27 2) 60 (forBody (stmt 2 (smB Try.prog))) [2, 3, 4, 22, 23] [4] [.fix 0, .fix 1, .slot 2, .slot 3] [.fix 0, .fix 1] (smH n n o1 o2 M1 M2 c1 c2 (i : Int)) = (match decide ((i : Int) < (n : Int)) with
  | true => gd (boundsI (i : Int) n) (gd (boundsI (i : Int) n) (match (c1 i != c2 i) with
    | true => some (.ret, smX n n o1 o2 c1 c2 false)
    | false => some (.normal, smH n n o1 o2 M1 M2 c1 c2 (W ((i : Int) + 1)))))
  | false => some (.exit 0, smX n n o1 o2 c1 c2 false)) := by kernel_rfl
theorem smEnd (n1 n2 : Nat) (o1 o2 : Bool) (c1 c2 : Nat → Int) : roundR ((Cr9 Try.prog).into 27 2) 60 (seqDrop 3 (smB Try.prog)) [4] [4] [.fix 0, .fix 1] [.fix 0, .fix 1] (smX n1 n2 o1 o2 c1 c2 false) = some (.ret, smX n1 n2 o1 o2 c1 c2 true) := by kernel_rfl
theorem smRet (n1 n2 : Nat) (o1 o2 : Bool) (c1 c2 : Nat → Int) (t : Bool) : (retA Try.prog Try.f27 (.ret, smX n1 n2 o1 o2 c1 c2 t)).res = some (.bool t, [Ir o1 n1 c1, Ir o2 n2 c2]) := by kernel_rfl
theorem smNN (M1 M2 : Int) : exT ((Cr9 Try.prog).at 27) 60 Try.f27 [.agg #[vI M1, .slice none 0 0], .agg #[vI M2, .slice none 0 0]] [] [] = (match (M1 != M2) with
  | true => some (.bool false, [])
  | false => some (.bool true, [])) := by kernel_rfl
theorem smFor : isFor 0 (stmt 2 (smB Try.prog)) = true := by kernel_rfl
theorem smHas : hasStmt 1 (smB Try.prog) = true ∧ hasStmt 2 (smB Try.prog) = true := ⟨by kernel_rfl, by kernel_rfl⟩
theorem smIn : InBody ((Cr9 Try.prog).into 27 2) (forHead (stmt 2 (smB Try.prog))) ∧ InBody ((Cr9 Try.prog).into 27 2) (forBody (stmt 2 (smB Try.prog))) := for_in (C := Cr9 Try.prog) (f := 27) (B := 2) (id := 0) (k := 2) (fn := Try.f27) (b := smB Try.prog) Try.func27 sm_eq smFor
def eqC (n : Nat) (c1 c2 : Nat → Int) : Bool := (List.range n).all fun i => c1 i == c2 i
def smV (M1 M2 : Int) (n1 n2 : Nat) (c1 c2 : Nat → Int) : Bool := (M1 == M2) && (((n1 : Int) == (n2 : Int)) && eqC n1 c1 c2)
theorem smSem (n1 n2 : Nat) (o1 o2 : Bool) (M1 M2 : Int) (c1 c2 : Nat → Int) (hn : n1 ≤ 4611686018427387904) : MemSem Try.prog 27 [.agg #[vI M1, SI 0 n1], .agg #[vI M2, SI 1 n2]] [Ir o1 n1 c1, Ir o2 n2 c2] (.bool (smV M1 M2 n1 n2 c1 c2)) [Ir o1 n1 c1, Ir o2 n2 c2] := by
  have body0 : InBody ((Cr9 Try.prog).into 27 2) (smB Try.prog) := Or.inl ⟨Try.f27, smB Try.prog, Try.func27, sm_eq, fun _ hx => hx⟩
  have fin : ∀ t, CodeSem Try.prog 2 (seqDrop 1 (smB Try.prog)) (smS n1 n2 o1 o2 M1 M2 c1 c2) .ret (smX n1 n2 o1 o2 c1 c2 t) → MemSem Try.prog 27 [.agg #[vI M1, SI 0 n1], .agg #[vI M2, SI 1 n2]] [Ir o1 n1 c1, Ir o2 n2 c2] (.bool t) [Ir o1 n1 c1, Ir o2 n2 c2] := fun t h =>
    body_mem (m := [Ir o1 n1 c1, Ir o2 n2 c2]) (args := [.agg #[vI M1, SI 0 n1], .agg #[vI M2, SI 1 n2]]) (f := 27) Try.func27 sm_eq (by kernel_rfl) (seg_rule (C := Cr9 Try.prog) okr9 (f := 27) (B := 2) (k := 1) body0 (smP0 n1 n2 o1 o2 M1 M2 c1 c2) h) (smRet n1 n2 o1 o2 c1 c2 t)
  have r1 := smP1 n1 n2 o1 o2 M1 M2 c1 c2
  unfold smV
  by_cases hM : M1 = M2
  · rw [show (M1 != M2) = false by simp [hM]] at r1
    rw [show (M1 == M2) = true by simp [hM], Bool.true_and]
    by_cases hN : n1 = n2
    · subst hN
      rw [show ((n1 : Int) != (n1 : Int)) = false by simp] at r1
      rw [show ((n1 : Int) == (n1 : Int)) = true by simp, Bool.true_and]
      have hs := scan_loop (C := Cr9 Try.prog) okr9 (f := 27) (B := 2) (m := 60) smIn.2 (n := n1) (by omega) (smH n1 n1 o1 o2 M1 M2 c1 c2) (fun i => c1 i != c2 i) (fun _ => smX n1 n1 o1 o2 c1 c2 false) 0 (smX n1 n1 o1 o2 c1 c2 false) (fun i _ => by
        have r := smR n1 o1 o2 M1 M2 c1 c2 i
        rw [r]
        cases decide ((i : Int) < (n1 : Int)) with
        | false => rfl
        | true =>
          cases boundsI (i : Int) n1 with
          | false => rfl
          | true => rfl)
      have hh := end_rule (C := Cr9 Try.prog) okr9 (f := 27) (B := 2) smIn.1 (smHead n1 n1 o1 o2 M1 M2 c1 c2)
      have c1' := fun {e s} (h : CodeSem Try.prog 2 (seqDrop 2 (smB Try.prog)) (smS n1 n1 o1 o2 M1 M2 c1 c2) e s) => stmt_rule smHas.1 (end_rule' (C := Cr9 Try.prog) okr9 (f := 27) (B := 2) (stmt_in Try.func27 sm_eq) r1) h
      unfold eqC
      cases hk : fst? (fun i => c1 i != c2 i) n1 0 with
      | none =>
        have hall := fst?_none hk
        rw [show ((List.range n1).all fun i => c1 i == c2 i) = true from List.all_eq_true.2 fun i hi => by
          have := hall i (by omega) (by simpa using hi)
          simpa using this]
        exact fin true (c1' (stmt_rule smHas.2 (for_rule smFor hh (hs.2 hk)) (end_rule (C := Cr9 Try.prog) okr9 (f := 27) (B := 2) (bodyOf_in Try.func27 sm_eq) (smEnd n1 n1 o1 o2 c1 c2))))
      | some k =>
        obtain ⟨_, a, b, _⟩ := fst?_some hk
        rw [show ((List.range n1).all fun i => c1 i == c2 i) = false from by
          cases h : ((List.range n1).all fun i => c1 i == c2 i) with
          | false => rfl
          | true =>
            have := List.all_eq_true.1 h k (List.mem_range.2 (by omega))
            simp only [beq_iff_eq] at this
            simp [this] at b]
        exact fin false (c1' (stmt_out smHas.2 (for_ret smFor hh (hs.1 k hk)) (by simp)))
    · rw [show ((n1 : Int) != (n2 : Int)) = true by simp; omega] at r1
      rw [show ((n1 : Int) == (n2 : Int)) = false by simp; omega, Bool.false_and]
      exact fin false (stmt_out smHas.1 (end_rule' (C := Cr9 Try.prog) okr9 (f := 27) (B := 2) (stmt_in Try.func27 sm_eq) r1) (by simp))
  · rw [show (M1 != M2) = true by simp [hM]] at r1
    rw [show (M1 == M2) = false by simp [hM], Bool.false_and]
    exact fin false (stmt_out smHas.1 (end_rule' (C := Cr9 Try.prog) okr9 (f := 27) (B := 2) (stmt_in Try.func27 sm_eq) r1) (by simp))
end Go.Proofs.Ytjhijkdicmbbiaa


namespace Go.Proofs.Ytjhijkdicmbbiaa
open Go Vx Go.RowKit
def sameRF : List Value → Mem → Option (Ans (Value × Mem))
  | [.agg a, .agg b], mm => match a.toList, b.toList, mm with
    | [.int .i64 M1, .slice none 0 0], [.int .i64 M2, .slice none 0 0], [] => some (.out (.bool (M1 == M2), []))
    | [.int .i64 M1, .slice (some ⟨0, 0, some 0⟩) N 1], [.int .i64 M2, .slice (some ⟨1, 0, some 0⟩) K 1], [.rows own true 1 N2 row, .rows own2 true 1 K2 row2] => some (.br (Nat.beq N N2 && (okIs N row && (Nat.beq K K2 && (okIs K row2 && decide (N ≤ 4611686018427387904))))) (.out (.bool (smV M1 M2 N K (iOf row) (iOf row2)), [.rows own true 1 N row, .rows own2 true 1 K row2])) .fail)
    | _, _, _ => none
  | _, _ => none
theorem sameRF_ok {args : List Value} {m : Mem} {ans : Ans (Value × Mem)} {v : Value} {m' : Mem} (h : sameRF args m = some ans) (hr : ans.res = some (v, m')) : MemSem Try.prog 27 args m v m' := by
  unfold sameRF at h
  split at h
  · rename_i mm a b
    split at h
    · rename_i M1 M2 e1 e2
      have ha : a = #[vI M1, .slice none 0 0] := by apply Array.ext'; simpa [vI] using e1
      have hb : b = #[vI M2, .slice none 0 0] := by apply Array.ext'; simpa [vI] using e2
      subst ha hb
      simp only [Option.some.injEq] at h
      subst h
      simp only [Ans.res, Option.some.injEq, Prod.mk.injEq] at hr
      obtain ⟨rfl, rfl⟩ := hr
      have ht := smNN M1 M2
      have e : (M1 == M2) = !(M1 != M2) := by simp [bne]
      rw [e]
      cases hq : (M1 != M2) with
      | true => rw [hq] at ht; exact exT_ok okr9 Try.func27 (by kernel_rfl) ht
      | false => rw [hq] at ht; exact exT_ok okr9 Try.func27 (by kernel_rfl) ht
    · rename_i M1 N M2 K own N2 row own2 K2 row2 e1 e2
      have ha : a = #[vI M1, SI 0 N] := by apply Array.ext'; simpa [SI, vI] using e1
      have hb : b = #[vI M2, SI 1 K] := by apply Array.ext'; simpa [SI, vI] using e2
      subst ha hb
      simp only [Option.some.injEq] at h
      subst h
      rcases Ans.br_some hr with ⟨hc, g⟩ | ⟨_, g⟩ <;> clear hr
      rotate_left
      · simp [Ans.res] at g
      simp only [Bool.and_eq_true, decide_eq_true_eq] at hc
      obtain ⟨c1, c2, c3, c4, c5⟩ := hc
      have e1 := Nat.eq_of_beq_eq_true c1
      have e2 := Nat.eq_of_beq_eq_true c3
      subst e1 e2
      have l1 : LikeL [.rows own true 1 N row, .rows own2 true 1 K row2] [Ir own N (iOf row), Ir own2 K (iOf row2)] := ⟨.rows (is_like c2), .rows (is_like c4), trivial⟩
      simp only [Ans.res, Option.some.injEq, Prod.mk.injEq] at g
      obtain ⟨rfl, rfl⟩ := g
      exact (MemSem.like (smSem N K own own2 M1 M2 (iOf row) (iOf row2) c5) l1).likes ⟨.rows fun i hi => (is_like c2 i hi).symm, .rows fun i hi => (is_like c4 i hi).symm, trivial⟩
    · cases h
  · cases h
def Cr27 (P : Program) : Cx := (Cr9 P).addM 27 sameRF
theorem okr27 : CxOk (Cr27 Try.prog) := Cx.addM_ok okr9 fun _ _ _ _ _ h hr => sameRF_ok h hr
def CrA (P : Program) : Cx := (Cr27 P).lend 27
theorem okrA : CxOk (CrA Try.prog) := Cx.lend_ok okr27 _
theorem aw15 : exT ((CrA Try.prog).at 26) 200 Try.f26 [] [] [] = some (.bool true, []) := by kernel_rfl
end Go.Proofs.Ytjhijkdicmbbiaa


namespace Go.Proofs.Ytjhijkdicmbbiaa
open Go Vx Go.RowKit
def tmB (P : Program) : Code := bodyOf P 30
theorem tm_eq : Try.f30.body = some (tmB Try.prog) := by kernel_rfl
def tmM (n : Nat) (o : Bool) (c : Nat → Int) (M : Int) : Mem := [Ir o n c, .cells true 0 [vI M, SI 0 n], .cells true 0 [vI 0, .slice none 0 0]]
def tmS (n : Nat) (o : Bool) (c : Nat → Int) (M k : Int) : St := stOf 38 [(0, vI k), (3, pt 1), (4, pt 2), (5, vI 0)] (tmM n o c M)
def tmE (n : Nat) (o : Bool) (c : Nat → Int) (e : Int) : St := stOf 38 [(4, pt 1), (5, vI e)] [Ir o n c, .cells true 0 [vI 0, .slice none 0 0]]
def tmW (n : Nat) (o : Bool) (c : Nat → Int) (M k : Int) (g : Nat → List Value) : St := stOf 38 [(0, vI k), (3, pt 1), (4, pt 2), (5, vI 0), (6, SWb 3 n)] (tmM n o c M ++ [.rows true true 2 n g])
def tmX (n : Nat) (o : Bool) (c : Nat → Int) (M k : Int) (g : Nat → List Value) (i : Int) : St := stOf 38 [(0, vI k), (3, pt 1), (4, pt 2), (5, vI 0), (6, SWb 3 n), (18, SI 0 n), (19, vI n), (20, vI i)] (tmM n o c M ++ [.rows true true 2 n g])
theorem tmP0 (n : Nat) (o : Bool) (c : Nat → Int) (M k : Int) : segR ((CrA Try.prog).into 30 1) 60 1 (tmB Try.prog) [0, 3, 4, 5] [.fix 0, .slot 3, .slot 4] (enter Try.f30 [vI k, .agg #[vI M, SI 0 n]] [Ir o n c]) = some (tmS n o c M k) := by kernel_rfl
theorem tmP1 (n : Nat) (o : Bool) (c : Nat → Int) (M k : Int) : roundR ((CrA Try.prog).into 30 1) 60 (stmt 1 (tmB Try.prog)) [0, 3, 4, 5] [4, 5] [.fix 0, .slot 3, .slot 4] [.fix 0, .slot 4] (tmS n o c M k) = gd (lk2 n) (gd (tI n (sI c)) (match !frmB M n (iOf (sI c)) with
  | true => some (.ret, tmE n o c 3)
  | false => some (.normal, tmS n o c M k))) := by kernel_rfl
theorem tmP2 (n : Nat) (o : Bool) (c : Nat → Int) (M k : Int) : segR ((CrA Try.prog).into 30 1) 60 1 (seqDrop 2 (tmB Try.prog)) [0, 3, 4, 5, 6] [.fix 0, .slot 3, .slot 4, .slot 6] (tmS n o c M k) = gd (mkW (n : Int)) (some (tmW n o c M k zR)) := by kernel_rfl
def spT : List From := [.fix 0, .slot 3, .slot 4, .slot 6]
theorem tmHead (n : Nat) (o : Bool) (c : Nat → Int) (M k : Int) : roundR ((CrA Try.prog).into 30 1) 60 (forHead (stmt 3 (tmB Try.prog))) [0, 3, 4, 5, 6, 18, 19, 20] [0, 3, 4, 5, 6, 18, 19, 20] spT spT (tmW n o c M k zR) = some (.normal, tmX n o c M k zR 0) := by kernel_rfl
theorem tmR (n : Nat) (o : Bool) (c g : Nat → Int) (M k i : Int) : roundR ((CrA Try.prog).into 30 1) 60 (forBody (stmt 3 (tmB Try.prog))) [0, 3, 4, 5, 6, 18, 19, 20] [0, 3, 4, 5, 6] spT spT (tmX n o c M k (wRow g) i) = (match decide (i < (n : Int)) with
  | true => gd (boundsI i n) (gd (i64B k && i64B (c i.toNat)) (gd (boundsI i n) (some (.normal, tmX n o c M k (stR (wRow g) i.toNat (w2 (k * c i.toNat))) (W (i + 1))))))
  | false => some (.exit 0, tmW n o c M k (wRow g))) := by kernel_rfl
def tmY (n : Nat) (o : Bool) (c f : Nat → Int) (m : Int) : St := stOf 38 [(4, pt 1), (5, vI 0)] [Ir o n c, .cells true 0 [vI m, SI 2 (m.toNat / 3)], .rows true true 1 (m.toNat / 3) (iRow f)]
def tmF (n : Nat) (o : Bool) (c : Nat → Int) (e : Int) : St := stOf 38 [(4, pt 1), (5, vI e)] [Ir o n c, .cells true 0 [vI 0, .slice none 0 0], .no]
theorem tmEnd (n : Nat) (o : Bool) (c : Nat → Int) (M k : Int) (g : Nat → List Value) : roundR ((CrA Try.prog).into 30 1) 60 (seqDrop 4 (tmB Try.prog)) [4, 5] [4, 5] [.fix 0, .slot 4, .cell 2 1] [.fix 0, .slot 4, .cell 2 1] (tmW n o c M k g) = gd (shQ n M g) (match allF (M.toNat / 3) (cofG n (M.toNat / 3) (gOf g)) with
  | true => some (.ret, tmY n o c (fun i => nar (cofG n (M.toNat / 3) (gOf g) i)) M)
  | false => some (.ret, tmF n o c 4)) := by kernel_rfl
theorem tmRet (n : Nat) (o : Bool) (c f : Nat → Int) (m : Int) : (retA Try.prog Try.f30 (.ret, tmY n o c f m)).res = some (rgV m (SI 2 (m.toNat / 3)) 0, [Ir o n c, .cells true 0 [vI m, SI 2 (m.toNat / 3)], .rows true true 1 (m.toNat / 3) (iRow f)]) := by kernel_rfl
theorem tmTidy (n : Nat) (o : Bool) (c f : Nat → Int) (m : Int) : (tidyA 1 [.fix 0, .cell 1 1] (rgV m (SI 2 (m.toNat / 3)) 0, [Ir o n c, .cells true 0 [vI m, SI 2 (m.toNat / 3)], .rows true true 1 (m.toNat / 3) (iRow f)])).res = some (rgV m (SI 1 (m.toNat / 3)) 0, [Ir o n c, .rows true true 1 (m.toNat / 3) (iRow f)]) := by kernel_rfl
theorem tmRetF (n : Nat) (o : Bool) (c : Nat → Int) (e : Int) : (retA Try.prog Try.f30 (.ret, tmF n o c e)).res = some (rgE e, [Ir o n c, .cells true 0 [vI 0, .slice none 0 0], .no]) := by kernel_rfl
theorem tmTidyF (n : Nat) (o : Bool) (c : Nat → Int) (e : Int) : (tidyA 1 [.fix 0] (rgE e, [Ir o n c, .cells true 0 [vI 0, .slice none 0 0], .no])).res = some (rgE e, [Ir o n c]) := by kernel_rfl
theorem tmRetE (n : Nat) (o : Bool) (c : Nat → Int) (e : Int) : (retA Try.prog Try.f30 (.ret, tmE n o c e)).res = some (rgE e, [Ir o n c, .cells true 0 [vI 0, .slice none 0 0]]) := by kernel_rfl
theorem tmTidyE (n : Nat) (o : Bool) (c : Nat → Int) (e : Int) : (tidyA 1 [.fix 0] (rgE e, [Ir o n c, .cells true 0 [vI 0, .slice none 0 0]])).res = some (rgE e, [Ir o n c]) := by kernel_rfl
theorem tmN (M k : Int) : exT ((CrA Try.prog).at 30) 60 Try.f30 [vI k, .agg #[vI M, .slice none 0 0]] [] [] = some (rgE 3, []) := by kernel_rfl
theorem tmFor : isFor 0 (stmt 3 (tmB Try.prog)) = true := by kernel_rfl
theorem tmHas : hasStmt 1 (tmB Try.prog) = true ∧ hasStmt 3 (tmB Try.prog) = true := ⟨by kernel_rfl, by kernel_rfl⟩
theorem tmIn : InBody ((CrA Try.prog).into 30 1) (forHead (stmt 3 (tmB Try.prog))) ∧ InBody ((CrA Try.prog).into 30 1) (forBody (stmt 3 (tmB Try.prog))) := for_in (C := CrA Try.prog) (f := 30) (B := 1) (id := 0) (k := 3) (fn := Try.f30) (b := tmB Try.prog) Try.func30 tm_eq tmFor
end Go.Proofs.Ytjhijkdicmbbiaa


namespace Go.Proofs.Ytjhijkdicmbbiaa
open Go Vx Go.RowKit
theorem tmBody0 {n : Nat} {o : Bool} {c : Nat → Int} {M k : Int} {e : Exit} {s : St} (h : CodeSem Try.prog 1 (seqDrop 1 (tmB Try.prog)) (tmS n o c M k) e s) : CodeSem Try.prog 1 (tmB Try.prog) (enter Try.f30 [vI k, .agg #[vI M, SI 0 n]] [Ir o n c]) e s :=
  seg_rule (C := CrA Try.prog) okrA (f := 30) (B := 1) (k := 1) (Or.inl ⟨Try.f30, tmB Try.prog, Try.func30, tm_eq, fun _ hx => hx⟩) (tmP0 n o c M k) h
theorem tmP1' (n : Nat) (o : Bool) (c : Nat → Int) (M k : Int) : roundR ((CrA Try.prog).into 30 1) 60 (stmt 1 (tmB Try.prog)) [0, 3, 4, 5] [4, 5] [.fix 0, .slot 3, .slot 4] [.fix 0, .slot 4] (tmS n o c M k) = (match !frmB M n c with
  | true => some (.ret, tmE n o c 3)
  | false => some (.normal, tmS n o c M k)) := by
  have r := tmP1 n o c M k
  rw [lk2_ok, (sI_ok c n).1, (sI_ok c n).2] at r
  exact r
theorem tmFalse (n : Nat) (o : Bool) (c : Nat → Int) (M k : Int) (h : frmB M n c = false) : MemSem Try.prog 30 [vI k, .agg #[vI M, SI 0 n]] [Ir o n c] (rgE 3) [Ir o n c] := by
  have r := tmP1' n o c M k
  rw [h] at r
  exact (body_mem (m := [Ir o n c]) (args := [vI k, .agg #[vI M, SI 0 n]]) (f := 30) Try.func30 tm_eq (by kernel_rfl) (tmBody0 (stmt_out tmHas.1 (end_rule' (C := CrA Try.prog) okrA (f := 30) (B := 1) (stmt_in Try.func30 tm_eq) r) (by simp))) (tmRetE n o c 3)).tidy (tmTidyE n o c 3)
def timesC (k : Int) (c : Nat → Int) : Nat → Int := fun i => k * c i
theorem tmLoop (n : Nat) (o : Bool) (c : Nat → Int) (M k : Int) (hn : n ≤ 1048576) (hk : i64B k = true) (hc : ∀ i, i < n → i64B (c i) = true) : CodeSem Try.prog 1 (stmt 3 (tmB Try.prog)) (tmW n o c M k zR) .normal (tmW n o c M k (wRow (sumP (timesC k c) n))) := by
  have hh := end_rule (C := CrA Try.prog) okrA (f := 30) (B := 1) tmIn.1 (tmHead n o c M k)
  have hr : ∀ i, i < n → ∃ s, roundR ((CrA Try.prog).into 30 1) 60 (forBody (stmt 3 (tmB Try.prog))) [0, 3, 4, 5, 6, 18, 19, 20] [0, 3, 4, 5, 6] spT spT (tmX n o c M k (wRow (sumP (timesC k c) i)) (i : Int)) = some (.normal, s) ∧ StLike s (tmX n o c M k (wRow (sumP (timesC k c) (i + 1))) ((i + 1 : Nat) : Int)) := fun i hi => by
    have r := tmR n o c (sumP (timesC k c) i) M k i
    rw [show decide ((i : Int) < (n : Int)) = true by simp; omega, boundsI_ok (n := n) (i := (i : Int)) (by omega)] at r
    simp only [gd_true, Int.toNat_natCast, hk, hc i hi, Bool.and_self] at r
    refine ⟨_, r, ?_⟩
    rw [show W ((i : Int) + 1) = ((i + 1 : Nat) : Int) by rw [W_in (by omega)]; simp]
    refine ⟨rfl, .refl _, .refl _, .refl _, .rows fun q _ => ?_, trivial⟩
    rw [stR_w]
    exact congrFun (congrArg wRow (funext fun q => sumP_step (timesC k c) i q)) q
  have hE := tmR n o c (sumP (timesC k c) n) M k n
  rw [show decide ((n : Int) < (n : Int)) = false by simp] at hE
  have hl := run_loop (C := CrA Try.prog) okrA (f := 30) (B := 1) (m := 60) tmIn.2 (by simp) n (fun i => tmX n o c M k (wRow (sumP (timesC k c) i)) (i : Int)) hr hE
  rw [sumP_none] at hl
  exact for_rule tmFor hh hl
theorem times_bound {k x : Int} (hk : i64B k = true) (hx : inRg x = true) : b127 (k * x) := by
  have a := i64B_iff.1 hk
  have b := inRg_iff.1 hx
  unfold b127
  have h1 : (9223372036854775808 - k) * (4503599627370496 - x) ≥ 0 := Int.mul_nonneg (by omega) (by omega)
  have h2 : (9223372036854775808 + k) * (4503599627370496 + x) ≥ 0 := Int.mul_nonneg (by omega) (by omega)
  have h3 : (9223372036854775808 - k) * (4503599627370496 + x) ≥ 0 := Int.mul_nonneg (by omega) (by omega)
  have h4 : (9223372036854775808 + k) * (4503599627370496 - x) ≥ 0 := Int.mul_nonneg (by omega) (by omega)
  have e1 : (9223372036854775808 - k) * (4503599627370496 - x) = 41538374868278621028243970633760768 - 4503599627370496 * k - 9223372036854775808 * x + k * x := by grind
  have e2 : (9223372036854775808 + k) * (4503599627370496 + x) = 41538374868278621028243970633760768 + 4503599627370496 * k + 9223372036854775808 * x + k * x := by grind
  have e3 : (9223372036854775808 - k) * (4503599627370496 + x) = 41538374868278621028243970633760768 - 4503599627370496 * k + 9223372036854775808 * x - k * x := by grind
  have e4 : (9223372036854775808 + k) * (4503599627370496 - x) = 41538374868278621028243970633760768 + 4503599627370496 * k - 9223372036854775808 * x - k * x := by grind
  generalize k * x = p at *
  omega
theorem tmTrue (n : Nat) (o : Bool) (c : Nat → Int) (M k : Int) (h : frmB M n c = true) (hk : i64B k = true) :
    (allR n (timesC k c) = true → MemSem Try.prog 30 [vI k, .agg #[vI M, SI 0 n]] [Ir o n c] (rgV M (SI 1 (M.toNat / 3)) 0) [Ir o n c, Ir true (M.toNat / 3) (timesC k c)]) ∧
    (allR n (timesC k c) = false → MemSem Try.prog 30 [vI k, .agg #[vI M, SI 0 n]] [Ir o n c] (rgE 4) [Ir o n c]) := by
  obtain ⟨f1, e1, r1⟩ := frm_fine h
  obtain ⟨s1, s2, s3, s4⟩ := six f1
  have hc := fine_cases f1
  have hn : n = M.toNat / 3 := by omega
  have rg : ∀ i, i < n → inRg (c i) = true := fun i hi => List.all_eq_true.1 r1 i (List.mem_range.2 hi)
  have p1 := tmP1' n o c M k
  rw [h] at p1
  have p2 := tmP2 n o c M k
  rw [show mkW (n : Int) = true by unfold mkW; simp; omega] at p2
  simp only [gd_true] at p2
  have hl := tmLoop n o c M k (by omega) hk (fun i hi => i64_rg (rg i hi))
  have low : ∀ q, q < 2 * (M.toNat / 6) → cofE (M.toNat / 6) (2 * (M.toNat / 6)) (sumP (timesC k c) n) q = timesC k c q := fun q hq => by
    show cofZ _ _ _ = _
    rw [cof_low _ hq]
    unfold sumP
    rw [if_pos (by omega)]
  have hbnd : ∀ q, q < 2 * (M.toNat / 6) → b127 (cofE (M.toNat / 6) (2 * (M.toNat / 6)) (sumP (timesC k c) n) q) := fun q hq => by
    rw [low q hq]
    exact times_bound hk (rg q (by omega))
  obtain ⟨t1, t2, t3, t4⟩ := told_end (n := 2 * (M.toNat / 6)) (row := wRow (sumP (timesC k c) n)) s1 f1 (Nat.le_refl _) (by omega) (fun _ _ => rfl) hbnd
  rw [← s3] at t1 t3 t4 low
  rw [← hn] at t1 t3 t4 low
  have t3' : allF n (cofG n n (gOf (wRow (sumP (timesC k c) n)))) = allR n (timesC k c) := by
    rw [t3]
    unfold allR
    rw [Bool.eq_iff_iff, List.all_eq_true, List.all_eq_true]
    exact ⟨fun h i hi => by rw [← low i (List.mem_range.1 hi)]; exact h i hi, fun h i hi => by rw [low i (List.mem_range.1 hi)]; exact h i hi⟩
  have he := tmEnd n o c M k (wRow (sumP (timesC k c) n))
  rw [← hn, t1, t3'] at he
  simp only [gd_true] at he
  have front : ∀ {s}, CodeSem Try.prog 1 (seqDrop 4 (tmB Try.prog)) (tmW n o c M k (wRow (sumP (timesC k c) n))) .ret s → CodeSem Try.prog 1 (tmB Try.prog) (enter Try.f30 [vI k, .agg #[vI M, SI 0 n]] [Ir o n c]) .ret s := fun hs =>
    tmBody0 (stmt_rule tmHas.1 (end_rule' (C := CrA Try.prog) okrA (f := 30) (B := 1) (stmt_in Try.func30 tm_eq) p1) (seg_rule (C := CrA Try.prog) okrA (f := 30) (B := 1) (k := 1) (bodyOf_in Try.func30 tm_eq) p2 (by rw [seqDrop_drop]; exact stmt_rule tmHas.2 hl hs)))
  refine ⟨fun hA => ?_, fun hA => ?_⟩
  · rw [hA] at he
    have sem := (body_mem (m := [Ir o n c]) (args := [vI k, .agg #[vI M, SI 0 n]]) (f := 30) Try.func30 tm_eq (by kernel_rfl) (front (end_rule (C := CrA Try.prog) okrA (f := 30) (B := 1) (bodyOf_in Try.func30 tm_eq) he)) (tmRet n o c _ M)).tidy (tmTidy n o c _ M)
    refine sem.likes ⟨.refl _, .rows fun q hq => ?_, trivial⟩
    show [vI (nar _)] = [vI _]
    have := t4 q (by omega)
    rw [low q (by omega)] at this
    rw [this (List.all_eq_true.1 hA q (List.mem_range.2 (by omega)))]
  · rw [hA] at he
    exact (body_mem (m := [Ir o n c]) (args := [vI k, .agg #[vI M, SI 0 n]]) (f := 30) Try.func30 tm_eq (by kernel_rfl) (front (end_rule (C := CrA Try.prog) okrA (f := 30) (B := 1) (bodyOf_in Try.func30 tm_eq) he)) (tmRetF n o c 4)).tidy (tmTidyF n o c 4)
def timesF : List Value → Mem → Option (Ans (Value × Mem))
  | [.int .i64 k, .agg a], mm => match a.toList, mm with
    | [.int .i64 _, .slice none 0 0], [] => some (.out (rgE 3, []))
    | [.int .i64 M, .slice (some ⟨0, 0, some 0⟩) N 1], [.rows own true 1 N2 row] => some (.br (i64B k && (Nat.beq N N2 && okIs N row)) (.br (frmB M N (iOf row)) (.br (allR N (timesC k (iOf row))) (.out (rgV M (SI 1 (M.toNat / 3)) 0, [.rows own true 1 N row, .rows true true 1 (M.toNat / 3) (iRow (timesC k (iOf row)))])) (.out (rgE 4, [.rows own true 1 N row]))) (.out (rgE 3, [.rows own true 1 N row]))) .fail)
    | _, _ => none
  | _, _ => none
theorem timesF_ok {args : List Value} {m : Mem} {ans : Ans (Value × Mem)} {v : Value} {m' : Mem} (h : timesF args m = some ans) (hr : ans.res = some (v, m')) : MemSem Try.prog 30 args m v m' := by
  unfold timesF at h
  split at h
  · rename_i mm k a
    split at h
    · rename_i M e1
      have ha : a = #[vI M, .slice none 0 0] := by apply Array.ext'; simpa [vI] using e1
      subst ha
      simp only [Option.some.injEq] at h
      subst h
      simp only [Ans.res, Option.some.injEq, Prod.mk.injEq] at hr
      obtain ⟨rfl, rfl⟩ := hr
      exact exT_ok okrA Try.func30 (by kernel_rfl) (tmN M k)
    · rename_i M N own N2 row e1
      have ha : a = #[vI M, SI 0 N] := by apply Array.ext'; simpa [SI, vI] using e1
      subst ha
      simp only [Option.some.injEq] at h
      subst h
      rcases Ans.br_some hr with ⟨hc, g⟩ | ⟨_, g⟩ <;> clear hr
      rotate_left
      · simp [Ans.res] at g
      simp only [Bool.and_eq_true] at hc
      obtain ⟨ck, c1, c2⟩ := hc
      have e1 := Nat.eq_of_beq_eq_true c1
      subst e1
      have l1 : LikeL [.rows own true 1 N row] [Ir own N (iOf row)] := ⟨.rows (is_like c2), trivial⟩
      have b1 : Like (Ir own N (iOf row)) (.rows own true 1 N row) := .rows fun i hi => (is_like c2 i hi).symm
      rcases Ans.br_some g with ⟨h1, g1⟩ | ⟨h1, g1⟩ <;> clear g
      · have key := tmTrue N own (iOf row) M k h1 ck
        rcases Ans.br_some g1 with ⟨h3, g3⟩ | ⟨h3, g3⟩ <;> clear g1 <;> simp only [Ans.res, Option.some.injEq, Prod.mk.injEq] at g3 <;> obtain ⟨rfl, rfl⟩ := g3
        · exact (MemSem.like (key.1 h3) l1).likes ⟨b1, .refl _, trivial⟩
        · exact (MemSem.like (key.2 h3) l1).likes ⟨b1, trivial⟩
      · simp only [Ans.res, Option.some.injEq, Prod.mk.injEq] at g1
        obtain ⟨rfl, rfl⟩ := g1
        exact (MemSem.like (tmFalse N own (iOf row) M k h1) l1).likes ⟨b1, trivial⟩
    · cases h
  · cases h
def Cr30 (P : Program) : Cx := (CrA P).addM 30 timesF
theorem okr30 : CxOk (Cr30 Try.prog) := Cx.addM_ok okrA fun _ _ _ _ _ h hr => timesF_ok h hr
def CrB (P : Program) : Cx := (Cr30 P).lend 30
theorem okrB : CxOk (CrB Try.prog) := Cx.lend_ok okr30 _
end Go.Proofs.Ytjhijkdicmbbiaa


namespace Go.Proofs.Ytjhijkdicmbbiaa
open Go Vx Go.RowKit
def and52 (x : Int) : Int := W ((BitVec.ofInt IntKind.i64.bits x &&& BitVec.ofInt IntKind.i64.bits 4503599627370495).toNat : Int)
theorem and52_eq (x : Int) : and52 x = x % 4503599627370496 := by
  unfold and52
  rw [BitVec.toNat_and]
  have e1 : (BitVec.ofInt IntKind.i64.bits x).toNat = (x % 18446744073709551616).toNat := by
    rw [BitVec.toNat_ofInt]; rfl
  have e2 : (BitVec.ofInt IntKind.i64.bits 4503599627370495).toNat = 2 ^ 52 - 1 := by decide
  rw [e1, e2, Nat.and_two_pow_sub_one_eq_mod, W_in (by omega)]
  omega
theorem fdiv52 (x : Int) : x.fdiv 4503599627370496 = x / 4503599627370496 := by
  rw [Int.fdiv_eq_ediv_of_nonneg _ (by decide)]
/-- A whole number as the document has it. -/
def wD (v : Int) : Value := .agg #[vI (v / 4503599627370496), vI (v % 4503599627370496)]
def decD (h l : Int) : Int := h * 4503599627370496 + l
theorem e110 (n : Int) : exFun ((CrB Try.prog).at 110) 60 Try.f110 [vI n] = some (.agg #[vI (W (0 + n.fdiv 4503599627370496)), vI (and52 n)]) := by kernel_rfl
def F110 : List Value → Option (Bool × Value)
  | [.int .i64 n] => some (i64B n, wD n)
  | _ => none
def Cr110 (P : Program) : Cx := (CrB P).addR 110 F110
theorem okr110 : CxOk (Cr110 Try.prog) := Cx.addRa_ok okrB (n := 60) Try.func110 (by kernel_rfl) fun args v h => by
  unfold F110 at h
  split at h
  · rename_i n
    simp only [Option.some.injEq, Prod.mk.injEq] at h
    obtain ⟨h0, rfl⟩ := h
    have := i64B_iff.1 h0
    refine (e110 n).trans ?_
    rw [fdiv52, and52_eq, W_in (by omega), Int.zero_add]
    rfl
  · cases h
def okD (h l : Int) : Bool := (decide (-2305843009213693952 ≤ h) && decide (h ≤ 2305843009213693952)) && (decide (0 ≤ l) && decide (l < 4503599627370496))
theorem okD_iff {h l : Int} : okD h l = true ↔ (-2305843009213693952 ≤ h ∧ h ≤ 2305843009213693952) ∧ (0 ≤ l ∧ l < 4503599627370496) := by simp [okD]
theorem e103 (h l h2 l2 n : Int) : exFun ((Cr110 Try.prog).at 103) 60 Try.f103 [.agg #[vI h, vI l], vI n, .agg #[vI h2, vI l2]] = some (.agg #[vI (W (W (h + W (n * h2)) + (W (l + W (n * l2))).fdiv 4503599627370496)), vI (and52 (W (l + W (n * l2))))]) := by kernel_rfl
def F103 : List Value → Option (Bool × Value)
  | [.agg a, .int .i64 n, .agg b] => match a.toList, b.toList with
    | [.int .i64 h1, .int .i64 l1], [.int .i64 h2, .int .i64 l2] => some (okD h1 l1 && (okD h2 l2 && ((n == 1) || (n == -1))), wD (decD h1 l1 + n * decD h2 l2))
    | _, _ => none
  | _ => none
def Cr103 (P : Program) : Cx := (Cr110 P).addR 103 F103
theorem okr103 : CxOk (Cr103 Try.prog) := Cx.addRa_ok okr110 (n := 60) Try.func103 (by kernel_rfl) fun args v h => by
  unfold F103 at h
  split at h
  · rename_i a n b
    split at h
    · rename_i h1 l1 h2 l2 ea eb
      simp only [Option.some.injEq, Prod.mk.injEq, Bool.and_eq_true, Bool.or_eq_true, beq_iff_eq] at h
      obtain ⟨⟨c1, c2, c3⟩, rfl⟩ := h
      have ha : a = #[.int .i64 h1, .int .i64 l1] := by apply Array.ext'; simpa using ea
      have hb : b = #[.int .i64 h2, .int .i64 l2] := by apply Array.ext'; simpa using eb
      subst ha hb
      rw [okD_iff] at c1 c2
      refine (e103 h1 l1 h2 l2 n).trans ?_
      rw [and52_eq, fdiv52]
      unfold wD decD
      rcases c3 with h | h <;> subst h
      · rw [Int.one_mul, Int.one_mul, Int.one_mul, W_in (n := h2) (by omega), W_in (n := l2) (by omega), W_in (n := h1 + h2) (by omega), W_in (n := l1 + l2) (by omega), W_in (by omega)]
        rw [show (h1 * 4503599627370496 + l1 + (h2 * 4503599627370496 + l2)) / 4503599627370496 = h1 + h2 + (l1 + l2) / 4503599627370496 by omega, show (h1 * 4503599627370496 + l1 + (h2 * 4503599627370496 + l2)) % 4503599627370496 = (l1 + l2) % 4503599627370496 by omega]
      · rw [show (-1 : Int) * h2 = -h2 by omega, show (-1 : Int) * l2 = -l2 by omega, W_in (n := -h2) (by omega), W_in (n := -l2) (by omega), W_in (n := h1 + -h2) (by omega), W_in (n := l1 + -l2) (by omega), W_in (by omega)]
        rw [show (h1 * 4503599627370496 + l1 + -1 * (h2 * 4503599627370496 + l2)) / 4503599627370496 = h1 + -h2 + (l1 + -l2) / 4503599627370496 by omega, show (h1 * 4503599627370496 + l1 + -1 * (h2 * 4503599627370496 + l2)) % 4503599627370496 = (l1 + -l2) % 4503599627370496 by omega]
    · cases h
  · cases h
theorem e141 (h l : Int) : exFun ((Cr103 Try.prog).at 141) 60 Try.f141 [.agg #[vI h, vI l]] = (match h == 0 with
  | true => some (.tuple #[vI (W (W (h * 4503599627370496) + l)), .bool true])
  | false => match h == -1 with
    | true => some (.tuple #[vI (W (W (h * 4503599627370496) + l)), .bool true])
    | false => match h == 1 with
      | true => match l == 0 with
        | true => some (.tuple #[vI 4503599627370496, .bool true])
        | false => some (.tuple #[vI 0, .bool false])
      | false => some (.tuple #[vI 0, .bool false])) := by kernel_rfl
def smD (v : Int) : Value := .tuple #[vI (if inRg v = true then v else 0), .bool (inRg v)]
def F141 : List Value → Option (Bool × Value)
  | [.agg a] => match a.toList with
    | [.int .i64 h, .int .i64 l] => some (okD h l, smD (decD h l))
    | _ => none
  | _ => none
def Cr141 (P : Program) : Cx := (Cr103 P).addR 141 F141
theorem okr141 : CxOk (Cr141 Try.prog) := Cx.addRa_ok okr103 (n := 60) Try.func141 (by kernel_rfl) fun args v h => by
  unfold F141 at h
  split at h
  · rename_i a
    split at h
    · rename_i h1 l1 ea
      simp only [Option.some.injEq, Prod.mk.injEq] at h
      obtain ⟨c1, rfl⟩ := h
      have ha : a = #[.int .i64 h1, .int .i64 l1] := by apply Array.ext'; simpa using ea
      subst ha
      rw [okD_iff] at c1
      refine (e141 h1 l1).trans ?_
      unfold smD
      by_cases h0 : h1 = 0
      · rw [show (h1 == 0) = true by simpa using h0]
        have hr : inRg (decD h1 l1) = true := inRg_iff.2 (by unfold decD; omega)
        rw [hr, if_pos rfl, W_in (n := h1 * _) (by omega), W_in (by omega)]
        rfl
      · rw [show (h1 == 0) = false by simpa using h0]
        by_cases hm : h1 = -1
        · rw [show (h1 == -1) = true by simpa using hm]
          have hr : inRg (decD h1 l1) = true := inRg_iff.2 (by unfold decD; omega)
          rw [hr, if_pos rfl, W_in (n := h1 * _) (by omega), W_in (by omega)]
          rfl
        · rw [show (h1 == -1) = false by simpa using hm]
          by_cases hp : h1 = 1
          · rw [show (h1 == 1) = true by simpa using hp]
            by_cases hl : l1 = 0
            · rw [show (l1 == 0) = true by simpa using hl]
              have e : decD h1 l1 = 4503599627370496 := by unfold decD; omega
              rw [e]
              rfl
            · rw [show (l1 == 0) = false by simpa using hl]
              have hr : inRg (decD h1 l1) = false := by
                cases h : inRg (decD h1 l1) with
                | false => rfl
                | true => have := inRg_iff.1 h; unfold decD at this; omega
              rw [hr]
              rfl
          · rw [show (h1 == 1) = false by simpa using hp]
            have hr : inRg (decD h1 l1) = false := by
              cases h : inRg (decD h1 l1) with
              | false => rfl
              | true => have := inRg_iff.1 h; unfold decD at this; omega
            rw [hr]
            rfl
    · cases h
  · cases h
end Go.Proofs.Ytjhijkdicmbbiaa


namespace Go.Proofs.Ytjhijkdicmbbiaa
open Go Vx Go.RowKit
def Cd0 (P : Program) : Cx := Cr141 P
def mdB (P : Program) : Code := bodyOf P 104
theorem md_eq : Try.f104.body = some (mdB Try.prog) := by kernel_rfl
/-- Rows of the document's whole numbers. -/
def dRow (g : Nat → Int) : Nat → List Value := fun i => [vI (g i / 4503599627370496), vI (g i % 4503599627370496)]
def zD : Nat → List Value := fun _ => [vI 0, vI 0]
def d2 (v : Int) : List Value := [vI (v / 4503599627370496), vI (v % 4503599627370496)]
abbrev Dr (own : Bool) (n : Nat) (g : Nat → List Value) : Blk := .rows own true 2 n g
def mdM (N K : Nat) (o : Bool) (l : Nat → Int) (f : Nat → List Value) : Mem := [Dr o N (dRow l), .cells true 0 [vI 0, .slice none 0 0], Dr true K f]
def mdS (N K : Nat) (o : Bool) (l : Nat → Int) (m d : Int) (f : Nat → List Value) : St := stOf 112 [(0, vI m), (1, SW N), (4, pt 1), (5, vI 0), (6, vI d), (7, SWb 2 K)] (mdM N K o l f)
def mdX1 (N K : Nat) (o : Bool) (l : Nat → Int) (m d : Int) (f : Nat → List Value) (i : Int) : St := stOf 112 [(0, vI m), (4, pt 1), (5, vI 0), (6, vI d), (7, SWb 2 K), (20, SW N), (21, vI N), (22, vI i)] (mdM N K o l f)
def spD : List From := [.fix 0, .slot 4, .slot 7]
theorem mdP0 (N : Nat) (o : Bool) (l : Nat → Int) (m : Int) : segR ((Cd0 Try.prog).into 104 1) 60 3 (mdB Try.prog) [0, 1, 4, 5, 6, 7] spD (enter Try.f104 [vI m, SW N] [Dr o N (dRow l)]) = gd (mkW m) (some (mdS N m.toNat o l m (W (m.tdiv 3)) zD)) := by kernel_rfl
theorem mdH1 (N K : Nat) (o : Bool) (l : Nat → Int) (m d : Int) : roundR ((Cd0 Try.prog).into 104 1) 60 (forHead (stmt 3 (mdB Try.prog))) [0, 4, 5, 6, 7, 20, 21, 22] [0, 4, 5, 6, 7, 20, 21, 22] spD spD (mdS N K o l m d zD) = some (.normal, mdX1 N K o l m d zD 0) := by kernel_rfl
def mdS2 (N K : Nat) (o : Bool) (l : Nat → Int) (m d : Int) (f : Nat → List Value) : St := stOf 112 [(0, vI m), (4, pt 1), (5, vI 0), (6, vI d), (7, SWb 2 K)] (mdM N K o l f)
def mdX2 (N K : Nat) (o : Bool) (l : Nat → Int) (m d : Int) (f : Nat → List Value) (i : Int) : St := stOf 112 [(0, vI m), (4, pt 1), (5, vI 0), (6, vI d), (7, SWb 2 K), (10, vI i)] (mdM N K o l f)
theorem mdH2 (N K : Nat) (o : Bool) (l f : Nat → Int) (m d : Int) : roundR ((Cd0 Try.prog).into 104 1) 60 (forHead (stmt 4 (mdB Try.prog))) [0, 4, 5, 6, 7, 10] [0, 4, 5, 6, 7, 10] spD spD (mdS2 N K o l m d (dRow f)) = some (.normal, mdX2 N K o l m d (dRow f) (W (m - 1))) := by kernel_rfl
def mdF2 (P : Program) : Code := forBody (stmt 4 (mdB P))
theorem mdA2 (N K : Nat) (o : Bool) (l f : Nat → Int) (m d i : Int) : roundR ((Cd0 Try.prog).into 104 1) 60 (cL (mdF2 Try.prog)) [0, 4, 5, 6, 7, 10] [0, 4, 5, 6, 7] spD spD (mdX2 N K o l m d (dRow f) i) = (match decide (i ≥ d) with
  | true => some (.normal, mdX2 N K o l m d (dRow f) i)
  | false => some (.exit 2, mdS2 N K o l m d (dRow f))) := by kernel_rfl
def mdK (P : Program) : Code := cL (cL (cR (mdF2 P)))
theorem mdCode2 : mdF2 Try.prog = .seq (cL (mdF2 Try.prog)) (.seq (.block 3 (.seq (cL (mdK Try.prog)) (.seq (cL (cR (mdK Try.prog))) (.seq (cL (cR (cR (mdK Try.prog)))) (cR (cR (cR (mdK Try.prog)))))))) (cR (cR (mdF2 Try.prog)))) := by kernel_rfl
def okv (v : Int) : Bool := okD (v / 4503599627370496) (v % 4503599627370496)
def dv (v : Int) : Int := decD (v / 4503599627370496) (v % 4503599627370496)
theorem mdR1 (N K : Nat) (o : Bool) (l f : Nat → Int) (m d i : Int) : roundR ((Cd0 Try.prog).into 104 1) 60 (forBody (stmt 3 (mdB Try.prog))) [0, 4, 5, 6, 7, 20, 21, 22] [0, 4, 5, 6, 7] spD spD (mdX1 N K o l m d (dRow f) i) = (match decide (i < (N : Int)) with
  | true => gd (boundsI i N) (gn (m == 0) (gn (m == 0) (gd (boundsI (i.tmod m) K) (gd (okv (f (i.tmod m).toNat) && (okv (l i.toNat) && ((1 : Int) == 1 || (1 : Int) == -1))) (gd (boundsI (i.tmod m) K) (some (.normal, mdX1 N K o l m d (stR (dRow f) (i.tmod m).toNat (d2 (dv (f (i.tmod m).toNat) + 1 * dv (l i.toNat)))) (W (i + 1)))))))))
  | false => some (.exit 0, mdS2 N K o l m d (dRow f))) := by kernel_rfl
def mdY (N K : Nat) (o : Bool) (l : Nat → Int) (m d : Int) (f : Nat → List Value) (i c : Int) : St := stOf 112 [(0, vI m), (4, pt 1), (5, vI 0), (6, vI d), (7, SWb 2 K), (10, vI i), (11, pt 3)] (mdM N K o l f ++ [.cells true 0 (d2 c)])
def spE : List From := [.fix 0, .slot 4, .slot 7, .slot 11]
theorem md11 (N K : Nat) (o : Bool) (l f : Nat → Int) (m d i : Int) : roundR ((Cd0 Try.prog).into 104 1) 60 (cL (mdK Try.prog)) [0, 4, 5, 6, 7, 10, 11] [0, 4, 5, 6, 7, 10, 11] spE spE (mdX2 N K o l m d (dRow f) i) = gd (boundsI i K) (some (.normal, mdY N K o l m d (dRow f) i (f i.toNat))) := by kernel_rfl
theorem md12 (N K : Nat) (o : Bool) (l f : Nat → Int) (m d i c : Int) : roundR ((Cd0 Try.prog).into 104 1) 60 (cL (cR (mdK Try.prog))) [0, 4, 5, 6, 7, 10, 11] [0, 4, 5, 6, 7, 10, 11] spE spE (mdY N K o l m d (dRow f) i c) = gd (boundsI i K) (some (.normal, mdY N K o l m d (stR (dRow f) i.toNat (d2 0)) i c)) := by kernel_rfl
theorem md13 (N K : Nat) (o : Bool) (l f : Nat → Int) (m d i c : Int) : roundR ((Cd0 Try.prog).into 104 1) 60 (cL (cR (cR (mdK Try.prog)))) [0, 4, 5, 6, 7, 10, 11] [0, 4, 5, 6, 7, 10, 11] spE spE (mdY N K o l m d (dRow f) i c) = gd (boundsI (W (i - W (d.tdiv 2))) K) (gd (okv (f (W (i - W (d.tdiv 2))).toNat) && (okv c && ((1 : Int) == 1 || (1 : Int) == -1))) (gd (boundsI (W (i - W (d.tdiv 2))) K) (some (.normal, mdY N K o l m d (stR (dRow f) (W (i - W (d.tdiv 2))).toNat (d2 (dv (f (W (i - W (d.tdiv 2))).toNat) + 1 * dv c))) i c)))) := by kernel_rfl
theorem md14 (N K : Nat) (o : Bool) (l f : Nat → Int) (m d i c : Int) : roundR ((Cd0 Try.prog).into 104 1) 60 (cR (cR (cR (mdK Try.prog)))) [0, 4, 5, 6, 7, 10] [0, 4, 5, 6, 7, 10] spD spD (mdY N K o l m d (dRow f) i c) = gd (boundsI (W (i - d)) K) (gd (okv (f (W (i - d)).toNat) && (okv c && ((-1 : Int) == 1 || (-1 : Int) == -1))) (gd (boundsI (W (i - d)) K) (some (.normal, mdX2 N K o l m d (stR (dRow f) (W (i - d)).toNat (d2 (dv (f (W (i - d)).toNat) + -1 * dv c))) i)))) := by kernel_rfl
theorem md10 (N K : Nat) (o : Bool) (l f : Nat → Int) (m d i : Int) : roundR ((Cd0 Try.prog).into 104 1) 60 (cR (cR (mdF2 Try.prog))) [0, 4, 5, 6, 7, 10] [0, 4, 5, 6, 7, 10] spD spD (mdX2 N K o l m d (dRow f) i) = some (.normal, mdX2 N K o l m d (dRow f) (W (i - 1))) := by kernel_rfl
def mdM3 (N K D : Nat) (o : Bool) (l f : Nat → Int) (m : Int) (c : Nat → List Value) : Mem := [Dr o N (dRow l), .cells true 0 [vI 0, .slice none 0 0], Dr true K (dRow f), .cells true 0 [vI m, SI 4 D], .rows true true 1 D c]
def mdS3 (N K D : Nat) (o : Bool) (l f : Nat → Int) (m : Int) : St := stOf 112 [(4, pt 1), (5, vI 0), (7, SWb 2 K), (12, pt 3)] (mdM3 N K D o l f m (iRow fun _ => 0))
def mdX3 (N K D : Nat) (o : Bool) (l f : Nat → Int) (m : Int) (c : Nat → List Value) (i : Int) : St := stOf 112 [(4, pt 1), (5, vI 0), (7, SWb 2 K), (12, pt 3), (90, vI D), (91, vI i)] (mdM3 N K D o l f m c)
def mdE3 (N K D : Nat) (o : Bool) (l f : Nat → Int) (m : Int) (c : Nat → Int) (e : Int) : St := stOf 112 [(4, pt 1), (5, vI e), (12, pt 3)] (mdM3 N K D o l f m (iRow c))
def spG : List From := [.fix 0, .slot 4, .slot 7, .slot 12, .cell 3 1]
def spH : List From := [.fix 0, .slot 4, .fix 2, .slot 12, .cell 3 1]
theorem md15 (N K : Nat) (o : Bool) (l f : Nat → Int) (m d : Int) : segR ((Cd0 Try.prog).into 104 1) 60 1 (seqDrop 5 (mdB Try.prog)) [4, 5, 7, 12] [.fix 0, .slot 4, .slot 7, .slot 12, .cell 4 1] (mdS2 N K o l m d (dRow f)) = gd (mkT d) (some (mdS3 N K d.toNat o l f m)) := by kernel_rfl
theorem mdH3 (N K D : Nat) (o : Bool) (l f : Nat → Int) (m : Int) : roundR ((Cd0 Try.prog).into 104 1) 60 (forHead (stmt 6 (mdB Try.prog))) [4, 5, 7, 12, 90, 91] [4, 5, 7, 12, 90, 91] spG spG (mdS3 N K D o l f m) = some (.normal, mdX3 N K D o l f m (iRow fun _ => 0) 0) := by kernel_rfl
theorem mdR3 (N K D : Nat) (o : Bool) (l f c : Nat → Int) (m i : Int) : roundR ((Cd0 Try.prog).into 104 1) 60 (forBody (stmt 6 (mdB Try.prog))) [4, 5, 7, 12, 90, 91] [4, 5, 12] spG spH (mdX3 N K D o l f m (iRow c) i) = (match decide (i < (D : Int)) with
  | true => gd (boundsI i K) (gd (okv (f i.toNat)) (match !inRg (dv (f i.toNat)) with
    | true => some (.ret, mdE3 N K D o l f m c 4)
    | false => gd (boundsI i D) (some (.normal, mdX3 N K D o l f m (stR (iRow c) i.toNat [vI (if inRg (dv (f i.toNat)) = true then dv (f i.toNat) else 0)]) (W (i + 1))))))
  | false => some (.exit 4, mdE3 N K D o l f m c 0)) := by kernel_rfl
def mdO (N D : Nat) (o : Bool) (l c : Nat → Int) (m : Int) : St := stOf 112 [(4, pt 1), (5, vI 0)] [Dr o N (dRow l), .cells true 0 [vI m, SI 2 D], .rows true true 1 D (iRow c)]
theorem mdEnd (N K D : Nat) (o : Bool) (l f c : Nat → Int) (m : Int) : roundR ((Cd0 Try.prog).into 104 1) 60 (seqDrop 7 (mdB Try.prog)) [4, 5] [4, 5] [.fix 0, .slot 4, .cell 1 1] [.fix 0, .slot 4, .cell 1 1] (mdE3 N K D o l f m c 0) = some (.ret, mdO N D o l c m) := by kernel_rfl
theorem mdRet (N D : Nat) (o : Bool) (l c : Nat → Int) (m : Int) : (retA Try.prog Try.f104 (.ret, mdO N D o l c m)).res = some (rgV m (SI 2 D) 0, [Dr o N (dRow l), .cells true 0 [vI m, SI 2 D], .rows true true 1 D (iRow c)]) := by kernel_rfl
theorem mdTidy (N D : Nat) (o : Bool) (l c : Nat → Int) (m : Int) : (tidyA 1 [.fix 0, .cell 1 1] (rgV m (SI 2 D) 0, [Dr o N (dRow l), .cells true 0 [vI m, SI 2 D], .rows true true 1 D (iRow c)])).res = some (rgV m (SI 1 D) 0, [Dr o N (dRow l), .rows true true 1 D (iRow c)]) := by kernel_rfl
theorem mdRetE (N K D : Nat) (o : Bool) (l f c : Nat → Int) (m : Int) : (retA Try.prog Try.f104 (.ret, mdE3 N K D o l f m c 4)).res = some (rgE 4, mdM3 N K D o l f m (iRow c)) := by kernel_rfl
theorem mdTidyE (N K D : Nat) (o : Bool) (l f c : Nat → Int) (m : Int) : (tidyA 1 [.fix 0] (rgE 4, mdM3 N K D o l f m (iRow c))).res = some (rgE 4, [Dr o N (dRow l)]) := by kernel_rfl
end Go.Proofs.Ytjhijkdicmbbiaa


namespace Go.Proofs.Ytjhijkdicmbbiaa.Vx
open Go
def Fv (e : Nat) (z : Nat → Int) (p : Nat) : Int := z p + z (p + e) - z (p + 3 * e)
theorem red_at {e : Nat} (g : Nat → Int) (he : 1 ≤ e) : ∀ r, r ≤ 6 * e - 2 * e → ∀ p, p < 6 * e - r → redN (2 * e) (6 * e) g r p = cut (6 * e) g p + (if 6 * e - r ≤ p + e then Fv e (cut (6 * e) g) (p + e) else 0) - (if 6 * e - r ≤ p + 2 * e then Fv e (cut (6 * e) g) (p + 2 * e) else 0)
  | 0, _, p, hp => by
    have z0 : ∀ q, 6 * e ≤ q → cut (6 * e) g q = 0 := fun q hq => by unfold cut; rw [if_neg (by omega)]
    have zp : cut (6 * e) g p = g p := by unfold cut; rw [if_pos (by omega)]
    have f0 : ∀ q, 6 * e ≤ q → Fv e (cut (6 * e) g) q = 0 := fun q hq => by unfold Fv; rw [z0 q hq, z0 (q + e) (by omega), z0 (q + 3 * e) (by omega)]; rfl
    show g p = _
    rw [zp]
    by_cases h1 : 6 * e - 0 ≤ p + e
    · rw [if_pos h1, if_pos (by omega), f0 _ (by omega), f0 _ (by omega)]; omega
    · rw [if_neg h1]
      by_cases h2 : 6 * e - 0 ≤ p + 2 * e
      · rw [if_pos h2, f0 _ (by omega)]; omega
      · rw [if_neg h2]; omega
  | r + 1, hr, p, hp => by
    have ih := red_at g he r (by omega)
    obtain ⟨i, hi⟩ : ∃ i, i = 6 * e - 1 - r := ⟨_, rfl⟩
    have en : 6 * e - r = i + 1 := by omega
    have en1 : 6 * e - (r + 1) = i := by omega
    rw [en1] at hp ⊢
    rw [en] at ih
    have z0 : ∀ q, 6 * e ≤ q → cut (6 * e) g q = 0 := fun q hq => by unfold cut; rw [if_neg (by omega)]
    have gi : redN (2 * e) (6 * e) g r i = Fv e (cut (6 * e) g) i := by
      rw [ih i (by omega), if_pos (by omega), if_pos (by omega)]
      unfold Fv
      have a := z0 (i + 4 * e) (by omega)
      have b := z0 (i + 5 * e) (by omega)
      rw [show i + e + e = i + 2 * e by omega, show i + e + 3 * e = i + 4 * e by omega, show i + 2 * e + e = i + 3 * e by omega, show i + 2 * e + 3 * e = i + 5 * e by omega]
      omega
    show redG (2 * e) (redN (2 * e) (6 * e) g r) (6 * e - 1 - r) p = _
    rw [← hi]
    have hd : 2 * e / 2 = e := by omega
    unfold redG
    rw [hd, gi]
    unfold putG
    by_cases h2 : p = i - 2 * e
    · rw [if_pos h2, ← h2, ih p (by omega), if_neg (by omega), if_neg (by omega), if_neg (by omega), if_pos (by omega), show p + 2 * e = i by omega]
      omega
    · rw [if_neg h2]
      by_cases h1 : p = i - e
      · rw [if_pos h1, ← h1, ih p (by omega), if_neg (by omega), if_pos (by omega), if_pos (by omega), if_pos (by omega), show p + e = i by omega]
        omega
      · rw [if_neg h1, ih p (by omega)]
        by_cases c1 : i + 1 ≤ p + e
        · rw [if_pos c1, if_pos (show i ≤ p + e by omega)]
          rw [if_pos (show i + 1 ≤ p + 2 * e by omega), if_pos (show i ≤ p + 2 * e by omega)]
        · rw [if_neg c1, if_neg (show ¬ i ≤ p + e by omega)]
          by_cases c2 : i + 1 ≤ p + 2 * e
          · rw [if_pos c2, if_pos (show i ≤ p + 2 * e by omega)]
          · rw [if_neg c2, if_neg (show ¬ i ≤ p + 2 * e by omega)]
theorem red_bound {e : Nat} {g : Nat → Int} {B : Int} (he : 1 ≤ e) (hB : 0 ≤ B) (hg : ∀ i, -B ≤ g i ∧ g i ≤ B) (r : Nat) (hr : r ≤ 6 * e - 2 * e) (p : Nat) (hp : p < 6 * e - r) : -(7 * B) ≤ redN (2 * e) (6 * e) g r p ∧ redN (2 * e) (6 * e) g r p ≤ 7 * B := by
  have hz : ∀ i, -B ≤ cut (6 * e) g i ∧ cut (6 * e) g i ≤ B := fun i => by
    unfold cut
    by_cases hi : i < 6 * e
    · rw [if_pos hi]; exact hg i
    · rw [if_neg hi]; omega
  have hF : ∀ q, -(3 * B) ≤ Fv e (cut (6 * e) g) q ∧ Fv e (cut (6 * e) g) q ≤ 3 * B := fun q => by
    unfold Fv
    have a := hz q
    have b := hz (q + e)
    have c := hz (q + 3 * e)
    omega
  rw [red_at g he r hr p hp]
  have a := hz p
  have b := hF (p + e)
  have c := hF (p + 2 * e)
  by_cases h1 : 6 * e - r ≤ p + e
  · rw [if_pos h1, if_pos (by omega)]; omega
  · rw [if_neg h1]
    by_cases h2 : 6 * e - r ≤ p + 2 * e
    · rw [if_pos h2]; omega
    · rw [if_neg h2]; omega
/-- As the document does it: what is brought down is put to 0. -/
def redZ (d : Nat) (g : Nat → Int) (i : Nat) : Nat → Int := putG (putG (putG g i 0) (i - d / 2) (g (i - d / 2) + g i)) (i - d) (g (i - d) - g i)
def redNZ (d n : Nat) (g : Nat → Int) : Nat → (Nat → Int)
  | 0 => g
  | r + 1 => redZ d (redNZ d n g r) (n - 1 - r)
theorem redNZ_eq {e : Nat} (g : Nat → Int) (he : 1 ≤ e) : ∀ r, r ≤ 6 * e - 2 * e → ∀ p, p < 6 * e - r → redNZ (2 * e) (6 * e) g r p = redN (2 * e) (6 * e) g r p
  | 0, _, _, _ => rfl
  | r + 1, hr, p, hp => by
    have ih := redNZ_eq g he r (by omega)
    show redZ (2 * e) (redNZ (2 * e) (6 * e) g r) (6 * e - 1 - r) p = redG (2 * e) (redN (2 * e) (6 * e) g r) (6 * e - 1 - r) p
    have hd : 2 * e / 2 = e := by omega
    unfold redZ redG putG
    rw [hd, ih (6 * e - 1 - r) (by omega), ih (6 * e - 1 - r - e) (by omega), ih (6 * e - 1 - r - 2 * e) (by omega)]
    by_cases h2 : p = 6 * e - 1 - r - 2 * e
    · rw [if_pos h2, if_pos h2]
    · rw [if_neg h2, if_neg h2]
      by_cases h1 : p = 6 * e - 1 - r - e
      · rw [if_pos h1, if_pos h1]
      · rw [if_neg h1, if_neg h1, if_neg (by omega), ih p (by omega)]
end Go.Proofs.Ytjhijkdicmbbiaa.Vx


namespace Go.Proofs.Ytjhijkdicmbbiaa
open Go Vx Go.RowKit
theorem okd0 : CxOk (Cd0 Try.prog) := okr141
theorem dv_eq (v : Int) : dv v = v := by unfold dv decD; omega
theorem okv_in {v : Int} (h : -10384593717069655257060992658440192 ≤ v ∧ v ≤ 10384593717069655257060992658440192) : okv v = true := okD_iff.2 (by omega)
theorem stR_d (g : Nat → Int) (j : Nat) (v : Int) (q : Nat) : stR (dRow g) j (d2 v) q = dRow (putG g j v) q := by
  unfold stR
  by_cases h : q = j
  · subst h
    rw [Nat.beq_refl]
    simp only [dRow, putG, d2, if_true]
    rfl
  · rw [beq_ne h]
    simp only [dRow, putG, if_neg h]
theorem mdIn1 : InBody ((Cd0 Try.prog).into 104 1) (forHead (stmt 3 (mdB Try.prog))) ∧ InBody ((Cd0 Try.prog).into 104 1) (forBody (stmt 3 (mdB Try.prog))) := for_in (C := Cd0 Try.prog) (f := 104) (B := 1) (id := 0) (k := 3) (fn := Try.f104) (b := mdB Try.prog) Try.func104 md_eq (by kernel_rfl)
theorem mdIn2 : InBody ((Cd0 Try.prog).into 104 1) (forHead (stmt 4 (mdB Try.prog))) ∧ InBody ((Cd0 Try.prog).into 104 1) (mdF2 Try.prog) := for_in (C := Cd0 Try.prog) (f := 104) (B := 1) (id := 2) (k := 4) (fn := Try.f104) (b := mdB Try.prog) Try.func104 md_eq (by kernel_rfl)
theorem mdIn3 : InBody ((Cd0 Try.prog).into 104 1) (forHead (stmt 6 (mdB Try.prog))) ∧ InBody ((Cd0 Try.prog).into 104 1) (forBody (stmt 6 (mdB Try.prog))) := for_in (C := Cd0 Try.prog) (f := 104) (B := 1) (id := 4) (k := 6) (fn := Try.f104) (b := mdB Try.prog) Try.func104 md_eq (by kernel_rfl)
theorem mdFors : isFor 0 (stmt 3 (mdB Try.prog)) = true ∧ isFor 2 (stmt 4 (mdB Try.prog)) = true ∧ isFor 4 (stmt 6 (mdB Try.prog)) = true := ⟨by kernel_rfl, by kernel_rfl, by kernel_rfl⟩
theorem mdHas : hasStmt 3 (mdB Try.prog) = true ∧ hasStmt 4 (mdB Try.prog) = true ∧ hasStmt 6 (mdB Try.prog) = true := ⟨by kernel_rfl, by kernel_rfl, by kernel_rfl⟩
def bB : Int := 1298074214633706907132624082305024
theorem cutP_step (l : Nat → Int) (i q : Nat) : putG (cut i l) i (cut i l i + l i) q = cut (i + 1) l q := by
  unfold putG cut
  by_cases h : q = i
  · subst h; rw [if_pos rfl, if_neg (by omega), if_pos (by omega)]; omega
  · rw [if_neg h]
    by_cases k : q < i
    · rw [if_pos k, if_pos (by omega)]
    · rw [if_neg k, if_neg (by omega)]
theorem cut_none (l : Nat → Int) : dRow (cut 0 l) = zD := by
  funext q
  unfold dRow cut
  rw [if_neg (Nat.not_lt_zero _)]
  rfl
/-- The first loop. -/
theorem mdLoop1 (N K : Nat) (o : Bool) (l : Nat → Int) (m d : Int) (hK : m = (K : Int)) (hN : N ≤ K) (hK2 : 1 ≤ K ∧ K ≤ 1000) (hl : ∀ i, -bB ≤ l i ∧ l i ≤ bB) : CodeSem Try.prog 1 (stmt 3 (mdB Try.prog)) (mdS N K o l m d zD) .normal (mdS2 N K o l m d (dRow (cut N l))) := by
  have hh := end_rule (C := Cd0 Try.prog) okd0 (f := 104) (B := 1) mdIn1.1 (mdH1 N K o l m d)
  have hr : ∀ i, i < N → ∃ s, roundR ((Cd0 Try.prog).into 104 1) 60 (forBody (stmt 3 (mdB Try.prog))) [0, 4, 5, 6, 7, 20, 21, 22] [0, 4, 5, 6, 7] spD spD (mdX1 N K o l m d (dRow (cut i l)) (i : Int)) = some (.normal, s) ∧ StLike s (mdX1 N K o l m d (dRow (cut (i + 1) l)) ((i + 1 : Nat) : Int)) := fun i hi => by
    have r := mdR1 N K o l (cut i l) m d i
    have e : (i : Int).tmod m = (i : Int) := by rw [hK, Int.tmod_eq_emod_of_nonneg (by omega), Int.emod_eq_of_lt (by omega) (by omega)]
    have c0 : cut i l i = 0 := by unfold cut; rw [if_neg (by omega)]
    have hli := hl i
    unfold bB at hli
    rw [show decide ((i : Int) < (N : Int)) = true by simp; omega, boundsI_ok (n := N) (i := (i : Int)) (by omega), show (m == 0) = false by simp; omega, e, boundsI_ok (n := K) (i := (i : Int)) (by omega)] at r
    simp only [gd_true, gn, Int.toNat_natCast] at r
    rw [okv_in (v := cut i l i) (by omega), okv_in (v := l i) (by omega)] at r
    rw [dv_eq, dv_eq, Int.one_mul] at r
    refine ⟨_, r, ?_⟩
    rw [show W ((i : Int) + 1) = ((i + 1 : Nat) : Int) by rw [W_in (by omega)]; simp]
    refine ⟨rfl, .refl _, .refl _, .rows fun q _ => ?_, trivial⟩
    rw [stR_d]
    exact congrFun (congrArg dRow (funext fun q => cutP_step l i q)) q
  have hE := mdR1 N K o l (cut N l) m d N
  rw [show decide ((N : Int) < (N : Int)) = false by simp] at hE
  have hlp := run_loop (C := Cd0 Try.prog) okd0 (f := 104) (B := 1) (m := 60) mdIn1.2 (by simp) N (fun i => mdX1 N K o l m d (dRow (cut i l)) (i : Int)) hr hE
  rw [cut_none] at hlp
  exact for_rule mdFors.1 hh hlp
theorem mdY_like {N K : Nat} {o : Bool} {l g : Nat → Int} {m d i c : Int} {row : Nat → List Value} (h : ∀ q, row q = dRow g q) : StLike (mdY N K o l m d row i c) (mdY N K o l m d (dRow g) i c) := ⟨rfl, .refl _, .refl _, .rows fun q _ => h q, .refl _, trivial⟩
theorem mdX2_like {N K : Nat} {o : Bool} {l g : Nat → Int} {m d i : Int} {row : Nat → List Value} (h : ∀ q, row q = dRow g q) : StLike (mdX2 N K o l m d row i) (mdX2 N K o l m d (dRow g) i) := ⟨rfl, .refl _, .refl _, .rows fun q _ => h q, trivial⟩
/-- A round of the second. -/
theorem mdRound2 (N K : Nat) (o : Bool) (l f : Nat → Int) (m : Int) (d i : Nat) (hd : 2 ≤ d) (h1 : d ≤ i) (h2 : i < K) (hK : K ≤ 1000) (hf : ∀ p, p ≤ i → -(7 * bB) ≤ f p ∧ f p ≤ 7 * bB) : CodeSem Try.prog 1 (mdF2 Try.prog) (mdX2 N K o l m d (dRow f) (i : Int)) .normal (mdX2 N K o l m d (dRow (redZ d f i)) ((i : Int) - 1)) := by
  have i1 := mdIn2.2
  have hA := mdA2 N K o l f m d i
  rw [show decide ((i : Int) ≥ (d : Int)) = true by simp; omega] at hA
  have a1 : W ((i : Int) - W ((d : Int).tdiv 2)) = ((i - d / 2 : Nat) : Int) := by
    rw [tdiv2, W_in (n := ((d / 2 : Nat) : Int)) (by omega), W_in (by omega)]; omega
  have a2 : W ((i : Int) - (d : Int)) = ((i - d : Nat) : Int) := by rw [W_in (by omega)]; omega
  have b1 : (1 : Int) == 1 || (1 : Int) == -1 := by decide
  have b2 : (-1 : Int) == 1 || (-1 : Int) == -1 := by decide
  have r11 := md11 N K o l f m d i
  rw [boundsI_ok (n := K) (i := (i : Int)) (by omega)] at r11
  simp only [gd_true, Int.toNat_natCast] at r11
  have r12 := md12 N K o l f m d i (f i)
  rw [boundsI_ok (n := K) (i := (i : Int)) (by omega)] at r12
  simp only [gd_true, Int.toNat_natCast] at r12
  have e1 : putG f i 0 (i - d / 2) = f (i - d / 2) := by unfold putG; rw [if_neg (by omega)]
  have e2 : putG (putG f i 0) (i - d / 2) (f (i - d / 2) + f i) (i - d) = f (i - d) := by unfold putG; rw [if_neg (by omega), if_neg (by omega)]
  have k0 := hf i (by omega)
  have k1 := hf (i - d / 2) (by omega)
  have k2 := hf (i - d) (by omega)
  unfold bB at k0 k1 k2
  have r13 := md13 N K o l (putG f i 0) m d i (f i)
  rw [a1, boundsI_ok (n := K) (i := ((i - d / 2 : Nat) : Int)) (by omega)] at r13
  simp only [gd_true, Int.toNat_natCast] at r13
  rw [e1, okv_in (v := f (i - d / 2)) (by omega), okv_in (v := f i) (by omega), b1] at r13
  rw [dv_eq, dv_eq, Int.one_mul] at r13
  have r14 := md14 N K o l (putG (putG f i 0) (i - d / 2) (f (i - d / 2) + f i)) m d i (f i)
  rw [a2, boundsI_ok (n := K) (i := ((i - d : Nat) : Int)) (by omega)] at r14
  simp only [gd_true, Int.toNat_natCast] at r14
  rw [e2, okv_in (v := f (i - d)) (by omega), okv_in (v := f i) (by omega), b2] at r14
  rw [dv_eq, dv_eq, show f (i - d) + -1 * f i = f (i - d) - f i by omega] at r14
  have r10 := md10 N K o l (redZ d f i) m d i
  rw [W_in (by omega)] at r10
  rw [mdCode2]
  have iK := i1.right.left.left
  have c11 := end_rule (C := Cd0 Try.prog) okd0 (f := 104) (B := 1) iK.left r11
  have c12 := (end_rule (C := Cd0 Try.prog) okd0 (f := 104) (B := 1) iK.right.left r12).likes (mdY_like fun q => stR_d f i 0 q)
  have c13 := (end_rule (C := Cd0 Try.prog) okd0 (f := 104) (B := 1) iK.right.right.left r13).likes (mdY_like fun q => stR_d (putG f i 0) _ _ q)
  have c14 := (end_rule (C := Cd0 Try.prog) okd0 (f := 104) (B := 1) iK.right.right.right r14).likes (mdX2_like (g := redZ d f i) fun q => stR_d _ _ _ q)
  exact (end_rule' (C := Cd0 Try.prog) okd0 (f := 104) (B := 1) i1.left hA).seq ((CodeSem.blockN (c11.seq (c12.seq (c13.seq c14)))).seq (end_rule (C := Cd0 Try.prog) okd0 (f := 104) (B := 1) i1.right.right r10))
/-- The second loop. -/
theorem mdLoop2 (N : Nat) (o : Bool) (l g : Nat → Int) (e : Nat) (he : 1 ≤ e) (he2 : e ≤ 100) (hg : ∀ i, -bB ≤ g i ∧ g i ≤ bB) : CodeSem Try.prog 1 (stmt 4 (mdB Try.prog)) (mdS2 N (6 * e) o l ((6 * e : Nat) : Int) ((2 * e : Nat) : Int) (dRow g)) .normal (mdS2 N (6 * e) o l ((6 * e : Nat) : Int) ((2 * e : Nat) : Int) (dRow (redNZ (2 * e) (6 * e) g (6 * e - 2 * e)))) := by
  have hh := mdH2 N (6 * e) o l g ((6 * e : Nat) : Int) ((2 * e : Nat) : Int)
  rw [W_in (by omega)] at hh
  have hr : ∀ r, r < 6 * e - 2 * e → CodeSem Try.prog 1 (mdF2 Try.prog) (mdX2 N (6 * e) o l ((6 * e : Nat) : Int) ((2 * e : Nat) : Int) (dRow (redNZ (2 * e) (6 * e) g r)) (((6 * e : Nat) : Int) - 1 - r)) .normal (mdX2 N (6 * e) o l ((6 * e : Nat) : Int) ((2 * e : Nat) : Int) (dRow (redNZ (2 * e) (6 * e) g (r + 1))) (((6 * e : Nat) : Int) - 1 - ((r + 1 : Nat) : Int))) := fun r hr => by
    have := mdRound2 N (6 * e) o l (redNZ (2 * e) (6 * e) g r) ((6 * e : Nat) : Int) (2 * e) (6 * e - 1 - r) (by omega) (by omega) (by omega) (by omega) fun p hp => by
      rw [redNZ_eq g he r (by omega) p (by omega)]
      exact red_bound he (by unfold bB; omega) hg r (by omega) p (by omega)
    rw [show ((6 * e - 1 - r : Nat) : Int) = ((6 * e : Nat) : Int) - 1 - (r : Int) by omega, show ((6 * e : Nat) : Int) - 1 - (r : Int) - 1 = ((6 * e : Nat) : Int) - 1 - ((r + 1 : Nat) : Int) by omega] at this
    exact this
  have hE : CodeSem Try.prog 1 (mdF2 Try.prog) (mdX2 N (6 * e) o l ((6 * e : Nat) : Int) ((2 * e : Nat) : Int) (dRow (redNZ (2 * e) (6 * e) g (6 * e - 2 * e))) (((6 * e : Nat) : Int) - 1 - ((6 * e - 2 * e : Nat) : Int))) (.exit 2) (mdS2 N (6 * e) o l ((6 * e : Nat) : Int) ((2 * e : Nat) : Int) (dRow (redNZ (2 * e) (6 * e) g (6 * e - 2 * e)))) := by
    have hA := mdA2 N (6 * e) o l (redNZ (2 * e) (6 * e) g (6 * e - 2 * e)) ((6 * e : Nat) : Int) ((2 * e : Nat) : Int) (((6 * e : Nat) : Int) - 1 - ((6 * e - 2 * e : Nat) : Int))
    rw [show decide (((6 * e : Nat) : Int) - 1 - ((6 * e - 2 * e : Nat) : Int) ≥ ((2 * e : Nat) : Int)) = false by simp; omega] at hA
    rw [mdCode2]
    exact (end_rule' (C := Cd0 Try.prog) okd0 (f := 104) (B := 1) mdIn2.2.left hA).out (by simp)
  have hl := run_loopC (P := Try.prog) (B := 1) (x := mdF2 Try.prog) (e := .exit 2) (by simp) (6 * e - 2 * e) (fun r => mdX2 N (6 * e) o l ((6 * e : Nat) : Int) ((2 * e : Nat) : Int) (dRow (redNZ (2 * e) (6 * e) g r)) (((6 * e : Nat) : Int) - 1 - r)) hr hE
  rw [show ((6 * e : Nat) : Int) - 1 - ((0 : Nat) : Int) = ((6 * e : Nat) : Int) - 1 by omega] at hl
  exact for_rule mdFors.2.1 (end_rule (C := Cd0 Try.prog) okd0 (f := 104) (B := 1) mdIn2.1 hh) hl
end Go.Proofs.Ytjhijkdicmbbiaa


namespace Go.Proofs.Ytjhijkdicmbbiaa
open Go Vx Go.RowKit
def fillI (f : Nat → Int) (i q : Nat) : Int := if q < i then f q else 0
theorem fillI_step (f : Nat → Int) (i q : Nat) : putG (fillI f i) i (f i) q = fillI f (i + 1) q := by
  unfold putG fillI
  by_cases h : q = i
  · subst h; rw [if_pos rfl, if_pos (by omega)]
  · rw [if_neg h]
    by_cases k : q < i
    · rw [if_pos k, if_pos (by omega)]
    · rw [if_neg k, if_neg (by omega)]
theorem fillI_none (f : Nat → Int) : iRow (fillI f 0) = iRow fun _ => 0 := by
  funext q
  unfold iRow fillI
  rw [if_neg (Nat.not_lt_zero _)]
theorem mdNext3 (N K D : Nat) (o : Bool) (l f : Nat → Int) (m : Int) (hD : D ≤ K) (hK : K ≤ 1000) (i : Nat) (hi : i < D) (hb : okv (f i) = true) (hr : inRg (f i) = true) : ∃ s, roundR ((Cd0 Try.prog).into 104 1) 60 (forBody (stmt 6 (mdB Try.prog))) [4, 5, 7, 12, 90, 91] [4, 5, 12] spG spH (mdX3 N K D o l f m (iRow (fillI f i)) (i : Int)) = some (.normal, s) ∧ StLike s (mdX3 N K D o l f m (iRow (fillI f (i + 1))) ((i + 1 : Nat) : Int)) := by
  have r := mdR3 N K D o l f (fillI f i) m i
  rw [show decide ((i : Int) < (D : Int)) = true by simp; omega, boundsI_ok (n := K) (i := (i : Int)) (by omega), boundsI_ok (n := D) (i := (i : Int)) (by omega)] at r
  simp only [gd_true, Int.toNat_natCast, dv_eq, hb, hr, Bool.not_true, if_true] at r
  refine ⟨_, r, ?_⟩
  rw [show W ((i : Int) + 1) = ((i + 1 : Nat) : Int) by rw [W_in (by omega)]; simp]
  refine ⟨rfl, .refl _, .refl _, .refl _, .refl _, .rows fun q _ => ?_, trivial⟩
  exact (stR_i (fillI f i) i (f i) q).trans (congrFun (congrArg iRow (funext fun q => fillI_step f i q)) q)
theorem mdTail (N : Nat) (o : Bool) (l : Nat → Int) (e : Nat) (he : 1 ≤ e) (he2 : e ≤ 100) (hN : N ≤ 6 * e) (hl : ∀ i, -bB ≤ l i ∧ l i ≤ bB) :
    (allR (2 * e) (cofE e (6 * e) (cut N l)) = true → MemSem Try.prog 104 [vI ((6 * e : Nat) : Int), SW N] [Dr o N (dRow l)] (rgV ((6 * e : Nat) : Int) (SI 1 (2 * e)) 0) [Dr o N (dRow l), Ir true (2 * e) (cofE e (6 * e) (cut N l))]) ∧
    (allR (2 * e) (cofE e (6 * e) (cut N l)) = false → MemSem Try.prog 104 [vI ((6 * e : Nat) : Int), SW N] [Dr o N (dRow l)] (rgE 4) [Dr o N (dRow l)]) := by
  have hg : ∀ i, -bB ≤ cut N l i ∧ cut N l i ≤ bB := fun i => by
    unfold cut
    by_cases hi : i < N
    · rw [if_pos hi]; exact hl i
    · rw [if_neg hi]; unfold bB; omega
  have p0 := mdP0 N o l ((6 * e : Nat) : Int)
  rw [show mkW ((6 * e : Nat) : Int) = true by unfold mkW; simp; omega, show W (((6 * e : Nat) : Int).tdiv 3) = ((2 * e : Nat) : Int) by rw [show 6 * e = 3 * (2 * e) by omega, tdiv3, W_in (by omega)], Int.toNat_natCast] at p0
  simp only [gd_true] at p0
  have c1 := mdLoop1 N (6 * e) o l ((6 * e : Nat) : Int) ((2 * e : Nat) : Int) rfl hN (by omega) hl
  have c2 := mdLoop2 N o l (cut N l) e he he2 hg
  obtain ⟨f, hf⟩ : ∃ f, f = redNZ (2 * e) (6 * e) (cut N l) (6 * e - 2 * e) := ⟨_, rfl⟩
  rw [← hf] at c2
  have fq : ∀ q, q < 2 * e → f q = cofE e (6 * e) (cut N l) q := fun q hq => by
    rw [hf, redNZ_eq _ he _ (Nat.le_refl _) q (by omega)]
    exact redN_cof _ he (by omega) (Nat.le_refl _) hq
  have fb : ∀ q, q < 2 * e → okv (f q) = true := fun q hq => by
    have := red_bound he (by unfold bB; omega) hg (6 * e - 2 * e) (Nat.le_refl _) q (by omega)
    rw [hf, redNZ_eq _ he _ (Nat.le_refl _) q (by omega)]
    unfold bB at this
    exact okv_in (by omega)
  have p15 := md15 N (6 * e) o l f ((6 * e : Nat) : Int) ((2 * e : Nat) : Int)
  rw [show mkT ((2 * e : Nat) : Int) = true by unfold mkT; simp; omega, Int.toNat_natCast] at p15
  simp only [gd_true] at p15
  have hh := end_rule (C := Cd0 Try.prog) okd0 (f := 104) (B := 1) mdIn3.1 (mdH3 N (6 * e) (2 * e) o l f ((6 * e : Nat) : Int))
  have body0 : InBody ((Cd0 Try.prog).into 104 1) (mdB Try.prog) := Or.inl ⟨Try.f104, mdB Try.prog, Try.func104, md_eq, fun _ hx => hx⟩
  have front : ∀ {s}, CodeSem Try.prog 1 (seqDrop 6 (mdB Try.prog)) (mdS3 N (6 * e) (2 * e) o l f ((6 * e : Nat) : Int)) .ret s → CodeSem Try.prog 1 (mdB Try.prog) (enter Try.f104 [vI ((6 * e : Nat) : Int), SW N] [Dr o N (dRow l)]) .ret s := fun hs =>
    seg_rule (C := Cd0 Try.prog) okd0 (f := 104) (B := 1) (k := 3) body0 p0 (stmt_rule mdHas.1 c1 (stmt_rule mdHas.2.1 c2 (seg_rule (C := Cd0 Try.prog) okd0 (f := 104) (B := 1) (k := 1) (bodyOf_in Try.func104 md_eq) p15 (by rw [seqDrop_drop]; exact hs))))
  have hall : allR (2 * e) (cofE e (6 * e) (cut N l)) = allR (2 * e) f := by
    unfold allR
    rw [Bool.eq_iff_iff, List.all_eq_true, List.all_eq_true]
    exact ⟨fun h i hi => by rw [fq i (List.mem_range.1 hi)]; exact h i hi, fun h i hi => by rw [← fq i (List.mem_range.1 hi)]; exact h i hi⟩
  rw [hall]
  refine ⟨fun hA => ?_, fun hA => ?_⟩
  · have hr : ∀ i, i < 2 * e → _ := fun i hi => mdNext3 N (6 * e) (2 * e) o l f ((6 * e : Nat) : Int) (by omega) (by omega) i hi (fb i hi) (List.all_eq_true.1 hA i (List.mem_range.2 hi))
    have hE := mdR3 N (6 * e) (2 * e) o l f (fillI f (2 * e)) ((6 * e : Nat) : Int) ((2 * e : Nat) : Int)
    rw [show decide (((2 * e : Nat) : Int) < ((2 * e : Nat) : Int)) = false by simp] at hE
    have hlp := run_loop (C := Cd0 Try.prog) okd0 (f := 104) (B := 1) (m := 60) mdIn3.2 (by simp) (2 * e) (fun i => mdX3 N (6 * e) (2 * e) o l f ((6 * e : Nat) : Int) (iRow (fillI f i)) (i : Int)) hr hE
    rw [fillI_none] at hlp
    have code := front (stmt_rule mdHas.2.2 (for_rule mdFors.2.2 hh hlp) (end_rule (C := Cd0 Try.prog) okd0 (f := 104) (B := 1) (bodyOf_in Try.func104 md_eq) (mdEnd N (6 * e) (2 * e) o l f (fillI f (2 * e)) ((6 * e : Nat) : Int))))
    have sem := (body_mem (m := [Dr o N (dRow l)]) (args := [vI ((6 * e : Nat) : Int), SW N]) (f := 104) Try.func104 md_eq (by kernel_rfl) code (mdRet N (2 * e) o l (fillI f (2 * e)) ((6 * e : Nat) : Int))).tidy (mdTidy N (2 * e) o l (fillI f (2 * e)) ((6 * e : Nat) : Int))
    refine sem.likes ⟨.refl _, .rows fun q hq => ?_, trivial⟩
    simp only [iRow, fillI, if_pos hq, fq q hq]
  · obtain ⟨k, hk, hok, hbad⟩ : ∃ k, k < 2 * e ∧ (∀ i, i < k → inRg (f i) = true) ∧ inRg (f k) = false := by
      cases hq : fst? (fun i => !inRg (f i)) (2 * e) 0 with
      | none =>
        have := fst?_none hq
        have : allR (2 * e) f = true := List.all_eq_true.2 fun i hi => by
          have := this i (by omega) (by simpa using hi)
          simpa using this
        rw [this] at hA; cases hA
      | some k =>
        obtain ⟨_, a, b, c⟩ := fst?_some hq
        exact ⟨k, by omega, fun i hi => by simpa using c i (by omega) hi, by simpa using b⟩
    have hr : ∀ i, i < k → _ := fun i hi => mdNext3 N (6 * e) (2 * e) o l f ((6 * e : Nat) : Int) (by omega) (by omega) i (by omega) (fb i (by omega)) (hok i hi)
    have hE := mdR3 N (6 * e) (2 * e) o l f (fillI f k) ((6 * e : Nat) : Int) k
    rw [show decide ((k : Int) < ((2 * e : Nat) : Int)) = true by simp; omega, boundsI_ok (n := 6 * e) (i := (k : Int)) (by omega)] at hE
    simp only [gd_true, Int.toNat_natCast, dv_eq, fb k hk, hbad, Bool.not_false] at hE
    have hlp := run_loop (C := Cd0 Try.prog) okd0 (f := 104) (B := 1) (m := 60) mdIn3.2 (by simp) k (fun i => mdX3 N (6 * e) (2 * e) o l f ((6 * e : Nat) : Int) (iRow (fillI f i)) (i : Int)) hr hE
    rw [fillI_none] at hlp
    have code := front (stmt_out mdHas.2.2 (for_ret mdFors.2.2 hh hlp) (by simp))
    exact (body_mem (m := [Dr o N (dRow l)]) (args := [vI ((6 * e : Nat) : Int), SW N]) (f := 104) Try.func104 md_eq (by kernel_rfl) code (mdRetE N (6 * e) (2 * e) o l f (fillI f k) ((6 * e : Nat) : Int))).tidy (mdTidyE N (6 * e) (2 * e) o l f (fillI f k) ((6 * e : Nat) : Int))
/-- The contract. -/
def okL (h l : Int) : Bool := (decide (-1298074214633706907132624082305024 ≤ h * 4503599627370496 + l) && decide (h * 4503599627370496 + l ≤ 1298074214633706907132624082305024)) && (decide (0 ≤ l) && decide (l < 4503599627370496))
def okLs (n : Nat) (row : Nat → List Value) : Bool := (List.range n).all fun i => match row i with
  | [.int .i64 h, .int .i64 l] => okL h l
  | _ => false
def lOf (n : Nat) (row : Nat → List Value) (i : Nat) : Int := if i < n then (match row i with
  | [.int .i64 h, .int .i64 l] => decD h l
  | _ => 0) else 0
theorem ls_like {n : Nat} {row : Nat → List Value} (h : okLs n row = true) : rowsLike n row (dRow (lOf n row)) := by
  intro i hi
  have := List.all_eq_true.1 h i (List.mem_range.2 hi)
  unfold dRow lOf
  rw [if_pos hi]
  split at this
  · rename_i a b hx
    simp only [hx]
    unfold okL at this
    simp only [Bool.and_eq_true, decide_eq_true_eq] at this
    unfold decD
    rw [show (a * 4503599627370496 + b) / 4503599627370496 = a by omega, show (a * 4503599627370496 + b) % 4503599627370496 = b by omega]
    rfl
  · cases this
theorem ls_bound {n : Nat} {row : Nat → List Value} (h : okLs n row = true) (i : Nat) : -bB ≤ lOf n row i ∧ lOf n row i ≤ bB := by
  unfold lOf
  by_cases hi : i < n
  · rw [if_pos hi]
    have this := List.all_eq_true.1 h i (List.mem_range.2 hi)
    revert this
    generalize row i = x
    intro this
    split at this
    · rename_i a b
      unfold okL at this
      simp only [Bool.and_eq_true, decide_eq_true_eq] at this
      show -bB ≤ decD a b ∧ decD a b ≤ bB
      unfold decD bB
      omega
    · cases this
  · rw [if_neg hi]; unfold bB; omega
def madeF : List Value → Mem → Option (Ans (Value × Mem))
  | [.int .i64 m, .slice (some ⟨0, 0, some 0⟩) N 2], [.rows own true 2 N2 row] => some (.br (fineB m && (Nat.beq N N2 && (okLs N row && decide ((N : Int) ≤ m)))) (.br (allR (m.toNat / 3) (cofE (m.toNat / 6) m.toNat (cut N (lOf N row))))
    (.out (rgV m (SI 1 (m.toNat / 3)) 0, [.rows own true 2 N row, .rows true true 1 (m.toNat / 3) (iRow (cofE (m.toNat / 6) m.toNat (cut N (lOf N row))))]))
    (.out (rgE 4, [.rows own true 2 N row]))) .fail)
  | _, _ => none
theorem madeF_ok {args : List Value} {m : Mem} {ans : Ans (Value × Mem)} {v : Value} {m' : Mem} (h : madeF args m = some ans) (hr : ans.res = some (v, m')) : MemSem Try.prog 104 args m v m' := by
  unfold madeF at h
  split at h
  · rename_i m N own N2 row
    simp only [Option.some.injEq] at h
    subst h
    rcases Ans.br_some hr with ⟨hc, g⟩ | ⟨_, g⟩ <;> clear hr
    rotate_left
    · simp [Ans.res] at g
    simp only [Bool.and_eq_true, decide_eq_true_eq] at hc
    obtain ⟨c1, c2, c3, c4⟩ := hc
    have e1 := Nat.eq_of_beq_eq_true c2
    subst e1
    obtain ⟨s1, s2, s3, s4⟩ := six c1
    have hm := fine_cases c1
    have key := mdTail N own (lOf N row) (m.toNat / 6) s2 (by omega) (by omega) (ls_bound c3)
    rw [← s1] at key
    rw [← s3, ← s4] at key
    have l1 : LikeL [.rows own true 2 N row] [Dr own N (dRow (lOf N row))] := ⟨.rows (ls_like c3), trivial⟩
    have b1 : Like (Dr own N (dRow (lOf N row))) (.rows own true 2 N row) := .rows fun i hi => (ls_like c3 i hi).symm
    rcases Ans.br_some g with ⟨h3, g3⟩ | ⟨h3, g3⟩ <;> clear g <;> simp only [Ans.res, Option.some.injEq, Prod.mk.injEq] at g3 <;> obtain ⟨rfl, rfl⟩ := g3
    · exact (MemSem.like (key.1 h3) l1).likes ⟨b1, .refl _, trivial⟩
    · exact (MemSem.like (key.2 h3) l1).likes ⟨b1, trivial⟩
  · cases h
def Cr104 (P : Program) : Cx := (Cd0 P).addM 104 madeF
theorem okr104 : CxOk (Cr104 Try.prog) := Cx.addM_ok okd0 fun _ _ _ _ _ h hr => madeF_ok h hr
def Cd1 (P : Program) : Cx := (Cr104 P).lend 104
theorem okd1 : CxOk (Cd1 Try.prog) := Cx.lend_ok okr104 _
end Go.Proofs.Ytjhijkdicmbbiaa


namespace Go.Proofs.Ytjhijkdicmbbiaa
open Go Vx Go.RowKit
theorem twT (n : Nat) (o : Bool) (M : Int) (c : Nat → Int) : exT ((Cd1 Try.prog).at 23) 60 Try.f23 [.agg #[vI M, SI 0 n]] [Ir o n c] [.fix 0, .cell 2 1] = (match Nat.beq n 0 with
  | true => some (.agg #[vI M, .slice none 0 0], [Ir o n c, .no])
  | false => gd (decide (n * 8 ≤ 2 ^ 47) && decide (n ≤ 2 ^ 62)) (some (.agg #[vI M, SI 1 n], [Ir o n c, .rows true true 1 n (sI c)]))) := by kernel_rfl
theorem twN (M : Int) : exT ((Cd1 Try.prog).at 23) 60 Try.f23 [.agg #[vI M, .slice none 0 0]] [] [] = some (.agg #[vI M, .slice none 0 0], []) := by kernel_rfl
def rfB (P : Program) : Code := bodyOf P 47
theorem rf_eq : Try.f47.body = some (rfB Try.prog) := by kernel_rfl
def rfS (n : Nat) (o : Bool) (c : Nat → Int) (M : Int) : St := stOf 32 [(1, pt 1), (2, .bool false)] [Ir o n c, .cells true 0 [vI M, SI 0 n]]
def rfX (n : Nat) (o : Bool) (c : Nat → Int) (t : Bool) : St := stOf 32 [(2, .bool t)] [Ir o n c]
def rfH (n : Nat) (o : Bool) (c : Nat → Int) (i : Int) : St := stOf 32 [(2, .bool false), (19, SI 0 n), (20, vI n), (21, vI i)] [Ir o n c]
theorem rfP0 (n : Nat) (o : Bool) (c : Nat → Int) (M : Int) : segR ((Cd1 Try.prog).into 47 1) 60 1 (rfB Try.prog) [1, 2] [.fix 0, .slot 1] (enter Try.f47 [.agg #[vI M, SI 0 n]] [Ir o n c]) = some (rfS n o c M) := by kernel_rfl
theorem rfP1 (n : Nat) (o : Bool) (c : Nat → Int) (M : Int) : roundR ((Cd1 Try.prog).into 47 1) 60 (stmt 1 (rfB Try.prog)) [1, 2] [2] [.fix 0, .slot 1] [.fix 0] (rfS n o c M) = (match !fineB M with
  | true => some (.ret, rfX n o c false)
  | false => match ((n : Int) != W (M.tdiv 3)) with
    | true => some (.ret, rfX n o c false)
    | false => some (.normal, rfS n o c M)) := by kernel_rfl
theorem rfHead (n : Nat) (o : Bool) (c : Nat → Int) (M : Int) : roundR ((Cd1 Try.prog).into 47 1) 60 (forHead (stmt 2 (rfB Try.prog))) [2, 19, 20, 21] [2, 19, 20, 21] [.fix 0] [.fix 0] (rfS n o c M) = some (.normal, rfH n o c 0) := by kernel_rfl
theorem rfR (n : Nat) (o : Bool) (c : Nat → Int) (i : Nat) : roundR ((Cd1 Try.prog).into 47 1) 60 (forBody (stmt 2 (rfB Try.prog))) [2, 19, 20, 21] [2] [.fix 0] [.fix 0] (rfH n o c (i : Int)) = (match decide ((i : Int) < (n : Int)) with
  | true => gd (boundsI (i : Int) n) (match decide (c i < -4503599627370496) with
    | true => some (.ret, rfX n o c false)
    | false => match decide (c i > 4503599627370496) with
      | true => some (.ret, rfX n o c false)
      | false => some (.normal, rfH n o c (W ((i : Int) + 1))))
  | false => some (.exit 0, rfX n o c false)) := by kernel_rfl
theorem rfEnd (n : Nat) (o : Bool) (c : Nat → Int) : roundR ((Cd1 Try.prog).into 47 1) 60 (seqDrop 3 (rfB Try.prog)) [2] [2] [.fix 0] [.fix 0] (rfX n o c false) = some (.ret, rfX n o c true) := by kernel_rfl
theorem rfRet (n : Nat) (o : Bool) (c : Nat → Int) (t : Bool) : (retA Try.prog Try.f47 (.ret, rfX n o c t)).res = some (.bool t, [Ir o n c]) := by kernel_rfl
theorem rfN (M : Int) : exT ((Cd1 Try.prog).at 47) 60 Try.f47 [.agg #[vI M, .slice none 0 0]] [] [] = (match !fineB M with
  | true => some (.bool false, [])
  | false => match ((0 : Int) != W (M.tdiv 3)) with
    | true => some (.bool false, [])
    | false => some (.bool true, [])) := by kernel_rfl
end Go.Proofs.Ytjhijkdicmbbiaa


namespace Go.Proofs.Ytjhijkdicmbbiaa
open Go Vx Go.RowKit
def twinF : List Value → Mem → Option (Ans (Value × Mem))
  | [.agg a], m => match a.toList, m with
    | [.int .i64 M, .slice none 0 0], [] => some (.out (.agg #[vI M, .slice none 0 0], []))
    | [.int .i64 M, .slice (some ⟨0, 0, some 0⟩) N 1], [.rows own true 1 N2 row] => some (.br (Nat.beq N N2 && okIs N row) (.br (Nat.beq N 0) (.out (.agg #[vI M, .slice none 0 0], [.rows own true 1 N row, .no])) (.br (decide (N * 8 ≤ 2 ^ 47) && decide (N ≤ 2 ^ 62)) (.out (.agg #[vI M, SI 1 N], [.rows own true 1 N row, .rows true true 1 N (iRow (iOf row))])) .fail)) .fail)
    | _, _ => none
  | _, _ => none
theorem sI_row (c : Nat → Int) (i : Nat) : sI c i = iRow c i := by simp [sI, shiftR, iRow]
theorem twinF_ok {args : List Value} {m : Mem} {ans : Ans (Value × Mem)} {v : Value} {m' : Mem} (h : twinF args m = some ans) (hr : ans.res = some (v, m')) : MemSem Try.prog 23 args m v m' := by
  unfold twinF at h
  split at h
  · rename_i m a
    split at h
    · rename_i M e1
      have ha : a = #[vI M, .slice none 0 0] := by apply Array.ext'; simpa [vI] using e1
      subst ha
      simp only [Option.some.injEq] at h
      subst h
      simp only [Ans.res, Option.some.injEq, Prod.mk.injEq] at hr
      obtain ⟨rfl, rfl⟩ := hr
      exact exT_ok okd1 Try.func23 (by kernel_rfl) (twN M)
    · rename_i M N own N2 row e1
      have ha : a = #[vI M, SI 0 N] := by apply Array.ext'; simpa [SI, vI] using e1
      subst ha
      simp only [Option.some.injEq] at h
      subst h
      rcases Ans.br_some hr with ⟨hc, g⟩ | ⟨_, g⟩ <;> clear hr
      rotate_left
      · simp [Ans.res] at g
      simp only [Bool.and_eq_true] at hc
      obtain ⟨c1, c2⟩ := hc
      have e1 := Nat.eq_of_beq_eq_true c1
      subst e1
      have l1 : LikeL [.rows own true 1 N row] [Ir own N (iOf row)] := ⟨.rows (is_like c2), trivial⟩
      have b1 : Like (Ir own N (iOf row)) (.rows own true 1 N row) := .rows fun i hi => (is_like c2 i hi).symm
      have ht := twT N own M (iOf row)
      rcases Ans.br_some g with ⟨h0, g1⟩ | ⟨h0, g1⟩ <;> clear g
      · simp only [Ans.res, Option.some.injEq, Prod.mk.injEq] at g1
        obtain ⟨rfl, rfl⟩ := g1
        rw [h0] at ht
        exact (MemSem.like (exT_ok okd1 Try.func23 (by kernel_rfl) ht) l1).likes ⟨b1, .refl _, trivial⟩
      · rcases Ans.br_some g1 with ⟨h2, g2⟩ | ⟨_, g2⟩ <;> clear g1
        · simp only [Ans.res, Option.some.injEq, Prod.mk.injEq] at g2
          obtain ⟨rfl, rfl⟩ := g2
          rw [h0, h2] at ht
          exact (MemSem.like (exT_ok okd1 Try.func23 (by kernel_rfl) ht) l1).likes ⟨b1, .rows fun i _ => sI_row _ i, trivial⟩
        · simp [Ans.res] at g2
    · cases h
  · cases h
def Cr23 (P : Program) : Cx := (Cd1 P).addM 23 twinF
theorem okr23 : CxOk (Cr23 Try.prog) := Cx.addM_ok okd1 fun _ _ _ _ _ h hr => twinF_ok h hr
def Cd2 (P : Program) : Cx := (Cr23 P).lend 23
theorem okd2 : CxOk (Cd2 Try.prog) := Cx.lend_ok okr23 _
theorem rfFor : isFor 0 (stmt 2 (rfB Try.prog)) = true := by kernel_rfl
theorem rfHas : hasStmt 1 (rfB Try.prog) = true ∧ hasStmt 2 (rfB Try.prog) = true := ⟨by kernel_rfl, by kernel_rfl⟩
theorem rfIn : InBody ((Cd1 Try.prog).into 47 1) (forHead (stmt 2 (rfB Try.prog))) ∧ InBody ((Cd1 Try.prog).into 47 1) (forBody (stmt 2 (rfB Try.prog))) := for_in (C := Cd1 Try.prog) (f := 47) (B := 1) (id := 0) (k := 2) (fn := Try.f47) (b := rfB Try.prog) Try.func47 rf_eq rfFor
theorem out_rg (n : Int) {α : Type} (x y : α) : (match decide (n < -4503599627370496) with
    | true => x
    | false => match decide (n > 4503599627370496) with
      | true => x
      | false => y) = (match !inRg n with
      | true => x
      | false => y) := by
  unfold inRg
  by_cases h : n < -4503599627370496
  · rw [decide_eq_true h, decide_eq_false (by omega : ¬ -4503599627370496 ≤ n)]; rfl
  · rw [decide_eq_false h, decide_eq_true (by omega : -4503599627370496 ≤ n)]
    by_cases k : n > 4503599627370496
    · rw [decide_eq_true k, decide_eq_false (by omega : ¬ n ≤ 4503599627370496)]; rfl
    · rw [decide_eq_false k, decide_eq_true (by omega : n ≤ 4503599627370496)]; rfl
theorem rfSem (n : Nat) (o : Bool) (M : Int) (c : Nat → Int) : MemSem Try.prog 47 [.agg #[vI M, SI 0 n]] [Ir o n c] (.bool (frmB M n c)) [Ir o n c] := by
  have body0 : InBody ((Cd1 Try.prog).into 47 1) (rfB Try.prog) := Or.inl ⟨Try.f47, rfB Try.prog, Try.func47, rf_eq, fun _ hx => hx⟩
  have fin : ∀ t, CodeSem Try.prog 1 (seqDrop 1 (rfB Try.prog)) (rfS n o c M) .ret (rfX n o c t) → MemSem Try.prog 47 [.agg #[vI M, SI 0 n]] [Ir o n c] (.bool t) [Ir o n c] := fun t h =>
    body_mem (m := [Ir o n c]) (args := [.agg #[vI M, SI 0 n]]) (f := 47) Try.func47 rf_eq (by kernel_rfl) (seg_rule (C := Cd1 Try.prog) okd1 (f := 47) (B := 1) (k := 1) body0 (rfP0 n o c M) h) (rfRet n o c t)
  have r1 := rfP1 n o c M
  unfold frmB
  cases hf : fineB M with
  | false =>
    rw [hf] at r1
    exact fin false (stmt_out rfHas.1 (end_rule' (C := Cd1 Try.prog) okd1 (f := 47) (B := 1) (stmt_in Try.func47 rf_eq) r1) (by simp))
  | true =>
    have hc := fine_cases hf
    have hw : W (M.tdiv 3) = ((M.toNat / 3 : Nat) : Int) := by rcases hc with h | h | h | h <;> subst h <;> decide
    rw [hf, hw] at r1
    rw [Bool.true_and]
    by_cases hn : n = M.toNat / 3
    · rw [show ((n : Int) != ((M.toNat / 3 : Nat) : Int)) = false by simp; omega] at r1
      rw [show ((n : Int) * 3 == M) = true by simp; omega, Bool.true_and]
      have hs := scan_loop (C := Cd1 Try.prog) okd1 (f := 47) (B := 1) (m := 60) rfIn.2 (n := n) (by omega) (rfH n o c) (fun i => !inRg (c i)) (fun _ => rfX n o c false) 0 (rfX n o c false) (fun i _ => by
        refine (rfR n o c i).trans ?_
        cases decide ((i : Int) < (n : Int)) with
        | false => rfl
        | true => exact congrArg (gd (boundsI (i : Int) n)) (out_rg (c i) _ _))
      have hh := end_rule' (C := Cd1 Try.prog) okd1 (f := 47) (B := 1) rfIn.1 (rfHead n o c M)
      have c1' := fun {e s} (h : CodeSem Try.prog 1 (seqDrop 2 (rfB Try.prog)) (rfS n o c M) e s) => stmt_rule rfHas.1 (end_rule' (C := Cd1 Try.prog) okd1 (f := 47) (B := 1) (stmt_in Try.func47 rf_eq) r1) h
      cases hk : fst? (fun i => !inRg (c i)) n 0 with
      | none =>
        have hall := fst?_none hk
        rw [show allR n c = true from List.all_eq_true.2 fun i hi => by simpa using hall i (by omega) (by simpa using hi)]
        exact fin true (c1' (stmt_rule rfHas.2 (for_rule rfFor hh (hs.2 hk)) (end_rule (C := Cd1 Try.prog) okd1 (f := 47) (B := 1) (bodyOf_in Try.func47 rf_eq) (rfEnd n o c))))
      | some k =>
        obtain ⟨_, a, b, _⟩ := fst?_some hk
        rw [show allR n c = false from by
          cases h : allR n c with
          | false => rfl
          | true =>
            have := List.all_eq_true.1 h k (List.mem_range.2 (by omega))
            simp only [this] at b
            cases b]
        exact fin false (c1' (stmt_out rfHas.2 (for_ret rfFor hh (hs.1 k hk)) (by simp)))
    · rw [show ((n : Int) != ((M.toNat / 3 : Nat) : Int)) = true by simp; omega] at r1
      rw [show ((n : Int) * 3 == M) = false by simp; omega, Bool.false_and]
      exact fin false (stmt_out rfHas.1 (end_rule' (C := Cd1 Try.prog) okd1 (f := 47) (B := 1) (stmt_in Try.func47 rf_eq) r1) (by simp))
theorem rformF_ok {args : List Value} {m : Mem} {ans : Ans (Value × Mem)} {v : Value} {m' : Mem} (h : formF args m = some ans) (hr : ans.res = some (v, m')) : MemSem Try.prog 47 args m v m' := by
  unfold formF at h
  split at h
  · rename_i m a
    split at h
    · rename_i k e1
      have ha : a = #[vI k, .slice none 0 0] := by apply Array.ext'; simpa [vI] using e1
      subst ha
      simp only [Option.some.injEq] at h
      subst h
      simp only [Ans.res, Option.some.injEq, Prod.mk.injEq] at hr
      obtain ⟨rfl, rfl⟩ := hr
      have ht := rfN k
      cases hf : fineB k with
      | false => rw [hf] at ht; exact exT_ok okd1 Try.func47 (by kernel_rfl) ht
      | true =>
        have hc := fine_cases hf
        have hz : ((0 : Int) != W (k.tdiv 3)) = true := by
          rcases hc with h | h | h | h <;> subst h <;> decide
        rw [hf, hz] at ht
        exact exT_ok okd1 Try.func47 (by kernel_rfl) ht
    · rename_i k N own N2 row e1
      have ha : a = #[vI k, SI 0 N] := by apply Array.ext'; simpa [SI, vI] using e1
      subst ha
      simp only [Option.some.injEq] at h
      subst h
      rcases Ans.br_some hr with ⟨hc, g⟩ | ⟨_, g⟩ <;> clear hr
      rotate_left
      · simp [Ans.res] at g
      simp only [Bool.and_eq_true] at hc
      obtain ⟨c1, c2⟩ := hc
      have e1 := Nat.eq_of_beq_eq_true c1
      subst e1
      simp only [Ans.res, Option.some.injEq, Prod.mk.injEq] at g
      obtain ⟨rfl, rfl⟩ := g
      have l1 : LikeL [.rows own true 1 N row] [Ir own N (iOf row)] := ⟨.rows (is_like c2), trivial⟩
      exact (MemSem.like (rfSem N own k (iOf row)) l1).likes ⟨.rows fun i hi => (is_like c2 i hi).symm, trivial⟩
    · cases h
  · cases h
def Cr47 (P : Program) : Cx := (Cd2 P).addM 47 formF
theorem okr47 : CxOk (Cr47 Try.prog) := Cx.addM_ok okd2 fun _ _ _ _ _ h hr => rformF_ok h hr
def Cd3 (P : Program) : Cx := (Cr47 P).lend 47
theorem okd3 : CxOk (Cd3 Try.prog) := Cx.lend_ok okr47 _
end Go.Proofs.Ytjhijkdicmbbiaa


namespace Go.Proofs.Ytjhijkdicmbbiaa
open Go Vx Go.RowKit
def fdB (P : Program) : Code := bodyOf P 102
theorem fd_eq : Try.f102.body = some (fdB Try.prog) := by kernel_rfl
def fdM (n K : Nat) (o : Bool) (c : Nat → Int) (M : Int) (f : Nat → List Value) : Mem := [Ir o n c, .cells true 0 [vI M, SI 0 n], Dr true K f]
def fdS (n K : Nat) (o : Bool) (c : Nat → Int) (M m : Int) : St := stOf 30 [(1, vI m), (2, pt 1), (5, SWb 2 K)] (fdM n K o c M zD)
def fdX (n K : Nat) (o : Bool) (c : Nat → Int) (M m : Int) (f : Nat → List Value) (i : Int) : St := stOf 30 [(1, vI m), (2, pt 1), (5, SWb 2 K), (11, SI 0 n), (12, vI n), (13, vI i)] (fdM n K o c M f)
def fdZ (n K : Nat) (o : Bool) (c f : Nat → Int) : St := stOf 30 [(5, SWb 1 K)] [Ir o n c, Dr true K (dRow f)]
def fdY (n K : Nat) (o : Bool) (c f : Nat → Int) : St := stOf 30 [(4, SWb 1 K)] [Ir o n c, Dr true K (dRow f)]
def spF : List From := [.fix 0, .slot 2, .slot 5]
theorem fdP0 (n : Nat) (o : Bool) (c : Nat → Int) (M m : Int) : segR ((Cd3 Try.prog).into 102 1) 60 2 (fdB Try.prog) [1, 2, 5] spF (enter Try.f102 [.agg #[vI M, SI 0 n], vI m] [Ir o n c]) = gd (mkW m) (some (fdS n m.toNat o c M m)) := by kernel_rfl
theorem fdHead (n K : Nat) (o : Bool) (c : Nat → Int) (M m : Int) : roundR ((Cd3 Try.prog).into 102 1) 60 (forHead (stmt 2 (fdB Try.prog))) [1, 2, 5, 11, 12, 13] [1, 2, 5, 11, 12, 13] spF spF (fdS n K o c M m) = some (.normal, fdX n K o c M m zD 0) := by kernel_rfl
theorem fdR (n K : Nat) (o : Bool) (c f : Nat → Int) (M m i : Int) : roundR ((Cd3 Try.prog).into 102 1) 60 (forBody (stmt 2 (fdB Try.prog))) [1, 2, 5, 11, 12, 13] [5] spF [.fix 0, .slot 5] (fdX n K o c M m (dRow f) i) = (match decide (i < (n : Int)) with
  | true => gd (boundsI i n) (gn (M == 0) (gd (i64B (c i.toNat)) (gd (boundsI (W (i * W (m.tdiv M))) K) (some (.normal, fdX n K o c M m (stR (dRow f) (W (i * W (m.tdiv M))).toNat (d2 (c i.toNat))) (W (i + 1)))))))
  | false => some (.exit 0, fdZ n K o c f)) := by kernel_rfl
theorem fdEnd (n K : Nat) (o : Bool) (c f : Nat → Int) : roundR ((Cd3 Try.prog).into 102 1) 60 (seqDrop 3 (fdB Try.prog)) [4] [4] [.fix 0, .slot 4] [.fix 0, .slot 4] (fdZ n K o c f) = some (.ret, fdY n K o c f) := by kernel_rfl
theorem fdRet (n K : Nat) (o : Bool) (c f : Nat → Int) : (retA Try.prog Try.f102 (.ret, fdY n K o c f)).res = some (SWb 1 K, [Ir o n c, Dr true K (dRow f)]) := by kernel_rfl
theorem fdFor : isFor 0 (stmt 2 (fdB Try.prog)) = true := by kernel_rfl
theorem fdHas : hasStmt 2 (fdB Try.prog) = true := by kernel_rfl
theorem fdIn : InBody ((Cd3 Try.prog).into 102 1) (forHead (stmt 2 (fdB Try.prog))) ∧ InBody ((Cd3 Try.prog).into 102 1) (forBody (stmt 2 (fdB Try.prog))) := for_in (C := Cd3 Try.prog) (f := 102) (B := 1) (id := 0) (k := 2) (fn := Try.f102) (b := fdB Try.prog) Try.func102 fd_eq fdFor
theorem fdSem (n : Nat) (o : Bool) (c : Nat → Int) (M m : Int) (h : fineB m = true) (h2 : frmB M n c = true) (h3 : (m % M == 0) = true) : MemSem Try.prog 102 [.agg #[vI M, SI 0 n], vI m] [Ir o n c] (SWb 1 m.toNat) [Ir o n c, Dr true m.toNat (dRow (fineP (m.toNat / M.toNat) c n))] := by
  obtain ⟨f1, f2, f3⟩ := frm_fine h2
  have hM := fine_cases f1
  have hm := fine_cases h
  have body0 : InBody ((Cd3 Try.prog).into 102 1) (fdB Try.prog) := Or.inl ⟨Try.f102, fdB Try.prog, Try.func102, fd_eq, fun _ hx => hx⟩
  have p0 := fdP0 n o c M m
  rw [show mkW m = true by unfold mkW; simp; omega] at p0
  simp only [gd_true] at p0
  obtain ⟨k, hk⟩ : ∃ k, k = m.toNat / M.toNat := ⟨_, rfl⟩
  have hmk : m.toNat = M.toNat * k ∧ 1 ≤ k ∧ k ≤ 8 := by
    simp only [beq_iff_eq] at h3
    rcases hM with a | a | a | a <;> rcases hm with b | b | b | b <;> subst a b <;> simp at h3 hk ⊢ <;> omega
  have hq : W (m.tdiv M) = (k : Int) := by
    rw [show m = ((m.toNat : Nat) : Int) by omega, show M = ((M.toNat : Nat) : Int) by omega, Int.tdiv_eq_ediv_of_nonneg (by omega)]
    rw [show ((m.toNat : Nat) : Int) / ((M.toNat : Nat) : Int) = ((m.toNat / M.toNat : Nat) : Int) by simp, ← hk, W_in (by omega)]
  rw [← hk]
  have hn : n ≤ 64 := by omega
  have hr : ∀ i, i < n → ∃ s, roundR ((Cd3 Try.prog).into 102 1) 60 (forBody (stmt 2 (fdB Try.prog))) [1, 2, 5, 11, 12, 13] [5] spF [.fix 0, .slot 5] (fdX n m.toNat o c M m (dRow (fineP k c i)) (i : Int)) = some (.normal, s) ∧ StLike s (fdX n m.toNat o c M m (dRow (fineP k c (i + 1))) ((i + 1 : Nat) : Int)) := fun i hi => by
    have r := fdR n m.toNat o c (fineP k c i) M m i
    have hik : i * k < n * k := (Nat.mul_lt_mul_right (by omega)).2 hi
    have hnk : n * k ≤ m.toNat := by
      rw [hmk.1, show M.toNat = 3 * n by omega, Nat.mul_assoc]; omega
    rw [show decide ((i : Int) < (n : Int)) = true by simp; omega, boundsI_ok (n := n) (i := (i : Int)) (by omega), show (M == 0) = false by simp; omega, hq, show (i : Int) * (k : Int) = ((i * k : Nat) : Int) by simp, W_in (n := ((i * k : Nat) : Int)) (by omega), boundsI_ok (n := m.toNat) (i := ((i * k : Nat) : Int)) (by omega)] at r
    simp only [gd_true, gn, Int.toNat_natCast, i64_rg (List.all_eq_true.1 f3 i (List.mem_range.2 hi))] at r
    refine ⟨_, r, ?_⟩
    rw [show W ((i : Int) + 1) = ((i + 1 : Nat) : Int) by rw [W_in (by omega)]; simp]
    refine ⟨rfl, .refl _, .refl _, .rows fun q _ => ?_, trivial⟩
    exact (stR_d (fineP k c i) (i * k) (c i) q).trans (congrFun (congrArg dRow (funext fun q => fineP_step k hmk.2.1 c i q)) q)
  have hE := fdR n m.toNat o c (fineP k c n) M m n
  rw [show decide ((n : Int) < (n : Int)) = false by simp] at hE
  have hl := run_loop (C := Cd3 Try.prog) okd3 (f := 102) (B := 1) (m := 60) fdIn.2 (by simp) n (fun i => fdX n m.toNat o c M m (dRow (fineP k c i)) (i : Int)) hr hE
  rw [fineP_none] at hl
  have hh := end_rule (C := Cd3 Try.prog) okd3 (f := 102) (B := 1) fdIn.1 (fdHead n m.toNat o c M m)
  exact body_mem (m := [Ir o n c]) (args := [.agg #[vI M, SI 0 n], vI m]) (f := 102) Try.func102 fd_eq (by kernel_rfl) (seg_rule (C := Cd3 Try.prog) okd3 (f := 102) (B := 1) (k := 2) body0 p0 (stmt_rule fdHas (for_rule fdFor hh hl) (end_rule (C := Cd3 Try.prog) okd3 (f := 102) (B := 1) (bodyOf_in Try.func102 fd_eq) (fdEnd n m.toNat o c (fineP k c n))))) (fdRet n m.toNat o c (fineP k c n))
end Go.Proofs.Ytjhijkdicmbbiaa


namespace Go.Proofs.Ytjhijkdicmbbiaa
open Go Vx Go.RowKit
def finerDF : List Value → Mem → Option (Ans (Value × Mem))
  | [.agg a, .int .i64 m], mm => match a.toList, mm with
    | [.int .i64 M, .slice (some ⟨0, 0, some 0⟩) N 1], [.rows own true 1 N2 row] => some (.br (Nat.beq N N2 && (okIs N row && (fineB m && (frmB M N (iOf row) && (m % M == 0))))) (.out (SWb 1 m.toNat, [.rows own true 1 N row, .rows true true 2 m.toNat (dRow (fineP (m.toNat / M.toNat) (iOf row) N))])) .fail)
    | _, _ => none
  | _, _ => none
theorem finerDF_ok {args : List Value} {m : Mem} {ans : Ans (Value × Mem)} {v : Value} {m' : Mem} (h : finerDF args m = some ans) (hr : ans.res = some (v, m')) : MemSem Try.prog 102 args m v m' := by
  unfold finerDF at h
  split at h
  · rename_i mm a m
    split at h
    · rename_i M N own N2 row e1
      have ha : a = #[vI M, SI 0 N] := by apply Array.ext'; simpa [SI, vI] using e1
      subst ha
      simp only [Option.some.injEq] at h
      subst h
      rcases Ans.br_some hr with ⟨hc, g⟩ | ⟨_, g⟩ <;> clear hr
      rotate_left
      · simp [Ans.res] at g
      simp only [Bool.and_eq_true] at hc
      obtain ⟨c1, c2, c3, c4, c5⟩ := hc
      have e1 := Nat.eq_of_beq_eq_true c1
      subst e1
      simp only [Ans.res, Option.some.injEq, Prod.mk.injEq] at g
      obtain ⟨rfl, rfl⟩ := g
      have l1 : LikeL [.rows own true 1 N row] [Ir own N (iOf row)] := ⟨.rows (is_like c2), trivial⟩
      exact (MemSem.like (fdSem N own (iOf row) M m c3 c4 c5) l1).likes ⟨.rows fun i hi => (is_like c2 i hi).symm, .refl _, trivial⟩
    · cases h
  · cases h
def Cr102 (P : Program) : Cx := (Cd3 P).addM 102 finerDF
theorem okr102 : CxOk (Cr102 Try.prog) := Cx.addM_ok okd3 fun _ _ _ _ _ h hr => finerDF_ok h hr
def Cd4 (P : Program) : Cx := (Cr102 P).lend 102
theorem okd4 : CxOk (Cd4 Try.prog) := Cx.lend_ok okr102 _
def dsB (P : Program) : Code := bodyOf P 24
theorem ds_eq : Try.f24.body = some (dsB Try.prog) := by kernel_rfl
def dsM (n1 n2 : Nat) (o1 o2 : Bool) (M1 M2 : Int) (c1 c2 : Nat → Int) : Mem := [Ir o1 n1 c1, Ir o2 n2 c2, .cells true 0 [vI M1, SI 0 n1], .cells true 0 [vI M2, SI 1 n2], .cells true 0 [vI 0, .slice none 0 0]]
def dsS (n1 n2 : Nat) (o1 o2 : Bool) (M1 M2 : Int) (c1 c2 : Nat → Int) (n : Int) : St := stOf 54 [(2, vI n), (3, pt 2), (4, pt 3), (6, pt 4), (7, vI 0)] (dsM n1 n2 o1 o2 M1 M2 c1 c2)
def dsE (n1 n2 : Nat) (o1 o2 : Bool) (c1 c2 : Nat → Int) (e : Int) : St := stOf 54 [(6, pt 2), (7, vI e)] [Ir o1 n1 c1, Ir o2 n2 c2, .cells true 0 [vI 0, .slice none 0 0]]
def spS : List From := [.fix 0, .fix 1, .slot 3, .slot 4, .slot 6]
theorem dsP0 (n1 n2 : Nat) (o1 o2 : Bool) (M1 M2 : Int) (c1 c2 : Nat → Int) (n : Int) : segR ((Cd4 Try.prog).into 24 2) 60 1 (dsB Try.prog) [2, 3, 4, 6, 7] spS (enter Try.f24 [.agg #[vI M1, SI 0 n1], .agg #[vI M2, SI 1 n2], vI n] [Ir o1 n1 c1, Ir o2 n2 c2]) = some (dsS n1 n2 o1 o2 M1 M2 c1 c2 n) := by kernel_rfl
theorem dsP1 (n1 n2 : Nat) (o1 o2 : Bool) (M1 M2 : Int) (c1 c2 : Nat → Int) (n : Int) : roundR ((Cd4 Try.prog).into 24 2) 60 (stmt 1 (dsB Try.prog)) [2, 3, 4, 6, 7] [6, 7] spS [.fix 0, .fix 1, .slot 6] (dsS n1 n2 o1 o2 M1 M2 c1 c2 n) = gd (lk2 n1) (gd (tI n1 (sI c1)) (match !frmB M1 n1 (iOf (sI c1)) with
  | true => some (.ret, dsE n1 n2 o1 o2 c1 c2 3)
  | false => gd (lk2 n2) (gd (tI n2 (sI c2)) (match !frmB M2 n2 (iOf (sI c2)) with
    | true => some (.ret, dsE n1 n2 o1 o2 c1 c2 3)
    | false => some (.normal, dsS n1 n2 o1 o2 M1 M2 c1 c2 n))))) := by kernel_rfl
def tFd (n : Nat) (m M : Int) (row : Nat → List Value) : Bool := Nat.beq n n && (okIs n row && (fineB m && (frmB M n (iOf row) && (m % M == 0))))
def dsM2 (n1 n2 : Nat) (o1 o2 : Bool) (M2 : Int) (c1 c2 : Nat → Int) (K : Nat) (f : Nat → List Value) : Mem := [Ir o1 n1 c1, Ir o2 n2 c2, .cells true 0 [vI M2, SI 1 n2], .cells true 0 [vI 0, .slice none 0 0], Dr true K f]
def dsS2 (n1 n2 : Nat) (o1 o2 : Bool) (M2 : Int) (c1 c2 : Nat → Int) (n m : Int) (K : Nat) (f : Nat → List Value) : St := stOf 54 [(2, vI n), (4, pt 2), (6, pt 3), (7, vI 0), (8, vI m), (9, SWb 4 K)] (dsM2 n1 n2 o1 o2 M2 c1 c2 K f)
theorem dsP2 (n1 n2 : Nat) (o1 o2 : Bool) (M1 M2 : Int) (c1 c2 : Nat → Int) (n : Int) : segR ((Cd4 Try.prog).into 24 2) 60 2 (seqDrop 2 (dsB Try.prog)) [2, 4, 6, 7, 8, 9] [.fix 0, .fix 1, .slot 4, .slot 6, .slot 9] (dsS n1 n2 o1 o2 M1 M2 c1 c2 n) = gd (lk2 n1) (gd (tFd n1 (mx M1 M2) M1 (sI c1)) (some (dsS2 n1 n2 o1 o2 M2 c1 c2 n (mx M1 M2) (mx M1 M2).toNat (dRow (fineP ((mx M1 M2).toNat / M1.toNat) (iOf (sI c1)) n1))))) := by kernel_rfl
def dsX (n1 n2 : Nat) (o1 o2 : Bool) (c1 c2 : Nat → Int) (n m : Int) (K : Nat) (f : Nat → List Value) (b : Nat → Int) (i : Int) : St := stOf 54 [(2, vI n), (6, pt 2), (7, vI 0), (8, vI m), (9, SWb 3 K), (31, SWb 4 K), (32, vI K), (33, vI i)] [Ir o1 n1 c1, Ir o2 n2 c2, .cells true 0 [vI 0, .slice none 0 0], Dr true K f, Dr true K (dRow b)]
def dsZ (n1 n2 : Nat) (o1 o2 : Bool) (c1 c2 : Nat → Int) (m : Int) (K : Nat) (f : Nat → List Value) : St := stOf 54 [(6, pt 2), (7, vI 0), (8, vI m), (9, SWb 3 K)] [Ir o1 n1 c1, Ir o2 n2 c2, .cells true 0 [vI 0, .slice none 0 0], Dr true K f]
def spX : List From := [.fix 0, .fix 1, .slot 6, .slot 9, .slot 31]
theorem dsHead (n1 n2 : Nat) (o1 o2 : Bool) (M2 : Int) (c1 c2 f : Nat → Int) (n m : Int) : roundR ((Cd4 Try.prog).into 24 2) 60 (forHead (stmt 4 (dsB Try.prog))) [2, 6, 7, 8, 9, 31, 32, 33] [2, 6, 7, 8, 9, 31, 32, 33] spX spX (dsS2 n1 n2 o1 o2 M2 c1 c2 n m m.toNat (dRow f)) = gd (lk2 n2) (gd (tFd n2 m M2 (sI c2)) (some (.normal, dsX n1 n2 o1 o2 c1 c2 n m m.toNat (dRow f) (fineP (m.toNat / M2.toNat) (iOf (sI c2)) n2) 0))) := by kernel_rfl
theorem dsR (n1 n2 : Nat) (o1 o2 : Bool) (c1 c2 f b : Nat → Int) (n m : Int) (K : Nat) (i : Int) : roundR ((Cd4 Try.prog).into 24 2) 60 (forBody (stmt 4 (dsB Try.prog))) [2, 6, 7, 8, 9, 31, 32, 33] [6, 7, 8, 9] spX [.fix 0, .fix 1, .slot 6, .slot 9] (dsX n1 n2 o1 o2 c1 c2 n m K (dRow f) b i) = (match decide (i < (K : Int)) with
  | true => gd (boundsI i K) (gd (boundsI i K) (gd (okv (f i.toNat) && (okv (b i.toNat) && (n == 1 || n == -1))) (gd (boundsI i K) (some (.normal, dsX n1 n2 o1 o2 c1 c2 n m K (stR (dRow f) i.toNat (d2 (dv (f i.toNat) + n * dv (b i.toNat)))) b (W (i + 1)))))))
  | false => some (.exit 0, dsZ n1 n2 o1 o2 c1 c2 m K (dRow f))) := by kernel_rfl
end Go.Proofs.Ytjhijkdicmbbiaa
