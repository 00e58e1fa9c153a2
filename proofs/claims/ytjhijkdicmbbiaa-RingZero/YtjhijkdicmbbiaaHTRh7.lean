/-
  facetref15.DocTimes, DocNeg. Nothing here is trusted.
-/
import Derived.Test.YtjhijkdicmbbiaaHTRh6
namespace Go.Proofs.Ytjhijkdicmbbiaa
open Go Vx Go.RowKit
def dtB (P : Program) : Code := bodyOf P 31
def dtM (n : Nat) (o : Bool) (c : Nat → Int) (M : Int) : Mem := [Ir o n c, .cells true 0 [vI M, SI 0 n], .cells true 0 [vI 0, .slice none 0 0]]
def dtS (n : Nat) (o : Bool) (c : Nat → Int) (M k : Int) : St := stOf 39 [(0, vI k), (3, pt 1), (4, pt 2), (5, vI 0)] (dtM n o c M)
def spU : List From := [.fix 0, .slot 3, .slot 4, .slot 6]
theorem dtP0 (n : Nat) (o : Bool) (M k : Int) (c : Nat → Int) : segR ((Cg4 Try.prog).into 31 1) 60 1 (dtB Try.prog) [0, 3, 4, 5] [.fix 0, .slot 3, .slot 4] (enter Try.f31 [vI k, .agg #[vI M, SI 0 n]] [Ir o n c]) = some (stOf 39 [(0, vI (k)), (3, pt 1), (4, pt 2), (5, vI ((0 : Int)))] [.rows (o) true 1 (n) (iRow c), .cells true 0 [vI (M), SI 0 (n)], .cells true 0 [vI ((0 : Int)), .slice none 0 0]]) := by kernel_rfl
theorem dtP1 (n : Nat) (o : Bool) (M k : Int) (c : Nat → Int) : roundR ((Cg4 Try.prog).into 31 1) 60 (stmt 1 (dtB Try.prog)) [0, 3, 4, 5] [4, 5] [.fix 0, .slot 3, .slot 4] [.fix 0, .slot 4] (dtS n o c M k) = gd (Nat.ble (0 + n) n && true && true) (gd (Nat.beq n n && okIs n (shiftR 0 (iRow c))) ((match !frmB M n (iOf (shiftR 0 (iRow c))) with
  | true => some ((.ret, stOf 39 [(4, pt 1), (5, vI ((3 : Int)))] [.rows (o) true 1 (n) (iRow c), .cells true 0 [vI ((0 : Int)), .slice none 0 0]]))
  | false => some ((.normal, stOf 39 [(0, vI (k)), (3, pt 1), (4, pt 2), (5, vI ((0 : Int)))] [.rows (o) true 1 (n) (iRow c), .cells true 0 [vI (M), SI 0 (n)], .cells true 0 [vI ((0 : Int)), .slice none 0 0]]))))) := by kernel_rfl
theorem dtP2 (n : Nat) (o : Bool) (M k : Int) (c : Nat → Int) : roundR ((Cg4 Try.prog).into 31 1) 60 (stmt 2 (dtB Try.prog)) [0, 3, 4, 5] [0, 3, 4, 5] [.fix 0, .slot 3, .slot 4] [.fix 0, .slot 3, .slot 4] (dtS n o c M k) = (match decide (k < (-9007199254740992 : Int)) with
  | true => some ((.normal, stOf 39 [(0, vI ((9007199254740992 : Int))), (3, pt 1), (4, pt 2), (5, vI ((0 : Int)))] [.rows (o) true 1 (n) (iRow c), .cells true 0 [vI (M), SI 0 (n)], .cells true 0 [vI ((0 : Int)), .slice none 0 0]]))
  | false => (match decide (k > (9007199254740992 : Int)) with
  | true => some ((.normal, stOf 39 [(0, vI ((9007199254740992 : Int))), (3, pt 1), (4, pt 2), (5, vI ((0 : Int)))] [.rows (o) true 1 (n) (iRow c), .cells true 0 [vI (M), SI 0 (n)], .cells true 0 [vI ((0 : Int)), .slice none 0 0]]))
  | false => some ((.normal, stOf 39 [(0, vI (k)), (3, pt 1), (4, pt 2), (5, vI ((0 : Int)))] [.rows (o) true 1 (n) (iRow c), .cells true 0 [vI (M), SI 0 (n)], .cells true 0 [vI ((0 : Int)), .slice none 0 0]])))) := by kernel_rfl
theorem dtP3 (n : Nat) (o : Bool) (M k : Int) (c : Nat → Int) : segR ((Cg4 Try.prog).into 31 1) 60 1 (seqDrop 3 (dtB Try.prog)) [0, 3, 4, 5, 6] spU (dtS n o c M k) = some (stOf 39 [(0, vI (k)), (3, pt 1), (4, pt 2), (5, vI ((0 : Int))), (6, .slice none 0 0)] [.rows (o) true 1 (n) (iRow c), .cells true 0 [vI (M), SI 0 (n)], .cells true 0 [vI ((0 : Int)), .slice none 0 0], .no]) := by kernel_rfl
def dtW0 (n : Nat) (o : Bool) (c : Nat → Int) (M k : Int) : St := stOf 39 [(0, vI k), (3, pt 1), (4, pt 2), (5, vI 0), (6, .slice none 0 0)] (dtM n o c M ++ [.no])
def dtX0 (n : Nat) (o : Bool) (c : Nat → Int) (M k i : Int) : St := stOf 39 [(0, vI k), (3, pt 1), (4, pt 2), (5, vI 0), (6, .slice none 0 0), (20, SI 0 n), (21, vI n), (22, vI i)] (dtM n o c M ++ [.no])
def dtX (n K : Nat) (o : Bool) (c : Nat → Int) (M k i : Int) (g : Nat → List Value) : St := stOf 39 [(0, vI k), (3, pt 1), (4, pt 2), (5, vI 0), (6, SWb 3 K), (20, SI 0 n), (21, vI n), (22, vI i)] (dtM n o c M ++ [.rows true true 2 K g])
theorem dtHead (n : Nat) (o : Bool) (M k : Int) (c : Nat → Int) : roundR ((Cg4 Try.prog).into 31 1) 60 (forHead (stmt 4 (dtB Try.prog))) [0, 3, 4, 5, 6, 20, 21, 22] [0, 3, 4, 5, 6, 20, 21, 22] spU spU (dtW0 n o c M k) = some ((.normal, stOf 39 [(0, vI (k)), (3, pt 1), (4, pt 2), (5, vI ((0 : Int))), (6, .slice none 0 0), (20, SI 0 (n)), (21, vI (↑n)), (22, vI ((0 : Int)))] [.rows (o) true 1 (n) (iRow c), .cells true 0 [vI (M), SI 0 (n)], .cells true 0 [vI ((0 : Int)), .slice none 0 0], .no])) := by kernel_rfl
theorem dtR0 (n : Nat) (o : Bool) (M k i : Int) (c : Nat → Int) : roundR ((Cg4 Try.prog).into 31 1) 60 (forBody (stmt 4 (dtB Try.prog))) [0, 3, 4, 5, 6, 20, 21, 22] [0, 3, 4, 5, 6] spU spU (dtX0 n o c M k i) = (match decide (i < ↑n) with
  | true => gd (boundsI i n) (gd (inRg (c (Int.toNat i)) && in53 k) (some ((.normal, stOf 39 [(0, vI (k)), (3, pt 1), (4, pt 2), (5, vI ((0 : Int))), (6, SWb 3 1), (20, SI 0 (n)), (21, vI (↑n)), (22, vI (W (i + (1 : Int))))] [.rows (o) true 1 (n) (iRow c), .cells true 0 [vI (M), SI 0 (n)], .cells true 0 [vI ((0 : Int)), .slice none 0 0], .rows true true 2 1 (chop 2 0 [vI (c (Int.toNat i) * k / (4503599627370496 : Int)), vI (c (Int.toNat i) * k % (4503599627370496 : Int))])]))))
  | false => some ((.exit 0, stOf 39 [(0, vI (k)), (3, pt 1), (4, pt 2), (5, vI ((0 : Int))), (6, .slice none 0 0)] [.rows (o) true 1 (n) (iRow c), .cells true 0 [vI (M), SI 0 (n)], .cells true 0 [vI ((0 : Int)), .slice none 0 0], .no]))) := by kernel_rfl
theorem dtR (n K : Nat) (o : Bool) (M k i : Int) (c g : Nat → Int) : roundR ((Cg4 Try.prog).into 31 1) 60 (forBody (stmt 4 (dtB Try.prog))) [0, 3, 4, 5, 6, 20, 21, 22] [0, 3, 4, 5, 6] spU spU (dtX n K o c M k i (dRow g)) = (match decide (i < ↑n) with
  | true => gd (boundsI i n) (gd (inRg (c (Int.toNat i)) && in53 k) (gd (Nat.beq K K && (decide ((K + 1) * 16 ≤ 140737488355328) && decide (K + 1 ≤ 4611686018427387904))) (some ((.normal, stOf 39 [(0, vI (k)), (3, pt 1), (4, pt 2), (5, vI ((0 : Int))), (6, SWb 3 (K + 1)), (20, SI 0 (n)), (21, vI (↑n)), (22, vI (W (i + (1 : Int))))] [.rows (o) true 1 (n) (iRow c), .cells true 0 [vI (M), SI 0 (n)], .cells true 0 [vI ((0 : Int)), .slice none 0 0], .rows true true 2 (K + 1) (catR K (dRow g) (chop 2 0 [vI (c (Int.toNat i) * k / (4503599627370496 : Int)), vI (c (Int.toNat i) * k % (4503599627370496 : Int))]))])))))
  | false => some ((.exit 0, stOf 39 [(0, vI (k)), (3, pt 1), (4, pt 2), (5, vI ((0 : Int))), (6, SWb 3 (K))] [.rows (o) true 1 (n) (iRow c), .cells true 0 [vI (M), SI 0 (n)], .cells true 0 [vI ((0 : Int)), .slice none 0 0], .rows true true 2 (K) (dRow g)]))) := by kernel_rfl
theorem dt_eq : Try.f31.body = some (dtB Try.prog) := by kernel_rfl
def dtZ (n K : Nat) (o : Bool) (c : Nat → Int) (M k : Int) (g : Nat → List Value) : St := stOf 39 [(0, vI k), (3, pt 1), (4, pt 2), (5, vI 0), (6, SWb 3 K)] (dtM n o c M ++ [.rows true true 2 K g])
theorem dtEnd (n K : Nat) (o : Bool) (M k : Int) (c g : Nat → Int) : roundR ((Cg4 Try.prog).into 31 1) 60 (seqDrop 5 (dtB Try.prog)) [4, 5] [4, 5] [.fix 0, .slot 4, .cell 2 1] [.fix 0, .slot 4, .cell 2 1] (dtZ n K o c M k (dRow g)) = gd (Nat.ble (0 + K) K && true) (gd (Nat.ble (0 + K) K && true) (gd (fineB M && (Nat.beq K K && (okLs K (shiftR 0 (shiftR 0 (dRow g))) && decide (↑K ≤ M)))) ((match allR (Int.toNat M / 3) (cofE (Int.toNat M / 6) (Int.toNat M) (cut K (lOf K (shiftR 0 (shiftR 0 (dRow g)))))) with
  | true => some ((.ret, stOf 39 [(4, pt 1), (5, vI ((0 : Int)))] [.rows (o) true 1 (n) (iRow c), .cells true 0 [vI (M), SI 2 (Int.toNat M / 3)], .rows true true 1 (Int.toNat M / 3) (iRow (cofE (Int.toNat M / 6) (Int.toNat M) (cut K (lOf K (shiftR 0 (shiftR 0 (dRow g)))))))]))
  | false => some ((.ret, stOf 39 [(4, pt 1), (5, vI ((4 : Int)))] [.rows (o) true 1 (n) (iRow c), .cells true 0 [vI ((0 : Int)), .slice none 0 0], .no])))))) := by kernel_rfl
theorem dtN (M k : Int) : exT ((Cg4 Try.prog).at 31) 60 Try.f31 [vI k, .agg #[vI M, .slice none 0 0]] [] [] = some ((.tuple #[.agg #[vI ((0 : Int)), .slice none 0 0], vI ((3 : Int))], [])) := by kernel_rfl
theorem dtFor : isFor 0 (stmt 4 (dtB Try.prog)) = true := by kernel_rfl
theorem dtHas : hasStmt 1 (dtB Try.prog) = true ∧ hasStmt 2 (dtB Try.prog) = true ∧ hasStmt 4 (dtB Try.prog) = true := ⟨by kernel_rfl, by kernel_rfl, by kernel_rfl⟩
theorem dtIn : InBody ((Cg4 Try.prog).into 31 1) (forHead (stmt 4 (dtB Try.prog))) ∧ InBody ((Cg4 Try.prog).into 31 1) (forBody (stmt 4 (dtB Try.prog))) := for_in (C := Cg4 Try.prog) (f := 31) (B := 1) (id := 0) (k := 4) (fn := Try.f31) (b := dtB Try.prog) Try.func31 dt_eq dtFor
theorem dtRet (n : Nat) (o : Bool) (c f : Nat → Int) (m : Int) : (retA Try.prog Try.f31 (.ret, rsY 39 4 5 n o c f m)).res = some (rgV m (SI 2 (m.toNat / 3)) 0, [Ir o n c, .cells true 0 [vI m, SI 2 (m.toNat / 3)], .rows true true 1 (m.toNat / 3) (iRow f)]) := by kernel_rfl
theorem dtRetF (n : Nat) (o : Bool) (c : Nat → Int) (e : Int) : (retA Try.prog Try.f31 (.ret, stOf 39 [(4, pt 1), (5, vI e)] [Ir o n c, .cells true 0 [vI 0, .slice none 0 0], .no])).res = some (rgE e, [Ir o n c, .cells true 0 [vI 0, .slice none 0 0], .no]) := by kernel_rfl
theorem dtRetE (n : Nat) (o : Bool) (c : Nat → Int) (e : Int) : (retA Try.prog Try.f31 (.ret, stOf 39 [(4, pt 1), (5, vI e)] [Ir o n c, .cells true 0 [vI 0, .slice none 0 0]])).res = some (rgE e, [Ir o n c, .cells true 0 [vI 0, .slice none 0 0]]) := by kernel_rfl
/-- What the document takes for a factor beyond all bounds. -/
def clK (k : Int) : Int := if in53 k = true then k else 9007199254740992
theorem clK_in (k : Int) : in53 (clK k) = true := by
  unfold clK
  by_cases h : in53 k = true
  · rw [if_pos h]; exact h
  · rw [if_neg h]; decide
theorem dtP2' (n : Nat) (o : Bool) (M k : Int) (c : Nat → Int) : roundR ((Cg4 Try.prog).into 31 1) 60 (stmt 2 (dtB Try.prog)) [0, 3, 4, 5] [0, 3, 4, 5] [.fix 0, .slot 3, .slot 4] [.fix 0, .slot 3, .slot 4] (dtS n o c M k) = some (.normal, dtS n o c M (clK k)) := by
  have h := dtP2 n o M k c
  by_cases a : k < -9007199254740992
  · have e : clK k = 9007199254740992 := by unfold clK; rw [if_neg (by rw [in53_iff]; omega)]
    rw [decide_eq_true a] at h
    rw [e]; exact h
  · by_cases b : k > 9007199254740992
    · have e : clK k = 9007199254740992 := by unfold clK; rw [if_neg (by rw [in53_iff]; omega)]
      rw [decide_eq_false a, decide_eq_true b] at h
      rw [e]; exact h
    · have e : clK k = k := by unfold clK; rw [if_pos (by rw [in53_iff]; omega)]
      rw [decide_eq_false a, decide_eq_false b] at h
      rw [e]; exact h
theorem clK_rg {k x : Int} (hx : inRg x = true) : inRg (k * x) = inRg (x * clK k) ∧ (inRg (k * x) = true → k * x = x * clK k) := by
  unfold clK
  by_cases h : in53 k = true
  · rw [if_pos h, Int.mul_comm k x]; exact ⟨rfl, fun _ => rfl⟩
  · rw [if_neg h]
    have hk2 : k < -9007199254740992 ∨ 9007199254740992 < k := by rw [in53_iff] at h; omega
    have hx := inRg_iff.1 hx
    by_cases h0 : x = 0
    · subst h0; rw [Int.mul_zero, Int.zero_mul]; exact ⟨rfl, fun _ => rfl⟩
    · have f1 : inRg (k * x) = false := by
        cases hr : inRg (k * x) with
        | false => rfl
        | true =>
          have := inRg_iff.1 hr
          rcases hk2 with g | g <;> rcases (show x ≤ -1 ∨ 1 ≤ x by omega) with y | y
          · have : (-k) * (-x) ≥ 9007199254740992 * 1 := Int.mul_le_mul (by omega) (by omega) (by omega) (by omega)
            rw [Int.neg_mul_neg] at this; omega
          · have : (-k) * x ≥ 9007199254740992 * 1 := Int.mul_le_mul (by omega) (by omega) (by omega) (by omega)
            rw [Int.neg_mul] at this; omega
          · have : k * (-x) ≥ 9007199254740992 * 1 := Int.mul_le_mul (by omega) (by omega) (by omega) (by omega)
            rw [Int.mul_neg] at this; omega
          · have : k * x ≥ 9007199254740992 * 1 := Int.mul_le_mul (by omega) (by omega) (by omega) (by omega)
            omega
      have f2 : inRg (x * 9007199254740992) = false := by
        cases hr : inRg (x * 9007199254740992) with
        | false => rfl
        | true => have := inRg_iff.1 hr; omega
      rw [f1, f2]
      exact ⟨rfl, fun h => by cases h⟩
theorem cat_row (G : Nat → Int) (K : Nat) : ∀ q, q < K + 1 → catR K (dRow G) (chop 2 0 [vI (G K / 4503599627370496), vI (G K % 4503599627370496)]) q = dRow G q := fun q hq => by
  unfold catR
  by_cases h : q < K
  · rw [show Nat.blt q K = true by simp [Nat.blt_eq]; omega]
  · rw [show Nat.blt q K = false by cases hb : Nat.blt q K with
      | false => rfl
      | true => simp [Nat.blt_eq] at hb; omega]
    have : q = K := by omega
    subst this
    show chop 2 0 _ (q - q) = _
    rw [Nat.sub_self]
    rfl
theorem dtE0 (n : Nat) (o : Bool) (M k : Int) (c : Nat → Int) (h0 : frmB M n c = false) : MemSem Try.prog 31 [vI k, .agg #[vI M, SI 0 n]] [Ir o n c] (rgE 3) [Ir o n c] := by
  have body0 : InBody ((Cg4 Try.prog).into 31 1) (dtB Try.prog) := Or.inl ⟨Try.f31, dtB Try.prog, Try.func31, dt_eq, fun _ hx => hx⟩
  have p1 := dtP1 n o M k c
  simp only [rules] at p1
  simp only [nots, h0] at p1
  exact (body_mem (m := [Ir o n c]) (args := [vI k, .agg #[vI M, SI 0 n]]) (f := 31) Try.func31 dt_eq (by kernel_rfl) (seg_rule (C := Cg4 Try.prog) okCg4 (f := 31) (B := 1) (k := 1) body0 (dtP0 n o M k c) (stmt_out dtHas.1 (end_rule' (C := Cg4 Try.prog) okCg4 (f := 31) (B := 1) (stmt_in Try.func31 dt_eq) p1) (by simp))) (dtRetE n o c 3)).tidy (tmTidyE n o c 3)
def dtH (n : Nat) (o : Bool) (c : Nat → Int) (M k : Int) (i : Nat) : St := match i with
  | 0 => dtX0 n o c M k 0
  | j + 1 => dtX n (j + 1) o c M k ((j + 1 : Nat) : Int) (dRow fun q => c q * k)
theorem dtAll (n : Nat) (o : Bool) (M k : Int) (c : Nat → Int) (h0 : frmB M n c = true) :
    (allR n (fun q => c q * clK k) = true → MemSem Try.prog 31 [vI k, .agg #[vI M, SI 0 n]] [Ir o n c] (rgV M (SI 1 (M.toNat / 3)) 0) [Ir o n c, Ir true (M.toNat / 3) fun q => c q * clK k]) ∧
    (allR n (fun q => c q * clK k) = false → MemSem Try.prog 31 [vI k, .agg #[vI M, SI 0 n]] [Ir o n c] (rgE 4) [Ir o n c]) := by
  have body0 : InBody ((Cg4 Try.prog).into 31 1) (dtB Try.prog) := Or.inl ⟨Try.f31, dtB Try.prog, Try.func31, dt_eq, fun _ hx => hx⟩
  obtain ⟨f1, e1, r1⟩ := frm_fine h0
  obtain ⟨s1, s2, s3, s4⟩ := six f1
  have hc := fine_cases f1
  have en : n = 2 * (M.toNat / 6) := by omega
  have hk := clK_in k
  have p1 := dtP1 n o M k c
  simp only [rules] at p1
  simp only [nots, h0] at p1
  have p2 := dtP2' n o M k c
  generalize clK k = k' at *
  have p3 := dtP3 n o M k' c
  have hh := end_rule (C := Cg4 Try.prog) okCg4 (f := 31) (B := 1) dtIn.1 (dtHead n o M k' c)
  have hr : ∀ i, i < n → ∃ s, roundR ((Cg4 Try.prog).into 31 1) 60 (forBody (stmt 4 (dtB Try.prog))) [0, 3, 4, 5, 6, 20, 21, 22] [0, 3, 4, 5, 6] spU spU (dtH n o c M k' i) = some (.normal, s) ∧ StLike s (dtH n o c M k' (i + 1)) := fun i hi => by
    have rg := List.all_eq_true.1 r1 i (List.mem_range.2 hi)
    match i, hi with
    | 0, hi =>
      have r := dtR0 n o M k' 0 c
      rw [show decide ((0 : Int) < (n : Int)) = true by simp; omega, boundsI_ok (n := n) (i := 0) (by omega)] at r
      simp only [show (0 : Int).toNat = 0 from rfl] at r
      simp only [rules, rg, hk] at r
      refine ⟨_, r, ?_⟩
      refine ⟨rfl, .refl _, .refl _, .refl _, .rows fun q hq => ?_, trivial⟩
      have : q = 0 := by omega
      subst this
      rfl
    | j + 1, hi =>
      have r := dtR n (j + 1) o M k' ((j + 1 : Nat) : Int) c fun q => c q * k'
      rw [show decide (((j + 1 : Nat) : Int) < (n : Int)) = true by simp; omega, boundsI_ok (n := n) (i := ((j + 1 : Nat) : Int)) (by omega)] at r
      rw [decide_eq_true (by omega : (j + 1 + 1) * 16 ≤ 140737488355328), decide_eq_true (by omega : j + 1 + 1 ≤ 4611686018427387904)] at r
      simp only [rules, Int.toNat_natCast, rg, hk] at r
      refine ⟨_, r, ?_⟩
      rw [show W (((j + 1 : Nat) : Int) + 1) = ((j + 1 + 1 : Nat) : Int) by rw [W_in (by omega)]; simp]
      exact ⟨rfl, .refl _, .refl _, .refl _, .rows fun q hq => cat_row (fun q => c q * k') (j + 1) q hq, trivial⟩
  have hE := dtR n n o M k' n c fun q => c q * k'
  rw [show decide ((n : Int) < (n : Int)) = false by simp] at hE
  obtain ⟨j, hj⟩ : ∃ j, n = j + 1 := ⟨n - 1, by omega⟩
  have hl := run_loop (C := Cg4 Try.prog) okCg4 (f := 31) (B := 1) (m := 60) (e := .exit 0) (sE := dtZ n n o c M k' (dRow fun q => c q * k')) dtIn.2 (by simp) n (fun i => dtH n o c M k' i) hr (by
    show roundR _ _ _ _ _ _ _ (dtH n o c M k' n) = _
    rw [show dtH n o c M k' n = dtX n n o c M k' (n : Int) (dRow fun q => c q * k') by rw [hj]; rfl]
    exact hE)
  have front : ∀ {s}, CodeSem Try.prog 1 (seqDrop 5 (dtB Try.prog)) (dtZ n n o c M k' (dRow fun q => c q * k')) .ret s → CodeSem Try.prog 1 (dtB Try.prog) (enter Try.f31 [vI k, .agg #[vI M, SI 0 n]] [Ir o n c]) .ret s := fun hs =>
    seg_rule (C := Cg4 Try.prog) okCg4 (f := 31) (B := 1) (k := 1) body0 (dtP0 n o M k c) (stmt_rule dtHas.1 (end_rule' (C := Cg4 Try.prog) okCg4 (f := 31) (B := 1) (stmt_in Try.func31 dt_eq) p1) (stmt_rule dtHas.2.1 (end_rule' (C := Cg4 Try.prog) okCg4 (f := 31) (B := 1) (stmt_in Try.func31 dt_eq) p2) (seg_rule (C := Cg4 Try.prog) okCg4 (f := 31) (B := 1) (k := 1) (bodyOf_in Try.func31 dt_eq) p3 (by rw [seqDrop_drop]; exact stmt_rule dtHas.2.2 (for_rule dtFor hh hl) hs))))
  have hb : ∀ i, i < n → -(4503599627370496 * 9007199254740992) ≤ c i * k' ∧ c i * k' ≤ 4503599627370496 * 9007199254740992 := fun i hi => abs_mul (inRg_iff.1 (List.all_eq_true.1 r1 i (List.mem_range.2 hi))) (in53_iff.1 hk)
  have hok := okLs_on (n := n) (row := dRow fun q => c q * k') (g := fun q => c q * k') (fun _ _ => rfl) fun i hi => by have := hb i hi; omega
  have hcf : ∀ q, q < 2 * (M.toNat / 6) → cofE (M.toNat / 6) M.toNat (cut n (lOf n (dRow fun q => c q * k'))) q = c q * k' := fun q hq => by
    rw [cof_on (g := cut n fun q => c q * k') (fun i hi => by unfold dRow cut; rw [if_pos hi]) fun i a b => by unfold cut; rw [if_neg (by omega)]]
    have key := cof_self (e := M.toNat / 6) (g := cut n fun q => c q * k') (fun p hp => by unfold cut; rw [if_neg (by omega)]) hq
    rw [← s4] at key
    rw [key]
    unfold cut
    rw [if_pos (by omega)]
  have hall := allR_on (n := M.toNat / 3) (a := cofE (M.toNat / 6) M.toNat (cut n (lOf n (dRow fun q => c q * k')))) (b := fun q => c q * k') fun q hq => hcf q (by omega)
  have he := dtEnd n n o M k' c fun q => c q * k'
  rw [decide_eq_true (by omega : (n : Int) ≤ M)] at he
  simp only [rules, f1, hok, hall] at he
  have en3 : M.toNat / 3 = n := by omega
  refine ⟨fun hA => ?_, fun hA => ?_⟩
  · rw [← en3] at hA
    rw [hA] at he
    refine ((body_mem (m := [Ir o n c]) (args := [vI k, .agg #[vI M, SI 0 n]]) (f := 31) Try.func31 dt_eq (by kernel_rfl) (front (end_rule (C := Cg4 Try.prog) okCg4 (f := 31) (B := 1) (bodyOf_in Try.func31 dt_eq) he)) (dtRet n o c _ M)).tidy (tmTidy n o c _ M)).likes ⟨.refl _, .rows fun q hq => ?_, trivial⟩
    show [vI _] = [vI _]
    rw [hcf q (by omega)]
  · rw [← en3] at hA
    rw [hA] at he
    exact (body_mem (m := [Ir o n c]) (args := [vI k, .agg #[vI M, SI 0 n]]) (f := 31) Try.func31 dt_eq (by kernel_rfl) (front (end_rule (C := Cg4 Try.prog) okCg4 (f := 31) (B := 1) (bodyOf_in Try.func31 dt_eq) he)) (dtRetF n o c 4)).tidy (tmTidyF n o c 4)
theorem times_all {n : Nat} {k : Int} {c : Nat → Int} (h : allR n c = true) : allR n (timesC k c) = allR n (fun q => c q * clK k) := by
  unfold allR
  rw [Bool.eq_iff_iff, List.all_eq_true, List.all_eq_true]
  exact ⟨fun g i hi => by rw [← (clK_rg (List.all_eq_true.1 h i hi)).1]; exact g i hi, fun g i hi => by show inRg (k * c i) = true; rw [(clK_rg (List.all_eq_true.1 h i hi)).1]; exact g i hi⟩
theorem dtimesT (n : Nat) (o : Bool) (M : Int) (c : Nat → Int) (k : Int) (_ : i64B k = true) (h0 : frmB M n c = true) (h1 : allR n (timesC k c) = true) : MemSem Try.prog 31 [vI k, .agg #[vI M, SI 0 n]] [Ir o n c] (rgV M (SI 1 (M.toNat / 3)) 0) [Ir o n c, Ir true (M.toNat / 3) (timesC k c)] := by
  obtain ⟨f1, e1, r1⟩ := frm_fine h0
  have h2 := h1
  rw [times_all (k := k) r1] at h1
  refine ((dtAll n o M k c h0).1 h1).likes ⟨.refl _, .rows fun q hq => ?_, trivial⟩
  show [vI (c q * clK k)] = [vI (k * c q)]
  have hq : q < n := by omega
  rw [(clK_rg (List.all_eq_true.1 r1 q (List.mem_range.2 hq))).2 (List.all_eq_true.1 h2 q (List.mem_range.2 hq))]
theorem dtimesE0 (n : Nat) (o : Bool) (M : Int) (c : Nat → Int) (k : Int) (_ : i64B k = true) (h0 : frmB M n c = false) : MemSem Try.prog 31 [vI k, .agg #[vI M, SI 0 n]] [Ir o n c] (rgE 3) [Ir o n c] := dtE0 n o M k c h0
theorem dtimesE1 (n : Nat) (o : Bool) (M : Int) (c : Nat → Int) (k : Int) (_ : i64B k = true) (h0 : frmB M n c = true) (h1 : allR n (timesC k c) = false) : MemSem Try.prog 31 [vI k, .agg #[vI M, SI 0 n]] [Ir o n c] (rgE 4) [Ir o n c] := by
  rw [times_all (k := k) (frm_fine h0).2.2] at h1
  exact (dtAll n o M k c h0).2 h1
def dtimesF : List Value → Mem → Option (Ans (Value × Mem))
  | [.int .i64 k, .agg a], mm => match a.toList, mm with
    | [.int .i64 _, .slice none 0 0], [] => some (.out (rgE 3, []))
    | [.int .i64 M, .slice (some ⟨0, 0, some 0⟩) N 1], [.rows own true 1 N2 row] => some (.br (i64B k && (Nat.beq N N2 && okIs N row)) (.br (frmB M N (iOf row)) (.br (allR N (timesC k (iOf row))) (.out (rgV M (SI 1 (M.toNat / 3)) 0, [.rows own true 1 N row, .rows true true 1 (M.toNat / 3) (iRow (timesC k (iOf row)))])) (.out (rgE 4, [.rows own true 1 N row]))) (.out (rgE 3, [.rows own true 1 N row]))) .fail)
    | _, _ => none
  | _, _ => none
theorem dtimesF_ok {args : List Value} {m : Mem} {ans : Ans (Value × Mem)} {v : Value} {m' : Mem} (h : dtimesF args m = some ans) (hr : ans.res = some (v, m')) : MemSem Try.prog 31 args m v m' := by
  unfold dtimesF at h
  split at h
  · rename_i mm k a
    split at h
    · rename_i M e1
      have ha : a = #[vI M, .slice none 0 0] := by apply Array.ext'; simpa [vI] using e1
      subst ha
      simp only [Option.some.injEq] at h
      subst h
      simp only [Ans.res, Option.some.injEq, Prod.mk.injEq] at hr
      obtain ⟨rfl, rfl⟩ := hr
      exact exT_ok okCg4 Try.func31 (by kernel_rfl) (dtN _ k)
    · rename_i M N own N2 row e1
      have ha : a = #[vI M, SI 0 N] := by apply Array.ext'; simpa [SI, vI] using e1
      subst ha
      simp only [Option.some.injEq] at h
      subst h
      rcases Ans.br_some hr with ⟨hc, g⟩ | ⟨_, g⟩ <;> clear hr
      rotate_left
      · simp [Ans.res] at g
      simp only [Bool.and_eq_true] at hc
      obtain ⟨cp, c1, c2⟩ := hc
      have e1 := Nat.eq_of_beq_eq_true c1
      subst e1
      have l1 : LikeL [.rows own true 1 N row] [Ir own N (iOf row)] := ⟨.rows (is_like c2), trivial⟩
      have b1 : Like (Ir own N (iOf row)) (.rows own true 1 N row) := .rows fun i hi => (is_like c2 i hi).symm
      rcases Ans.br_some g with ⟨h0, g0⟩ | ⟨h0, g0⟩ <;> clear g
      rotate_left
      · simp only [Ans.res, Option.some.injEq, Prod.mk.injEq] at g0
        obtain ⟨rfl, rfl⟩ := g0
        exact (MemSem.like (dtimesE0 N own M (iOf row) k cp h0) l1).likes ⟨b1, trivial⟩
      rcases Ans.br_some g0 with ⟨h1, g1⟩ | ⟨h1, g1⟩ <;> clear g0
      rotate_left
      · simp only [Ans.res, Option.some.injEq, Prod.mk.injEq] at g1
        obtain ⟨rfl, rfl⟩ := g1
        exact (MemSem.like (dtimesE1 N own M (iOf row) k cp h0 h1) l1).likes ⟨b1, trivial⟩
      simp only [Ans.res, Option.some.injEq, Prod.mk.injEq] at g1
      obtain ⟨rfl, rfl⟩ := g1
      exact (MemSem.like (dtimesT N own M (iOf row) k cp h0 h1) l1).likes ⟨b1, .refl _, trivial⟩
    · cases h
  · cases h
def Cr31 (P : Program) : Cx := (Cg4 P).addM 31 dtimesF
theorem okr31 : CxOk (Cr31 Try.prog) := Cx.addM_ok okCg4 fun _ _ _ _ _ h hr => dtimesF_ok h hr
def Cg5 (P : Program) : Cx := (Cr31 P).lend 31
theorem okCg5 : CxOk (Cg5 Try.prog) := Cx.lend_ok okr31 _
theorem dnN (M : Int) : exT ((Cg5 Try.prog).at 39) 60 Try.f39 [.agg #[vI M, .slice none 0 0]] [] [] = some ((.tuple #[.agg #[vI ((0 : Int)), .slice none 0 0], vI ((3 : Int))], [])) := by kernel_rfl
theorem dnL (n : Nat) (o : Bool) (M : Int) (c : Nat → Int) : exT ((Cg5 Try.prog).at 39) 60 Try.f39 [.agg #[vI M, SI 0 n]] [Ir o n c] [.fix 0, .cell 2 1] = gd (Nat.ble (0 + n) n && true && true) (gd (i64B (-1 : Int) && (Nat.beq n n && okIs n (shiftR 0 (iRow c)))) ((match frmB M n (iOf (shiftR 0 (iRow c))) with
  | true => (match allR n (timesC (-1 : Int) (iOf (shiftR 0 (iRow c)))) with
  | true => some ((.tuple #[.agg #[vI (M), SI 1 (Int.toNat M / 3)], vI ((0 : Int))], [.rows (o) true 1 (n) (iRow c), .rows true true 1 (Int.toNat M / 3) (iRow (timesC (-1 : Int) (iOf (shiftR 0 (iRow c)))))]))
  | false => some ((.tuple #[.agg #[vI ((0 : Int)), .slice none 0 0], vI ((4 : Int))], [.rows (o) true 1 (n) (iRow c), .no])))
  | false => some ((.tuple #[.agg #[vI ((0 : Int)), .slice none 0 0], vI ((3 : Int))], [.rows (o) true 1 (n) (iRow c), .no]))))) := by kernel_rfl
theorem dnE (n : Nat) (o : Bool) (M : Int) (c : Nat → Int) : exT ((Cg5 Try.prog).at 39) 60 Try.f39 [.agg #[vI M, SI 0 n]] [Ir o n c] [.fix 0] = gd (Nat.ble (0 + n) n && true && true) (gd (i64B (-1 : Int) && (Nat.beq n n && okIs n (shiftR 0 (iRow c)))) ((match frmB M n (iOf (shiftR 0 (iRow c))) with
  | true => (match allR n (timesC (-1 : Int) (iOf (shiftR 0 (iRow c)))) with
  | true => some ((.tuple #[.agg #[vI (M), unk], vI ((0 : Int))], [.rows (o) true 1 (n) (iRow c)]))
  | false => some ((.tuple #[.agg #[vI ((0 : Int)), .slice none 0 0], vI ((4 : Int))], [.rows (o) true 1 (n) (iRow c)])))
  | false => some ((.tuple #[.agg #[vI ((0 : Int)), .slice none 0 0], vI ((3 : Int))], [.rows (o) true 1 (n) (iRow c)]))))) := by kernel_rfl
theorem i64m : i64B (-1) = true := by decide
theorem dnegT (n : Nat) (o : Bool) (M : Int) (c : Nat → Int) (_ : True) (h0 : frmB M n c = true) : MemSem Try.prog 39 [.agg #[vI M, SI 0 n]] [Ir o n c] (rgV M (SI 1 (M.toNat / 3)) 0) [Ir o n c, Ir true (M.toNat / 3) (timesC (-1) c)] := by
  have h := dnL n o M c
  simp only [rules, i64m] at h
  simp only [h0, ng_all h0] at h
  exact exT_ok okCg5 Try.func39 (by kernel_rfl) h
theorem dnegE0 (n : Nat) (o : Bool) (M : Int) (c : Nat → Int) (_ : True) (h0 : frmB M n c = false) : MemSem Try.prog 39 [.agg #[vI M, SI 0 n]] [Ir o n c] (rgE 3) [Ir o n c] := by
  have h := dnE n o M c
  simp only [rules, i64m] at h
  simp only [h0] at h
  exact exT_ok okCg5 Try.func39 (by kernel_rfl) h
def dnegF : List Value → Mem → Option (Ans (Value × Mem))
  | [.agg a], mm => match a.toList, mm with
    | [.int .i64 _, .slice none 0 0], [] => some (.out (rgE 3, []))
    | [.int .i64 M, .slice (some ⟨0, 0, some 0⟩) N 1], [.rows own true 1 N2 row] => some (.br (true && (Nat.beq N N2 && okIs N row)) (.br (frmB M N (iOf row)) (.out (rgV M (SI 1 (M.toNat / 3)) 0, [.rows own true 1 N row, .rows true true 1 (M.toNat / 3) (iRow (timesC (-1) (iOf row)))])) (.out (rgE 3, [.rows own true 1 N row]))) .fail)
    | _, _ => none
  | _, _ => none
theorem dnegF_ok {args : List Value} {m : Mem} {ans : Ans (Value × Mem)} {v : Value} {m' : Mem} (h : dnegF args m = some ans) (hr : ans.res = some (v, m')) : MemSem Try.prog 39 args m v m' := by
  unfold dnegF at h
  split at h
  · rename_i mm a
    split at h
    · rename_i M e1
      have ha : a = #[vI M, .slice none 0 0] := by apply Array.ext'; simpa [vI] using e1
      subst ha
      simp only [Option.some.injEq] at h
      subst h
      simp only [Ans.res, Option.some.injEq, Prod.mk.injEq] at hr
      obtain ⟨rfl, rfl⟩ := hr
      exact exT_ok okCg5 Try.func39 (by kernel_rfl) (dnN _)
    · rename_i M N own N2 row e1
      have ha : a = #[vI M, SI 0 N] := by apply Array.ext'; simpa [SI, vI] using e1
      subst ha
      simp only [Option.some.injEq] at h
      subst h
      rcases Ans.br_some hr with ⟨hc, g⟩ | ⟨_, g⟩ <;> clear hr
      rotate_left
      · simp [Ans.res] at g
      simp only [Bool.and_eq_true] at hc
      obtain ⟨cp, c1, c2⟩ := hc
      have e1 := Nat.eq_of_beq_eq_true c1
      subst e1
      have l1 : LikeL [.rows own true 1 N row] [Ir own N (iOf row)] := ⟨.rows (is_like c2), trivial⟩
      have b1 : Like (Ir own N (iOf row)) (.rows own true 1 N row) := .rows fun i hi => (is_like c2 i hi).symm
      rcases Ans.br_some g with ⟨h0, g0⟩ | ⟨h0, g0⟩ <;> clear g
      rotate_left
      · simp only [Ans.res, Option.some.injEq, Prod.mk.injEq] at g0
        obtain ⟨rfl, rfl⟩ := g0
        exact (MemSem.like (dnegE0 N own M (iOf row)  cp h0) l1).likes ⟨b1, trivial⟩
      simp only [Ans.res, Option.some.injEq, Prod.mk.injEq] at g0
      obtain ⟨rfl, rfl⟩ := g0
      exact (MemSem.like (dnegT N own M (iOf row)  cp h0) l1).likes ⟨b1, .refl _, trivial⟩
    · cases h
  · cases h
def Cr39 (P : Program) : Cx := (Cg5 P).addM 39 dnegF
theorem okr39 : CxOk (Cr39 Try.prog) := Cx.addM_ok okCg5 fun _ _ _ _ _ h hr => dnegF_ok h hr
def Cg6 (P : Program) : Cx := (Cr39 P).lend 39
theorem okCg6 : CxOk (Cg6 Try.prog) := Cx.lend_ok okr39 _
end Go.Proofs.Ytjhijkdicmbbiaa
