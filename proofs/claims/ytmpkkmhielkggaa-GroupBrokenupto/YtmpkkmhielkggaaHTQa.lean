/-
  facetlaw05.GroupLeast: its loops. Nothing here is trusted.
-/
import Derived.Test.YtmpkkmhielkggaaKas
import Derived.Test.YtmpkkmhielkggaaKar
namespace Go.Proofs.Ytmpkkmhielkggaa
open Go Vx
/-- Functions of which the good road is wanted: Twin of a list with maps, Close, Check, Find, Rotations, Centring, Same. -/
def Cqa (P : Program) : Cx := (((((((Cpb P).good 13 [true, false]).good 12 [true, true]).good 14 [true]).good 15 [true]).good 17 [true, false]).good 18 [true, false]).good 19 [true]
theorem okqa : CxOk (Cqa Try.prog) := Cx.good_ok (Cx.good_ok (Cx.good_ok (Cx.good_ok (Cx.good_ok (Cx.good_ok (Cx.good_ok okpb _ _) _ _) _ _) _ _) _ _) _ _) _ _
def allF (G : List O3) : List O3 → Bool
  | [] => true
  | o :: l => (fndE G o == 0) && allF G l
def ordG : List O3 → Bool
  | [] => true
  | p :: l => ordF p l
theorem ordG_strict {l : List O3} : ordG l = true ↔ StrictO l := by
  cases l with
  | nil => simp [ordG, StrictO]
  | cons p l => exact ordF_sorted l p
theorem strict_at {l : List O3} (h : StrictO l) {i : Int} (h0 : 0 < i) (h1 : i < (l.length : Int)) : lexI (atO l (i - 1)).l (atO l i).l < 0 := by
  unfold StrictO at h
  rw [List.pairwise_iff_getElem] at h
  have := h (i - 1).toNat i.toNat (by omega) (by omega) (by omega)
  unfold atO
  rw [List.getElem?_eq_getElem (by omega : (i - 1).toNat < l.length), List.getElem?_eq_getElem (by omega : i.toNat < l.length)]
  exact this

def laX (P : Program) : Code := (loopsOf P 3 9).headD .skip
theorem laX_eq : loopsOf Try.prog 3 9 = [laX Try.prog] := by kernel_rfl
def laH (own : Bool) (n : Nat) (xs : List O3) (zs : List O3) (k : Nat) (ys : List O3) (sd : Int) (i : Int) : St := stOf 188 [(0, .slice (some ⟨0, 0, some 0⟩) n 12), (1, vI sd), (4, .bool false), (5, .slice (some ⟨2, 0, some 0⟩) k 12), (65, .slice (some ⟨0, 0, some 0⟩) n 12), (66, vI n), (67, vI i)] [.rows own true 12 n (opRow xs), .rows true true 12 n (opRow zs), .rows true true 12 k (opRow ys)]
theorem laR (own : Bool) (n : Nat) (xs : List O3) (zs : List O3) (k : Nat) (ys : List O3) (sd : Int) (i : Int) : roundR ((Cqa Try.prog).into 3 1) 40 (laX Try.prog) [0, 1, 4, 5, 65, 66, 67] [0, 1, 4, 5] [.fix 0, .fix 1, .fix 2] [.fix 0, .fix 1, .fix 2] (laH own n xs zs k ys sd i) =
    (match decide (i < (n : Int)) with
    | true => match boundsI i n with
      | true => gd (Nat.ble (0 + k) k && true) (gd (Nat.beq k k && (okOps k (opRow ys) && decide (k ≤ 4611686018427387904))) (gd (fndE (opsOf k (opRow ys)) (atO xs i) == 0) (some (.normal, laH own n xs zs k ys sd (W (i + 1))))))
      | false => none
    | false => some (.exit 0, stOf 188 [(0, .slice (some ⟨0, 0, some 0⟩) n 12), (1, vI sd), (4, .bool false), (5, .slice (some ⟨2, 0, some 0⟩) k 12)] [.rows own true 12 n (opRow xs), .rows true true 12 n (opRow zs), .rows true true 12 k (opRow ys)])) := by kernel_rfl
structure laG where
  (own : Bool) (n : Nat) (xs : List O3) (zs : List O3) (k : Nat) (ys : List O3) (sd : Int) (i : Int)
def laO (own : Bool) (n : Nat) (xs : List O3) (zs : List O3) (k : Nat) (ys : List O3) (sd : Int) (_ : Int) : Exit × St :=
  (.exit 0, stOf 188 [(0, .slice (some ⟨0, 0, some 0⟩) n 12), (1, vI sd), (4, .bool false), (5, .slice (some ⟨2, 0, some 0⟩) k 12)] [.rows own true 12 n (opRow xs), .rows true true 12 n (opRow zs), .rows true true 12 k (opRow ys)])
theorem laL (own : Bool) (n : Nat) (xs : List O3) (zs : List O3) (k : Nat) (ys : List O3) (sd : Int) (i : Int) (hg : 0 ≤ i ∧ (n : Int) ≤ 4611686018427387904 ∧ xs.length = n ∧ ys.length = k ∧ k ≤ 4611686018427387904 ∧ allF ys (xs.drop i.toNat) = true) : LoopSem Try.prog 1 (laX Try.prog) (laH own n xs zs k ys sd i) (laO own n xs zs k ys sd i).1 (laO own n xs zs k ys sd i).2 := by
  refine loop_rule (C := Cqa Try.prog) okqa (f := 3) (B := 1) (loopsOf_in (k := 9) laX_eq) 40 [0, 1, 4, 5, 65, 66, 67] [0, 1, 4, 5] [.fix 0, .fix 1, .fix 2] [.fix 0, .fix 1, .fix 2] (fun g : laG => laH g.own g.n g.xs g.zs g.k g.ys g.sd g.i) (fun g => (g.n - g.i).toNat) (fun g => 0 ≤ g.i ∧ (g.n : Int) ≤ 4611686018427387904 ∧ g.xs.length = g.n ∧ g.ys.length = g.k ∧ g.k ≤ 4611686018427387904 ∧ allF g.ys (g.xs.drop g.i.toNat) = true) (fun g => laO g.own g.n g.xs g.zs g.k g.ys g.sd g.i) ?_ ⟨own, n, xs, zs, k, ys, sd, i⟩ hg
  clear hg
  rintro ⟨own, n, xs, zs, k, ys, sd, i⟩ hg
  simp only at hg
  simp only [laR]
  obtain ⟨h0, h1, h2, h3, h4, h5⟩ := hg
  by_cases hi : i < (n : Int)
  · have hd : decide (i < (n : Int)) = true := by simpa using hi
    have hb : boundsI i n = true := by simp [boundsI, h0, hi]
    have hdx := drop_at (xs := xs) h0 (by omega)
    have hw : W (i + 1) = i + 1 := W_in (by omega)
    have hl : (Nat.ble (0 + k) k && true) = true := by rw [Nat.zero_add, Nat.ble_self_eq_true k]; rfl
    have ht : (Nat.beq k k && (okOps k (opRow ys) && decide (k ≤ 4611686018427387904))) = true := by rw [Nat.beq_refl, okOps_opRow]; simpa using h4
    rw [hdx, allF, Bool.and_eq_true] at h5
    rw [hd, hb, hw, hl, ht, opsOf_row h3, h5.1]
    left
    exact ⟨⟨own, n, xs, zs, k, ys, sd, i + 1⟩, rfl, ⟨by simp only; omega, h1, h2, h3, h4, h5.2⟩, by simp only; omega, rfl⟩
  · have hd : decide (i < (n : Int)) = false := by simpa using hi
    rw [hd]
    right
    unfold laO
    exact ⟨rfl, by simp⟩
def laS (st : St) : Option (Ans (Exit × St)) :=
  match sized st 188 3, tAt st 0, tAt st 1, tAt st 4, tAt st 5, tAt st 65, tAt st 66, tAt st 67, st.mem with
  | true, some (.slice (some ⟨0, 0, some 0⟩) n 12), some (.int .i64 sd), some (.bool false), some (.slice (some ⟨2, 0, some 0⟩) k 12), some (.slice (some ⟨0, 0, some 0⟩) n3 12), some (.int .i64 ln), some (.int .i64 0), [.rows own true 12 n2 row, .rows true true 12 n4 row4, .rows true true 12 k2 row2] => some (.br (Nat.beq n n2 && (okOps n row && (Nat.beq n n4 && (okOps n row4 && (Nat.beq k k2 && (okOps k row2 && (Nat.beq n n3 && (decide ((n : Int) = ln) && (decide ((n : Int) ≤ 4611686018427387904) && (decide (k ≤ 4611686018427387904) && (allF (opsOf k row2) (opsOf n row)))))))))))) (.out (.exit 0, stOf 188 [(0, .slice (some ⟨0, 0, some 0⟩) n 12), (1, vI sd), (4, .bool false), (5, .slice (some ⟨2, 0, some 0⟩) k 12)] [.rows own true 12 n (opRow (opsOf n row)), .rows true true 12 n (opRow (opsOf n row4)), .rows true true 12 k (opRow (opsOf k row2))])) .fail)
  | _, _, _, _, _, _, _, _, _ => none
theorem laK {st : St} {ans : Ans (Exit × St)} {e_ : Exit} {s_ : St} (h : laS st = some ans) (hr : ans.res = some (e_, s_)) : LoopSem Try.prog 1 (laX Try.prog) st e_ s_ := by
  unfold laS at h
  split at h
  · rename_i n sd k n3 ln own n2 row n4 row4 k2 row2 hb hs0 hs1 hs2 hs3 hs4 hs5 hs6 hm
    simp only [Option.some.injEq] at h
    subst h
    rcases Ans.br_some hr with ⟨hc, hr1⟩ | ⟨_, hr1⟩
    · clear hr
      simp only [Bool.and_eq_true] at hc
      obtain ⟨ht0, ht1, ht2, ht3, ht4, ht5, ht6, ht7, ht8, ht9, ht10⟩ := hc
      have ht0 := beq_len ht0
      have ht2 := beq_len ht2
      have ht4 := beq_len ht4
      have c2 := ht1
      have c4 := ht3
      have c6 := ht5
      subst ht0 ht2 ht4
      have ht6 := beq_len ht6
      have ht7 : (n : Int) = ln := by simpa using ht7
      subst ht6 ht7
      have hinv : 0 ≤ ((0 : Int)) ∧ (n : Int) ≤ 4611686018427387904 ∧ (opsOf n row).length = n ∧ (opsOf k row2).length = k ∧ k ≤ 4611686018427387904 ∧ allF (opsOf k row2) ((opsOf n row).drop ((0 : Int)).toNat) = true := by
        exact ⟨by omega, by simpa using ht8, opsOf_length n row, opsOf_length k row2, by simpa using ht9, ht10⟩
      have hk := stOf_keep hb [(0, .slice (some ⟨0, 0, some 0⟩) n 12), (1, vI sd), (4, .bool false), (5, .slice (some ⟨2, 0, some 0⟩) k 12), (65, .slice (some ⟨0, 0, some 0⟩) n 12), (66, vI n), (67, vI ((0 : Int)))] (by
        intro x hx
        simp only [List.mem_cons, List.not_mem_nil, or_false] at hx
        rcases hx with rfl | rfl | rfl | rfl | rfl | rfl | rfl
        · exact hs0
        · exact hs1
        · exact hs2
        · exact hs3
        · exact hs4
        · exact hs5
        · exact hs6) hm
      have key := laL own n (opsOf n row) (opsOf n row4) k (opsOf k row2) sd ((0 : Int)) hinv
      unfold laH at key
      have key := LoopSem.like (m := [.rows own true 12 n row, .rows true true 12 n row4, .rows true true 12 k row2]) key ⟨.rows (ops_like c2), .rows (ops_like c4), .rows (ops_like c6), trivial⟩
      have key : LoopSem Try.prog 1 (laX Try.prog) (stOf 188 [(0, .slice (some ⟨0, 0, some 0⟩) n 12), (1, vI sd), (4, .bool false), (5, .slice (some ⟨2, 0, some 0⟩) k 12), (65, .slice (some ⟨0, 0, some 0⟩) n 12), (66, vI n), (67, vI ((0 : Int)))] [.rows own true 12 n row, .rows true true 12 n row4, .rows true true 12 k row2]) _ _ := key
      rw [← hk] at key
      have key := LoopSem.clean key
      unfold laO at key
      simp only [Ans.res, Option.some.injEq, Prod.mk.injEq] at hr1
      obtain ⟨rfl, rfl⟩ := hr1
      exact key
    · simp [Ans.res] at hr1
  · cases h

def lbX (P : Program) : Code := (loopsOf P 3 16).headD .skip
theorem lbX_eq : loopsOf Try.prog 3 16 = [lbX Try.prog] := by kernel_rfl
def lbH (own : Bool) (n : Nat) (xs : List O3) (zs : List O3) (k : Nat) (ys : List O3) (sd : Int) (i : Int) : St := stOf 188 [(0, .slice (some ⟨0, 0, some 0⟩) n 12), (1, vI sd), (4, .bool false), (5, .slice (some ⟨2, 0, some 0⟩) k 12), (80, .slice (some ⟨2, 0, some 0⟩) k 12), (81, vI k), (82, vI i)] [.rows own true 12 n (opRow xs), .rows true true 12 n (opRow zs), .rows true true 12 k (opRow ys)]
theorem lbR (own : Bool) (n : Nat) (xs : List O3) (zs : List O3) (k : Nat) (ys : List O3) (sd : Int) (i : Int) : roundR ((Cqa Try.prog).into 3 1) 40 (lbX Try.prog) [0, 1, 4, 5, 80, 81, 82] [0, 1, 4, 5] [.fix 0, .fix 1, .fix 2] [.fix 0, .fix 1, .fix 2] (lbH own n xs zs k ys sd i) =
    (match decide (i < (k : Int)) with
    | true => match boundsI i k with
      | true => match decide (i > 0) with
        | true => match boundsI (W (i - 1)) k with
          | true => match decide (lexI (atO ys (W (i - 1))).l (atO ys i).l ≥ 0) with
            | true => some (.ret, stOf 188 [(0, .slice (some ⟨0, 0, some 0⟩) n 12), (1, vI sd), (4, .bool false), (5, .slice (some ⟨2, 0, some 0⟩) k 12)] [.rows own true 12 n (opRow xs), .rows true true 12 n (opRow zs), .rows true true 12 k (opRow ys)])
            | false => some (.normal, lbH own n xs zs k ys sd (W (i + 1)))
          | false => none
        | false => some (.normal, lbH own n xs zs k ys sd (W (i + 1)))
      | false => none
    | false => some (.exit 2, stOf 188 [(0, .slice (some ⟨0, 0, some 0⟩) n 12), (1, vI sd), (4, .bool false), (5, .slice (some ⟨2, 0, some 0⟩) k 12)] [.rows own true 12 n (opRow xs), .rows true true 12 n (opRow zs), .rows true true 12 k (opRow ys)])) := by kernel_rfl
structure lbG where
  (own : Bool) (n : Nat) (xs : List O3) (zs : List O3) (k : Nat) (ys : List O3) (sd : Int) (i : Int)
def lbO (own : Bool) (n : Nat) (xs : List O3) (zs : List O3) (k : Nat) (ys : List O3) (sd : Int) (_ : Int) : Exit × St :=
  (.exit 2, stOf 188 [(0, .slice (some ⟨0, 0, some 0⟩) n 12), (1, vI sd), (4, .bool false), (5, .slice (some ⟨2, 0, some 0⟩) k 12)] [.rows own true 12 n (opRow xs), .rows true true 12 n (opRow zs), .rows true true 12 k (opRow ys)])
theorem lbL (own : Bool) (n : Nat) (xs : List O3) (zs : List O3) (k : Nat) (ys : List O3) (sd : Int) (i : Int) (hg : 0 ≤ i ∧ (k : Int) ≤ 4611686018427387904 ∧ ys.length = k ∧ StrictO ys) : LoopSem Try.prog 1 (lbX Try.prog) (lbH own n xs zs k ys sd i) (lbO own n xs zs k ys sd i).1 (lbO own n xs zs k ys sd i).2 := by
  refine loop_rule (C := Cqa Try.prog) okqa (f := 3) (B := 1) (loopsOf_in (k := 16) lbX_eq) 40 [0, 1, 4, 5, 80, 81, 82] [0, 1, 4, 5] [.fix 0, .fix 1, .fix 2] [.fix 0, .fix 1, .fix 2] (fun g : lbG => lbH g.own g.n g.xs g.zs g.k g.ys g.sd g.i) (fun g => (g.k - g.i).toNat) (fun g => 0 ≤ g.i ∧ (g.k : Int) ≤ 4611686018427387904 ∧ g.ys.length = g.k ∧ StrictO g.ys) (fun g => lbO g.own g.n g.xs g.zs g.k g.ys g.sd g.i) ?_ ⟨own, n, xs, zs, k, ys, sd, i⟩ hg
  clear hg
  rintro ⟨own, n, xs, zs, k, ys, sd, i⟩ hg
  simp only at hg
  simp only [lbR]
  obtain ⟨h0, h1, h2, h3⟩ := hg
  by_cases hi : i < (k : Int)
  · have hd : decide (i < (k : Int)) = true := by simpa using hi
    have hb : boundsI i k = true := by simp [boundsI, h0, hi]
    have hw : W (i + 1) = i + 1 := W_in (by omega)
    left
    refine ⟨⟨own, n, xs, zs, k, ys, sd, i + 1⟩, ?_, ⟨by simp only; omega, h1, h2, h3⟩, by simp only; omega, rfl⟩
    by_cases hp : 0 < i
    · have hp' : decide (i > 0) = true := by simpa using hp
      have hw1 : W (i - 1) = i - 1 := W_in (by omega)
      have hb1 : boundsI (i - 1) k = true := by simp [boundsI]; omega
      have hs := strict_at h3 hp (by omega)
      have hs' : decide (lexI (atO ys (i - 1)).l (atO ys i).l ≥ 0) = false := by simp; omega
      rw [hd, hb, hw, hp', hw1, hb1, hs']
    · have hp' : decide (i > 0) = false := by simpa using hp
      rw [hd, hb, hw, hp']
  · have hd : decide (i < (k : Int)) = false := by simpa using hi
    rw [hd]
    right
    unfold lbO
    exact ⟨rfl, by simp⟩
def lbS (st : St) : Option (Ans (Exit × St)) :=
  match sized st 188 3, tAt st 0, tAt st 1, tAt st 4, tAt st 5, tAt st 80, tAt st 81, tAt st 82, st.mem with
  | true, some (.slice (some ⟨0, 0, some 0⟩) n 12), some (.int .i64 sd), some (.bool false), some (.slice (some ⟨2, 0, some 0⟩) k 12), some (.slice (some ⟨2, 0, some 0⟩) k3 12), some (.int .i64 lk), some (.int .i64 0), [.rows own true 12 n2 row, .rows true true 12 n4 row4, .rows true true 12 k2 row2] => some (.br (Nat.beq n n2 && (okOps n row && (Nat.beq n n4 && (okOps n row4 && (Nat.beq k k2 && (okOps k row2 && (Nat.beq k k3 && (decide ((k : Int) = lk) && (decide ((k : Int) ≤ 4611686018427387904) && (ordG (opsOf k row2))))))))))) (.out (.exit 2, stOf 188 [(0, .slice (some ⟨0, 0, some 0⟩) n 12), (1, vI sd), (4, .bool false), (5, .slice (some ⟨2, 0, some 0⟩) k 12)] [.rows own true 12 n (opRow (opsOf n row)), .rows true true 12 n (opRow (opsOf n row4)), .rows true true 12 k (opRow (opsOf k row2))])) .fail)
  | _, _, _, _, _, _, _, _, _ => none
theorem lbK {st : St} {ans : Ans (Exit × St)} {e_ : Exit} {s_ : St} (h : lbS st = some ans) (hr : ans.res = some (e_, s_)) : LoopSem Try.prog 1 (lbX Try.prog) st e_ s_ := by
  unfold lbS at h
  split at h
  · rename_i n sd k k3 lk own n2 row n4 row4 k2 row2 hb hs0 hs1 hs2 hs3 hs4 hs5 hs6 hm
    simp only [Option.some.injEq] at h
    subst h
    rcases Ans.br_some hr with ⟨hc, hr1⟩ | ⟨_, hr1⟩
    · clear hr
      simp only [Bool.and_eq_true] at hc
      obtain ⟨ht0, ht1, ht2, ht3, ht4, ht5, ht6, ht7, ht8, ht9⟩ := hc
      have ht0 := beq_len ht0
      have ht2 := beq_len ht2
      have ht4 := beq_len ht4
      have c2 := ht1
      have c4 := ht3
      have c6 := ht5
      subst ht0 ht2 ht4
      have ht6 := beq_len ht6
      have ht7 : (k : Int) = lk := by simpa using ht7
      subst ht6 ht7
      have hinv : 0 ≤ ((0 : Int)) ∧ (k : Int) ≤ 4611686018427387904 ∧ (opsOf k row2).length = k ∧ StrictO (opsOf k row2) := by
        exact ⟨by omega, by simpa using ht8, opsOf_length k row2, ordG_strict.1 ht9⟩
      have hk := stOf_keep hb [(0, .slice (some ⟨0, 0, some 0⟩) n 12), (1, vI sd), (4, .bool false), (5, .slice (some ⟨2, 0, some 0⟩) k 12), (80, .slice (some ⟨2, 0, some 0⟩) k 12), (81, vI k), (82, vI ((0 : Int)))] (by
        intro x hx
        simp only [List.mem_cons, List.not_mem_nil, or_false] at hx
        rcases hx with rfl | rfl | rfl | rfl | rfl | rfl | rfl
        · exact hs0
        · exact hs1
        · exact hs2
        · exact hs3
        · exact hs4
        · exact hs5
        · exact hs6) hm
      have key := lbL own n (opsOf n row) (opsOf n row4) k (opsOf k row2) sd ((0 : Int)) hinv
      unfold lbH at key
      have key := LoopSem.like (m := [.rows own true 12 n row, .rows true true 12 n row4, .rows true true 12 k row2]) key ⟨.rows (ops_like c2), .rows (ops_like c4), .rows (ops_like c6), trivial⟩
      have key : LoopSem Try.prog 1 (lbX Try.prog) (stOf 188 [(0, .slice (some ⟨0, 0, some 0⟩) n 12), (1, vI sd), (4, .bool false), (5, .slice (some ⟨2, 0, some 0⟩) k 12), (80, .slice (some ⟨2, 0, some 0⟩) k 12), (81, vI k), (82, vI ((0 : Int)))] [.rows own true 12 n row, .rows true true 12 n row4, .rows true true 12 k row2]) _ _ := key
      rw [← hk] at key
      have key := LoopSem.clean key
      unfold lbO at key
      simp only [Ans.res, Option.some.injEq, Prod.mk.injEq] at hr1
      obtain ⟨rfl, rfl⟩ := hr1
      exact key
    · simp [Ans.res] at hr1
  · cases h
def Cqb (P : Program) : Cx := ((Cqa P).addLB 3 9 1 laS).addLB 3 16 1 lbS
theorem okqb : CxOk (Cqb Try.prog) := Cx.addLB_ok (Cx.addLB_ok okqa laX_eq fun _ _ _ _ h hr => laK h hr) lbX_eq fun _ _ _ _ h hr => lbK h hr
end Go.Proofs.Ytmpkkmhielkggaa
