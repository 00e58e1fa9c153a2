/-
  group.Find, told; facetref05.DocCheck: its loops. Nothing here is trusted.
-/
import Derived.Test.YtcefeamjnnkahaaGu

namespace Go.Proofs.Ytcefeamjnnkahaa
open Go Vx
theorem leastN_zero {a b : Int} : leastN a b = 0 ↔ a = 0 ∧ b = 0 := by
  unfold leastN
  by_cases ha : a = 0
  · subst ha; simp
  · rw [(bif_beq ha).1]
    by_cases hb : b = 0
    · subst hb; simp [ha]
    · rw [(bif_beq hb).2]
      by_cases hl : b < a <;> simp [hl, ha, hb]
def fndF : List Value → Mem → Option (Ans (Value × Mem))
  | [.slice none 0 0, .agg co], [] => match opCells co.toList with
    | some o => some (.br (leastN 5 o.ck != 0) (.out (twoI 0 (leastN 5 o.ck), [])) .fail)
    | none => none
  | [.slice (some ⟨0, 0, some 0⟩) N 12, .agg co], [.rows own true 12 N2 row] => match opCells co.toList with
    | some o => some (.br (Nat.beq N N2 && (okOps N row && decide (N ≤ 4611686018427387904))) (.out (twoI (fndV (opsOf N row) o) (fndE (opsOf N row) o), [.rows own true 12 N (opRow (opsOf N row))])) .fail)
    | none => none
  | _, _ => none
theorem fndE2 (own : Bool) (N : Nat) (ls : List O3) (o : O3) (hl : ls.length = N) (hN : N ≤ 4611686018427387904) : exT ((Cpls Try.prog).at 15) 60 Try.f15 [.slice (some ⟨0, 0, some 0⟩) N 12, o.v] [.rows own true 12 N (opRow ls)] [.fix 0] = some (twoI (fndV ls o) (fndE ls o), [.rows own true 12 N (opRow ls)]) := by
  have ht : (Nat.beq N N && (okOps N (opRow ls) && decide (N ≤ 4611686018427387904))) = true := by rw [Nat.beq_refl, okOps_opRow]; simp; omega
  rw [fndE1, opsOf_row hl, ht, gd_true]
  unfold fndV fndE
  by_cases h : leastN (chkI ls) o.ck = 0
  · obtain ⟨h1, h2⟩ := leastN_zero.1 h
    rw [h1, h2]
    cases mHas (key o) (atsL ls 0 []) <;> rfl
  · rw [(bif_beq h).1]
    by_cases h1 : chkI ls = 0
    · rw [h1] at h ⊢
      rw [(bif_beq h).2]; rfl
    · rw [(bif_beq h1).2, (bif_beq h).2]; rfl
def Cfn (P : Program) : Cx := (Cpls P).addF 15 fndF
theorem okfn : CxOk (Cfn Try.prog) := Cx.addF_ok okpls fun args m ans v m' h hr => by
  unfold fndF at h
  split at h
  · rename_i co
    split at h
    · rename_i o ho
      simp only [Option.some.injEq] at h
      subst h
      rcases Ans.br_some hr with ⟨hc, hr1⟩ | ⟨_, hr1⟩
      · simp only [Ans.res, Option.some.injEq, Prod.mk.injEq] at hr1
        obtain ⟨rfl, rfl⟩ := hr1
        have e1 : co = o.cells.toArray := by rw [← opCells_spec ho]
        subst e1
        have hE := fndE0 o
        rw [hc] at hE
        exact exT_ok okpls Try.func15 (by kernel_rfl) hE
      · simp [Ans.res] at hr1
    · cases h
  · rename_i N co own N2 row
    split at h
    · rename_i o ho
      simp only [Option.some.injEq] at h
      subst h
      rcases Ans.br_some hr with ⟨hc, hr1⟩ | ⟨_, hr1⟩
      · clear hr
        simp only [Bool.and_eq_true, decide_eq_true_eq] at hc
        obtain ⟨c1, c2, c3⟩ := hc
        have c1 := beq_len c1
        subst c1
        simp only [Ans.res, Option.some.injEq, Prod.mk.injEq] at hr1
        obtain ⟨rfl, rfl⟩ := hr1
        have e1 : co = o.cells.toArray := by rw [← opCells_spec ho]
        subst e1
        exact (exT_ok okpls Try.func15 (by kernel_rfl) (fndE2 own N (opsOf N row) o (opsOf_length N row) c3)).like ⟨.rows (ops_like c2), trivial⟩
      · simp [Ans.res] at hr1
    · cases h
  · cases h
/-- Is a list in order, behind a map? -/
def ordF : O3 → List O3 → Bool
  | _, [] => true
  | p, x :: l => match decide (lexI p.l x.l ≥ 0) with
    | true => false
    | false => ordF x l
/-- Are all maps of a list, then a, among these? -/
def inMul (a : O3) (X : List O3) : List O3 → Bool
  | [] => true
  | b :: l => match decide (placeI X (a.mul5 b) < 0) with
    | true => false
    | false => inMul a X l
def inAll (X : List O3) : List O3 → Bool
  | [] => true
  | a :: l => match inMul a X X with
    | true => inAll X l
    | false => false

def ocX (P : Program) : Code := (loopsOf P 14 7).headD .skip
theorem ocX_eq : loopsOf Try.prog 14 7 = [ocX Try.prog] := by kernel_rfl
def ocH (own : Bool) (n : Nat) (xs : List O3) (i : Int) : St := stOf 58 [(0, .slice (some ⟨0, 0, some 0⟩) n 12), (2, vI 0), (4, vI i)] [.rows own true 12 n (opRow xs)]
theorem ocR (own : Bool) (n : Nat) (xs : List O3) (i : Int) : roundR ((Cfn Try.prog).into 14 1) 40 (ocX Try.prog) [0, 2, 4] [0, 2] [.fix 0] [.fix 0] (ocH own n xs i) =
    (match decide (i < (n : Int)) with
    | true => match boundsI (W (i - 1)) n with
      | true => match boundsI i n with
        | true => match decide (lexI (atO xs (W (i - 1))).l (atO xs i).l ≥ 0) with
          | true => some (.ret, stOf 58 [(0, .slice (some ⟨0, 0, some 0⟩) n 12), (2, vI 5)] [.rows own true 12 n (opRow xs)])
          | false => some (.normal, ocH own n xs (W (i + 1)))
        | false => none
      | false => none
    | false => some (.exit 0, stOf 58 [(0, .slice (some ⟨0, 0, some 0⟩) n 12), (2, vI 0)] [.rows own true 12 n (opRow xs)])) := by kernel_rfl
structure ocG where
  (own : Bool) (n : Nat) (xs : List O3) (i : Int)
def ocO (own : Bool) (n : Nat) (xs : List O3) (i : Int) : Exit × St :=
  match ordF (atO xs (i - 1)) (xs.drop i.toNat) with
  | true => (.exit 0, stOf 58 [(0, .slice (some ⟨0, 0, some 0⟩) n 12), (2, vI 0)] [.rows own true 12 n (opRow xs)])
  | false => (.ret, stOf 58 [(0, .slice (some ⟨0, 0, some 0⟩) n 12), (2, vI 5)] [.rows own true 12 n (opRow xs)])
theorem ocL (own : Bool) (n : Nat) (xs : List O3) (i : Int) (hg : 1 ≤ i ∧ (n : Int) ≤ 4611686018427387904 ∧ xs.length = n) : LoopSem Try.prog 1 (ocX Try.prog) (ocH own n xs i) (ocO own n xs i).1 (ocO own n xs i).2 := by
  refine loop_rule (C := Cfn Try.prog) okfn (f := 14) (B := 1) (loopsOf_in (k := 7) ocX_eq) 40 [0, 2, 4] [0, 2] [.fix 0] [.fix 0] (fun g : ocG => ocH g.own g.n g.xs g.i) (fun g => (g.n - g.i).toNat) (fun g => 1 ≤ g.i ∧ (g.n : Int) ≤ 4611686018427387904 ∧ g.xs.length = g.n) (fun g => ocO g.own g.n g.xs g.i) ?_ ⟨own, n, xs, i⟩ hg
  clear hg
  rintro ⟨own, n, xs, i⟩ hg
  simp only at hg
  simp only [ocR]
  obtain ⟨h0, h1, h2⟩ := hg
  by_cases hi : i < (n : Int)
  · have hd : decide (i < (n : Int)) = true := by simpa using hi
    have hb : boundsI i n = true := by simp [boundsI, hi]; omega
    have hw1 : W (i - 1) = i - 1 := W_in (by omega)
    have hb1 : boundsI (i - 1) n = true := by simp [boundsI]; omega
    have hdx := drop_at (xs := xs) (i := i) (by omega) (by omega)
    have hw : W (i + 1) = i + 1 := W_in (by omega)
    rw [hw1, hd, hb, hb1, hw]
    simp only
    cases he : decide (lexI (atO xs (i - 1)).l (atO xs i).l ≥ 0) with
    | true =>
      right
      unfold ocO
      simp only [hdx, ordF, he]
      exact ⟨trivial, by simp⟩
    | false =>
      left
      refine ⟨⟨own, n, xs, i + 1⟩, rfl, ⟨by simp only; omega, h1, h2⟩, by simp only; omega, ?_⟩
      unfold ocO
      simp only [hdx, ordF, he, show i + 1 - 1 = i by omega]
  · have hd : decide (i < (n : Int)) = false := by simpa using hi
    rw [hd]
    right
    have hn : xs.drop i.toNat = [] := List.drop_eq_nil_of_le (by omega)
    unfold ocO
    simp only [hn, ordF]
    exact ⟨trivial, by simp⟩
def ocS (st : St) : Option (Ans (Exit × St)) :=
  match sized st 58 1, tAt st 0, tAt st 2, tAt st 4, st.mem with
  | true, some (.slice (some ⟨0, 0, some 0⟩) n 12), some (.int .i64 0), some (.int .i64 i), [.rows own true 12 n2 row] => some (.br (Nat.beq n n2 && (okOps n row && (decide (1 ≤ i) && (decide ((n : Int) ≤ 4611686018427387904))))) (.br (ordF (atO (opsOf n row) (i - 1)) ((opsOf n row).drop i.toNat))
      (.out (.exit 0, stOf 58 [(0, .slice (some ⟨0, 0, some 0⟩) n 12), (2, vI 0)] [.rows own true 12 n (opRow (opsOf n row))]))
      (.out (.ret, stOf 58 [(0, .slice (some ⟨0, 0, some 0⟩) n 12), (2, vI 5)] [.rows own true 12 n (opRow (opsOf n row))]))) .fail)
  | _, _, _, _, _ => none
theorem ocK {st : St} {ans : Ans (Exit × St)} {e_ : Exit} {s_ : St} (h : ocS st = some ans) (hr : ans.res = some (e_, s_)) : LoopSem Try.prog 1 (ocX Try.prog) st e_ s_ := by
  unfold ocS at h
  split at h
  · rename_i n i own n2 row hb hs0 hs1 hs2 hm
    simp only [Option.some.injEq] at h
    subst h
    rcases Ans.br_some hr with ⟨hc, hr1⟩ | ⟨_, hr1⟩
    · clear hr
      simp only [Bool.and_eq_true] at hc
      obtain ⟨ht0, ht1, ht2, ht3⟩ := hc
      have ht0 := beq_len ht0
      subst ht0
      have hinv : 1 ≤ i ∧ (n : Int) ≤ 4611686018427387904 ∧ (opsOf n row).length = n := by
        exact ⟨by simpa using ht2, by simpa using ht3, opsOf_length n row⟩
      have hk := stOf_keep hb [(0, .slice (some ⟨0, 0, some 0⟩) n 12), (2, vI 0), (4, vI i)] (by
        intro x hx
        simp only [List.mem_cons, List.not_mem_nil, or_false] at hx
        rcases hx with rfl | rfl | rfl
        · exact hs0
        · exact hs1
        · exact hs2) hm
      have key := ocL own n (opsOf n row) i hinv
      unfold ocH at key
      have key := LoopSem.like (m := [.rows own true 12 n row]) key ⟨.rows (ops_like ht1), trivial⟩
      have key : LoopSem Try.prog 1 (ocX Try.prog) (stOf 58 [(0, .slice (some ⟨0, 0, some 0⟩) n 12), (2, vI 0), (4, vI i)] [.rows own true 12 n row]) _ _ := key
      rw [← hk] at key
      have key := LoopSem.clean key
      unfold ocO at key
      rcases Ans.br_some hr1 with ⟨hq, hr1⟩ | ⟨hq, hr1⟩
      · simp only [hq] at key
        simp only [Ans.res, Option.some.injEq, Prod.mk.injEq] at hr1
        obtain ⟨rfl, rfl⟩ := hr1
        exact key
      · simp only [hq] at key
        simp only [Ans.res, Option.some.injEq, Prod.mk.injEq] at hr1
        obtain ⟨rfl, rfl⟩ := hr1
        exact key
    · simp [Ans.res] at hr1
  · cases h

def ciX (P : Program) : Code := (loopsOf P 14 17).headD .skip
theorem ciX_eq : loopsOf Try.prog 14 17 = [ciX Try.prog] := by kernel_rfl
def ciH (own : Bool) (n : Nat) (xs : List O3) (a : O3) (i : Int) (j : Int) : St := stOf 58 [(0, .slice (some ⟨0, 0, some 0⟩) n 12), (2, vI 0), (6, .pointer (some ⟨1, 0, none⟩)), (38, .slice (some ⟨0, 0, some 0⟩) n 12), (39, vI n), (40, vI i), (44, .slice (some ⟨0, 0, some 0⟩) n 12), (45, vI n), (46, vI j)] [.rows own true 12 n (opRow xs), .cells true 0 a.cells]
theorem ciR (own : Bool) (n : Nat) (xs : List O3) (a : O3) (i : Int) (j : Int) : roundR ((Cfn Try.prog).into 14 1) 40 (ciX Try.prog) [0, 2, 6, 38, 39, 40, 44, 45, 46] [0, 2, 38, 39, 40] [.fix 0, .fix 1] [.fix 0] (ciH own n xs a i j) =
    (match decide (j < (n : Int)) with
    | true => match boundsI j n with
      | true => match (Nat.beq n n && (okOps n (opRow xs) && decide (n ≤ 4611686018427387904))) with
        | true => match decide (placeI (opsOf n (opRow xs)) (a.mul5 (atO xs j)) < 0) with
          | true => some (.ret, stOf 58 [(0, .slice (some ⟨0, 0, some 0⟩) n 12), (2, vI 5), (38, .slice (some ⟨0, 0, some 0⟩) n 12), (39, vI n), (40, vI i)] [.rows own true 12 n (opRow (opsOf n (opRow xs)))])
          | false => some (.normal, ciH own n (opsOf n (opRow xs)) a i (W (j + 1)))
        | false => none
      | false => none
    | false => some (.exit 4, stOf 58 [(0, .slice (some ⟨0, 0, some 0⟩) n 12), (2, vI 0), (38, .slice (some ⟨0, 0, some 0⟩) n 12), (39, vI n), (40, vI i)] [.rows own true 12 n (opRow xs)])) := by kernel_rfl
structure ciG where
  (own : Bool) (n : Nat) (xs : List O3) (a : O3) (i : Int) (j : Int)
def ciO (own : Bool) (n : Nat) (xs : List O3) (a : O3) (i : Int) (j : Int) : Exit × St :=
  match inMul a xs (xs.drop j.toNat) with
  | true => (.exit 4, stOf 58 [(0, .slice (some ⟨0, 0, some 0⟩) n 12), (2, vI 0), (38, .slice (some ⟨0, 0, some 0⟩) n 12), (39, vI n), (40, vI i)] [.rows own true 12 n (opRow xs)])
  | false => (.ret, stOf 58 [(0, .slice (some ⟨0, 0, some 0⟩) n 12), (2, vI 5), (38, .slice (some ⟨0, 0, some 0⟩) n 12), (39, vI n), (40, vI i)] [.rows own true 12 n (opRow xs)])
theorem ciL (own : Bool) (n : Nat) (xs : List O3) (a : O3) (i : Int) (j : Int) (hg : 0 ≤ j ∧ (n : Int) ≤ 4611686018427387904 ∧ xs.length = n) : LoopSem Try.prog 1 (ciX Try.prog) (ciH own n xs a i j) (ciO own n xs a i j).1 (ciO own n xs a i j).2 := by
  refine loop_rule (C := Cfn Try.prog) okfn (f := 14) (B := 1) (loopsOf_in (k := 17) ciX_eq) 40 [0, 2, 6, 38, 39, 40, 44, 45, 46] [0, 2, 38, 39, 40] [.fix 0, .fix 1] [.fix 0] (fun g : ciG => ciH g.own g.n g.xs g.a g.i g.j) (fun g => (g.n - g.j).toNat) (fun g => 0 ≤ g.j ∧ (g.n : Int) ≤ 4611686018427387904 ∧ g.xs.length = g.n) (fun g => ciO g.own g.n g.xs g.a g.i g.j) ?_ ⟨own, n, xs, a, i, j⟩ hg
  clear hg
  rintro ⟨own, n, xs, a, i, j⟩ hg
  simp only at hg
  simp only [ciR]
  obtain ⟨h0, h1, h2⟩ := hg
  rw [opsOf_row h2]
  by_cases hi : j < (n : Int)
  · have hd : decide (j < (n : Int)) = true := by simpa using hi
    have hb : boundsI j n = true := by simp [boundsI, h0, hi]
    have ht : (Nat.beq n n && (okOps n (opRow xs) && decide (n ≤ 4611686018427387904))) = true := by rw [Nat.beq_refl, okOps_opRow]; simp; omega
    have hdx := drop_at (xs := xs) h0 (by omega)
    have hw : W (j + 1) = j + 1 := W_in (by omega)
    rw [hd, hb, ht, hw]
    simp only
    cases he : decide (placeI xs (a.mul5 (atO xs j)) < 0) with
    | true =>
      right
      unfold ciO
      simp only [hdx, inMul, he]
      exact ⟨trivial, by simp⟩
    | false =>
      left
      refine ⟨⟨own, n, xs, a, i, j + 1⟩, rfl, ⟨by simp only; omega, h1, h2⟩, by simp only; omega, ?_⟩
      unfold ciO
      simp only [hdx, inMul, he]
  · have hd : decide (j < (n : Int)) = false := by simpa using hi
    rw [hd]
    right
    have hn : xs.drop j.toNat = [] := List.drop_eq_nil_of_le (by omega)
    unfold ciO
    simp only [hn, inMul]
    exact ⟨trivial, by simp⟩
def ciS (st : St) : Option (Ans (Exit × St)) :=
  match sized st 58 2, tAt st 0, tAt st 2, tAt st 6, tAt st 38, tAt st 39, tAt st 40, tAt st 44, tAt st 45, tAt st 46, st.mem with
  | true, some (.slice (some ⟨0, 0, some 0⟩) n 12), some (.int .i64 0), some (.pointer (some ⟨1, 0, none⟩)), some (.slice (some ⟨0, 0, some 0⟩) n3 12), some (.int .i64 l1), some (.int .i64 i), some (.slice (some ⟨0, 0, some 0⟩) n4 12), some (.int .i64 l2), some (.int .i64 j), [.rows own true 12 n2 row, .cells true 0 co] => some (.br (Nat.beq n n2 && (okOps n row && (Nat.beq n n3 && (Nat.beq n n4 && (decide ((n : Int) = l1) && (decide ((n : Int) = l2) && (decide (0 ≤ j) && (decide ((n : Int) ≤ 4611686018427387904) && (isO co))))))))) (.br (inMul (decO co) (opsOf n row) ((opsOf n row).drop j.toNat))
      (.out (.exit 4, stOf 58 [(0, .slice (some ⟨0, 0, some 0⟩) n 12), (2, vI 0), (38, .slice (some ⟨0, 0, some 0⟩) n 12), (39, vI n), (40, vI i)] [.rows own true 12 n (opRow (opsOf n row))]))
      (.out (.ret, stOf 58 [(0, .slice (some ⟨0, 0, some 0⟩) n 12), (2, vI 5), (38, .slice (some ⟨0, 0, some 0⟩) n 12), (39, vI n), (40, vI i)] [.rows own true 12 n (opRow (opsOf n row))]))) .fail)
  | _, _, _, _, _, _, _, _, _, _, _ => none
theorem ciK {st : St} {ans : Ans (Exit × St)} {e_ : Exit} {s_ : St} (h : ciS st = some ans) (hr : ans.res = some (e_, s_)) : LoopSem Try.prog 1 (ciX Try.prog) st e_ s_ := by
  unfold ciS at h
  split at h
  · rename_i n n3 l1 i n4 l2 j own n2 row co hb hs0 hs1 hs2 hs3 hs4 hs5 hs6 hs7 hs8 hm
    simp only [Option.some.injEq] at h
    subst h
    rcases Ans.br_some hr with ⟨hc, hr1⟩ | ⟨_, hr1⟩
    · clear hr
      simp only [Bool.and_eq_true] at hc
      obtain ⟨ht0, ht1, ht2, ht3, ht4, ht5, ht6, ht7, ht8⟩ := hc
      have ht0 := beq_len ht0
      have ht2 := beq_len ht2
      have ht3 := beq_len ht3
      have ht4 : (n : Int) = l1 := by simpa using ht4
      have ht5 : (n : Int) = l2 := by simpa using ht5
      subst ht0 ht2 ht3 ht4 ht5
      have hinv : 0 ≤ j ∧ (n : Int) ≤ 4611686018427387904 ∧ (opsOf n row).length = n := by
        exact ⟨by simpa using ht6, by simpa using ht7, opsOf_length n row⟩
      have hk := stOf_keep hb [(0, .slice (some ⟨0, 0, some 0⟩) n 12), (2, vI 0), (6, .pointer (some ⟨1, 0, none⟩)), (38, .slice (some ⟨0, 0, some 0⟩) n 12), (39, vI n), (40, vI i), (44, .slice (some ⟨0, 0, some 0⟩) n 12), (45, vI n), (46, vI j)] (by
        intro x hx
        simp only [List.mem_cons, List.not_mem_nil, or_false] at hx
        rcases hx with rfl | rfl | rfl | rfl | rfl | rfl | rfl | rfl | rfl
        · exact hs0
        · exact hs1
        · exact hs2
        · exact hs3
        · exact hs4
        · exact hs5
        · exact hs6
        · exact hs7
        · exact hs8) hm
      have key := ciL own n (opsOf n row) (decO co) i j hinv
      unfold ciH at key
      have key := LoopSem.like (m := [.rows own true 12 n row, .cells true 0 co]) key ⟨.rows (ops_like ht1), like_dec ht8, trivial⟩
      have key : LoopSem Try.prog 1 (ciX Try.prog) (stOf 58 [(0, .slice (some ⟨0, 0, some 0⟩) n 12), (2, vI 0), (6, .pointer (some ⟨1, 0, none⟩)), (38, .slice (some ⟨0, 0, some 0⟩) n 12), (39, vI n), (40, vI i), (44, .slice (some ⟨0, 0, some 0⟩) n 12), (45, vI n), (46, vI j)] [.rows own true 12 n row, .cells true 0 co]) _ _ := key
      rw [← hk] at key
      have key := LoopSem.clean key
      unfold ciO at key
      rcases Ans.br_some hr1 with ⟨hq, hr1⟩ | ⟨hq, hr1⟩
      · simp only [hq] at key
        simp only [Ans.res, Option.some.injEq, Prod.mk.injEq] at hr1
        obtain ⟨rfl, rfl⟩ := hr1
        exact key
      · simp only [hq] at key
        simp only [Ans.res, Option.some.injEq, Prod.mk.injEq] at hr1
        obtain ⟨rfl, rfl⟩ := hr1
        exact key
    · simp [Ans.res] at hr1
  · cases h

def Cci (P : Program) : Cx := ((Cfn P).addLB 14 7 1 ocS).addLB 14 17 1 ciS
theorem okci : CxOk (Cci Try.prog) := Cx.addLB_ok (Cx.addLB_ok okfn ocX_eq fun _ _ _ _ h hr => ocK h hr) ciX_eq fun _ _ _ _ h hr => ciK h hr
def ciT (n : Nat) (row : Nat → List Value) (co : List Value) : Bool := Nat.beq n n && (okOps n row && (Nat.beq n n && (Nat.beq n n && (decide ((n : Int) = (n : Int)) && (decide ((n : Int) = (n : Int)) && (decide ((0 : Int) ≤ 0) && (decide ((n : Int) ≤ 4611686018427387904) && isO co)))))))

def cuX (P : Program) : Code := (loopsOf P 14 14).headD .skip
theorem cuX_eq : loopsOf Try.prog 14 14 = [cuX Try.prog] := by kernel_rfl
def cuH (own : Bool) (n : Nat) (xs : List O3) (i : Int) : St := stOf 58 [(0, .slice (some ⟨0, 0, some 0⟩) n 12), (2, vI 0), (38, .slice (some ⟨0, 0, some 0⟩) n 12), (39, vI n), (40, vI i)] [.rows own true 12 n (opRow xs)]
theorem cuR (own : Bool) (n : Nat) (xs : List O3) (i : Int) : roundR ((Cci Try.prog).into 14 1) 40 (cuX Try.prog) [0, 2, 38, 39, 40] [0, 2] [.fix 0] [.fix 0] (cuH own n xs i) =
    (match decide (i < (n : Int)) with
    | true => match boundsI i n with
      | true => match ciT n (opRow xs) (atO xs i).cells with
        | true => match inMul (decO (atO xs i).cells) (opsOf n (opRow xs)) ((opsOf n (opRow xs)).drop (0 : Int).toNat) with
          | true => some (.normal, cuH own n (opsOf n (opRow xs)) (W (i + 1)))
          | false => some (.ret, stOf 58 [(0, .slice (some ⟨0, 0, some 0⟩) n 12), (2, vI 5)] [.rows own true 12 n (opRow (opsOf n (opRow xs)))])
        | false => none
      | false => none
    | false => some (.exit 2, stOf 58 [(0, .slice (some ⟨0, 0, some 0⟩) n 12), (2, vI 0)] [.rows own true 12 n (opRow xs)])) := by kernel_rfl
structure cuG where
  (own : Bool) (n : Nat) (xs : List O3) (i : Int)
def cuO (own : Bool) (n : Nat) (xs : List O3) (i : Int) : Exit × St :=
  match inAll xs (xs.drop i.toNat) with
  | true => (.exit 2, stOf 58 [(0, .slice (some ⟨0, 0, some 0⟩) n 12), (2, vI 0)] [.rows own true 12 n (opRow xs)])
  | false => (.ret, stOf 58 [(0, .slice (some ⟨0, 0, some 0⟩) n 12), (2, vI 5)] [.rows own true 12 n (opRow xs)])
theorem cuL (own : Bool) (n : Nat) (xs : List O3) (i : Int) (hg : 0 ≤ i ∧ (n : Int) ≤ 4611686018427387904 ∧ xs.length = n) : LoopSem Try.prog 1 (cuX Try.prog) (cuH own n xs i) (cuO own n xs i).1 (cuO own n xs i).2 := by
  refine loop_rule (C := Cci Try.prog) okci (f := 14) (B := 1) (loopsOf_in (k := 14) cuX_eq) 40 [0, 2, 38, 39, 40] [0, 2] [.fix 0] [.fix 0] (fun g : cuG => cuH g.own g.n g.xs g.i) (fun g => (g.n - g.i).toNat) (fun g => 0 ≤ g.i ∧ (g.n : Int) ≤ 4611686018427387904 ∧ g.xs.length = g.n) (fun g => cuO g.own g.n g.xs g.i) ?_ ⟨own, n, xs, i⟩ hg
  clear hg
  rintro ⟨own, n, xs, i⟩ hg
  simp only at hg
  simp only [cuR]
  obtain ⟨h0, h1, h2⟩ := hg
  rw [opsOf_row h2, decO_cells]
  by_cases hi : i < (n : Int)
  · have hd : decide (i < (n : Int)) = true := by simpa using hi
    have hb : boundsI i n = true := by simp [boundsI, h0, hi]
    have ht : ciT n (opRow xs) (atO xs i).cells = true := by unfold ciT; rw [Nat.beq_refl, okOps_opRow, isO_cells]; simp; omega
    have hdx := drop_at (xs := xs) h0 (by omega)
    have hw : W (i + 1) = i + 1 := W_in (by omega)
    rw [hd, hb, ht, hw]
    simp only [Int.toNat_zero, List.drop_zero]
    cases he : inMul (atO xs i) xs xs with
    | true =>
      left
      refine ⟨⟨own, n, xs, i + 1⟩, rfl, ⟨by simp only; omega, h1, h2⟩, by simp only; omega, ?_⟩
      unfold cuO
      simp only [hdx, inAll, he]
    | false =>
      right
      unfold cuO
      simp only [hdx, inAll, he]
      exact ⟨trivial, by simp⟩
  · have hd : decide (i < (n : Int)) = false := by simpa using hi
    rw [hd]
    right
    have hn : xs.drop i.toNat = [] := List.drop_eq_nil_of_le (by omega)
    unfold cuO
    simp only [hn, inAll]
    exact ⟨trivial, by simp⟩
def cuS (st : St) : Option (Ans (Exit × St)) :=
  match sized st 58 1, tAt st 0, tAt st 2, tAt st 38, tAt st 39, tAt st 40, st.mem with
  | true, some (.slice (some ⟨0, 0, some 0⟩) n 12), some (.int .i64 0), some (.slice (some ⟨0, 0, some 0⟩) n3 12), some (.int .i64 l1), some (.int .i64 i), [.rows own true 12 n2 row] => some (.br (Nat.beq n n2 && (okOps n row && (Nat.beq n n3 && (decide ((n : Int) = l1) && (decide (0 ≤ i) && (decide ((n : Int) ≤ 4611686018427387904))))))) (.br (inAll (opsOf n row) ((opsOf n row).drop i.toNat))
      (.out (.exit 2, stOf 58 [(0, .slice (some ⟨0, 0, some 0⟩) n 12), (2, vI 0)] [.rows own true 12 n (opRow (opsOf n row))]))
      (.out (.ret, stOf 58 [(0, .slice (some ⟨0, 0, some 0⟩) n 12), (2, vI 5)] [.rows own true 12 n (opRow (opsOf n row))]))) .fail)
  | _, _, _, _, _, _, _ => none
theorem cuK {st : St} {ans : Ans (Exit × St)} {e_ : Exit} {s_ : St} (h : cuS st = some ans) (hr : ans.res = some (e_, s_)) : LoopSem Try.prog 1 (cuX Try.prog) st e_ s_ := by
  unfold cuS at h
  split at h
  · rename_i n n3 l1 i own n2 row hb hs0 hs1 hs2 hs3 hs4 hm
    simp only [Option.some.injEq] at h
    subst h
    rcases Ans.br_some hr with ⟨hc, hr1⟩ | ⟨_, hr1⟩
    · clear hr
      simp only [Bool.and_eq_true] at hc
      obtain ⟨ht0, ht1, ht2, ht3, ht4, ht5⟩ := hc
      have ht0 := beq_len ht0
      have ht2 := beq_len ht2
      have ht3 : (n : Int) = l1 := by simpa using ht3
      subst ht0 ht2 ht3
      have hinv : 0 ≤ i ∧ (n : Int) ≤ 4611686018427387904 ∧ (opsOf n row).length = n := by
        exact ⟨by simpa using ht4, by simpa using ht5, opsOf_length n row⟩
      have hk := stOf_keep hb [(0, .slice (some ⟨0, 0, some 0⟩) n 12), (2, vI 0), (38, .slice (some ⟨0, 0, some 0⟩) n 12), (39, vI n), (40, vI i)] (by
        intro x hx
        simp only [List.mem_cons, List.not_mem_nil, or_false] at hx
        rcases hx with rfl | rfl | rfl | rfl | rfl
        · exact hs0
        · exact hs1
        · exact hs2
        · exact hs3
        · exact hs4) hm
      have key := cuL own n (opsOf n row) i hinv
      unfold cuH at key
      have key := LoopSem.like (m := [.rows own true 12 n row]) key ⟨.rows (ops_like ht1), trivial⟩
      have key : LoopSem Try.prog 1 (cuX Try.prog) (stOf 58 [(0, .slice (some ⟨0, 0, some 0⟩) n 12), (2, vI 0), (38, .slice (some ⟨0, 0, some 0⟩) n 12), (39, vI n), (40, vI i)] [.rows own true 12 n row]) _ _ := key
      rw [← hk] at key
      have key := LoopSem.clean key
      unfold cuO at key
      rcases Ans.br_some hr1 with ⟨hq, hr1⟩ | ⟨hq, hr1⟩
      · simp only [hq] at key
        simp only [Ans.res, Option.some.injEq, Prod.mk.injEq] at hr1
        obtain ⟨rfl, rfl⟩ := hr1
        exact key
      · simp only [hq] at key
        simp only [Ans.res, Option.some.injEq, Prod.mk.injEq] at hr1
        obtain ⟨rfl, rfl⟩ := hr1
        exact key
    · simp [Ans.res] at hr1
  · cases h
def Ccu (P : Program) : Cx := (Cci P).addLB 14 14 1 cuS
theorem okcu : CxOk (Ccu Try.prog) := Cx.addLB_ok okci cuX_eq fun _ _ _ _ h hr => cuK h hr
end Go.Proofs.Ytcefeamjnnkahaa


namespace Go.Proofs.Ytcefeamjnnkahaa
open Go Vx
def r1 (own : Bool) (N : Nat) (X : List O3) (e : Int) : Option (Value × Mem) := some (vI e, [.rows own true 12 N (opRow X)])
def ocT (n : Nat) (row : Nat → List Value) : Bool := Nat.beq n n && (okOps n row && (decide ((1 : Int) ≤ 1) && decide ((n : Int) ≤ 4611686018427387904)))
def cuT (n : Nat) (row : Nat → List Value) : Bool := Nat.beq n n && (okOps n row && (Nat.beq n n && (decide ((n : Int) = (n : Int)) && (decide ((0 : Int) ≤ 0) && decide ((n : Int) ≤ 4611686018427387904)))))
def pT (n : Nat) (row : Nat → List Value) : Bool := Nat.beq n n && (okOps n row && decide (n ≤ 4611686018427387904))
def dckEnd (own : Bool) (N : Nat) (X : List O3) : Option (Value × Mem) := gd (cuT N (opRow X)) (match inAll (opsOf N (opRow X)) ((opsOf N (opRow X)).drop (0 : Int).toNat) with
  | true => r1 own N (opsOf N (opRow X)) 0
  | false => r1 own N (opsOf N (opRow X)) 5)
def dckMid (own : Bool) (N : Nat) (X : List O3) : Option (Value × Mem) := gd (pT N (opRow X)) (match decide (placeI (opsOf N (opRow X)) O3.one < 0) with
  | true => r1 own N (opsOf N (opRow X)) 5
  | false => dckEnd own N (opsOf N (opRow X)))
def dckOrd (own : Bool) (N : Nat) (X : List O3) : Option (Value × Mem) := gd (ocT N (opRow X)) (match ordF (atO (opsOf N (opRow X)) (1 - 1)) ((opsOf N (opRow X)).drop (1 : Int).toNat) with
  | true => dckMid own N (opsOf N (opRow X))
  | false => r1 own N (opsOf N (opRow X)) 5)
theorem dckE0 : exT ((Ccu Try.prog).at 14) 60 Try.f14 [.slice none 0 0] [] [] = some (vI 5, []) := by kernel_rfl
theorem dckE1 (own : Bool) (N : Nat) (ls : List O3) : exT ((Ccu Try.prog).at 14) 60 Try.f14 [.slice (some ⟨0, 0, some 0⟩) N 12] [.rows own true 12 N (opRow ls)] [.fix 0] =
    (match decide ((N : Int) > 192) with
    | true => r1 own N ls 2
    | false => gd (pT N (opRow ls)) (match leastL (opsOf N (opRow ls)) 0 != 0 with
      | true => r1 own N (opsOf N (opRow ls)) (leastL (opsOf N (opRow ls)) 0)
      | false => dckOrd own N (opsOf N (opRow ls)))) := by kernel_rfl
/-- What the document's Check answers. -/
def dckI (X : List O3) : Int := match decide ((X.length : Int) > 192) with
  | true => 2
  | false => match leastL X 0 != 0 with
    | true => leastL X 0
    | false => match ordF (atO X 0) (X.drop 1) with
      | true => match decide (placeI X O3.one < 0) with
        | true => 5
        | false => match inAll X X with
          | true => 0
          | false => 5
      | false => 5
theorem dckE (own : Bool) (N : Nat) (ls : List O3) (hl : ls.length = N) (hN : N ≤ 4611686018427387904) : exT ((Ccu Try.prog).at 14) 60 Try.f14 [.slice (some ⟨0, 0, some 0⟩) N 12] [.rows own true 12 N (opRow ls)] [.fix 0] = some (vI (dckI ls), [.rows own true 12 N (opRow ls)]) := by
  have t1 : pT N (opRow ls) = true := by unfold pT; rw [Nat.beq_refl, okOps_opRow]; simp; omega
  have t2 : ocT N (opRow ls) = true := by unfold ocT; rw [Nat.beq_refl, okOps_opRow]; simp; omega
  have t3 : cuT N (opRow ls) = true := by unfold cuT; rw [Nat.beq_refl, okOps_opRow]; simp; omega
  rw [dckE1]
  unfold dckOrd dckMid dckEnd dckI r1
  simp only [opsOf_row hl, t1, t2, t3, gd_true, Int.toNat_zero, List.drop_zero, hl, show ((1 : Int) - 1) = 0 from rfl, show (1 : Int).toNat = 1 from rfl]
  cases decide ((N : Int) > 192) with
  | true => rfl
  | false =>
    simp only
    cases leastL ls 0 != 0 with
    | true => rfl
    | false =>
      simp only
      cases ordF (atO ls 0) (ls.drop 1) with
      | false => rfl
      | true =>
        simp only
        cases decide (placeI ls O3.one < 0) with
        | true => rfl
        | false =>
          simp only
          cases inAll ls ls <;> rfl
/-! Both are one -/
theorem ordF_sorted : ∀ (l : List O3) (p : O3), ordF p l = true ↔ (p :: l).Pairwise fun a b => lexI a.l b.l < 0
  | [], p => by simp [ordF]
  | x :: l, p => by
    simp only [ordF]
    by_cases h : lexI p.l x.l ≥ 0
    · rw [decide_eq_true h]
      constructor
      · intro hf; cases hf
      · intro hp
        rw [List.pairwise_cons] at hp
        have := hp.1 x (by simp)
        omega
    · rw [decide_eq_false h]
      simp only
      rw [ordF_sorted l x]
      constructor
      · intro hp
        rw [List.pairwise_cons]
        refine ⟨fun y hy => ?_, hp⟩
        rcases List.mem_cons.1 hy with rfl | hy
        · omega
        · have h1 := (List.pairwise_cons.1 hp).1 y hy
          have h2 := lexI_trans (l := p.l) (m := x.l) (n := y.l) rfl rfl (by omega) (by omega)
          by_cases h0 : lexI p.l y.l = 0
          · have e := (lexI_zero (l := p.l) (m := y.l) rfl).1 h0
            rw [e, lexI_neg x.l y.l] at h
            omega
          · omega
      · intro hp
        exact (List.pairwise_cons.1 hp).2
theorem placeI_lt {xs : List O3} {o : O3} : decide (placeI xs o < 0) = !decide (o ∈ xs) := by
  have h := placeI_mem (xs := xs) (o := o)
  rw [← h]
  by_cases h1 : placeI xs o < 0
  · rw [decide_eq_true h1, decide_eq_false (by omega)]; rfl
  · rw [decide_eq_false h1, decide_eq_true (by omega)]; rfl
theorem inMul_iff {X : List O3} {a : O3} (ha : a.ck = 0) : ∀ (l : List O3), (∀ b ∈ l, b.ck = 0) → (inMul a X l = true ↔ ∀ b ∈ l, a.mul b ∈ X)
  | [], _ => by simp [inMul]
  | b :: l, h => by
    have hb := h b (by simp)
    simp only [inMul]
    rw [O3.mul5_eq ha hb, placeI_lt]
    by_cases hm : a.mul b ∈ X
    · simp only [decide_eq_true hm, Bool.not_true]
      rw [inMul_iff ha l fun x hx => h x (by simp [hx])]
      simp [hm]
    · simp only [decide_eq_false hm, Bool.not_false]
      constructor
      · intro hf; cases hf
      · intro hf; exact absurd (hf b (by simp)) hm
theorem inAll_iff {X : List O3} (hX : ∀ b ∈ X, b.ck = 0) : ∀ (l : List O3), (∀ b ∈ l, b.ck = 0) → (inAll X l = true ↔ ∀ a ∈ l, ∀ b ∈ X, a.mul b ∈ X)
  | [], _ => by simp [inAll]
  | a :: l, h => by
    have ha := h a (by simp)
    simp only [inAll]
    cases hm : inMul a X X with
    | true =>
      have h1 := (inMul_iff ha X hX).1 hm
      simp only
      rw [inAll_iff hX l fun x hx => h x (by simp [hx])]
      constructor
      · intro hf x hx
        rcases List.mem_cons.1 hx with rfl | hx
        · exact h1
        · exact hf x hx
      · intro hf x hx; exact hf x (by simp [hx])
    | false =>
      simp only
      constructor
      · intro hf; cases hf
      · intro hf
        have := (inMul_iff ha X hX).2 (hf a (by simp))
        rw [hm] at this; cases this
def StrictO (l : List O3) : Prop := l.Pairwise fun a b => lexI a.l b.l < 0
theorem strict_nodup {l : List O3} (h : StrictO l) : l.Nodup := h.imp fun {a b} hab e => by
  subst e
  have := (lexI_zero (l := a.l) (m := a.l) rfl).2 rfl
  omega
theorem strict_sorted {l : List O3} (h : StrictO l) : SortedO l := h.imp fun hab => by omega
theorem sorted_strict {l : List O3} (h : SortedO l) (hn : l.Nodup) : StrictO l := by
  unfold SortedO at h
  unfold StrictO
  unfold List.Nodup at hn
  refine (h.and hn).imp fun {a b} hab => ?_
  have := hab.1
  by_cases h0 : lexI a.l b.l = 0
  · exact absurd (O3.l_inj ((lexI_zero (l := a.l) (m := b.l) rfl).1 h0)) hab.2
  · omega
theorem smeL_iff : ∀ {l m : List O3}, l.length = m.length → (smeL l m = true ↔ l = m)
  | [], [], _ => by simp [smeL]
  | x :: l, y :: m, h => by
    simp only [smeL]
    have hl : l.length = m.length := by simpa using h
    cases he : x.eqB y with
    | true =>
      simp only [Bool.not_true]
      rw [smeL_iff hl, O3.eqB_iff.1 he]
      simp
    | false =>
      simp only [Bool.not_false]
      have := O3.eqB_false.1 he
      simp [this]
theorem sameB_iff {l m : List O3} : sameB l m = true ↔ l = m := by
  unfold sameB
  rw [Bool.and_eq_true, beq_iff_eq]
  constructor
  · rintro ⟨h1, h2⟩
    exact (smeL_iff (by omega)).1 h2
  · rintro rfl; exact ⟨rfl, smeL_refl l⟩
theorem grp_self {X : List O3} (hn : X.Nodup) (hl : X.length ≤ 192) (hck : ∀ o ∈ X, o.ck = 0) (h1 : O3.one ∈ X) (hm : ∀ a ∈ X, ∀ b ∈ X, a.mul b ∈ X) : IsGrp X X := by
  refine ⟨hn, hl, fun g => ⟨fun h => Gen.of (all_inv hck) h, fun h => ?_⟩, hck⟩
  induction h with
  | one => exact h1
  | step _ hx ih => exact hm _ ih _ hx
theorem dck_chk (X : List O3) : dckI X = chkI X := by
  unfold dckI
  by_cases h : (X.length : Int) > 192
  · have hc : ckMaps X = 2 := by unfold ckMaps; rw [if_pos h]
    have h1 : clsOk X = false := by unfold clsOk; rw [hc]; rfl
    unfold chkI clsErr
    rw [decide_eq_true h, h1, hc]; rfl
  · have hc : ckMaps X = leastL X 0 := by unfold ckMaps; rw [if_neg h]
    rw [decide_eq_false h]
    simp only
    by_cases h0 : leastL X 0 = 0
    · have hck := (leastL_zero h0).2
      rw [h0]
      simp only [bne_self_eq_false]
      have hk0 : ckMaps X = 0 := by rw [hc, h0]
      -- a group in order?
      have key : chkI X = 0 ↔ (ordF (atO X 0) (X.drop 1) = true ∧ O3.one ∈ X ∧ inAll X X = true) := by
        have hord : ordF (atO X 0) (X.drop 1) = true ↔ StrictO X := by
          cases X with
          | nil => simp [ordF, StrictO]
          | cons x l =>
            rw [ordF_sorted]
            rfl
        rw [hord, inAll_iff hck X hck]
        constructor
        · intro h
          unfold chkI at h
          cases hq : clsOk X with
          | false => rw [hq] at h; exact absurd h (clsErr_ne X)
          | true =>
            rw [hq] at h
            simp only at h
            cases hs : sameB (clsG X) X with
            | false => rw [hs] at h; cases h
            | true =>
              have e := sameB_iff.1 hs
              obtain ⟨_, _, hg⟩ := clsOk_spec hq
              have hperm : X.Perm (clG0 X [O3.one] es1).1 := by
                have := sortO_perm (clG0 X [O3.one] es1).1
                rw [show sortO (clG0 X [O3.one] es1).1 = clsG X from rfl, e] at this
                exact this
              have hgr := hg.grp (all_inv hck)
              have hsor : SortedO X := by rw [← e]; exact sortO_sorted _
              refine ⟨sorted_strict hsor (hperm.nodup_iff.2 hg.1), hperm.mem_iff.2 hgr.one, fun a ha b hb => hperm.mem_iff.2 (hgr.mul a (hperm.mem_iff.1 ha) b (hperm.mem_iff.1 hb))⟩
        · rintro ⟨h1, h2, h3⟩
          have hg := grp_self (strict_nodup h1) (by omega) hck h2 h3
          have hq : clsOk X = true := by
            unfold clsOk
            rw [hk0]
            rcases clR_spec hck with ⟨r, k1, _⟩ | ⟨_, k2⟩
            · rw [k1]; rfl
            · exact absurd k2 hg.not_bad
          obtain ⟨_, _, hg2⟩ := clsOk_spec hq
          have e : clsG X = X := sorted_one (sortO_sorted _) (strict_sorted h1) ((sortO_perm _).trans (hg2.perm hg))
          unfold chkI
          rw [hq]
          simp only
          rw [e, sameB_refl]; rfl
      have five : chkI X = 0 ∨ chkI X = 5 := by
        unfold chkI clsErr
        rw [hk0]
        cases clsOk X with
        | false => right; rfl
        | true =>
          simp only
          cases sameB (clsG X) X with
          | true => left; rfl
          | false => right; rfl
      rw [placeI_lt]
      cases ho : ordF (atO X 0) (X.drop 1) with
      | false =>
        rcases five with e | e
        · rw [ho] at key; have := (key.1 e).1; cases this
        · rw [e]
      | true =>
        simp only
        by_cases h1 : O3.one ∈ X
        · rw [decide_eq_true h1]
          simp only [Bool.not_true]
          cases hi : inAll X X with
          | true => rw [key.2 ⟨ho, h1, hi⟩]
          | false =>
            rcases five with e | e
            · rw [hi] at key; have := (key.1 e).2.2; cases this
            · rw [e]
        · rw [decide_eq_false h1]
          simp only [Bool.not_false]
          rcases five with e | e
          · exact absurd (key.1 e).2.1 h1
          · rw [e]
    · have h1 : clsOk X = false := by unfold clsOk; rw [hc, (bif_beq h0).1]; rfl
      rw [(bif_beq h0).2]
      unfold chkI clsErr
      rw [h1, hc, (bif_beq h0).1]; rfl
def dckF : List Value → Mem → Option (Ans (Value × Mem))
  | [.slice none 0 0], [] => some (.out (vI 5, []))
  | [.slice (some ⟨0, 0, some 0⟩) N 12], [.rows own true 12 N2 row] => some (.br (Nat.beq N N2 && (okOps N row && decide (N ≤ 4611686018427387904))) (.out (vI (chkI (opsOf N row)), [.rows own true 12 N (opRow (opsOf N row))])) .fail)
  | _, _ => none
def Cdk (P : Program) : Cx := (Ccu P).addF 14 dckF
theorem okdk : CxOk (Cdk Try.prog) := Cx.addF_ok okcu fun args m ans v m' h hr => by
  unfold dckF at h
  split at h
  · simp only [Option.some.injEq] at h
    subst h
    simp only [Ans.res, Option.some.injEq, Prod.mk.injEq] at hr
    obtain ⟨rfl, rfl⟩ := hr
    exact exT_ok okcu Try.func14 (by kernel_rfl) dckE0
  · rename_i N own N2 row
    simp only [Option.some.injEq] at h
    subst h
    rcases Ans.br_some hr with ⟨hc, hr1⟩ | ⟨_, hr1⟩
    rotate_left
    · simp [Ans.res] at hr1
    clear hr
    simp only [Bool.and_eq_true, decide_eq_true_eq] at hc
    obtain ⟨c1, c2, c3⟩ := hc
    have c1 := beq_len c1
    subst c1
    simp only [Ans.res, Option.some.injEq, Prod.mk.injEq] at hr1
    obtain ⟨rfl, rfl⟩ := hr1
    rw [← dck_chk]
    exact (exT_ok okcu Try.func14 (by kernel_rfl) (dckE own N (opsOf N row) (opsOf_length N row) c3)).like ⟨.rows (ops_like c2), trivial⟩
  · cases h
end Go.Proofs.Ytcefeamjnnkahaa
