/-
  facetref05.Same, told. Nothing here is trusted.
-/
import Derived.Test.YtcefeamjnnkahaaGr

namespace Go.Proofs.Ytcefeamjnnkahaa
open Go Vx
/-- Are two lists of one length alike? -/
def smeL : List O3 → List O3 → Bool
  | x :: l, y :: m => match !(x.eqB y) with
    | true => false
    | false => smeL l m
  | _, _ => true
theorem smeL_refl : ∀ (l : List O3), smeL l l = true
  | [] => rfl
  | x :: l => by simp only [smeL, O3.eqB_refl, Bool.not_true]; exact smeL_refl l

def smX (P : Program) : Code := (loopsOf P 12 4).headD .skip
theorem smX_eq : loopsOf Try.prog 12 4 = [smX Try.prog] := by kernel_rfl
def smH (own : Bool) (own2 : Bool) (n : Nat) (xs : List O3) (ys : List O3) (i : Int) : St := stOf 26 [(0, .slice (some ⟨0, 0, some 0⟩) n 12), (1, .slice (some ⟨1, 0, some 0⟩) n 12), (4, .bool false), (12, vI n), (13, vI i)] [.rows own true 12 n (opRow xs), .rows own2 true 12 n (opRow ys)]
theorem smR (own : Bool) (own2 : Bool) (n : Nat) (xs : List O3) (ys : List O3) (i : Int) : roundR ((Ctw Try.prog).into 12 2) 40 (smX Try.prog) [0, 1, 4, 12, 13] [4] [.fix 0, .fix 1] [.fix 0, .fix 1] (smH own own2 n xs ys i) =
    (match decide (i < (n : Int)) with
    | true => match boundsI i n with
      | true => match boundsI i n with
        | true => match !((atO xs i).eqB (atO ys i)) with
          | true => some (.ret, stOf 26 [(4, .bool false)] [.rows own true 12 n (opRow xs), .rows own2 true 12 n (opRow ys)])
          | false => some (.normal, smH own own2 n xs ys (W (i + 1)))
        | false => none
      | false => none
    | false => some (.exit 0, stOf 26 [(4, .bool false)] [.rows own true 12 n (opRow xs), .rows own2 true 12 n (opRow ys)])) := by kernel_rfl
structure smG where
  (own : Bool) (own2 : Bool) (n : Nat) (xs : List O3) (ys : List O3) (i : Int)
def smO (own : Bool) (own2 : Bool) (n : Nat) (xs : List O3) (ys : List O3) (i : Int) : Exit × St :=
  match smeL (xs.drop i.toNat) (ys.drop i.toNat) with
  | true => (.exit 0, stOf 26 [(4, .bool false)] [.rows own true 12 n (opRow xs), .rows own2 true 12 n (opRow ys)])
  | false => (.ret, stOf 26 [(4, .bool false)] [.rows own true 12 n (opRow xs), .rows own2 true 12 n (opRow ys)])
theorem smL (own : Bool) (own2 : Bool) (n : Nat) (xs : List O3) (ys : List O3) (i : Int) (hg : 0 ≤ i ∧ (n : Int) ≤ 4611686018427387904 ∧ xs.length = n ∧ ys.length = n) : LoopSem Try.prog 2 (smX Try.prog) (smH own own2 n xs ys i) (smO own own2 n xs ys i).1 (smO own own2 n xs ys i).2 := by
  refine loop_rule (C := Ctw Try.prog) oktw (f := 12) (B := 2) (loopsOf_in (k := 4) smX_eq) 40 [0, 1, 4, 12, 13] [4] [.fix 0, .fix 1] [.fix 0, .fix 1] (fun g : smG => smH g.own g.own2 g.n g.xs g.ys g.i) (fun g => (g.n - g.i).toNat) (fun g => 0 ≤ g.i ∧ (g.n : Int) ≤ 4611686018427387904 ∧ g.xs.length = g.n ∧ g.ys.length = g.n) (fun g => smO g.own g.own2 g.n g.xs g.ys g.i) ?_ ⟨own, own2, n, xs, ys, i⟩ hg
  clear hg
  rintro ⟨own, own2, n, xs, ys, i⟩ hg
  simp only at hg
  simp only [smR]
  obtain ⟨h0, h1, h2, h3⟩ := hg
  by_cases hi : i < (n : Int)
  · have hd : decide (i < (n : Int)) = true := by simpa using hi
    have hb : boundsI i n = true := by simp [boundsI, h0, hi]
    have hdx := drop_at (xs := xs) h0 (by omega)
    have hdy := drop_at (xs := ys) h0 (by omega)
    have hw : W (i + 1) = i + 1 := W_in (by omega)
    rw [hd, hb, hw]
    simp only
    cases he : !((atO xs i).eqB (atO ys i)) with
    | true =>
      right
      unfold smO
      simp only [hdx, hdy, smeL, he]
      exact ⟨trivial, by simp⟩
    | false =>
      left
      refine ⟨⟨own, own2, n, xs, ys, i + 1⟩, rfl, ⟨by simp only; omega, h1, h2, h3⟩, by simp only; omega, ?_⟩
      unfold smO
      simp only [hdx, hdy, smeL, he]
  · have hd : decide (i < (n : Int)) = false := by simpa using hi
    rw [hd]
    right
    have hn : xs.drop i.toNat = [] := List.drop_eq_nil_of_le (by omega)
    unfold smO
    simp only [hn, smeL]
    exact ⟨trivial, by simp⟩
def smS (st : St) : Option (Ans (Exit × St)) :=
  match sized st 26 2, tAt st 0, tAt st 1, tAt st 4, tAt st 12, tAt st 13, st.mem with
  | true, some (.slice (some ⟨0, 0, some 0⟩) n 12), some (.slice (some ⟨1, 0, some 0⟩) n1 12), some (.bool false), some (.int .i64 ln), some (.int .i64 i), [.rows own true 12 n2 row, .rows own2 true 12 n3 row2] => some (.br (Nat.beq n n1 && (Nat.beq n n2 && (okOps n row && (Nat.beq n n3 && (okOps n row2 && (decide ((n : Int) = ln) && (decide (0 ≤ i) && (decide ((n : Int) ≤ 4611686018427387904))))))))) (.br (smeL ((opsOf n row).drop i.toNat) ((opsOf n row2).drop i.toNat))
      (.out (.exit 0, stOf 26 [(4, .bool false)] [.rows own true 12 n (opRow (opsOf n row)), .rows own2 true 12 n (opRow (opsOf n row2))]))
      (.out (.ret, stOf 26 [(4, .bool false)] [.rows own true 12 n (opRow (opsOf n row)), .rows own2 true 12 n (opRow (opsOf n row2))]))) .fail)
  | _, _, _, _, _, _, _ => none
theorem smK {st : St} {ans : Ans (Exit × St)} {e_ : Exit} {s_ : St} (h : smS st = some ans) (hr : ans.res = some (e_, s_)) : LoopSem Try.prog 2 (smX Try.prog) st e_ s_ := by
  unfold smS at h
  split at h
  · rename_i n n1 ln i own n2 row own2 n3 row2 hb hs0 hs1 hs2 hs3 hs4 hm
    simp only [Option.some.injEq] at h
    subst h
    rcases Ans.br_some hr with ⟨hc, hr1⟩ | ⟨_, hr1⟩
    · clear hr
      simp only [Bool.and_eq_true] at hc
      obtain ⟨ht0, ht1, ht2, ht3, ht4, ht5, ht6, ht7⟩ := hc
      have ht0 := beq_len ht0
      have ht1 := beq_len ht1
      have ht3 := beq_len ht3
      subst ht0 ht1 ht3
      have ht5 : (n : Int) = ln := by simpa using ht5
      subst ht5
      have hinv : 0 ≤ i ∧ (n : Int) ≤ 4611686018427387904 ∧ (opsOf n row).length = n ∧ (opsOf n row2).length = n := by
        exact ⟨by simpa using ht6, by simpa using ht7, opsOf_length n row, opsOf_length n row2⟩
      have hk := stOf_keep hb [(0, .slice (some ⟨0, 0, some 0⟩) n 12), (1, .slice (some ⟨1, 0, some 0⟩) n 12), (4, .bool false), (12, vI n), (13, vI i)] (by
        intro x hx
        simp only [List.mem_cons, List.not_mem_nil, or_false] at hx
        rcases hx with rfl | rfl | rfl | rfl | rfl
        · exact hs0
        · exact hs1
        · exact hs2
        · exact hs3
        · exact hs4) hm
      have key := smL own own2 n (opsOf n row) (opsOf n row2) i hinv
      unfold smH at key
      have key := LoopSem.like (m := [.rows own true 12 n row, .rows own2 true 12 n row2]) key ⟨.rows (ops_like ht2), .rows (ops_like ht4), trivial⟩
      have key : LoopSem Try.prog 2 (smX Try.prog) (stOf 26 [(0, .slice (some ⟨0, 0, some 0⟩) n 12), (1, .slice (some ⟨1, 0, some 0⟩) n 12), (4, .bool false), (12, vI n), (13, vI i)] [.rows own true 12 n row, .rows own2 true 12 n row2]) _ _ := key
      rw [← hk] at key
      have key := LoopSem.clean key
      unfold smO at key
      rcases Ans.br_some hr1 with ⟨hq, hr1⟩ | ⟨hq, hr1⟩
      · simp only [hq] at key
        simp only [Ans.res, Option.some.injEq, Prod.mk.injEq] at hr1
        obtain ⟨rfl, rfl⟩ := hr1
        exact key
      · simp only [hq] at key
        simp only [Ans.res, Option.some.injEq, Prod.mk.injEq] at hr1
        obtain ⟨rfl, rfl⟩ := hr1
        exact key
    · simp [Ans.res] at hr1
  · cases h
def Csm (P : Program) : Cx := (Ctw P).addLB 12 4 2 smS
theorem oksm : CxOk (Csm Try.prog) := Cx.addLB_ok oktw smX_eq fun _ _ _ _ h hr => smK h hr
def smT (n m : Nat) (row row2 : Nat → List Value) : Bool := Nat.beq n m && (Nat.beq n n && (okOps n row && (Nat.beq n m && (okOps n row2 && (decide ((n : Int) = (n : Int)) && (decide ((0 : Int) ≤ 0) && decide ((n : Int) ≤ 4611686018427387904)))))))
theorem sameE00 : exT ((Csm Try.prog).at 12) 60 Try.f12 [.slice none 0 0, .slice none 0 0] [] [] = some (.bool true, []) := by kernel_rfl
theorem sameE01 (own : Bool) (n : Nat) (xs : List O3) : exT ((Csm Try.prog).at 12) 60 Try.f12 [.slice none 0 0, .slice (some ⟨0, 0, some 0⟩) n 12] [.rows own true 12 n (opRow xs)] [.fix 0] =
    (match (0 : Int) != (n : Int) with
    | true => some (.bool false, [.rows own true 12 n (opRow xs)])
    | false => some (.bool true, [.rows own true 12 n (opRow xs)])) := by kernel_rfl
theorem sameE10 (own : Bool) (n : Nat) (xs : List O3) : exT ((Csm Try.prog).at 12) 60 Try.f12 [.slice (some ⟨0, 0, some 0⟩) n 12, .slice none 0 0] [.rows own true 12 n (opRow xs)] [.fix 0] =
    (match (n : Int) != (0 : Int) with
    | true => some (.bool false, [.rows own true 12 n (opRow xs)])
    | false => match decide ((0 : Int) < (n : Int)) with
      | true => match boundsI 0 n with
        | true => none
        | false => none
      | false => some (.bool true, [.rows own true 12 n (opRow xs)])) := by kernel_rfl
theorem sameE1 (own own2 : Bool) (n m : Nat) (xs ys : List O3) : exT ((Csm Try.prog).at 12) 60 Try.f12 [.slice (some ⟨0, 0, some 0⟩) n 12, .slice (some ⟨1, 0, some 0⟩) m 12] [.rows own true 12 n (opRow xs), .rows own2 true 12 m (opRow ys)] [.fix 0, .fix 1] =
    (match (n : Int) != (m : Int) with
    | true => some (.bool false, [.rows own true 12 n (opRow xs), .rows own2 true 12 m (opRow ys)])
    | false => gd (smT n m (opRow xs) (opRow ys)) (match smeL ((opsOf n (opRow xs)).drop (0 : Int).toNat) ((opsOf n (opRow ys)).drop (0 : Int).toNat) with
      | true => some (.bool true, [.rows own true 12 n (opRow (opsOf n (opRow xs))), .rows own2 true 12 n (opRow (opsOf n (opRow ys)))])
      | false => some (.bool false, [.rows own true 12 n (opRow (opsOf n (opRow xs))), .rows own2 true 12 n (opRow (opsOf n (opRow ys)))]))) := by kernel_rfl
/-- Are two lists alike? -/
def sameB (xs ys : List O3) : Bool := ((xs.length : Int) == (ys.length : Int)) && smeL xs ys
theorem sameB_refl (xs : List O3) : sameB xs xs = true := by unfold sameB; rw [smeL_refl]; simp
theorem sameE (own own2 : Bool) (n m : Nat) (xs ys : List O3) (hx : xs.length = n) (hy : ys.length = m) (hn : n ≤ 1500000) : exT ((Csm Try.prog).at 12) 60 Try.f12 [.slice (some ⟨0, 0, some 0⟩) n 12, .slice (some ⟨1, 0, some 0⟩) m 12] [.rows own true 12 n (opRow xs), .rows own2 true 12 m (opRow ys)] [.fix 0, .fix 1] =
    some (.bool (sameB xs ys), [.rows own true 12 n (opRow xs), .rows own2 true 12 m (opRow ys)]) := by
  rw [sameE1]
  unfold sameB
  rw [hx, hy]
  by_cases h : n = m
  · subst h
    have ht : smT n n (opRow xs) (opRow ys) = true := by
      unfold smT
      rw [Nat.beq_refl, okOps_opRow, okOps_opRow]
      simp; omega
    rw [ht, opsOf_row hx, opsOf_row hy]
    simp only [bne_self_eq_false, gd_true, Int.toNat_zero, List.drop_zero, beq_self_eq_true, Bool.true_and]
    cases smeL xs ys <;> rfl
  · have h1 : ((n : Int) != (m : Int)) = true := by simp; omega
    have h2 : ((n : Int) == (m : Int)) = false := by simp; omega
    rw [h1, h2]; rfl
def sameF : List Value → Mem → Option (Ans (Value × Mem))
  | [.slice none 0 0, .slice none 0 0], [] => some (.out (.bool true, []))
  | [.slice none 0 0, .slice (some ⟨0, 0, some 0⟩) n 12], [.rows own true 12 n2 row] => some (.br (Nat.beq n n2 && okOps n row) (.out (.bool (sameB [] (opsOf n row)), [.rows own true 12 n (opRow (opsOf n row))])) .fail)
  | [.slice (some ⟨0, 0, some 0⟩) n 12, .slice none 0 0], [.rows own true 12 n2 row] => some (.br (Nat.beq n n2 && okOps n row) (.out (.bool (sameB (opsOf n row) []), [.rows own true 12 n (opRow (opsOf n row))])) .fail)
  | [.slice (some ⟨0, 0, some 0⟩) n 12, .slice (some ⟨1, 0, some 0⟩) m 12], [.rows own true 12 n2 row, .rows own2 true 12 m2 row2] => some (.br (Nat.beq n n2 && (okOps n row && (Nat.beq m m2 && (okOps m row2 && decide (n ≤ 1500000))))) (.out (.bool (sameB (opsOf n row) (opsOf m row2)), [.rows own true 12 n (opRow (opsOf n row)), .rows own2 true 12 m (opRow (opsOf m row2))])) .fail)
  | _, _ => none
def Csa (P : Program) : Cx := (Csm P).addF 12 sameF
theorem oksa : CxOk (Csa Try.prog) := Cx.addF_ok oksm fun args m ans v m' h hr => by
  unfold sameF at h
  split at h
  · simp only [Option.some.injEq] at h
    subst h
    simp only [Ans.res, Option.some.injEq, Prod.mk.injEq] at hr
    obtain ⟨rfl, rfl⟩ := hr
    exact exT_ok oksm Try.func12 (by kernel_rfl) sameE00
  · rename_i n own n2 row
    simp only [Option.some.injEq] at h
    subst h
    rcases Ans.br_some hr with ⟨hc, hr1⟩ | ⟨_, hr1⟩
    rotate_left
    · simp [Ans.res] at hr1
    clear hr
    simp only [Bool.and_eq_true] at hc
    obtain ⟨c1, c2⟩ := hc
    have c1 := beq_len c1
    subst c1
    simp only [Ans.res, Option.some.injEq, Prod.mk.injEq] at hr1
    obtain ⟨rfl, rfl⟩ := hr1
    have hE := sameE01 own n (opsOf n row)
    have hl := opsOf_length n row
    have e : sameB [] (opsOf n row) = !((0 : Int) != (n : Int)) := by
      unfold sameB
      rw [hl]
      have : smeL [] (opsOf n row) = true := by cases opsOf n row <;> rfl
      rw [this]
      simp [bne]
    rw [e]
    refine (exT_ok oksm Try.func12 (by kernel_rfl) (hE.trans ?_)).like ⟨.rows (ops_like c2), trivial⟩
    cases (0 : Int) != (n : Int) <;> rfl
  · rename_i n own n2 row
    simp only [Option.some.injEq] at h
    subst h
    rcases Ans.br_some hr with ⟨hc, hr1⟩ | ⟨_, hr1⟩
    rotate_left
    · simp [Ans.res] at hr1
    clear hr
    simp only [Bool.and_eq_true] at hc
    obtain ⟨c1, c2⟩ := hc
    have c1 := beq_len c1
    subst c1
    simp only [Ans.res, Option.some.injEq, Prod.mk.injEq] at hr1
    obtain ⟨rfl, rfl⟩ := hr1
    have hE := sameE10 own n (opsOf n row)
    have hl := opsOf_length n row
    have e : sameB (opsOf n row) [] = !((n : Int) != (0 : Int)) := by
      unfold sameB
      rw [hl]
      have : smeL (opsOf n row) [] = true := by cases opsOf n row <;> rfl
      rw [this]
      simp [bne]
    rw [e]
    refine (exT_ok oksm Try.func12 (by kernel_rfl) (hE.trans ?_)).like ⟨.rows (ops_like c2), trivial⟩
    by_cases hz : n = 0
    · subst hz; rfl
    · have h1 : ((n : Int) != (0 : Int)) = true := by simp; omega
      rw [h1]; rfl
  · rename_i n m own n2 row own2 m2 row2
    simp only [Option.some.injEq] at h
    subst h
    rcases Ans.br_some hr with ⟨hc, hr1⟩ | ⟨_, hr1⟩
    rotate_left
    · simp [Ans.res] at hr1
    clear hr
    simp only [Bool.and_eq_true, decide_eq_true_eq] at hc
    obtain ⟨c1, c2, c3, c4, c5⟩ := hc
    have c1 := beq_len c1
    have c3 := beq_len c3
    subst c1 c3
    simp only [Ans.res, Option.some.injEq, Prod.mk.injEq] at hr1
    obtain ⟨rfl, rfl⟩ := hr1
    exact (exT_ok oksm Try.func12 (by kernel_rfl) (sameE own own2 n m (opsOf n row) (opsOf m row2) (opsOf_length n row) (opsOf_length m row2) c5)).like ⟨.rows (ops_like c2), .rows (ops_like c4), trivial⟩
  · cases h
end Go.Proofs.Ytcefeamjnnkahaa


namespace Go.Proofs.Ytcefeamjnnkahaa
open Go Vx

def sqX (P : Program) : Code := (loopsOf P 36 4).headD .skip
theorem sqX_eq : loopsOf Try.prog 36 4 = [sqX Try.prog] := by kernel_rfl
def sqH (own : Bool) (own2 : Bool) (n : Nat) (xs : List O3) (ys : List O3) (i : Int) : St := stOf 26 [(0, .slice (some ⟨0, 0, some 0⟩) n 12), (1, .slice (some ⟨1, 0, some 0⟩) n 12), (4, .bool false), (12, vI n), (13, vI i)] [.rows own true 12 n (opRow xs), .rows own2 true 12 n (opRow ys)]
theorem sqR (own : Bool) (own2 : Bool) (n : Nat) (xs : List O3) (ys : List O3) (i : Int) : roundR ((Csa Try.prog).into 36 2) 40 (sqX Try.prog) [0, 1, 4, 12, 13] [4] [.fix 0, .fix 1] [.fix 0, .fix 1] (sqH own own2 n xs ys i) =
    (match decide (i < (n : Int)) with
    | true => match boundsI i n with
      | true => match boundsI i n with
        | true => match !((atO xs i).eqB (atO ys i)) with
          | true => some (.ret, stOf 26 [(4, .bool false)] [.rows own true 12 n (opRow xs), .rows own2 true 12 n (opRow ys)])
          | false => some (.normal, sqH own own2 n xs ys (W (i + 1)))
        | false => none
      | false => none
    | false => some (.exit 0, stOf 26 [(4, .bool false)] [.rows own true 12 n (opRow xs), .rows own2 true 12 n (opRow ys)])) := by kernel_rfl
structure sqG where
  (own : Bool) (own2 : Bool) (n : Nat) (xs : List O3) (ys : List O3) (i : Int)
def sqO (own : Bool) (own2 : Bool) (n : Nat) (xs : List O3) (ys : List O3) (i : Int) : Exit × St :=
  match smeL (xs.drop i.toNat) (ys.drop i.toNat) with
  | true => (.exit 0, stOf 26 [(4, .bool false)] [.rows own true 12 n (opRow xs), .rows own2 true 12 n (opRow ys)])
  | false => (.ret, stOf 26 [(4, .bool false)] [.rows own true 12 n (opRow xs), .rows own2 true 12 n (opRow ys)])
theorem sqL (own : Bool) (own2 : Bool) (n : Nat) (xs : List O3) (ys : List O3) (i : Int) (hg : 0 ≤ i ∧ (n : Int) ≤ 4611686018427387904 ∧ xs.length = n ∧ ys.length = n) : LoopSem Try.prog 2 (sqX Try.prog) (sqH own own2 n xs ys i) (sqO own own2 n xs ys i).1 (sqO own own2 n xs ys i).2 := by
  refine loop_rule (C := Csa Try.prog) oksa (f := 36) (B := 2) (loopsOf_in (k := 4) sqX_eq) 40 [0, 1, 4, 12, 13] [4] [.fix 0, .fix 1] [.fix 0, .fix 1] (fun g : sqG => sqH g.own g.own2 g.n g.xs g.ys g.i) (fun g => (g.n - g.i).toNat) (fun g => 0 ≤ g.i ∧ (g.n : Int) ≤ 4611686018427387904 ∧ g.xs.length = g.n ∧ g.ys.length = g.n) (fun g => sqO g.own g.own2 g.n g.xs g.ys g.i) ?_ ⟨own, own2, n, xs, ys, i⟩ hg
  clear hg
  rintro ⟨own, own2, n, xs, ys, i⟩ hg
  simp only at hg
  simp only [sqR]
  obtain ⟨h0, h1, h2, h3⟩ := hg
  by_cases hi : i < (n : Int)
  · have hd : decide (i < (n : Int)) = true := by simpa using hi
    have hb : boundsI i n = true := by simp [boundsI, h0, hi]
    have hdx := drop_at (xs := xs) h0 (by omega)
    have hdy := drop_at (xs := ys) h0 (by omega)
    have hw : W (i + 1) = i + 1 := W_in (by omega)
    rw [hd, hb, hw]
    simp only
    cases he : !((atO xs i).eqB (atO ys i)) with
    | true =>
      right
      unfold sqO
      simp only [hdx, hdy, smeL, he]
      exact ⟨trivial, by simp⟩
    | false =>
      left
      refine ⟨⟨own, own2, n, xs, ys, i + 1⟩, rfl, ⟨by simp only; omega, h1, h2, h3⟩, by simp only; omega, ?_⟩
      unfold sqO
      simp only [hdx, hdy, smeL, he]
  · have hd : decide (i < (n : Int)) = false := by simpa using hi
    rw [hd]
    right
    have hn : xs.drop i.toNat = [] := List.drop_eq_nil_of_le (by omega)
    unfold sqO
    simp only [hn, smeL]
    exact ⟨trivial, by simp⟩
def sqS (st : St) : Option (Ans (Exit × St)) :=
  match sized st 26 2, tAt st 0, tAt st 1, tAt st 4, tAt st 12, tAt st 13, st.mem with
  | true, some (.slice (some ⟨0, 0, some 0⟩) n 12), some (.slice (some ⟨1, 0, some 0⟩) n1 12), some (.bool false), some (.int .i64 ln), some (.int .i64 i), [.rows own true 12 n2 row, .rows own2 true 12 n3 row2] => some (.br (Nat.beq n n1 && (Nat.beq n n2 && (okOps n row && (Nat.beq n n3 && (okOps n row2 && (decide ((n : Int) = ln) && (decide (0 ≤ i) && (decide ((n : Int) ≤ 4611686018427387904))))))))) (.br (smeL ((opsOf n row).drop i.toNat) ((opsOf n row2).drop i.toNat))
      (.out (.exit 0, stOf 26 [(4, .bool false)] [.rows own true 12 n (opRow (opsOf n row)), .rows own2 true 12 n (opRow (opsOf n row2))]))
      (.out (.ret, stOf 26 [(4, .bool false)] [.rows own true 12 n (opRow (opsOf n row)), .rows own2 true 12 n (opRow (opsOf n row2))]))) .fail)
  | _, _, _, _, _, _, _ => none
theorem sqK {st : St} {ans : Ans (Exit × St)} {e_ : Exit} {s_ : St} (h : sqS st = some ans) (hr : ans.res = some (e_, s_)) : LoopSem Try.prog 2 (sqX Try.prog) st e_ s_ := by
  unfold sqS at h
  split at h
  · rename_i n n1 ln i own n2 row own2 n3 row2 hb hs0 hs1 hs2 hs3 hs4 hm
    simp only [Option.some.injEq] at h
    subst h
    rcases Ans.br_some hr with ⟨hc, hr1⟩ | ⟨_, hr1⟩
    · clear hr
      simp only [Bool.and_eq_true] at hc
      obtain ⟨ht0, ht1, ht2, ht3, ht4, ht5, ht6, ht7⟩ := hc
      have ht0 := beq_len ht0
      have ht1 := beq_len ht1
      have ht3 := beq_len ht3
      subst ht0 ht1 ht3
      have ht5 : (n : Int) = ln := by simpa using ht5
      subst ht5
      have hinv : 0 ≤ i ∧ (n : Int) ≤ 4611686018427387904 ∧ (opsOf n row).length = n ∧ (opsOf n row2).length = n := by
        exact ⟨by simpa using ht6, by simpa using ht7, opsOf_length n row, opsOf_length n row2⟩
      have hk := stOf_keep hb [(0, .slice (some ⟨0, 0, some 0⟩) n 12), (1, .slice (some ⟨1, 0, some 0⟩) n 12), (4, .bool false), (12, vI n), (13, vI i)] (by
        intro x hx
        simp only [List.mem_cons, List.not_mem_nil, or_false] at hx
        rcases hx with rfl | rfl | rfl | rfl | rfl
        · exact hs0
        · exact hs1
        · exact hs2
        · exact hs3
        · exact hs4) hm
      have key := sqL own own2 n (opsOf n row) (opsOf n row2) i hinv
      unfold sqH at key
      have key := LoopSem.like (m := [.rows own true 12 n row, .rows own2 true 12 n row2]) key ⟨.rows (ops_like ht2), .rows (ops_like ht4), trivial⟩
      have key : LoopSem Try.prog 2 (sqX Try.prog) (stOf 26 [(0, .slice (some ⟨0, 0, some 0⟩) n 12), (1, .slice (some ⟨1, 0, some 0⟩) n 12), (4, .bool false), (12, vI n), (13, vI i)] [.rows own true 12 n row, .rows own2 true 12 n row2]) _ _ := key
      rw [← hk] at key
      have key := LoopSem.clean key
      unfold sqO at key
      rcases Ans.br_some hr1 with ⟨hq, hr1⟩ | ⟨hq, hr1⟩
      · simp only [hq] at key
        simp only [Ans.res, Option.some.injEq, Prod.mk.injEq] at hr1
        obtain ⟨rfl, rfl⟩ := hr1
        exact key
      · simp only [hq] at key
        simp only [Ans.res, Option.some.injEq, Prod.mk.injEq] at hr1
        obtain ⟨rfl, rfl⟩ := hr1
        exact key
    · simp [Ans.res] at hr1
  · cases h
def Csq (P : Program) : Cx := (Csa P).addLB 36 4 2 sqS
theorem oksq : CxOk (Csq Try.prog) := Cx.addLB_ok oksa sqX_eq fun _ _ _ _ h hr => sqK h hr
theorem eqlE00 : exT ((Csq Try.prog).at 36) 60 Try.f36 [.slice none 0 0, .slice none 0 0] [] [] = some (.bool true, []) := by kernel_rfl
theorem eqlE01 (own : Bool) (n : Nat) (xs : List O3) : exT ((Csq Try.prog).at 36) 60 Try.f36 [.slice none 0 0, .slice (some ⟨0, 0, some 0⟩) n 12] [.rows own true 12 n (opRow xs)] [.fix 0] =
    (match (0 : Int) != (n : Int) with
    | true => some (.bool false, [.rows own true 12 n (opRow xs)])
    | false => some (.bool true, [.rows own true 12 n (opRow xs)])) := by kernel_rfl
theorem eqlE10 (own : Bool) (n : Nat) (xs : List O3) : exT ((Csq Try.prog).at 36) 60 Try.f36 [.slice (some ⟨0, 0, some 0⟩) n 12, .slice none 0 0] [.rows own true 12 n (opRow xs)] [.fix 0] =
    (match (n : Int) != (0 : Int) with
    | true => some (.bool false, [.rows own true 12 n (opRow xs)])
    | false => match decide ((0 : Int) < (n : Int)) with
      | true => match boundsI 0 n with
        | true => none
        | false => none
      | false => some (.bool true, [.rows own true 12 n (opRow xs)])) := by kernel_rfl
theorem eqlE1 (own own2 : Bool) (n m : Nat) (xs ys : List O3) : exT ((Csq Try.prog).at 36) 60 Try.f36 [.slice (some ⟨0, 0, some 0⟩) n 12, .slice (some ⟨1, 0, some 0⟩) m 12] [.rows own true 12 n (opRow xs), .rows own2 true 12 m (opRow ys)] [.fix 0, .fix 1] =
    (match (n : Int) != (m : Int) with
    | true => some (.bool false, [.rows own true 12 n (opRow xs), .rows own2 true 12 m (opRow ys)])
    | false => gd (smT n m (opRow xs) (opRow ys)) (match smeL ((opsOf n (opRow xs)).drop (0 : Int).toNat) ((opsOf n (opRow ys)).drop (0 : Int).toNat) with
      | true => some (.bool true, [.rows own true 12 n (opRow (opsOf n (opRow xs))), .rows own2 true 12 n (opRow (opsOf n (opRow ys)))])
      | false => some (.bool false, [.rows own true 12 n (opRow (opsOf n (opRow xs))), .rows own2 true 12 n (opRow (opsOf n (opRow ys)))]))) := by kernel_rfl
theorem eqlE (own own2 : Bool) (n m : Nat) (xs ys : List O3) (hx : xs.length = n) (hy : ys.length = m) (hn : n ≤ 1500000) : exT ((Csq Try.prog).at 36) 60 Try.f36 [.slice (some ⟨0, 0, some 0⟩) n 12, .slice (some ⟨1, 0, some 0⟩) m 12] [.rows own true 12 n (opRow xs), .rows own2 true 12 m (opRow ys)] [.fix 0, .fix 1] =
    some (.bool (sameB xs ys), [.rows own true 12 n (opRow xs), .rows own2 true 12 m (opRow ys)]) := by
  rw [eqlE1]
  unfold sameB
  rw [hx, hy]
  by_cases h : n = m
  · subst h
    have ht : smT n n (opRow xs) (opRow ys) = true := by
      unfold smT
      rw [Nat.beq_refl, okOps_opRow, okOps_opRow]
      simp; omega
    rw [ht, opsOf_row hx, opsOf_row hy]
    simp only [bne_self_eq_false, gd_true, Int.toNat_zero, List.drop_zero, beq_self_eq_true, Bool.true_and]
    cases smeL xs ys <;> rfl
  · have h1 : ((n : Int) != (m : Int)) = true := by simp; omega
    have h2 : ((n : Int) == (m : Int)) = false := by simp; omega
    rw [h1, h2]; rfl
def eqlF : List Value → Mem → Option (Ans (Value × Mem))
  | [.slice none 0 0, .slice none 0 0], [] => some (.out (.bool true, []))
  | [.slice none 0 0, .slice (some ⟨0, 0, some 0⟩) n 12], [.rows own true 12 n2 row] => some (.br (Nat.beq n n2 && okOps n row) (.out (.bool (sameB [] (opsOf n row)), [.rows own true 12 n (opRow (opsOf n row))])) .fail)
  | [.slice (some ⟨0, 0, some 0⟩) n 12, .slice none 0 0], [.rows own true 12 n2 row] => some (.br (Nat.beq n n2 && okOps n row) (.out (.bool (sameB (opsOf n row) []), [.rows own true 12 n (opRow (opsOf n row))])) .fail)
  | [.slice (some ⟨0, 0, some 0⟩) n 12, .slice (some ⟨1, 0, some 0⟩) m 12], [.rows own true 12 n2 row, .rows own2 true 12 m2 row2] => some (.br (Nat.beq n n2 && (okOps n row && (Nat.beq m m2 && (okOps m row2 && decide (n ≤ 1500000))))) (.out (.bool (sameB (opsOf n row) (opsOf m row2)), [.rows own true 12 n (opRow (opsOf n row)), .rows own2 true 12 m (opRow (opsOf m row2))])) .fail)
  | _, _ => none
def Ceq (P : Program) : Cx := (Csq P).addF 36 eqlF
theorem okeq : CxOk (Ceq Try.prog) := Cx.addF_ok oksq fun args m ans v m' h hr => by
  unfold eqlF at h
  split at h
  · simp only [Option.some.injEq] at h
    subst h
    simp only [Ans.res, Option.some.injEq, Prod.mk.injEq] at hr
    obtain ⟨rfl, rfl⟩ := hr
    exact exT_ok oksq Try.func36 (by kernel_rfl) eqlE00
  · rename_i n own n2 row
    simp only [Option.some.injEq] at h
    subst h
    rcases Ans.br_some hr with ⟨hc, hr1⟩ | ⟨_, hr1⟩
    rotate_left
    · simp [Ans.res] at hr1
    clear hr
    simp only [Bool.and_eq_true] at hc
    obtain ⟨c1, c2⟩ := hc
    have c1 := beq_len c1
    subst c1
    simp only [Ans.res, Option.some.injEq, Prod.mk.injEq] at hr1
    obtain ⟨rfl, rfl⟩ := hr1
    have hE := eqlE01 own n (opsOf n row)
    have hl := opsOf_length n row
    have e : sameB [] (opsOf n row) = !((0 : Int) != (n : Int)) := by
      unfold sameB
      rw [hl]
      have : smeL [] (opsOf n row) = true := by cases opsOf n row <;> rfl
      rw [this]
      simp [bne]
    rw [e]
    refine (exT_ok oksq Try.func36 (by kernel_rfl) (hE.trans ?_)).like ⟨.rows (ops_like c2), trivial⟩
    cases (0 : Int) != (n : Int) <;> rfl
  · rename_i n own n2 row
    simp only [Option.some.injEq] at h
    subst h
    rcases Ans.br_some hr with ⟨hc, hr1⟩ | ⟨_, hr1⟩
    rotate_left
    · simp [Ans.res] at hr1
    clear hr
    simp only [Bool.and_eq_true] at hc
    obtain ⟨c1, c2⟩ := hc
    have c1 := beq_len c1
    subst c1
    simp only [Ans.res, Option.some.injEq, Prod.mk.injEq] at hr1
    obtain ⟨rfl, rfl⟩ := hr1
    have hE := eqlE10 own n (opsOf n row)
    have hl := opsOf_length n row
    have e : sameB (opsOf n row) [] = !((n : Int) != (0 : Int)) := by
      unfold sameB
      rw [hl]
      have : smeL (opsOf n row) [] = true := by cases opsOf n row <;> rfl
      rw [this]
      simp [bne]
    rw [e]
    refine (exT_ok oksq Try.func36 (by kernel_rfl) (hE.trans ?_)).like ⟨.rows (ops_like c2), trivial⟩
    by_cases hz : n = 0
    · subst hz; rfl
    · have h1 : ((n : Int) != (0 : Int)) = true := by simp; omega
      rw [h1]; rfl
  · rename_i n m own n2 row own2 m2 row2
    simp only [Option.some.injEq] at h
    subst h
    rcases Ans.br_some hr with ⟨hc, hr1⟩ | ⟨_, hr1⟩
    rotate_left
    · simp [Ans.res] at hr1
    clear hr
    simp only [Bool.and_eq_true, decide_eq_true_eq] at hc
    obtain ⟨c1, c2, c3, c4, c5⟩ := hc
    have c1 := beq_len c1
    have c3 := beq_len c3
    subst c1 c3
    simp only [Ans.res, Option.some.injEq, Prod.mk.injEq] at hr1
    obtain ⟨rfl, rfl⟩ := hr1
    exact (exT_ok oksq Try.func36 (by kernel_rfl) (eqlE own own2 n m (opsOf n row) (opsOf m row2) (opsOf_length n row) (opsOf_length m row2) c5)).like ⟨.rows (ops_like c2), .rows (ops_like c4), trivial⟩
  · cases h
end Go.Proofs.Ytcefeamjnnkahaa
