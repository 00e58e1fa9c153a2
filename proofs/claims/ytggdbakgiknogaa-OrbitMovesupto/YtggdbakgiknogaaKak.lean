/-
  group.Check, places, Find, told. Nothing here is trusted.
-/
import Derived.Test.YtggdbakgiknogaaKaj
import Derived.Test.YtggdbakgiknogaaKaf
import Derived.Test.YtggdbakgiknogaaKag

namespace Go.Proofs.Ytggdbakgiknogaa
open Go Vx
/-- What Check answers. -/
def chkI (X : List O3) : Int := match clsOk X with
  | true => match !(sameB (clsG X) X) with
    | true => 5
    | false => 0
  | false => clsErr X
theorem clsErr_ne (X : List O3) : clsErr X ≠ 0 := by
  unfold clsErr
  by_cases h : ckMaps X = 0
  · rw [h]; decide
  · rw [(bif_beq h).1]; exact h
theorem chkE0 : exT ((Caw Try.prog).at 14) 60 Try.f14 [.slice none 0 0] [] [] = some (vI 5, []) := by kernel_rfl
theorem chkE1 (own : Bool) (N : Nat) (ls : List O3) : exT ((Caw Try.prog).at 14) 60 Try.f14 [.slice (some ⟨0, 0, some 0⟩) N 12] [.rows own true 12 N (opRow ls)] [.fix 0] =
    gd (oT N (opRow ls)) (match clsOk (opsOf N (opRow ls)) with
      | true => gd (ssT (clsG (opsOf N (opRow ls))).length N (opRow (clsG (opsOf N (opRow ls)))) (opRow (opsOf N (opRow ls)))) (match !(sameB (opsOf (clsG (opsOf N (opRow ls))).length (opRow (clsG (opsOf N (opRow ls))))) (opsOf N (opRow (opsOf N (opRow ls))))) with
        | true => some (vI 5, [.rows own true 12 N (opRow (opsOf N (opRow (opsOf N (opRow ls)))))])
        | false => some (vI 0, [.rows own true 12 N (opRow (opsOf N (opRow (opsOf N (opRow ls)))))]))
      | false => match clsErr (opsOf N (opRow ls)) == 0 with
        | true => gd (oT N (opRow (opsOf N (opRow ls)))) (match !(sameB [] (opsOf N (opRow (opsOf N (opRow ls))))) with
          | true => some (vI 5, [.rows own true 12 N (opRow (opsOf N (opRow (opsOf N (opRow ls)))))])
          | false => some (vI (clsErr (opsOf N (opRow ls))), [.rows own true 12 N (opRow (opsOf N (opRow (opsOf N (opRow ls)))))]))
        | false => some (vI (clsErr (opsOf N (opRow ls))), [.rows own true 12 N (opRow (opsOf N (opRow ls)))])) := by kernel_rfl
theorem oT_ok (n : Nat) (xs : List O3) : oT n (opRow xs) = true := by unfold oT; rw [Nat.beq_refl, okOps_opRow]; rfl
theorem chkE (own : Bool) (N : Nat) (ls : List O3) (hl : ls.length = N) : exT ((Caw Try.prog).at 14) 60 Try.f14 [.slice (some ⟨0, 0, some 0⟩) N 12] [.rows own true 12 N (opRow ls)] [.fix 0] = some (vI (chkI ls), [.rows own true 12 N (opRow ls)]) := by
  rw [chkE1, opsOf_row hl, opsOf_row hl, oT_ok, gd_true]
  unfold chkI
  cases hc : clsOk ls with
  | true =>
    have hlen := clsOk_len hc
    have ht : ssT (clsG ls).length N (opRow (clsG ls)) (opRow ls) = true := by unfold ssT; rw [Nat.beq_refl, Nat.beq_refl, okOps_opRow, okOps_opRow]; simp; omega
    simp only [ht, gd_true, opsOf_row]
    cases sameB (clsG ls) ls <;> rfl
  | false => simp only [(bif_beq (clsErr_ne ls)).1]
def chkF : List Value → Mem → Option (Ans (Value × Mem))
  | [.slice none 0 0], [] => some (.out (vI 5, []))
  | [.slice (some ⟨0, 0, some 0⟩) N 12], [.rows own true 12 N2 row] => some (.br (Nat.beq N N2 && okOps N row) (.out (vI (chkI (opsOf N row)), [.rows own true 12 N (opRow (opsOf N row))])) .fail)
  | _, _ => none
def Cck (P : Program) : Cx := (Caw P).addF 14 chkF
theorem okck : CxOk (Cck Try.prog) := Cx.addF_ok okaw fun args m ans v m' h hr => by
  unfold chkF at h
  split at h
  · simp only [Option.some.injEq] at h
    subst h
    simp only [Ans.res, Option.some.injEq, Prod.mk.injEq] at hr
    obtain ⟨rfl, rfl⟩ := hr
    exact exT_ok okaw Try.func14 (by kernel_rfl) chkE0
  · rename_i N own N2 row
    simp only [Option.some.injEq] at h
    subst h
    rcases Ans.br_some hr with ⟨hc, hr1⟩ | ⟨_, hr1⟩
    rotate_left
    · simp [Ans.res] at hr1
    clear hr
    simp only [Bool.and_eq_true] at hc
    obtain ⟨c1, c2⟩ := hc
    have c1 := beq_len c1
    subst c1
    simp only [Ans.res, Option.some.injEq, Prod.mk.injEq] at hr1
    obtain ⟨rfl, rfl⟩ := hr1
    exact (exT_ok okaw Try.func14 (by kernel_rfl) (chkE own N (opsOf N row) (opsOf_length N row))).like ⟨.rows (ops_like c2), trivial⟩
  · cases h
/-- Where each map stands. -/
def atsL : List O3 → Int → ES → ES
  | [], _, es => es
  | o :: l, i, es => atsL l (i + 1) (mPut (key o) i es)

def peX (P : Program) : Code := (loopsOf P 41 6).headD .skip
theorem peX_eq : loopsOf Try.prog 41 6 = [peX Try.prog] := by kernel_rfl
def peH (own : Bool) (n : Nat) (xs : List O3) (es : ES) (i : Int) : St := stOf 28 [(2, .map none), (3, vI 0), (5, .map (some 1)), (16, .slice (some ⟨0, 0, some 0⟩) n 12), (17, vI n), (18, vI i)] [.rows own true 12 n (opRow xs), .mp false 12 es]
theorem peR (own : Bool) (n : Nat) (xs : List O3) (es : ES) (i : Int) : roundR ((Cck Try.prog).into 41 1) 40 (peX Try.prog) [2, 3, 5, 16, 17, 18] [2, 3, 5] [.fix 0, .fix 1] [.fix 0, .fix 1] (peH own n xs es i) =
    (match decide (i < (n : Int)) with
    | true => match boundsI i n with
      | true => some (.normal, peH own n xs (mPut (key (atO xs i)) i es) (W (i + 1)))
      | false => none
    | false => some (.exit 0, stOf 28 [(2, .map none), (3, vI 0), (5, .map (some 1))] [.rows own true 12 n (opRow xs), .mp false 12 es])) := by kernel_rfl
structure peG where
  (own : Bool) (n : Nat) (xs : List O3) (es : ES) (i : Int)
def peO (own : Bool) (n : Nat) (xs : List O3) (es : ES) (i : Int) : Exit × St :=
  (.exit 0, stOf 28 [(2, .map none), (3, vI 0), (5, .map (some 1))] [.rows own true 12 n (opRow xs), .mp false 12 (atsL (xs.drop i.toNat) i es)])
theorem peL (own : Bool) (n : Nat) (xs : List O3) (es : ES) (i : Int) (hg : 0 ≤ i ∧ (n : Int) ≤ 4611686018427387904 ∧ xs.length = n) : LoopSem Try.prog 1 (peX Try.prog) (peH own n xs es i) (peO own n xs es i).1 (peO own n xs es i).2 := by
  refine loop_rule (C := Cck Try.prog) okck (f := 41) (B := 1) (loopsOf_in (k := 6) peX_eq) 40 [2, 3, 5, 16, 17, 18] [2, 3, 5] [.fix 0, .fix 1] [.fix 0, .fix 1] (fun g : peG => peH g.own g.n g.xs g.es g.i) (fun g => (g.n - g.i).toNat) (fun g => 0 ≤ g.i ∧ (g.n : Int) ≤ 4611686018427387904 ∧ g.xs.length = g.n) (fun g => peO g.own g.n g.xs g.es g.i) ?_ ⟨own, n, xs, es, i⟩ hg
  clear hg
  rintro ⟨own, n, xs, es, i⟩ hg
  simp only at hg
  simp only [peR]
  obtain ⟨h0, h1, h2⟩ := hg
  by_cases hi : i < (n : Int)
  · have hd : decide (i < (n : Int)) = true := by simpa using hi
    have hb : boundsI i n = true := by simp [boundsI, h0, hi]
    have hdx := drop_at (xs := xs) h0 (by omega)
    have hw : W (i + 1) = i + 1 := W_in (by omega)
    rw [hd, hb, hw]
    left
    refine ⟨⟨own, n, xs, mPut (key (atO xs i)) i es, i + 1⟩, rfl, ⟨by simp only; omega, h1, h2⟩, by simp only; omega, ?_⟩
    unfold peO
    simp only [hdx, atsL]
  · have hd : decide (i < (n : Int)) = false := by simpa using hi
    rw [hd]
    right
    have hn : xs.drop i.toNat = [] := List.drop_eq_nil_of_le (by omega)
    unfold peO
    simp only [hn, atsL]
    exact ⟨trivial, by simp⟩
def peS (st : St) : Option (Ans (Exit × St)) :=
  match sized st 28 2, tAt st 2, tAt st 3, tAt st 5, tAt st 16, tAt st 17, tAt st 18, st.mem with
  | true, some (.map none), some (.int .i64 0), some (.map (some 1)), some (.slice (some ⟨0, 0, some 0⟩) n 12), some (.int .i64 ln), some (.int .i64 i), [.rows own true 12 n2 row, .mp false 12 es] => some (.br (Nat.beq n n2 && (okOps n row && (decide ((n : Int) = ln) && (decide (0 ≤ i) && (decide ((n : Int) ≤ 4611686018427387904)))))) (.out (.exit 0, stOf 28 [(2, .map none), (3, vI 0), (5, .map (some 1))] [.rows own true 12 n (opRow (opsOf n row)), .mp false 12 (atsL ((opsOf n row).drop i.toNat) i es)])) .fail)
  | _, _, _, _, _, _, _, _ => none
theorem peK {st : St} {ans : Ans (Exit × St)} {e_ : Exit} {s_ : St} (h : peS st = some ans) (hr : ans.res = some (e_, s_)) : LoopSem Try.prog 1 (peX Try.prog) st e_ s_ := by
  unfold peS at h
  split at h
  · rename_i n ln i own n2 row es hb hs0 hs1 hs2 hs3 hs4 hs5 hm
    simp only [Option.some.injEq] at h
    subst h
    rcases Ans.br_some hr with ⟨hc, hr1⟩ | ⟨_, hr1⟩
    · clear hr
      simp only [Bool.and_eq_true] at hc
      obtain ⟨ht0, ht1, ht2, ht3, ht4⟩ := hc
      have ht0 := beq_len ht0
      subst ht0
      have ht2 : (n : Int) = ln := by simpa using ht2
      subst ht2
      have hinv : 0 ≤ i ∧ (n : Int) ≤ 4611686018427387904 ∧ (opsOf n row).length = n := by
        exact ⟨by simpa using ht3, by simpa using ht4, opsOf_length n row⟩
      have hk := stOf_keep hb [(2, .map none), (3, vI 0), (5, .map (some 1)), (16, .slice (some ⟨0, 0, some 0⟩) n 12), (17, vI n), (18, vI i)] (by
        intro x hx
        simp only [List.mem_cons, List.not_mem_nil, or_false] at hx
        rcases hx with rfl | rfl | rfl | rfl | rfl | rfl
        · exact hs0
        · exact hs1
        · exact hs2
        · exact hs3
        · exact hs4
        · exact hs5) hm
      have key := peL own n (opsOf n row) es i hinv
      unfold peH at key
      have key := LoopSem.like (m := [.rows own true 12 n row, .mp false 12 es]) key ⟨.rows (ops_like ht1), .refl _, trivial⟩
      have key : LoopSem Try.prog 1 (peX Try.prog) (stOf 28 [(2, .map none), (3, vI 0), (5, .map (some 1)), (16, .slice (some ⟨0, 0, some 0⟩) n 12), (17, vI n), (18, vI i)] [.rows own true 12 n row, .mp false 12 es]) _ _ := key
      rw [← hk] at key
      have key := LoopSem.clean key
      unfold peO at key
      simp only [Ans.res, Option.some.injEq, Prod.mk.injEq] at hr1
      obtain ⟨rfl, rfl⟩ := hr1
      exact key
    · simp [Ans.res] at hr1
  · cases h

def Cpe (P : Program) : Cx := (Cck P).addLB 41 6 1 peS
theorem okpe : CxOk (Cpe Try.prog) := Cx.addLB_ok okck peX_eq fun _ _ _ _ h hr => peK h hr
theorem plsE0 : exT ((Cpe Try.prog).at 41) 60 Try.f41 [.slice none 0 0] [] [.slot 0] = some (.tuple #[.map none, vI 5], [.no]) := by kernel_rfl
theorem plsE1 (own : Bool) (N : Nat) (ls : List O3) : exT ((Cpe Try.prog).at 41) 60 Try.f41 [.slice (some ⟨0, 0, some 0⟩) N 12] [.rows own true 12 N (opRow ls)] [.fix 0, .slot 0] =
    gd (oT N (opRow ls)) (match chkI (opsOf N (opRow ls)) != 0 with
      | true => some (.tuple #[.map none, vI (chkI (opsOf N (opRow ls)))], [.rows own true 12 N (opRow (opsOf N (opRow ls))), .no])
      | false => gd (lT N (opRow (opsOf N (opRow ls))) N) (some (.tuple #[.map (some 1), vI 0], [.rows own true 12 N (opRow (opsOf N (opRow (opsOf N (opRow ls))))), .mp false 12 (atsL ((opsOf N (opRow (opsOf N (opRow ls)))).drop (0 : Int).toNat) 0 [])]))) := by kernel_rfl
theorem lT_ok {n : Nat} {xs : List O3} (hn : n ≤ 4611686018427387904) : lT n (opRow xs) n = true := by
  unfold lT
  rw [Nat.beq_refl, okOps_opRow]
  simp; omega
def plsF : List Value → Mem → Option (Ans (Value × Mem))
  | [.slice none 0 0], [] => some (.out (.tuple #[.map none, vI 5], [.no]))
  | [.slice (some ⟨0, 0, some 0⟩) N 12], [.rows own true 12 N2 row] => some (.br (Nat.beq N N2 && (okOps N row && decide (N ≤ 4611686018427387904))) (.br (chkI (opsOf N row) != 0) (.out (.tuple #[.map none, vI (chkI (opsOf N row))], [.rows own true 12 N (opRow (opsOf N row)), .no])) (.out (.tuple #[.map (some 1), vI 0], [.rows own true 12 N (opRow (opsOf N row)), .mp false 12 (atsL (opsOf N row) 0 [])]))) .fail)
  | _, _ => none
def Cpls (P : Program) : Cx := (Cpe P).addF 41 plsF
theorem okpls : CxOk (Cpls Try.prog) := Cx.addF_ok okpe fun args m ans v m' h hr => by
  unfold plsF at h
  split at h
  · simp only [Option.some.injEq] at h
    subst h
    simp only [Ans.res, Option.some.injEq, Prod.mk.injEq] at hr
    obtain ⟨rfl, rfl⟩ := hr
    exact exT_ok okpe Try.func41 (by kernel_rfl) plsE0
  · rename_i N own N2 row
    simp only [Option.some.injEq] at h
    subst h
    rcases Ans.br_some hr with ⟨hc, hr1⟩ | ⟨_, hr1⟩
    rotate_left
    · simp [Ans.res] at hr1
    clear hr
    simp only [Bool.and_eq_true, decide_eq_true_eq] at hc
    obtain ⟨c1, c2, c3⟩ := hc
    have c1 := beq_len c1
    subst c1
    have hl := opsOf_length N row
    have hE := plsE1 own N (opsOf N row)
    rw [opsOf_row hl, opsOf_row hl, oT_ok, lT_ok c3] at hE
    simp only [gd_true, Int.toNat_zero, List.drop_zero] at hE
    rcases Ans.br_some hr1 with ⟨hq, hr2⟩ | ⟨hq, hr2⟩
    · rw [hq] at hE
      simp only [Ans.res, Option.some.injEq, Prod.mk.injEq] at hr2
      obtain ⟨rfl, rfl⟩ := hr2
      exact (exT_ok okpe Try.func41 (by kernel_rfl) hE).like ⟨.rows (ops_like c2), trivial⟩
    · rw [hq] at hE
      simp only [Ans.res, Option.some.injEq, Prod.mk.injEq] at hr2
      obtain ⟨rfl, rfl⟩ := hr2
      exact (exT_ok okpe Try.func41 (by kernel_rfl) hE).like ⟨.rows (ops_like c2), trivial⟩
  · cases h
/-! Find -/
def fndV (X : List O3) (o : O3) : Int := bif leastN (chkI X) o.ck == 0 then (bif mHas (key o) (atsL X 0 []) then mGet (key o) (atsL X 0 []) else 0) else 0
def fndE (X : List O3) (o : O3) : Int := bif leastN (chkI X) o.ck == 0 then (bif mHas (key o) (atsL X 0 []) then 0 else 9) else leastN (chkI X) o.ck
def twoI (a b : Int) : Value := .tuple #[vI a, vI b]
theorem fndE0 (o : O3) : exT ((Cpls Try.prog).at 15) 60 Try.f15 [.slice none 0 0, o.v] [] [] = (match leastN 5 o.ck != 0 with
    | true => some (twoI 0 (leastN 5 o.ck), [])
    | false => none) := by kernel_rfl
theorem fndE1 (own : Bool) (N : Nat) (ls : List O3) (o : O3) : exT ((Cpls Try.prog).at 15) 60 Try.f15 [.slice (some ⟨0, 0, some 0⟩) N 12, o.v] [.rows own true 12 N (opRow ls)] [.fix 0] =
    gd (Nat.beq N N && (okOps N (opRow ls) && decide (N ≤ 4611686018427387904))) (match chkI (opsOf N (opRow ls)) != 0 with
      | true => match leastN (chkI (opsOf N (opRow ls))) o.ck != 0 with
        | true => some (twoI 0 (leastN (chkI (opsOf N (opRow ls))) o.ck), [.rows own true 12 N (opRow (opsOf N (opRow ls)))])
        | false => none
      | false => match leastN 0 o.ck != 0 with
        | true => some (twoI 0 (leastN 0 o.ck), [.rows own true 12 N (opRow (opsOf N (opRow ls)))])
        | false => match !(mHas (key o) (atsL (opsOf N (opRow ls)) 0 [])) with
          | true => some (twoI 0 9, [.rows own true 12 N (opRow (opsOf N (opRow ls)))])
          | false => some (twoI (mGet (key o) (atsL (opsOf N (opRow ls)) 0 [])) 0, [.rows own true 12 N (opRow (opsOf N (opRow ls)))])) := by kernel_rfl
end Go.Proofs.Ytggdbakgiknogaa


namespace Go.Proofs.Ytggdbakgiknogaa
open Go Vx
theorem leastN_zero {a b : Int} : leastN a b = 0 ↔ a = 0 ∧ b = 0 := by
  unfold leastN
  by_cases ha : a = 0
  · subst ha; simp
  · rw [(bif_beq ha).1]
    by_cases hb : b = 0
    · subst hb; simp [ha]
    · rw [(bif_beq hb).2]
      by_cases hl : b < a <;> simp [hl, ha, hb]
def fndF : List Value → Mem → Option (Ans (Value × Mem))
  | [.slice none 0 0, .agg co], [] => match opCells co.toList with
    | some o => some (.br (leastN 5 o.ck != 0) (.out (twoI 0 (leastN 5 o.ck), [])) .fail)
    | none => none
  | [.slice (some ⟨0, 0, some 0⟩) N 12, .agg co], [.rows own true 12 N2 row] => match opCells co.toList with
    | some o => some (.br (Nat.beq N N2 && (okOps N row && decide (N ≤ 4611686018427387904))) (.out (twoI (fndV (opsOf N row) o) (fndE (opsOf N row) o), [.rows own true 12 N (opRow (opsOf N row))])) .fail)
    | none => none
  | _, _ => none
theorem fndE2 (own : Bool) (N : Nat) (ls : List O3) (o : O3) (hl : ls.length = N) (hN : N ≤ 4611686018427387904) : exT ((Cpls Try.prog).at 15) 60 Try.f15 [.slice (some ⟨0, 0, some 0⟩) N 12, o.v] [.rows own true 12 N (opRow ls)] [.fix 0] = some (twoI (fndV ls o) (fndE ls o), [.rows own true 12 N (opRow ls)]) := by
  have ht : (Nat.beq N N && (okOps N (opRow ls) && decide (N ≤ 4611686018427387904))) = true := by rw [Nat.beq_refl, okOps_opRow]; simp; omega
  rw [fndE1, opsOf_row hl, ht, gd_true]
  unfold fndV fndE
  by_cases h : leastN (chkI ls) o.ck = 0
  · obtain ⟨h1, h2⟩ := leastN_zero.1 h
    rw [h1, h2]
    cases mHas (key o) (atsL ls 0 []) <;> rfl
  · rw [(bif_beq h).1]
    by_cases h1 : chkI ls = 0
    · rw [h1] at h ⊢
      rw [(bif_beq h).2]; rfl
    · rw [(bif_beq h1).2, (bif_beq h).2]; rfl
def Cfn (P : Program) : Cx := (Cpls P).addF 15 fndF
theorem okfn : CxOk (Cfn Try.prog) := Cx.addF_ok okpls fun args m ans v m' h hr => by
  unfold fndF at h
  split at h
  · rename_i co
    split at h
    · rename_i o ho
      simp only [Option.some.injEq] at h
      subst h
      rcases Ans.br_some hr with ⟨hc, hr1⟩ | ⟨_, hr1⟩
      · simp only [Ans.res, Option.some.injEq, Prod.mk.injEq] at hr1
        obtain ⟨rfl, rfl⟩ := hr1
        have e1 : co = o.cells.toArray := by rw [← opCells_spec ho]
        subst e1
        have hE := fndE0 o
        rw [hc] at hE
        exact exT_ok okpls Try.func15 (by kernel_rfl) hE
      · simp [Ans.res] at hr1
    · cases h
  · rename_i N co own N2 row
    split at h
    · rename_i o ho
      simp only [Option.some.injEq] at h
      subst h
      rcases Ans.br_some hr with ⟨hc, hr1⟩ | ⟨_, hr1⟩
      · clear hr
        simp only [Bool.and_eq_true, decide_eq_true_eq] at hc
        obtain ⟨c1, c2, c3⟩ := hc
        have c1 := beq_len c1
        subst c1
        simp only [Ans.res, Option.some.injEq, Prod.mk.injEq] at hr1
        obtain ⟨rfl, rfl⟩ := hr1
        have e1 : co = o.cells.toArray := by rw [← opCells_spec ho]
        subst e1
        exact (exT_ok okpls Try.func15 (by kernel_rfl) (fndE2 own N (opsOf N row) o (opsOf_length N row) c3)).like ⟨.rows (ops_like c2), trivial⟩
      · simp [Ans.res] at hr1
    · cases h
  · cases h
/-- Is a list in order, behind a map? -/
def ordF : O3 → List O3 → Bool
  | _, [] => true
  | p, x :: l => match decide (lexI p.l x.l ≥ 0) with
    | true => false
    | false => ordF x l
/-- Are all maps of a list, then a, among these? -/
def inMul (a : O3) (X : List O3) : List O3 → Bool
  | [] => true
  | b :: l => match decide (placeI X (a.mul5 b) < 0) with
    | true => false
    | false => inMul a X l
def inAll (X : List O3) : List O3 → Bool
  | [] => true
  | a :: l => match inMul a X X with
    | true => inAll X l
    | false => false

def ocX (P : Program) : Code := (loopsOf P 21 7).headD .skip
theorem ocX_eq : loopsOf Try.prog 21 7 = [ocX Try.prog] := by kernel_rfl
def ocH (own : Bool) (n : Nat) (xs : List O3) (i : Int) : St := stOf 58 [(0, .slice (some ⟨0, 0, some 0⟩) n 12), (2, vI 0), (4, vI i)] [.rows own true 12 n (opRow xs)]
theorem ocR (own : Bool) (n : Nat) (xs : List O3) (i : Int) : roundR ((Cfn Try.prog).into 21 1) 40 (ocX Try.prog) [0, 2, 4] [0, 2] [.fix 0] [.fix 0] (ocH own n xs i) =
    (match decide (i < (n : Int)) with
    | true => match boundsI (W (i - 1)) n with
      | true => match boundsI i n with
        | true => match decide (lexI (atO xs (W (i - 1))).l (atO xs i).l ≥ 0) with
          | true => some (.ret, stOf 58 [(0, .slice (some ⟨0, 0, some 0⟩) n 12), (2, vI 5)] [.rows own true 12 n (opRow xs)])
          | false => some (.normal, ocH own n xs (W (i + 1)))
        | false => none
      | false => none
    | false => some (.exit 0, stOf 58 [(0, .slice (some ⟨0, 0, some 0⟩) n 12), (2, vI 0)] [.rows own true 12 n (opRow xs)])) := by kernel_rfl
structure ocG where
  (own : Bool) (n : Nat) (xs : List O3) (i : Int)
def ocO (own : Bool) (n : Nat) (xs : List O3) (i : Int) : Exit × St :=
  match ordF (atO xs (i - 1)) (xs.drop i.toNat) with
  | true => (.exit 0, stOf 58 [(0, .slice (some ⟨0, 0, some 0⟩) n 12), (2, vI 0)] [.rows own true 12 n (opRow xs)])
  | false => (.ret, stOf 58 [(0, .slice (some ⟨0, 0, some 0⟩) n 12), (2, vI 5)] [.rows own true 12 n (opRow xs)])
theorem ocL (own : Bool) (n : Nat) (xs : List O3) (i : Int) (hg : 1 ≤ i ∧ (n : Int) ≤ 4611686018427387904 ∧ xs.length = n) : LoopSem Try.prog 1 (ocX Try.prog) (ocH own n xs i) (ocO own n xs i).1 (ocO own n xs i).2 := by
  refine loop_rule (C := Cfn Try.prog) okfn (f := 21) (B := 1) (loopsOf_in (k := 7) ocX_eq) 40 [0, 2, 4] [0, 2] [.fix 0] [.fix 0] (fun g : ocG => ocH g.own g.n g.xs g.i) (fun g => (g.n - g.i).toNat) (fun g => 1 ≤ g.i ∧ (g.n : Int) ≤ 4611686018427387904 ∧ g.xs.length = g.n) (fun g => ocO g.own g.n g.xs g.i) ?_ ⟨own, n, xs, i⟩ hg
  clear hg
  rintro ⟨own, n, xs, i⟩ hg
  simp only at hg
  simp only [ocR]
  obtain ⟨h0, h1, h2⟩ := hg
  by_cases hi : i < (n : Int)
  · have hd : decide (i < (n : Int)) = true := by simpa using hi
    have hb : boundsI i n = true := by simp [boundsI, hi]; omega
    have hw1 : W (i - 1) = i - 1 := W_in (by omega)
    have hb1 : boundsI (i - 1) n = true := by simp [boundsI]; omega
    have hdx := drop_at (xs := xs) (i := i) (by omega) (by omega)
    have hw : W (i + 1) = i + 1 := W_in (by omega)
    rw [hw1, hd, hb, hb1, hw]
    simp only
    cases he : decide (lexI (atO xs (i - 1)).l (atO xs i).l ≥ 0) with
    | true =>
      right
      unfold ocO
      simp only [hdx, ordF, he]
      exact ⟨trivial, by simp⟩
    | false =>
      left
      refine ⟨⟨own, n, xs, i + 1⟩, rfl, ⟨by simp only; omega, h1, h2⟩, by simp only; omega, ?_⟩
      unfold ocO
      simp only [hdx, ordF, he, show i + 1 - 1 = i by omega]
  · have hd : decide (i < (n : Int)) = false := by simpa using hi
    rw [hd]
    right
    have hn : xs.drop i.toNat = [] := List.drop_eq_nil_of_le (by omega)
    unfold ocO
    simp only [hn, ordF]
    exact ⟨trivial, by simp⟩
def ocS (st : St) : Option (Ans (Exit × St)) :=
  match sized st 58 1, tAt st 0, tAt st 2, tAt st 4, st.mem with
  | true, some (.slice (some ⟨0, 0, some 0⟩) n 12), some (.int .i64 0), some (.int .i64 i), [.rows own true 12 n2 row] => some (.br (Nat.beq n n2 && (okOps n row && (decide (1 ≤ i) && (decide ((n : Int) ≤ 4611686018427387904))))) (.br (ordF (atO (opsOf n row) (i - 1)) ((opsOf n row).drop i.toNat))
      (.out (.exit 0, stOf 58 [(0, .slice (some ⟨0, 0, some 0⟩) n 12), (2, vI 0)] [.rows own true 12 n (opRow (opsOf n row))]))
      (.out (.ret, stOf 58 [(0, .slice (some ⟨0, 0, some 0⟩) n 12), (2, vI 5)] [.rows own true 12 n (opRow (opsOf n row))]))) .fail)
  | _, _, _, _, _ => none
theorem ocK {st : St} {ans : Ans (Exit × St)} {e_ : Exit} {s_ : St} (h : ocS st = some ans) (hr : ans.res = some (e_, s_)) : LoopSem Try.prog 1 (ocX Try.prog) st e_ s_ := by
  unfold ocS at h
  split at h
  · rename_i n i own n2 row hb hs0 hs1 hs2 hm
    simp only [Option.some.injEq] at h
    subst h
    rcases Ans.br_some hr with ⟨hc, hr1⟩ | ⟨_, hr1⟩
    · clear hr
      simp only [Bool.and_eq_true] at hc
      obtain ⟨ht0, ht1, ht2, ht3⟩ := hc
      have ht0 := beq_len ht0
      subst ht0
      have hinv : 1 ≤ i ∧ (n : Int) ≤ 4611686018427387904 ∧ (opsOf n row).length = n := by
        exact ⟨by simpa using ht2, by simpa using ht3, opsOf_length n row⟩
      have hk := stOf_keep hb [(0, .slice (some ⟨0, 0, some 0⟩) n 12), (2, vI 0), (4, vI i)] (by
        intro x hx
        simp only [List.mem_cons, List.not_mem_nil, or_false] at hx
        rcases hx with rfl | rfl | rfl
        · exact hs0
        · exact hs1
        · exact hs2) hm
      have key := ocL own n (opsOf n row) i hinv
      unfold ocH at key
      have key := LoopSem.like (m := [.rows own true 12 n row]) key ⟨.rows (ops_like ht1), trivial⟩
      have key : LoopSem Try.prog 1 (ocX Try.prog) (stOf 58 [(0, .slice (some ⟨0, 0, some 0⟩) n 12), (2, vI 0), (4, vI i)] [.rows own true 12 n row]) _ _ := key
      rw [← hk] at key
      have key := LoopSem.clean key
      unfold ocO at key
      rcases Ans.br_some hr1 with ⟨hq, hr1⟩ | ⟨hq, hr1⟩
      · simp only [hq] at key
        simp only [Ans.res, Option.some.injEq, Prod.mk.injEq] at hr1
        obtain ⟨rfl, rfl⟩ := hr1
        exact key
      · simp only [hq] at key
        simp only [Ans.res, Option.some.injEq, Prod.mk.injEq] at hr1
        obtain ⟨rfl, rfl⟩ := hr1
        exact key
    · simp [Ans.res] at hr1
  · cases h

def ciX (P : Program) : Code := (loopsOf P 21 17).headD .skip
theorem ciX_eq : loopsOf Try.prog 21 17 = [ciX Try.prog] := by kernel_rfl
def ciH (own : Bool) (n : Nat) (xs : List O3) (a : O3) (i : Int) (j : Int) : St := stOf 58 [(0, .slice (some ⟨0, 0, some 0⟩) n 12), (2, vI 0), (6, .pointer (some ⟨1, 0, none⟩)), (38, .slice (some ⟨0, 0, some 0⟩) n 12), (39, vI n), (40, vI i), (44, .slice (some ⟨0, 0, some 0⟩) n 12), (45, vI n), (46, vI j)] [.rows own true 12 n (opRow xs), .cells true 0 a.cells]
theorem ciR (own : Bool) (n : Nat) (xs : List O3) (a : O3) (i : Int) (j : Int) : roundR ((Cfn Try.prog).into 21 1) 40 (ciX Try.prog) [0, 2, 6, 38, 39, 40, 44, 45, 46] [0, 2, 38, 39, 40] [.fix 0, .fix 1] [.fix 0] (ciH own n xs a i j) =
    (match decide (j < (n : Int)) with
    | true => match boundsI j n with
      | true => match (Nat.beq n n && (okOps n (opRow xs) && decide (n ≤ 4611686018427387904))) with
        | true => match decide (placeI (opsOf n (opRow xs)) (a.mul5 (atO xs j)) < 0) with
          | true => some (.ret, stOf 58 [(0, .slice (some ⟨0, 0, some 0⟩) n 12), (2, vI 5), (38, .slice (some ⟨0, 0, some 0⟩) n 12), (39, vI n), (40, vI i)] [.rows own true 12 n (opRow (opsOf n (opRow xs)))])
          | false => some (.normal, ciH own n (opsOf n (opRow xs)) a i (W (j + 1)))
        | false => none
      | false => none
    | false => some (.exit 4, stOf 58 [(0, .slice (some ⟨0, 0, some 0⟩) n 12), (2, vI 0), (38, .slice (some ⟨0, 0, some 0⟩) n 12), (39, vI n), (40, vI i)] [.rows own true 12 n (opRow xs)])) := by kernel_rfl
structure ciG where
  (own : Bool) (n : Nat) (xs : List O3) (a : O3) (i : Int) (j : Int)
def ciO (own : Bool) (n : Nat) (xs : List O3) (a : O3) (i : Int) (j : Int) : Exit × St :=
  match inMul a xs (xs.drop j.toNat) with
  | true => (.exit 4, stOf 58 [(0, .slice (some ⟨0, 0, some 0⟩) n 12), (2, vI 0), (38, .slice (some ⟨0, 0, some 0⟩) n 12), (39, vI n), (40, vI i)] [.rows own true 12 n (opRow xs)])
  | false => (.ret, stOf 58 [(0, .slice (some ⟨0, 0, some 0⟩) n 12), (2, vI 5), (38, .slice (some ⟨0, 0, some 0⟩) n 12), (39, vI n), (40, vI i)] [.rows own true 12 n (opRow xs)])
theorem ciL (own : Bool) (n : Nat) (xs : List O3) (a : O3) (i : Int) (j : Int) (hg : 0 ≤ j ∧ (n : Int) ≤ 4611686018427387904 ∧ xs.length = n) : LoopSem Try.prog 1 (ciX Try.prog) (ciH own n xs a i j) (ciO own n xs a i j).1 (ciO own n xs a i j).2 := by
  refine loop_rule (C := Cfn Try.prog) okfn (f := 21) (B := 1) (loopsOf_in (k := 17) ciX_eq) 40 [0, 2, 6, 38, 39, 40, 44, 45, 46] [0, 2, 38, 39, 40] [.fix 0, .fix 1] [.fix 0] (fun g : ciG => ciH g.own g.n g.xs g.a g.i g.j) (fun g => (g.n - g.j).toNat) (fun g => 0 ≤ g.j ∧ (g.n : Int) ≤ 4611686018427387904 ∧ g.xs.length = g.n) (fun g => ciO g.own g.n g.xs g.a g.i g.j) ?_ ⟨own, n, xs, a, i, j⟩ hg
  clear hg
  rintro ⟨own, n, xs, a, i, j⟩ hg
  simp only at hg
  simp only [ciR]
  obtain ⟨h0, h1, h2⟩ := hg
  rw [opsOf_row h2]
  by_cases hi : j < (n : Int)
  · have hd : decide (j < (n : Int)) = true := by simpa using hi
    have hb : boundsI j n = true := by simp [boundsI, h0, hi]
    have ht : (Nat.beq n n && (okOps n (opRow xs) && decide (n ≤ 4611686018427387904))) = true := by rw [Nat.beq_refl, okOps_opRow]; simp; omega
    have hdx := drop_at (xs := xs) h0 (by omega)
    have hw : W (j + 1) = j + 1 := W_in (by omega)
    rw [hd, hb, ht, hw]
    simp only
    cases he : decide (placeI xs (a.mul5 (atO xs j)) < 0) with
    | true =>
      right
      unfold ciO
      simp only [hdx, inMul, he]
      exact ⟨trivial, by simp⟩
    | false =>
      left
      refine ⟨⟨own, n, xs, a, i, j + 1⟩, rfl, ⟨by simp only; omega, h1, h2⟩, by simp only; omega, ?_⟩
      unfold ciO
      simp only [hdx, inMul, he]
  · have hd : decide (j < (n : Int)) = false := by simpa using hi
    rw [hd]
    right
    have hn : xs.drop j.toNat = [] := List.drop_eq_nil_of_le (by omega)
    unfold ciO
    simp only [hn, inMul]
    exact ⟨trivial, by simp⟩
def ciS (st : St) : Option (Ans (Exit × St)) :=
  match sized st 58 2, tAt st 0, tAt st 2, tAt st 6, tAt st 38, tAt st 39, tAt st 40, tAt st 44, tAt st 45, tAt st 46, st.mem with
  | true, some (.slice (some ⟨0, 0, some 0⟩) n 12), some (.int .i64 0), some (.pointer (some ⟨1, 0, none⟩)), some (.slice (some ⟨0, 0, some 0⟩) n3 12), some (.int .i64 l1), some (.int .i64 i), some (.slice (some ⟨0, 0, some 0⟩) n4 12), some (.int .i64 l2), some (.int .i64 j), [.rows own true 12 n2 row, .cells true 0 co] => some (.br (Nat.beq n n2 && (okOps n row && (Nat.beq n n3 && (Nat.beq n n4 && (decide ((n : Int) = l1) && (decide ((n : Int) = l2) && (decide (0 ≤ j) && (decide ((n : Int) ≤ 4611686018427387904) && (isO co))))))))) (.br (inMul (decO co) (opsOf n row) ((opsOf n row).drop j.toNat))
      (.out (.exit 4, stOf 58 [(0, .slice (some ⟨0, 0, some 0⟩) n 12), (2, vI 0), (38, .slice (some ⟨0, 0, some 0⟩) n 12), (39, vI n), (40, vI i)] [.rows own true 12 n (opRow (opsOf n row))]))
      (.out (.ret, stOf 58 [(0, .slice (some ⟨0, 0, some 0⟩) n 12), (2, vI 5), (38, .slice (some ⟨0, 0, some 0⟩) n 12), (39, vI n), (40, vI i)] [.rows own true 12 n (opRow (opsOf n row))]))) .fail)
  | _, _, _, _, _, _, _, _, _, _, _ => none
theorem ciK {st : St} {ans : Ans (Exit × St)} {e_ : Exit} {s_ : St} (h : ciS st = some ans) (hr : ans.res = some (e_, s_)) : LoopSem Try.prog 1 (ciX Try.prog) st e_ s_ := by
  unfold ciS at h
  split at h
  · rename_i n n3 l1 i n4 l2 j own n2 row co hb hs0 hs1 hs2 hs3 hs4 hs5 hs6 hs7 hs8 hm
    simp only [Option.some.injEq] at h
    subst h
    rcases Ans.br_some hr with ⟨hc, hr1⟩ | ⟨_, hr1⟩
    · clear hr
      simp only [Bool.and_eq_true] at hc
      obtain ⟨ht0, ht1, ht2, ht3, ht4, ht5, ht6, ht7, ht8⟩ := hc
      have ht0 := beq_len ht0
      have ht2 := beq_len ht2
      have ht3 := beq_len ht3
      have ht4 : (n : Int) = l1 := by simpa using ht4
      have ht5 : (n : Int) = l2 := by simpa using ht5
      subst ht0 ht2 ht3 ht4 ht5
      have hinv : 0 ≤ j ∧ (n : Int) ≤ 4611686018427387904 ∧ (opsOf n row).length = n := by
        exact ⟨by simpa using ht6, by simpa using ht7, opsOf_length n row⟩
      have hk := stOf_keep hb [(0, .slice (some ⟨0, 0, some 0⟩) n 12), (2, vI 0), (6, .pointer (some ⟨1, 0, none⟩)), (38, .slice (some ⟨0, 0, some 0⟩) n 12), (39, vI n), (40, vI i), (44, .slice (some ⟨0, 0, some 0⟩) n 12), (45, vI n), (46, vI j)] (by
        intro x hx
        simp only [List.mem_cons, List.not_mem_nil, or_false] at hx
        rcases hx with rfl | rfl | rfl | rfl | rfl | rfl | rfl | rfl | rfl
        · exact hs0
        · exact hs1
        · exact hs2
        · exact hs3
        · exact hs4
        · exact hs5
        · exact hs6
        · exact hs7
        · exact hs8) hm
      have key := ciL own n (opsOf n row) (decO co) i j hinv
      unfold ciH at key
      have key := LoopSem.like (m := [.rows own true 12 n row, .cells true 0 co]) key ⟨.rows (ops_like ht1), like_dec ht8, trivial⟩
      have key : LoopSem Try.prog 1 (ciX Try.prog) (stOf 58 [(0, .slice (some ⟨0, 0, some 0⟩) n 12), (2, vI 0), (6, .pointer (some ⟨1, 0, none⟩)), (38, .slice (some ⟨0, 0, some 0⟩) n 12), (39, vI n), (40, vI i), (44, .slice (some ⟨0, 0, some 0⟩) n 12), (45, vI n), (46, vI j)] [.rows own true 12 n row, .cells true 0 co]) _ _ := key
      rw [← hk] at key
      have key := LoopSem.clean key
      unfold ciO at key
      rcases Ans.br_some hr1 with ⟨hq, hr1⟩ | ⟨hq, hr1⟩
      · simp only [hq] at key
        simp only [Ans.res, Option.some.injEq, Prod.mk.injEq] at hr1
        obtain ⟨rfl, rfl⟩ := hr1
        exact key
      · simp only [hq] at key
        simp only [Ans.res, Option.some.injEq, Prod.mk.injEq] at hr1
        obtain ⟨rfl, rfl⟩ := hr1
        exact key
    · simp [Ans.res] at hr1
  · cases h

def Cci (P : Program) : Cx := ((Cfn P).addLB 21 7 1 ocS).addLB 21 17 1 ciS
theorem okci : CxOk (Cci Try.prog) := Cx.addLB_ok (Cx.addLB_ok okfn ocX_eq fun _ _ _ _ h hr => ocK h hr) ciX_eq fun _ _ _ _ h hr => ciK h hr
def ciT (n : Nat) (row : Nat → List Value) (co : List Value) : Bool := Nat.beq n n && (okOps n row && (Nat.beq n n && (Nat.beq n n && (decide ((n : Int) = (n : Int)) && (decide ((n : Int) = (n : Int)) && (decide ((0 : Int) ≤ 0) && (decide ((n : Int) ≤ 4611686018427387904) && isO co)))))))

def cuX (P : Program) : Code := (loopsOf P 21 14).headD .skip
theorem cuX_eq : loopsOf Try.prog 21 14 = [cuX Try.prog] := by kernel_rfl
def cuH (own : Bool) (n : Nat) (xs : List O3) (i : Int) : St := stOf 58 [(0, .slice (some ⟨0, 0, some 0⟩) n 12), (2, vI 0), (38, .slice (some ⟨0, 0, some 0⟩) n 12), (39, vI n), (40, vI i)] [.rows own true 12 n (opRow xs)]
theorem cuR (own : Bool) (n : Nat) (xs : List O3) (i : Int) : roundR ((Cci Try.prog).into 21 1) 40 (cuX Try.prog) [0, 2, 38, 39, 40] [0, 2] [.fix 0] [.fix 0] (cuH own n xs i) =
    (match decide (i < (n : Int)) with
    | true => match boundsI i n with
      | true => match ciT n (opRow xs) (atO xs i).cells with
        | true => match inMul (decO (atO xs i).cells) (opsOf n (opRow xs)) ((opsOf n (opRow xs)).drop (0 : Int).toNat) with
          | true => some (.normal, cuH own n (opsOf n (opRow xs)) (W (i + 1)))
          | false => some (.ret, stOf 58 [(0, .slice (some ⟨0, 0, some 0⟩) n 12), (2, vI 5)] [.rows own true 12 n (opRow (opsOf n (opRow xs)))])
        | false => none
      | false => none
    | false => some (.exit 2, stOf 58 [(0, .slice (some ⟨0, 0, some 0⟩) n 12), (2, vI 0)] [.rows own true 12 n (opRow xs)])) := by kernel_rfl
structure cuG where
  (own : Bool) (n : Nat) (xs : List O3) (i : Int)
def cuO (own : Bool) (n : Nat) (xs : List O3) (i : Int) : Exit × St :=
  match inAll xs (xs.drop i.toNat) with
  | true => (.exit 2, stOf 58 [(0, .slice (some ⟨0, 0, some 0⟩) n 12), (2, vI 0)] [.rows own true 12 n (opRow xs)])
  | false => (.ret, stOf 58 [(0, .slice (some ⟨0, 0, some 0⟩) n 12), (2, vI 5)] [.rows own true 12 n (opRow xs)])
theorem cuL (own : Bool) (n : Nat) (xs : List O3) (i : Int) (hg : 0 ≤ i ∧ (n : Int) ≤ 4611686018427387904 ∧ xs.length = n) : LoopSem Try.prog 1 (cuX Try.prog) (cuH own n xs i) (cuO own n xs i).1 (cuO own n xs i).2 := by
  refine loop_rule (C := Cci Try.prog) okci (f := 21) (B := 1) (loopsOf_in (k := 14) cuX_eq) 40 [0, 2, 38, 39, 40] [0, 2] [.fix 0] [.fix 0] (fun g : cuG => cuH g.own g.n g.xs g.i) (fun g => (g.n - g.i).toNat) (fun g => 0 ≤ g.i ∧ (g.n : Int) ≤ 4611686018427387904 ∧ g.xs.length = g.n) (fun g => cuO g.own g.n g.xs g.i) ?_ ⟨own, n, xs, i⟩ hg
  clear hg
  rintro ⟨own, n, xs, i⟩ hg
  simp only at hg
  simp only [cuR]
  obtain ⟨h0, h1, h2⟩ := hg
  rw [opsOf_row h2, decO_cells]
  by_cases hi : i < (n : Int)
  · have hd : decide (i < (n : Int)) = true := by simpa using hi
    have hb : boundsI i n = true := by simp [boundsI, h0, hi]
    have ht : ciT n (opRow xs) (atO xs i).cells = true := by unfold ciT; rw [Nat.beq_refl, okOps_opRow, isO_cells]; simp; omega
    have hdx := drop_at (xs := xs) h0 (by omega)
    have hw : W (i + 1) = i + 1 := W_in (by omega)
    rw [hd, hb, ht, hw]
    simp only [Int.toNat_zero, List.drop_zero]
    cases he : inMul (atO xs i) xs xs with
    | true =>
      left
      refine ⟨⟨own, n, xs, i + 1⟩, rfl, ⟨by simp only; omega, h1, h2⟩, by simp only; omega, ?_⟩
      unfold cuO
      simp only [hdx, inAll, he]
    | false =>
      right
      unfold cuO
      simp only [hdx, inAll, he]
      exact ⟨trivial, by simp⟩
  · have hd : decide (i < (n : Int)) = false := by simpa using hi
    rw [hd]
    right
    have hn : xs.drop i.toNat = [] := List.drop_eq_nil_of_le (by omega)
    unfold cuO
    simp only [hn, inAll]
    exact ⟨trivial, by simp⟩
def cuS (st : St) : Option (Ans (Exit × St)) :=
  match sized st 58 1, tAt st 0, tAt st 2, tAt st 38, tAt st 39, tAt st 40, st.mem with
  | true, some (.slice (some ⟨0, 0, some 0⟩) n 12), some (.int .i64 0), some (.slice (some ⟨0, 0, some 0⟩) n3 12), some (.int .i64 l1), some (.int .i64 i), [.rows own true 12 n2 row] => some (.br (Nat.beq n n2 && (okOps n row && (Nat.beq n n3 && (decide ((n : Int) = l1) && (decide (0 ≤ i) && (decide ((n : Int) ≤ 4611686018427387904))))))) (.br (inAll (opsOf n row) ((opsOf n row).drop i.toNat))
      (.out (.exit 2, stOf 58 [(0, .slice (some ⟨0, 0, some 0⟩) n 12), (2, vI 0)] [.rows own true 12 n (opRow (opsOf n row))]))
      (.out (.ret, stOf 58 [(0, .slice (some ⟨0, 0, some 0⟩) n 12), (2, vI 5)] [.rows own true 12 n (opRow (opsOf n row))]))) .fail)
  | _, _, _, _, _, _, _ => none
theorem cuK {st : St} {ans : Ans (Exit × St)} {e_ : Exit} {s_ : St} (h : cuS st = some ans) (hr : ans.res = some (e_, s_)) : LoopSem Try.prog 1 (cuX Try.prog) st e_ s_ := by
  unfold cuS at h
  split at h
  · rename_i n n3 l1 i own n2 row hb hs0 hs1 hs2 hs3 hs4 hm
    simp only [Option.some.injEq] at h
    subst h
    rcases Ans.br_some hr with ⟨hc, hr1⟩ | ⟨_, hr1⟩
    · clear hr
      simp only [Bool.and_eq_true] at hc
      obtain ⟨ht0, ht1, ht2, ht3, ht4, ht5⟩ := hc
      have ht0 := beq_len ht0
      have ht2 := beq_len ht2
      have ht3 : (n : Int) = l1 := by simpa using ht3
      subst ht0 ht2 ht3
      have hinv : 0 ≤ i ∧ (n : Int) ≤ 4611686018427387904 ∧ (opsOf n row).length = n := by
        exact ⟨by simpa using ht4, by simpa using ht5, opsOf_length n row⟩
      have hk := stOf_keep hb [(0, .slice (some ⟨0, 0, some 0⟩) n 12), (2, vI 0), (38, .slice (some ⟨0, 0, some 0⟩) n 12), (39, vI n), (40, vI i)] (by
        intro x hx
        simp only [List.mem_cons, List.not_mem_nil, or_false] at hx
        rcases hx with rfl | rfl | rfl | rfl | rfl
        · exact hs0
        · exact hs1
        · exact hs2
        · exact hs3
        · exact hs4) hm
      have key := cuL own n (opsOf n row) i hinv
      unfold cuH at key
      have key := LoopSem.like (m := [.rows own true 12 n row]) key ⟨.rows (ops_like ht1), trivial⟩
      have key : LoopSem Try.prog 1 (cuX Try.prog) (stOf 58 [(0, .slice (some ⟨0, 0, some 0⟩) n 12), (2, vI 0), (38, .slice (some ⟨0, 0, some 0⟩) n 12), (39, vI n), (40, vI i)] [.rows own true 12 n row]) _ _ := key
      rw [← hk] at key
      have key := LoopSem.clean key
      unfold cuO at key
      rcases Ans.br_some hr1 with ⟨hq, hr1⟩ | ⟨hq, hr1⟩
      · simp only [hq] at key
        simp only [Ans.res, Option.some.injEq, Prod.mk.injEq] at hr1
        obtain ⟨rfl, rfl⟩ := hr1
        exact key
      · simp only [hq] at key
        simp only [Ans.res, Option.some.injEq, Prod.mk.injEq] at hr1
        obtain ⟨rfl, rfl⟩ := hr1
        exact key
    · simp [Ans.res] at hr1
  · cases h
def Ccu (P : Program) : Cx := (Cci P).addLB 21 14 1 cuS
theorem okcu : CxOk (Ccu Try.prog) := Cx.addLB_ok okci cuX_eq fun _ _ _ _ h hr => cuK h hr
end Go.Proofs.Ytggdbakgiknogaa


namespace Go.Proofs.Ytggdbakgiknogaa
open Go Vx
def r1 (own : Bool) (N : Nat) (X : List O3) (e : Int) : Option (Value × Mem) := some (vI e, [.rows own true 12 N (opRow X)])
def ocT (n : Nat) (row : Nat → List Value) : Bool := Nat.beq n n && (okOps n row && (decide ((1 : Int) ≤ 1) && decide ((n : Int) ≤ 4611686018427387904)))
def cuT (n : Nat) (row : Nat → List Value) : Bool := Nat.beq n n && (okOps n row && (Nat.beq n n && (decide ((n : Int) = (n : Int)) && (decide ((0 : Int) ≤ 0) && decide ((n : Int) ≤ 4611686018427387904)))))
def pT (n : Nat) (row : Nat → List Value) : Bool := Nat.beq n n && (okOps n row && decide (n ≤ 4611686018427387904))
def dckEnd (own : Bool) (N : Nat) (X : List O3) : Option (Value × Mem) := gd (cuT N (opRow X)) (match inAll (opsOf N (opRow X)) ((opsOf N (opRow X)).drop (0 : Int).toNat) with
  | true => r1 own N (opsOf N (opRow X)) 0
  | false => r1 own N (opsOf N (opRow X)) 5)
def dckMid (own : Bool) (N : Nat) (X : List O3) : Option (Value × Mem) := gd (pT N (opRow X)) (match decide (placeI (opsOf N (opRow X)) O3.one < 0) with
  | true => r1 own N (opsOf N (opRow X)) 5
  | false => dckEnd own N (opsOf N (opRow X)))
def dckOrd (own : Bool) (N : Nat) (X : List O3) : Option (Value × Mem) := gd (ocT N (opRow X)) (match ordF (atO (opsOf N (opRow X)) (1 - 1)) ((opsOf N (opRow X)).drop (1 : Int).toNat) with
  | true => dckMid own N (opsOf N (opRow X))
  | false => r1 own N (opsOf N (opRow X)) 5)
theorem dckE0 : exT ((Ccu Try.prog).at 21) 60 Try.f21 [.slice none 0 0] [] [] = some (vI 5, []) := by kernel_rfl
theorem dckE1 (own : Bool) (N : Nat) (ls : List O3) : exT ((Ccu Try.prog).at 21) 60 Try.f21 [.slice (some ⟨0, 0, some 0⟩) N 12] [.rows own true 12 N (opRow ls)] [.fix 0] =
    (match decide ((N : Int) > 192) with
    | true => r1 own N ls 2
    | false => gd (pT N (opRow ls)) (match leastL (opsOf N (opRow ls)) 0 != 0 with
      | true => r1 own N (opsOf N (opRow ls)) (leastL (opsOf N (opRow ls)) 0)
      | false => dckOrd own N (opsOf N (opRow ls)))) := by kernel_rfl
/-- What the document's Check answers. -/
def dckI (X : List O3) : Int := match decide ((X.length : Int) > 192) with
  | true => 2
  | false => match leastL X 0 != 0 with
    | true => leastL X 0
    | false => match ordF (atO X 0) (X.drop 1) with
      | true => match decide (placeI X O3.one < 0) with
        | true => 5
        | false => match inAll X X with
          | true => 0
          | false => 5
      | false => 5
theorem dckE (own : Bool) (N : Nat) (ls : List O3) (hl : ls.length = N) (hN : N ≤ 4611686018427387904) : exT ((Ccu Try.prog).at 21) 60 Try.f21 [.slice (some ⟨0, 0, some 0⟩) N 12] [.rows own true 12 N (opRow ls)] [.fix 0] = some (vI (dckI ls), [.rows own true 12 N (opRow ls)]) := by
  have t1 : pT N (opRow ls) = true := by unfold pT; rw [Nat.beq_refl, okOps_opRow]; simp; omega
  have t2 : ocT N (opRow ls) = true := by unfold ocT; rw [Nat.beq_refl, okOps_opRow]; simp; omega
  have t3 : cuT N (opRow ls) = true := by unfold cuT; rw [Nat.beq_refl, okOps_opRow]; simp; omega
  rw [dckE1]
  unfold dckOrd dckMid dckEnd dckI r1
  simp only [opsOf_row hl, t1, t2, t3, gd_true, Int.toNat_zero, List.drop_zero, hl, show ((1 : Int) - 1) = 0 from rfl, show (1 : Int).toNat = 1 from rfl]
  cases decide ((N : Int) > 192) with
  | true => rfl
  | false =>
    simp only
    cases leastL ls 0 != 0 with
    | true => rfl
    | false =>
      simp only
      cases ordF (atO ls 0) (ls.drop 1) with
      | false => rfl
      | true =>
        simp only
        cases decide (placeI ls O3.one < 0) with
        | true => rfl
        | false =>
          simp only
          cases inAll ls ls <;> rfl
/-! Both are one -/
theorem ordF_sorted : ∀ (l : List O3) (p : O3), ordF p l = true ↔ (p :: l).Pairwise fun a b => lexI a.l b.l < 0
  | [], p => by simp [ordF]
  | x :: l, p => by
    simp only [ordF]
    by_cases h : lexI p.l x.l ≥ 0
    · rw [decide_eq_true h]
      constructor
      · intro hf; cases hf
      · intro hp
        rw [List.pairwise_cons] at hp
        have := hp.1 x (by simp)
        omega
    · rw [decide_eq_false h]
      simp only
      rw [ordF_sorted l x]
      constructor
      · intro hp
        rw [List.pairwise_cons]
        refine ⟨fun y hy => ?_, hp⟩
        rcases List.mem_cons.1 hy with rfl | hy
        · omega
        · have h1 := (List.pairwise_cons.1 hp).1 y hy
          have h2 := lexI_trans (l := p.l) (m := x.l) (n := y.l) rfl rfl (by omega) (by omega)
          by_cases h0 : lexI p.l y.l = 0
          · have e := (lexI_zero (l := p.l) (m := y.l) rfl).1 h0
            rw [e, lexI_neg x.l y.l] at h
            omega
          · omega
      · intro hp
        exact (List.pairwise_cons.1 hp).2
theorem placeI_lt {xs : List O3} {o : O3} : decide (placeI xs o < 0) = !decide (o ∈ xs) := by
  have h := placeI_mem (xs := xs) (o := o)
  rw [← h]
  by_cases h1 : placeI xs o < 0
  · rw [decide_eq_true h1, decide_eq_false (by omega)]; rfl
  · rw [decide_eq_false h1, decide_eq_true (by omega)]; rfl
theorem inMul_iff {X : List O3} {a : O3} (ha : a.ck = 0) : ∀ (l : List O3), (∀ b ∈ l, b.ck = 0) → (inMul a X l = true ↔ ∀ b ∈ l, a.mul b ∈ X)
  | [], _ => by simp [inMul]
  | b :: l, h => by
    have hb := h b (by simp)
    simp only [inMul]
    rw [O3.mul5_eq ha hb, placeI_lt]
    by_cases hm : a.mul b ∈ X
    · simp only [decide_eq_true hm, Bool.not_true]
      rw [inMul_iff ha l fun x hx => h x (by simp [hx])]
      simp [hm]
    · simp only [decide_eq_false hm, Bool.not_false]
      constructor
      · intro hf; cases hf
      · intro hf; exact absurd (hf b (by simp)) hm
theorem inAll_iff {X : List O3} (hX : ∀ b ∈ X, b.ck = 0) : ∀ (l : List O3), (∀ b ∈ l, b.ck = 0) → (inAll X l = true ↔ ∀ a ∈ l, ∀ b ∈ X, a.mul b ∈ X)
  | [], _ => by simp [inAll]
  | a :: l, h => by
    have ha := h a (by simp)
    simp only [inAll]
    cases hm : inMul a X X with
    | true =>
      have h1 := (inMul_iff ha X hX).1 hm
      simp only
      rw [inAll_iff hX l fun x hx => h x (by simp [hx])]
      constructor
      · intro hf x hx
        rcases List.mem_cons.1 hx with rfl | hx
        · exact h1
        · exact hf x hx
      · intro hf x hx; exact hf x (by simp [hx])
    | false =>
      simp only
      constructor
      · intro hf; cases hf
      · intro hf
        have := (inMul_iff ha X hX).2 (hf a (by simp))
        rw [hm] at this; cases this
def StrictO (l : List O3) : Prop := l.Pairwise fun a b => lexI a.l b.l < 0
theorem strict_nodup {l : List O3} (h : StrictO l) : l.Nodup := h.imp fun {a b} hab e => by
  subst e
  have := (lexI_zero (l := a.l) (m := a.l) rfl).2 rfl
  omega
theorem strict_sorted {l : List O3} (h : StrictO l) : SortedO l := h.imp fun hab => by omega
theorem sorted_strict {l : List O3} (h : SortedO l) (hn : l.Nodup) : StrictO l := by
  unfold SortedO at h
  unfold StrictO
  unfold List.Nodup at hn
  refine (h.and hn).imp fun {a b} hab => ?_
  have := hab.1
  by_cases h0 : lexI a.l b.l = 0
  · exact absurd (O3.l_inj ((lexI_zero (l := a.l) (m := b.l) rfl).1 h0)) hab.2
  · omega
theorem smeL_iff : ∀ {l m : List O3}, l.length = m.length → (smeL l m = true ↔ l = m)
  | [], [], _ => by simp [smeL]
  | x :: l, y :: m, h => by
    simp only [smeL]
    have hl : l.length = m.length := by simpa using h
    cases he : x.eqB y with
    | true =>
      simp only [Bool.not_true]
      rw [smeL_iff hl, O3.eqB_iff.1 he]
      simp
    | false =>
      simp only [Bool.not_false]
      have := O3.eqB_false.1 he
      simp [this]
theorem sameB_iff {l m : List O3} : sameB l m = true ↔ l = m := by
  unfold sameB
  rw [Bool.and_eq_true, beq_iff_eq]
  constructor
  · rintro ⟨h1, h2⟩
    exact (smeL_iff (by omega)).1 h2
  · rintro rfl; exact ⟨rfl, smeL_refl l⟩
theorem grp_self {X : List O3} (hn : X.Nodup) (hl : X.length ≤ 192) (hck : ∀ o ∈ X, o.ck = 0) (h1 : O3.one ∈ X) (hm : ∀ a ∈ X, ∀ b ∈ X, a.mul b ∈ X) : IsGrp X X := by
  refine ⟨hn, hl, fun g => ⟨fun h => Gen.of (all_inv hck) h, fun h => ?_⟩, hck⟩
  induction h with
  | one => exact h1
  | step _ hx ih => exact hm _ ih _ hx
theorem dck_chk (X : List O3) : dckI X = chkI X := by
  unfold dckI
  by_cases h : (X.length : Int) > 192
  · have hc : ckMaps X = 2 := by unfold ckMaps; rw [if_pos h]
    have h1 : clsOk X = false := by unfold clsOk; rw [hc]; rfl
    unfold chkI clsErr
    rw [decide_eq_true h, h1, hc]; rfl
  · have hc : ckMaps X = leastL X 0 := by unfold ckMaps; rw [if_neg h]
    rw [decide_eq_false h]
    simp only
    by_cases h0 : leastL X 0 = 0
    · have hck := (leastL_zero h0).2
      rw [h0]
      simp only [bne_self_eq_false]
      have hk0 : ckMaps X = 0 := by rw [hc, h0]
      -- a group in order?
      have key : chkI X = 0 ↔ (ordF (atO X 0) (X.drop 1) = true ∧ O3.one ∈ X ∧ inAll X X = true) := by
        have hord : ordF (atO X 0) (X.drop 1) = true ↔ StrictO X := by
          cases X with
          | nil => simp [ordF, StrictO]
          | cons x l =>
            rw [ordF_sorted]
            rfl
        rw [hord, inAll_iff hck X hck]
        constructor
        · intro h
          unfold chkI at h
          cases hq : clsOk X with
          | false => rw [hq] at h; exact absurd h (clsErr_ne X)
          | true =>
            rw [hq] at h
            simp only at h
            cases hs : sameB (clsG X) X with
            | false => rw [hs] at h; cases h
            | true =>
              have e := sameB_iff.1 hs
              obtain ⟨_, _, hg⟩ := clsOk_spec hq
              have hperm : X.Perm (clG0 X [O3.one] es1).1 := by
                have := sortO_perm (clG0 X [O3.one] es1).1
                rw [show sortO (clG0 X [O3.one] es1).1 = clsG X from rfl, e] at this
                exact this
              have hgr := hg.grp (all_inv hck)
              have hsor : SortedO X := by rw [← e]; exact sortO_sorted _
              refine ⟨sorted_strict hsor (hperm.nodup_iff.2 hg.1), hperm.mem_iff.2 hgr.one, fun a ha b hb => hperm.mem_iff.2 (hgr.mul a (hperm.mem_iff.1 ha) b (hperm.mem_iff.1 hb))⟩
        · rintro ⟨h1, h2, h3⟩
          have hg := grp_self (strict_nodup h1) (by omega) hck h2 h3
          have hq : clsOk X = true := by
            unfold clsOk
            rw [hk0]
            rcases clR_spec hck with ⟨r, k1, _⟩ | ⟨_, k2⟩
            · rw [k1]; rfl
            · exact absurd k2 hg.not_bad
          obtain ⟨_, _, hg2⟩ := clsOk_spec hq
          have e : clsG X = X := sorted_one (sortO_sorted _) (strict_sorted h1) ((sortO_perm _).trans (hg2.perm hg))
          unfold chkI
          rw [hq]
          simp only
          rw [e, sameB_refl]; rfl
      have five : chkI X = 0 ∨ chkI X = 5 := by
        unfold chkI clsErr
        rw [hk0]
        cases clsOk X with
        | false => right; rfl
        | true =>
          simp only
          cases sameB (clsG X) X with
          | true => left; rfl
          | false => right; rfl
      rw [placeI_lt]
      cases ho : ordF (atO X 0) (X.drop 1) with
      | false =>
        rcases five with e | e
        · rw [ho] at key; have := (key.1 e).1; cases this
        · rw [e]
      | true =>
        simp only
        by_cases h1 : O3.one ∈ X
        · rw [decide_eq_true h1]
          simp only [Bool.not_true]
          cases hi : inAll X X with
          | true => rw [key.2 ⟨ho, h1, hi⟩]
          | false =>
            rcases five with e | e
            · rw [hi] at key; have := (key.1 e).2.2; cases this
            · rw [e]
        · rw [decide_eq_false h1]
          simp only [Bool.not_false]
          rcases five with e | e
          · exact absurd (key.1 e).2.1 h1
          · rw [e]
    · have h1 : clsOk X = false := by unfold clsOk; rw [hc, (bif_beq h0).1]; rfl
      rw [(bif_beq h0).2]
      unfold chkI clsErr
      rw [h1, hc, (bif_beq h0).1]; rfl
def dckF : List Value → Mem → Option (Ans (Value × Mem))
  | [.slice none 0 0], [] => some (.out (vI 5, []))
  | [.slice (some ⟨0, 0, some 0⟩) N 12], [.rows own true 12 N2 row] => some (.br (Nat.beq N N2 && (okOps N row && decide (N ≤ 4611686018427387904))) (.out (vI (chkI (opsOf N row)), [.rows own true 12 N (opRow (opsOf N row))])) .fail)
  | _, _ => none
def Cdk (P : Program) : Cx := (Ccu P).addF 21 dckF
theorem okdk : CxOk (Cdk Try.prog) := Cx.addF_ok okcu fun args m ans v m' h hr => by
  unfold dckF at h
  split at h
  · simp only [Option.some.injEq] at h
    subst h
    simp only [Ans.res, Option.some.injEq, Prod.mk.injEq] at hr
    obtain ⟨rfl, rfl⟩ := hr
    exact exT_ok okcu Try.func21 (by kernel_rfl) dckE0
  · rename_i N own N2 row
    simp only [Option.some.injEq] at h
    subst h
    rcases Ans.br_some hr with ⟨hc, hr1⟩ | ⟨_, hr1⟩
    rotate_left
    · simp [Ans.res] at hr1
    clear hr
    simp only [Bool.and_eq_true, decide_eq_true_eq] at hc
    obtain ⟨c1, c2, c3⟩ := hc
    have c1 := beq_len c1
    subst c1
    simp only [Ans.res, Option.some.injEq, Prod.mk.injEq] at hr1
    obtain ⟨rfl, rfl⟩ := hr1
    rw [← dck_chk]
    exact (exT_ok okcu Try.func21 (by kernel_rfl) (dckE own N (opsOf N row) (opsOf_length N row) c3)).like ⟨.rows (ops_like c2), trivial⟩
  · cases h
end Go.Proofs.Ytggdbakgiknogaa


namespace Go.Proofs.Ytggdbakgiknogaa.Vx
open Go
/-- The cells of a list's maps. -/
def mtRow (l : List M3) : Nat → List Value := fun i => ((l[i]?).getD M3.zero).cells
def decM (l : List Value) : M3 := match matCells l with
  | some o => o
  | none => M3.zero
def isM (l : List Value) : Bool := match matCells l with
  | some _ => true
  | none => false
def okMts (n : Nat) (row : Nat → List Value) : Bool := (List.range n).all fun i => isM (row i)
def mtsOf (n : Nat) (row : Nat → List Value) : List M3 := (List.range n).map fun i => decM (row i)
theorem matCells_cells (o : M3) : matCells o.cells = some o := rfl
theorem isM_cells (o : M3) : isM o.cells = true := rfl
theorem decM_cells (o : M3) : decM o.cells = o := rfl
theorem okMts_mtRow (xs : List M3) (n : Nat) : okMts n (mtRow xs) = true := List.all_eq_true.2 fun _ _ => isM_cells _
theorem mtsOf_mtRow (xs : List M3) : mtsOf xs.length (mtRow xs) = xs := by
  apply List.ext_getElem?
  intro i
  unfold mtsOf mtRow
  rw [List.getElem?_map]
  by_cases hi : i < xs.length
  · rw [List.getElem?_range hi, List.getElem?_eq_getElem hi]
    simp [decM_cells, List.getElem?_eq_getElem hi]
  · rw [List.getElem?_eq_none (by simp; omega), List.getElem?_eq_none (by omega)]; rfl
theorem mtsOf_length (n : Nat) (row : Nat → List Value) : (mtsOf n row).length = n := by simp [mtsOf]
theorem mts_like {n : Nat} {row : Nat → List Value} (h : okMts n row = true) : rowsLike n row (mtRow (mtsOf n row)) := by
  intro i hi
  have := List.all_eq_true.1 h i (List.mem_range.2 hi)
  unfold isM at this
  split at this
  · rename_i o ho
    unfold mtRow mtsOf
    rw [List.getElem?_map, List.getElem?_range hi]
    simp only [Option.map_some, Option.getD_some, decM, ho]
    exact matCells_spec ho
  · cases this
theorem like_mts {own : Bool} {n : Nat} {row : Nat → List Value} (h : okMts n row = true) : Like (.rows own true 9 n row) (.rows own true 9 (mtsOf n row).length (mtRow (mtsOf n row))) := by
  rw [mtsOf_length]; exact .rows (mts_like h)
/-- One map behind others. -/
theorem catR_mts (xs : List M3) (o : M3) (i : Nat) (hi : i < xs.length + 1) : catR xs.length (mtRow xs) (chop 9 0 o.cells) i = mtRow (xs ++ [o]) i := by
  unfold catR mtRow
  by_cases h : i < xs.length
  · rw [show Nat.blt i xs.length = true by simpa [Nat.blt_eq] using h, List.getElem?_append_left h]
  · have : i = xs.length := by omega
    subst this
    rw [blt_ff (Nat.lt_irrefl _)]
    simp only [Nat.sub_self]
    rw [List.getElem?_append_right (Nat.le_refl _)]
    simp only [Nat.sub_self, List.getElem?_cons_zero, Option.getD_some]
    rfl
theorem like_ngmts {pl : Bool} {n : Nat} {xs : List M3} (hx : xs.length = n) (o : M3) : Like (.grow pl 9 (n + 1) (catR n (mtRow xs) (chop 9 0 o.cells))) (.grow pl 9 (n + 1) (mtRow (xs ++ [o]))) := by
  subst hx
  exact .grow fun i hi => catR_mts xs o i hi
theorem like_nrmts {own pl : Bool} {n : Nat} {xs : List M3} (hx : xs.length = n) (o : M3) : Like (.rows own pl 9 (n + 1) (catR n (mtRow xs) (chop 9 0 o.cells))) (.rows own pl 9 (n + 1) (mtRow (xs ++ [o]))) := by
  subst hx
  exact .rows fun i hi => catR_mts xs o i hi
theorem like_chopmts {own pl : Bool} (o : M3) : Like (.rows own pl 9 1 (chop 9 0 o.cells)) (.rows own pl 9 1 (mtRow [o])) := .rows fun i hi => by
  have : i = 0 := by omega
  subst this
  rfl
theorem like_onemts {own pl : Bool} (xs : List M3) (o : M3) : Like (.rows own pl 9 (xs.length + 1) (catR xs.length (mtRow xs) (chop 9 0 o.cells))) (.rows own pl 9 (xs ++ [o]).length (mtRow (xs ++ [o]))) := by
  rw [List.length_append]
  exact .rows fun i hi => catR_mts xs o i hi

theorem like_onegmts {pl : Bool} (xs : List M3) (o : M3) : Like (.grow pl 9 (xs.length + 1) (catR xs.length (mtRow xs) (chop 9 0 o.cells))) (.grow pl 9 (xs ++ [o]).length (mtRow (xs ++ [o]))) := by
  rw [List.length_append]
  exact .grow fun i hi => catR_mts xs o i hi

theorem mtsOf_row {xs : List M3} {n : Nat} (h : xs.length = n) : mtsOf n (mtRow xs) = xs := by subst h; exact mtsOf_mtRow xs
/-- The cells of a list's maps. -/
def vcRow (l : List V3) : Nat → List Value := fun i => ((l[i]?).getD V3.zero).cells
def decV (l : List Value) : V3 := match vecCells l with
  | some o => o
  | none => V3.zero
def isV (l : List Value) : Bool := match vecCells l with
  | some _ => true
  | none => false
def okVcs (n : Nat) (row : Nat → List Value) : Bool := (List.range n).all fun i => isV (row i)
def vcsOf (n : Nat) (row : Nat → List Value) : List V3 := (List.range n).map fun i => decV (row i)
theorem vecCells_cells (o : V3) : vecCells o.cells = some o := rfl
theorem isV_cells (o : V3) : isV o.cells = true := rfl
theorem decV_cells (o : V3) : decV o.cells = o := rfl
theorem okVcs_vcRow (xs : List V3) (n : Nat) : okVcs n (vcRow xs) = true := List.all_eq_true.2 fun _ _ => isV_cells _
theorem vcsOf_vcRow (xs : List V3) : vcsOf xs.length (vcRow xs) = xs := by
  apply List.ext_getElem?
  intro i
  unfold vcsOf vcRow
  rw [List.getElem?_map]
  by_cases hi : i < xs.length
  · rw [List.getElem?_range hi, List.getElem?_eq_getElem hi]
    simp [decV_cells, List.getElem?_eq_getElem hi]
  · rw [List.getElem?_eq_none (by simp; omega), List.getElem?_eq_none (by omega)]; rfl
theorem vcsOf_length (n : Nat) (row : Nat → List Value) : (vcsOf n row).length = n := by simp [vcsOf]
theorem vcs_like {n : Nat} {row : Nat → List Value} (h : okVcs n row = true) : rowsLike n row (vcRow (vcsOf n row)) := by
  intro i hi
  have := List.all_eq_true.1 h i (List.mem_range.2 hi)
  unfold isV at this
  split at this
  · rename_i o ho
    unfold vcRow vcsOf
    rw [List.getElem?_map, List.getElem?_range hi]
    simp only [Option.map_some, Option.getD_some, decV, ho]
    exact vecCells_spec ho
  · cases this
theorem like_vcs {own : Bool} {n : Nat} {row : Nat → List Value} (h : okVcs n row = true) : Like (.rows own true 3 n row) (.rows own true 3 (vcsOf n row).length (vcRow (vcsOf n row))) := by
  rw [vcsOf_length]; exact .rows (vcs_like h)
/-- One map behind others. -/
theorem catR_vcs (xs : List V3) (o : V3) (i : Nat) (hi : i < xs.length + 1) : catR xs.length (vcRow xs) (chop 3 0 o.cells) i = vcRow (xs ++ [o]) i := by
  unfold catR vcRow
  by_cases h : i < xs.length
  · rw [show Nat.blt i xs.length = true by simpa [Nat.blt_eq] using h, List.getElem?_append_left h]
  · have : i = xs.length := by omega
    subst this
    rw [blt_ff (Nat.lt_irrefl _)]
    simp only [Nat.sub_self]
    rw [List.getElem?_append_right (Nat.le_refl _)]
    simp only [Nat.sub_self, List.getElem?_cons_zero, Option.getD_some]
    rfl
theorem like_ngvcs {pl : Bool} {n : Nat} {xs : List V3} (hx : xs.length = n) (o : V3) : Like (.grow pl 3 (n + 1) (catR n (vcRow xs) (chop 3 0 o.cells))) (.grow pl 3 (n + 1) (vcRow (xs ++ [o]))) := by
  subst hx
  exact .grow fun i hi => catR_vcs xs o i hi
theorem like_nrvcs {own pl : Bool} {n : Nat} {xs : List V3} (hx : xs.length = n) (o : V3) : Like (.rows own pl 3 (n + 1) (catR n (vcRow xs) (chop 3 0 o.cells))) (.rows own pl 3 (n + 1) (vcRow (xs ++ [o]))) := by
  subst hx
  exact .rows fun i hi => catR_vcs xs o i hi
theorem like_chopvcs {own pl : Bool} (o : V3) : Like (.rows own pl 3 1 (chop 3 0 o.cells)) (.rows own pl 3 1 (vcRow [o])) := .rows fun i hi => by
  have : i = 0 := by omega
  subst this
  rfl
theorem like_onevcs {own pl : Bool} (xs : List V3) (o : V3) : Like (.rows own pl 3 (xs.length + 1) (catR xs.length (vcRow xs) (chop 3 0 o.cells))) (.rows own pl 3 (xs ++ [o]).length (vcRow (xs ++ [o]))) := by
  rw [List.length_append]
  exact .rows fun i hi => catR_vcs xs o i hi

theorem like_onegvcs {pl : Bool} (xs : List V3) (o : V3) : Like (.grow pl 3 (xs.length + 1) (catR xs.length (vcRow xs) (chop 3 0 o.cells))) (.grow pl 3 (xs ++ [o]).length (vcRow (xs ++ [o]))) := by
  rw [List.length_append]
  exact .grow fun i hi => catR_vcs xs o i hi

theorem vcsOf_row {xs : List V3} {n : Nat} (h : xs.length = n) : vcsOf n (vcRow xs) = xs := by subst h; exact vcsOf_vcRow xs
end Go.Proofs.Ytggdbakgiknogaa.Vx


namespace Go.Proofs.Ytggdbakgiknogaa
open Go Vx
/-- What a loop appends, place by place. -/
def bld {α : Type} (t : Int → Bool) (e : Int → α) : Nat → Int → List α → List α
  | 0, _, ms => ms
  | c + 1, i, ms => match t i with
    | true => bld t e c (i + 1) (ms ++ [e i])
    | false => bld t e c (i + 1) ms
def shOk {α : Type} (sh : Sh) (ms : List α) : Prop := match sh with
  | .b => ms ≠ []
  | _ => ms = []
def shOf1 {α : Type} (ms : List α) : Sh := match ms with
  | [] => .a
  | _ :: _ => .b
theorem shOf1_ok {α : Type} {sh : Sh} {ms : List α} (h : shOk sh ms) : shOf1 ms = sh.next := by
  cases sh with
  | b => cases ms with
    | nil => exact absurd rfl h
    | cons m ms => rfl
  | e => have : ms = [] := h; subst this; rfl
  | a => have : ms = [] := h; subst this; rfl
def nilL {α : Type} : List α → Bool
  | [] => true
  | _ :: _ => false
theorem nilL_t {α : Type} {l : List α} (h : nilL l = true) : shOf1 l = .a := by cases l with
  | nil => rfl
  | cons x l => cases h
theorem nilL_f {α : Type} {l : List α} (h : nilL l = false) : shOf1 l = .b := by cases l with
  | nil => cases h
  | cons x l => rfl
def room9 (k : Nat) : Bool := decide (k * 72 ≤ 2 ^ 47) && decide (k ≤ 2 ^ 62)
def room3 (k : Nat) : Bool := decide (k * 24 ≤ 2 ^ 47) && decide (k ≤ 2 ^ 62)
theorem room9_ok {k : Nat} (h : k ≤ 2000000) : room9 k = true := by unfold room9; simp; omega
theorem room3_ok {k : Nat} (h : k ≤ 2000000) : room3 k = true := by unfold room3; simp; omega
def rotT (xs : List O3) (i : Int) : Bool := match i == 0 with
  | true => true
  | false => !((atO xs i).r.eqB (atO xs (i - 1)).r)
def rotU (xs : List O3) (i : Int) : Bool := match i == 0 with
  | true => true
  | false => !((atO xs (i - 1)).r.eqB (atO xs i).r)

def ceX (P : Program) : Code := (loopsOf P 18 7).headD .skip
theorem ceX_eq : loopsOf Try.prog 18 7 = [ceX Try.prog] := by kernel_rfl
def ceV (sh : Sh) (k : Nat) : Value := match sh with
  | .b => .slice (some ⟨2, 0, some 0⟩) k 3
  | _ => .slice none 0 0
def ceM (sh : Sh) (own : Bool) (n : Nat) (xs : List O3) (k : Nat) (r : Nat → List Value) : Mem := match sh with
  | .e => [.rows own true 12 n (opRow xs), .cells true 0 O3.one.cells]
  | .a => [.rows own true 12 n (opRow xs), .cells true 0 O3.one.cells, .no]
  | .b => [.rows own true 12 n (opRow xs), .cells true 0 O3.one.cells, .rows true true 3 k r]
def ceH (sh : Sh) (own : Bool) (n : Nat) (xs : List O3) (k : Nat) (r : Nat → List Value) (i : Int) : St := stOf 33 [(2, .slice none 0 0), (3, vI 0), (5, .pointer (some ⟨1, 0, none⟩)), (6, ceV sh k), (15, .slice (some ⟨0, 0, some 0⟩) n 12), (16, vI n), (17, vI i)] (ceM sh own n xs k r)
def ceE (sh : Sh) (own : Bool) (n : Nat) (xs : List O3) (k : Nat) (r : Nat → List Value) : St := stOf 33 [(2, .slice none 0 0), (3, vI 0), (6, ceV sh k)] (ceM sh own n xs k r)
theorem ceRe (own : Bool) (n : Nat) (xs : List O3) (k : Nat) (ms : List V3) (i : Int) : roundR ((Cdk Try.prog).into 18 1) 40 (ceX Try.prog) [2, 3, 5, 6, 15, 16, 17] [2, 3, 6] [.fix 0, .fix 1, .slot 6] [.fix 0, .fix 1, .slot 6] (ceH .e own n xs k (vcRow ms) i) =
    (match decide (i < (n : Int)) with
    | true => match boundsI i n with
      | true => match (atO xs i).r.eqB M3.one with
        | true => some (.normal, ceH .b own n xs 1 (chop 3 0 ((atO xs i).t).cells) (W (i + 1)))
        | false => some (.normal, ceH .a own n xs k (vcRow ms) (W (i + 1)))
      | false => none
    | false => some (.exit 0, ceE .a own n xs k (vcRow ms))) := by kernel_rfl
theorem ceRa (own : Bool) (n : Nat) (xs : List O3) (k : Nat) (ms : List V3) (i : Int) : roundR ((Cdk Try.prog).into 18 1) 40 (ceX Try.prog) [2, 3, 5, 6, 15, 16, 17] [2, 3, 6] [.fix 0, .fix 1, .slot 6] [.fix 0, .fix 1, .slot 6] (ceH .a own n xs k (vcRow ms) i) =
    (match decide (i < (n : Int)) with
    | true => match boundsI i n with
      | true => match (atO xs i).r.eqB M3.one with
        | true => some (.normal, ceH .b own n xs 1 (chop 3 0 ((atO xs i).t).cells) (W (i + 1)))
        | false => some (.normal, ceH .a own n xs k (vcRow ms) (W (i + 1)))
      | false => none
    | false => some (.exit 0, ceE .a own n xs k (vcRow ms))) := by kernel_rfl
theorem ceRb (own : Bool) (n : Nat) (xs : List O3) (k : Nat) (ms : List V3) (i : Int) : roundR ((Cdk Try.prog).into 18 1) 40 (ceX Try.prog) [2, 3, 5, 6, 15, 16, 17] [2, 3, 6] [.fix 0, .fix 1, .slot 6] [.fix 0, .fix 1, .slot 6] (ceH .b own n xs k (vcRow ms) i) =
    (match decide (i < (n : Int)) with
    | true => match boundsI i n with
      | true => match (atO xs i).r.eqB M3.one with
        | true => gd (Nat.beq k k && room3 (k + 1)) (some (.normal, ceH .b own n xs (k + 1) (catR k (vcRow ms) (chop 3 0 ((atO xs i).t).cells)) (W (i + 1))))
        | false => some (.normal, ceH .b own n xs k (vcRow ms) (W (i + 1)))
      | false => none
    | false => some (.exit 0, ceE .b own n xs k (vcRow ms))) := by kernel_rfl
structure ceG where
  (sh : Sh) (own : Bool) (n : Nat) (xs : List O3) (k : Nat) (ms : List V3) (i : Int)
def ceHg (g : ceG) : St := ceH g.sh g.own g.n g.xs g.k (vcRow g.ms) g.i
def ceI (g : ceG) : Prop := g.xs.length = g.n ∧ g.n ≤ 1000 ∧ g.ms.length = g.k ∧ (g.k : Int) ≤ g.i ∧ 0 ≤ g.i ∧ g.i ≤ (g.n : Int) ∧ shOk g.sh g.ms
def ceQ (g : ceG) : List V3 := bld (fun i => (atO g.xs i).r.eqB M3.one) (fun i => (atO g.xs i).t) (g.n - g.i).toNat g.i g.ms
def ceO (g : ceG) : Exit × St := (.exit 0, ceE (shOf1 (ceQ g)) g.own g.n g.xs (ceQ g).length (vcRow (ceQ g)))
theorem ceL (g : ceG) (hg : ceI g) : LoopSem Try.prog 1 (ceX Try.prog) (ceHg g) (ceO g).1 (ceO g).2 := by
  refine loop_rule2 (C := Cdk Try.prog) okdk (f := 18) (B := 1) (loopsOf_in (k := 7) ceX_eq) 40 [2, 3, 5, 6, 15, 16, 17] [2, 3, 6] [.fix 0, .fix 1, .slot 6] [.fix 0, .fix 1, .slot 6] ceHg (fun g => (g.n - g.i).toNat) ceI ceO ?_ g hg
  clear hg g
  rintro ⟨sh, own, n, xs, k, ms, i⟩ hg
  unfold ceI at hg
  simp only at hg
  obtain ⟨h1, h2, h3, h4, h5, h6, h7⟩ := hg
  by_cases hi : i < (n : Int)
  · have hd : decide (i < (n : Int)) = true := by simpa using hi
    have hb : boundsI i n = true := by simp [boundsI, h5, hi]
    have hw : W (i + 1) = i + 1 := W_in (by omega)
    have hs : ((n : Int) - i).toNat = ((n : Int) - (i + 1)).toNat + 1 := by omega
    have hq : ceQ ⟨sh, own, n, xs, k, ms, i⟩ = bld (fun i => (atO xs i).r.eqB M3.one) (fun i => (atO xs i).t) (((n : Int) - (i + 1)).toNat + 1) i ms := by unfold ceQ; simp only [hs]
    have hrm : (Nat.beq k k && room3 (k + 1)) = true := by rw [Nat.beq_refl, room3_ok (by omega)]; rfl
    left
    cases ht : ((atO xs i).r.eqB M3.one) with
    | true =>
      refine ⟨⟨.b, own, n, xs, k + 1, ms ++ [(atO xs i).t], i + 1⟩, ceH .b own n xs (match sh with
        | .b => k + 1
        | _ => 1) (match sh with
        | .b => catR k (vcRow ms) (chop 3 0 ((atO xs i).t).cells)
        | _ => chop 3 0 ((atO xs i).t).cells) (i + 1), ?_, ?_, ?_, by simp only; omega, ?_⟩
      · unfold ceHg; cases sh <;> simp only [ceRe, ceRa, ceRb, hd, hb, hw, ht, hrm, gd_true]
      · cases sh with
        | e => have : ms = [] := h7; subst this; have : k = 0 := h3.symm; subst this; exact ⟨rfl, .refl _, .refl _, like_chopvcs _, trivial⟩
        | a => have : ms = [] := h7; subst this; have : k = 0 := h3.symm; subst this; exact ⟨rfl, .refl _, .refl _, like_chopvcs _, trivial⟩
        | b => exact ⟨rfl, .refl _, .refl _, like_nrvcs h3 _, trivial⟩
      · unfold ceI
        simp only
        exact ⟨h1, h2, by simp [h3], by omega, by omega, by omega, by simp [shOk]⟩
      · unfold ceO
        rw [hq]
        simp only [bld, ht, ceQ]
    | false =>
      refine ⟨⟨sh.next, own, n, xs, k, ms, i + 1⟩, ceH sh.next own n xs k (vcRow ms) (i + 1), ?_, StLike.refl _, ?_, by simp only; omega, ?_⟩
      · unfold ceHg; cases sh <;> simp only [ceRe, ceRa, ceRb, hd, hb, hw, ht, Sh.next]
      · unfold ceI
        simp only
        exact ⟨h1, h2, h3, by omega, by omega, by omega, by cases sh <;> exact h7⟩
      · unfold ceO
        rw [hq]
        simp only [bld, ht, ceQ]
  · have hd : decide (i < (n : Int)) = false := by simpa using hi
    right
    have hq : ceQ ⟨sh, own, n, xs, k, ms, i⟩ = ms := by
      unfold ceQ
      rw [show ((n : Int) - i).toNat = 0 by omega]
      rfl
    refine ⟨ceE sh.next own n xs k (vcRow ms), ?_, ?_, by unfold ceO; simp⟩
    · unfold ceO ceHg
      cases sh with
      | e => simp only [ceRe, hd, Sh.next]
      | a => simp only [ceRa, hd, Sh.next]
      | b => simp only [ceRb, hd, Sh.next]
    · unfold ceO
      rw [hq]
      simp only [h3, shOf1_ok h7]
      exact StLike.refl _
def ceD : Mem → Option (Bool × Nat × (Nat → List Value) × List Value)
  | [.rows own true 12 n2 row, .cells true 0 co] => some (own, n2, row, co)
  | _ => none
theorem ceD_spec {m : Mem} {own : Bool} {n2 : Nat} {row : Nat → List Value} {co : List Value} (h : ceD m = some (own, n2, row, co)) : m = [.rows own true 12 n2 row, .cells true 0 co] := by
  unfold ceD at h
  split at h
  · simp only [Option.some.injEq, Prod.mk.injEq] at h
    obtain ⟨rfl, rfl, rfl, rfl⟩ := h
    rfl
  · cases h
def ceS (st : St) : Option (Ans (Exit × St)) :=
  match Nat.beq st.tmps.length 33, tAt st 2, tAt st 3, tAt st 5, tAt st 6, tAt st 15, tAt st 16, tAt st 17, ceD (thaw (killV st.mem)) with
  | true, some (.slice none 0 0), some (.int .i64 0), some (.pointer (some ⟨1, 0, none⟩)), some (.slice none 0 0), some (.slice (some ⟨0, 0, some 0⟩) n 12), some (.int .i64 ln), some (.int .i64 i), some (own, n2, row, co) => some (.br (Nat.beq n n2 && (okOps n row && (decide (ln = (n : Int)) && (decide (0 = i) && (decide (n ≤ 1000) && (isO co && ((decO co).eqB O3.one))))))) (.br (nilL (bld (fun i => (atO (opsOf n row) i).r.eqB M3.one) (fun i => (atO (opsOf n row) i).t) n 0 [])) (.out (.exit 0, ceE .a own n (opsOf n row) (bld (fun i => (atO (opsOf n row) i).r.eqB M3.one) (fun i => (atO (opsOf n row) i).t) n 0 []).length (vcRow (bld (fun i => (atO (opsOf n row) i).r.eqB M3.one) (fun i => (atO (opsOf n row) i).t) n 0 [])))) (.out (.exit 0, ceE .b own n (opsOf n row) (bld (fun i => (atO (opsOf n row) i).r.eqB M3.one) (fun i => (atO (opsOf n row) i).t) n 0 []).length (vcRow (bld (fun i => (atO (opsOf n row) i).r.eqB M3.one) (fun i => (atO (opsOf n row) i).t) n 0 []))))) .fail)
  | _, _, _, _, _, _, _, _, _ => none
theorem ceK {st : St} {ans : Ans (Exit × St)} {e_ : Exit} {s_ : St} (h : ceS st = some ans) (hr : ans.res = some (e_, s_)) : LoopSem Try.prog 1 (ceX Try.prog) st e_ s_ := by
  unfold ceS at h
  split at h
  rotate_left
  · cases h
  rename_i n ln i own n2 row co hb hs2 hs3 hs5 hs6 hs15 hs16 hs17 hD
  simp only [Option.some.injEq] at h
  subst h
  rcases Ans.br_some hr with ⟨hc, hr1⟩ | ⟨_, hr1⟩
  rotate_left
  · simp [Ans.res] at hr1
  clear hr
  simp only [Bool.and_eq_true, decide_eq_true_eq] at hc
  obtain ⟨c1, c2, c3, c4, c5, d0, d1⟩ := hc
  have c1 := beq_len c1
  subst c1 c3 c4
  have hco : co = O3.one.cells := by rw [isO_spec d0, O3.eqB_iff.1 d1]
  subst hco
  have hmem := ceD_spec hD
  have hI : ceI ⟨.e, own, n, opsOf n row, 0, [], 0⟩ := by
    unfold ceI
    simp only
    exact ⟨opsOf_length n row, c5, rfl, by omega, by omega, by omega, rfl⟩
  have key := ceL _ hI
  have hlike : LikeL (thaw (killV st.mem)) (ceHg ⟨.e, own, n, opsOf n row, 0, [], 0⟩).mem := by
    rw [hmem]
    exact ⟨.rows (ops_like c2), .refl _, trivial⟩
  have key := LoopSem.like (tm := (ceHg ⟨.e, own, n, opsOf n row, 0, [], 0⟩).tmps) (m := thaw (killV st.mem)) key hlike
  have key := LoopSem.fresh key
  have hk : keepL [2, 3, 5, 6, 15, 16, 17] 0 st.tmps = (ceHg ⟨.e, own, n, opsOf n row, 0, [], 0⟩).tmps := by
    have := keep_eq [(2, .slice none 0 0), (3, vI 0), (5, .pointer (some ⟨1, 0, none⟩)), (6, .slice none 0 0), (15, .slice (some ⟨0, 0, some 0⟩) n 12), (16, vI n), (17, vI 0)] st.tmps 0 (by
      intro x hx _
      simp only [List.mem_cons, List.not_mem_nil, or_false] at hx
      rcases hx with rfl | rfl | rfl | rfl | rfl | rfl | rfl
      · exact hs2
      · exact hs3
      · exact hs5
      · exact hs6
      · exact hs15
      · exact hs16
      · exact hs17)
    rw [show (keepL [2, 3, 5, 6, 15, 16, 17] 0 st.tmps) = _ from this, beq_len hb]
    rfl
  rw [← hk] at key
  have key : LoopSem Try.prog 1 (ceX Try.prog) st _ _ := LoopSem.clean (mask := [2, 3, 5, 6, 15, 16, 17]) key
  unfold ceO ceQ at key
  simp only [show ((n : Int) - 0).toNat = n by omega] at key
  rcases Ans.br_some hr1 with ⟨hq, hr2⟩ | ⟨hq, hr2⟩
  · rw [nilL_t hq] at key
    simp only [Ans.res, Option.some.injEq, Prod.mk.injEq] at hr2
    obtain ⟨rfl, rfl⟩ := hr2
    exact key
  · rw [nilL_f hq] at key
    simp only [Ans.res, Option.some.injEq, Prod.mk.injEq] at hr2
    obtain ⟨rfl, rfl⟩ := hr2
    exact key
end Go.Proofs.Ytggdbakgiknogaa


namespace Go.Proofs.Ytggdbakgiknogaa
open Go Vx

def raX (P : Program) : Code := (loopsOf P 17 6).headD .skip
theorem raX_eq : loopsOf Try.prog 17 6 = [raX Try.prog] := by kernel_rfl
def raV (sh : Sh) (k : Nat) : Value := match sh with
  | .b => .slice (some ⟨1, 0, some 0⟩) k 9
  | _ => .slice none 0 0
def raM (sh : Sh) (own : Bool) (n : Nat) (xs : List O3) (k : Nat) (r : Nat → List Value) : Mem := match sh with
  | .e => [.rows own true 12 n (opRow xs)]
  | .a => [.rows own true 12 n (opRow xs), .no]
  | .b => [.rows own true 12 n (opRow xs), .rows true true 9 k r]
def raH (sh : Sh) (own : Bool) (n : Nat) (xs : List O3) (k : Nat) (r : Nat → List Value) (i : Int) : St := stOf 40 [(0, .slice (some ⟨0, 0, some 0⟩) n 12), (2, .slice none 0 0), (3, vI 0), (5, raV sh k), (13, .slice (some ⟨0, 0, some 0⟩) n 12), (14, vI n), (15, vI i)] (raM sh own n xs k r)
def raE (sh : Sh) (own : Bool) (n : Nat) (xs : List O3) (k : Nat) (r : Nat → List Value) : St := stOf 40 [(2, .slice none 0 0), (3, vI 0), (5, raV sh k)] (raM sh own n xs k r)
theorem raRe (own : Bool) (n : Nat) (xs : List O3) (k : Nat) (ms : List M3) (i : Int) : roundR ((Cdk Try.prog).into 17 1) 40 (raX Try.prog) [0, 2, 3, 5, 13, 14, 15] [2, 3, 5] [.fix 0, .slot 5] [.fix 0, .slot 5] (raH .e own n xs k (mtRow ms) i) =
    (match decide (i < (n : Int)) with
    | true => match boundsI i n with
      | true => match (i == 0) with
        | true => some (.normal, raH .b own n xs 1 (chop 9 0 ((atO xs i).r).cells) (W (i + 1)))
        | false => match boundsI (W (i - 1)) n with
          | true => match !((atO xs i).r.eqB (atO xs (W (i - 1))).r) with
            | true => some (.normal, raH .b own n xs 1 (chop 9 0 ((atO xs i).r).cells) (W (i + 1)))
            | false => some (.normal, raH .a own n xs k (mtRow ms) (W (i + 1)))
          | false => none
      | false => none
    | false => some (.exit 0, raE .a own n xs k (mtRow ms))) := by kernel_rfl
theorem raRa (own : Bool) (n : Nat) (xs : List O3) (k : Nat) (ms : List M3) (i : Int) : roundR ((Cdk Try.prog).into 17 1) 40 (raX Try.prog) [0, 2, 3, 5, 13, 14, 15] [2, 3, 5] [.fix 0, .slot 5] [.fix 0, .slot 5] (raH .a own n xs k (mtRow ms) i) =
    (match decide (i < (n : Int)) with
    | true => match boundsI i n with
      | true => match (i == 0) with
        | true => some (.normal, raH .b own n xs 1 (chop 9 0 ((atO xs i).r).cells) (W (i + 1)))
        | false => match boundsI (W (i - 1)) n with
          | true => match !((atO xs i).r.eqB (atO xs (W (i - 1))).r) with
            | true => some (.normal, raH .b own n xs 1 (chop 9 0 ((atO xs i).r).cells) (W (i + 1)))
            | false => some (.normal, raH .a own n xs k (mtRow ms) (W (i + 1)))
          | false => none
      | false => none
    | false => some (.exit 0, raE .a own n xs k (mtRow ms))) := by kernel_rfl
theorem raRb (own : Bool) (n : Nat) (xs : List O3) (k : Nat) (ms : List M3) (i : Int) : roundR ((Cdk Try.prog).into 17 1) 40 (raX Try.prog) [0, 2, 3, 5, 13, 14, 15] [2, 3, 5] [.fix 0, .slot 5] [.fix 0, .slot 5] (raH .b own n xs k (mtRow ms) i) =
    (match decide (i < (n : Int)) with
    | true => match boundsI i n with
      | true => match (i == 0) with
        | true => gd (Nat.beq k k && room9 (k + 1)) (some (.normal, raH .b own n xs (k + 1) (catR k (mtRow ms) (chop 9 0 ((atO xs i).r).cells)) (W (i + 1))))
        | false => match boundsI (W (i - 1)) n with
          | true => match !((atO xs i).r.eqB (atO xs (W (i - 1))).r) with
            | true => gd (Nat.beq k k && room9 (k + 1)) (some (.normal, raH .b own n xs (k + 1) (catR k (mtRow ms) (chop 9 0 ((atO xs i).r).cells)) (W (i + 1))))
            | false => some (.normal, raH .b own n xs k (mtRow ms) (W (i + 1)))
          | false => none
      | false => none
    | false => some (.exit 0, raE .b own n xs k (mtRow ms))) := by kernel_rfl
structure raG where
  (sh : Sh) (own : Bool) (n : Nat) (xs : List O3) (k : Nat) (ms : List M3) (i : Int)
def raHg (g : raG) : St := raH g.sh g.own g.n g.xs g.k (mtRow g.ms) g.i
def raI (g : raG) : Prop := g.xs.length = g.n ∧ g.n ≤ 1000 ∧ g.ms.length = g.k ∧ (g.k : Int) ≤ g.i ∧ 0 ≤ g.i ∧ g.i ≤ (g.n : Int) ∧ shOk g.sh g.ms
def raQ (g : raG) : List M3 := bld (fun i => rotT g.xs i) (fun i => (atO g.xs i).r) (g.n - g.i).toNat g.i g.ms
def raO (g : raG) : Exit × St := (.exit 0, raE (shOf1 (raQ g)) g.own g.n g.xs (raQ g).length (mtRow (raQ g)))
theorem raL (g : raG) (hg : raI g) : LoopSem Try.prog 1 (raX Try.prog) (raHg g) (raO g).1 (raO g).2 := by
  refine loop_rule2 (C := Cdk Try.prog) okdk (f := 17) (B := 1) (loopsOf_in (k := 6) raX_eq) 40 [0, 2, 3, 5, 13, 14, 15] [2, 3, 5] [.fix 0, .slot 5] [.fix 0, .slot 5] raHg (fun g => (g.n - g.i).toNat) raI raO ?_ g hg
  clear hg g
  rintro ⟨sh, own, n, xs, k, ms, i⟩ hg
  unfold raI at hg
  simp only at hg
  obtain ⟨h1, h2, h3, h4, h5, h6, h7⟩ := hg
  by_cases hi : i < (n : Int)
  · have hd : decide (i < (n : Int)) = true := by simpa using hi
    have hb : boundsI i n = true := by simp [boundsI, h5, hi]
    have hw : W (i + 1) = i + 1 := W_in (by omega)
    have hs : ((n : Int) - i).toNat = ((n : Int) - (i + 1)).toNat + 1 := by omega
    have hq : raQ ⟨sh, own, n, xs, k, ms, i⟩ = bld (fun i => rotT xs i) (fun i => (atO xs i).r) (((n : Int) - (i + 1)).toNat + 1) i ms := by unfold raQ; simp only [hs]
    have hrm : (Nat.beq k k && room9 (k + 1)) = true := by rw [Nat.beq_refl, room9_ok (by omega)]; rfl
    left
    cases ht : (rotT xs i) with
    | true =>
      refine ⟨⟨.b, own, n, xs, k + 1, ms ++ [(atO xs i).r], i + 1⟩, raH .b own n xs (match sh with
        | .b => k + 1
        | _ => 1) (match sh with
        | .b => catR k (mtRow ms) (chop 9 0 ((atO xs i).r).cells)
        | _ => chop 9 0 ((atO xs i).r).cells) (i + 1), ?_, ?_, ?_, by simp only; omega, ?_⟩
      · by_cases h0 : i = 0
        · subst h0
          unfold raHg
          cases sh <;> simp only [raRe, raRa, raRb, hd, hb, hw, beq_self_eq_true, hrm, gd_true]
        · have e0 : (i == 0) = false := by simpa using h0
          have hw1 : W (i - 1) = i - 1 := W_in (by omega)
          have hb1 : boundsI (i - 1) n = true := by simp [boundsI]; omega
          have ht' := ht
          unfold rotT at ht'
          rw [e0] at ht'
          simp only at ht'
          unfold raHg
          cases sh <;> simp only [raRe, raRa, raRb, hd, hb, hw, e0, hw1, hb1, ht', hrm, gd_true]
      · cases sh with
        | e => have : ms = [] := h7; subst this; have : k = 0 := h3.symm; subst this; exact ⟨rfl, .refl _, like_chopmts _, trivial⟩
        | a => have : ms = [] := h7; subst this; have : k = 0 := h3.symm; subst this; exact ⟨rfl, .refl _, like_chopmts _, trivial⟩
        | b => exact ⟨rfl, .refl _, like_nrmts h3 _, trivial⟩
      · unfold raI
        simp only
        exact ⟨h1, h2, by simp [h3], by omega, by omega, by omega, by simp [shOk]⟩
      · unfold raO
        rw [hq]
        simp only [bld, ht, raQ]
    | false =>
      refine ⟨⟨sh.next, own, n, xs, k, ms, i + 1⟩, raH sh.next own n xs k (mtRow ms) (i + 1), ?_, StLike.refl _, ?_, by simp only; omega, ?_⟩
      · by_cases h0 : i = 0
        · subst h0
          simp [rotT] at ht
        · have e0 : (i == 0) = false := by simpa using h0
          have hw1 : W (i - 1) = i - 1 := W_in (by omega)
          have hb1 : boundsI (i - 1) n = true := by simp [boundsI]; omega
          have ht' := ht
          unfold rotT at ht'
          rw [e0] at ht'
          simp only at ht'
          unfold raHg
          cases sh <;> simp only [raRe, raRa, raRb, hd, hb, hw, e0, hw1, hb1, ht', Sh.next]
      · unfold raI
        simp only
        exact ⟨h1, h2, h3, by omega, by omega, by omega, by cases sh <;> exact h7⟩
      · unfold raO
        rw [hq]
        simp only [bld, ht, raQ]
  · have hd : decide (i < (n : Int)) = false := by simpa using hi
    right
    have hq : raQ ⟨sh, own, n, xs, k, ms, i⟩ = ms := by
      unfold raQ
      rw [show ((n : Int) - i).toNat = 0 by omega]
      rfl
    refine ⟨raE sh.next own n xs k (mtRow ms), ?_, ?_, by unfold raO; simp⟩
    · unfold raO raHg
      cases sh with
      | e => simp only [raRe, hd, Sh.next]
      | a => simp only [raRa, hd, Sh.next]
      | b => simp only [raRb, hd, Sh.next]
    · unfold raO
      rw [hq]
      simp only [h3, shOf1_ok h7]
      exact StLike.refl _
def raD : Mem → Option (Bool × Nat × (Nat → List Value))
  | [.rows own true 12 n2 row] => some (own, n2, row)
  | _ => none
theorem raD_spec {m : Mem} {own : Bool} {n2 : Nat} {row : Nat → List Value} (h : raD m = some (own, n2, row)) : m = [.rows own true 12 n2 row] := by
  unfold raD at h
  split at h
  · simp only [Option.some.injEq, Prod.mk.injEq] at h
    obtain ⟨rfl, rfl, rfl⟩ := h
    rfl
  · cases h
def raS (st : St) : Option (Ans (Exit × St)) :=
  match Nat.beq st.tmps.length 40, tAt st 0, tAt st 2, tAt st 3, tAt st 5, tAt st 13, tAt st 14, tAt st 15, raD (thaw (killV st.mem)) with
  | true, some (.slice (some ⟨0, 0, some 0⟩) n 12), some (.slice none 0 0), some (.int .i64 0), some (.slice none 0 0), some (.slice (some ⟨0, 0, some 0⟩) n3 12), some (.int .i64 ln), some (.int .i64 i), some (own, n2, row) => some (.br (Nat.beq n n2 && (okOps n row && (decide (ln = (n : Int)) && (decide (0 = i) && (decide (n ≤ 1000) && (Nat.beq n n3)))))) (.br (nilL (bld (fun i => rotT (opsOf n row) i) (fun i => (atO (opsOf n row) i).r) n 0 [])) (.out (.exit 0, raE .a own n (opsOf n row) (bld (fun i => rotT (opsOf n row) i) (fun i => (atO (opsOf n row) i).r) n 0 []).length (mtRow (bld (fun i => rotT (opsOf n row) i) (fun i => (atO (opsOf n row) i).r) n 0 [])))) (.out (.exit 0, raE .b own n (opsOf n row) (bld (fun i => rotT (opsOf n row) i) (fun i => (atO (opsOf n row) i).r) n 0 []).length (mtRow (bld (fun i => rotT (opsOf n row) i) (fun i => (atO (opsOf n row) i).r) n 0 []))))) .fail)
  | _, _, _, _, _, _, _, _, _ => none
theorem raK {st : St} {ans : Ans (Exit × St)} {e_ : Exit} {s_ : St} (h : raS st = some ans) (hr : ans.res = some (e_, s_)) : LoopSem Try.prog 1 (raX Try.prog) st e_ s_ := by
  unfold raS at h
  split at h
  rotate_left
  · cases h
  rename_i n n3 ln i own n2 row hb hs0 hs2 hs3 hs5 hs13 hs14 hs15 hD
  simp only [Option.some.injEq] at h
  subst h
  rcases Ans.br_some hr with ⟨hc, hr1⟩ | ⟨_, hr1⟩
  rotate_left
  · simp [Ans.res] at hr1
  clear hr
  simp only [Bool.and_eq_true, decide_eq_true_eq] at hc
  obtain ⟨c1, c2, c3, c4, c5, d0⟩ := hc
  have c1 := beq_len c1
  subst c1 c3 c4
  have d0 := beq_len d0
  subst d0
  have hmem := raD_spec hD
  have hI : raI ⟨.e, own, n, opsOf n row, 0, [], 0⟩ := by
    unfold raI
    simp only
    exact ⟨opsOf_length n row, c5, rfl, by omega, by omega, by omega, rfl⟩
  have key := raL _ hI
  have hlike : LikeL (thaw (killV st.mem)) (raHg ⟨.e, own, n, opsOf n row, 0, [], 0⟩).mem := by
    rw [hmem]
    exact ⟨.rows (ops_like c2), trivial⟩
  have key := LoopSem.like (tm := (raHg ⟨.e, own, n, opsOf n row, 0, [], 0⟩).tmps) (m := thaw (killV st.mem)) key hlike
  have key := LoopSem.fresh key
  have hk : keepL [0, 2, 3, 5, 13, 14, 15] 0 st.tmps = (raHg ⟨.e, own, n, opsOf n row, 0, [], 0⟩).tmps := by
    have := keep_eq [(0, .slice (some ⟨0, 0, some 0⟩) n 12), (2, .slice none 0 0), (3, vI 0), (5, .slice none 0 0), (13, .slice (some ⟨0, 0, some 0⟩) n 12), (14, vI n), (15, vI 0)] st.tmps 0 (by
      intro x hx _
      simp only [List.mem_cons, List.not_mem_nil, or_false] at hx
      rcases hx with rfl | rfl | rfl | rfl | rfl | rfl | rfl
      · exact hs0
      · exact hs2
      · exact hs3
      · exact hs5
      · exact hs13
      · exact hs14
      · exact hs15)
    rw [show (keepL [0, 2, 3, 5, 13, 14, 15] 0 st.tmps) = _ from this, beq_len hb]
    rfl
  rw [← hk] at key
  have key : LoopSem Try.prog 1 (raX Try.prog) st _ _ := LoopSem.clean (mask := [0, 2, 3, 5, 13, 14, 15]) key
  unfold raO raQ at key
  simp only [show ((n : Int) - 0).toNat = n by omega] at key
  rcases Ans.br_some hr1 with ⟨hq, hr2⟩ | ⟨hq, hr2⟩
  · rw [nilL_t hq] at key
    simp only [Ans.res, Option.some.injEq, Prod.mk.injEq] at hr2
    obtain ⟨rfl, rfl⟩ := hr2
    exact key
  · rw [nilL_f hq] at key
    simp only [Ans.res, Option.some.injEq, Prod.mk.injEq] at hr2
    obtain ⟨rfl, rfl⟩ := hr2
    exact key
end Go.Proofs.Ytggdbakgiknogaa


namespace Go.Proofs.Ytggdbakgiknogaa
open Go Vx
def Cpa (P : Program) : Cx := ((Cdk P).addLB 18 7 1 ceS).addLB 17 6 1 raS
theorem okpa : CxOk (Cpa Try.prog) := Cx.addLB_ok (Cx.addLB_ok okdk ceX_eq fun _ _ _ _ h hr => ceK h hr) raX_eq fun _ _ _ _ h hr => raK h hr
def rotsT (X : List O3) : List M3 := bld (fun i => rotT X i) (fun i => (atO X i).r) X.length 0 []
def cens (X : List O3) : List V3 := bld (fun i => (atO X i).r.eqB M3.one) (fun i => (atO X i).t) X.length 0 []
theorem bld_congr {α : Type} {t u : Int → Bool} {e : Int → α} (h : ∀ i, t i = u i) : ∀ (c : Nat) (i : Int) (ms : List α), bld t e c i ms = bld u e c i ms
  | 0, _, _ => rfl
  | c + 1, i, ms => by
    simp only [bld, h i]
    cases u i with
    | true => exact bld_congr h c _ _
    | false => exact bld_congr h c _ _
theorem eqB_comm (m n : M3) : m.eqB n = n.eqB m := by
  rw [Bool.eq_iff_iff, M3.eqB_iff, M3.eqB_iff]; exact ⟨Eq.symm, Eq.symm⟩
theorem rotTU (X : List O3) (i : Int) : rotU X i = rotT X i := by unfold rotT rotU; rw [eqB_comm]
theorem bld_ne {α : Type} {t : Int → Bool} {e : Int → α} : ∀ (c : Nat) (i : Int) (ms : List α), bld t e c i ms = [] → ms = [] ∧ ∀ j : Int, i ≤ j → j < i + (c : Int) → t j = false
  | 0, i, ms, h => ⟨h, fun j h1 h2 => by omega⟩
  | c + 1, i, ms, h => by
    simp only [bld] at h
    cases ht : t i with
    | true =>
      rw [ht] at h
      have := (bld_ne c (i + 1) _ h).1
      simp at this
    | false =>
      rw [ht] at h
      obtain ⟨h1, h2⟩ := bld_ne c (i + 1) _ h
      refine ⟨h1, fun j k1 k2 => ?_⟩
      by_cases hj : j = i
      · subst hj; exact ht
      · exact h2 j (by omega) (by omega)
theorem bld_len {α : Type} {t : Int → Bool} {e : Int → α} : ∀ (c : Nat) (i : Int) (ms : List α), (bld t e c i ms).length ≤ ms.length + c
  | 0, _, _ => Nat.le_refl _
  | c + 1, i, ms => by
    simp only [bld]
    cases t i with
    | true => have := bld_len (t := t) (e := e) c (i + 1) (ms ++ [e i]); simp at this ⊢; omega
    | false => have := bld_len (t := t) (e := e) c (i + 1) ms; simp; omega
theorem chk_len {X : List O3} (h : chkI X = 0) : X.length ≤ 192 ∧ O3.one ∈ X := by
  unfold chkI at h
  cases hq : clsOk X with
  | false => rw [hq] at h; exact absurd h (clsErr_ne X)
  | true =>
    rw [hq] at h
    simp only at h
    cases hs : sameB (clsG X) X with
    | false => rw [hs] at h; cases h
    | true =>
      have e := sameB_iff.1 hs
      obtain ⟨h1, h2, hg⟩ := clsOk_spec hq
      refine ⟨h1, ?_⟩
      rw [← e]
      exact (sortO_perm _).mem_iff.2 (hg.grp (all_inv h2)).one
theorem rots_ne {X : List O3} (h : chkI X = 0) : nilL (rotsT X) = false := by
  have h1 := (chk_len h).2
  cases hr : rotsT X with
  | cons m l => rfl
  | nil =>
    exfalso
    have hx : 0 < X.length := List.length_pos_of_mem h1
    have := (bld_ne _ _ _ hr).2 0 (by omega) (by omega)
    cases this
theorem cens_ne {X : List O3} (h : chkI X = 0) : nilL (cens X) = false := by
  have h1 := (chk_len h).2
  cases hr : cens X with
  | cons m l => rfl
  | nil =>
    exfalso
    obtain ⟨j, hj, e⟩ := List.mem_iff_getElem.1 h1
    have h2 := (bld_ne _ _ _ hr).2 (j : Int) (by omega) (by omega)
    have hat : atO X (j : Int) = O3.one := by unfold atO; rw [Int.toNat_natCast, List.getElem?_eq_getElem hj]; exact e
    simp only [hat] at h2
    rw [show O3.one.r = M3.one from rfl, M3.eqB_refl] at h2
    cases h2
def partT (n : Nat) (row : Nat → List Value) : Bool := Nat.beq n n && (okOps n row && (decide ((n : Int) = (n : Int)) && (decide ((0 : Int) = 0) && decide (n ≤ 1000))))
def partT2 (n : Nat) (row : Nat → List Value) : Bool := Nat.beq n n && (okOps n row && (decide ((n : Int) = (n : Int)) && (decide ((0 : Int) = 0) && (decide (n ≤ 1000) && Nat.beq n n))))
def partT3 (n : Nat) (row : Nat → List Value) : Bool := Nat.beq n n && (okOps n row && (decide ((n : Int) = (n : Int)) && (decide ((0 : Int) = 0) && (decide (n ≤ 1000) && (isO O3.one.cells && (decO O3.one.cells).eqB O3.one)))))
def endM (own : Bool) (N : Nat) (X : List O3) (Q : List M3) : Option (Value × Mem) := match nilL Q with
  | true => some (nilE 0, [.rows own true 12 N (opRow X), .no])
  | false => some (.tuple #[.slice (some ⟨1, 0, some 0⟩) Q.length 9, vI 0], [.rows own true 12 N (opRow X), .rows true true 9 Q.length (mtRow Q)])
def endV (own : Bool) (N : Nat) (X : List O3) (Q : List V3) : Option (Value × Mem) := match nilL Q with
  | true => some (nilE 0, [.rows own true 12 N (opRow X), .no])
  | false => some (.tuple #[.slice (some ⟨1, 0, some 0⟩) Q.length 3, vI 0], [.rows own true 12 N (opRow X), .rows true true 3 Q.length (vcRow Q)])

theorem rtE0 : exT ((Cpa Try.prog).at 17) 60 Try.f17 [.slice none 0 0] [] [.slot 0] = some (nilE 5, [.no]) := by kernel_rfl
theorem rtE1 (own : Bool) (N : Nat) (ls : List O3) : exT ((Cpa Try.prog).at 17) 60 Try.f17 [.slice (some ⟨0, 0, some 0⟩) N 12] [.rows own true 12 N (opRow ls)] [.fix 0, .slot 0] =
    gd (oT N (opRow ls)) (match chkI (opsOf N (opRow ls)) != 0 with
      | true => some (nilE (chkI (opsOf N (opRow ls))), [.rows own true 12 N (opRow (opsOf N (opRow ls))), .no])
      | false => gd (partT2 N (opRow (opsOf N (opRow ls)))) (endM own N (opsOf N (opRow (opsOf N (opRow ls)))) (bld (fun i => rotT (opsOf N (opRow (opsOf N (opRow ls)))) i) (fun i => (atO (opsOf N (opRow (opsOf N (opRow ls)))) i).r) N 0 []))) := by kernel_rfl
def rtF : List Value → Mem → Option (Ans (Value × Mem))
  | [.slice none 0 0], [] => some (.out (nilE 5, [.no]))
  | [.slice (some ⟨0, 0, some 0⟩) N 12], [.rows own true 12 N2 row] => some (.br (Nat.beq N N2 && (okOps N row && decide (N ≤ 4611686018427387904))) (.br (chkI (opsOf N row) != 0) (.out (nilE (chkI (opsOf N row)), [.rows own true 12 N (opRow (opsOf N row)), .no])) (.out (.tuple #[.slice (some ⟨1, 0, some 0⟩) (rotsT (opsOf N row)).length 9, vI 0], [.rows own true 12 N (opRow (opsOf N row)), .rows true true 9 (rotsT (opsOf N row)).length (mtRow (rotsT (opsOf N row)))]))) .fail)
  | _, _ => none
theorem rtS {args : List Value} {m : Mem} {ans : Ans (Value × Mem)} {v : Value} {m' : Mem} (h : rtF args m = some ans) (hr : ans.res = some (v, m')) : MemSem Try.prog 17 args m v m' := by
  unfold rtF at h
  split at h
  · simp only [Option.some.injEq] at h
    subst h
    simp only [Ans.res, Option.some.injEq, Prod.mk.injEq] at hr
    obtain ⟨rfl, rfl⟩ := hr
    exact exT_ok okpa Try.func17 (by kernel_rfl) rtE0
  · rename_i N own N2 row
    simp only [Option.some.injEq] at h
    subst h
    rcases Ans.br_some hr with ⟨hc, hr1⟩ | ⟨_, hr1⟩
    rotate_left
    · simp [Ans.res] at hr1
    clear hr
    simp only [Bool.and_eq_true, decide_eq_true_eq] at hc
    obtain ⟨c1, c2, c3⟩ := hc
    have c1 := beq_len c1
    subst c1
    have hl := opsOf_length N row
    have hE := rtE1 own N (opsOf N row)
    have tg : oT N (opRow (opsOf N row)) = true := by unfold oT; rw [Nat.beq_refl, okOps_opRow]; simp
    rw [opsOf_row hl, opsOf_row hl, tg] at hE
    simp only [gd_true] at hE
    rcases Ans.br_some hr1 with ⟨hq, hr2⟩ | ⟨hq, hr2⟩
    · rw [hq] at hE
      simp only [Ans.res, Option.some.injEq, Prod.mk.injEq] at hr2
      obtain ⟨rfl, rfl⟩ := hr2
      exact (exT_ok okpa Try.func17 (by kernel_rfl) hE).like ⟨.rows (ops_like c2), trivial⟩
    · rw [hq] at hE
      have h0 : chkI (opsOf N row) = 0 := by simpa using hq
      have hN := (chk_len h0).1
      rw [hl] at hN
      have ht : partT2 N (opRow (opsOf N row)) = true := by unfold partT2; rw [Nat.beq_refl, okOps_opRow]; simp; omega
      have hQ : bld (fun i => rotT (opsOf N row) i) (fun i => (atO (opsOf N row) i).r) N 0 [] = rotsT (opsOf N row) := by unfold rotsT; rw [hl]
      rw [ht, hQ] at hE
      simp only [gd_true] at hE
      unfold endM at hE
      rw [rots_ne h0] at hE
      simp only [Ans.res, Option.some.injEq, Prod.mk.injEq] at hr2
      obtain ⟨rfl, rfl⟩ := hr2
      exact (exT_ok okpa Try.func17 (by kernel_rfl) hE).like ⟨.rows (ops_like c2), trivial⟩
  · cases h

theorem ctE0 : exT ((Cpa Try.prog).at 18) 60 Try.f18 [.slice none 0 0] [] [.slot 0] = some (nilE 5, [.no]) := by kernel_rfl
theorem ctE1 (own : Bool) (N : Nat) (ls : List O3) : exT ((Cpa Try.prog).at 18) 60 Try.f18 [.slice (some ⟨0, 0, some 0⟩) N 12] [.rows own true 12 N (opRow ls)] [.fix 0, .slot 0] =
    gd (oT N (opRow ls)) (match chkI (opsOf N (opRow ls)) != 0 with
      | true => some (nilE (chkI (opsOf N (opRow ls))), [.rows own true 12 N (opRow (opsOf N (opRow ls))), .no])
      | false => gd (partT3 N (opRow (opsOf N (opRow ls)))) (endV own N (opsOf N (opRow (opsOf N (opRow ls)))) (bld (fun i => (atO (opsOf N (opRow (opsOf N (opRow ls)))) i).r.eqB M3.one) (fun i => (atO (opsOf N (opRow (opsOf N (opRow ls)))) i).t) N 0 []))) := by kernel_rfl
def ctF : List Value → Mem → Option (Ans (Value × Mem))
  | [.slice none 0 0], [] => some (.out (nilE 5, [.no]))
  | [.slice (some ⟨0, 0, some 0⟩) N 12], [.rows own true 12 N2 row] => some (.br (Nat.beq N N2 && (okOps N row && decide (N ≤ 4611686018427387904))) (.br (chkI (opsOf N row) != 0) (.out (nilE (chkI (opsOf N row)), [.rows own true 12 N (opRow (opsOf N row)), .no])) (.out (.tuple #[.slice (some ⟨1, 0, some 0⟩) (cens (opsOf N row)).length 3, vI 0], [.rows own true 12 N (opRow (opsOf N row)), .rows true true 3 (cens (opsOf N row)).length (vcRow (cens (opsOf N row)))]))) .fail)
  | _, _ => none
theorem ctS {args : List Value} {m : Mem} {ans : Ans (Value × Mem)} {v : Value} {m' : Mem} (h : ctF args m = some ans) (hr : ans.res = some (v, m')) : MemSem Try.prog 18 args m v m' := by
  unfold ctF at h
  split at h
  · simp only [Option.some.injEq] at h
    subst h
    simp only [Ans.res, Option.some.injEq, Prod.mk.injEq] at hr
    obtain ⟨rfl, rfl⟩ := hr
    exact exT_ok okpa Try.func18 (by kernel_rfl) ctE0
  · rename_i N own N2 row
    simp only [Option.some.injEq] at h
    subst h
    rcases Ans.br_some hr with ⟨hc, hr1⟩ | ⟨_, hr1⟩
    rotate_left
    · simp [Ans.res] at hr1
    clear hr
    simp only [Bool.and_eq_true, decide_eq_true_eq] at hc
    obtain ⟨c1, c2, c3⟩ := hc
    have c1 := beq_len c1
    subst c1
    have hl := opsOf_length N row
    have hE := ctE1 own N (opsOf N row)
    have tg : oT N (opRow (opsOf N row)) = true := by unfold oT; rw [Nat.beq_refl, okOps_opRow]; simp
    rw [opsOf_row hl, opsOf_row hl, tg] at hE
    simp only [gd_true] at hE
    rcases Ans.br_some hr1 with ⟨hq, hr2⟩ | ⟨hq, hr2⟩
    · rw [hq] at hE
      simp only [Ans.res, Option.some.injEq, Prod.mk.injEq] at hr2
      obtain ⟨rfl, rfl⟩ := hr2
      exact (exT_ok okpa Try.func18 (by kernel_rfl) hE).like ⟨.rows (ops_like c2), trivial⟩
    · rw [hq] at hE
      have h0 : chkI (opsOf N row) = 0 := by simpa using hq
      have hN := (chk_len h0).1
      rw [hl] at hN
      have ht : partT3 N (opRow (opsOf N row)) = true := by unfold partT3; rw [Nat.beq_refl, okOps_opRow, isO_cells, decO_cells, O3.eqB_refl]; simp; omega
      have hQ : bld (fun i => (atO (opsOf N row) i).r.eqB M3.one) (fun i => (atO (opsOf N row) i).t) N 0 [] = cens (opsOf N row) := by unfold cens; rw [hl]
      rw [ht, hQ] at hE
      simp only [gd_true] at hE
      unfold endV at hE
      rw [cens_ne h0] at hE
      simp only [Ans.res, Option.some.injEq, Prod.mk.injEq] at hr2
      obtain ⟨rfl, rfl⟩ := hr2
      exact (exT_ok okpa Try.func18 (by kernel_rfl) hE).like ⟨.rows (ops_like c2), trivial⟩
  · cases h

def Cpb (P : Program) : Cx := ((Cpa P).addF 17 rtF).addF 18 ctF
theorem okpb : CxOk (Cpb Try.prog) := Cx.addF_ok (Cx.addF_ok okpa fun _ _ _ _ _ h hr => rtS h hr) fun _ _ _ _ _ h hr => ctS h hr
end Go.Proofs.Ytggdbakgiknogaa


namespace Go.Proofs.Ytggdbakgiknogaa.Vx
open Go
def P3.cells (p : P3) : List Value := [.int .i64 p.m, .int .i64 p.x.x, .int .i64 p.x.y, .int .i64 p.x.z]
def ptCells : List Value → Option P3
  | [.int .i64 m, .int .i64 x, .int .i64 y, .int .i64 z] => some ⟨m, ⟨x, y, z⟩⟩
  | _ => none
theorem ptCells_spec {l : List Value} {p : P3} (h : ptCells l = some p) : l = p.cells := by
  unfold ptCells at h
  split at h
  · simp only [Option.some.injEq] at h
    subst h
    rfl
  · cases h
/-- The cells of a list's places. -/
def ptRow (l : List P3) : Nat → List Value := fun i => ((l[i]?).getD P3.zero).cells
def decP (l : List Value) : P3 := match ptCells l with
  | some o => o
  | none => P3.zero
def isP (l : List Value) : Bool := match ptCells l with
  | some _ => true
  | none => false
def okPts (n : Nat) (row : Nat → List Value) : Bool := (List.range n).all fun i => isP (row i)
def ptsOf (n : Nat) (row : Nat → List Value) : List P3 := (List.range n).map fun i => decP (row i)
theorem ptCells_cells (o : P3) : ptCells o.cells = some o := rfl
theorem isP_cells (o : P3) : isP o.cells = true := rfl
theorem decP_cells (o : P3) : decP o.cells = o := rfl
theorem okPts_ptRow (xs : List P3) (n : Nat) : okPts n (ptRow xs) = true := List.all_eq_true.2 fun _ _ => isP_cells _
theorem ptsOf_ptRow (xs : List P3) : ptsOf xs.length (ptRow xs) = xs := by
  apply List.ext_getElem?
  intro i
  unfold ptsOf ptRow
  rw [List.getElem?_map]
  by_cases hi : i < xs.length
  · rw [List.getElem?_range hi, List.getElem?_eq_getElem hi]
    simp [decP_cells, List.getElem?_eq_getElem hi]
  · rw [List.getElem?_eq_none (by simp; omega), List.getElem?_eq_none (by omega)]; rfl
theorem ptsOf_length (n : Nat) (row : Nat → List Value) : (ptsOf n row).length = n := by simp [ptsOf]
theorem pts_like {n : Nat} {row : Nat → List Value} (h : okPts n row = true) : rowsLike n row (ptRow (ptsOf n row)) := by
  intro i hi
  have := List.all_eq_true.1 h i (List.mem_range.2 hi)
  unfold isP at this
  split at this
  · rename_i o ho
    unfold ptRow ptsOf
    rw [List.getElem?_map, List.getElem?_range hi]
    simp only [Option.map_some, Option.getD_some, decP, ho]
    exact ptCells_spec ho
  · cases this
theorem like_pts {own : Bool} {n : Nat} {row : Nat → List Value} (h : okPts n row = true) : Like (.rows own true 4 n row) (.rows own true 4 (ptsOf n row).length (ptRow (ptsOf n row))) := by
  rw [ptsOf_length]; exact .rows (pts_like h)
/-- One map behind others. -/
theorem catR_pts (xs : List P3) (o : P3) (i : Nat) (hi : i < xs.length + 1) : catR xs.length (ptRow xs) (chop 4 0 o.cells) i = ptRow (xs ++ [o]) i := by
  unfold catR ptRow
  by_cases h : i < xs.length
  · rw [show Nat.blt i xs.length = true by simpa [Nat.blt_eq] using h, List.getElem?_append_left h]
  · have : i = xs.length := by omega
    subst this
    rw [blt_ff (Nat.lt_irrefl _)]
    simp only [Nat.sub_self]
    rw [List.getElem?_append_right (Nat.le_refl _)]
    simp only [Nat.sub_self, List.getElem?_cons_zero, Option.getD_some]
    rfl
theorem like_ngpts {pl : Bool} {n : Nat} {xs : List P3} (hx : xs.length = n) (o : P3) : Like (.grow pl 4 (n + 1) (catR n (ptRow xs) (chop 4 0 o.cells))) (.grow pl 4 (n + 1) (ptRow (xs ++ [o]))) := by
  subst hx
  exact .grow fun i hi => catR_pts xs o i hi
theorem like_nrpts {own pl : Bool} {n : Nat} {xs : List P3} (hx : xs.length = n) (o : P3) : Like (.rows own pl 4 (n + 1) (catR n (ptRow xs) (chop 4 0 o.cells))) (.rows own pl 4 (n + 1) (ptRow (xs ++ [o]))) := by
  subst hx
  exact .rows fun i hi => catR_pts xs o i hi
theorem like_choppts {own pl : Bool} (o : P3) : Like (.rows own pl 4 1 (chop 4 0 o.cells)) (.rows own pl 4 1 (ptRow [o])) := .rows fun i hi => by
  have : i = 0 := by omega
  subst this
  rfl
theorem like_onepts {own pl : Bool} (xs : List P3) (o : P3) : Like (.rows own pl 4 (xs.length + 1) (catR xs.length (ptRow xs) (chop 4 0 o.cells))) (.rows own pl 4 (xs ++ [o]).length (ptRow (xs ++ [o]))) := by
  rw [List.length_append]
  exact .rows fun i hi => catR_pts xs o i hi

theorem like_onegpts {pl : Bool} (xs : List P3) (o : P3) : Like (.grow pl 4 (xs.length + 1) (catR xs.length (ptRow xs) (chop 4 0 o.cells))) (.grow pl 4 (xs ++ [o]).length (ptRow (xs ++ [o]))) := by
  rw [List.length_append]
  exact .grow fun i hi => catR_pts xs o i hi

theorem ptsOf_row {xs : List P3} {n : Nat} (h : xs.length = n) : ptsOf n (ptRow xs) = xs := by subst h; exact ptsOf_ptRow xs
end Go.Proofs.Ytggdbakgiknogaa.Vx


namespace Go.Proofs.Ytggdbakgiknogaa.Vx
open Go
theorem leastN_ck3 (o : O3) : leastN o.ck 3 = leastI o.ck 3 := by
  rcases O3.ck_cases o with h | h | h <;> rw [h] <;> decide
def tOApplyN (o : O3) (p : P3) : Option Value :=
  match !p.form with
  | true => tOApplyEnd o p (leastN o.ck 3)
  | false => tOApplyEnd o p o.ck
theorem tOApplyN_eq (o : O3) (p : P3) : tOApplyN o p = some (fOApply o p) := by
  unfold tOApplyN
  rw [leastN_ck3]
  exact tOApply_eq o p
def P3.c1 (p q : P3) : Int := cmpR (W (p.x.x * q.m)) (W (q.x.x * p.m))
def P3.c2 (p q : P3) : Int := cmpR (W (p.x.y * q.m)) (W (q.x.y * p.m))
def P3.c3 (p q : P3) : Int := cmpR (W (p.x.z * q.m)) (W (q.x.z * p.m))
def P3.lex (p q : P3) : Int := match p.c1 q != 0 with
  | true => p.c1 q
  | false => match p.c2 q != 0 with
    | true => p.c2 q
    | false => match p.c3 q != 0 with
      | true => p.c3 q
      | false => 0
def tPOrd (p q : P3) : Option Value := match !p.form with
  | true => some (p2 (vI 0) (vI 3))
  | false => match !q.form with
    | true => some (p2 (vI 0) (vI 3))
    | false => match p.c1 q != 0 with
      | true => some (p2 (vI (p.c1 q)) (vI 0))
      | false => match p.c2 q != 0 with
        | true => some (p2 (vI (p.c2 q)) (vI 0))
        | false => match p.c3 q != 0 with
          | true => some (p2 (vI (p.c3 q)) (vI 0))
          | false => some (p2 (vI 0) (vI 0))
def P3.ordV (p q : P3) : Int := bif p.form && q.form then p.lex q else 0
def P3.ordE (p q : P3) : Int := bif p.form && q.form then 0 else 3
def fPOrd (p q : P3) : Value := p2 (vI (p.ordV q)) (vI (p.ordE q))
theorem tPOrd_eq (p q : P3) : tPOrd p q = some (fPOrd p q) := by
  unfold tPOrd fPOrd P3.ordV P3.ordE P3.lex
  cases p.form <;> cases q.form <;> cases p.c1 q != 0 <;> cases p.c2 q != 0 <;> cases p.c3 q != 0 <;> rfl
def tPCmp (p q : P3) : Option Value := some (vI (p.ordV q))
def fPCmp (p q : P3) : Value := vI (p.ordV q)
theorem tPCmp_eq (p q : P3) : tPCmp p q = some (fPCmp p q) := rfl
def P3.ckP (p : P3) : Int := bif p.form then 0 else 3
def tChkP (p : P3) : Option Value := match !p.form with
  | true => some (vI 3)
  | false => some (vI 0)
def fChkP (p : P3) : Value := vI p.ckP
theorem tChkP_eq (p : P3) : tChkP p = some (fChkP p) := by unfold tChkP fChkP P3.ckP; cases p.form <;> rfl
end Go.Proofs.Ytggdbakgiknogaa.Vx
