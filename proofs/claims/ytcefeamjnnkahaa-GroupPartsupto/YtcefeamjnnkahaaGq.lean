/-
  facetref05.put, told. Nothing here is trusted.
-/
import Derived.Test.YtcefeamjnnkahaaGp

namespace Go.Proofs.Ytcefeamjnnkahaa
open Go Vx
def Cpt (P : Program) : Cx := (Cmap P).addLB 56 2 1 ptS
theorem okpt : CxOk (Cpt Try.prog) := Cx.addLB_ok okmap ptX_eq fun _ _ _ _ h hr => ptK h hr
def shR (row : Nat → List Value) (j : Nat) : Nat → List Value := match j with
  | 0 => row
  | j => fun i => row (j + i)
def putRes (own : Bool) (n : Nat) (X : List O3) (len : Nat) (row : Nat → List Value) : Option (Value × Mem) := some (.slice (some ⟨1, 0, some 0⟩) len 12, [.rows own true 12 n (opRow X), .rows true true 12 len row])
def roomB (k : Nat) : Bool := decide (k * 96 ≤ 2 ^ 47) && decide (k ≤ 2 ^ 62)
def putEnd (own : Bool) (n : Nat) (X : List O3) (A : Int) (len : Nat) (row : Nat → List Value) : Option (Value × Mem) := gd (leI A n) (match decide (A < (n : Int)) with
  | true => match Nat.beq (n - A.toNat) 0 with
    | true => putRes own n X len row
    | false => gd (Nat.beq len len && roomB (len + (n - A.toNat))) (putRes own n X (len + (n - A.toNat)) (catR len row (shR (opRow X) A.toNat)))
  | false => putRes own n X len row)
def putMid (own : Bool) (n : Nat) (X : List O3) (A : Int) (o : O3) : Option (Value × Mem) := gd (leI A n) (match Nat.beq A.toNat 0 with
  | true => putEnd own n X A 1 (chop 12 0 o.cells)
  | false => gd (roomB A.toNat) (gd (Nat.beq A.toNat A.toNat && roomB (A.toNat + 1)) (putEnd own n X A (A.toNat + 1) (catR A.toNat (opRow X) (chop 12 0 o.cells)))))
theorem putE1 (own : Bool) (n : Nat) (xs : List O3) (o : O3) : exT ((Cpt Try.prog).at 56) 60 Try.f56 [.slice (some ⟨0, 0, some 0⟩) n 12, o.v] [.rows own true 12 n (opRow xs)] [.fix 0, .slot 0] =
    gd (Nat.beq n n && (okOps n (opRow xs) && (decide ((0 : Int) ≤ 0) && (decide ((n : Int) ≤ 4611686018427387904) && isO o.cells)))) (putMid own n (opsOf n (opRow xs)) (putL ((opsOf n (opRow xs)).drop (0 : Int).toNat) (decO o.cells) 0) o) := by kernel_rfl
/-- How many are less. -/
def cntO : List O3 → O3 → Nat
  | [], _ => 0
  | x :: l, o => match decide (lexI x.l o.l < 0) with
    | true => cntO l o + 1
    | false => 0
theorem putL_cnt : ∀ (l : List O3) (o : O3) (i : Int), putL l o i = i + (cntO l o : Int)
  | [], o, i => by simp [putL, cntO]
  | x :: l, o, i => by
    simp only [putL, cntO]
    cases decide (lexI x.l o.l < 0) with
    | true => simp only; rw [putL_cnt l o (i + 1)]; omega
    | false => simp
theorem cntO_le : ∀ (l : List O3) (o : O3), cntO l o ≤ l.length
  | [], _ => Nat.le_refl _
  | x :: l, o => by
    simp only [cntO]
    have := cntO_le l o
    cases decide (lexI x.l o.l < 0) with
    | true => simp only [List.length_cons]; omega
    | false => simp
theorem insO_cnt : ∀ (l : List O3) (o : O3), insO o l = l.take (cntO l o) ++ o :: l.drop (cntO l o)
  | [], o => rfl
  | x :: l, o => by
    have ih := insO_cnt l o
    simp only [insO, cntO]
    cases decide (lexI x.l o.l < 0) with
    | true => simp only [List.take_succ_cons, List.drop_succ_cons, List.cons_append]; rw [ih]
    | false => rfl
theorem insO_len (o : O3) (l : List O3) : (insO o l).length = l.length + 1 := by rw [(insO_perm o l).length_eq]; rfl
/-- Rows of one list and then another. -/
theorem catR_app (xs ys : List O3) (i : Nat) : catR xs.length (opRow xs) (opRow ys) i = opRow (xs ++ ys) i := by
  unfold catR opRow
  by_cases h : i < xs.length
  · rw [show Nat.blt i xs.length = true by simpa [Nat.blt_eq] using h, List.getElem?_append_left h]
  · rw [blt_ff h, List.getElem?_append_right (by omega)]
theorem shR_eq (row : Nat → List Value) (j : Nat) : shR row j = fun i => row (j + i) := by
  unfold shR
  cases j with
  | zero => funext i; simp
  | succ j => rfl
theorem opRow_drop (xs : List O3) (k : Nat) : (fun i => opRow xs (k + i)) = opRow (xs.drop k) := by
  funext i
  unfold opRow
  rw [List.getElem?_drop]
theorem chop_one (o : O3) (i : Nat) (hi : i < 1) : chop 12 0 o.cells i = opRow [o] i := by
  obtain rfl : i = 0 := by omega
  rfl
theorem opRow_take {xs : List O3} {k i : Nat} (hi : i < k) : opRow (xs.take k) i = opRow xs i := by
  unfold opRow
  rw [List.getElem?_take, if_pos hi]
theorem roomB_ok {k : Nat} (h : k ≤ 2000000) : roomB k = true := by
  unfold roomB
  simp; omega
theorem leI_ok {A : Int} {n : Nat} (h0 : 0 ≤ A) (h : A ≤ (n : Int)) : leI A n = true := by simp [leI, h0, h]
theorem putS (own : Bool) (n : Nat) (xs : List O3) (o : O3) (hx : xs.length = n) (hn : n ≤ 1100000) : MemSem Try.prog 56 [.slice (some ⟨0, 0, some 0⟩) n 12, o.v] [.rows own true 12 n (opRow xs)] (.slice (some ⟨1, 0, some 0⟩) (n + 1) 12) [.rows own true 12 n (opRow xs), .rows true true 12 (n + 1) (opRow (insO o xs))] := by
  have hE := putE1 own n xs o
  have ht : (Nat.beq n n && (okOps n (opRow xs) && (decide ((0 : Int) ≤ 0) && (decide ((n : Int) ≤ 4611686018427387904) && isO o.cells)))) = true := by
    rw [Nat.beq_refl, okOps_opRow, isO_cells]; simp; omega
  rw [ht, gd_true, opsOf_row hx, decO_cells] at hE
  simp only [Int.toNat_zero, List.drop_zero] at hE
  rw [putL_cnt, Int.zero_add] at hE
  have hk := cntO_le xs o
  rw [hx] at hk
  have hins := insO_cnt xs o
  generalize cntO xs o = k at hE hk hins
  have sem : ∀ {v : Value} {m' : Mem}, exT ((Cpt Try.prog).at 56) 60 Try.f56 [.slice (some ⟨0, 0, some 0⟩) n 12, o.v] [.rows own true 12 n (opRow xs)] [.fix 0, .slot 0] = some (v, m') → MemSem Try.prog 56 [.slice (some ⟨0, 0, some 0⟩) n 12, o.v] [.rows own true 12 n (opRow xs)] v m' := fun hh => exT_ok okpt Try.func56 (by kernel_rfl) hh
  have fin : ∀ (len : Nat) (row : Nat → List Value), exT ((Cpt Try.prog).at 56) 60 Try.f56 [.slice (some ⟨0, 0, some 0⟩) n 12, o.v] [.rows own true 12 n (opRow xs)] [.fix 0, .slot 0] = putRes own n xs len row → len = n + 1 → rowsLike (n + 1) row (opRow (insO o xs)) → MemSem Try.prog 56 [.slice (some ⟨0, 0, some 0⟩) n 12, o.v] [.rows own true 12 n (opRow xs)] (.slice (some ⟨1, 0, some 0⟩) (n + 1) 12) [.rows own true 12 n (opRow xs), .rows true true 12 (n + 1) (opRow (insO o xs))] := by
    intro len row hh hl hr
    subst hl
    exact (sem hh).likes ⟨.refl _, .rows hr, trivial⟩
  have endE : ∀ (len : Nat) (row : Nat → List Value) (ys : List O3), len = ys.length → len ≤ n + 1 → ys.length + (n - k) = n + 1 → rowsLike len row (opRow ys) → insO o xs = ys ++ xs.drop k → exT ((Cpt Try.prog).at 56) 60 Try.f56 [.slice (some ⟨0, 0, some 0⟩) n 12, o.v] [.rows own true 12 n (opRow xs)] [.fix 0, .slot 0] = putEnd own n xs (k : Int) len row → MemSem Try.prog 56 [.slice (some ⟨0, 0, some 0⟩) n 12, o.v] [.rows own true 12 n (opRow xs)] (.slice (some ⟨1, 0, some 0⟩) (n + 1) 12) [.rows own true 12 n (opRow xs), .rows true true 12 (n + 1) (opRow (insO o xs))] := by
    intro len row ys hl hle hsum hrow hi hh
    unfold putEnd at hh
    rw [leI_ok (by omega) (by omega), gd_true, Int.toNat_natCast] at hh
    by_cases hlt : k < n
    · rw [show decide ((k : Int) < (n : Int)) = true by simp; omega] at hh
      have hne : Nat.beq (n - k) 0 = false := by
        cases hb : Nat.beq (n - k) 0 with
        | false => rfl
        | true => have := beq_len hb; omega
      simp only [hne] at hh
      rw [Nat.beq_refl, roomB_ok (by omega)] at hh
      simp only [Bool.and_self, gd_true] at hh
      refine fin _ _ hh (by omega) fun i hi2 => ?_
      rw [hi, ← catR_app]
      unfold catR
      subst hl
      by_cases h : i < ys.length
      · rw [show Nat.blt i ys.length = true by simpa [Nat.blt_eq] using h]
        exact hrow i h
      · rw [blt_ff h, shR_eq, opRow_drop]
    · have hkn : k = n := by omega
      rw [show decide ((k : Int) < (n : Int)) = false by simp; omega] at hh
      refine fin _ _ hh (by omega) fun i hi2 => ?_
      have hnil : xs.drop k = [] := List.drop_eq_nil_of_le (by omega)
      rw [hi, hnil, List.append_nil]
      exact hrow i (by omega)
  unfold putMid at hE
  rw [leI_ok (by omega) (by omega), gd_true, Int.toNat_natCast] at hE
  by_cases h0 : k = 0
  · subst h0
    refine endE 1 (chop 12 0 o.cells) [o] rfl (by omega) (by simp; omega) (fun i hi => chop_one o i hi) (by rw [hins]; simp) ?_
    rw [hE]
  · have hne : Nat.beq k 0 = false := by
      cases hb : Nat.beq k 0 with
      | false => rfl
      | true => exact absurd (beq_len hb) h0
    simp only [hne] at hE
    rw [roomB_ok (by omega), roomB_ok (by omega), Nat.beq_refl] at hE
    simp only [Bool.and_self, gd_true] at hE
    have htl : (xs.take k).length = k := by simp; omega
    refine endE (k + 1) _ (xs.take k ++ [o]) (by simp; omega) (by omega) (by simp; omega) (fun i hi => ?_) (by rw [hins]; simp) hE
    rw [← catR_app]
    unfold catR
    rw [htl]
    by_cases h : i < k
    · rw [show Nat.blt i k = true by simpa [Nat.blt_eq] using h]
      exact (opRow_take h).symm
    · rw [blt_ff h]
      exact chop_one o _ (by omega)
def putF : List Value → Mem → Option (Ans (Value × Mem))
  | [.slice (some ⟨0, 0, some 0⟩) n 12, .agg co], [.rows own true 12 n2 row] => match opCells co.toList with
    | some o => some (.br (Nat.beq n n2 && (okOps n row && decide (n ≤ 1100000))) (.out (.slice (some ⟨1, 0, some 0⟩) (n + 1) 12, [.rows own true 12 n (opRow (opsOf n row)), .rows true true 12 (n + 1) (opRow (insO o (opsOf n row)))])) .fail)
    | none => none
  | _, _ => none
def Cpu (P : Program) : Cx := (Cpt P).addF 56 putF
theorem okpu : CxOk (Cpu Try.prog) := Cx.addF_ok okpt fun args m ans v m' h hr => by
  unfold putF at h
  split at h
  · rename_i n co own n2 row
    split at h
    · rename_i o ho
      simp only [Option.some.injEq] at h
      subst h
      rcases Ans.br_some hr with ⟨hc, hr1⟩ | ⟨_, hr1⟩
      · clear hr
        simp only [Bool.and_eq_true, decide_eq_true_eq] at hc
        obtain ⟨c1, c2, c3⟩ := hc
        have c1 := beq_len c1
        subst c1
        simp only [Ans.res, Option.some.injEq, Prod.mk.injEq] at hr1
        obtain ⟨rfl, rfl⟩ := hr1
        have e1 : co = o.cells.toArray := by rw [← opCells_spec ho]
        subst e1
        exact (putS own n (opsOf n row) o (opsOf_length n row) c3).like ⟨.rows (ops_like c2), trivial⟩
      · simp [Ans.res] at hr1
    · cases h
  · cases h
end Go.Proofs.Ytcefeamjnnkahaa


namespace Go.Proofs.Ytcefeamjnnkahaa
open Go Vx
/-- As rIn; where it ends, what was found. -/
def rInB (f : O3) : List O3 → List O3 → List O3 → Bool × List O3 × List O3
  | [], fs, ss => (true, fs, ss)
  | o :: l, fs, ss => match decide (placeI fs (f.mul5 o) ≥ 0) with
    | true => rInB f l fs ss
    | false => match !(f.mul5 o).r.ok with
      | true => (false, fs, ss)
      | false => match ((fs.length : Int) == 192) with
        | true => (false, fs, ss)
        | false => rInB f l (fs ++ [f.mul5 o]) (insO (f.mul5 o) ss)
theorem rInB_eq (f : O3) : ∀ (l fs ss : List O3), rIn f l fs ss = match (rInB f l fs ss).1 with
    | true => some (rInB f l fs ss).2
    | false => none
  | [], fs, ss => rfl
  | o :: l, fs, ss => by
    simp only [rIn, rInB]
    cases decide (placeI fs (f.mul5 o) ≥ 0) with
    | true => exact rInB_eq f l fs ss
    | false =>
      simp only
      cases !(f.mul5 o).r.ok with
      | true => rfl
      | false =>
        simp only
        cases ((fs.length : Int) == 192) with
        | true => rfl
        | false => exact rInB_eq f l _ _
def rOutB (ls : List O3) : Nat → Int → List O3 → List O3 → Bool × List O3 × List O3
  | 0, _, fs, ss => (true, fs, ss)
  | N + 1, i, fs, ss => match decide (i < (fs.length : Int)) with
    | true => match (rInB (atO fs i) ls fs ss).1 with
      | true => rOutB ls N (i + 1) (rInB (atO fs i) ls fs ss).2.1 (rInB (atO fs i) ls fs ss).2.2
      | false => (false, (rInB (atO fs i) ls fs ss).2)
    | false => (true, fs, ss)
theorem rOutB_eq (ls : List O3) : ∀ (N : Nat) (i : Int) (fs ss : List O3), rOut ls N i fs ss = match (rOutB ls N i fs ss).1 with
    | true => some (rOutB ls N i fs ss).2
    | false => none
  | 0, i, fs, ss => rfl
  | N + 1, i, fs, ss => by
    simp only [rOut, rOutB]
    cases decide (i < (fs.length : Int)) with
    | true =>
      simp only
      rw [rInB_eq]
      cases (rInB (atO fs i) ls fs ss).1 with
      | true => exact rOutB_eq ls N _ _ _
      | false => rfl
    | false => rfl
theorem rInB_len (f : O3) : ∀ (l fs ss : List O3), fs.length = ss.length → fs.length ≤ 192 → (rInB f l fs ss).2.1.length = (rInB f l fs ss).2.2.length ∧ fs.length ≤ (rInB f l fs ss).2.1.length ∧ (rInB f l fs ss).2.1.length ≤ 192
  | [], fs, ss, h, h2 => ⟨h, Nat.le_refl _, h2⟩
  | o :: l, fs, ss, h, h2 => by
    simp only [rInB]
    cases decide (placeI fs (f.mul5 o) ≥ 0) with
    | true => exact rInB_len f l fs ss h h2
    | false =>
      simp only
      cases !(f.mul5 o).r.ok with
      | true => exact ⟨h, Nat.le_refl _, h2⟩
      | false =>
        simp only
        cases hne : ((fs.length : Int) == 192) with
        | true => exact ⟨h, Nat.le_refl _, h2⟩
        | false =>
          have hne' : ¬ (fs.length : Int) = 192 := by simpa using hne
          obtain ⟨h3, h4, h5⟩ := rInB_len f l (fs ++ [f.mul5 o]) (insO (f.mul5 o) ss) (by rw [insO_len]; simp [h]) (by simp; omega)
          refine ⟨h3, ?_, h5⟩
          simp only
          simp at h4; omega
theorem atO_app {fs : List O3} {i : Int} (h0 : 0 ≤ i) (h : i < (fs.length : Int)) (ex : List O3) : atO (fs ++ ex) i = atO fs i := by
  unfold atO
  rw [List.getElem?_append_left (by omega)]
def riX (P : Program) : Code := (loopsOf P 35 7).headD .skip
theorem riX_eq : loopsOf Try.prog 35 7 = [riX Try.prog] := by kernel_rfl
def riM (own : Bool) (N : Nat) (ls : List O3) (n : Nat) (row ss : Nat → List Value) : Mem := [.rows own true 12 N (opRow ls), .rows true true 12 n row, .rows true true 12 n ss]
def roH (N : Nat) (n : Nat) (at_ : Int) (m : Mem) : St := stOf 54 [(0, .slice (some ⟨0, 0, some 0⟩) N 12), (2, .slice none 0 0), (3, .bool false), (4, .slice (some ⟨1, 0, some 0⟩) n 12), (5, .slice (some ⟨2, 0, some 0⟩) n 12), (6, vI at_)] m
def riH (N : Nat) (n : Nat) (at_ i : Int) (m : Mem) : St := stOf 54 [(0, .slice (some ⟨0, 0, some 0⟩) N 12), (2, .slice none 0 0), (3, .bool false), (4, .slice (some ⟨1, 0, some 0⟩) n 12), (5, .slice (some ⟨2, 0, some 0⟩) n 12), (6, vI at_), (20, .slice (some ⟨0, 0, some 0⟩) N 12), (21, vI N), (22, vI i)] m
theorem riR (own : Bool) (N : Nat) (ls : List O3) (n : Nat) (fs ss : List O3) (at_ i : Int) : roundR ((Cpu Try.prog).into 35 1) 40 (riX Try.prog) [0, 2, 3, 4, 5, 6, 20, 21, 22] [0, 2, 3, 4, 5, 6] [.fix 0, .slot 4, .slot 5] [.fix 0, .slot 4, .slot 5] (riH N n at_ i (riM own N ls n (opRow fs) (opRow ss))) =
    (match decide (i < (N : Int)) with
    | true => match boundsI i N with
      | true => match boundsI at_ n with
        | true => match (Nat.beq n n && (okOps n (opRow fs) && decide (n ≤ 4611686018427387904))) with
          | true => match decide (placeI (opsOf n (opRow fs)) ((atO fs at_).mul5 (atO ls i)) ≥ 0) with
            | true => some (.normal, riH N n at_ (W (i + 1)) (riM own N ls n (opRow (opsOf n (opRow fs))) (opRow ss)))
            | false => match !((atO fs at_).mul5 (atO ls i)).r.ok with
              | true => some (.ret, roH N n at_ (riM own N ls n (opRow (opsOf n (opRow fs))) (opRow ss)))
              | false => match ((n : Int) == 192) with
                | true => some (.ret, roH N n at_ (riM own N ls n (opRow (opsOf n (opRow fs))) (opRow ss)))
                | false => match Nat.beq n n && roomB (n + 1) with
                  | true => match (Nat.beq n n && (okOps n (opRow ss) && decide (n ≤ 1100000))) with
                    | true => some (.normal, riH N (n + 1) at_ (W (i + 1)) (riM own N ls (n + 1) (catR n (opRow (opsOf n (opRow fs))) (chop 12 0 ((atO fs at_).mul5 (atO ls i)).cells)) (opRow (insO ((atO fs at_).mul5 (atO ls i)) (opsOf n (opRow ss))))))
                    | false => none
                  | false => none
          | false => none
        | false => none
      | false => none
    | false => some (.exit 2, roH N n at_ (riM own N ls n (opRow fs) (opRow ss)))) := by kernel_rfl
structure riG where
  (own : Bool) (N : Nat) (ls : List O3) (n : Nat) (fs ss : List O3) (at_ i : Int) (f : O3)
def riHg (g : riG) : St := riH g.N g.n g.at_ g.i (riM g.own g.N g.ls g.n (opRow g.fs) (opRow g.ss))
def riInv (g : riG) : Prop := g.ls.length = g.N ∧ g.N ≤ 1100000 ∧ g.fs.length = g.n ∧ g.ss.length = g.n ∧ g.n ≤ 192 ∧ 0 ≤ g.at_ ∧ g.at_ < (g.n : Int) ∧ 0 ≤ g.i ∧ g.i ≤ (g.N : Int) ∧ atO g.fs g.at_ = g.f
def riRes (g : riG) : Bool × List O3 × List O3 := rInB g.f (g.ls.drop g.i.toNat) g.fs g.ss
def riO (g : riG) : Exit × St := (match (riRes g).1 with
  | true => .exit 2
  | false => .ret, roH g.N (riRes g).2.1.length g.at_ (riM g.own g.N g.ls (riRes g).2.1.length (opRow (riRes g).2.1) (opRow (riRes g).2.2)))
theorem riL (g : riG) (hg : riInv g) : LoopSem Try.prog 1 (riX Try.prog) (riHg g) (riO g).1 (riO g).2 := by
  refine loop_rule2 (C := Cpu Try.prog) okpu (f := 35) (B := 1) (loopsOf_in (k := 7) riX_eq) 40 [0, 2, 3, 4, 5, 6, 20, 21, 22] [0, 2, 3, 4, 5, 6] [.fix 0, .slot 4, .slot 5] [.fix 0, .slot 4, .slot 5] riHg (fun g => (g.N - g.i).toNat) riInv riO ?_ g hg
  clear hg g
  rintro ⟨own, N, ls, n, fs, ss, at_, i, f⟩ hg
  unfold riInv at hg
  simp only at hg
  obtain ⟨h1, h2, h3, h4, h5, h6, h7, h8, h9, h10⟩ := hg
  have hR := riR own N ls n fs ss at_ i
  rw [h10] at hR
  have t1 : (Nat.beq n n && (okOps n (opRow fs) && decide (n ≤ 4611686018427387904))) = true := by rw [Nat.beq_refl, okOps_opRow]; simp; omega
  have t2 : (Nat.beq n n && (okOps n (opRow ss) && decide (n ≤ 1100000))) = true := by rw [Nat.beq_refl, okOps_opRow]; simp; omega
  have t3 : (Nat.beq n n && roomB (n + 1)) = true := by rw [Nat.beq_refl, roomB_ok (by omega)]; rfl
  rw [t1, t2, t3, opsOf_row h3, opsOf_row h4] at hR
  by_cases hi : i < (N : Int)
  · have hd : decide (i < (N : Int)) = true := by simpa using hi
    have hb : boundsI i N = true := by simp [boundsI, h8, hi]
    have hb2 : boundsI at_ n = true := by simp [boundsI, h6, h7]
    have hw : W (i + 1) = i + 1 := W_in (by omega)
    have hdr := drop_at (xs := ls) h8 (by omega)
    rw [hd, hb, hb2, hw] at hR
    simp only at hR
    cases hp : decide (placeI fs (f.mul5 (atO ls i)) ≥ 0) with
    | true =>
      left
      rw [hp] at hR
      refine ⟨⟨own, N, ls, n, fs, ss, at_, i + 1, f⟩, _, hR, StLike.refl _, ?_, by simp only; omega, ?_⟩
      · unfold riInv
        exact ⟨h1, h2, h3, h4, h5, h6, h7, by simp only; omega, by simp only; omega, h10⟩
      · unfold riO riRes
        simp only [hdr, rInB, hp]
    | false =>
      rw [hp] at hR
      simp only at hR
      cases hk : !(f.mul5 (atO ls i)).r.ok with
      | true =>
        right
        rw [hk] at hR
        have hres : riRes ⟨own, N, ls, n, fs, ss, at_, i, f⟩ = (false, fs, ss) := by unfold riRes; simp only [hdr, rInB, hp, hk]
        refine ⟨_, by unfold riO; simp only [hres]; exact hR, ?_, by unfold riO; simp [hres]⟩
        unfold riO
        simp only [hres, h3]
        exact StLike.refl _
      | false =>
        rw [hk] at hR
        simp only at hR
        cases hn : ((n : Int) == 192) with
        | true =>
          right
          rw [hn] at hR
          have hres : riRes ⟨own, N, ls, n, fs, ss, at_, i, f⟩ = (false, fs, ss) := by unfold riRes; simp only [hdr, rInB, hp, hk, h3, hn]
          refine ⟨_, by unfold riO; simp only [hres]; exact hR, ?_, by unfold riO; simp [hres]⟩
          unfold riO
          simp only [hres, h3]
          exact StLike.refl _
        | false =>
          left
          rw [hn] at hR
          have hn' : ¬ (n : Int) = 192 := by simpa using hn
          refine ⟨⟨own, N, ls, n + 1, fs ++ [f.mul5 (atO ls i)], insO (f.mul5 (atO ls i)) ss, at_, i + 1, f⟩, _, hR, ?_, ?_, by simp only; omega, ?_⟩
          · exact ⟨rfl, .refl _, like_nr h3 _, .refl _, trivial⟩
          · unfold riInv
            simp only
            exact ⟨h1, h2, by simp [h3], by rw [insO_len, h4], by omega, h6, by omega, by omega, by omega, by rw [atO_app h6 (by omega)]; exact h10⟩
          · unfold riO riRes
            simp only [hdr, rInB, hp, hk, h3, hn]
  · have hd : decide (i < (N : Int)) = false := by simpa using hi
    rw [hd] at hR
    right
    have hn : ls.drop i.toNat = [] := List.drop_eq_nil_of_le (by omega)
    have hres : riRes ⟨own, N, ls, n, fs, ss, at_, i, f⟩ = (true, fs, ss) := by unfold riRes; simp only [hn, rInB]
    refine ⟨_, by unfold riO; simp only [hres]; exact hR, ?_, by unfold riO; simp [hres]⟩
    unfold riO
    simp only [hres, h3]
    exact StLike.refl _
/-! The inner loop, told of states -/
def riD : Mem → Option (Bool × Nat × (Nat → List Value) × Nat × (Nat → List Value) × Nat × (Nat → List Value))
  | [.rows own true 12 N2 row, .rows true true 12 n2 row2, .rows true true 12 n3 row3] => some (own, N2, row, n2, row2, n3, row3)
  | _ => none
theorem riD_spec {m : Mem} {own : Bool} {N2 n2 n3 : Nat} {row row2 row3 : Nat → List Value} (h : riD m = some (own, N2, row, n2, row2, n3, row3)) : m = [.rows own true 12 N2 row, .rows true true 12 n2 row2, .rows true true 12 n3 row3] := by
  unfold riD at h
  split at h
  · simp only [Option.some.injEq, Prod.mk.injEq] at h
    obtain ⟨rfl, rfl, rfl, rfl, rfl, rfl, rfl⟩ := h
    rfl
  · cases h
def riT (N N1 N2 n n1 n2 n3 : Nat) (row row2 row3 : Nat → List Value) (at_ L i : Int) : Bool := Nat.beq N N1 && (Nat.beq N N2 && (okOps N row && (Nat.beq n n1 && (Nat.beq n n2 && (okOps n row2 && (Nat.beq n n3 && (okOps n row3 && (decide (L = (N : Int)) && (decide (0 = i) && (decide (n ≤ 192) && (decide (N ≤ 1100000) && (decide (0 ≤ at_) && decide (at_ < (n : Int))))))))))))))
def riS (st : St) : Option (Ans (Exit × St)) :=
  match Nat.beq st.tmps.length 54, tAt st 0, tAt st 2, tAt st 3, tAt st 4, tAt st 5, tAt st 6, tAt st 20, tAt st 21, tAt st 22, riD (thaw (killV st.mem)) with
  | true, some (.slice (some ⟨0, 0, some 0⟩) N 12), some (.slice none 0 0), some (.bool false), some (.slice (some ⟨1, 0, some 0⟩) n 12), some (.slice (some ⟨2, 0, some 0⟩) n1 12), some (.int .i64 at_), some (.slice (some ⟨0, 0, some 0⟩) N1 12), some (.int .i64 L), some (.int .i64 i), some (own, N2, row, n2, row2, n3, row3) =>
    some (.br (riT N N1 N2 n n1 n2 n3 row row2 row3 at_ L i) (.br (rInB (atO (opsOf n row2) at_) (opsOf N row) (opsOf n row2) (opsOf n row3)).1
      (.out (.exit 2, roH N (rInB (atO (opsOf n row2) at_) (opsOf N row) (opsOf n row2) (opsOf n row3)).2.1.length at_ (riM own N (opsOf N row) (rInB (atO (opsOf n row2) at_) (opsOf N row) (opsOf n row2) (opsOf n row3)).2.1.length (opRow (rInB (atO (opsOf n row2) at_) (opsOf N row) (opsOf n row2) (opsOf n row3)).2.1) (opRow (rInB (atO (opsOf n row2) at_) (opsOf N row) (opsOf n row2) (opsOf n row3)).2.2))))
      (.out (.ret, roH N (rInB (atO (opsOf n row2) at_) (opsOf N row) (opsOf n row2) (opsOf n row3)).2.1.length at_ (riM own N (opsOf N row) (rInB (atO (opsOf n row2) at_) (opsOf N row) (opsOf n row2) (opsOf n row3)).2.1.length (opRow (rInB (atO (opsOf n row2) at_) (opsOf N row) (opsOf n row2) (opsOf n row3)).2.1) (opRow (rInB (atO (opsOf n row2) at_) (opsOf N row) (opsOf n row2) (opsOf n row3)).2.2))))) .fail)
  | _, _, _, _, _, _, _, _, _, _, _ => none
theorem riK {st : St} {ans : Ans (Exit × St)} {e_ : Exit} {s_ : St} (h : riS st = some ans) (hr : ans.res = some (e_, s_)) : LoopSem Try.prog 1 (riX Try.prog) st e_ s_ := by
  unfold riS at h
  split at h
  rotate_left
  · cases h
  rename_i N n n1 at_ N1 L i own N2 row n2 row2 n3 row3 hb hs0 hs2 hs3 hs4 hs5 hs6 hs20 hs21 hs22 hD
  simp only [Option.some.injEq] at h
  subst h
  rcases Ans.br_some hr with ⟨hc, hr1⟩ | ⟨_, hr1⟩
  rotate_left
  · simp [Ans.res] at hr1
  clear hr
  unfold riT at hc
  simp only [Bool.and_eq_true, decide_eq_true_eq] at hc
  obtain ⟨c0, c1, c2, c3, c4, c5, c6, c7, c8, c9, c10, c11, c12, c13⟩ := hc
  have c0 := beq_len c0
  have c1 := beq_len c1
  have c3 := beq_len c3
  have c4 := beq_len c4
  have c6 := beq_len c6
  subst c0 c1 c3 c4 c6 c8 c9
  have hmem := riD_spec hD
  have hI : riInv ⟨own, N, opsOf N row, n, opsOf n row2, opsOf n row3, at_, 0, atO (opsOf n row2) at_⟩ := by
    unfold riInv
    simp only
    exact ⟨opsOf_length N row, c11, opsOf_length n row2, opsOf_length n row3, c10, c12, c13, by omega, by omega, trivial⟩
  have key := riL _ hI
  have hlike : LikeL (thaw (killV st.mem)) (riHg ⟨own, N, opsOf N row, n, opsOf n row2, opsOf n row3, at_, 0, atO (opsOf n row2) at_⟩).mem := by
    rw [hmem]
    exact ⟨.rows (ops_like c2), .rows (ops_like c5), .rows (ops_like c7), trivial⟩
  have key := LoopSem.like (tm := (riHg ⟨own, N, opsOf N row, n, opsOf n row2, opsOf n row3, at_, 0, atO (opsOf n row2) at_⟩).tmps) (m := thaw (killV st.mem)) key hlike
  have key := LoopSem.fresh key
  have hk : keepL [0, 2, 3, 4, 5, 6, 20, 21, 22] 0 st.tmps = (riHg ⟨own, N, opsOf N row, n, opsOf n row2, opsOf n row3, at_, 0, atO (opsOf n row2) at_⟩).tmps := by
    have := keep_eq [(0, .slice (some ⟨0, 0, some 0⟩) N 12), (2, .slice none 0 0), (3, .bool false), (4, .slice (some ⟨1, 0, some 0⟩) n 12), (5, .slice (some ⟨2, 0, some 0⟩) n 12), (6, vI at_), (20, .slice (some ⟨0, 0, some 0⟩) N 12), (21, vI N), (22, vI 0)] st.tmps 0 (by
      intro x hx _
      simp only [List.mem_cons, List.not_mem_nil, or_false] at hx
      rcases hx with rfl | rfl | rfl | rfl | rfl | rfl | rfl | rfl | rfl
      · exact hs0
      · exact hs2
      · exact hs3
      · exact hs4
      · exact hs5
      · exact hs6
      · exact hs20
      · exact hs21
      · exact hs22)
    rw [show (keepL [0, 2, 3, 4, 5, 6, 20, 21, 22] 0 st.tmps) = _ from this, beq_len hb]
    rfl
  rw [← hk] at key
  have key : LoopSem Try.prog 1 (riX Try.prog) st _ _ := LoopSem.clean (mask := [0, 2, 3, 4, 5, 6, 20, 21, 22]) key
  unfold riO riRes at key
  simp only [Int.toNat_zero, List.drop_zero] at key
  rcases Ans.br_some hr1 with ⟨hq, hr2⟩ | ⟨hq, hr2⟩
  · rw [hq] at key
    simp only [Ans.res, Option.some.injEq, Prod.mk.injEq] at hr2
    obtain ⟨rfl, rfl⟩ := hr2
    exact key
  · rw [hq] at key
    simp only [Ans.res, Option.some.injEq, Prod.mk.injEq] at hr2
    obtain ⟨rfl, rfl⟩ := hr2
    exact key
def Cri (P : Program) : Cx := (Cpu P).addLB 35 7 1 riS
theorem okri : CxOk (Cri Try.prog) := Cx.addLB_ok okpu riX_eq fun _ _ _ _ h hr => riK h hr
end Go.Proofs.Ytcefeamjnnkahaa
