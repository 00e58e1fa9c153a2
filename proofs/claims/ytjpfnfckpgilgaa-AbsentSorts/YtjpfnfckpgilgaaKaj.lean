/-
  What the document's Close comes to: the group that maps generate, or that there is none. No program in sight but its lists. Nothing here is trusted.
-/
import Derived.Test.YtjpfnfckpgilgaaKai

namespace Go.Proofs.Ytjpfnfckpgilgaa
open Go Vx
def placeI (xs : List O3) (o : O3) : Int := (plcL xs o 0).getD (-1)
theorem plL_some : ∀ {xs : List O3} {o : O3} {i j : Int}, plcL xs o i = some j → i ≤ j ∧ o ∈ xs
  | [], o, i, j, h => by simp [plcL] at h
  | x :: l, o, i, j, h => by
    simp only [plcL] at h
    cases he : x.eqB o with
    | true => rw [he] at h; simp only [Option.some.injEq] at h; subst h; exact ⟨Int.le_refl _, by rw [O3.eqB_iff.1 he]; simp⟩
    | false =>
      rw [he] at h
      obtain ⟨h1, h2⟩ := plL_some (xs := l) h
      exact ⟨by omega, by simp [h2]⟩
theorem plL_none : ∀ {xs : List O3} {o : O3} {i : Int}, plcL xs o i = none → o ∉ xs
  | [], o, i, h => by simp
  | x :: l, o, i, h => by
    simp only [plcL] at h
    cases he : x.eqB o with
    | true => rw [he] at h; cases h
    | false =>
      rw [he] at h
      have := plL_none (xs := l) h
      rw [List.mem_cons]
      rintro (e | e)
      · exact O3.eqB_false.1 he e.symm
      · exact this e
theorem placeI_mem {xs : List O3} {o : O3} : decide (placeI xs o ≥ 0) = decide (o ∈ xs) := by
  unfold placeI
  cases h : plcL xs o 0 with
  | none =>
    have := plL_none h
    simp [this]
  | some j =>
    obtain ⟨h1, h2⟩ := plL_some h
    simp only [Option.getD_some]
    rw [decide_eq_true (by omega : j ≥ 0), decide_eq_true h2]
/-- The maps of a list behind one another: each behind a map, those that are new appended; in order beside it. -/
def rIn (f : O3) : List O3 → List O3 → List O3 → Option (List O3 × List O3)
  | [], fs, ss => some (fs, ss)
  | o :: l, fs, ss => match decide (placeI fs (f.mul5 o) ≥ 0) with
    | true => rIn f l fs ss
    | false => match !(f.mul5 o).r.ok with
      | true => none
      | false => match ((fs.length : Int) == 192) with
        | true => none
        | false => rIn f l (fs ++ [f.mul5 o]) (insO (f.mul5 o) ss)
def rOut (ls : List O3) : Nat → Int → List O3 → List O3 → Option (List O3 × List O3)
  | 0, _, fs, ss => some (fs, ss)
  | N + 1, i, fs, ss => match decide (i < (fs.length : Int)) with
    | true => match rIn (atO fs i) ls fs ss with
      | some r => rOut ls N (i + 1) r.1 r.2
      | none => none
    | false => some (fs, ss)
structure RWay (ls fs ss : List O3) : Prop where
  nd : fs.Nodup
  ck : ∀ g ∈ fs, g.ck = 0
  gen : ∀ g ∈ fs, Gen ls g
  len : fs.length ≤ 192
  one : O3.one ∈ fs
  perm : ss.Perm fs
  sorted : SortedO ss
theorem rIn_spec {ls : List O3} (hls : ∀ o ∈ ls, o.ck = 0) {f : O3} : ∀ (l fs ss : List O3), (∀ o ∈ l, o ∈ ls) → RWay ls fs ss → f ∈ fs →
    (∃ r ex, rIn f l fs ss = some r ∧ RWay ls r.1 r.2 ∧ r.1 = fs ++ ex ∧ ∀ o ∈ l, f.mul o ∈ r.1) ∨ (rIn f l fs ss = none ∧ Bad ls)
  | [], fs, ss, _, hW, _ => Or.inl ⟨(fs, ss), [], rfl, hW, by simp, by simp⟩
  | o :: l, fs, ss, hl, hW, hf => by
    have hi := all_inv hls
    have hfk := hW.ck f hf
    have hok := hls o (hl o (by simp))
    have hg : Gen ls (f.mul o) := (hW.gen f hf).mul hi (Gen.of hi (hl o (by simp)))
    simp only [rIn]
    rw [O3.mul5_eq hfk hok, placeI_mem]
    by_cases hm : f.mul o ∈ fs
    · rw [decide_eq_true hm]
      simp only
      rcases rIn_spec hls l fs ss (fun x hx => hl x (by simp [hx])) hW hf with ⟨r, ex, h1, h2, h3, h4⟩ | h
      · left
        refine ⟨r, ex, h1, h2, h3, fun x hx => ?_⟩
        rcases List.mem_cons.1 hx with rfl | hx
        · rw [h3]; exact List.mem_append_left _ hm
        · exact h4 x hx
      · right; exact h
    · rw [decide_eq_false hm]
      simp only
      cases hk : (f.mul o).r.ok with
      | false => right; exact ⟨rfl, Or.inl ⟨_, hg, hk⟩⟩
      | true =>
        simp only [Bool.not_true]
        have hnd : (fs ++ [f.mul o]).Nodup := List.nodup_append.2 ⟨hW.nd, by simp, fun a ha b hb e => by
          rw [List.mem_singleton] at hb; subst hb; subst e; exact hm ha⟩
        have hgen : ∀ g ∈ fs ++ [f.mul o], Gen ls g := fun g hg' => by
          rcases List.mem_append.1 hg' with h | h
          · exact hW.gen g h
          · rw [List.mem_singleton] at h; subst h; exact hg
        have hlen := hW.len
        by_cases hl2 : fs.length = 192
        · right
          rw [show ((fs.length : Int) == 192) = true by rw [beq_iff_eq]; omega]
          exact ⟨rfl, Or.inr ⟨_, hnd, by simp; omega, hgen⟩⟩
        · rw [show ((fs.length : Int) == 192) = false by simp; omega]
          simp only
          have hck : (f.mul o).ck = 0 := O3.ck_of ((O3.inv_ck hfk).mul (O3.inv_ck hok)) hk
          have hW2 : RWay ls (fs ++ [f.mul o]) (insO (f.mul o) ss) := by
            refine ⟨hnd, fun g hg' => ?_, hgen, by simp; omega, List.mem_append_left _ hW.one, ?_, insO_sorted _ _ hW.sorted⟩
            · rcases List.mem_append.1 hg' with h | h
              · exact hW.ck g h
              · rw [List.mem_singleton] at h; subst h; exact hck
            · refine (insO_perm _ _).trans ((hW.perm.cons _).trans ?_)
              exact (List.perm_append_comm (l₁ := [f.mul o]) (l₂ := fs))
          rcases rIn_spec hls l _ _ (fun x hx => hl x (by simp [hx])) hW2 (List.mem_append_left _ hf) with ⟨r, ex, h1, h2, h3, h4⟩ | h
          · left
            refine ⟨r, [f.mul o] ++ ex, h1, h2, by rw [h3, List.append_assoc], fun x hx => ?_⟩
            rcases List.mem_cons.1 hx with rfl | hx
            · rw [h3]; exact List.mem_append_left _ (List.mem_append_right _ (by simp))
            · exact h4 x hx
          · right; exact h
theorem rOut_spec {ls : List O3} (hls : ∀ o ∈ ls, o.ck = 0) : ∀ (N : Nat) (j : Nat) (fs ss : List O3), RWay ls fs ss → j ≤ fs.length → N + j = 193 → (∀ (i : Nat) (hi : i < fs.length), i < j → ∀ o ∈ ls, fs[i].mul o ∈ fs) →
    (∃ r, rOut ls N (j : Int) fs ss = some r ∧ IsGrp ls r.1 ∧ r.2 = sortO r.1) ∨ (rOut ls N (j : Int) fs ss = none ∧ Bad ls)
  | 0, j, fs, ss, hW, hj, hN, hd => by
    exfalso
    have := hW.len
    omega
  | N + 1, j, fs, ss, hW, hj, hN, hd => by
    simp only [rOut]
    by_cases hlt : j < fs.length
    · rw [show decide ((j : Int) < (fs.length : Int)) = true by simp; omega]
      simp only
      have hat : atO fs (j : Int) = fs[j] := by unfold atO; rw [Int.toNat_natCast, List.getElem?_eq_getElem hlt]; rfl
      rw [hat]
      rcases rIn_spec hls ls fs ss (fun _ h => h) hW (List.getElem_mem hlt) with ⟨r, ex, h1, h2, h3, h4⟩ | ⟨h1, h2⟩
      · rw [h1]
        simp only
        rw [show (j : Int) + 1 = ((j + 1 : Nat) : Int) by omega]
        have hlen : fs.length ≤ r.1.length := by rw [h3]; simp
        refine rOut_spec hls N (j + 1) r.1 r.2 h2 (by omega) (by omega) fun i hi hij o ho => ?_
        by_cases hi2 : i < fs.length
        · have e : r.1[i] = fs[i] := by simp only [h3]; rw [List.getElem_append_left hi2]
          rw [e]
          by_cases hij2 : i < j
          · have := hd i hi2 hij2 o ho
            rw [h3]; exact List.mem_append_left _ this
          · obtain rfl : i = j := by omega
            exact h4 o ho
        · omega
      · right
        rw [h1]
        exact ⟨rfl, h2⟩
    · obtain rfl : j = fs.length := by omega
      rw [show decide (((fs.length : Nat) : Int) < (fs.length : Int)) = false by simp]
      left
      refine ⟨(fs, ss), rfl, ⟨hW.nd, hW.len, fun g => ⟨fun h => hW.gen g h, fun h => ?_⟩, hW.ck⟩, ?_⟩
      · induction h with
        | one => exact hW.one
        | step _ hx ih =>
          obtain ⟨i, hi, e⟩ := List.mem_iff_getElem.1 ih
          rw [← e]
          exact hd i hi hi _ hx
      · exact sorted_one hW.sorted (sortO_sorted _) (hW.perm.trans (sortO_perm _).symm)
/-- What the document's Close comes to. -/
def rcR (ls : List O3) : Option (List O3 × List O3) := rOut ls 193 0 [O3.one] [O3.one]
theorem rcR_spec {ls : List O3} (hls : ∀ o ∈ ls, o.ck = 0) : (∃ r, rcR ls = some r ∧ IsGrp ls r.1 ∧ r.2 = sortO r.1) ∨ (rcR ls = none ∧ Bad ls) := by
  refine rOut_spec hls 193 0 [O3.one] [O3.one] ⟨by simp, by simp [O3.one_ck], fun g hg => ?_, by simp, by simp, List.Perm.refl _, by simp [SortedO]⟩ (by simp) rfl (by omega)
  rw [List.mem_singleton] at hg; subst hg; exact Gen.one
/-- Both are one. -/
theorem rc_cls {ls : List O3} (h0 : ckMaps ls = 0) : (rcR ls).isSome = clsOk ls ∧ (clsOk ls = true → ((rcR ls).getD ([], [])).2 = clsG ls) := by
  obtain ⟨_, hls⟩ := ckMaps_zero h0
  have e : clsOk ls = (clR ls).isSome := by unfold clsOk; rw [h0]; rfl
  rw [e]
  rcases rcR_spec hls with ⟨r, r1, r2, r3⟩ | ⟨r1, r2⟩
  · rcases clR_spec hls with ⟨c, c1, c2⟩ | ⟨_, c2⟩
    · rw [r1, c1]
      refine ⟨rfl, fun _ => ?_⟩
      simp only [Option.getD_some]
      unfold clsG
      have e : clG0 ls [O3.one] es1 = c := by unfold clG0; rw [show clL ls [O3.one] [] es1 = some c from c1]; rfl
      rw [r3, e]
      exact sorted_one (sortO_sorted _) (sortO_sorted _) ((sortO_perm _).trans ((r2.perm c2).trans (sortO_perm _).symm))
    · exact absurd c2 r2.not_bad
  · rcases clR_spec hls with ⟨c, c1, c2⟩ | ⟨c1, _⟩
    · exact absurd r2 c2.not_bad
    · rw [r1, c1]
      exact ⟨rfl, fun h => by cases h⟩
/-- The errors of a list are one. -/
theorem leastL_three : ∀ (l : List O3), leastL l 3 = 3
  | [] => rfl
  | o :: l => by
    simp only [leastL]
    have : leastN 3 o.ck = 3 := by rcases O3.ck_cases o with h | h | h <;> rw [h] <;> rfl
    rw [this]; exact leastL_three l
theorem mapsL_eq : ∀ (l : List O3) (e : Int), (e = 0 ∨ e = 4) → mapsL l e = leastL l e
  | [], e, _ => rfl
  | o :: l, e, he => by
    simp only [mapsL, leastL]
    rcases O3.ck_cases o with h | h | h
    · rw [h]
      have : leastN e 0 = e := by rcases he with rfl | rfl <;> rfl
      rw [this]; exact mapsL_eq l e he
    · rw [h]
      have : leastN e 3 = 3 := by rcases he with rfl | rfl <;> rfl
      rw [this, leastL_three]; rfl
    · rw [h]
      have : leastN e 4 = 4 := by rcases he with rfl | rfl <;> rfl
      rw [this]; exact mapsL_eq l 4 (Or.inr rfl)
end Go.Proofs.Ytjpfnfckpgilgaa


namespace Go.Proofs.Ytjpfnfckpgilgaa
open Go Vx
def Cpl (P : Program) : Cx := ((CCh P).addLB 103 2 1 plS).addLB 101 3 1 mpS
theorem okpl : CxOk (Cpl Try.prog) := Cx.addLB_ok (Cx.addLB_ok okCh plX_eq fun _ _ _ _ h hr => plK h hr) mpX_eq fun _ _ _ _ h hr => mpK h hr
def lT (n : Nat) (row : Nat → List Value) (ln : Int) : Bool := Nat.beq n n && (okOps n row && (decide ((n : Int) = ln) && (decide ((0 : Int) ≤ 0) && decide ((n : Int) ≤ 4611686018427387904))))
def lT2 (n : Nat) (row : Nat → List Value) (ln : Int) (co : List Value) : Bool := Nat.beq n n && (okOps n row && (decide ((n : Int) = ln) && (decide ((0 : Int) ≤ 0) && (decide ((n : Int) ≤ 4611686018427387904) && isO co))))
/-- facetref05.Place -/
theorem plcE0 (o : O3) : exT ((Cpl Try.prog).at 103) 60 Try.f103 [.slice none 0 0, o.v] [] [] = some (vI (-1), []) := by kernel_rfl
theorem plcE1 (own : Bool) (n : Nat) (xs : List O3) (o : O3) : exT ((Cpl Try.prog).at 103) 60 Try.f103 [.slice (some ⟨0, 0, some 0⟩) n 12, o.v] [.rows own true 12 n (opRow xs)] [.fix 0] =
    gd (lT2 n (opRow xs) n o.cells) (match (plcL ((opsOf n (opRow xs)).drop (0 : Int).toNat) (decO o.cells) 0).isSome with
      | true => some (vI ((plcL ((opsOf n (opRow xs)).drop (0 : Int).toNat) (decO o.cells) 0).getD 0), [.rows own true 12 n (opRow (opsOf n (opRow xs)))])
      | false => some (vI (-1), [.rows own true 12 n (opRow (opsOf n (opRow xs)))])) := by kernel_rfl
theorem plcE (own : Bool) (n : Nat) (xs : List O3) (o : O3) (hx : xs.length = n) (hn : n ≤ 4611686018427387904) : exT ((Cpl Try.prog).at 103) 60 Try.f103 [.slice (some ⟨0, 0, some 0⟩) n 12, o.v] [.rows own true 12 n (opRow xs)] [.fix 0] = some (vI (placeI xs o), [.rows own true 12 n (opRow xs)]) := by
  rw [plcE1, opsOf_row hx]
  have ht : lT2 n (opRow xs) n o.cells = true := by
    unfold lT2
    rw [Nat.beq_refl, okOps_opRow, isO_cells]
    simp; omega
  rw [ht, gd_true, decO_cells]
  simp only [Int.toNat_zero, List.drop_zero]
  unfold placeI
  cases plcL xs o 0 <;> rfl
def plcF : List Value → Mem → Option (Ans (Value × Mem))
  | [.slice none 0 0, .agg co], [] => match opCells co.toList with
    | some _ => some (.out (vI (-1), []))
    | none => none
  | [.slice (some ⟨0, 0, some 0⟩) n 12, .agg co], [.rows own true 12 n2 row] => match opCells co.toList with
    | some o => some (.br (Nat.beq n n2 && (okOps n row && decide (n ≤ 4611686018427387904))) (.out (vI (placeI (opsOf n row) o), [.rows own true 12 n (opRow (opsOf n row))])) .fail)
    | none => none
  | _, _ => none
def Cplc (P : Program) : Cx := (Cpl P).addF 103 plcF
theorem okplc : CxOk (Cplc Try.prog) := Cx.addF_ok okpl fun args m ans v m' h hr => by
  unfold plcF at h
  split at h
  · rename_i co
    split at h
    · rename_i o ho
      simp only [Option.some.injEq] at h
      subst h
      simp only [Ans.res, Option.some.injEq, Prod.mk.injEq] at hr
      obtain ⟨rfl, rfl⟩ := hr
      have e1 : co = o.cells.toArray := by rw [← opCells_spec ho]
      subst e1
      exact exT_ok okpl Try.func103 (by kernel_rfl) (plcE0 o)
    · cases h
  · rename_i n co own n2 row
    split at h
    · rename_i o ho
      simp only [Option.some.injEq] at h
      subst h
      rcases Ans.br_some hr with ⟨hc, hr1⟩ | ⟨_, hr1⟩
      · clear hr
        simp only [Bool.and_eq_true, decide_eq_true_eq] at hc
        obtain ⟨c1, c2, c3⟩ := hc
        have c1 := beq_len c1
        subst c1
        simp only [Ans.res, Option.some.injEq, Prod.mk.injEq] at hr1
        obtain ⟨rfl, rfl⟩ := hr1
        have e1 : co = o.cells.toArray := by rw [← opCells_spec ho]
        subst e1
        exact (exT_ok okpl Try.func103 (by kernel_rfl) (plcE own n (opsOf n row) o (opsOf_length n row) c3)).like ⟨.rows (ops_like c2), trivial⟩
      · simp [Ans.res] at hr1
    · cases h
  · cases h
/-- facetref05.Maps -/
theorem mapE0 : exT ((Cplc Try.prog).at 101) 60 Try.f101 [.slice none 0 0] [] [] = some (vI 0, []) := by kernel_rfl
theorem mapE1 (own : Bool) (n : Nat) (xs : List O3) : exT ((Cplc Try.prog).at 101) 60 Try.f101 [.slice (some ⟨0, 0, some 0⟩) n 12] [.rows own true 12 n (opRow xs)] [.fix 0] =
    gd (lT n (opRow xs) n) (match (mapsF ((opsOf n (opRow xs)).drop (0 : Int).toNat) 0).1 with
      | true => some (vI 3, [.rows own true 12 n (opRow (opsOf n (opRow xs)))])
      | false => some (vI (mapsF ((opsOf n (opRow xs)).drop (0 : Int).toNat) 0).2, [.rows own true 12 n (opRow (opsOf n (opRow xs)))])) := by kernel_rfl
theorem mapE (own : Bool) (n : Nat) (xs : List O3) (hx : xs.length = n) (hn : n ≤ 4611686018427387904) : exT ((Cplc Try.prog).at 101) 60 Try.f101 [.slice (some ⟨0, 0, some 0⟩) n 12] [.rows own true 12 n (opRow xs)] [.fix 0] = some (vI (leastL xs 0), [.rows own true 12 n (opRow xs)]) := by
  rw [mapE1, opsOf_row hx]
  have ht : lT n (opRow xs) n = true := by
    unfold lT
    rw [Nat.beq_refl, okOps_opRow]
    simp; omega
  rw [ht, gd_true, ← mapsL_eq xs 0 (Or.inl rfl), mapsF_eq]
  simp only [Int.toNat_zero, List.drop_zero]
  cases (mapsF xs 0).1 <;> rfl
def mapF : List Value → Mem → Option (Ans (Value × Mem))
  | [.slice none 0 0], [] => some (.out (vI 0, []))
  | [.slice (some ⟨0, 0, some 0⟩) n 12], [.rows own true 12 n2 row] => some (.br (Nat.beq n n2 && (okOps n row && decide (n ≤ 4611686018427387904))) (.out (vI (leastL (opsOf n row) 0), [.rows own true 12 n (opRow (opsOf n row))])) .fail)
  | _, _ => none
def Cmap (P : Program) : Cx := (Cplc P).addF 101 mapF
theorem okmap : CxOk (Cmap Try.prog) := Cx.addF_ok okplc fun args m ans v m' h hr => by
  unfold mapF at h
  split at h
  · simp only [Option.some.injEq] at h
    subst h
    simp only [Ans.res, Option.some.injEq, Prod.mk.injEq] at hr
    obtain ⟨rfl, rfl⟩ := hr
    exact exT_ok okplc Try.func101 (by kernel_rfl) mapE0
  · rename_i n own n2 row
    simp only [Option.some.injEq] at h
    subst h
    rcases Ans.br_some hr with ⟨hc, hr1⟩ | ⟨_, hr1⟩
    · clear hr
      simp only [Bool.and_eq_true, decide_eq_true_eq] at hc
      obtain ⟨c1, c2, c3⟩ := hc
      have c1 := beq_len c1
      subst c1
      simp only [Ans.res, Option.some.injEq, Prod.mk.injEq] at hr1
      obtain ⟨rfl, rfl⟩ := hr1
      exact (exT_ok okplc Try.func101 (by kernel_rfl) (mapE own n (opsOf n row) (opsOf_length n row) c3)).like ⟨.rows (ops_like c2), trivial⟩
    · simp [Ans.res] at hr1
  · cases h
end Go.Proofs.Ytjpfnfckpgilgaa


namespace Go.Proofs.Ytjpfnfckpgilgaa
open Go Vx
def roomB (k : Nat) : Bool := decide (k * 96 ≤ 2 ^ 47) && decide (k ≤ 2 ^ 62)
theorem roomB_ok {k : Nat} (h : k ≤ 2000000) : roomB k = true := by
  unfold roomB
  simp; omega
def smeL : List O3 → List O3 → Bool
  | x :: l, y :: m => match !(x.eqB y) with
    | true => false
    | false => smeL l m
  | _, _ => true
theorem smeL_refl : ∀ (l : List O3), smeL l l = true
  | [] => rfl
  | x :: l => by simp only [smeL, O3.eqB_refl, Bool.not_true]; exact smeL_refl l

def sameB (xs ys : List O3) : Bool := ((xs.length : Int) == (ys.length : Int)) && smeL xs ys
theorem sameB_refl (xs : List O3) : sameB xs xs = true := by unfold sameB; rw [smeL_refl]; simp
def smT (n m : Nat) (row row2 : Nat → List Value) : Bool := Nat.beq n m && (Nat.beq n n && (okOps n row && (Nat.beq n m && (okOps n row2 && (decide ((n : Int) = (n : Int)) && (decide ((0 : Int) ≤ 0) && decide ((n : Int) ≤ 4611686018427387904)))))))
theorem twE0 : exT ((Cmap Try.prog).at 14) 60 Try.f14 [.slice none 0 0] [] [.slot 0] = some (.slice none 0 0, [.no]) := by kernel_rfl
theorem twE1 (own : Bool) (N : Nat) (ls : List O3) : exT ((Cmap Try.prog).at 14) 60 Try.f14 [.slice (some ⟨0, 0, some 0⟩) N 12] [.rows own true 12 N (opRow ls)] [.fix 0, .slot 0] =
    (match Nat.beq N 0 with
    | true => some (.slice none 0 0, [.rows own true 12 N (opRow ls), .no])
    | false => gd (roomB N) (some (.slice (some ⟨1, 0, some 0⟩) N 12, [.rows own true 12 N (opRow ls), .rows true true 12 N (opRow ls)]))) := by kernel_rfl
def twF : List Value → Mem → Option (Ans (Value × Mem))
  | [.slice none 0 0], [] => some (.out (.slice none 0 0, [.no]))
  | [.slice (some ⟨0, 0, some 0⟩) N 12], [.rows own true 12 N2 row] => some (.br (Nat.beq N N2 && (okOps N row && decide (N ≤ 1500000))) (.br (Nat.beq N 0) (.out (.slice none 0 0, [.rows own true 12 N (opRow (opsOf N row)), .no])) (.out (.slice (some ⟨1, 0, some 0⟩) N 12, [.rows own true 12 N (opRow (opsOf N row)), .rows true true 12 N (opRow (opsOf N row))]))) .fail)
  | _, _ => none
def Ctw (P : Program) : Cx := (Cmap P).addF 14 twF
theorem oktw : CxOk (Ctw Try.prog) := Cx.addF_ok okmap fun args m ans v m' h hr => by
  unfold twF at h
  split at h
  · simp only [Option.some.injEq] at h
    subst h
    simp only [Ans.res, Option.some.injEq, Prod.mk.injEq] at hr
    obtain ⟨rfl, rfl⟩ := hr
    exact exT_ok okmap Try.func14 (by kernel_rfl) twE0
  · rename_i N own N2 row
    simp only [Option.some.injEq] at h
    subst h
    rcases Ans.br_some hr with ⟨hc, hr1⟩ | ⟨_, hr1⟩
    rotate_left
    · simp [Ans.res] at hr1
    clear hr
    simp only [Bool.and_eq_true, decide_eq_true_eq] at hc
    obtain ⟨c1, c2, c3⟩ := hc
    have c1 := beq_len c1
    subst c1
    have hE := twE1 own N (opsOf N row)
    rw [roomB_ok (by omega), gd_true] at hE
    rcases Ans.br_some hr1 with ⟨hq, hr2⟩ | ⟨hq, hr2⟩
    · rw [hq] at hE
      simp only [Ans.res, Option.some.injEq, Prod.mk.injEq] at hr2
      obtain ⟨rfl, rfl⟩ := hr2
      exact (exT_ok okmap Try.func14 (by kernel_rfl) hE).like ⟨.rows (ops_like c2), trivial⟩
    · rw [hq] at hE
      simp only [Ans.res, Option.some.injEq, Prod.mk.injEq] at hr2
      obtain ⟨rfl, rfl⟩ := hr2
      exact (exT_ok okmap Try.func14 (by kernel_rfl) hE).like ⟨.rows (ops_like c2), trivial⟩
  · cases h
end Go.Proofs.Ytjpfnfckpgilgaa


namespace Go.Proofs.Ytjpfnfckpgilgaa
open Go Vx

def sqX (P : Program) : Code := (loopsOf P 97 4).headD .skip
theorem sqX_eq : loopsOf Try.prog 97 4 = [sqX Try.prog] := by kernel_rfl
def sqH (own : Bool) (own2 : Bool) (n : Nat) (xs : List O3) (ys : List O3) (i : Int) : St := stOf 26 [(0, .slice (some ⟨0, 0, some 0⟩) n 12), (1, .slice (some ⟨1, 0, some 0⟩) n 12), (4, .bool false), (12, vI n), (13, vI i)] [.rows own true 12 n (opRow xs), .rows own2 true 12 n (opRow ys)]
theorem sqR (own : Bool) (own2 : Bool) (n : Nat) (xs : List O3) (ys : List O3) (i : Int) : roundR ((Ctw Try.prog).into 97 2) 40 (sqX Try.prog) [0, 1, 4, 12, 13] [4] [.fix 0, .fix 1] [.fix 0, .fix 1] (sqH own own2 n xs ys i) =
    (match decide (i < (n : Int)) with
    | true => match boundsI i n with
      | true => match boundsI i n with
        | true => match !((atO xs i).eqB (atO ys i)) with
          | true => some (.ret, stOf 26 [(4, .bool false)] [.rows own true 12 n (opRow xs), .rows own2 true 12 n (opRow ys)])
          | false => some (.normal, sqH own own2 n xs ys (W (i + 1)))
        | false => none
      | false => none
    | false => some (.exit 0, stOf 26 [(4, .bool false)] [.rows own true 12 n (opRow xs), .rows own2 true 12 n (opRow ys)])) := by kernel_rfl
structure sqG where
  (own : Bool) (own2 : Bool) (n : Nat) (xs : List O3) (ys : List O3) (i : Int)
def sqO (own : Bool) (own2 : Bool) (n : Nat) (xs : List O3) (ys : List O3) (i : Int) : Exit × St :=
  match smeL (xs.drop i.toNat) (ys.drop i.toNat) with
  | true => (.exit 0, stOf 26 [(4, .bool false)] [.rows own true 12 n (opRow xs), .rows own2 true 12 n (opRow ys)])
  | false => (.ret, stOf 26 [(4, .bool false)] [.rows own true 12 n (opRow xs), .rows own2 true 12 n (opRow ys)])
theorem sqL (own : Bool) (own2 : Bool) (n : Nat) (xs : List O3) (ys : List O3) (i : Int) (hg : 0 ≤ i ∧ (n : Int) ≤ 4611686018427387904 ∧ xs.length = n ∧ ys.length = n) : LoopSem Try.prog 2 (sqX Try.prog) (sqH own own2 n xs ys i) (sqO own own2 n xs ys i).1 (sqO own own2 n xs ys i).2 := by
  refine loop_rule (C := Ctw Try.prog) oktw (f := 97) (B := 2) (loopsOf_in (k := 4) sqX_eq) 40 [0, 1, 4, 12, 13] [4] [.fix 0, .fix 1] [.fix 0, .fix 1] (fun g : sqG => sqH g.own g.own2 g.n g.xs g.ys g.i) (fun g => (g.n - g.i).toNat) (fun g => 0 ≤ g.i ∧ (g.n : Int) ≤ 4611686018427387904 ∧ g.xs.length = g.n ∧ g.ys.length = g.n) (fun g => sqO g.own g.own2 g.n g.xs g.ys g.i) ?_ ⟨own, own2, n, xs, ys, i⟩ hg
  clear hg
  rintro ⟨own, own2, n, xs, ys, i⟩ hg
  simp only at hg
  simp only [sqR]
  obtain ⟨h0, h1, h2, h3⟩ := hg
  by_cases hi : i < (n : Int)
  · have hd : decide (i < (n : Int)) = true := by simpa using hi
    have hb : boundsI i n = true := by simp [boundsI, h0, hi]
    have hdx := drop_at (xs := xs) h0 (by omega)
    have hdy := drop_at (xs := ys) h0 (by omega)
    have hw : W (i + 1) = i + 1 := W_in (by omega)
    rw [hd, hb, hw]
    simp only
    cases he : !((atO xs i).eqB (atO ys i)) with
    | true =>
      right
      unfold sqO
      simp only [hdx, hdy, smeL, he]
      exact ⟨trivial, by simp⟩
    | false =>
      left
      refine ⟨⟨own, own2, n, xs, ys, i + 1⟩, rfl, ⟨by simp only; omega, h1, h2, h3⟩, by simp only; omega, ?_⟩
      unfold sqO
      simp only [hdx, hdy, smeL, he]
  · have hd : decide (i < (n : Int)) = false := by simpa using hi
    rw [hd]
    right
    have hn : xs.drop i.toNat = [] := List.drop_eq_nil_of_le (by omega)
    unfold sqO
    simp only [hn, smeL]
    exact ⟨trivial, by simp⟩
def sqS (st : St) : Option (Ans (Exit × St)) :=
  match sized st 26 2, tAt st 0, tAt st 1, tAt st 4, tAt st 12, tAt st 13, st.mem with
  | true, some (.slice (some ⟨0, 0, some 0⟩) n 12), some (.slice (some ⟨1, 0, some 0⟩) n1 12), some (.bool false), some (.int .i64 ln), some (.int .i64 i), [.rows own true 12 n2 row, .rows own2 true 12 n3 row2] => some (.br (Nat.beq n n1 && (Nat.beq n n2 && (okOps n row && (Nat.beq n n3 && (okOps n row2 && (decide ((n : Int) = ln) && (decide (0 ≤ i) && (decide ((n : Int) ≤ 4611686018427387904))))))))) (.br (smeL ((opsOf n row).drop i.toNat) ((opsOf n row2).drop i.toNat))
      (.out (.exit 0, stOf 26 [(4, .bool false)] [.rows own true 12 n (opRow (opsOf n row)), .rows own2 true 12 n (opRow (opsOf n row2))]))
      (.out (.ret, stOf 26 [(4, .bool false)] [.rows own true 12 n (opRow (opsOf n row)), .rows own2 true 12 n (opRow (opsOf n row2))]))) .fail)
  | _, _, _, _, _, _, _ => none
theorem sqK {st : St} {ans : Ans (Exit × St)} {e_ : Exit} {s_ : St} (h : sqS st = some ans) (hr : ans.res = some (e_, s_)) : LoopSem Try.prog 2 (sqX Try.prog) st e_ s_ := by
  unfold sqS at h
  split at h
  · rename_i n n1 ln i own n2 row own2 n3 row2 hb hs0 hs1 hs2 hs3 hs4 hm
    simp only [Option.some.injEq] at h
    subst h
    rcases Ans.br_some hr with ⟨hc, hr1⟩ | ⟨_, hr1⟩
    · clear hr
      simp only [Bool.and_eq_true] at hc
      obtain ⟨ht0, ht1, ht2, ht3, ht4, ht5, ht6, ht7⟩ := hc
      have ht0 := beq_len ht0
      have ht1 := beq_len ht1
      have ht3 := beq_len ht3
      subst ht0 ht1 ht3
      have ht5 : (n : Int) = ln := by simpa using ht5
      subst ht5
      have hinv : 0 ≤ i ∧ (n : Int) ≤ 4611686018427387904 ∧ (opsOf n row).length = n ∧ (opsOf n row2).length = n := by
        exact ⟨by simpa using ht6, by simpa using ht7, opsOf_length n row, opsOf_length n row2⟩
      have hk := stOf_keep hb [(0, .slice (some ⟨0, 0, some 0⟩) n 12), (1, .slice (some ⟨1, 0, some 0⟩) n 12), (4, .bool false), (12, vI n), (13, vI i)] (by
        intro x hx
        simp only [List.mem_cons, List.not_mem_nil, or_false] at hx
        rcases hx with rfl | rfl | rfl | rfl | rfl
        · exact hs0
        · exact hs1
        · exact hs2
        · exact hs3
        · exact hs4) hm
      have key := sqL own own2 n (opsOf n row) (opsOf n row2) i hinv
      unfold sqH at key
      have key := LoopSem.like (m := [.rows own true 12 n row, .rows own2 true 12 n row2]) key ⟨.rows (ops_like ht2), .rows (ops_like ht4), trivial⟩
      have key : LoopSem Try.prog 2 (sqX Try.prog) (stOf 26 [(0, .slice (some ⟨0, 0, some 0⟩) n 12), (1, .slice (some ⟨1, 0, some 0⟩) n 12), (4, .bool false), (12, vI n), (13, vI i)] [.rows own true 12 n row, .rows own2 true 12 n row2]) _ _ := key
      rw [← hk] at key
      have key := LoopSem.clean key
      unfold sqO at key
      rcases Ans.br_some hr1 with ⟨hq, hr1⟩ | ⟨hq, hr1⟩
      · simp only [hq] at key
        simp only [Ans.res, Option.some.injEq, Prod.mk.injEq] at hr1
        obtain ⟨rfl, rfl⟩ := hr1
        exact key
      · simp only [hq] at key
        simp only [Ans.res, Option.some.injEq, Prod.mk.injEq] at hr1
        obtain ⟨rfl, rfl⟩ := hr1
        exact key
    · simp [Ans.res] at hr1
  · cases h
def Csq (P : Program) : Cx := (Ctw P).addLB 97 4 2 sqS
theorem oksq : CxOk (Csq Try.prog) := Cx.addLB_ok oktw sqX_eq fun _ _ _ _ h hr => sqK h hr
theorem eqlE00 : exT ((Csq Try.prog).at 97) 60 Try.f97 [.slice none 0 0, .slice none 0 0] [] [] = some (.bool true, []) := by kernel_rfl
theorem eqlE01 (own : Bool) (n : Nat) (xs : List O3) : exT ((Csq Try.prog).at 97) 60 Try.f97 [.slice none 0 0, .slice (some ⟨0, 0, some 0⟩) n 12] [.rows own true 12 n (opRow xs)] [.fix 0] =
    (match (0 : Int) != (n : Int) with
    | true => some (.bool false, [.rows own true 12 n (opRow xs)])
    | false => some (.bool true, [.rows own true 12 n (opRow xs)])) := by kernel_rfl
theorem eqlE10 (own : Bool) (n : Nat) (xs : List O3) : exT ((Csq Try.prog).at 97) 60 Try.f97 [.slice (some ⟨0, 0, some 0⟩) n 12, .slice none 0 0] [.rows own true 12 n (opRow xs)] [.fix 0] =
    (match (n : Int) != (0 : Int) with
    | true => some (.bool false, [.rows own true 12 n (opRow xs)])
    | false => match decide ((0 : Int) < (n : Int)) with
      | true => match boundsI 0 n with
        | true => none
        | false => none
      | false => some (.bool true, [.rows own true 12 n (opRow xs)])) := by kernel_rfl
theorem eqlE1 (own own2 : Bool) (n m : Nat) (xs ys : List O3) : exT ((Csq Try.prog).at 97) 60 Try.f97 [.slice (some ⟨0, 0, some 0⟩) n 12, .slice (some ⟨1, 0, some 0⟩) m 12] [.rows own true 12 n (opRow xs), .rows own2 true 12 m (opRow ys)] [.fix 0, .fix 1] =
    (match (n : Int) != (m : Int) with
    | true => some (.bool false, [.rows own true 12 n (opRow xs), .rows own2 true 12 m (opRow ys)])
    | false => gd (smT n m (opRow xs) (opRow ys)) (match smeL ((opsOf n (opRow xs)).drop (0 : Int).toNat) ((opsOf n (opRow ys)).drop (0 : Int).toNat) with
      | true => some (.bool true, [.rows own true 12 n (opRow (opsOf n (opRow xs))), .rows own2 true 12 n (opRow (opsOf n (opRow ys)))])
      | false => some (.bool false, [.rows own true 12 n (opRow (opsOf n (opRow xs))), .rows own2 true 12 n (opRow (opsOf n (opRow ys)))]))) := by kernel_rfl
theorem eqlE (own own2 : Bool) (n m : Nat) (xs ys : List O3) (hx : xs.length = n) (hy : ys.length = m) (hn : n ≤ 1500000) : exT ((Csq Try.prog).at 97) 60 Try.f97 [.slice (some ⟨0, 0, some 0⟩) n 12, .slice (some ⟨1, 0, some 0⟩) m 12] [.rows own true 12 n (opRow xs), .rows own2 true 12 m (opRow ys)] [.fix 0, .fix 1] =
    some (.bool (sameB xs ys), [.rows own true 12 n (opRow xs), .rows own2 true 12 m (opRow ys)]) := by
  rw [eqlE1]
  unfold sameB
  rw [hx, hy]
  by_cases h : n = m
  · subst h
    have ht : smT n n (opRow xs) (opRow ys) = true := by
      unfold smT
      rw [Nat.beq_refl, okOps_opRow, okOps_opRow]
      simp; omega
    rw [ht, opsOf_row hx, opsOf_row hy]
    simp only [bne_self_eq_false, gd_true, Int.toNat_zero, List.drop_zero, beq_self_eq_true, Bool.true_and]
    cases smeL xs ys <;> rfl
  · have h1 : ((n : Int) != (m : Int)) = true := by simp; omega
    have h2 : ((n : Int) == (m : Int)) = false := by simp; omega
    rw [h1, h2]; rfl
def eqlF : List Value → Mem → Option (Ans (Value × Mem))
  | [.slice none 0 0, .slice none 0 0], [] => some (.out (.bool true, []))
  | [.slice none 0 0, .slice (some ⟨0, 0, some 0⟩) n 12], [.rows own true 12 n2 row] => some (.br (Nat.beq n n2 && okOps n row) (.out (.bool (sameB [] (opsOf n row)), [.rows own true 12 n (opRow (opsOf n row))])) .fail)
  | [.slice (some ⟨0, 0, some 0⟩) n 12, .slice none 0 0], [.rows own true 12 n2 row] => some (.br (Nat.beq n n2 && okOps n row) (.out (.bool (sameB (opsOf n row) []), [.rows own true 12 n (opRow (opsOf n row))])) .fail)
  | [.slice (some ⟨0, 0, some 0⟩) n 12, .slice (some ⟨1, 0, some 0⟩) m 12], [.rows own true 12 n2 row, .rows own2 true 12 m2 row2] => some (.br (Nat.beq n n2 && (okOps n row && (Nat.beq m m2 && (okOps m row2 && decide (n ≤ 1500000))))) (.out (.bool (sameB (opsOf n row) (opsOf m row2)), [.rows own true 12 n (opRow (opsOf n row)), .rows own2 true 12 m (opRow (opsOf m row2))])) .fail)
  | _, _ => none
def Ceq (P : Program) : Cx := (Csq P).addF 97 eqlF
theorem okeq : CxOk (Ceq Try.prog) := Cx.addF_ok oksq fun args m ans v m' h hr => by
  unfold eqlF at h
  split at h
  · simp only [Option.some.injEq] at h
    subst h
    simp only [Ans.res, Option.some.injEq, Prod.mk.injEq] at hr
    obtain ⟨rfl, rfl⟩ := hr
    exact exT_ok oksq Try.func97 (by kernel_rfl) eqlE00
  · rename_i n own n2 row
    simp only [Option.some.injEq] at h
    subst h
    rcases Ans.br_some hr with ⟨hc, hr1⟩ | ⟨_, hr1⟩
    rotate_left
    · simp [Ans.res] at hr1
    clear hr
    simp only [Bool.and_eq_true] at hc
    obtain ⟨c1, c2⟩ := hc
    have c1 := beq_len c1
    subst c1
    simp only [Ans.res, Option.some.injEq, Prod.mk.injEq] at hr1
    obtain ⟨rfl, rfl⟩ := hr1
    have hE := eqlE01 own n (opsOf n row)
    have hl := opsOf_length n row
    have e : sameB [] (opsOf n row) = !((0 : Int) != (n : Int)) := by
      unfold sameB
      rw [hl]
      have : smeL [] (opsOf n row) = true := by cases opsOf n row <;> rfl
      rw [this]
      simp [bne]
    rw [e]
    refine (exT_ok oksq Try.func97 (by kernel_rfl) (hE.trans ?_)).like ⟨.rows (ops_like c2), trivial⟩
    cases (0 : Int) != (n : Int) <;> rfl
  · rename_i n own n2 row
    simp only [Option.some.injEq] at h
    subst h
    rcases Ans.br_some hr with ⟨hc, hr1⟩ | ⟨_, hr1⟩
    rotate_left
    · simp [Ans.res] at hr1
    clear hr
    simp only [Bool.and_eq_true] at hc
    obtain ⟨c1, c2⟩ := hc
    have c1 := beq_len c1
    subst c1
    simp only [Ans.res, Option.some.injEq, Prod.mk.injEq] at hr1
    obtain ⟨rfl, rfl⟩ := hr1
    have hE := eqlE10 own n (opsOf n row)
    have hl := opsOf_length n row
    have e : sameB (opsOf n row) [] = !((n : Int) != (0 : Int)) := by
      unfold sameB
      rw [hl]
      have : smeL (opsOf n row) [] = true := by cases opsOf n row <;> rfl
      rw [this]
      simp [bne]
    rw [e]
    refine (exT_ok oksq Try.func97 (by kernel_rfl) (hE.trans ?_)).like ⟨.rows (ops_like c2), trivial⟩
    by_cases hz : n = 0
    · subst hz; rfl
    · have h1 : ((n : Int) != (0 : Int)) = true := by simp; omega
      rw [h1]; rfl
  · rename_i n m own n2 row own2 m2 row2
    simp only [Option.some.injEq] at h
    subst h
    rcases Ans.br_some hr with ⟨hc, hr1⟩ | ⟨_, hr1⟩
    rotate_left
    · simp [Ans.res] at hr1
    clear hr
    simp only [Bool.and_eq_true, decide_eq_true_eq] at hc
    obtain ⟨c1, c2, c3, c4, c5⟩ := hc
    have c1 := beq_len c1
    have c3 := beq_len c3
    subst c1 c3
    simp only [Ans.res, Option.some.injEq, Prod.mk.injEq] at hr1
    obtain ⟨rfl, rfl⟩ := hr1
    exact (exT_ok oksq Try.func97 (by kernel_rfl) (eqlE own own2 n m (opsOf n row) (opsOf m row2) (opsOf_length n row) (opsOf_length m row2) c5)).like ⟨.rows (ops_like c2), .rows (ops_like c4), trivial⟩
  · cases h
end Go.Proofs.Ytjpfnfckpgilgaa


namespace Go.Proofs.Ytjpfnfckpgilgaa
open Go Vx
def twT (n : Nat) (row : Nat → List Value) : Bool := Nat.beq n n && (okOps n row && decide (n ≤ 1500000))
def dcT (n : Nat) (row : Nat → List Value) : Bool := Nat.beq n n && (okOps n row && decide (n ≤ 1100000))
def oT (n : Nat) (row : Nat → List Value) : Bool := Nat.beq n n && okOps n row
def ssT (n m : Nat) (row row2 : Nat → List Value) : Bool := Nat.beq n n && (okOps n row && (Nat.beq m m && (okOps m row2 && decide (n ≤ 1500000))))
def Caw (P : Program) : Cx := Ceq P
theorem okaw : CxOk (Caw Try.prog) := okeq
end Go.Proofs.Ytjpfnfckpgilgaa


namespace Go.Proofs.Ytjpfnfckpgilgaa
open Go Vx
/-- What Check answers. -/
def chkI (X : List O3) : Int := match clsOk X with
  | true => match !(sameB (clsG X) X) with
    | true => 5
    | false => 0
  | false => clsErr X
theorem clsErr_ne (X : List O3) : clsErr X ≠ 0 := by
  unfold clsErr
  by_cases h : ckMaps X = 0
  · rw [h]; decide
  · rw [(bif_beq h).1]; exact h
theorem chkE0 : exT ((Caw Try.prog).at 51) 60 Try.f51 [.slice none 0 0] [] [] = some (vI 5, []) := by kernel_rfl
theorem chkE1 (own : Bool) (N : Nat) (ls : List O3) : exT ((Caw Try.prog).at 51) 60 Try.f51 [.slice (some ⟨0, 0, some 0⟩) N 12] [.rows own true 12 N (opRow ls)] [.fix 0] =
    gd (oT N (opRow ls)) (match clsOk (opsOf N (opRow ls)) with
      | true => gd (ssT (clsG (opsOf N (opRow ls))).length N (opRow (clsG (opsOf N (opRow ls)))) (opRow (opsOf N (opRow ls)))) (match !(sameB (opsOf (clsG (opsOf N (opRow ls))).length (opRow (clsG (opsOf N (opRow ls))))) (opsOf N (opRow (opsOf N (opRow ls))))) with
        | true => some (vI 5, [.rows own true 12 N (opRow (opsOf N (opRow (opsOf N (opRow ls)))))])
        | false => some (vI 0, [.rows own true 12 N (opRow (opsOf N (opRow (opsOf N (opRow ls)))))]))
      | false => match clsErr (opsOf N (opRow ls)) == 0 with
        | true => gd (oT N (opRow (opsOf N (opRow ls)))) (match !(sameB [] (opsOf N (opRow (opsOf N (opRow ls))))) with
          | true => some (vI 5, [.rows own true 12 N (opRow (opsOf N (opRow (opsOf N (opRow ls)))))])
          | false => some (vI (clsErr (opsOf N (opRow ls))), [.rows own true 12 N (opRow (opsOf N (opRow (opsOf N (opRow ls)))))]))
        | false => some (vI (clsErr (opsOf N (opRow ls))), [.rows own true 12 N (opRow (opsOf N (opRow ls)))])) := by kernel_rfl
theorem oT_ok (n : Nat) (xs : List O3) : oT n (opRow xs) = true := by unfold oT; rw [Nat.beq_refl, okOps_opRow]; rfl
theorem chkE (own : Bool) (N : Nat) (ls : List O3) (hl : ls.length = N) : exT ((Caw Try.prog).at 51) 60 Try.f51 [.slice (some ⟨0, 0, some 0⟩) N 12] [.rows own true 12 N (opRow ls)] [.fix 0] = some (vI (chkI ls), [.rows own true 12 N (opRow ls)]) := by
  rw [chkE1, opsOf_row hl, opsOf_row hl, oT_ok, gd_true]
  unfold chkI
  cases hc : clsOk ls with
  | true =>
    have hlen := clsOk_len hc
    have ht : ssT (clsG ls).length N (opRow (clsG ls)) (opRow ls) = true := by unfold ssT; rw [Nat.beq_refl, Nat.beq_refl, okOps_opRow, okOps_opRow]; simp; omega
    simp only [ht, gd_true, opsOf_row]
    cases sameB (clsG ls) ls <;> rfl
  | false => simp only [(bif_beq (clsErr_ne ls)).1]
def chkF : List Value → Mem → Option (Ans (Value × Mem))
  | [.slice none 0 0], [] => some (.out (vI 5, []))
  | [.slice (some ⟨0, 0, some 0⟩) N 12], [.rows own true 12 N2 row] => some (.br (Nat.beq N N2 && okOps N row) (.out (vI (chkI (opsOf N row)), [.rows own true 12 N (opRow (opsOf N row))])) .fail)
  | _, _ => none
def Cck (P : Program) : Cx := (Caw P).addF 51 chkF
theorem okck : CxOk (Cck Try.prog) := Cx.addF_ok okaw fun args m ans v m' h hr => by
  unfold chkF at h
  split at h
  · simp only [Option.some.injEq] at h
    subst h
    simp only [Ans.res, Option.some.injEq, Prod.mk.injEq] at hr
    obtain ⟨rfl, rfl⟩ := hr
    exact exT_ok okaw Try.func51 (by kernel_rfl) chkE0
  · rename_i N own N2 row
    simp only [Option.some.injEq] at h
    subst h
    rcases Ans.br_some hr with ⟨hc, hr1⟩ | ⟨_, hr1⟩
    rotate_left
    · simp [Ans.res] at hr1
    clear hr
    simp only [Bool.and_eq_true] at hc
    obtain ⟨c1, c2⟩ := hc
    have c1 := beq_len c1
    subst c1
    simp only [Ans.res, Option.some.injEq, Prod.mk.injEq] at hr1
    obtain ⟨rfl, rfl⟩ := hr1
    exact (exT_ok okaw Try.func51 (by kernel_rfl) (chkE own N (opsOf N row) (opsOf_length N row))).like ⟨.rows (ops_like c2), trivial⟩
  · cases h
/-- Where each map stands. -/
def atsL : List O3 → Int → ES → ES
  | [], _, es => es
  | o :: l, i, es => atsL l (i + 1) (mPut (key o) i es)

def peX (P : Program) : Code := (loopsOf P 74 6).headD .skip
theorem peX_eq : loopsOf Try.prog 74 6 = [peX Try.prog] := by kernel_rfl
def peH (own : Bool) (n : Nat) (xs : List O3) (es : ES) (i : Int) : St := stOf 28 [(2, .map none), (3, vI 0), (5, .map (some 1)), (16, .slice (some ⟨0, 0, some 0⟩) n 12), (17, vI n), (18, vI i)] [.rows own true 12 n (opRow xs), .mp false 12 es]
theorem peR (own : Bool) (n : Nat) (xs : List O3) (es : ES) (i : Int) : roundR ((Cck Try.prog).into 74 1) 40 (peX Try.prog) [2, 3, 5, 16, 17, 18] [2, 3, 5] [.fix 0, .fix 1] [.fix 0, .fix 1] (peH own n xs es i) =
    (match decide (i < (n : Int)) with
    | true => match boundsI i n with
      | true => some (.normal, peH own n xs (mPut (key (atO xs i)) i es) (W (i + 1)))
      | false => none
    | false => some (.exit 0, stOf 28 [(2, .map none), (3, vI 0), (5, .map (some 1))] [.rows own true 12 n (opRow xs), .mp false 12 es])) := by kernel_rfl
structure peG where
  (own : Bool) (n : Nat) (xs : List O3) (es : ES) (i : Int)
def peO (own : Bool) (n : Nat) (xs : List O3) (es : ES) (i : Int) : Exit × St :=
  (.exit 0, stOf 28 [(2, .map none), (3, vI 0), (5, .map (some 1))] [.rows own true 12 n (opRow xs), .mp false 12 (atsL (xs.drop i.toNat) i es)])
theorem peL (own : Bool) (n : Nat) (xs : List O3) (es : ES) (i : Int) (hg : 0 ≤ i ∧ (n : Int) ≤ 4611686018427387904 ∧ xs.length = n) : LoopSem Try.prog 1 (peX Try.prog) (peH own n xs es i) (peO own n xs es i).1 (peO own n xs es i).2 := by
  refine loop_rule (C := Cck Try.prog) okck (f := 74) (B := 1) (loopsOf_in (k := 6) peX_eq) 40 [2, 3, 5, 16, 17, 18] [2, 3, 5] [.fix 0, .fix 1] [.fix 0, .fix 1] (fun g : peG => peH g.own g.n g.xs g.es g.i) (fun g => (g.n - g.i).toNat) (fun g => 0 ≤ g.i ∧ (g.n : Int) ≤ 4611686018427387904 ∧ g.xs.length = g.n) (fun g => peO g.own g.n g.xs g.es g.i) ?_ ⟨own, n, xs, es, i⟩ hg
  clear hg
  rintro ⟨own, n, xs, es, i⟩ hg
  simp only at hg
  simp only [peR]
  obtain ⟨h0, h1, h2⟩ := hg
  by_cases hi : i < (n : Int)
  · have hd : decide (i < (n : Int)) = true := by simpa using hi
    have hb : boundsI i n = true := by simp [boundsI, h0, hi]
    have hdx := drop_at (xs := xs) h0 (by omega)
    have hw : W (i + 1) = i + 1 := W_in (by omega)
    rw [hd, hb, hw]
    left
    refine ⟨⟨own, n, xs, mPut (key (atO xs i)) i es, i + 1⟩, rfl, ⟨by simp only; omega, h1, h2⟩, by simp only; omega, ?_⟩
    unfold peO
    simp only [hdx, atsL]
  · have hd : decide (i < (n : Int)) = false := by simpa using hi
    rw [hd]
    right
    have hn : xs.drop i.toNat = [] := List.drop_eq_nil_of_le (by omega)
    unfold peO
    simp only [hn, atsL]
    exact ⟨trivial, by simp⟩
def peS (st : St) : Option (Ans (Exit × St)) :=
  match sized st 28 2, tAt st 2, tAt st 3, tAt st 5, tAt st 16, tAt st 17, tAt st 18, st.mem with
  | true, some (.map none), some (.int .i64 0), some (.map (some 1)), some (.slice (some ⟨0, 0, some 0⟩) n 12), some (.int .i64 ln), some (.int .i64 i), [.rows own true 12 n2 row, .mp false 12 es] => some (.br (Nat.beq n n2 && (okOps n row && (decide ((n : Int) = ln) && (decide (0 ≤ i) && (decide ((n : Int) ≤ 4611686018427387904)))))) (.out (.exit 0, stOf 28 [(2, .map none), (3, vI 0), (5, .map (some 1))] [.rows own true 12 n (opRow (opsOf n row)), .mp false 12 (atsL ((opsOf n row).drop i.toNat) i es)])) .fail)
  | _, _, _, _, _, _, _, _ => none
theorem peK {st : St} {ans : Ans (Exit × St)} {e_ : Exit} {s_ : St} (h : peS st = some ans) (hr : ans.res = some (e_, s_)) : LoopSem Try.prog 1 (peX Try.prog) st e_ s_ := by
  unfold peS at h
  split at h
  · rename_i n ln i own n2 row es hb hs0 hs1 hs2 hs3 hs4 hs5 hm
    simp only [Option.some.injEq] at h
    subst h
    rcases Ans.br_some hr with ⟨hc, hr1⟩ | ⟨_, hr1⟩
    · clear hr
      simp only [Bool.and_eq_true] at hc
      obtain ⟨ht0, ht1, ht2, ht3, ht4⟩ := hc
      have ht0 := beq_len ht0
      subst ht0
      have ht2 : (n : Int) = ln := by simpa using ht2
      subst ht2
      have hinv : 0 ≤ i ∧ (n : Int) ≤ 4611686018427387904 ∧ (opsOf n row).length = n := by
        exact ⟨by simpa using ht3, by simpa using ht4, opsOf_length n row⟩
      have hk := stOf_keep hb [(2, .map none), (3, vI 0), (5, .map (some 1)), (16, .slice (some ⟨0, 0, some 0⟩) n 12), (17, vI n), (18, vI i)] (by
        intro x hx
        simp only [List.mem_cons, List.not_mem_nil, or_false] at hx
        rcases hx with rfl | rfl | rfl | rfl | rfl | rfl
        · exact hs0
        · exact hs1
        · exact hs2
        · exact hs3
        · exact hs4
        · exact hs5) hm
      have key := peL own n (opsOf n row) es i hinv
      unfold peH at key
      have key := LoopSem.like (m := [.rows own true 12 n row, .mp false 12 es]) key ⟨.rows (ops_like ht1), .refl _, trivial⟩
      have key : LoopSem Try.prog 1 (peX Try.prog) (stOf 28 [(2, .map none), (3, vI 0), (5, .map (some 1)), (16, .slice (some ⟨0, 0, some 0⟩) n 12), (17, vI n), (18, vI i)] [.rows own true 12 n row, .mp false 12 es]) _ _ := key
      rw [← hk] at key
      have key := LoopSem.clean key
      unfold peO at key
      simp only [Ans.res, Option.some.injEq, Prod.mk.injEq] at hr1
      obtain ⟨rfl, rfl⟩ := hr1
      exact key
    · simp [Ans.res] at hr1
  · cases h

def Cpe (P : Program) : Cx := (Cck P).addLB 74 6 1 peS
theorem okpe : CxOk (Cpe Try.prog) := Cx.addLB_ok okck peX_eq fun _ _ _ _ h hr => peK h hr
theorem plsE0 : exT ((Cpe Try.prog).at 74) 60 Try.f74 [.slice none 0 0] [] [.slot 0] = some (.tuple #[.map none, vI 5], [.no]) := by kernel_rfl
theorem plsE1 (own : Bool) (N : Nat) (ls : List O3) : exT ((Cpe Try.prog).at 74) 60 Try.f74 [.slice (some ⟨0, 0, some 0⟩) N 12] [.rows own true 12 N (opRow ls)] [.fix 0, .slot 0] =
    gd (oT N (opRow ls)) (match chkI (opsOf N (opRow ls)) != 0 with
      | true => some (.tuple #[.map none, vI (chkI (opsOf N (opRow ls)))], [.rows own true 12 N (opRow (opsOf N (opRow ls))), .no])
      | false => gd (lT N (opRow (opsOf N (opRow ls))) N) (some (.tuple #[.map (some 1), vI 0], [.rows own true 12 N (opRow (opsOf N (opRow (opsOf N (opRow ls))))), .mp false 12 (atsL ((opsOf N (opRow (opsOf N (opRow ls)))).drop (0 : Int).toNat) 0 [])]))) := by kernel_rfl
theorem lT_ok {n : Nat} {xs : List O3} (hn : n ≤ 4611686018427387904) : lT n (opRow xs) n = true := by
  unfold lT
  rw [Nat.beq_refl, okOps_opRow]
  simp; omega
def plsF : List Value → Mem → Option (Ans (Value × Mem))
  | [.slice none 0 0], [] => some (.out (.tuple #[.map none, vI 5], [.no]))
  | [.slice (some ⟨0, 0, some 0⟩) N 12], [.rows own true 12 N2 row] => some (.br (Nat.beq N N2 && (okOps N row && decide (N ≤ 4611686018427387904))) (.br (chkI (opsOf N row) != 0) (.out (.tuple #[.map none, vI (chkI (opsOf N row))], [.rows own true 12 N (opRow (opsOf N row)), .no])) (.out (.tuple #[.map (some 1), vI 0], [.rows own true 12 N (opRow (opsOf N row)), .mp false 12 (atsL (opsOf N row) 0 [])]))) .fail)
  | _, _ => none
def Cpls (P : Program) : Cx := (Cpe P).addF 74 plsF
theorem okpls : CxOk (Cpls Try.prog) := Cx.addF_ok okpe fun args m ans v m' h hr => by
  unfold plsF at h
  split at h
  · simp only [Option.some.injEq] at h
    subst h
    simp only [Ans.res, Option.some.injEq, Prod.mk.injEq] at hr
    obtain ⟨rfl, rfl⟩ := hr
    exact exT_ok okpe Try.func74 (by kernel_rfl) plsE0
  · rename_i N own N2 row
    simp only [Option.some.injEq] at h
    subst h
    rcases Ans.br_some hr with ⟨hc, hr1⟩ | ⟨_, hr1⟩
    rotate_left
    · simp [Ans.res] at hr1
    clear hr
    simp only [Bool.and_eq_true, decide_eq_true_eq] at hc
    obtain ⟨c1, c2, c3⟩ := hc
    have c1 := beq_len c1
    subst c1
    have hl := opsOf_length N row
    have hE := plsE1 own N (opsOf N row)
    rw [opsOf_row hl, opsOf_row hl, oT_ok, lT_ok c3] at hE
    simp only [gd_true, Int.toNat_zero, List.drop_zero] at hE
    rcases Ans.br_some hr1 with ⟨hq, hr2⟩ | ⟨hq, hr2⟩
    · rw [hq] at hE
      simp only [Ans.res, Option.some.injEq, Prod.mk.injEq] at hr2
      obtain ⟨rfl, rfl⟩ := hr2
      exact (exT_ok okpe Try.func74 (by kernel_rfl) hE).like ⟨.rows (ops_like c2), trivial⟩
    · rw [hq] at hE
      simp only [Ans.res, Option.some.injEq, Prod.mk.injEq] at hr2
      obtain ⟨rfl, rfl⟩ := hr2
      exact (exT_ok okpe Try.func74 (by kernel_rfl) hE).like ⟨.rows (ops_like c2), trivial⟩
  · cases h
/-! Find -/
def fndV (X : List O3) (o : O3) : Int := bif leastN (chkI X) o.ck == 0 then (bif mHas (key o) (atsL X 0 []) then mGet (key o) (atsL X 0 []) else 0) else 0
def fndE (X : List O3) (o : O3) : Int := bif leastN (chkI X) o.ck == 0 then (bif mHas (key o) (atsL X 0 []) then 0 else 9) else leastN (chkI X) o.ck
def twoI (a b : Int) : Value := .tuple #[vI a, vI b]
theorem fndE0 (o : O3) : exT ((Cpls Try.prog).at 35) 60 Try.f35 [.slice none 0 0, o.v] [] [] = (match leastN 5 o.ck != 0 with
    | true => some (twoI 0 (leastN 5 o.ck), [])
    | false => none) := by kernel_rfl
theorem fndE1 (own : Bool) (N : Nat) (ls : List O3) (o : O3) : exT ((Cpls Try.prog).at 35) 60 Try.f35 [.slice (some ⟨0, 0, some 0⟩) N 12, o.v] [.rows own true 12 N (opRow ls)] [.fix 0] =
    gd (Nat.beq N N && (okOps N (opRow ls) && decide (N ≤ 4611686018427387904))) (match chkI (opsOf N (opRow ls)) != 0 with
      | true => match leastN (chkI (opsOf N (opRow ls))) o.ck != 0 with
        | true => some (twoI 0 (leastN (chkI (opsOf N (opRow ls))) o.ck), [.rows own true 12 N (opRow (opsOf N (opRow ls)))])
        | false => none
      | false => match leastN 0 o.ck != 0 with
        | true => some (twoI 0 (leastN 0 o.ck), [.rows own true 12 N (opRow (opsOf N (opRow ls)))])
        | false => match !(mHas (key o) (atsL (opsOf N (opRow ls)) 0 [])) with
          | true => some (twoI 0 9, [.rows own true 12 N (opRow (opsOf N (opRow ls)))])
          | false => some (twoI (mGet (key o) (atsL (opsOf N (opRow ls)) 0 [])) 0, [.rows own true 12 N (opRow (opsOf N (opRow ls)))])) := by kernel_rfl
end Go.Proofs.Ytjpfnfckpgilgaa


namespace Go.Proofs.Ytjpfnfckpgilgaa
open Go Vx
theorem leastN_zero {a b : Int} : leastN a b = 0 ↔ a = 0 ∧ b = 0 := by
  unfold leastN
  by_cases ha : a = 0
  · subst ha; simp
  · rw [(bif_beq ha).1]
    by_cases hb : b = 0
    · subst hb; simp [ha]
    · rw [(bif_beq hb).2]
      by_cases hl : b < a <;> simp [hl, ha, hb]
def fndF : List Value → Mem → Option (Ans (Value × Mem))
  | [.slice none 0 0, .agg co], [] => match opCells co.toList with
    | some o => some (.br (leastN 5 o.ck != 0) (.out (twoI 0 (leastN 5 o.ck), [])) .fail)
    | none => none
  | [.slice (some ⟨0, 0, some 0⟩) N 12, .agg co], [.rows own true 12 N2 row] => match opCells co.toList with
    | some o => some (.br (Nat.beq N N2 && (okOps N row && decide (N ≤ 4611686018427387904))) (.out (twoI (fndV (opsOf N row) o) (fndE (opsOf N row) o), [.rows own true 12 N (opRow (opsOf N row))])) .fail)
    | none => none
  | _, _ => none
theorem fndE2 (own : Bool) (N : Nat) (ls : List O3) (o : O3) (hl : ls.length = N) (hN : N ≤ 4611686018427387904) : exT ((Cpls Try.prog).at 35) 60 Try.f35 [.slice (some ⟨0, 0, some 0⟩) N 12, o.v] [.rows own true 12 N (opRow ls)] [.fix 0] = some (twoI (fndV ls o) (fndE ls o), [.rows own true 12 N (opRow ls)]) := by
  have ht : (Nat.beq N N && (okOps N (opRow ls) && decide (N ≤ 4611686018427387904))) = true := by rw [Nat.beq_refl, okOps_opRow]; simp; omega
  rw [fndE1, opsOf_row hl, ht, gd_true]
  unfold fndV fndE
  by_cases h : leastN (chkI ls) o.ck = 0
  · obtain ⟨h1, h2⟩ := leastN_zero.1 h
    rw [h1, h2]
    cases mHas (key o) (atsL ls 0 []) <;> rfl
  · rw [(bif_beq h).1]
    by_cases h1 : chkI ls = 0
    · rw [h1] at h ⊢
      rw [(bif_beq h).2]; rfl
    · rw [(bif_beq h1).2, (bif_beq h).2]; rfl
def Cfn (P : Program) : Cx := (Cpls P).addF 35 fndF
theorem okfn : CxOk (Cfn Try.prog) := Cx.addF_ok okpls fun args m ans v m' h hr => by
  unfold fndF at h
  split at h
  · rename_i co
    split at h
    · rename_i o ho
      simp only [Option.some.injEq] at h
      subst h
      rcases Ans.br_some hr with ⟨hc, hr1⟩ | ⟨_, hr1⟩
      · simp only [Ans.res, Option.some.injEq, Prod.mk.injEq] at hr1
        obtain ⟨rfl, rfl⟩ := hr1
        have e1 : co = o.cells.toArray := by rw [← opCells_spec ho]
        subst e1
        have hE := fndE0 o
        rw [hc] at hE
        exact exT_ok okpls Try.func35 (by kernel_rfl) hE
      · simp [Ans.res] at hr1
    · cases h
  · rename_i N co own N2 row
    split at h
    · rename_i o ho
      simp only [Option.some.injEq] at h
      subst h
      rcases Ans.br_some hr with ⟨hc, hr1⟩ | ⟨_, hr1⟩
      · clear hr
        simp only [Bool.and_eq_true, decide_eq_true_eq] at hc
        obtain ⟨c1, c2, c3⟩ := hc
        have c1 := beq_len c1
        subst c1
        simp only [Ans.res, Option.some.injEq, Prod.mk.injEq] at hr1
        obtain ⟨rfl, rfl⟩ := hr1
        have e1 : co = o.cells.toArray := by rw [← opCells_spec ho]
        subst e1
        exact (exT_ok okpls Try.func35 (by kernel_rfl) (fndE2 own N (opsOf N row) o (opsOf_length N row) c3)).like ⟨.rows (ops_like c2), trivial⟩
      · simp [Ans.res] at hr1
    · cases h
  · cases h
/-- Is a list in order, behind a map? -/
def ordF : O3 → List O3 → Bool
  | _, [] => true
  | p, x :: l => match decide (lexI p.l x.l ≥ 0) with
    | true => false
    | false => ordF x l
/-- Are all maps of a list, then a, among these? -/
def inMul (a : O3) (X : List O3) : List O3 → Bool
  | [] => true
  | b :: l => match decide (placeI X (a.mul5 b) < 0) with
    | true => false
    | false => inMul a X l
def inAll (X : List O3) : List O3 → Bool
  | [] => true
  | a :: l => match inMul a X X with
    | true => inAll X l
    | false => false

def ocX (P : Program) : Code := (loopsOf P 66 7).headD .skip
theorem ocX_eq : loopsOf Try.prog 66 7 = [ocX Try.prog] := by kernel_rfl
def ocH (own : Bool) (n : Nat) (xs : List O3) (i : Int) : St := stOf 58 [(0, .slice (some ⟨0, 0, some 0⟩) n 12), (2, vI 0), (4, vI i)] [.rows own true 12 n (opRow xs)]
theorem ocR (own : Bool) (n : Nat) (xs : List O3) (i : Int) : roundR ((Cfn Try.prog).into 66 1) 40 (ocX Try.prog) [0, 2, 4] [0, 2] [.fix 0] [.fix 0] (ocH own n xs i) =
    (match decide (i < (n : Int)) with
    | true => match boundsI (W (i - 1)) n with
      | true => match boundsI i n with
        | true => match decide (lexI (atO xs (W (i - 1))).l (atO xs i).l ≥ 0) with
          | true => some (.ret, stOf 58 [(0, .slice (some ⟨0, 0, some 0⟩) n 12), (2, vI 5)] [.rows own true 12 n (opRow xs)])
          | false => some (.normal, ocH own n xs (W (i + 1)))
        | false => none
      | false => none
    | false => some (.exit 0, stOf 58 [(0, .slice (some ⟨0, 0, some 0⟩) n 12), (2, vI 0)] [.rows own true 12 n (opRow xs)])) := by kernel_rfl
structure ocG where
  (own : Bool) (n : Nat) (xs : List O3) (i : Int)
def ocO (own : Bool) (n : Nat) (xs : List O3) (i : Int) : Exit × St :=
  match ordF (atO xs (i - 1)) (xs.drop i.toNat) with
  | true => (.exit 0, stOf 58 [(0, .slice (some ⟨0, 0, some 0⟩) n 12), (2, vI 0)] [.rows own true 12 n (opRow xs)])
  | false => (.ret, stOf 58 [(0, .slice (some ⟨0, 0, some 0⟩) n 12), (2, vI 5)] [.rows own true 12 n (opRow xs)])
theorem ocL (own : Bool) (n : Nat) (xs : List O3) (i : Int) (hg : 1 ≤ i ∧ (n : Int) ≤ 4611686018427387904 ∧ xs.length = n) : LoopSem Try.prog 1 (ocX Try.prog) (ocH own n xs i) (ocO own n xs i).1 (ocO own n xs i).2 := by
  refine loop_rule (C := Cfn Try.prog) okfn (f := 66) (B := 1) (loopsOf_in (k := 7) ocX_eq) 40 [0, 2, 4] [0, 2] [.fix 0] [.fix 0] (fun g : ocG => ocH g.own g.n g.xs g.i) (fun g => (g.n - g.i).toNat) (fun g => 1 ≤ g.i ∧ (g.n : Int) ≤ 4611686018427387904 ∧ g.xs.length = g.n) (fun g => ocO g.own g.n g.xs g.i) ?_ ⟨own, n, xs, i⟩ hg
  clear hg
  rintro ⟨own, n, xs, i⟩ hg
  simp only at hg
  simp only [ocR]
  obtain ⟨h0, h1, h2⟩ := hg
  by_cases hi : i < (n : Int)
  · have hd : decide (i < (n : Int)) = true := by simpa using hi
    have hb : boundsI i n = true := by simp [boundsI, hi]; omega
    have hw1 : W (i - 1) = i - 1 := W_in (by omega)
    have hb1 : boundsI (i - 1) n = true := by simp [boundsI]; omega
    have hdx := drop_at (xs := xs) (i := i) (by omega) (by omega)
    have hw : W (i + 1) = i + 1 := W_in (by omega)
    rw [hw1, hd, hb, hb1, hw]
    simp only
    cases he : decide (lexI (atO xs (i - 1)).l (atO xs i).l ≥ 0) with
    | true =>
      right
      unfold ocO
      simp only [hdx, ordF, he]
      exact ⟨trivial, by simp⟩
    | false =>
      left
      refine ⟨⟨own, n, xs, i + 1⟩, rfl, ⟨by simp only; omega, h1, h2⟩, by simp only; omega, ?_⟩
      unfold ocO
      simp only [hdx, ordF, he, show i + 1 - 1 = i by omega]
  · have hd : decide (i < (n : Int)) = false := by simpa using hi
    rw [hd]
    right
    have hn : xs.drop i.toNat = [] := List.drop_eq_nil_of_le (by omega)
    unfold ocO
    simp only [hn, ordF]
    exact ⟨trivial, by simp⟩
def ocS (st : St) : Option (Ans (Exit × St)) :=
  match sized st 58 1, tAt st 0, tAt st 2, tAt st 4, st.mem with
  | true, some (.slice (some ⟨0, 0, some 0⟩) n 12), some (.int .i64 0), some (.int .i64 i), [.rows own true 12 n2 row] => some (.br (Nat.beq n n2 && (okOps n row && (decide (1 ≤ i) && (decide ((n : Int) ≤ 4611686018427387904))))) (.br (ordF (atO (opsOf n row) (i - 1)) ((opsOf n row).drop i.toNat))
      (.out (.exit 0, stOf 58 [(0, .slice (some ⟨0, 0, some 0⟩) n 12), (2, vI 0)] [.rows own true 12 n (opRow (opsOf n row))]))
      (.out (.ret, stOf 58 [(0, .slice (some ⟨0, 0, some 0⟩) n 12), (2, vI 5)] [.rows own true 12 n (opRow (opsOf n row))]))) .fail)
  | _, _, _, _, _ => none
theorem ocK {st : St} {ans : Ans (Exit × St)} {e_ : Exit} {s_ : St} (h : ocS st = some ans) (hr : ans.res = some (e_, s_)) : LoopSem Try.prog 1 (ocX Try.prog) st e_ s_ := by
  unfold ocS at h
  split at h
  · rename_i n i own n2 row hb hs0 hs1 hs2 hm
    simp only [Option.some.injEq] at h
    subst h
    rcases Ans.br_some hr with ⟨hc, hr1⟩ | ⟨_, hr1⟩
    · clear hr
      simp only [Bool.and_eq_true] at hc
      obtain ⟨ht0, ht1, ht2, ht3⟩ := hc
      have ht0 := beq_len ht0
      subst ht0
      have hinv : 1 ≤ i ∧ (n : Int) ≤ 4611686018427387904 ∧ (opsOf n row).length = n := by
        exact ⟨by simpa using ht2, by simpa using ht3, opsOf_length n row⟩
      have hk := stOf_keep hb [(0, .slice (some ⟨0, 0, some 0⟩) n 12), (2, vI 0), (4, vI i)] (by
        intro x hx
        simp only [List.mem_cons, List.not_mem_nil, or_false] at hx
        rcases hx with rfl | rfl | rfl
        · exact hs0
        · exact hs1
        · exact hs2) hm
      have key := ocL own n (opsOf n row) i hinv
      unfold ocH at key
      have key := LoopSem.like (m := [.rows own true 12 n row]) key ⟨.rows (ops_like ht1), trivial⟩
      have key : LoopSem Try.prog 1 (ocX Try.prog) (stOf 58 [(0, .slice (some ⟨0, 0, some 0⟩) n 12), (2, vI 0), (4, vI i)] [.rows own true 12 n row]) _ _ := key
      rw [← hk] at key
      have key := LoopSem.clean key
      unfold ocO at key
      rcases Ans.br_some hr1 with ⟨hq, hr1⟩ | ⟨hq, hr1⟩
      · simp only [hq] at key
        simp only [Ans.res, Option.some.injEq, Prod.mk.injEq] at hr1
        obtain ⟨rfl, rfl⟩ := hr1
        exact key
      · simp only [hq] at key
        simp only [Ans.res, Option.some.injEq, Prod.mk.injEq] at hr1
        obtain ⟨rfl, rfl⟩ := hr1
        exact key
    · simp [Ans.res] at hr1
  · cases h

def ciX (P : Program) : Code := (loopsOf P 66 17).headD .skip
theorem ciX_eq : loopsOf Try.prog 66 17 = [ciX Try.prog] := by kernel_rfl
def ciH (own : Bool) (n : Nat) (xs : List O3) (a : O3) (i : Int) (j : Int) : St := stOf 58 [(0, .slice (some ⟨0, 0, some 0⟩) n 12), (2, vI 0), (6, .pointer (some ⟨1, 0, none⟩)), (38, .slice (some ⟨0, 0, some 0⟩) n 12), (39, vI n), (40, vI i), (44, .slice (some ⟨0, 0, some 0⟩) n 12), (45, vI n), (46, vI j)] [.rows own true 12 n (opRow xs), .cells true 0 a.cells]
theorem ciR (own : Bool) (n : Nat) (xs : List O3) (a : O3) (i : Int) (j : Int) : roundR ((Cfn Try.prog).into 66 1) 40 (ciX Try.prog) [0, 2, 6, 38, 39, 40, 44, 45, 46] [0, 2, 38, 39, 40] [.fix 0, .fix 1] [.fix 0] (ciH own n xs a i j) =
    (match decide (j < (n : Int)) with
    | true => match boundsI j n with
      | true => match (Nat.beq n n && (okOps n (opRow xs) && decide (n ≤ 4611686018427387904))) with
        | true => match decide (placeI (opsOf n (opRow xs)) (a.mul5 (atO xs j)) < 0) with
          | true => some (.ret, stOf 58 [(0, .slice (some ⟨0, 0, some 0⟩) n 12), (2, vI 5), (38, .slice (some ⟨0, 0, some 0⟩) n 12), (39, vI n), (40, vI i)] [.rows own true 12 n (opRow (opsOf n (opRow xs)))])
          | false => some (.normal, ciH own n (opsOf n (opRow xs)) a i (W (j + 1)))
        | false => none
      | false => none
    | false => some (.exit 4, stOf 58 [(0, .slice (some ⟨0, 0, some 0⟩) n 12), (2, vI 0), (38, .slice (some ⟨0, 0, some 0⟩) n 12), (39, vI n), (40, vI i)] [.rows own true 12 n (opRow xs)])) := by kernel_rfl
structure ciG where
  (own : Bool) (n : Nat) (xs : List O3) (a : O3) (i : Int) (j : Int)
def ciO (own : Bool) (n : Nat) (xs : List O3) (a : O3) (i : Int) (j : Int) : Exit × St :=
  match inMul a xs (xs.drop j.toNat) with
  | true => (.exit 4, stOf 58 [(0, .slice (some ⟨0, 0, some 0⟩) n 12), (2, vI 0), (38, .slice (some ⟨0, 0, some 0⟩) n 12), (39, vI n), (40, vI i)] [.rows own true 12 n (opRow xs)])
  | false => (.ret, stOf 58 [(0, .slice (some ⟨0, 0, some 0⟩) n 12), (2, vI 5), (38, .slice (some ⟨0, 0, some 0⟩) n 12), (39, vI n), (40, vI i)] [.rows own true 12 n (opRow xs)])
theorem ciL (own : Bool) (n : Nat) (xs : List O3) (a : O3) (i : Int) (j : Int) (hg : 0 ≤ j ∧ (n : Int) ≤ 4611686018427387904 ∧ xs.length = n) : LoopSem Try.prog 1 (ciX Try.prog) (ciH own n xs a i j) (ciO own n xs a i j).1 (ciO own n xs a i j).2 := by
  refine loop_rule (C := Cfn Try.prog) okfn (f := 66) (B := 1) (loopsOf_in (k := 17) ciX_eq) 40 [0, 2, 6, 38, 39, 40, 44, 45, 46] [0, 2, 38, 39, 40] [.fix 0, .fix 1] [.fix 0] (fun g : ciG => ciH g.own g.n g.xs g.a g.i g.j) (fun g => (g.n - g.j).toNat) (fun g => 0 ≤ g.j ∧ (g.n : Int) ≤ 4611686018427387904 ∧ g.xs.length = g.n) (fun g => ciO g.own g.n g.xs g.a g.i g.j) ?_ ⟨own, n, xs, a, i, j⟩ hg
  clear hg
  rintro ⟨own, n, xs, a, i, j⟩ hg
  simp only at hg
  simp only [ciR]
  obtain ⟨h0, h1, h2⟩ := hg
  rw [opsOf_row h2]
  by_cases hi : j < (n : Int)
  · have hd : decide (j < (n : Int)) = true := by simpa using hi
    have hb : boundsI j n = true := by simp [boundsI, h0, hi]
    have ht : (Nat.beq n n && (okOps n (opRow xs) && decide (n ≤ 4611686018427387904))) = true := by rw [Nat.beq_refl, okOps_opRow]; simp; omega
    have hdx := drop_at (xs := xs) h0 (by omega)
    have hw : W (j + 1) = j + 1 := W_in (by omega)
    rw [hd, hb, ht, hw]
    simp only
    cases he : decide (placeI xs (a.mul5 (atO xs j)) < 0) with
    | true =>
      right
      unfold ciO
      simp only [hdx, inMul, he]
      exact ⟨trivial, by simp⟩
    | false =>
      left
      refine ⟨⟨own, n, xs, a, i, j + 1⟩, rfl, ⟨by simp only; omega, h1, h2⟩, by simp only; omega, ?_⟩
      unfold ciO
      simp only [hdx, inMul, he]
  · have hd : decide (j < (n : Int)) = false := by simpa using hi
    rw [hd]
    right
    have hn : xs.drop j.toNat = [] := List.drop_eq_nil_of_le (by omega)
    unfold ciO
    simp only [hn, inMul]
    exact ⟨trivial, by simp⟩
def ciS (st : St) : Option (Ans (Exit × St)) :=
  match sized st 58 2, tAt st 0, tAt st 2, tAt st 6, tAt st 38, tAt st 39, tAt st 40, tAt st 44, tAt st 45, tAt st 46, st.mem with
  | true, some (.slice (some ⟨0, 0, some 0⟩) n 12), some (.int .i64 0), some (.pointer (some ⟨1, 0, none⟩)), some (.slice (some ⟨0, 0, some 0⟩) n3 12), some (.int .i64 l1), some (.int .i64 i), some (.slice (some ⟨0, 0, some 0⟩) n4 12), some (.int .i64 l2), some (.int .i64 j), [.rows own true 12 n2 row, .cells true 0 co] => some (.br (Nat.beq n n2 && (okOps n row && (Nat.beq n n3 && (Nat.beq n n4 && (decide ((n : Int) = l1) && (decide ((n : Int) = l2) && (decide (0 ≤ j) && (decide ((n : Int) ≤ 4611686018427387904) && (isO co))))))))) (.br (inMul (decO co) (opsOf n row) ((opsOf n row).drop j.toNat))
      (.out (.exit 4, stOf 58 [(0, .slice (some ⟨0, 0, some 0⟩) n 12), (2, vI 0), (38, .slice (some ⟨0, 0, some 0⟩) n 12), (39, vI n), (40, vI i)] [.rows own true 12 n (opRow (opsOf n row))]))
      (.out (.ret, stOf 58 [(0, .slice (some ⟨0, 0, some 0⟩) n 12), (2, vI 5), (38, .slice (some ⟨0, 0, some 0⟩) n 12), (39, vI n), (40, vI i)] [.rows own true 12 n (opRow (opsOf n row))]))) .fail)
  | _, _, _, _, _, _, _, _, _, _, _ => none
theorem ciK {st : St} {ans : Ans (Exit × St)} {e_ : Exit} {s_ : St} (h : ciS st = some ans) (hr : ans.res = some (e_, s_)) : LoopSem Try.prog 1 (ciX Try.prog) st e_ s_ := by
  unfold ciS at h
  split at h
  · rename_i n n3 l1 i n4 l2 j own n2 row co hb hs0 hs1 hs2 hs3 hs4 hs5 hs6 hs7 hs8 hm
    simp only [Option.some.injEq] at h
    subst h
    rcases Ans.br_some hr with ⟨hc, hr1⟩ | ⟨_, hr1⟩
    · clear hr
      simp only [Bool.and_eq_true] at hc
      obtain ⟨ht0, ht1, ht2, ht3, ht4, ht5, ht6, ht7, ht8⟩ := hc
      have ht0 := beq_len ht0
      have ht2 := beq_len ht2
      have ht3 := beq_len ht3
      have ht4 : (n : Int) = l1 := by simpa using ht4
      have ht5 : (n : Int) = l2 := by simpa using ht5
      subst ht0 ht2 ht3 ht4 ht5
      have hinv : 0 ≤ j ∧ (n : Int) ≤ 4611686018427387904 ∧ (opsOf n row).length = n := by
        exact ⟨by simpa using ht6, by simpa using ht7, opsOf_length n row⟩
      have hk := stOf_keep hb [(0, .slice (some ⟨0, 0, some 0⟩) n 12), (2, vI 0), (6, .pointer (some ⟨1, 0, none⟩)), (38, .slice (some ⟨0, 0, some 0⟩) n 12), (39, vI n), (40, vI i), (44, .slice (some ⟨0, 0, some 0⟩) n 12), (45, vI n), (46, vI j)] (by
        intro x hx
        simp only [List.mem_cons, List.not_mem_nil, or_false] at hx
        rcases hx with rfl | rfl | rfl | rfl | rfl | rfl | rfl | rfl | rfl
        · exact hs0
        · exact hs1
        · exact hs2
        · exact hs3
        · exact hs4
        · exact hs5
        · exact hs6
        · exact hs7
        · exact hs8) hm
      have key := ciL own n (opsOf n row) (decO co) i j hinv
      unfold ciH at key
      have key := LoopSem.like (m := [.rows own true 12 n row, .cells true 0 co]) key ⟨.rows (ops_like ht1), like_dec ht8, trivial⟩
      have key : LoopSem Try.prog 1 (ciX Try.prog) (stOf 58 [(0, .slice (some ⟨0, 0, some 0⟩) n 12), (2, vI 0), (6, .pointer (some ⟨1, 0, none⟩)), (38, .slice (some ⟨0, 0, some 0⟩) n 12), (39, vI n), (40, vI i), (44, .slice (some ⟨0, 0, some 0⟩) n 12), (45, vI n), (46, vI j)] [.rows own true 12 n row, .cells true 0 co]) _ _ := key
      rw [← hk] at key
      have key := LoopSem.clean key
      unfold ciO at key
      rcases Ans.br_some hr1 with ⟨hq, hr1⟩ | ⟨hq, hr1⟩
      · simp only [hq] at key
        simp only [Ans.res, Option.some.injEq, Prod.mk.injEq] at hr1
        obtain ⟨rfl, rfl⟩ := hr1
        exact key
      · simp only [hq] at key
        simp only [Ans.res, Option.some.injEq, Prod.mk.injEq] at hr1
        obtain ⟨rfl, rfl⟩ := hr1
        exact key
    · simp [Ans.res] at hr1
  · cases h

def Cci (P : Program) : Cx := ((Cfn P).addLB 66 7 1 ocS).addLB 66 17 1 ciS
theorem okci : CxOk (Cci Try.prog) := Cx.addLB_ok (Cx.addLB_ok okfn ocX_eq fun _ _ _ _ h hr => ocK h hr) ciX_eq fun _ _ _ _ h hr => ciK h hr
def ciT (n : Nat) (row : Nat → List Value) (co : List Value) : Bool := Nat.beq n n && (okOps n row && (Nat.beq n n && (Nat.beq n n && (decide ((n : Int) = (n : Int)) && (decide ((n : Int) = (n : Int)) && (decide ((0 : Int) ≤ 0) && (decide ((n : Int) ≤ 4611686018427387904) && isO co)))))))

def cuX (P : Program) : Code := (loopsOf P 66 14).headD .skip
theorem cuX_eq : loopsOf Try.prog 66 14 = [cuX Try.prog] := by kernel_rfl
def cuH (own : Bool) (n : Nat) (xs : List O3) (i : Int) : St := stOf 58 [(0, .slice (some ⟨0, 0, some 0⟩) n 12), (2, vI 0), (38, .slice (some ⟨0, 0, some 0⟩) n 12), (39, vI n), (40, vI i)] [.rows own true 12 n (opRow xs)]
theorem cuR (own : Bool) (n : Nat) (xs : List O3) (i : Int) : roundR ((Cci Try.prog).into 66 1) 40 (cuX Try.prog) [0, 2, 38, 39, 40] [0, 2] [.fix 0] [.fix 0] (cuH own n xs i) =
    (match decide (i < (n : Int)) with
    | true => match boundsI i n with
      | true => match ciT n (opRow xs) (atO xs i).cells with
        | true => match inMul (decO (atO xs i).cells) (opsOf n (opRow xs)) ((opsOf n (opRow xs)).drop (0 : Int).toNat) with
          | true => some (.normal, cuH own n (opsOf n (opRow xs)) (W (i + 1)))
          | false => some (.ret, stOf 58 [(0, .slice (some ⟨0, 0, some 0⟩) n 12), (2, vI 5)] [.rows own true 12 n (opRow (opsOf n (opRow xs)))])
        | false => none
      | false => none
    | false => some (.exit 2, stOf 58 [(0, .slice (some ⟨0, 0, some 0⟩) n 12), (2, vI 0)] [.rows own true 12 n (opRow xs)])) := by kernel_rfl
structure cuG where
  (own : Bool) (n : Nat) (xs : List O3) (i : Int)
def cuO (own : Bool) (n : Nat) (xs : List O3) (i : Int) : Exit × St :=
  match inAll xs (xs.drop i.toNat) with
  | true => (.exit 2, stOf 58 [(0, .slice (some ⟨0, 0, some 0⟩) n 12), (2, vI 0)] [.rows own true 12 n (opRow xs)])
  | false => (.ret, stOf 58 [(0, .slice (some ⟨0, 0, some 0⟩) n 12), (2, vI 5)] [.rows own true 12 n (opRow xs)])
theorem cuL (own : Bool) (n : Nat) (xs : List O3) (i : Int) (hg : 0 ≤ i ∧ (n : Int) ≤ 4611686018427387904 ∧ xs.length = n) : LoopSem Try.prog 1 (cuX Try.prog) (cuH own n xs i) (cuO own n xs i).1 (cuO own n xs i).2 := by
  refine loop_rule (C := Cci Try.prog) okci (f := 66) (B := 1) (loopsOf_in (k := 14) cuX_eq) 40 [0, 2, 38, 39, 40] [0, 2] [.fix 0] [.fix 0] (fun g : cuG => cuH g.own g.n g.xs g.i) (fun g => (g.n - g.i).toNat) (fun g => 0 ≤ g.i ∧ (g.n : Int) ≤ 4611686018427387904 ∧ g.xs.length = g.n) (fun g => cuO g.own g.n g.xs g.i) ?_ ⟨own, n, xs, i⟩ hg
  clear hg
  rintro ⟨own, n, xs, i⟩ hg
  simp only at hg
  simp only [cuR]
  obtain ⟨h0, h1, h2⟩ := hg
  rw [opsOf_row h2, decO_cells]
  by_cases hi : i < (n : Int)
  · have hd : decide (i < (n : Int)) = true := by simpa using hi
    have hb : boundsI i n = true := by simp [boundsI, h0, hi]
    have ht : ciT n (opRow xs) (atO xs i).cells = true := by unfold ciT; rw [Nat.beq_refl, okOps_opRow, isO_cells]; simp; omega
    have hdx := drop_at (xs := xs) h0 (by omega)
    have hw : W (i + 1) = i + 1 := W_in (by omega)
    rw [hd, hb, ht, hw]
    simp only [Int.toNat_zero, List.drop_zero]
    cases he : inMul (atO xs i) xs xs with
    | true =>
      left
      refine ⟨⟨own, n, xs, i + 1⟩, rfl, ⟨by simp only; omega, h1, h2⟩, by simp only; omega, ?_⟩
      unfold cuO
      simp only [hdx, inAll, he]
    | false =>
      right
      unfold cuO
      simp only [hdx, inAll, he]
      exact ⟨trivial, by simp⟩
  · have hd : decide (i < (n : Int)) = false := by simpa using hi
    rw [hd]
    right
    have hn : xs.drop i.toNat = [] := List.drop_eq_nil_of_le (by omega)
    unfold cuO
    simp only [hn, inAll]
    exact ⟨trivial, by simp⟩
def cuS (st : St) : Option (Ans (Exit × St)) :=
  match sized st 58 1, tAt st 0, tAt st 2, tAt st 38, tAt st 39, tAt st 40, st.mem with
  | true, some (.slice (some ⟨0, 0, some 0⟩) n 12), some (.int .i64 0), some (.slice (some ⟨0, 0, some 0⟩) n3 12), some (.int .i64 l1), some (.int .i64 i), [.rows own true 12 n2 row] => some (.br (Nat.beq n n2 && (okOps n row && (Nat.beq n n3 && (decide ((n : Int) = l1) && (decide (0 ≤ i) && (decide ((n : Int) ≤ 4611686018427387904))))))) (.br (inAll (opsOf n row) ((opsOf n row).drop i.toNat))
      (.out (.exit 2, stOf 58 [(0, .slice (some ⟨0, 0, some 0⟩) n 12), (2, vI 0)] [.rows own true 12 n (opRow (opsOf n row))]))
      (.out (.ret, stOf 58 [(0, .slice (some ⟨0, 0, some 0⟩) n 12), (2, vI 5)] [.rows own true 12 n (opRow (opsOf n row))]))) .fail)
  | _, _, _, _, _, _, _ => none
theorem cuK {st : St} {ans : Ans (Exit × St)} {e_ : Exit} {s_ : St} (h : cuS st = some ans) (hr : ans.res = some (e_, s_)) : LoopSem Try.prog 1 (cuX Try.prog) st e_ s_ := by
  unfold cuS at h
  split at h
  · rename_i n n3 l1 i own n2 row hb hs0 hs1 hs2 hs3 hs4 hm
    simp only [Option.some.injEq] at h
    subst h
    rcases Ans.br_some hr with ⟨hc, hr1⟩ | ⟨_, hr1⟩
    · clear hr
      simp only [Bool.and_eq_true] at hc
      obtain ⟨ht0, ht1, ht2, ht3, ht4, ht5⟩ := hc
      have ht0 := beq_len ht0
      have ht2 := beq_len ht2
      have ht3 : (n : Int) = l1 := by simpa using ht3
      subst ht0 ht2 ht3
      have hinv : 0 ≤ i ∧ (n : Int) ≤ 4611686018427387904 ∧ (opsOf n row).length = n := by
        exact ⟨by simpa using ht4, by simpa using ht5, opsOf_length n row⟩
      have hk := stOf_keep hb [(0, .slice (some ⟨0, 0, some 0⟩) n 12), (2, vI 0), (38, .slice (some ⟨0, 0, some 0⟩) n 12), (39, vI n), (40, vI i)] (by
        intro x hx
        simp only [List.mem_cons, List.not_mem_nil, or_false] at hx
        rcases hx with rfl | rfl | rfl | rfl | rfl
        · exact hs0
        · exact hs1
        · exact hs2
        · exact hs3
        · exact hs4) hm
      have key := cuL own n (opsOf n row) i hinv
      unfold cuH at key
      have key := LoopSem.like (m := [.rows own true 12 n row]) key ⟨.rows (ops_like ht1), trivial⟩
      have key : LoopSem Try.prog 1 (cuX Try.prog) (stOf 58 [(0, .slice (some ⟨0, 0, some 0⟩) n 12), (2, vI 0), (38, .slice (some ⟨0, 0, some 0⟩) n 12), (39, vI n), (40, vI i)] [.rows own true 12 n row]) _ _ := key
      rw [← hk] at key
      have key := LoopSem.clean key
      unfold cuO at key
      rcases Ans.br_some hr1 with ⟨hq, hr1⟩ | ⟨hq, hr1⟩
      · simp only [hq] at key
        simp only [Ans.res, Option.some.injEq, Prod.mk.injEq] at hr1
        obtain ⟨rfl, rfl⟩ := hr1
        exact key
      · simp only [hq] at key
        simp only [Ans.res, Option.some.injEq, Prod.mk.injEq] at hr1
        obtain ⟨rfl, rfl⟩ := hr1
        exact key
    · simp [Ans.res] at hr1
  · cases h
def Ccu (P : Program) : Cx := (Cci P).addLB 66 14 1 cuS
theorem okcu : CxOk (Ccu Try.prog) := Cx.addLB_ok okci cuX_eq fun _ _ _ _ h hr => cuK h hr
end Go.Proofs.Ytjpfnfckpgilgaa


namespace Go.Proofs.Ytjpfnfckpgilgaa
open Go Vx
def r1 (own : Bool) (N : Nat) (X : List O3) (e : Int) : Option (Value × Mem) := some (vI e, [.rows own true 12 N (opRow X)])
def ocT (n : Nat) (row : Nat → List Value) : Bool := Nat.beq n n && (okOps n row && (decide ((1 : Int) ≤ 1) && decide ((n : Int) ≤ 4611686018427387904)))
def cuT (n : Nat) (row : Nat → List Value) : Bool := Nat.beq n n && (okOps n row && (Nat.beq n n && (decide ((n : Int) = (n : Int)) && (decide ((0 : Int) ≤ 0) && decide ((n : Int) ≤ 4611686018427387904)))))
def pT (n : Nat) (row : Nat → List Value) : Bool := Nat.beq n n && (okOps n row && decide (n ≤ 4611686018427387904))
def dckEnd (own : Bool) (N : Nat) (X : List O3) : Option (Value × Mem) := gd (cuT N (opRow X)) (match inAll (opsOf N (opRow X)) ((opsOf N (opRow X)).drop (0 : Int).toNat) with
  | true => r1 own N (opsOf N (opRow X)) 0
  | false => r1 own N (opsOf N (opRow X)) 5)
def dckMid (own : Bool) (N : Nat) (X : List O3) : Option (Value × Mem) := gd (pT N (opRow X)) (match decide (placeI (opsOf N (opRow X)) O3.one < 0) with
  | true => r1 own N (opsOf N (opRow X)) 5
  | false => dckEnd own N (opsOf N (opRow X)))
def dckOrd (own : Bool) (N : Nat) (X : List O3) : Option (Value × Mem) := gd (ocT N (opRow X)) (match ordF (atO (opsOf N (opRow X)) (1 - 1)) ((opsOf N (opRow X)).drop (1 : Int).toNat) with
  | true => dckMid own N (opsOf N (opRow X))
  | false => r1 own N (opsOf N (opRow X)) 5)
theorem dckE0 : exT ((Ccu Try.prog).at 66) 60 Try.f66 [.slice none 0 0] [] [] = some (vI 5, []) := by kernel_rfl
theorem dckE1 (own : Bool) (N : Nat) (ls : List O3) : exT ((Ccu Try.prog).at 66) 60 Try.f66 [.slice (some ⟨0, 0, some 0⟩) N 12] [.rows own true 12 N (opRow ls)] [.fix 0] =
    (match decide ((N : Int) > 192) with
    | true => r1 own N ls 2
    | false => gd (pT N (opRow ls)) (match leastL (opsOf N (opRow ls)) 0 != 0 with
      | true => r1 own N (opsOf N (opRow ls)) (leastL (opsOf N (opRow ls)) 0)
      | false => dckOrd own N (opsOf N (opRow ls)))) := by kernel_rfl
/-- What the document's Check answers. -/
def dckI (X : List O3) : Int := match decide ((X.length : Int) > 192) with
  | true => 2
  | false => match leastL X 0 != 0 with
    | true => leastL X 0
    | false => match ordF (atO X 0) (X.drop 1) with
      | true => match decide (placeI X O3.one < 0) with
        | true => 5
        | false => match inAll X X with
          | true => 0
          | false => 5
      | false => 5
theorem dckE (own : Bool) (N : Nat) (ls : List O3) (hl : ls.length = N) (hN : N ≤ 4611686018427387904) : exT ((Ccu Try.prog).at 66) 60 Try.f66 [.slice (some ⟨0, 0, some 0⟩) N 12] [.rows own true 12 N (opRow ls)] [.fix 0] = some (vI (dckI ls), [.rows own true 12 N (opRow ls)]) := by
  have t1 : pT N (opRow ls) = true := by unfold pT; rw [Nat.beq_refl, okOps_opRow]; simp; omega
  have t2 : ocT N (opRow ls) = true := by unfold ocT; rw [Nat.beq_refl, okOps_opRow]; simp; omega
  have t3 : cuT N (opRow ls) = true := by unfold cuT; rw [Nat.beq_refl, okOps_opRow]; simp; omega
  rw [dckE1]
  unfold dckOrd dckMid dckEnd dckI r1
  simp only [opsOf_row hl, t1, t2, t3, gd_true, Int.toNat_zero, List.drop_zero, hl, show ((1 : Int) - 1) = 0 from rfl, show (1 : Int).toNat = 1 from rfl]
  cases decide ((N : Int) > 192) with
  | true => rfl
  | false =>
    simp only
    cases leastL ls 0 != 0 with
    | true => rfl
    | false =>
      simp only
      cases ordF (atO ls 0) (ls.drop 1) with
      | false => rfl
      | true =>
        simp only
        cases decide (placeI ls O3.one < 0) with
        | true => rfl
        | false =>
          simp only
          cases inAll ls ls <;> rfl
/-! Both are one -/
theorem ordF_sorted : ∀ (l : List O3) (p : O3), ordF p l = true ↔ (p :: l).Pairwise fun a b => lexI a.l b.l < 0
  | [], p => by simp [ordF]
  | x :: l, p => by
    simp only [ordF]
    by_cases h : lexI p.l x.l ≥ 0
    · rw [decide_eq_true h]
      constructor
      · intro hf; cases hf
      · intro hp
        rw [List.pairwise_cons] at hp
        have := hp.1 x (by simp)
        omega
    · rw [decide_eq_false h]
      simp only
      rw [ordF_sorted l x]
      constructor
      · intro hp
        rw [List.pairwise_cons]
        refine ⟨fun y hy => ?_, hp⟩
        rcases List.mem_cons.1 hy with rfl | hy
        · omega
        · have h1 := (List.pairwise_cons.1 hp).1 y hy
          have h2 := lexI_trans (l := p.l) (m := x.l) (n := y.l) rfl rfl (by omega) (by omega)
          by_cases h0 : lexI p.l y.l = 0
          · have e := (lexI_zero (l := p.l) (m := y.l) rfl).1 h0
            rw [e, lexI_neg x.l y.l] at h
            omega
          · omega
      · intro hp
        exact (List.pairwise_cons.1 hp).2
theorem placeI_lt {xs : List O3} {o : O3} : decide (placeI xs o < 0) = !decide (o ∈ xs) := by
  have h := placeI_mem (xs := xs) (o := o)
  rw [← h]
  by_cases h1 : placeI xs o < 0
  · rw [decide_eq_true h1, decide_eq_false (by omega)]; rfl
  · rw [decide_eq_false h1, decide_eq_true (by omega)]; rfl
theorem inMul_iff {X : List O3} {a : O3} (ha : a.ck = 0) : ∀ (l : List O3), (∀ b ∈ l, b.ck = 0) → (inMul a X l = true ↔ ∀ b ∈ l, a.mul b ∈ X)
  | [], _ => by simp [inMul]
  | b :: l, h => by
    have hb := h b (by simp)
    simp only [inMul]
    rw [O3.mul5_eq ha hb, placeI_lt]
    by_cases hm : a.mul b ∈ X
    · simp only [decide_eq_true hm, Bool.not_true]
      rw [inMul_iff ha l fun x hx => h x (by simp [hx])]
      simp [hm]
    · simp only [decide_eq_false hm, Bool.not_false]
      constructor
      · intro hf; cases hf
      · intro hf; exact absurd (hf b (by simp)) hm
theorem inAll_iff {X : List O3} (hX : ∀ b ∈ X, b.ck = 0) : ∀ (l : List O3), (∀ b ∈ l, b.ck = 0) → (inAll X l = true ↔ ∀ a ∈ l, ∀ b ∈ X, a.mul b ∈ X)
  | [], _ => by simp [inAll]
  | a :: l, h => by
    have ha := h a (by simp)
    simp only [inAll]
    cases hm : inMul a X X with
    | true =>
      have h1 := (inMul_iff ha X hX).1 hm
      simp only
      rw [inAll_iff hX l fun x hx => h x (by simp [hx])]
      constructor
      · intro hf x hx
        rcases List.mem_cons.1 hx with rfl | hx
        · exact h1
        · exact hf x hx
      · intro hf x hx; exact hf x (by simp [hx])
    | false =>
      simp only
      constructor
      · intro hf; cases hf
      · intro hf
        have := (inMul_iff ha X hX).2 (hf a (by simp))
        rw [hm] at this; cases this
def StrictO (l : List O3) : Prop := l.Pairwise fun a b => lexI a.l b.l < 0
theorem strict_nodup {l : List O3} (h : StrictO l) : l.Nodup := h.imp fun {a b} hab e => by
  subst e
  have := (lexI_zero (l := a.l) (m := a.l) rfl).2 rfl
  omega
theorem strict_sorted {l : List O3} (h : StrictO l) : SortedO l := h.imp fun hab => by omega
theorem sorted_strict {l : List O3} (h : SortedO l) (hn : l.Nodup) : StrictO l := by
  unfold SortedO at h
  unfold StrictO
  unfold List.Nodup at hn
  refine (h.and hn).imp fun {a b} hab => ?_
  have := hab.1
  by_cases h0 : lexI a.l b.l = 0
  · exact absurd (O3.l_inj ((lexI_zero (l := a.l) (m := b.l) rfl).1 h0)) hab.2
  · omega
theorem smeL_iff : ∀ {l m : List O3}, l.length = m.length → (smeL l m = true ↔ l = m)
  | [], [], _ => by simp [smeL]
  | x :: l, y :: m, h => by
    simp only [smeL]
    have hl : l.length = m.length := by simpa using h
    cases he : x.eqB y with
    | true =>
      simp only [Bool.not_true]
      rw [smeL_iff hl, O3.eqB_iff.1 he]
      simp
    | false =>
      simp only [Bool.not_false]
      have := O3.eqB_false.1 he
      simp [this]
theorem sameB_iff {l m : List O3} : sameB l m = true ↔ l = m := by
  unfold sameB
  rw [Bool.and_eq_true, beq_iff_eq]
  constructor
  · rintro ⟨h1, h2⟩
    exact (smeL_iff (by omega)).1 h2
  · rintro rfl; exact ⟨rfl, smeL_refl l⟩
theorem grp_self {X : List O3} (hn : X.Nodup) (hl : X.length ≤ 192) (hck : ∀ o ∈ X, o.ck = 0) (h1 : O3.one ∈ X) (hm : ∀ a ∈ X, ∀ b ∈ X, a.mul b ∈ X) : IsGrp X X := by
  refine ⟨hn, hl, fun g => ⟨fun h => Gen.of (all_inv hck) h, fun h => ?_⟩, hck⟩
  induction h with
  | one => exact h1
  | step _ hx ih => exact hm _ ih _ hx
theorem dck_chk (X : List O3) : dckI X = chkI X := by
  unfold dckI
  by_cases h : (X.length : Int) > 192
  · have hc : ckMaps X = 2 := by unfold ckMaps; rw [if_pos h]
    have h1 : clsOk X = false := by unfold clsOk; rw [hc]; rfl
    unfold chkI clsErr
    rw [decide_eq_true h, h1, hc]; rfl
  · have hc : ckMaps X = leastL X 0 := by unfold ckMaps; rw [if_neg h]
    rw [decide_eq_false h]
    simp only
    by_cases h0 : leastL X 0 = 0
    · have hck := (leastL_zero h0).2
      rw [h0]
      simp only [bne_self_eq_false]
      have hk0 : ckMaps X = 0 := by rw [hc, h0]
      -- a group in order?
      have key : chkI X = 0 ↔ (ordF (atO X 0) (X.drop 1) = true ∧ O3.one ∈ X ∧ inAll X X = true) := by
        have hord : ordF (atO X 0) (X.drop 1) = true ↔ StrictO X := by
          cases X with
          | nil => simp [ordF, StrictO]
          | cons x l =>
            rw [ordF_sorted]
            rfl
        rw [hord, inAll_iff hck X hck]
        constructor
        · intro h
          unfold chkI at h
          cases hq : clsOk X with
          | false => rw [hq] at h; exact absurd h (clsErr_ne X)
          | true =>
            rw [hq] at h
            simp only at h
            cases hs : sameB (clsG X) X with
            | false => rw [hs] at h; cases h
            | true =>
              have e := sameB_iff.1 hs
              obtain ⟨_, _, hg⟩ := clsOk_spec hq
              have hperm : X.Perm (clG0 X [O3.one] es1).1 := by
                have := sortO_perm (clG0 X [O3.one] es1).1
                rw [show sortO (clG0 X [O3.one] es1).1 = clsG X from rfl, e] at this
                exact this
              have hgr := hg.grp (all_inv hck)
              have hsor : SortedO X := by rw [← e]; exact sortO_sorted _
              refine ⟨sorted_strict hsor (hperm.nodup_iff.2 hg.1), hperm.mem_iff.2 hgr.one, fun a ha b hb => hperm.mem_iff.2 (hgr.mul a (hperm.mem_iff.1 ha) b (hperm.mem_iff.1 hb))⟩
        · rintro ⟨h1, h2, h3⟩
          have hg := grp_self (strict_nodup h1) (by omega) hck h2 h3
          have hq : clsOk X = true := by
            unfold clsOk
            rw [hk0]
            rcases clR_spec hck with ⟨r, k1, _⟩ | ⟨_, k2⟩
            · rw [k1]; rfl
            · exact absurd k2 hg.not_bad
          obtain ⟨_, _, hg2⟩ := clsOk_spec hq
          have e : clsG X = X := sorted_one (sortO_sorted _) (strict_sorted h1) ((sortO_perm _).trans (hg2.perm hg))
          unfold chkI
          rw [hq]
          simp only
          rw [e, sameB_refl]; rfl
      have five : chkI X = 0 ∨ chkI X = 5 := by
        unfold chkI clsErr
        rw [hk0]
        cases clsOk X with
        | false => right; rfl
        | true =>
          simp only
          cases sameB (clsG X) X with
          | true => left; rfl
          | false => right; rfl
      rw [placeI_lt]
      cases ho : ordF (atO X 0) (X.drop 1) with
      | false =>
        rcases five with e | e
        · rw [ho] at key; have := (key.1 e).1; cases this
        · rw [e]
      | true =>
        simp only
        by_cases h1 : O3.one ∈ X
        · rw [decide_eq_true h1]
          simp only [Bool.not_true]
          cases hi : inAll X X with
          | true => rw [key.2 ⟨ho, h1, hi⟩]
          | false =>
            rcases five with e | e
            · rw [hi] at key; have := (key.1 e).2.2; cases this
            · rw [e]
        · rw [decide_eq_false h1]
          simp only [Bool.not_false]
          rcases five with e | e
          · exact absurd (key.1 e).2.1 h1
          · rw [e]
    · have h1 : clsOk X = false := by unfold clsOk; rw [hc, (bif_beq h0).1]; rfl
      rw [(bif_beq h0).2]
      unfold chkI clsErr
      rw [h1, hc, (bif_beq h0).1]; rfl
def dckF : List Value → Mem → Option (Ans (Value × Mem))
  | [.slice none 0 0], [] => some (.out (vI 5, []))
  | [.slice (some ⟨0, 0, some 0⟩) N 12], [.rows own true 12 N2 row] => some (.br (Nat.beq N N2 && (okOps N row && decide (N ≤ 4611686018427387904))) (.out (vI (chkI (opsOf N row)), [.rows own true 12 N (opRow (opsOf N row))])) .fail)
  | _, _ => none
def Cdk (P : Program) : Cx := (Ccu P).addF 66 dckF
theorem okdk : CxOk (Cdk Try.prog) := Cx.addF_ok okcu fun args m ans v m' h hr => by
  unfold dckF at h
  split at h
  · simp only [Option.some.injEq] at h
    subst h
    simp only [Ans.res, Option.some.injEq, Prod.mk.injEq] at hr
    obtain ⟨rfl, rfl⟩ := hr
    exact exT_ok okcu Try.func66 (by kernel_rfl) dckE0
  · rename_i N own N2 row
    simp only [Option.some.injEq] at h
    subst h
    rcases Ans.br_some hr with ⟨hc, hr1⟩ | ⟨_, hr1⟩
    rotate_left
    · simp [Ans.res] at hr1
    clear hr
    simp only [Bool.and_eq_true, decide_eq_true_eq] at hc
    obtain ⟨c1, c2, c3⟩ := hc
    have c1 := beq_len c1
    subst c1
    simp only [Ans.res, Option.some.injEq, Prod.mk.injEq] at hr1
    obtain ⟨rfl, rfl⟩ := hr1
    rw [← dck_chk]
    exact (exT_ok okcu Try.func66 (by kernel_rfl) (dckE own N (opsOf N row) (opsOf_length N row) c3)).like ⟨.rows (ops_like c2), trivial⟩
  · cases h
end Go.Proofs.Ytjpfnfckpgilgaa


namespace Go.Proofs.Ytjpfnfckpgilgaa
open Go Vx

theorem hit0 {β : Type} {e : β → β → Bool} (he : ∀ x y, e x y = true ↔ x = y) {k : β} : ∀ {ds : List β}, k ∉ ds → (ds.map fun d => (bif e k d then 1 else 0)).sum = 0
  | [], _ => rfl
  | d :: ds, h => by
    have h1 : e k d = false := by
      cases hk : e k d with
      | false => rfl
      | true => exact absurd (List.mem_cons.2 (Or.inl ((he k d).1 hk))) h
    simp only [List.map_cons, List.sum_cons, h1, cond_false, hit0 he (ds := ds) (fun hm => h (List.mem_cons_of_mem _ hm))]
theorem hit1 {β : Type} {e : β → β → Bool} (he : ∀ x y, e x y = true ↔ x = y) {k : β} : ∀ {ds : List β}, ds.Nodup → k ∈ ds → (ds.map fun d => (bif e k d then 1 else 0)).sum = 1
  | d :: ds, hn, h => by
    rw [List.nodup_cons] at hn
    cases hk : e k d with
    | true =>
      have e1 := (he k d).1 hk
      subst e1
      simp only [List.map_cons, List.sum_cons, hk, cond_true, hit0 he hn.1]
    | false =>
      rcases List.mem_cons.1 h with rfl | h
      · rw [(he k k).2 rfl] at hk; cases hk
      · simp only [List.map_cons, List.sum_cons, hk, cond_false, hit1 he hn.2 h]
theorem sum_two {β : Type} (f g : β → Nat) : ∀ (ds : List β), (ds.map fun d => f d + g d).sum = (ds.map f).sum + (ds.map g).sum
  | [] => rfl
  | d :: ds => by simp only [List.map_cons, List.sum_cons, sum_two f g ds]; omega
theorem sum_same {β : Type} (c : Nat) : ∀ (ds : List β), (ds.map fun _ => c).sum = ds.length * c
  | [] => by simp
  | d :: ds => by simp only [List.map_cons, List.sum_cons, sum_same c ds, List.length_cons]; rw [Nat.add_mul]; omega
theorem sum_zero {β : Type} : ∀ (ds : List β), (ds.map fun _ => 0).sum = 0
  | [] => rfl
  | d :: ds => by simp only [List.map_cons, List.sum_cons, sum_zero ds]
/-- Told apart by a key, the parts of a list count up to the list. -/
theorem count_sum {α β : Type} (r : α → β) (e : β → β → Bool) (he : ∀ x y, e x y = true ↔ x = y) (ds : List β) (hn : ds.Nodup) : ∀ (xs : List α), (∀ x ∈ xs, r x ∈ ds) → (ds.map fun d => (xs.filter fun x => e (r x) d).length).sum = xs.length
  | [], _ => sum_zero ds
  | x :: xs, h => by
    have ih := count_sum r e he ds hn xs fun y hy => h y (List.mem_cons_of_mem _ hy)
    have h1 := hit1 he hn (h x (List.mem_cons_self ..))
    have hf : (fun d => ((x :: xs).filter fun x => e (r x) d).length) = fun d => (bif e (r x) d then 1 else 0) + (xs.filter fun x => e (r x) d).length := by
      funext d
      rw [List.filter_cons]
      cases e (r x) d with
      | true => simp only [if_true, List.length_cons, cond_true]; omega
      | false => simp
    rw [hf, sum_two, h1, ih, List.length_cons]; omega

/-- As many maps of a group have this matrix as turn nothing. -/
theorem fib_len {H : List O3} (h : Grp H) {o : O3} (ho : o ∈ H) : (H.filter fun x => x.r.eqB o.r).length = (H.filter fun x => x.r.eqB M3.one).length := by
  have hi : ∀ x ∈ H, x.Inv := fun x hx => O3.inv_ck (h.ck x hx)
  obtain ⟨b, hb, e⟩ := grp_undo h.nd hi h.one h.mul ho
  obtain ⟨c, hc, e'⟩ := grp_undo h.nd hi h.one h.mul hb
  have hoc : o = c := by
    have := O3.mul_assoc o b c
    rw [e, e', O3.one_mul (hi c hc).1, O3.mul_one (hi o ho).1] at this
    exact this.symm
  rw [← hoc] at e'
  have canc : ∀ {u v : O3}, u.mul v = O3.one → ∀ x ∈ H, ∀ y ∈ H, x.mul u = y.mul u → x = y := by
    intro u v huv x hx y hy hxy
    have : (x.mul u).mul v = (y.mul u).mul v := by rw [hxy]
    rw [O3.mul_assoc, O3.mul_assoc, huv, O3.mul_one (hi x hx).1, O3.mul_one (hi y hy).1] at this
    exact this
  apply Nat.le_antisymm
  · have hn : ((H.filter fun x => x.r.eqB o.r).map fun x => x.mul b).Nodup := nodup_map (h.nd.filter _) fun x hx y hy => canc e' x (List.mem_filter.1 hx).1 y (List.mem_filter.1 hy).1
    have := nodup_sub hn (m := H.filter fun x => x.r.eqB M3.one) fun y hy => by
      obtain ⟨x, hx, rfl⟩ := List.mem_map.1 hy
      obtain ⟨hx1, hx2⟩ := List.mem_filter.1 hx
      refine List.mem_filter.2 ⟨h.mul x hx1 b hb, M3.eqB_iff.2 ?_⟩
      have k : x.r = o.r := M3.eqB_iff.1 hx2
      show x.r.mul b.r = M3.one
      rw [k]
      exact congrArg O3.r e
    rwa [List.length_map] at this
  · have hn : ((H.filter fun x => x.r.eqB M3.one).map fun x => x.mul o).Nodup := nodup_map (h.nd.filter _) fun x hx y hy => canc e x (List.mem_filter.1 hx).1 y (List.mem_filter.1 hy).1
    have := nodup_sub hn (m := H.filter fun x => x.r.eqB o.r) fun y hy => by
      obtain ⟨x, hx, rfl⟩ := List.mem_map.1 hy
      obtain ⟨hx1, hx2⟩ := List.mem_filter.1 hx
      refine List.mem_filter.2 ⟨h.mul x hx1 o ho, M3.eqB_iff.2 ?_⟩
      have k : x.r = M3.one := M3.eqB_iff.1 hx2
      show x.r.mul o.r = o.r
      rw [k, M3.one_mul]
    rwa [List.length_map] at this
/-- The count of a group is that of its matrices times that of its pure shifts. -/
theorem parts_len {H : List O3} (h : Grp H) {ds : List M3} (hn : ds.Nodup) (hd : ∀ d, d ∈ ds ↔ ∃ o ∈ H, o.r = d) : ds.length * (H.filter fun x => x.r.eqB M3.one).length = H.length := by
  have e := count_sum (fun o : O3 => o.r) M3.eqB (fun _ _ => M3.eqB_iff) ds hn H fun x hx => (hd _).2 ⟨x, hx, rfl⟩
  rw [← e, ← sum_same]
  congr 1
  refine List.map_congr_left fun d hd' => ?_
  obtain ⟨o, ho, rfl⟩ := (hd d).1 hd'
  exact (fib_len h ho).symm

/-! Closing other maps that make the same -/
theorem Vx.IsGrp.again {ls ms xs : List O3} (hl : AllInv ls) (hm : AllInv ms) (h : IsGrp ls xs) (h1 : ∀ x ∈ ls, Gen ms x) (h2 : ∀ m ∈ ms, Gen ls m) : IsGrp ms xs :=
  ⟨h.1, h.2.1, fun g => (h.2.2.1 g).trans ⟨fun k => k.mono hm h1, fun k => k.mono hl h2⟩, h.2.2.2⟩
theorem ckMaps_of {ls : List O3} (hl : ls.length ≤ 192) (h : ∀ o ∈ ls, o.ck = 0) : ckMaps ls = 0 := by
  have key : ∀ (l : List O3), (∀ o ∈ l, o.ck = 0) → leastL l 0 = 0 := by
    intro l
    induction l with
    | nil => intro _; rfl
    | cons o l ih =>
      intro h
      show leastL l (leastN 0 o.ck) = 0
      rw [h o (List.mem_cons_self ..)]
      exact ih fun x hx => h x (List.mem_cons_of_mem _ hx)
  unfold ckMaps
  rw [if_neg (by omega)]
  exact key ls h
theorem mem_clsG {ls : List O3} (h : clsOk ls = true) (g : O3) : g ∈ clsG ls ↔ Gen ls g := by
  rw [show clsG ls = sortO (clG0 ls [O3.one] es1).1 from rfl, (sortO_perm _).mem_iff]
  exact (clsOk_spec h).2.2.2.2.1 g
theorem clsG_strict {ls : List O3} (h : clsOk ls = true) : StrictO (clsG ls) :=
  sorted_strict (sortO_sorted _) ((sortO_perm _).nodup_iff.2 (clsOk_spec h).2.2.1)
theorem clsG_ck {ls : List O3} (h : clsOk ls = true) : ∀ g ∈ clsG ls, g.ck = 0 := fun g hg => (clsOk_spec h).2.2.2.2.2 g ((sortO_perm _).mem_iff.1 hg)
theorem clsG_grp {ls : List O3} (h : clsOk ls = true) : Grp (clsG ls) := by
  have hi := all_inv (clsOk_spec h).2.1
  exact ⟨strict_nodup (clsG_strict h), clsG_ck h, (mem_clsG h _).2 Gen.one, fun a ha b hb => (mem_clsG h _).2 (((mem_clsG h a).1 ha).mul hi ((mem_clsG h b).1 hb))⟩
/-- Maps of a group among which are those that made it, close to it. -/
theorem cls_again {ls ms : List O3} (h : clsOk ls = true) (hm : ms.length ≤ 192) (h1 : ∀ x ∈ ls, x ∈ ms) (h2 : ∀ m ∈ ms, m ∈ clsG ls) : clsOk ms = true ∧ clsG ms = clsG ls := by
  obtain ⟨_, hck, hg⟩ := clsOk_spec h
  have mck : ∀ m ∈ ms, m.ck = 0 := fun m hm' => clsG_ck h m (h2 m hm')
  have hg2 := hg.again (all_inv hck) (all_inv mck) (fun x hx => Gen.of (all_inv mck) (h1 x hx)) fun m hm' => (mem_clsG h m).1 (h2 m hm')
  have hq : clsOk ms = true := by
    unfold clsOk
    rw [ckMaps_of hm mck]
    rcases clR_spec mck with ⟨r, k1, _⟩ | ⟨_, k2⟩
    · rw [k1]; rfl
    · exact absurd k2 hg2.not_bad
  refine ⟨hq, ?_⟩
  obtain ⟨_, _, hg3⟩ := clsOk_spec hq
  exact sorted_one (sortO_sorted _) (sortO_sorted _) (((sortO_perm _).trans (hg3.perm hg2)).trans (sortO_perm _).symm)
end Go.Proofs.Ytjpfnfckpgilgaa


namespace Go.Proofs.Ytjpfnfckpgilgaa
open Go Vx
theorem mGet_put (k j : List Int) (v : Int) : ∀ (es : ES), mGet j (mPut k v es) = if j = k then v else mGet j es
  | [] => by
    simp only [mPut, mGet]
    by_cases h : k = j
    · subst h; simp
    · simp [h, Ne.symm h]
  | e :: es => by
    have ih := mGet_put k j v es
    simp only [mPut]
    by_cases h : e.1 = k
    · rw [show decide (e.1 = k) = true by simpa using h]
      simp only [mGet]
      by_cases hj : k = j
      · subst hj; simp
      · have hj' : ¬ e.1 = j := by rw [h]; exact hj
        simp [hj, hj', Ne.symm hj]
    · rw [show decide (e.1 = k) = false by simpa using h]
      simp only [mGet]
      by_cases hj : e.1 = j
      · have hjk : ¬ j = k := by rw [← hj]; exact h
        simp [hj, hjk]
      · rw [show decide (e.1 = j) = false by simpa using hj]
        exact ih
theorem ats_has : ∀ (l : List O3) (i : Int) (es : ES) (o : O3), mHas (key o) (atsL l i es) = true ↔ o ∈ l ∨ mHas (key o) es = true
  | [], i, es, o => by simp [atsL]
  | x :: l, i, es, o => by
    simp only [atsL]
    rw [ats_has l (i + 1) _ o, mHas_put, List.mem_cons]
    constructor
    · rintro (h | h | h)
      · exact Or.inl (Or.inr h)
      · exact Or.inl (Or.inl (key_inj h))
      · exact Or.inr h
    · rintro ((h | h) | h)
      · exact Or.inr (Or.inl (by rw [h]))
      · exact Or.inl h
      · exact Or.inr (Or.inr h)
theorem ats_out : ∀ (l : List O3) (i : Int) (es : ES) (o : O3), o ∉ l → mGet (key o) (atsL l i es) = mGet (key o) es
  | [], i, es, o, _ => rfl
  | x :: l, i, es, o, h => by
    simp only [atsL]
    rw [List.mem_cons] at h
    have hx : ¬ key o = key x := fun e => h (Or.inl (key_inj e))
    rw [ats_out l (i + 1) _ o (fun hm => h (Or.inr hm)), mGet_put, if_neg hx]
theorem ats_get : ∀ (l : List O3) (i : Int) (es : ES) (o : O3), l.Nodup → o ∈ l → plcL l o i = some (mGet (key o) (atsL l i es))
  | [], i, es, o, _, h => by simp at h
  | x :: l, i, es, o, hn, h => by
    rw [List.nodup_cons] at hn
    simp only [plcL, atsL]
    cases he : x.eqB o with
    | true =>
      have e := O3.eqB_iff.1 he
      subst e
      simp only
      rw [ats_out l (i + 1) _ x hn.1, mGet_put, if_pos rfl]
    | false =>
      simp only
      rcases List.mem_cons.1 h with e | hm
      · exact absurd e.symm (O3.eqB_false.1 he)
      · exact ats_get l (i + 1) _ o hn.2 hm
theorem chk_nodup {X : List O3} (h : chkI X = 0) : X.Nodup := by
  unfold chkI at h
  cases hq : clsOk X with
  | false => rw [hq] at h; exact absurd h (clsErr_ne X)
  | true =>
    rw [hq] at h
    simp only at h
    cases hs : sameB (clsG X) X with
    | false => rw [hs] at h; cases h
    | true =>
      have e := sameB_iff.1 hs
      obtain ⟨_, _, hg⟩ := clsOk_spec hq
      rw [← e]
      exact (sortO_perm _).nodup_iff.2 hg.1
theorem fnd_place {X : List O3} (h : chkI X = 0) (o : O3) : (bif mHas (key o) (atsL X 0 []) then mGet (key o) (atsL X 0 []) else 0) = (bif decide (placeI X o ≥ 0) then placeI X o else 0) ∧ mHas (key o) (atsL X 0 []) = decide (placeI X o ≥ 0) := by
  have hh : mHas (key o) (atsL X 0 []) = decide (placeI X o ≥ 0) := by
    rw [placeI_mem, Bool.eq_iff_iff, ats_has, decide_eq_true_eq]
    simp [mHas]
  refine ⟨?_, hh⟩
  rw [hh]
  by_cases hm : o ∈ X
  · have := ats_get X 0 [] o (chk_nodup h) hm
    rw [placeI_mem, decide_eq_true hm]
    unfold placeI
    rw [this]; rfl
  · rw [placeI_mem, decide_eq_false hm]; rfl
end Go.Proofs.Ytjpfnfckpgilgaa


namespace Go.Proofs.Ytjpfnfckpgilgaa
open Go Vx

theorem chk_grp {X : List O3} (h : chkI X = 0) : StrictO X ∧ Grp X ∧ X.length ≤ 192 := by
  unfold chkI at h
  cases hq : clsOk X with
  | false => rw [hq] at h; exact absurd h (clsErr_ne X)
  | true =>
    rw [hq] at h
    simp only at h
    cases hs : sameB (clsG X) X with
    | false => rw [hs] at h; cases h
    | true =>
      have e := sameB_iff.1 hs
      have h1 := clsG_strict hq
      have h2 := clsG_grp hq
      have h3 := clsOk_len hq
      rw [e] at h1 h2 h3
      exact ⟨h1, h2, h3⟩
theorem chk_of {X : List O3} (hs : StrictO X) (hg : Grp X) (hl : X.length ≤ 192) : chkI X = 0 := by
  have hI := grp_self hg.nd hl hg.ck hg.one hg.mul
  have hq : clsOk X = true := by
    unfold clsOk
    rw [ckMaps_of hl hg.ck]
    rcases clR_spec hg.ck with ⟨r, k1, _⟩ | ⟨_, k2⟩
    · rw [k1]; rfl
    · exact absurd k2 hI.not_bad
  obtain ⟨_, _, hg2⟩ := clsOk_spec hq
  have e : clsG X = X := sorted_one (sortO_sorted _) (strict_sorted hs) ((sortO_perm _).trans (hg2.perm hI))
  unfold chkI
  rw [hq]
  simp only
  rw [e, sameB_refl]; rfl
/-- Maps in form, not too many: the list is a group in order, or it doesn't close. -/
theorem chk_five {X : List O3} (hl : X.length ≤ 192) (hck : ∀ o ∈ X, o.ck = 0) : chkI X = 0 ∨ chkI X = 5 := by
  unfold chkI clsErr
  rw [ckMaps_of hl hck]
  cases clsOk X with
  | false => right; rfl
  | true =>
    simp only
    cases sameB (clsG X) X with
    | true => left; rfl
    | false => right; rfl
theorem chk_cls {ls : List O3} (h : clsOk ls = true) : chkI (clsG ls) = 0 := chk_of (clsG_strict h) (clsG_grp h) (clsOk_len h)
theorem cls_has {ls : List O3} (h : clsOk ls = true) {o : O3} (ho : o ∈ ls) : o ∈ clsG ls := (mem_clsG h o).2 (Gen.of (all_inv (clsOk_spec h).2.1) ho)
theorem cls_pos {ls : List O3} (h : clsOk ls = true) : 1 ≤ (clsG ls).length := List.length_pos_of_mem (clsG_grp h).one
/-- Find, for a map of the group. -/
theorem fnd_in {X : List O3} (h : chkI X = 0) {o : O3} (ho : o ∈ X) : fndE X o = 0 := by
  have hk : o.ck = 0 := (chk_grp h).2.1.ck o ho
  have hm : mHas (key o) (atsL X 0 []) = true := (ats_has X 0 [] o).2 (Or.inl ho)
  unfold fndE
  rw [h, hk, hm]
  rfl

/-! Groups within groups -/
theorem grp_cosets {P G : List O3} (hP : Grp P) (hG : Grp G) (hs : ∀ x ∈ P, x ∈ G) : ∀ (k : Nat) (bs : List O3), (∀ b ∈ bs, b ∈ G) → (cosets P bs).Nodup → G.length - (cosets P bs).length ≤ k → ∃ n, G.length = n * P.length
  | k, bs, hb, hn, hk => by
    have hsub : ∀ x ∈ cosets P bs, x ∈ G := by
      intro x hx
      obtain ⟨b, hb', p, hp, rfl⟩ := mem_cosets.1 hx
      exact hG.mul b (hb b hb') p (hs p hp)
    have hle := nodup_sub hn hsub
    by_cases hall : ∀ g ∈ G, g ∈ cosets P bs
    · have hge := nodup_sub hG.nd hall
      exact ⟨bs.length, by rw [← cosets_len]; omega⟩
    · have ⟨f, hf⟩ : ∃ f, ¬ (f ∈ G → f ∈ cosets P bs) := Classical.not_forall.1 hall
      have hfG : f ∈ G := Classical.byContradiction fun h => hf fun h' => absurd h' h
      have hfn : f ∉ cosets P bs := fun h => hf fun _ => h
      obtain ⟨n1, n2⟩ := coset_new hP (O3.inv_ck (hG.ck f hfG)) hfn
      have hP1 : 0 < P.length := List.length_pos_of_mem hP.one
      have hlen : (cosets P (bs ++ [f])).length = (cosets P bs).length + P.length := by rw [cosets_snoc, List.length_append, List.length_map]
      have hn' : (cosets P (bs ++ [f])).Nodup := by
        rw [cosets_snoc]
        exact List.nodup_append.2 ⟨hn, n2, fun a ha b hb e => n1 b hb (e ▸ ha)⟩
      have hb' : ∀ b ∈ bs ++ [f], b ∈ G := fun b hb' => by
        rcases List.mem_append.1 hb' with h | h
        · exact hb b h
        · rw [List.mem_singleton.1 h]; exact hfG
      have hlt : (cosets P bs).length < G.length := by
        have := nodup_sub (l := f :: cosets P bs) (m := G) (List.nodup_cons.2 ⟨hfn, hn⟩) fun x hx => by
          rcases List.mem_cons.1 hx with rfl | hx
          · exact hfG
          · exact hsub x hx
        simp only [List.length_cons] at this; omega
      match k, hk with
      | 0, hk => omega
      | k + 1, hk => exact grp_cosets hP hG hs k (bs ++ [f]) hb' hn' (by omega)
/-- A group within a group divides it. -/
theorem grp_divides {P G : List O3} (hP : Grp P) (hG : Grp G) (hs : ∀ x ∈ P, x ∈ G) : G.length % P.length = 0 := by
  obtain ⟨n, e⟩ := grp_cosets hP hG hs G.length [] (by simp) (by simp [cosets]) (by omega)
  rw [e, Nat.mul_mod_left]

/-! Groups that are broken -/
/-- Without one of its maps a group of more than two is none. -/
theorem less_none {G L : List O3} (hG : Grp G) (h2 : 2 < G.length) (hl : L.length + 1 = G.length) (hs : ∀ x ∈ L, x ∈ G) : ¬ Grp L := fun h => by
  have := grp_divides h hG hs
  rw [← hl] at this
  have h3 : 1 % L.length = 0 := by rwa [Nat.add_mod_left] at this
  rw [Nat.mod_eq_of_lt (by omega)] at h3
  omega
theorem chk_less {G L : List O3} (hG : Grp G) (h2 : 2 < G.length) (hg : G.length ≤ 192) (hl : L.length + 1 = G.length) (hs : ∀ x ∈ L, x ∈ G) : chkI L = 5 := by
  rcases chk_five (X := L) (by omega) (fun o ho => hG.ck o (hs o ho)) with h | h
  · exact absurd (chk_grp h).2.1 (less_none hG h2 hl hs)
  · exact h
/-- Out of order, or with a map twice, a list is no group in order. -/
theorem chk_unsorted {X : List O3} (hl : X.length ≤ 192) (hck : ∀ o ∈ X, o.ck = 0) (h : ¬ StrictO X) : chkI X = 5 := by
  rcases chk_five hl hck with e | e
  · exact absurd (chk_grp e).1 h
  · exact e
end Go.Proofs.Ytjpfnfckpgilgaa
