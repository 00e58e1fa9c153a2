/-
  What the document's Close comes to: the group that maps generate, or that there is none. No program in sight but its lists. Nothing here is trusted.
-/
import Derived.Test.YtggdbakgiknogaaKai

namespace Go.Proofs.Ytggdbakgiknogaa
open Go Vx
def placeI (xs : List O3) (o : O3) : Int := (plcL xs o 0).getD (-1)
theorem plL_some : ∀ {xs : List O3} {o : O3} {i j : Int}, plcL xs o i = some j → i ≤ j ∧ o ∈ xs
  | [], o, i, j, h => by simp [plcL] at h
  | x :: l, o, i, j, h => by
    simp only [plcL] at h
    cases he : x.eqB o with
    | true => rw [he] at h; simp only [Option.some.injEq] at h; subst h; exact ⟨Int.le_refl _, by rw [O3.eqB_iff.1 he]; simp⟩
    | false =>
      rw [he] at h
      obtain ⟨h1, h2⟩ := plL_some (xs := l) h
      exact ⟨by omega, by simp [h2]⟩
theorem plL_none : ∀ {xs : List O3} {o : O3} {i : Int}, plcL xs o i = none → o ∉ xs
  | [], o, i, h => by simp
  | x :: l, o, i, h => by
    simp only [plcL] at h
    cases he : x.eqB o with
    | true => rw [he] at h; cases h
    | false =>
      rw [he] at h
      have := plL_none (xs := l) h
      rw [List.mem_cons]
      rintro (e | e)
      · exact O3.eqB_false.1 he e.symm
      · exact this e
theorem placeI_mem {xs : List O3} {o : O3} : decide (placeI xs o ≥ 0) = decide (o ∈ xs) := by
  unfold placeI
  cases h : plcL xs o 0 with
  | none =>
    have := plL_none h
    simp [this]
  | some j =>
    obtain ⟨h1, h2⟩ := plL_some h
    simp only [Option.getD_some]
    rw [decide_eq_true (by omega : j ≥ 0), decide_eq_true h2]
/-- The maps of a list behind one another: each behind a map, those that are new appended; in order beside it. -/
def rIn (f : O3) : List O3 → List O3 → List O3 → Option (List O3 × List O3)
  | [], fs, ss => some (fs, ss)
  | o :: l, fs, ss => match decide (placeI fs (f.mul5 o) ≥ 0) with
    | true => rIn f l fs ss
    | false => match !(f.mul5 o).r.ok with
      | true => none
      | false => match ((fs.length : Int) == 192) with
        | true => none
        | false => rIn f l (fs ++ [f.mul5 o]) (insO (f.mul5 o) ss)
def rOut (ls : List O3) : Nat → Int → List O3 → List O3 → Option (List O3 × List O3)
  | 0, _, fs, ss => some (fs, ss)
  | N + 1, i, fs, ss => match decide (i < (fs.length : Int)) with
    | true => match rIn (atO fs i) ls fs ss with
      | some r => rOut ls N (i + 1) r.1 r.2
      | none => none
    | false => some (fs, ss)
structure RWay (ls fs ss : List O3) : Prop where
  nd : fs.Nodup
  ck : ∀ g ∈ fs, g.ck = 0
  gen : ∀ g ∈ fs, Gen ls g
  len : fs.length ≤ 192
  one : O3.one ∈ fs
  perm : ss.Perm fs
  sorted : SortedO ss
theorem rIn_spec {ls : List O3} (hls : ∀ o ∈ ls, o.ck = 0) {f : O3} : ∀ (l fs ss : List O3), (∀ o ∈ l, o ∈ ls) → RWay ls fs ss → f ∈ fs →
    (∃ r ex, rIn f l fs ss = some r ∧ RWay ls r.1 r.2 ∧ r.1 = fs ++ ex ∧ ∀ o ∈ l, f.mul o ∈ r.1) ∨ (rIn f l fs ss = none ∧ Bad ls)
  | [], fs, ss, _, hW, _ => Or.inl ⟨(fs, ss), [], rfl, hW, by simp, by simp⟩
  | o :: l, fs, ss, hl, hW, hf => by
    have hi := all_inv hls
    have hfk := hW.ck f hf
    have hok := hls o (hl o (by simp))
    have hg : Gen ls (f.mul o) := (hW.gen f hf).mul hi (Gen.of hi (hl o (by simp)))
    simp only [rIn]
    rw [O3.mul5_eq hfk hok, placeI_mem]
    by_cases hm : f.mul o ∈ fs
    · rw [decide_eq_true hm]
      simp only
      rcases rIn_spec hls l fs ss (fun x hx => hl x (by simp [hx])) hW hf with ⟨r, ex, h1, h2, h3, h4⟩ | h
      · left
        refine ⟨r, ex, h1, h2, h3, fun x hx => ?_⟩
        rcases List.mem_cons.1 hx with rfl | hx
        · rw [h3]; exact List.mem_append_left _ hm
        · exact h4 x hx
      · right; exact h
    · rw [decide_eq_false hm]
      simp only
      cases hk : (f.mul o).r.ok with
      | false => right; exact ⟨rfl, Or.inl ⟨_, hg, hk⟩⟩
      | true =>
        simp only [Bool.not_true]
        have hnd : (fs ++ [f.mul o]).Nodup := List.nodup_append.2 ⟨hW.nd, by simp, fun a ha b hb e => by
          rw [List.mem_singleton] at hb; subst hb; subst e; exact hm ha⟩
        have hgen : ∀ g ∈ fs ++ [f.mul o], Gen ls g := fun g hg' => by
          rcases List.mem_append.1 hg' with h | h
          · exact hW.gen g h
          · rw [List.mem_singleton] at h; subst h; exact hg
        have hlen := hW.len
        by_cases hl2 : fs.length = 192
        · right
          rw [show ((fs.length : Int) == 192) = true by rw [beq_iff_eq]; omega]
          exact ⟨rfl, Or.inr ⟨_, hnd, by simp; omega, hgen⟩⟩
        · rw [show ((fs.length : Int) == 192) = false by simp; omega]
          simp only
          have hck : (f.mul o).ck = 0 := O3.ck_of ((O3.inv_ck hfk).mul (O3.inv_ck hok)) hk
          have hW2 : RWay ls (fs ++ [f.mul o]) (insO (f.mul o) ss) := by
            refine ⟨hnd, fun g hg' => ?_, hgen, by simp; omega, List.mem_append_left _ hW.one, ?_, insO_sorted _ _ hW.sorted⟩
            · rcases List.mem_append.1 hg' with h | h
              · exact hW.ck g h
              · rw [List.mem_singleton] at h; subst h; exact hck
            · refine (insO_perm _ _).trans ((hW.perm.cons _).trans ?_)
              exact (List.perm_append_comm (l₁ := [f.mul o]) (l₂ := fs))
          rcases rIn_spec hls l _ _ (fun x hx => hl x (by simp [hx])) hW2 (List.mem_append_left _ hf) with ⟨r, ex, h1, h2, h3, h4⟩ | h
          · left
            refine ⟨r, [f.mul o] ++ ex, h1, h2, by rw [h3, List.append_assoc], fun x hx => ?_⟩
            rcases List.mem_cons.1 hx with rfl | hx
            · rw [h3]; exact List.mem_append_left _ (List.mem_append_right _ (by simp))
            · exact h4 x hx
          · right; exact h
theorem rOut_spec {ls : List O3} (hls : ∀ o ∈ ls, o.ck = 0) : ∀ (N : Nat) (j : Nat) (fs ss : List O3), RWay ls fs ss → j ≤ fs.length → N + j = 193 → (∀ (i : Nat) (hi : i < fs.length), i < j → ∀ o ∈ ls, fs[i].mul o ∈ fs) →
    (∃ r, rOut ls N (j : Int) fs ss = some r ∧ IsGrp ls r.1 ∧ r.2 = sortO r.1) ∨ (rOut ls N (j : Int) fs ss = none ∧ Bad ls)
  | 0, j, fs, ss, hW, hj, hN, hd => by
    exfalso
    have := hW.len
    omega
  | N + 1, j, fs, ss, hW, hj, hN, hd => by
    simp only [rOut]
    by_cases hlt : j < fs.length
    · rw [show decide ((j : Int) < (fs.length : Int)) = true by simp; omega]
      simp only
      have hat : atO fs (j : Int) = fs[j] := by unfold atO; rw [Int.toNat_natCast, List.getElem?_eq_getElem hlt]; rfl
      rw [hat]
      rcases rIn_spec hls ls fs ss (fun _ h => h) hW (List.getElem_mem hlt) with ⟨r, ex, h1, h2, h3, h4⟩ | ⟨h1, h2⟩
      · rw [h1]
        simp only
        rw [show (j : Int) + 1 = ((j + 1 : Nat) : Int) by omega]
        have hlen : fs.length ≤ r.1.length := by rw [h3]; simp
        refine rOut_spec hls N (j + 1) r.1 r.2 h2 (by omega) (by omega) fun i hi hij o ho => ?_
        by_cases hi2 : i < fs.length
        · have e : r.1[i] = fs[i] := by simp only [h3]; rw [List.getElem_append_left hi2]
          rw [e]
          by_cases hij2 : i < j
          · have := hd i hi2 hij2 o ho
            rw [h3]; exact List.mem_append_left _ this
          · obtain rfl : i = j := by omega
            exact h4 o ho
        · omega
      · right
        rw [h1]
        exact ⟨rfl, h2⟩
    · obtain rfl : j = fs.length := by omega
      rw [show decide (((fs.length : Nat) : Int) < (fs.length : Int)) = false by simp]
      left
      refine ⟨(fs, ss), rfl, ⟨hW.nd, hW.len, fun g => ⟨fun h => hW.gen g h, fun h => ?_⟩, hW.ck⟩, ?_⟩
      · induction h with
        | one => exact hW.one
        | step _ hx ih =>
          obtain ⟨i, hi, e⟩ := List.mem_iff_getElem.1 ih
          rw [← e]
          exact hd i hi hi _ hx
      · exact sorted_one hW.sorted (sortO_sorted _) (hW.perm.trans (sortO_perm _).symm)
/-- What the document's Close comes to. -/
def rcR (ls : List O3) : Option (List O3 × List O3) := rOut ls 193 0 [O3.one] [O3.one]
theorem rcR_spec {ls : List O3} (hls : ∀ o ∈ ls, o.ck = 0) : (∃ r, rcR ls = some r ∧ IsGrp ls r.1 ∧ r.2 = sortO r.1) ∨ (rcR ls = none ∧ Bad ls) := by
  refine rOut_spec hls 193 0 [O3.one] [O3.one] ⟨by simp, by simp [O3.one_ck], fun g hg => ?_, by simp, by simp, List.Perm.refl _, by simp [SortedO]⟩ (by simp) rfl (by omega)
  rw [List.mem_singleton] at hg; subst hg; exact Gen.one
/-- Both are one. -/
theorem rc_cls {ls : List O3} (h0 : ckMaps ls = 0) : (rcR ls).isSome = clsOk ls ∧ (clsOk ls = true → ((rcR ls).getD ([], [])).2 = clsG ls) := by
  obtain ⟨_, hls⟩ := ckMaps_zero h0
  have e : clsOk ls = (clR ls).isSome := by unfold clsOk; rw [h0]; rfl
  rw [e]
  rcases rcR_spec hls with ⟨r, r1, r2, r3⟩ | ⟨r1, r2⟩
  · rcases clR_spec hls with ⟨c, c1, c2⟩ | ⟨_, c2⟩
    · rw [r1, c1]
      refine ⟨rfl, fun _ => ?_⟩
      simp only [Option.getD_some]
      unfold clsG
      have e : clG0 ls [O3.one] es1 = c := by unfold clG0; rw [show clL ls [O3.one] [] es1 = some c from c1]; rfl
      rw [r3, e]
      exact sorted_one (sortO_sorted _) (sortO_sorted _) ((sortO_perm _).trans ((r2.perm c2).trans (sortO_perm _).symm))
    · exact absurd c2 r2.not_bad
  · rcases clR_spec hls with ⟨c, c1, c2⟩ | ⟨c1, _⟩
    · exact absurd r2 c2.not_bad
    · rw [r1, c1]
      exact ⟨rfl, fun h => by cases h⟩
/-- The errors of a list are one. -/
theorem leastL_three : ∀ (l : List O3), leastL l 3 = 3
  | [] => rfl
  | o :: l => by
    simp only [leastL]
    have : leastN 3 o.ck = 3 := by rcases O3.ck_cases o with h | h | h <;> rw [h] <;> rfl
    rw [this]; exact leastL_three l
theorem mapsL_eq : ∀ (l : List O3) (e : Int), (e = 0 ∨ e = 4) → mapsL l e = leastL l e
  | [], e, _ => rfl
  | o :: l, e, he => by
    simp only [mapsL, leastL]
    rcases O3.ck_cases o with h | h | h
    · rw [h]
      have : leastN e 0 = e := by rcases he with rfl | rfl <;> rfl
      rw [this]; exact mapsL_eq l e he
    · rw [h]
      have : leastN e 3 = 3 := by rcases he with rfl | rfl <;> rfl
      rw [this, leastL_three]; rfl
    · rw [h]
      have : leastN e 4 = 4 := by rcases he with rfl | rfl <;> rfl
      rw [this]; exact mapsL_eq l 4 (Or.inr rfl)
end Go.Proofs.Ytggdbakgiknogaa


namespace Go.Proofs.Ytggdbakgiknogaa
open Go Vx
def Cpl (P : Program) : Cx := ((CCh P).addLB 49 2 1 plS).addLB 47 3 1 mpS
theorem okpl : CxOk (Cpl Try.prog) := Cx.addLB_ok (Cx.addLB_ok okCh plX_eq fun _ _ _ _ h hr => plK h hr) mpX_eq fun _ _ _ _ h hr => mpK h hr
def lT (n : Nat) (row : Nat → List Value) (ln : Int) : Bool := Nat.beq n n && (okOps n row && (decide ((n : Int) = ln) && (decide ((0 : Int) ≤ 0) && decide ((n : Int) ≤ 4611686018427387904))))
def lT2 (n : Nat) (row : Nat → List Value) (ln : Int) (co : List Value) : Bool := Nat.beq n n && (okOps n row && (decide ((n : Int) = ln) && (decide ((0 : Int) ≤ 0) && (decide ((n : Int) ≤ 4611686018427387904) && isO co))))
/-- facetref05.Place -/
theorem plcE0 (o : O3) : exT ((Cpl Try.prog).at 49) 60 Try.f49 [.slice none 0 0, o.v] [] [] = some (vI (-1), []) := by kernel_rfl
theorem plcE1 (own : Bool) (n : Nat) (xs : List O3) (o : O3) : exT ((Cpl Try.prog).at 49) 60 Try.f49 [.slice (some ⟨0, 0, some 0⟩) n 12, o.v] [.rows own true 12 n (opRow xs)] [.fix 0] =
    gd (lT2 n (opRow xs) n o.cells) (match (plcL ((opsOf n (opRow xs)).drop (0 : Int).toNat) (decO o.cells) 0).isSome with
      | true => some (vI ((plcL ((opsOf n (opRow xs)).drop (0 : Int).toNat) (decO o.cells) 0).getD 0), [.rows own true 12 n (opRow (opsOf n (opRow xs)))])
      | false => some (vI (-1), [.rows own true 12 n (opRow (opsOf n (opRow xs)))])) := by kernel_rfl
theorem plcE (own : Bool) (n : Nat) (xs : List O3) (o : O3) (hx : xs.length = n) (hn : n ≤ 4611686018427387904) : exT ((Cpl Try.prog).at 49) 60 Try.f49 [.slice (some ⟨0, 0, some 0⟩) n 12, o.v] [.rows own true 12 n (opRow xs)] [.fix 0] = some (vI (placeI xs o), [.rows own true 12 n (opRow xs)]) := by
  rw [plcE1, opsOf_row hx]
  have ht : lT2 n (opRow xs) n o.cells = true := by
    unfold lT2
    rw [Nat.beq_refl, okOps_opRow, isO_cells]
    simp; omega
  rw [ht, gd_true, decO_cells]
  simp only [Int.toNat_zero, List.drop_zero]
  unfold placeI
  cases plcL xs o 0 <;> rfl
def plcF : List Value → Mem → Option (Ans (Value × Mem))
  | [.slice none 0 0, .agg co], [] => match opCells co.toList with
    | some _ => some (.out (vI (-1), []))
    | none => none
  | [.slice (some ⟨0, 0, some 0⟩) n 12, .agg co], [.rows own true 12 n2 row] => match opCells co.toList with
    | some o => some (.br (Nat.beq n n2 && (okOps n row && decide (n ≤ 4611686018427387904))) (.out (vI (placeI (opsOf n row) o), [.rows own true 12 n (opRow (opsOf n row))])) .fail)
    | none => none
  | _, _ => none
def Cplc (P : Program) : Cx := (Cpl P).addF 49 plcF
theorem okplc : CxOk (Cplc Try.prog) := Cx.addF_ok okpl fun args m ans v m' h hr => by
  unfold plcF at h
  split at h
  · rename_i co
    split at h
    · rename_i o ho
      simp only [Option.some.injEq] at h
      subst h
      simp only [Ans.res, Option.some.injEq, Prod.mk.injEq] at hr
      obtain ⟨rfl, rfl⟩ := hr
      have e1 : co = o.cells.toArray := by rw [← opCells_spec ho]
      subst e1
      exact exT_ok okpl Try.func49 (by kernel_rfl) (plcE0 o)
    · cases h
  · rename_i n co own n2 row
    split at h
    · rename_i o ho
      simp only [Option.some.injEq] at h
      subst h
      rcases Ans.br_some hr with ⟨hc, hr1⟩ | ⟨_, hr1⟩
      · clear hr
        simp only [Bool.and_eq_true, decide_eq_true_eq] at hc
        obtain ⟨c1, c2, c3⟩ := hc
        have c1 := beq_len c1
        subst c1
        simp only [Ans.res, Option.some.injEq, Prod.mk.injEq] at hr1
        obtain ⟨rfl, rfl⟩ := hr1
        have e1 : co = o.cells.toArray := by rw [← opCells_spec ho]
        subst e1
        exact (exT_ok okpl Try.func49 (by kernel_rfl) (plcE own n (opsOf n row) o (opsOf_length n row) c3)).like ⟨.rows (ops_like c2), trivial⟩
      · simp [Ans.res] at hr1
    · cases h
  · cases h
/-- facetref05.Maps -/
theorem mapE0 : exT ((Cplc Try.prog).at 47) 60 Try.f47 [.slice none 0 0] [] [] = some (vI 0, []) := by kernel_rfl
theorem mapE1 (own : Bool) (n : Nat) (xs : List O3) : exT ((Cplc Try.prog).at 47) 60 Try.f47 [.slice (some ⟨0, 0, some 0⟩) n 12] [.rows own true 12 n (opRow xs)] [.fix 0] =
    gd (lT n (opRow xs) n) (match (mapsF ((opsOf n (opRow xs)).drop (0 : Int).toNat) 0).1 with
      | true => some (vI 3, [.rows own true 12 n (opRow (opsOf n (opRow xs)))])
      | false => some (vI (mapsF ((opsOf n (opRow xs)).drop (0 : Int).toNat) 0).2, [.rows own true 12 n (opRow (opsOf n (opRow xs)))])) := by kernel_rfl
theorem mapE (own : Bool) (n : Nat) (xs : List O3) (hx : xs.length = n) (hn : n ≤ 4611686018427387904) : exT ((Cplc Try.prog).at 47) 60 Try.f47 [.slice (some ⟨0, 0, some 0⟩) n 12] [.rows own true 12 n (opRow xs)] [.fix 0] = some (vI (leastL xs 0), [.rows own true 12 n (opRow xs)]) := by
  rw [mapE1, opsOf_row hx]
  have ht : lT n (opRow xs) n = true := by
    unfold lT
    rw [Nat.beq_refl, okOps_opRow]
    simp; omega
  rw [ht, gd_true, ← mapsL_eq xs 0 (Or.inl rfl), mapsF_eq]
  simp only [Int.toNat_zero, List.drop_zero]
  cases (mapsF xs 0).1 <;> rfl
def mapF : List Value → Mem → Option (Ans (Value × Mem))
  | [.slice none 0 0], [] => some (.out (vI 0, []))
  | [.slice (some ⟨0, 0, some 0⟩) n 12], [.rows own true 12 n2 row] => some (.br (Nat.beq n n2 && (okOps n row && decide (n ≤ 4611686018427387904))) (.out (vI (leastL (opsOf n row) 0), [.rows own true 12 n (opRow (opsOf n row))])) .fail)
  | _, _ => none
def Cmap (P : Program) : Cx := (Cplc P).addF 47 mapF
theorem okmap : CxOk (Cmap Try.prog) := Cx.addF_ok okplc fun args m ans v m' h hr => by
  unfold mapF at h
  split at h
  · simp only [Option.some.injEq] at h
    subst h
    simp only [Ans.res, Option.some.injEq, Prod.mk.injEq] at hr
    obtain ⟨rfl, rfl⟩ := hr
    exact exT_ok okplc Try.func47 (by kernel_rfl) mapE0
  · rename_i n own n2 row
    simp only [Option.some.injEq] at h
    subst h
    rcases Ans.br_some hr with ⟨hc, hr1⟩ | ⟨_, hr1⟩
    · clear hr
      simp only [Bool.and_eq_true, decide_eq_true_eq] at hc
      obtain ⟨c1, c2, c3⟩ := hc
      have c1 := beq_len c1
      subst c1
      simp only [Ans.res, Option.some.injEq, Prod.mk.injEq] at hr1
      obtain ⟨rfl, rfl⟩ := hr1
      exact (exT_ok okplc Try.func47 (by kernel_rfl) (mapE own n (opsOf n row) (opsOf_length n row) c3)).like ⟨.rows (ops_like c2), trivial⟩
    · simp [Ans.res] at hr1
  · cases h
/-- Where a map is put: behind those that are less. -/
def putL : List O3 → O3 → Int → Int
  | [], _, i => i
  | x :: l, o, i => match decide (lexI x.l o.l < 0) with
    | true => putL l o (i + 1)
    | false => i

def ptX (P : Program) : Code := (loopsOf P 85 2).headD .skip
theorem ptX_eq : loopsOf Try.prog 85 2 = [ptX Try.prog] := by kernel_rfl
def ptH (own : Bool) (n : Nat) (xs : List O3) (o : O3) (i : Int) : St := stOf 36 [(0, .slice (some ⟨0, 0, some 0⟩) n 12), (3, .pointer (some ⟨1, 0, none⟩)), (5, vI i)] [.rows own true 12 n (opRow xs), .cells true 0 o.cells]
theorem ptR (own : Bool) (n : Nat) (xs : List O3) (o : O3) (i : Int) : roundR ((Cmap Try.prog).into 85 1) 40 (ptX Try.prog) [0, 3, 5] [0, 3, 5] [.fix 0, .fix 1] [.fix 0, .fix 1] (ptH own n xs o i) =
    (match decide (i < (n : Int)) with
    | true => match boundsI i n with
      | true => match decide (lexI (atO xs i).l o.l < 0) with
        | true => some (.normal, ptH own n xs o (W (i + 1)))
        | false => some (.exit 0, stOf 36 [(0, .slice (some ⟨0, 0, some 0⟩) n 12), (3, .pointer (some ⟨1, 0, none⟩)), (5, vI i)] [.rows own true 12 n (opRow xs), .cells true 0 o.cells])
      | false => none
    | false => some (.exit 0, stOf 36 [(0, .slice (some ⟨0, 0, some 0⟩) n 12), (3, .pointer (some ⟨1, 0, none⟩)), (5, vI i)] [.rows own true 12 n (opRow xs), .cells true 0 o.cells])) := by kernel_rfl
structure ptG where
  (own : Bool) (n : Nat) (xs : List O3) (o : O3) (i : Int)
def ptO (own : Bool) (n : Nat) (xs : List O3) (o : O3) (i : Int) : Exit × St :=
  (.exit 0, stOf 36 [(0, .slice (some ⟨0, 0, some 0⟩) n 12), (3, .pointer (some ⟨1, 0, none⟩)), (5, vI (putL (xs.drop i.toNat) o i))] [.rows own true 12 n (opRow xs), .cells true 0 o.cells])
theorem ptL (own : Bool) (n : Nat) (xs : List O3) (o : O3) (i : Int) (hg : 0 ≤ i ∧ (n : Int) ≤ 4611686018427387904 ∧ xs.length = n) : LoopSem Try.prog 1 (ptX Try.prog) (ptH own n xs o i) (ptO own n xs o i).1 (ptO own n xs o i).2 := by
  refine loop_rule (C := Cmap Try.prog) okmap (f := 85) (B := 1) (loopsOf_in (k := 2) ptX_eq) 40 [0, 3, 5] [0, 3, 5] [.fix 0, .fix 1] [.fix 0, .fix 1] (fun g : ptG => ptH g.own g.n g.xs g.o g.i) (fun g => (g.n - g.i).toNat) (fun g => 0 ≤ g.i ∧ (g.n : Int) ≤ 4611686018427387904 ∧ g.xs.length = g.n) (fun g => ptO g.own g.n g.xs g.o g.i) ?_ ⟨own, n, xs, o, i⟩ hg
  clear hg
  rintro ⟨own, n, xs, o, i⟩ hg
  simp only at hg
  simp only [ptR]
  obtain ⟨h0, h1, h2⟩ := hg
  by_cases hi : i < (n : Int)
  · have hd : decide (i < (n : Int)) = true := by simpa using hi
    have hb : boundsI i n = true := by simp [boundsI, h0, hi]
    have hdr := drop_at (xs := xs) h0 (by omega)
    have hw : W (i + 1) = i + 1 := W_in (by omega)
    rw [hd, hb, hw]
    cases he : decide (lexI (atO xs i).l o.l < 0) with
    | true =>
      left
      refine ⟨⟨own, n, xs, o, i + 1⟩, rfl, ⟨by simp only; omega, h1, h2⟩, by simp only; omega, ?_⟩
      unfold ptO
      simp only [hdr, putL, he]
    | false =>
      right
      unfold ptO
      simp only [hdr, putL, he]
      exact ⟨trivial, by simp⟩
  · have hd : decide (i < (n : Int)) = false := by simpa using hi
    rw [hd]
    right
    have hn : xs.drop i.toNat = [] := List.drop_eq_nil_of_le (by omega)
    unfold ptO
    simp only [hn, putL]
    exact ⟨trivial, by simp⟩
def ptS (st : St) : Option (Ans (Exit × St)) :=
  match sized st 36 2, tAt st 0, tAt st 3, tAt st 5, st.mem with
  | true, some (.slice (some ⟨0, 0, some 0⟩) n 12), some (.pointer (some ⟨1, 0, none⟩)), some (.int .i64 i), [.rows own true 12 n2 row, .cells true 0 co] => some (.br (Nat.beq n n2 && (okOps n row && (decide (0 ≤ i) && (decide ((n : Int) ≤ 4611686018427387904) && (isO co))))) (.out (.exit 0, stOf 36 [(0, .slice (some ⟨0, 0, some 0⟩) n 12), (3, .pointer (some ⟨1, 0, none⟩)), (5, vI (putL ((opsOf n row).drop i.toNat) (decO co) i))] [.rows own true 12 n (opRow (opsOf n row)), .cells true 0 (decO co).cells])) .fail)
  | _, _, _, _, _ => none
theorem ptK {st : St} {ans : Ans (Exit × St)} {e_ : Exit} {s_ : St} (h : ptS st = some ans) (hr : ans.res = some (e_, s_)) : LoopSem Try.prog 1 (ptX Try.prog) st e_ s_ := by
  unfold ptS at h
  split at h
  · rename_i n i own n2 row co hb hs0 hs1 hs2 hm
    simp only [Option.some.injEq] at h
    subst h
    rcases Ans.br_some hr with ⟨hc, hr1⟩ | ⟨_, hr1⟩
    · clear hr
      simp only [Bool.and_eq_true] at hc
      obtain ⟨ht0, ht1, ht2, ht3, ht4⟩ := hc
      have ht0 := beq_len ht0
      subst ht0
      have hinv : 0 ≤ i ∧ (n : Int) ≤ 4611686018427387904 ∧ (opsOf n row).length = n := by
        exact ⟨by simpa using ht2, by simpa using ht3, opsOf_length n row⟩
      have hk := stOf_keep hb [(0, .slice (some ⟨0, 0, some 0⟩) n 12), (3, .pointer (some ⟨1, 0, none⟩)), (5, vI i)] (by
        intro x hx
        simp only [List.mem_cons, List.not_mem_nil, or_false] at hx
        rcases hx with rfl | rfl | rfl
        · exact hs0
        · exact hs1
        · exact hs2) hm
      have key := ptL own n (opsOf n row) (decO co) i hinv
      unfold ptH at key
      have key := LoopSem.like (m := [.rows own true 12 n row, .cells true 0 co]) key ⟨.rows (ops_like ht1), like_dec ht4, trivial⟩
      have key : LoopSem Try.prog 1 (ptX Try.prog) (stOf 36 [(0, .slice (some ⟨0, 0, some 0⟩) n 12), (3, .pointer (some ⟨1, 0, none⟩)), (5, vI i)] [.rows own true 12 n row, .cells true 0 co]) _ _ := key
      rw [← hk] at key
      have key := LoopSem.clean key
      unfold ptO at key
      simp only [Ans.res, Option.some.injEq, Prod.mk.injEq] at hr1
      obtain ⟨rfl, rfl⟩ := hr1
      exact key
    · simp [Ans.res] at hr1
  · cases h
end Go.Proofs.Ytggdbakgiknogaa


namespace Go.Proofs.Ytggdbakgiknogaa
open Go Vx
def Cpt (P : Program) : Cx := (Cmap P).addLB 85 2 1 ptS
theorem okpt : CxOk (Cpt Try.prog) := Cx.addLB_ok okmap ptX_eq fun _ _ _ _ h hr => ptK h hr
def shR (row : Nat → List Value) (j : Nat) : Nat → List Value := match j with
  | 0 => row
  | j => fun i => row (j + i)
def putRes (own : Bool) (n : Nat) (X : List O3) (len : Nat) (row : Nat → List Value) : Option (Value × Mem) := some (.slice (some ⟨1, 0, some 0⟩) len 12, [.rows own true 12 n (opRow X), .rows true true 12 len row])
def roomB (k : Nat) : Bool := decide (k * 96 ≤ 2 ^ 47) && decide (k ≤ 2 ^ 62)
def putEnd (own : Bool) (n : Nat) (X : List O3) (A : Int) (len : Nat) (row : Nat → List Value) : Option (Value × Mem) := gd (leI A n) (match decide (A < (n : Int)) with
  | true => match Nat.beq (n - A.toNat) 0 with
    | true => putRes own n X len row
    | false => gd (Nat.beq len len && roomB (len + (n - A.toNat))) (putRes own n X (len + (n - A.toNat)) (catR len row (shR (opRow X) A.toNat)))
  | false => putRes own n X len row)
def putMid (own : Bool) (n : Nat) (X : List O3) (A : Int) (o : O3) : Option (Value × Mem) := gd (leI A n) (match Nat.beq A.toNat 0 with
  | true => putEnd own n X A 1 (chop 12 0 o.cells)
  | false => gd (roomB A.toNat) (gd (Nat.beq A.toNat A.toNat && roomB (A.toNat + 1)) (putEnd own n X A (A.toNat + 1) (catR A.toNat (opRow X) (chop 12 0 o.cells)))))
theorem putE1 (own : Bool) (n : Nat) (xs : List O3) (o : O3) : exT ((Cpt Try.prog).at 85) 60 Try.f85 [.slice (some ⟨0, 0, some 0⟩) n 12, o.v] [.rows own true 12 n (opRow xs)] [.fix 0, .slot 0] =
    gd (Nat.beq n n && (okOps n (opRow xs) && (decide ((0 : Int) ≤ 0) && (decide ((n : Int) ≤ 4611686018427387904) && isO o.cells)))) (putMid own n (opsOf n (opRow xs)) (putL ((opsOf n (opRow xs)).drop (0 : Int).toNat) (decO o.cells) 0) o) := by kernel_rfl
/-- How many are less. -/
def cntO : List O3 → O3 → Nat
  | [], _ => 0
  | x :: l, o => match decide (lexI x.l o.l < 0) with
    | true => cntO l o + 1
    | false => 0
theorem putL_cnt : ∀ (l : List O3) (o : O3) (i : Int), putL l o i = i + (cntO l o : Int)
  | [], o, i => by simp [putL, cntO]
  | x :: l, o, i => by
    simp only [putL, cntO]
    cases decide (lexI x.l o.l < 0) with
    | true => simp only; rw [putL_cnt l o (i + 1)]; omega
    | false => simp
theorem cntO_le : ∀ (l : List O3) (o : O3), cntO l o ≤ l.length
  | [], _ => Nat.le_refl _
  | x :: l, o => by
    simp only [cntO]
    have := cntO_le l o
    cases decide (lexI x.l o.l < 0) with
    | true => simp only [List.length_cons]; omega
    | false => simp
theorem insO_cnt : ∀ (l : List O3) (o : O3), insO o l = l.take (cntO l o) ++ o :: l.drop (cntO l o)
  | [], o => rfl
  | x :: l, o => by
    have ih := insO_cnt l o
    simp only [insO, cntO]
    cases decide (lexI x.l o.l < 0) with
    | true => simp only [List.take_succ_cons, List.drop_succ_cons, List.cons_append]; rw [ih]
    | false => rfl
theorem insO_len (o : O3) (l : List O3) : (insO o l).length = l.length + 1 := by rw [(insO_perm o l).length_eq]; rfl
/-- Rows of one list and then another. -/
theorem catR_app (xs ys : List O3) (i : Nat) : catR xs.length (opRow xs) (opRow ys) i = opRow (xs ++ ys) i := by
  unfold catR opRow
  by_cases h : i < xs.length
  · rw [show Nat.blt i xs.length = true by simpa [Nat.blt_eq] using h, List.getElem?_append_left h]
  · rw [blt_ff h, List.getElem?_append_right (by omega)]
theorem shR_eq (row : Nat → List Value) (j : Nat) : shR row j = fun i => row (j + i) := by
  unfold shR
  cases j with
  | zero => funext i; simp
  | succ j => rfl
theorem opRow_drop (xs : List O3) (k : Nat) : (fun i => opRow xs (k + i)) = opRow (xs.drop k) := by
  funext i
  unfold opRow
  rw [List.getElem?_drop]
theorem chop_one (o : O3) (i : Nat) (hi : i < 1) : chop 12 0 o.cells i = opRow [o] i := by
  obtain rfl : i = 0 := by omega
  rfl
theorem opRow_take {xs : List O3} {k i : Nat} (hi : i < k) : opRow (xs.take k) i = opRow xs i := by
  unfold opRow
  rw [List.getElem?_take, if_pos hi]
theorem roomB_ok {k : Nat} (h : k ≤ 2000000) : roomB k = true := by
  unfold roomB
  simp; omega
theorem leI_ok {A : Int} {n : Nat} (h0 : 0 ≤ A) (h : A ≤ (n : Int)) : leI A n = true := by simp [leI, h0, h]
theorem putS (own : Bool) (n : Nat) (xs : List O3) (o : O3) (hx : xs.length = n) (hn : n ≤ 1100000) : MemSem Try.prog 85 [.slice (some ⟨0, 0, some 0⟩) n 12, o.v] [.rows own true 12 n (opRow xs)] (.slice (some ⟨1, 0, some 0⟩) (n + 1) 12) [.rows own true 12 n (opRow xs), .rows true true 12 (n + 1) (opRow (insO o xs))] := by
  have hE := putE1 own n xs o
  have ht : (Nat.beq n n && (okOps n (opRow xs) && (decide ((0 : Int) ≤ 0) && (decide ((n : Int) ≤ 4611686018427387904) && isO o.cells)))) = true := by
    rw [Nat.beq_refl, okOps_opRow, isO_cells]; simp; omega
  rw [ht, gd_true, opsOf_row hx, decO_cells] at hE
  simp only [Int.toNat_zero, List.drop_zero] at hE
  rw [putL_cnt, Int.zero_add] at hE
  have hk := cntO_le xs o
  rw [hx] at hk
  have hins := insO_cnt xs o
  generalize cntO xs o = k at hE hk hins
  have sem : ∀ {v : Value} {m' : Mem}, exT ((Cpt Try.prog).at 85) 60 Try.f85 [.slice (some ⟨0, 0, some 0⟩) n 12, o.v] [.rows own true 12 n (opRow xs)] [.fix 0, .slot 0] = some (v, m') → MemSem Try.prog 85 [.slice (some ⟨0, 0, some 0⟩) n 12, o.v] [.rows own true 12 n (opRow xs)] v m' := fun hh => exT_ok okpt Try.func85 (by kernel_rfl) hh
  have fin : ∀ (len : Nat) (row : Nat → List Value), exT ((Cpt Try.prog).at 85) 60 Try.f85 [.slice (some ⟨0, 0, some 0⟩) n 12, o.v] [.rows own true 12 n (opRow xs)] [.fix 0, .slot 0] = putRes own n xs len row → len = n + 1 → rowsLike (n + 1) row (opRow (insO o xs)) → MemSem Try.prog 85 [.slice (some ⟨0, 0, some 0⟩) n 12, o.v] [.rows own true 12 n (opRow xs)] (.slice (some ⟨1, 0, some 0⟩) (n + 1) 12) [.rows own true 12 n (opRow xs), .rows true true 12 (n + 1) (opRow (insO o xs))] := by
    intro len row hh hl hr
    subst hl
    exact (sem hh).likes ⟨.refl _, .rows hr, trivial⟩
  have endE : ∀ (len : Nat) (row : Nat → List Value) (ys : List O3), len = ys.length → len ≤ n + 1 → ys.length + (n - k) = n + 1 → rowsLike len row (opRow ys) → insO o xs = ys ++ xs.drop k → exT ((Cpt Try.prog).at 85) 60 Try.f85 [.slice (some ⟨0, 0, some 0⟩) n 12, o.v] [.rows own true 12 n (opRow xs)] [.fix 0, .slot 0] = putEnd own n xs (k : Int) len row → MemSem Try.prog 85 [.slice (some ⟨0, 0, some 0⟩) n 12, o.v] [.rows own true 12 n (opRow xs)] (.slice (some ⟨1, 0, some 0⟩) (n + 1) 12) [.rows own true 12 n (opRow xs), .rows true true 12 (n + 1) (opRow (insO o xs))] := by
    intro len row ys hl hle hsum hrow hi hh
    unfold putEnd at hh
    rw [leI_ok (by omega) (by omega), gd_true, Int.toNat_natCast] at hh
    by_cases hlt : k < n
    · rw [show decide ((k : Int) < (n : Int)) = true by simp; omega] at hh
      have hne : Nat.beq (n - k) 0 = false := by
        cases hb : Nat.beq (n - k) 0 with
        | false => rfl
        | true => have := beq_len hb; omega
      simp only [hne] at hh
      rw [Nat.beq_refl, roomB_ok (by omega)] at hh
      simp only [Bool.and_self, gd_true] at hh
      refine fin _ _ hh (by omega) fun i hi2 => ?_
      rw [hi, ← catR_app]
      unfold catR
      subst hl
      by_cases h : i < ys.length
      · rw [show Nat.blt i ys.length = true by simpa [Nat.blt_eq] using h]
        exact hrow i h
      · rw [blt_ff h, shR_eq, opRow_drop]
    · have hkn : k = n := by omega
      rw [show decide ((k : Int) < (n : Int)) = false by simp; omega] at hh
      refine fin _ _ hh (by omega) fun i hi2 => ?_
      have hnil : xs.drop k = [] := List.drop_eq_nil_of_le (by omega)
      rw [hi, hnil, List.append_nil]
      exact hrow i (by omega)
  unfold putMid at hE
  rw [leI_ok (by omega) (by omega), gd_true, Int.toNat_natCast] at hE
  by_cases h0 : k = 0
  · subst h0
    refine endE 1 (chop 12 0 o.cells) [o] rfl (by omega) (by simp; omega) (fun i hi => chop_one o i hi) (by rw [hins]; simp) ?_
    rw [hE]
  · have hne : Nat.beq k 0 = false := by
      cases hb : Nat.beq k 0 with
      | false => rfl
      | true => exact absurd (beq_len hb) h0
    simp only [hne] at hE
    rw [roomB_ok (by omega), roomB_ok (by omega), Nat.beq_refl] at hE
    simp only [Bool.and_self, gd_true] at hE
    have htl : (xs.take k).length = k := by simp; omega
    refine endE (k + 1) _ (xs.take k ++ [o]) (by simp; omega) (by omega) (by simp; omega) (fun i hi => ?_) (by rw [hins]; simp) hE
    rw [← catR_app]
    unfold catR
    rw [htl]
    by_cases h : i < k
    · rw [show Nat.blt i k = true by simpa [Nat.blt_eq] using h]
      exact (opRow_take h).symm
    · rw [blt_ff h]
      exact chop_one o _ (by omega)
def putF : List Value → Mem → Option (Ans (Value × Mem))
  | [.slice (some ⟨0, 0, some 0⟩) n 12, .agg co], [.rows own true 12 n2 row] => match opCells co.toList with
    | some o => some (.br (Nat.beq n n2 && (okOps n row && decide (n ≤ 1100000))) (.out (.slice (some ⟨1, 0, some 0⟩) (n + 1) 12, [.rows own true 12 n (opRow (opsOf n row)), .rows true true 12 (n + 1) (opRow (insO o (opsOf n row)))])) .fail)
    | none => none
  | _, _ => none
def Cpu (P : Program) : Cx := (Cpt P).addF 85 putF
theorem okpu : CxOk (Cpu Try.prog) := Cx.addF_ok okpt fun args m ans v m' h hr => by
  unfold putF at h
  split at h
  · rename_i n co own n2 row
    split at h
    · rename_i o ho
      simp only [Option.some.injEq] at h
      subst h
      rcases Ans.br_some hr with ⟨hc, hr1⟩ | ⟨_, hr1⟩
      · clear hr
        simp only [Bool.and_eq_true, decide_eq_true_eq] at hc
        obtain ⟨c1, c2, c3⟩ := hc
        have c1 := beq_len c1
        subst c1
        simp only [Ans.res, Option.some.injEq, Prod.mk.injEq] at hr1
        obtain ⟨rfl, rfl⟩ := hr1
        have e1 : co = o.cells.toArray := by rw [← opCells_spec ho]
        subst e1
        exact (putS own n (opsOf n row) o (opsOf_length n row) c3).like ⟨.rows (ops_like c2), trivial⟩
      · simp [Ans.res] at hr1
    · cases h
  · cases h
end Go.Proofs.Ytggdbakgiknogaa


namespace Go.Proofs.Ytggdbakgiknogaa
open Go Vx
/-- As rIn; where it ends, what was found. -/
def rInB (f : O3) : List O3 → List O3 → List O3 → Bool × List O3 × List O3
  | [], fs, ss => (true, fs, ss)
  | o :: l, fs, ss => match decide (placeI fs (f.mul5 o) ≥ 0) with
    | true => rInB f l fs ss
    | false => match !(f.mul5 o).r.ok with
      | true => (false, fs, ss)
      | false => match ((fs.length : Int) == 192) with
        | true => (false, fs, ss)
        | false => rInB f l (fs ++ [f.mul5 o]) (insO (f.mul5 o) ss)
theorem rInB_eq (f : O3) : ∀ (l fs ss : List O3), rIn f l fs ss = match (rInB f l fs ss).1 with
    | true => some (rInB f l fs ss).2
    | false => none
  | [], fs, ss => rfl
  | o :: l, fs, ss => by
    simp only [rIn, rInB]
    cases decide (placeI fs (f.mul5 o) ≥ 0) with
    | true => exact rInB_eq f l fs ss
    | false =>
      simp only
      cases !(f.mul5 o).r.ok with
      | true => rfl
      | false =>
        simp only
        cases ((fs.length : Int) == 192) with
        | true => rfl
        | false => exact rInB_eq f l _ _
def rOutB (ls : List O3) : Nat → Int → List O3 → List O3 → Bool × List O3 × List O3
  | 0, _, fs, ss => (true, fs, ss)
  | N + 1, i, fs, ss => match decide (i < (fs.length : Int)) with
    | true => match (rInB (atO fs i) ls fs ss).1 with
      | true => rOutB ls N (i + 1) (rInB (atO fs i) ls fs ss).2.1 (rInB (atO fs i) ls fs ss).2.2
      | false => (false, (rInB (atO fs i) ls fs ss).2)
    | false => (true, fs, ss)
theorem rOutB_eq (ls : List O3) : ∀ (N : Nat) (i : Int) (fs ss : List O3), rOut ls N i fs ss = match (rOutB ls N i fs ss).1 with
    | true => some (rOutB ls N i fs ss).2
    | false => none
  | 0, i, fs, ss => rfl
  | N + 1, i, fs, ss => by
    simp only [rOut, rOutB]
    cases decide (i < (fs.length : Int)) with
    | true =>
      simp only
      rw [rInB_eq]
      cases (rInB (atO fs i) ls fs ss).1 with
      | true => exact rOutB_eq ls N _ _ _
      | false => rfl
    | false => rfl
theorem rInB_len (f : O3) : ∀ (l fs ss : List O3), fs.length = ss.length → fs.length ≤ 192 → (rInB f l fs ss).2.1.length = (rInB f l fs ss).2.2.length ∧ fs.length ≤ (rInB f l fs ss).2.1.length ∧ (rInB f l fs ss).2.1.length ≤ 192
  | [], fs, ss, h, h2 => ⟨h, Nat.le_refl _, h2⟩
  | o :: l, fs, ss, h, h2 => by
    simp only [rInB]
    cases decide (placeI fs (f.mul5 o) ≥ 0) with
    | true => exact rInB_len f l fs ss h h2
    | false =>
      simp only
      cases !(f.mul5 o).r.ok with
      | true => exact ⟨h, Nat.le_refl _, h2⟩
      | false =>
        simp only
        cases hne : ((fs.length : Int) == 192) with
        | true => exact ⟨h, Nat.le_refl _, h2⟩
        | false =>
          have hne' : ¬ (fs.length : Int) = 192 := by simpa using hne
          obtain ⟨h3, h4, h5⟩ := rInB_len f l (fs ++ [f.mul5 o]) (insO (f.mul5 o) ss) (by rw [insO_len]; simp [h]) (by simp; omega)
          refine ⟨h3, ?_, h5⟩
          simp only
          simp at h4; omega
theorem atO_app {fs : List O3} {i : Int} (h0 : 0 ≤ i) (h : i < (fs.length : Int)) (ex : List O3) : atO (fs ++ ex) i = atO fs i := by
  unfold atO
  rw [List.getElem?_append_left (by omega)]
def riX (P : Program) : Code := (loopsOf P 51 7).headD .skip
theorem riX_eq : loopsOf Try.prog 51 7 = [riX Try.prog] := by kernel_rfl
def riM (own : Bool) (N : Nat) (ls : List O3) (n : Nat) (row ss : Nat → List Value) : Mem := [.rows own true 12 N (opRow ls), .rows true true 12 n row, .rows true true 12 n ss]
def roH (N : Nat) (n : Nat) (at_ : Int) (m : Mem) : St := stOf 54 [(0, .slice (some ⟨0, 0, some 0⟩) N 12), (2, .slice none 0 0), (3, .bool false), (4, .slice (some ⟨1, 0, some 0⟩) n 12), (5, .slice (some ⟨2, 0, some 0⟩) n 12), (6, vI at_)] m
def riH (N : Nat) (n : Nat) (at_ i : Int) (m : Mem) : St := stOf 54 [(0, .slice (some ⟨0, 0, some 0⟩) N 12), (2, .slice none 0 0), (3, .bool false), (4, .slice (some ⟨1, 0, some 0⟩) n 12), (5, .slice (some ⟨2, 0, some 0⟩) n 12), (6, vI at_), (20, .slice (some ⟨0, 0, some 0⟩) N 12), (21, vI N), (22, vI i)] m
theorem riR (own : Bool) (N : Nat) (ls : List O3) (n : Nat) (fs ss : List O3) (at_ i : Int) : roundR ((Cpu Try.prog).into 51 1) 40 (riX Try.prog) [0, 2, 3, 4, 5, 6, 20, 21, 22] [0, 2, 3, 4, 5, 6] [.fix 0, .slot 4, .slot 5] [.fix 0, .slot 4, .slot 5] (riH N n at_ i (riM own N ls n (opRow fs) (opRow ss))) =
    (match decide (i < (N : Int)) with
    | true => match boundsI i N with
      | true => match boundsI at_ n with
        | true => match (Nat.beq n n && (okOps n (opRow fs) && decide (n ≤ 4611686018427387904))) with
          | true => match decide (placeI (opsOf n (opRow fs)) ((atO fs at_).mul5 (atO ls i)) ≥ 0) with
            | true => some (.normal, riH N n at_ (W (i + 1)) (riM own N ls n (opRow (opsOf n (opRow fs))) (opRow ss)))
            | false => match !((atO fs at_).mul5 (atO ls i)).r.ok with
              | true => some (.ret, roH N n at_ (riM own N ls n (opRow (opsOf n (opRow fs))) (opRow ss)))
              | false => match ((n : Int) == 192) with
                | true => some (.ret, roH N n at_ (riM own N ls n (opRow (opsOf n (opRow fs))) (opRow ss)))
                | false => match Nat.beq n n && roomB (n + 1) with
                  | true => match (Nat.beq n n && (okOps n (opRow ss) && decide (n ≤ 1100000))) with
                    | true => some (.normal, riH N (n + 1) at_ (W (i + 1)) (riM own N ls (n + 1) (catR n (opRow (opsOf n (opRow fs))) (chop 12 0 ((atO fs at_).mul5 (atO ls i)).cells)) (opRow (insO ((atO fs at_).mul5 (atO ls i)) (opsOf n (opRow ss))))))
                    | false => none
                  | false => none
          | false => none
        | false => none
      | false => none
    | false => some (.exit 2, roH N n at_ (riM own N ls n (opRow fs) (opRow ss)))) := by kernel_rfl
structure riG where
  (own : Bool) (N : Nat) (ls : List O3) (n : Nat) (fs ss : List O3) (at_ i : Int) (f : O3)
def riHg (g : riG) : St := riH g.N g.n g.at_ g.i (riM g.own g.N g.ls g.n (opRow g.fs) (opRow g.ss))
def riInv (g : riG) : Prop := g.ls.length = g.N ∧ g.N ≤ 1100000 ∧ g.fs.length = g.n ∧ g.ss.length = g.n ∧ g.n ≤ 192 ∧ 0 ≤ g.at_ ∧ g.at_ < (g.n : Int) ∧ 0 ≤ g.i ∧ g.i ≤ (g.N : Int) ∧ atO g.fs g.at_ = g.f
def riRes (g : riG) : Bool × List O3 × List O3 := rInB g.f (g.ls.drop g.i.toNat) g.fs g.ss
def riO (g : riG) : Exit × St := (match (riRes g).1 with
  | true => .exit 2
  | false => .ret, roH g.N (riRes g).2.1.length g.at_ (riM g.own g.N g.ls (riRes g).2.1.length (opRow (riRes g).2.1) (opRow (riRes g).2.2)))
theorem riL (g : riG) (hg : riInv g) : LoopSem Try.prog 1 (riX Try.prog) (riHg g) (riO g).1 (riO g).2 := by
  refine loop_rule2 (C := Cpu Try.prog) okpu (f := 51) (B := 1) (loopsOf_in (k := 7) riX_eq) 40 [0, 2, 3, 4, 5, 6, 20, 21, 22] [0, 2, 3, 4, 5, 6] [.fix 0, .slot 4, .slot 5] [.fix 0, .slot 4, .slot 5] riHg (fun g => (g.N - g.i).toNat) riInv riO ?_ g hg
  clear hg g
  rintro ⟨own, N, ls, n, fs, ss, at_, i, f⟩ hg
  unfold riInv at hg
  simp only at hg
  obtain ⟨h1, h2, h3, h4, h5, h6, h7, h8, h9, h10⟩ := hg
  have hR := riR own N ls n fs ss at_ i
  rw [h10] at hR
  have t1 : (Nat.beq n n && (okOps n (opRow fs) && decide (n ≤ 4611686018427387904))) = true := by rw [Nat.beq_refl, okOps_opRow]; simp; omega
  have t2 : (Nat.beq n n && (okOps n (opRow ss) && decide (n ≤ 1100000))) = true := by rw [Nat.beq_refl, okOps_opRow]; simp; omega
  have t3 : (Nat.beq n n && roomB (n + 1)) = true := by rw [Nat.beq_refl, roomB_ok (by omega)]; rfl
  rw [t1, t2, t3, opsOf_row h3, opsOf_row h4] at hR
  by_cases hi : i < (N : Int)
  · have hd : decide (i < (N : Int)) = true := by simpa using hi
    have hb : boundsI i N = true := by simp [boundsI, h8, hi]
    have hb2 : boundsI at_ n = true := by simp [boundsI, h6, h7]
    have hw : W (i + 1) = i + 1 := W_in (by omega)
    have hdr := drop_at (xs := ls) h8 (by omega)
    rw [hd, hb, hb2, hw] at hR
    simp only at hR
    cases hp : decide (placeI fs (f.mul5 (atO ls i)) ≥ 0) with
    | true =>
      left
      rw [hp] at hR
      refine ⟨⟨own, N, ls, n, fs, ss, at_, i + 1, f⟩, _, hR, StLike.refl _, ?_, by simp only; omega, ?_⟩
      · unfold riInv
        exact ⟨h1, h2, h3, h4, h5, h6, h7, by simp only; omega, by simp only; omega, h10⟩
      · unfold riO riRes
        simp only [hdr, rInB, hp]
    | false =>
      rw [hp] at hR
      simp only at hR
      cases hk : !(f.mul5 (atO ls i)).r.ok with
      | true =>
        right
        rw [hk] at hR
        have hres : riRes ⟨own, N, ls, n, fs, ss, at_, i, f⟩ = (false, fs, ss) := by unfold riRes; simp only [hdr, rInB, hp, hk]
        refine ⟨_, by unfold riO; simp only [hres]; exact hR, ?_, by unfold riO; simp [hres]⟩
        unfold riO
        simp only [hres, h3]
        exact StLike.refl _
      | false =>
        rw [hk] at hR
        simp only at hR
        cases hn : ((n : Int) == 192) with
        | true =>
          right
          rw [hn] at hR
          have hres : riRes ⟨own, N, ls, n, fs, ss, at_, i, f⟩ = (false, fs, ss) := by unfold riRes; simp only [hdr, rInB, hp, hk, h3, hn]
          refine ⟨_, by unfold riO; simp only [hres]; exact hR, ?_, by unfold riO; simp [hres]⟩
          unfold riO
          simp only [hres, h3]
          exact StLike.refl _
        | false =>
          left
          rw [hn] at hR
          have hn' : ¬ (n : Int) = 192 := by simpa using hn
          refine ⟨⟨own, N, ls, n + 1, fs ++ [f.mul5 (atO ls i)], insO (f.mul5 (atO ls i)) ss, at_, i + 1, f⟩, _, hR, ?_, ?_, by simp only; omega, ?_⟩
          · exact ⟨rfl, .refl _, like_nr h3 _, .refl _, trivial⟩
          · unfold riInv
            simp only
            exact ⟨h1, h2, by simp [h3], by rw [insO_len, h4], by omega, h6, by omega, by omega, by omega, by rw [atO_app h6 (by omega)]; exact h10⟩
          · unfold riO riRes
            simp only [hdr, rInB, hp, hk, h3, hn]
  · have hd : decide (i < (N : Int)) = false := by simpa using hi
    rw [hd] at hR
    right
    have hn : ls.drop i.toNat = [] := List.drop_eq_nil_of_le (by omega)
    have hres : riRes ⟨own, N, ls, n, fs, ss, at_, i, f⟩ = (true, fs, ss) := by unfold riRes; simp only [hn, rInB]
    refine ⟨_, by unfold riO; simp only [hres]; exact hR, ?_, by unfold riO; simp [hres]⟩
    unfold riO
    simp only [hres, h3]
    exact StLike.refl _
/-! The inner loop, told of states -/
def riD : Mem → Option (Bool × Nat × (Nat → List Value) × Nat × (Nat → List Value) × Nat × (Nat → List Value))
  | [.rows own true 12 N2 row, .rows true true 12 n2 row2, .rows true true 12 n3 row3] => some (own, N2, row, n2, row2, n3, row3)
  | _ => none
theorem riD_spec {m : Mem} {own : Bool} {N2 n2 n3 : Nat} {row row2 row3 : Nat → List Value} (h : riD m = some (own, N2, row, n2, row2, n3, row3)) : m = [.rows own true 12 N2 row, .rows true true 12 n2 row2, .rows true true 12 n3 row3] := by
  unfold riD at h
  split at h
  · simp only [Option.some.injEq, Prod.mk.injEq] at h
    obtain ⟨rfl, rfl, rfl, rfl, rfl, rfl, rfl⟩ := h
    rfl
  · cases h
def riT (N N1 N2 n n1 n2 n3 : Nat) (row row2 row3 : Nat → List Value) (at_ L i : Int) : Bool := Nat.beq N N1 && (Nat.beq N N2 && (okOps N row && (Nat.beq n n1 && (Nat.beq n n2 && (okOps n row2 && (Nat.beq n n3 && (okOps n row3 && (decide (L = (N : Int)) && (decide (0 = i) && (decide (n ≤ 192) && (decide (N ≤ 1100000) && (decide (0 ≤ at_) && decide (at_ < (n : Int))))))))))))))
def riS (st : St) : Option (Ans (Exit × St)) :=
  match Nat.beq st.tmps.length 54, tAt st 0, tAt st 2, tAt st 3, tAt st 4, tAt st 5, tAt st 6, tAt st 20, tAt st 21, tAt st 22, riD (thaw (killV st.mem)) with
  | true, some (.slice (some ⟨0, 0, some 0⟩) N 12), some (.slice none 0 0), some (.bool false), some (.slice (some ⟨1, 0, some 0⟩) n 12), some (.slice (some ⟨2, 0, some 0⟩) n1 12), some (.int .i64 at_), some (.slice (some ⟨0, 0, some 0⟩) N1 12), some (.int .i64 L), some (.int .i64 i), some (own, N2, row, n2, row2, n3, row3) =>
    some (.br (riT N N1 N2 n n1 n2 n3 row row2 row3 at_ L i) (.br (rInB (atO (opsOf n row2) at_) (opsOf N row) (opsOf n row2) (opsOf n row3)).1
      (.out (.exit 2, roH N (rInB (atO (opsOf n row2) at_) (opsOf N row) (opsOf n row2) (opsOf n row3)).2.1.length at_ (riM own N (opsOf N row) (rInB (atO (opsOf n row2) at_) (opsOf N row) (opsOf n row2) (opsOf n row3)).2.1.length (opRow (rInB (atO (opsOf n row2) at_) (opsOf N row) (opsOf n row2) (opsOf n row3)).2.1) (opRow (rInB (atO (opsOf n row2) at_) (opsOf N row) (opsOf n row2) (opsOf n row3)).2.2))))
      (.out (.ret, roH N (rInB (atO (opsOf n row2) at_) (opsOf N row) (opsOf n row2) (opsOf n row3)).2.1.length at_ (riM own N (opsOf N row) (rInB (atO (opsOf n row2) at_) (opsOf N row) (opsOf n row2) (opsOf n row3)).2.1.length (opRow (rInB (atO (opsOf n row2) at_) (opsOf N row) (opsOf n row2) (opsOf n row3)).2.1) (opRow (rInB (atO (opsOf n row2) at_) (opsOf N row) (opsOf n row2) (opsOf n row3)).2.2))))) .fail)
  | _, _, _, _, _, _, _, _, _, _, _ => none
theorem riK {st : St} {ans : Ans (Exit × St)} {e_ : Exit} {s_ : St} (h : riS st = some ans) (hr : ans.res = some (e_, s_)) : LoopSem Try.prog 1 (riX Try.prog) st e_ s_ := by
  unfold riS at h
  split at h
  rotate_left
  · cases h
  rename_i N n n1 at_ N1 L i own N2 row n2 row2 n3 row3 hb hs0 hs2 hs3 hs4 hs5 hs6 hs20 hs21 hs22 hD
  simp only [Option.some.injEq] at h
  subst h
  rcases Ans.br_some hr with ⟨hc, hr1⟩ | ⟨_, hr1⟩
  rotate_left
  · simp [Ans.res] at hr1
  clear hr
  unfold riT at hc
  simp only [Bool.and_eq_true, decide_eq_true_eq] at hc
  obtain ⟨c0, c1, c2, c3, c4, c5, c6, c7, c8, c9, c10, c11, c12, c13⟩ := hc
  have c0 := beq_len c0
  have c1 := beq_len c1
  have c3 := beq_len c3
  have c4 := beq_len c4
  have c6 := beq_len c6
  subst c0 c1 c3 c4 c6 c8 c9
  have hmem := riD_spec hD
  have hI : riInv ⟨own, N, opsOf N row, n, opsOf n row2, opsOf n row3, at_, 0, atO (opsOf n row2) at_⟩ := by
    unfold riInv
    simp only
    exact ⟨opsOf_length N row, c11, opsOf_length n row2, opsOf_length n row3, c10, c12, c13, by omega, by omega, trivial⟩
  have key := riL _ hI
  have hlike : LikeL (thaw (killV st.mem)) (riHg ⟨own, N, opsOf N row, n, opsOf n row2, opsOf n row3, at_, 0, atO (opsOf n row2) at_⟩).mem := by
    rw [hmem]
    exact ⟨.rows (ops_like c2), .rows (ops_like c5), .rows (ops_like c7), trivial⟩
  have key := LoopSem.like (tm := (riHg ⟨own, N, opsOf N row, n, opsOf n row2, opsOf n row3, at_, 0, atO (opsOf n row2) at_⟩).tmps) (m := thaw (killV st.mem)) key hlike
  have key := LoopSem.fresh key
  have hk : keepL [0, 2, 3, 4, 5, 6, 20, 21, 22] 0 st.tmps = (riHg ⟨own, N, opsOf N row, n, opsOf n row2, opsOf n row3, at_, 0, atO (opsOf n row2) at_⟩).tmps := by
    have := keep_eq [(0, .slice (some ⟨0, 0, some 0⟩) N 12), (2, .slice none 0 0), (3, .bool false), (4, .slice (some ⟨1, 0, some 0⟩) n 12), (5, .slice (some ⟨2, 0, some 0⟩) n 12), (6, vI at_), (20, .slice (some ⟨0, 0, some 0⟩) N 12), (21, vI N), (22, vI 0)] st.tmps 0 (by
      intro x hx _
      simp only [List.mem_cons, List.not_mem_nil, or_false] at hx
      rcases hx with rfl | rfl | rfl | rfl | rfl | rfl | rfl | rfl | rfl
      · exact hs0
      · exact hs2
      · exact hs3
      · exact hs4
      · exact hs5
      · exact hs6
      · exact hs20
      · exact hs21
      · exact hs22)
    rw [show (keepL [0, 2, 3, 4, 5, 6, 20, 21, 22] 0 st.tmps) = _ from this, beq_len hb]
    rfl
  rw [← hk] at key
  have key : LoopSem Try.prog 1 (riX Try.prog) st _ _ := LoopSem.clean (mask := [0, 2, 3, 4, 5, 6, 20, 21, 22]) key
  unfold riO riRes at key
  simp only [Int.toNat_zero, List.drop_zero] at key
  rcases Ans.br_some hr1 with ⟨hq, hr2⟩ | ⟨hq, hr2⟩
  · rw [hq] at key
    simp only [Ans.res, Option.some.injEq, Prod.mk.injEq] at hr2
    obtain ⟨rfl, rfl⟩ := hr2
    exact key
  · rw [hq] at key
    simp only [Ans.res, Option.some.injEq, Prod.mk.injEq] at hr2
    obtain ⟨rfl, rfl⟩ := hr2
    exact key
def Cri (P : Program) : Cx := (Cpu P).addLB 51 7 1 riS
theorem okri : CxOk (Cri Try.prog) := Cx.addLB_ok okpu riX_eq fun _ _ _ _ h hr => riK h hr
end Go.Proofs.Ytggdbakgiknogaa


namespace Go.Proofs.Ytggdbakgiknogaa
open Go Vx
def roX (P : Program) : Code := (loopsOf P 51 4).headD .skip
theorem roX_eq : loopsOf Try.prog 51 4 = [roX Try.prog] := by kernel_rfl
theorem roR (own : Bool) (N : Nat) (ls : List O3) (n : Nat) (fs ss : List O3) (at_ : Int) : roundR ((Cri Try.prog).into 51 1) 40 (roX Try.prog) [0, 2, 3, 4, 5, 6] [0, 2, 3, 4, 5, 6] [.fix 0, .slot 4, .slot 5] [.fix 0, .slot 4, .slot 5] (roH N n at_ (riM own N ls n (opRow fs) (opRow ss))) =
    (match decide (at_ < (n : Int)) with
    | true => match riT N N N n n n n (opRow ls) (opRow fs) (opRow ss) at_ N 0 with
      | true => match (rInB (atO (opsOf n (opRow fs)) at_) (opsOf N (opRow ls)) (opsOf n (opRow fs)) (opsOf n (opRow ss))).1 with
        | true => some (.normal, roH N (rInB (atO (opsOf n (opRow fs)) at_) (opsOf N (opRow ls)) (opsOf n (opRow fs)) (opsOf n (opRow ss))).2.1.length (W (at_ + 1)) (riM own N (opsOf N (opRow ls)) (rInB (atO (opsOf n (opRow fs)) at_) (opsOf N (opRow ls)) (opsOf n (opRow fs)) (opsOf n (opRow ss))).2.1.length (opRow (rInB (atO (opsOf n (opRow fs)) at_) (opsOf N (opRow ls)) (opsOf n (opRow fs)) (opsOf n (opRow ss))).2.1) (opRow (rInB (atO (opsOf n (opRow fs)) at_) (opsOf N (opRow ls)) (opsOf n (opRow fs)) (opsOf n (opRow ss))).2.2)))
        | false => some (.ret, roH N (rInB (atO (opsOf n (opRow fs)) at_) (opsOf N (opRow ls)) (opsOf n (opRow fs)) (opsOf n (opRow ss))).2.1.length at_ (riM own N (opsOf N (opRow ls)) (rInB (atO (opsOf n (opRow fs)) at_) (opsOf N (opRow ls)) (opsOf n (opRow fs)) (opsOf n (opRow ss))).2.1.length (opRow (rInB (atO (opsOf n (opRow fs)) at_) (opsOf N (opRow ls)) (opsOf n (opRow fs)) (opsOf n (opRow ss))).2.1) (opRow (rInB (atO (opsOf n (opRow fs)) at_) (opsOf N (opRow ls)) (opsOf n (opRow fs)) (opsOf n (opRow ss))).2.2)))
      | false => none
    | false => some (.exit 0, roH N n at_ (riM own N ls n (opRow fs) (opRow ss)))) := by kernel_rfl
structure roG where
  (own : Bool) (N : Nat) (ls : List O3) (n : Nat) (fs ss : List O3) (at_ : Int) (F : Nat)
def roHg (g : roG) : St := roH g.N g.n g.at_ (riM g.own g.N g.ls g.n (opRow g.fs) (opRow g.ss))
def roInv (g : roG) : Prop := g.ls.length = g.N ∧ g.N ≤ 1100000 ∧ g.fs.length = g.n ∧ g.ss.length = g.n ∧ g.n ≤ 192 ∧ 0 ≤ g.at_ ∧ (g.F : Int) + g.at_ = 193
def roRes (g : roG) : Bool × List O3 × List O3 := rOutB g.ls g.F g.at_ g.fs g.ss
/-- How far it came. -/
def rAt (ls : List O3) : Nat → Int → List O3 → List O3 → Int
  | 0, i, _, _ => i
  | N + 1, i, fs, ss => match decide (i < (fs.length : Int)) with
    | true => match (rInB (atO fs i) ls fs ss).1 with
      | true => rAt ls N (i + 1) (rInB (atO fs i) ls fs ss).2.1 (rInB (atO fs i) ls fs ss).2.2
      | false => i
    | false => i
def roO (g : roG) : Exit × St := (match (roRes g).1 with
  | true => .exit 0
  | false => .ret, roH g.N (roRes g).2.1.length (rAt g.ls g.F g.at_ g.fs g.ss) (riM g.own g.N g.ls (roRes g).2.1.length (opRow (roRes g).2.1) (opRow (roRes g).2.2)))
theorem roL (g : roG) (hg : roInv g) : LoopSem Try.prog 1 (roX Try.prog) (roHg g) (roO g).1 (roO g).2 := by
  refine loop_rule2 (C := Cri Try.prog) okri (f := 51) (B := 1) (loopsOf_in (k := 4) roX_eq) 40 [0, 2, 3, 4, 5, 6] [0, 2, 3, 4, 5, 6] [.fix 0, .slot 4, .slot 5] [.fix 0, .slot 4, .slot 5] roHg (fun g => g.F) roInv roO ?_ g hg
  clear hg g
  rintro ⟨own, N, ls, n, fs, ss, at_, F⟩ hg
  unfold roInv at hg
  simp only at hg
  obtain ⟨h1, h2, h3, h4, h5, h6, h7⟩ := hg
  have hR := roR own N ls n fs ss at_
  rw [opsOf_row h1, opsOf_row h3, opsOf_row h4] at hR
  by_cases hi : at_ < (n : Int)
  · have hd : decide (at_ < (n : Int)) = true := by simpa using hi
    have hd2 : decide (at_ < (fs.length : Int)) = true := by rw [h3]; exact hd
    have hw : W (at_ + 1) = at_ + 1 := W_in (by omega)
    have ht : riT N N N n n n n (opRow ls) (opRow fs) (opRow ss) at_ N 0 = true := by
      unfold riT
      rw [Nat.beq_refl, Nat.beq_refl, okOps_opRow, okOps_opRow, okOps_opRow]
      simp; omega
    rw [hd, ht, hw] at hR
    simp only at hR
    obtain ⟨l1, l2, l3⟩ := rInB_len (atO fs at_) ls fs ss (by omega) (by omega)
    cases F with
    | zero => omega
    | succ F =>
      cases hq : (rInB (atO fs at_) ls fs ss).1 with
      | true =>
        left
        rw [hq] at hR
        refine ⟨⟨own, N, ls, (rInB (atO fs at_) ls fs ss).2.1.length, (rInB (atO fs at_) ls fs ss).2.1, (rInB (atO fs at_) ls fs ss).2.2, at_ + 1, F⟩, _, hR, StLike.refl _, ?_, by simp only; omega, ?_⟩
        · unfold roInv
          simp only
          exact ⟨h1, h2, trivial, l1.symm, l3, by omega, by omega⟩
        · unfold roO roRes
          simp only [rOutB, rAt, hd2, hq]
      | false =>
        right
        rw [hq] at hR
        have hres : roRes ⟨own, N, ls, n, fs, ss, at_, F + 1⟩ = (false, (rInB (atO fs at_) ls fs ss).2) := by unfold roRes; simp only [rOutB, hd2, hq]
        have hat : rAt ls (F + 1) at_ fs ss = at_ := by simp only [rAt, hd2, hq]
        refine ⟨_, by unfold roO; simp only [hres]; exact hR, ?_, by unfold roO; simp [hres]⟩
        unfold roO
        simp only [hres, hat]
        exact StLike.refl _
  · have hd : decide (at_ < (n : Int)) = false := by simpa using hi
    have hd2 : decide (at_ < (fs.length : Int)) = false := by rw [h3]; exact hd
    rw [hd] at hR
    right
    have hres : roRes ⟨own, N, ls, n, fs, ss, at_, F⟩ = (true, fs, ss) := by
      unfold roRes
      cases F with
      | zero => rfl
      | succ F => simp only [rOutB, hd2]
    have hat : rAt ls F at_ fs ss = at_ := by
      cases F with
      | zero => rfl
      | succ F => simp only [rAt, hd2]
    refine ⟨_, by unfold roO; simp only [hres]; exact hR, ?_, by unfold roO; simp [hres]⟩
    unfold roO
    simp only [hres, hat, h3]
    exact StLike.refl _
def roT (N N2 n n1 n2 n3 : Nat) (row row2 row3 : Nat → List Value) (at_ : Int) : Bool := Nat.beq N N2 && (okOps N row && (Nat.beq n n1 && (Nat.beq n n2 && (okOps n row2 && (Nat.beq n n3 && (okOps n row3 && (decide (n ≤ 192) && (decide (N ≤ 1100000) && decide (0 = at_)))))))))
def roS (st : St) : Option (Ans (Exit × St)) :=
  match Nat.beq st.tmps.length 54, tAt st 0, tAt st 2, tAt st 3, tAt st 4, tAt st 5, tAt st 6, riD (thaw (killV st.mem)) with
  | true, some (.slice (some ⟨0, 0, some 0⟩) N 12), some (.slice none 0 0), some (.bool false), some (.slice (some ⟨1, 0, some 0⟩) n 12), some (.slice (some ⟨2, 0, some 0⟩) n1 12), some (.int .i64 at_), some (own, N2, row, n2, row2, n3, row3) =>
    some (.br (roT N N2 n n1 n2 n3 row row2 row3 at_) (.br (rOutB (opsOf N row) 193 0 (opsOf n row2) (opsOf n row3)).1
      (.out (.exit 0, roH N (rOutB (opsOf N row) 193 0 (opsOf n row2) (opsOf n row3)).2.1.length (rAt (opsOf N row) 193 0 (opsOf n row2) (opsOf n row3)) (riM own N (opsOf N row) (rOutB (opsOf N row) 193 0 (opsOf n row2) (opsOf n row3)).2.1.length (opRow (rOutB (opsOf N row) 193 0 (opsOf n row2) (opsOf n row3)).2.1) (opRow (rOutB (opsOf N row) 193 0 (opsOf n row2) (opsOf n row3)).2.2))))
      (.out (.ret, roH N (rOutB (opsOf N row) 193 0 (opsOf n row2) (opsOf n row3)).2.1.length (rAt (opsOf N row) 193 0 (opsOf n row2) (opsOf n row3)) (riM own N (opsOf N row) (rOutB (opsOf N row) 193 0 (opsOf n row2) (opsOf n row3)).2.1.length (opRow (rOutB (opsOf N row) 193 0 (opsOf n row2) (opsOf n row3)).2.1) (opRow (rOutB (opsOf N row) 193 0 (opsOf n row2) (opsOf n row3)).2.2))))) .fail)
  | _, _, _, _, _, _, _, _ => none
theorem roK {st : St} {ans : Ans (Exit × St)} {e_ : Exit} {s_ : St} (h : roS st = some ans) (hr : ans.res = some (e_, s_)) : LoopSem Try.prog 1 (roX Try.prog) st e_ s_ := by
  unfold roS at h
  split at h
  rotate_left
  · cases h
  rename_i N n n1 at_ own N2 row n2 row2 n3 row3 hb hs0 hs2 hs3 hs4 hs5 hs6 hD
  simp only [Option.some.injEq] at h
  subst h
  rcases Ans.br_some hr with ⟨hc, hr1⟩ | ⟨_, hr1⟩
  rotate_left
  · simp [Ans.res] at hr1
  clear hr
  unfold roT at hc
  simp only [Bool.and_eq_true, decide_eq_true_eq] at hc
  obtain ⟨c1, c2, c3, c4, c5, c6, c7, c8, c9, c10⟩ := hc
  have c1 := beq_len c1
  have c3 := beq_len c3
  have c4 := beq_len c4
  have c6 := beq_len c6
  subst c1 c3 c4 c6 c10
  have hmem := riD_spec hD
  have hI : roInv ⟨own, N, opsOf N row, n, opsOf n row2, opsOf n row3, 0, 193⟩ := by
    unfold roInv
    simp only
    exact ⟨opsOf_length N row, c9, opsOf_length n row2, opsOf_length n row3, c8, by omega, by omega⟩
  have key := roL _ hI
  have hlike : LikeL (thaw (killV st.mem)) (roHg ⟨own, N, opsOf N row, n, opsOf n row2, opsOf n row3, 0, 193⟩).mem := by
    rw [hmem]
    exact ⟨.rows (ops_like c2), .rows (ops_like c5), .rows (ops_like c7), trivial⟩
  have key := LoopSem.like (tm := (roHg ⟨own, N, opsOf N row, n, opsOf n row2, opsOf n row3, 0, 193⟩).tmps) (m := thaw (killV st.mem)) key hlike
  have key := LoopSem.fresh key
  have hk : keepL [0, 2, 3, 4, 5, 6] 0 st.tmps = (roHg ⟨own, N, opsOf N row, n, opsOf n row2, opsOf n row3, 0, 193⟩).tmps := by
    have := keep_eq [(0, .slice (some ⟨0, 0, some 0⟩) N 12), (2, .slice none 0 0), (3, .bool false), (4, .slice (some ⟨1, 0, some 0⟩) n 12), (5, .slice (some ⟨2, 0, some 0⟩) n 12), (6, vI 0)] st.tmps 0 (by
      intro x hx _
      simp only [List.mem_cons, List.not_mem_nil, or_false] at hx
      rcases hx with rfl | rfl | rfl | rfl | rfl | rfl
      · exact hs0
      · exact hs2
      · exact hs3
      · exact hs4
      · exact hs5
      · exact hs6)
    rw [show (keepL [0, 2, 3, 4, 5, 6] 0 st.tmps) = _ from this, beq_len hb]
    rfl
  rw [← hk] at key
  have key : LoopSem Try.prog 1 (roX Try.prog) st _ _ := LoopSem.clean (mask := [0, 2, 3, 4, 5, 6]) key
  unfold roO roRes at key
  simp only at key
  rcases Ans.br_some hr1 with ⟨hq, hr2⟩ | ⟨hq, hr2⟩
  · rw [hq] at key
    simp only [Ans.res, Option.some.injEq, Prod.mk.injEq] at hr2
    obtain ⟨rfl, rfl⟩ := hr2
    exact key
  · rw [hq] at key
    simp only [Ans.res, Option.some.injEq, Prod.mk.injEq] at hr2
    obtain ⟨rfl, rfl⟩ := hr2
    exact key
def Cro (P : Program) : Cx := (Cri P).addLB 51 4 1 roS
theorem okro : CxOk (Cro Try.prog) := Cx.addLB_ok okri roX_eq fun _ _ _ _ h hr => roK h hr
/-! Close -/
def one1 : Nat → List Value := chop 12 0 O3.one.cells
theorem rcE0 : exT ((Cro Try.prog).at 51) 60 Try.f51 [.slice none 0 0] [] [.slot 0] = some (.tuple #[.slice (some ⟨0, 0, some 0⟩) 1 12, .bool true], [.rows true true 12 1 one1]) := by kernel_rfl
theorem rcE1 (own : Bool) (N : Nat) (ls : List O3) : exT ((Cro Try.prog).at 51) 60 Try.f51 [.slice (some ⟨0, 0, some 0⟩) N 12] [.rows own true 12 N (opRow ls)] [.fix 0, .slot 0] =
    gd (roT N N 1 1 1 1 (opRow ls) one1 one1 0) (match (rOutB (opsOf N (opRow ls)) 193 0 (opsOf 1 one1) (opsOf 1 one1)).1 with
      | true => some (.tuple #[.slice (some ⟨1, 0, some 0⟩) (rOutB (opsOf N (opRow ls)) 193 0 (opsOf 1 one1) (opsOf 1 one1)).2.1.length 12, .bool true], [.rows own true 12 N (opRow (opsOf N (opRow ls))), .rows true true 12 (rOutB (opsOf N (opRow ls)) 193 0 (opsOf 1 one1) (opsOf 1 one1)).2.1.length (opRow (rOutB (opsOf N (opRow ls)) 193 0 (opsOf 1 one1) (opsOf 1 one1)).2.2)])
      | false => some (.tuple #[.slice none 0 0, .bool false], [.rows own true 12 N (opRow (opsOf N (opRow ls))), .no])) := by kernel_rfl
end Go.Proofs.Ytggdbakgiknogaa


namespace Go.Proofs.Ytggdbakgiknogaa
open Go Vx
theorem rcR_B (ls : List O3) : rcR ls = match (rOutB ls 193 0 [O3.one] [O3.one]).1 with
    | true => some (rOutB ls 193 0 [O3.one] [O3.one]).2
    | false => none := rOutB_eq ls 193 0 [O3.one] [O3.one]
def slB (n : Nat) : Value := .tuple #[.slice (some ⟨1, 0, some 0⟩) n 12, .bool true]
def nilB : Value := .tuple #[.slice none 0 0, .bool false]
def rcT (N N2 : Nat) (row : Nat → List Value) : Bool := Nat.beq N N2 && (okOps N row && (ckMaps (opsOf N row) == 0))
def rcF : List Value → Mem → Option (Ans (Value × Mem))
  | [.slice none 0 0], [] => some (.out (.tuple #[.slice (some ⟨0, 0, some 0⟩) 1 12, .bool true], [.rows true true 12 1 (opRow [O3.one])]))
  | [.slice (some ⟨0, 0, some 0⟩) N 12], [.rows own true 12 N2 row] => some (.br (rcT N N2 row) (.br (clsOk (opsOf N row)) (.out (slB (clsG (opsOf N row)).length, [.rows own true 12 N (opRow (opsOf N row)), .rows true true 12 (clsG (opsOf N row)).length (opRow (clsG (opsOf N row)))])) (.out (nilB, [.rows own true 12 N (opRow (opsOf N row)), .no]))) .fail)
  | _, _ => none
def Crc (P : Program) : Cx := (Cro P).addF 51 rcF
theorem okrc : CxOk (Crc Try.prog) := Cx.addF_ok okro fun args m ans v m' h hr => by
  unfold rcF at h
  split at h
  · simp only [Option.some.injEq] at h
    subst h
    simp only [Ans.res, Option.some.injEq, Prod.mk.injEq] at hr
    obtain ⟨rfl, rfl⟩ := hr
    exact (exT_ok okro Try.func51 (by kernel_rfl) rcE0).likes ⟨like_chop _, trivial⟩
  · rename_i N own N2 row
    simp only [Option.some.injEq] at h
    subst h
    rcases Ans.br_some hr with ⟨hc, hr1⟩ | ⟨_, hr1⟩
    rotate_left
    · simp [Ans.res] at hr1
    clear hr
    unfold rcT at hc
    simp only [Bool.and_eq_true, beq_iff_eq] at hc
    obtain ⟨c1, c2, c3⟩ := hc
    have c1 := beq_len c1
    subst c1
    have hl := opsOf_length N row
    have hE := rcE1 own N (opsOf N row)
    rw [opsOf_row hl, show opsOf 1 one1 = [O3.one] from rfl] at hE
    have sem : ∀ {v : Value} {m' : Mem}, exT ((Cro Try.prog).at 51) 60 Try.f51 [.slice (some ⟨0, 0, some 0⟩) N 12] [.rows own true 12 N (opRow (opsOf N row))] [.fix 0, .slot 0] = some (v, m') → MemSem Try.prog 51 [.slice (some ⟨0, 0, some 0⟩) N 12] [.rows own true 12 N row] v m' := fun hh => (exT_ok okro Try.func51 (by kernel_rfl) hh).like ⟨.rows (ops_like c2), trivial⟩
    generalize opsOf N row = ls at hl hE hr1 sem c3
    obtain ⟨k1, k2⟩ := ckMaps_zero c3
    obtain ⟨r1, r2⟩ := rc_cls c3
    rw [rcR_B] at r1 r2
    have ht : roT N N 1 1 1 1 (opRow ls) one1 one1 0 = true := by
      unfold roT
      rw [Nat.beq_refl, okOps_opRow, show okOps 1 one1 = true from rfl, show Nat.beq 1 1 = true from rfl]
      simp; omega
    rw [ht, gd_true] at hE
    rcases Ans.br_some hr1 with ⟨hq, hr2⟩ | ⟨hq, hr2⟩
    · rw [hq] at r1
      cases hb : (rOutB ls 193 0 [O3.one] [O3.one]).1 with
      | false => rw [hb] at r1; cases r1
      | true =>
        have e := r2 hq
        rw [hb] at e hE
        simp only [Option.getD_some] at e
        simp only at hE
        simp only [Ans.res, Option.some.injEq, Prod.mk.injEq] at hr2
        obtain ⟨rfl, rfl⟩ := hr2
        refine sem ?_
        rw [hE]
        have hl2 : (rOutB ls 193 0 [O3.one] [O3.one]).2.1.length = (clsG ls).length := by
          rcases rcR_spec k2 with ⟨r, q1, _, q3⟩ | ⟨q1, _⟩
          · rw [rcR_B, hb] at q1
            simp only [Option.some.injEq] at q1
            rw [← e, q1, q3, sortO_len]
          · rw [rcR_B, hb] at q1; cases q1
        rw [hl2, e]
        rfl
    · rw [hq] at r1
      cases hb : (rOutB ls 193 0 [O3.one] [O3.one]).1 with
      | true => rw [hb] at r1; cases r1
      | false =>
        rw [hb] at hE
        simp only at hE
        simp only [Ans.res, Option.some.injEq, Prod.mk.injEq] at hr2
        obtain ⟨rfl, rfl⟩ := hr2
        exact sem hE
  · cases h
/-! DocClose -/
theorem dcE0 : exT ((Crc Try.prog).at 25) 60 Try.f25 [.slice none 0 0] [] [.slot 0] = some (.tuple #[.slice (some ⟨0, 0, some 0⟩) 1 12, vI 0], [.rows true true 12 1 (opRow [O3.one])]) := by kernel_rfl
theorem dcE1 (own : Bool) (N : Nat) (ls : List O3) : exT ((Crc Try.prog).at 25) 60 Try.f25 [.slice (some ⟨0, 0, some 0⟩) N 12] [.rows own true 12 N (opRow ls)] [.fix 0, .slot 0] =
    (match decide ((N : Int) > 192) with
    | true => some (nilE 2, [.rows own true 12 N (opRow ls), .no])
    | false => gd (Nat.beq N N && (okOps N (opRow ls) && decide (N ≤ 4611686018427387904))) (match leastL (opsOf N (opRow ls)) 0 != 0 with
      | true => some (nilE (leastL (opsOf N (opRow ls)) 0), [.rows own true 12 N (opRow (opsOf N (opRow ls))), .no])
      | false => gd (rcT N N (opRow (opsOf N (opRow ls)))) (match clsOk (opsOf N (opRow (opsOf N (opRow ls)))) with
        | true => some (slE (clsG (opsOf N (opRow (opsOf N (opRow ls))))).length, [.rows own true 12 N (opRow (opsOf N (opRow (opsOf N (opRow ls))))), .rows true true 12 (clsG (opsOf N (opRow (opsOf N (opRow ls))))).length (opRow (clsG (opsOf N (opRow (opsOf N (opRow ls))))))])
        | false => some (nilE 5, [.rows own true 12 N (opRow (opsOf N (opRow (opsOf N (opRow ls))))), .no])))) := by kernel_rfl
theorem dcE (own : Bool) (N : Nat) (ls : List O3) (hl : ls.length = N) (hN : N ≤ 1100000) : exT ((Crc Try.prog).at 25) 60 Try.f25 [.slice (some ⟨0, 0, some 0⟩) N 12] [.rows own true 12 N (opRow ls)] [.fix 0, .slot 0] =
    (match clsOk ls with
    | true => some (slE (clsG ls).length, [.rows own true 12 N (opRow ls), .rows true true 12 (clsG ls).length (opRow (clsG ls))])
    | false => some (nilE (clsErr ls), [.rows own true 12 N (opRow ls), .no])) := by
  rw [dcE1, opsOf_row hl, opsOf_row hl]
  by_cases h : (N : Int) > 192
  · have hc : ckMaps ls = 2 := by unfold ckMaps; rw [if_pos (by omega)]
    have h1 : clsOk ls = false := by unfold clsOk; rw [hc]; rfl
    rw [decide_eq_true h, h1]
    unfold clsErr
    rw [hc]; rfl
  · have hc : ckMaps ls = leastL ls 0 := by unfold ckMaps; rw [if_neg (by omega)]
    rw [decide_eq_false h, Nat.beq_refl, okOps_opRow, show decide (N ≤ 4611686018427387904) = true by simp; omega]
    simp only [Bool.and_self, gd_true]
    by_cases h0 : leastL ls 0 = 0
    · have ht : rcT N N (opRow ls) = true := by
        unfold rcT
        rw [Nat.beq_refl, okOps_opRow, opsOf_row hl, hc, h0]; rfl
      rw [h0, ht]
      simp only [bne_self_eq_false, gd_true]
      unfold clsErr
      rw [hc, h0]
      cases clsOk ls <;> rfl
    · have h1 : clsOk ls = false := by unfold clsOk; rw [hc, (bif_beq h0).1]; rfl
      rw [(bif_beq h0).2, h1]
      unfold clsErr
      rw [hc, (bif_beq h0).1]; rfl
def dcF : List Value → Mem → Option (Ans (Value × Mem))
  | [.slice none 0 0], [] => some (.out (.tuple #[.slice (some ⟨0, 0, some 0⟩) 1 12, vI 0], [.rows true true 12 1 (opRow [O3.one])]))
  | [.slice (some ⟨0, 0, some 0⟩) N 12], [.rows own true 12 N2 row] => some (.br (Nat.beq N N2 && (okOps N row && decide (N ≤ 1100000))) (.br (clsOk (opsOf N row)) (.out (slE (clsG (opsOf N row)).length, [.rows own true 12 N (opRow (opsOf N row)), .rows true true 12 (clsG (opsOf N row)).length (opRow (clsG (opsOf N row)))])) (.out (nilE (clsErr (opsOf N row)), [.rows own true 12 N (opRow (opsOf N row)), .no]))) .fail)
  | _, _ => none
def Cdc (P : Program) : Cx := (Crc P).addF 25 dcF
theorem okdc : CxOk (Cdc Try.prog) := Cx.addF_ok okrc fun args m ans v m' h hr => by
  unfold dcF at h
  split at h
  · simp only [Option.some.injEq] at h
    subst h
    simp only [Ans.res, Option.some.injEq, Prod.mk.injEq] at hr
    obtain ⟨rfl, rfl⟩ := hr
    exact exT_ok okrc Try.func25 (by kernel_rfl) dcE0
  · rename_i N own N2 row
    simp only [Option.some.injEq] at h
    subst h
    rcases Ans.br_some hr with ⟨hc, hr1⟩ | ⟨_, hr1⟩
    rotate_left
    · simp [Ans.res] at hr1
    clear hr
    simp only [Bool.and_eq_true, decide_eq_true_eq] at hc
    obtain ⟨c1, c2, c3⟩ := hc
    have c1 := beq_len c1
    subst c1
    have hE := dcE own N (opsOf N row) (opsOf_length N row) c3
    rcases Ans.br_some hr1 with ⟨hq, hr2⟩ | ⟨hq, hr2⟩
    · rw [hq] at hE
      simp only [Ans.res, Option.some.injEq, Prod.mk.injEq] at hr2
      obtain ⟨rfl, rfl⟩ := hr2
      exact (exT_ok okrc Try.func25 (by kernel_rfl) hE).like ⟨.rows (ops_like c2), trivial⟩
    · rw [hq] at hE
      simp only [Ans.res, Option.some.injEq, Prod.mk.injEq] at hr2
      obtain ⟨rfl, rfl⟩ := hr2
      exact (exT_ok okrc Try.func25 (by kernel_rfl) hE).like ⟨.rows (ops_like c2), trivial⟩
  · cases h
/-! Twin -/
theorem twE0 : exT ((Cdc Try.prog).at 13) 60 Try.f13 [.slice none 0 0] [] [.slot 0] = some (.slice none 0 0, [.no]) := by kernel_rfl
theorem twE1 (own : Bool) (N : Nat) (ls : List O3) : exT ((Cdc Try.prog).at 13) 60 Try.f13 [.slice (some ⟨0, 0, some 0⟩) N 12] [.rows own true 12 N (opRow ls)] [.fix 0, .slot 0] =
    (match Nat.beq N 0 with
    | true => some (.slice none 0 0, [.rows own true 12 N (opRow ls), .no])
    | false => gd (roomB N) (some (.slice (some ⟨1, 0, some 0⟩) N 12, [.rows own true 12 N (opRow ls), .rows true true 12 N (opRow ls)]))) := by kernel_rfl
def twF : List Value → Mem → Option (Ans (Value × Mem))
  | [.slice none 0 0], [] => some (.out (.slice none 0 0, [.no]))
  | [.slice (some ⟨0, 0, some 0⟩) N 12], [.rows own true 12 N2 row] => some (.br (Nat.beq N N2 && (okOps N row && decide (N ≤ 1500000))) (.br (Nat.beq N 0) (.out (.slice none 0 0, [.rows own true 12 N (opRow (opsOf N row)), .no])) (.out (.slice (some ⟨1, 0, some 0⟩) N 12, [.rows own true 12 N (opRow (opsOf N row)), .rows true true 12 N (opRow (opsOf N row))]))) .fail)
  | _, _ => none
def Ctw (P : Program) : Cx := (Cdc P).addF 13 twF
theorem oktw : CxOk (Ctw Try.prog) := Cx.addF_ok okdc fun args m ans v m' h hr => by
  unfold twF at h
  split at h
  · simp only [Option.some.injEq] at h
    subst h
    simp only [Ans.res, Option.some.injEq, Prod.mk.injEq] at hr
    obtain ⟨rfl, rfl⟩ := hr
    exact exT_ok okdc Try.func13 (by kernel_rfl) twE0
  · rename_i N own N2 row
    simp only [Option.some.injEq] at h
    subst h
    rcases Ans.br_some hr with ⟨hc, hr1⟩ | ⟨_, hr1⟩
    rotate_left
    · simp [Ans.res] at hr1
    clear hr
    simp only [Bool.and_eq_true, decide_eq_true_eq] at hc
    obtain ⟨c1, c2, c3⟩ := hc
    have c1 := beq_len c1
    subst c1
    have hE := twE1 own N (opsOf N row)
    rw [roomB_ok (by omega), gd_true] at hE
    rcases Ans.br_some hr1 with ⟨hq, hr2⟩ | ⟨hq, hr2⟩
    · rw [hq] at hE
      simp only [Ans.res, Option.some.injEq, Prod.mk.injEq] at hr2
      obtain ⟨rfl, rfl⟩ := hr2
      exact (exT_ok okdc Try.func13 (by kernel_rfl) hE).like ⟨.rows (ops_like c2), trivial⟩
    · rw [hq] at hE
      simp only [Ans.res, Option.some.injEq, Prod.mk.injEq] at hr2
      obtain ⟨rfl, rfl⟩ := hr2
      exact (exT_ok okdc Try.func13 (by kernel_rfl) hE).like ⟨.rows (ops_like c2), trivial⟩
  · cases h
end Go.Proofs.Ytggdbakgiknogaa


namespace Go.Proofs.Ytggdbakgiknogaa
open Go Vx
/-- Are two lists of one length alike? -/
def smeL : List O3 → List O3 → Bool
  | x :: l, y :: m => match !(x.eqB y) with
    | true => false
    | false => smeL l m
  | _, _ => true
theorem smeL_refl : ∀ (l : List O3), smeL l l = true
  | [] => rfl
  | x :: l => by simp only [smeL, O3.eqB_refl, Bool.not_true]; exact smeL_refl l

def smX (P : Program) : Code := (loopsOf P 19 4).headD .skip
theorem smX_eq : loopsOf Try.prog 19 4 = [smX Try.prog] := by kernel_rfl
def smH (own : Bool) (own2 : Bool) (n : Nat) (xs : List O3) (ys : List O3) (i : Int) : St := stOf 26 [(0, .slice (some ⟨0, 0, some 0⟩) n 12), (1, .slice (some ⟨1, 0, some 0⟩) n 12), (4, .bool false), (12, vI n), (13, vI i)] [.rows own true 12 n (opRow xs), .rows own2 true 12 n (opRow ys)]
theorem smR (own : Bool) (own2 : Bool) (n : Nat) (xs : List O3) (ys : List O3) (i : Int) : roundR ((Ctw Try.prog).into 19 2) 40 (smX Try.prog) [0, 1, 4, 12, 13] [4] [.fix 0, .fix 1] [.fix 0, .fix 1] (smH own own2 n xs ys i) =
    (match decide (i < (n : Int)) with
    | true => match boundsI i n with
      | true => match boundsI i n with
        | true => match !((atO xs i).eqB (atO ys i)) with
          | true => some (.ret, stOf 26 [(4, .bool false)] [.rows own true 12 n (opRow xs), .rows own2 true 12 n (opRow ys)])
          | false => some (.normal, smH own own2 n xs ys (W (i + 1)))
        | false => none
      | false => none
    | false => some (.exit 0, stOf 26 [(4, .bool false)] [.rows own true 12 n (opRow xs), .rows own2 true 12 n (opRow ys)])) := by kernel_rfl
structure smG where
  (own : Bool) (own2 : Bool) (n : Nat) (xs : List O3) (ys : List O3) (i : Int)
def smO (own : Bool) (own2 : Bool) (n : Nat) (xs : List O3) (ys : List O3) (i : Int) : Exit × St :=
  match smeL (xs.drop i.toNat) (ys.drop i.toNat) with
  | true => (.exit 0, stOf 26 [(4, .bool false)] [.rows own true 12 n (opRow xs), .rows own2 true 12 n (opRow ys)])
  | false => (.ret, stOf 26 [(4, .bool false)] [.rows own true 12 n (opRow xs), .rows own2 true 12 n (opRow ys)])
theorem smL (own : Bool) (own2 : Bool) (n : Nat) (xs : List O3) (ys : List O3) (i : Int) (hg : 0 ≤ i ∧ (n : Int) ≤ 4611686018427387904 ∧ xs.length = n ∧ ys.length = n) : LoopSem Try.prog 2 (smX Try.prog) (smH own own2 n xs ys i) (smO own own2 n xs ys i).1 (smO own own2 n xs ys i).2 := by
  refine loop_rule (C := Ctw Try.prog) oktw (f := 19) (B := 2) (loopsOf_in (k := 4) smX_eq) 40 [0, 1, 4, 12, 13] [4] [.fix 0, .fix 1] [.fix 0, .fix 1] (fun g : smG => smH g.own g.own2 g.n g.xs g.ys g.i) (fun g => (g.n - g.i).toNat) (fun g => 0 ≤ g.i ∧ (g.n : Int) ≤ 4611686018427387904 ∧ g.xs.length = g.n ∧ g.ys.length = g.n) (fun g => smO g.own g.own2 g.n g.xs g.ys g.i) ?_ ⟨own, own2, n, xs, ys, i⟩ hg
  clear hg
  rintro ⟨own, own2, n, xs, ys, i⟩ hg
  simp only at hg
  simp only [smR]
  obtain ⟨h0, h1, h2, h3⟩ := hg
  by_cases hi : i < (n : Int)
  · have hd : decide (i < (n : Int)) = true := by simpa using hi
    have hb : boundsI i n = true := by simp [boundsI, h0, hi]
    have hdx := drop_at (xs := xs) h0 (by omega)
    have hdy := drop_at (xs := ys) h0 (by omega)
    have hw : W (i + 1) = i + 1 := W_in (by omega)
    rw [hd, hb, hw]
    simp only
    cases he : !((atO xs i).eqB (atO ys i)) with
    | true =>
      right
      unfold smO
      simp only [hdx, hdy, smeL, he]
      exact ⟨trivial, by simp⟩
    | false =>
      left
      refine ⟨⟨own, own2, n, xs, ys, i + 1⟩, rfl, ⟨by simp only; omega, h1, h2, h3⟩, by simp only; omega, ?_⟩
      unfold smO
      simp only [hdx, hdy, smeL, he]
  · have hd : decide (i < (n : Int)) = false := by simpa using hi
    rw [hd]
    right
    have hn : xs.drop i.toNat = [] := List.drop_eq_nil_of_le (by omega)
    unfold smO
    simp only [hn, smeL]
    exact ⟨trivial, by simp⟩
def smS (st : St) : Option (Ans (Exit × St)) :=
  match sized st 26 2, tAt st 0, tAt st 1, tAt st 4, tAt st 12, tAt st 13, st.mem with
  | true, some (.slice (some ⟨0, 0, some 0⟩) n 12), some (.slice (some ⟨1, 0, some 0⟩) n1 12), some (.bool false), some (.int .i64 ln), some (.int .i64 i), [.rows own true 12 n2 row, .rows own2 true 12 n3 row2] => some (.br (Nat.beq n n1 && (Nat.beq n n2 && (okOps n row && (Nat.beq n n3 && (okOps n row2 && (decide ((n : Int) = ln) && (decide (0 ≤ i) && (decide ((n : Int) ≤ 4611686018427387904))))))))) (.br (smeL ((opsOf n row).drop i.toNat) ((opsOf n row2).drop i.toNat))
      (.out (.exit 0, stOf 26 [(4, .bool false)] [.rows own true 12 n (opRow (opsOf n row)), .rows own2 true 12 n (opRow (opsOf n row2))]))
      (.out (.ret, stOf 26 [(4, .bool false)] [.rows own true 12 n (opRow (opsOf n row)), .rows own2 true 12 n (opRow (opsOf n row2))]))) .fail)
  | _, _, _, _, _, _, _ => none
theorem smK {st : St} {ans : Ans (Exit × St)} {e_ : Exit} {s_ : St} (h : smS st = some ans) (hr : ans.res = some (e_, s_)) : LoopSem Try.prog 2 (smX Try.prog) st e_ s_ := by
  unfold smS at h
  split at h
  · rename_i n n1 ln i own n2 row own2 n3 row2 hb hs0 hs1 hs2 hs3 hs4 hm
    simp only [Option.some.injEq] at h
    subst h
    rcases Ans.br_some hr with ⟨hc, hr1⟩ | ⟨_, hr1⟩
    · clear hr
      simp only [Bool.and_eq_true] at hc
      obtain ⟨ht0, ht1, ht2, ht3, ht4, ht5, ht6, ht7⟩ := hc
      have ht0 := beq_len ht0
      have ht1 := beq_len ht1
      have ht3 := beq_len ht3
      subst ht0 ht1 ht3
      have ht5 : (n : Int) = ln := by simpa using ht5
      subst ht5
      have hinv : 0 ≤ i ∧ (n : Int) ≤ 4611686018427387904 ∧ (opsOf n row).length = n ∧ (opsOf n row2).length = n := by
        exact ⟨by simpa using ht6, by simpa using ht7, opsOf_length n row, opsOf_length n row2⟩
      have hk := stOf_keep hb [(0, .slice (some ⟨0, 0, some 0⟩) n 12), (1, .slice (some ⟨1, 0, some 0⟩) n 12), (4, .bool false), (12, vI n), (13, vI i)] (by
        intro x hx
        simp only [List.mem_cons, List.not_mem_nil, or_false] at hx
        rcases hx with rfl | rfl | rfl | rfl | rfl
        · exact hs0
        · exact hs1
        · exact hs2
        · exact hs3
        · exact hs4) hm
      have key := smL own own2 n (opsOf n row) (opsOf n row2) i hinv
      unfold smH at key
      have key := LoopSem.like (m := [.rows own true 12 n row, .rows own2 true 12 n row2]) key ⟨.rows (ops_like ht2), .rows (ops_like ht4), trivial⟩
      have key : LoopSem Try.prog 2 (smX Try.prog) (stOf 26 [(0, .slice (some ⟨0, 0, some 0⟩) n 12), (1, .slice (some ⟨1, 0, some 0⟩) n 12), (4, .bool false), (12, vI n), (13, vI i)] [.rows own true 12 n row, .rows own2 true 12 n row2]) _ _ := key
      rw [← hk] at key
      have key := LoopSem.clean key
      unfold smO at key
      rcases Ans.br_some hr1 with ⟨hq, hr1⟩ | ⟨hq, hr1⟩
      · simp only [hq] at key
        simp only [Ans.res, Option.some.injEq, Prod.mk.injEq] at hr1
        obtain ⟨rfl, rfl⟩ := hr1
        exact key
      · simp only [hq] at key
        simp only [Ans.res, Option.some.injEq, Prod.mk.injEq] at hr1
        obtain ⟨rfl, rfl⟩ := hr1
        exact key
    · simp [Ans.res] at hr1
  · cases h
def Csm (P : Program) : Cx := (Ctw P).addLB 19 4 2 smS
theorem oksm : CxOk (Csm Try.prog) := Cx.addLB_ok oktw smX_eq fun _ _ _ _ h hr => smK h hr
def smT (n m : Nat) (row row2 : Nat → List Value) : Bool := Nat.beq n m && (Nat.beq n n && (okOps n row && (Nat.beq n m && (okOps n row2 && (decide ((n : Int) = (n : Int)) && (decide ((0 : Int) ≤ 0) && decide ((n : Int) ≤ 4611686018427387904)))))))
theorem sameE00 : exT ((Csm Try.prog).at 19) 60 Try.f19 [.slice none 0 0, .slice none 0 0] [] [] = some (.bool true, []) := by kernel_rfl
theorem sameE01 (own : Bool) (n : Nat) (xs : List O3) : exT ((Csm Try.prog).at 19) 60 Try.f19 [.slice none 0 0, .slice (some ⟨0, 0, some 0⟩) n 12] [.rows own true 12 n (opRow xs)] [.fix 0] =
    (match (0 : Int) != (n : Int) with
    | true => some (.bool false, [.rows own true 12 n (opRow xs)])
    | false => some (.bool true, [.rows own true 12 n (opRow xs)])) := by kernel_rfl
theorem sameE10 (own : Bool) (n : Nat) (xs : List O3) : exT ((Csm Try.prog).at 19) 60 Try.f19 [.slice (some ⟨0, 0, some 0⟩) n 12, .slice none 0 0] [.rows own true 12 n (opRow xs)] [.fix 0] =
    (match (n : Int) != (0 : Int) with
    | true => some (.bool false, [.rows own true 12 n (opRow xs)])
    | false => match decide ((0 : Int) < (n : Int)) with
      | true => match boundsI 0 n with
        | true => none
        | false => none
      | false => some (.bool true, [.rows own true 12 n (opRow xs)])) := by kernel_rfl
theorem sameE1 (own own2 : Bool) (n m : Nat) (xs ys : List O3) : exT ((Csm Try.prog).at 19) 60 Try.f19 [.slice (some ⟨0, 0, some 0⟩) n 12, .slice (some ⟨1, 0, some 0⟩) m 12] [.rows own true 12 n (opRow xs), .rows own2 true 12 m (opRow ys)] [.fix 0, .fix 1] =
    (match (n : Int) != (m : Int) with
    | true => some (.bool false, [.rows own true 12 n (opRow xs), .rows own2 true 12 m (opRow ys)])
    | false => gd (smT n m (opRow xs) (opRow ys)) (match smeL ((opsOf n (opRow xs)).drop (0 : Int).toNat) ((opsOf n (opRow ys)).drop (0 : Int).toNat) with
      | true => some (.bool true, [.rows own true 12 n (opRow (opsOf n (opRow xs))), .rows own2 true 12 n (opRow (opsOf n (opRow ys)))])
      | false => some (.bool false, [.rows own true 12 n (opRow (opsOf n (opRow xs))), .rows own2 true 12 n (opRow (opsOf n (opRow ys)))]))) := by kernel_rfl
/-- Are two lists alike? -/
def sameB (xs ys : List O3) : Bool := ((xs.length : Int) == (ys.length : Int)) && smeL xs ys
theorem sameB_refl (xs : List O3) : sameB xs xs = true := by unfold sameB; rw [smeL_refl]; simp
theorem sameE (own own2 : Bool) (n m : Nat) (xs ys : List O3) (hx : xs.length = n) (hy : ys.length = m) (hn : n ≤ 1500000) : exT ((Csm Try.prog).at 19) 60 Try.f19 [.slice (some ⟨0, 0, some 0⟩) n 12, .slice (some ⟨1, 0, some 0⟩) m 12] [.rows own true 12 n (opRow xs), .rows own2 true 12 m (opRow ys)] [.fix 0, .fix 1] =
    some (.bool (sameB xs ys), [.rows own true 12 n (opRow xs), .rows own2 true 12 m (opRow ys)]) := by
  rw [sameE1]
  unfold sameB
  rw [hx, hy]
  by_cases h : n = m
  · subst h
    have ht : smT n n (opRow xs) (opRow ys) = true := by
      unfold smT
      rw [Nat.beq_refl, okOps_opRow, okOps_opRow]
      simp; omega
    rw [ht, opsOf_row hx, opsOf_row hy]
    simp only [bne_self_eq_false, gd_true, Int.toNat_zero, List.drop_zero, beq_self_eq_true, Bool.true_and]
    cases smeL xs ys <;> rfl
  · have h1 : ((n : Int) != (m : Int)) = true := by simp; omega
    have h2 : ((n : Int) == (m : Int)) = false := by simp; omega
    rw [h1, h2]; rfl
def sameF : List Value → Mem → Option (Ans (Value × Mem))
  | [.slice none 0 0, .slice none 0 0], [] => some (.out (.bool true, []))
  | [.slice none 0 0, .slice (some ⟨0, 0, some 0⟩) n 12], [.rows own true 12 n2 row] => some (.br (Nat.beq n n2 && okOps n row) (.out (.bool (sameB [] (opsOf n row)), [.rows own true 12 n (opRow (opsOf n row))])) .fail)
  | [.slice (some ⟨0, 0, some 0⟩) n 12, .slice none 0 0], [.rows own true 12 n2 row] => some (.br (Nat.beq n n2 && okOps n row) (.out (.bool (sameB (opsOf n row) []), [.rows own true 12 n (opRow (opsOf n row))])) .fail)
  | [.slice (some ⟨0, 0, some 0⟩) n 12, .slice (some ⟨1, 0, some 0⟩) m 12], [.rows own true 12 n2 row, .rows own2 true 12 m2 row2] => some (.br (Nat.beq n n2 && (okOps n row && (Nat.beq m m2 && (okOps m row2 && decide (n ≤ 1500000))))) (.out (.bool (sameB (opsOf n row) (opsOf m row2)), [.rows own true 12 n (opRow (opsOf n row)), .rows own2 true 12 m (opRow (opsOf m row2))])) .fail)
  | _, _ => none
def Csa (P : Program) : Cx := (Csm P).addF 19 sameF
theorem oksa : CxOk (Csa Try.prog) := Cx.addF_ok oksm fun args m ans v m' h hr => by
  unfold sameF at h
  split at h
  · simp only [Option.some.injEq] at h
    subst h
    simp only [Ans.res, Option.some.injEq, Prod.mk.injEq] at hr
    obtain ⟨rfl, rfl⟩ := hr
    exact exT_ok oksm Try.func19 (by kernel_rfl) sameE00
  · rename_i n own n2 row
    simp only [Option.some.injEq] at h
    subst h
    rcases Ans.br_some hr with ⟨hc, hr1⟩ | ⟨_, hr1⟩
    rotate_left
    · simp [Ans.res] at hr1
    clear hr
    simp only [Bool.and_eq_true] at hc
    obtain ⟨c1, c2⟩ := hc
    have c1 := beq_len c1
    subst c1
    simp only [Ans.res, Option.some.injEq, Prod.mk.injEq] at hr1
    obtain ⟨rfl, rfl⟩ := hr1
    have hE := sameE01 own n (opsOf n row)
    have hl := opsOf_length n row
    have e : sameB [] (opsOf n row) = !((0 : Int) != (n : Int)) := by
      unfold sameB
      rw [hl]
      have : smeL [] (opsOf n row) = true := by cases opsOf n row <;> rfl
      rw [this]
      simp [bne]
    rw [e]
    refine (exT_ok oksm Try.func19 (by kernel_rfl) (hE.trans ?_)).like ⟨.rows (ops_like c2), trivial⟩
    cases (0 : Int) != (n : Int) <;> rfl
  · rename_i n own n2 row
    simp only [Option.some.injEq] at h
    subst h
    rcases Ans.br_some hr with ⟨hc, hr1⟩ | ⟨_, hr1⟩
    rotate_left
    · simp [Ans.res] at hr1
    clear hr
    simp only [Bool.and_eq_true] at hc
    obtain ⟨c1, c2⟩ := hc
    have c1 := beq_len c1
    subst c1
    simp only [Ans.res, Option.some.injEq, Prod.mk.injEq] at hr1
    obtain ⟨rfl, rfl⟩ := hr1
    have hE := sameE10 own n (opsOf n row)
    have hl := opsOf_length n row
    have e : sameB (opsOf n row) [] = !((n : Int) != (0 : Int)) := by
      unfold sameB
      rw [hl]
      have : smeL (opsOf n row) [] = true := by cases opsOf n row <;> rfl
      rw [this]
      simp [bne]
    rw [e]
    refine (exT_ok oksm Try.func19 (by kernel_rfl) (hE.trans ?_)).like ⟨.rows (ops_like c2), trivial⟩
    by_cases hz : n = 0
    · subst hz; rfl
    · have h1 : ((n : Int) != (0 : Int)) = true := by simp; omega
      rw [h1]; rfl
  · rename_i n m own n2 row own2 m2 row2
    simp only [Option.some.injEq] at h
    subst h
    rcases Ans.br_some hr with ⟨hc, hr1⟩ | ⟨_, hr1⟩
    rotate_left
    · simp [Ans.res] at hr1
    clear hr
    simp only [Bool.and_eq_true, decide_eq_true_eq] at hc
    obtain ⟨c1, c2, c3, c4, c5⟩ := hc
    have c1 := beq_len c1
    have c3 := beq_len c3
    subst c1 c3
    simp only [Ans.res, Option.some.injEq, Prod.mk.injEq] at hr1
    obtain ⟨rfl, rfl⟩ := hr1
    exact (exT_ok oksm Try.func19 (by kernel_rfl) (sameE own own2 n m (opsOf n row) (opsOf m row2) (opsOf_length n row) (opsOf_length m row2) c5)).like ⟨.rows (ops_like c2), .rows (ops_like c4), trivial⟩
  · cases h
end Go.Proofs.Ytggdbakgiknogaa


namespace Go.Proofs.Ytggdbakgiknogaa
open Go Vx

def sqX (P : Program) : Code := (loopsOf P 40 4).headD .skip
theorem sqX_eq : loopsOf Try.prog 40 4 = [sqX Try.prog] := by kernel_rfl
def sqH (own : Bool) (own2 : Bool) (n : Nat) (xs : List O3) (ys : List O3) (i : Int) : St := stOf 26 [(0, .slice (some ⟨0, 0, some 0⟩) n 12), (1, .slice (some ⟨1, 0, some 0⟩) n 12), (4, .bool false), (12, vI n), (13, vI i)] [.rows own true 12 n (opRow xs), .rows own2 true 12 n (opRow ys)]
theorem sqR (own : Bool) (own2 : Bool) (n : Nat) (xs : List O3) (ys : List O3) (i : Int) : roundR ((Csa Try.prog).into 40 2) 40 (sqX Try.prog) [0, 1, 4, 12, 13] [4] [.fix 0, .fix 1] [.fix 0, .fix 1] (sqH own own2 n xs ys i) =
    (match decide (i < (n : Int)) with
    | true => match boundsI i n with
      | true => match boundsI i n with
        | true => match !((atO xs i).eqB (atO ys i)) with
          | true => some (.ret, stOf 26 [(4, .bool false)] [.rows own true 12 n (opRow xs), .rows own2 true 12 n (opRow ys)])
          | false => some (.normal, sqH own own2 n xs ys (W (i + 1)))
        | false => none
      | false => none
    | false => some (.exit 0, stOf 26 [(4, .bool false)] [.rows own true 12 n (opRow xs), .rows own2 true 12 n (opRow ys)])) := by kernel_rfl
structure sqG where
  (own : Bool) (own2 : Bool) (n : Nat) (xs : List O3) (ys : List O3) (i : Int)
def sqO (own : Bool) (own2 : Bool) (n : Nat) (xs : List O3) (ys : List O3) (i : Int) : Exit × St :=
  match smeL (xs.drop i.toNat) (ys.drop i.toNat) with
  | true => (.exit 0, stOf 26 [(4, .bool false)] [.rows own true 12 n (opRow xs), .rows own2 true 12 n (opRow ys)])
  | false => (.ret, stOf 26 [(4, .bool false)] [.rows own true 12 n (opRow xs), .rows own2 true 12 n (opRow ys)])
theorem sqL (own : Bool) (own2 : Bool) (n : Nat) (xs : List O3) (ys : List O3) (i : Int) (hg : 0 ≤ i ∧ (n : Int) ≤ 4611686018427387904 ∧ xs.length = n ∧ ys.length = n) : LoopSem Try.prog 2 (sqX Try.prog) (sqH own own2 n xs ys i) (sqO own own2 n xs ys i).1 (sqO own own2 n xs ys i).2 := by
  refine loop_rule (C := Csa Try.prog) oksa (f := 40) (B := 2) (loopsOf_in (k := 4) sqX_eq) 40 [0, 1, 4, 12, 13] [4] [.fix 0, .fix 1] [.fix 0, .fix 1] (fun g : sqG => sqH g.own g.own2 g.n g.xs g.ys g.i) (fun g => (g.n - g.i).toNat) (fun g => 0 ≤ g.i ∧ (g.n : Int) ≤ 4611686018427387904 ∧ g.xs.length = g.n ∧ g.ys.length = g.n) (fun g => sqO g.own g.own2 g.n g.xs g.ys g.i) ?_ ⟨own, own2, n, xs, ys, i⟩ hg
  clear hg
  rintro ⟨own, own2, n, xs, ys, i⟩ hg
  simp only at hg
  simp only [sqR]
  obtain ⟨h0, h1, h2, h3⟩ := hg
  by_cases hi : i < (n : Int)
  · have hd : decide (i < (n : Int)) = true := by simpa using hi
    have hb : boundsI i n = true := by simp [boundsI, h0, hi]
    have hdx := drop_at (xs := xs) h0 (by omega)
    have hdy := drop_at (xs := ys) h0 (by omega)
    have hw : W (i + 1) = i + 1 := W_in (by omega)
    rw [hd, hb, hw]
    simp only
    cases he : !((atO xs i).eqB (atO ys i)) with
    | true =>
      right
      unfold sqO
      simp only [hdx, hdy, smeL, he]
      exact ⟨trivial, by simp⟩
    | false =>
      left
      refine ⟨⟨own, own2, n, xs, ys, i + 1⟩, rfl, ⟨by simp only; omega, h1, h2, h3⟩, by simp only; omega, ?_⟩
      unfold sqO
      simp only [hdx, hdy, smeL, he]
  · have hd : decide (i < (n : Int)) = false := by simpa using hi
    rw [hd]
    right
    have hn : xs.drop i.toNat = [] := List.drop_eq_nil_of_le (by omega)
    unfold sqO
    simp only [hn, smeL]
    exact ⟨trivial, by simp⟩
def sqS (st : St) : Option (Ans (Exit × St)) :=
  match sized st 26 2, tAt st 0, tAt st 1, tAt st 4, tAt st 12, tAt st 13, st.mem with
  | true, some (.slice (some ⟨0, 0, some 0⟩) n 12), some (.slice (some ⟨1, 0, some 0⟩) n1 12), some (.bool false), some (.int .i64 ln), some (.int .i64 i), [.rows own true 12 n2 row, .rows own2 true 12 n3 row2] => some (.br (Nat.beq n n1 && (Nat.beq n n2 && (okOps n row && (Nat.beq n n3 && (okOps n row2 && (decide ((n : Int) = ln) && (decide (0 ≤ i) && (decide ((n : Int) ≤ 4611686018427387904))))))))) (.br (smeL ((opsOf n row).drop i.toNat) ((opsOf n row2).drop i.toNat))
      (.out (.exit 0, stOf 26 [(4, .bool false)] [.rows own true 12 n (opRow (opsOf n row)), .rows own2 true 12 n (opRow (opsOf n row2))]))
      (.out (.ret, stOf 26 [(4, .bool false)] [.rows own true 12 n (opRow (opsOf n row)), .rows own2 true 12 n (opRow (opsOf n row2))]))) .fail)
  | _, _, _, _, _, _, _ => none
theorem sqK {st : St} {ans : Ans (Exit × St)} {e_ : Exit} {s_ : St} (h : sqS st = some ans) (hr : ans.res = some (e_, s_)) : LoopSem Try.prog 2 (sqX Try.prog) st e_ s_ := by
  unfold sqS at h
  split at h
  · rename_i n n1 ln i own n2 row own2 n3 row2 hb hs0 hs1 hs2 hs3 hs4 hm
    simp only [Option.some.injEq] at h
    subst h
    rcases Ans.br_some hr with ⟨hc, hr1⟩ | ⟨_, hr1⟩
    · clear hr
      simp only [Bool.and_eq_true] at hc
      obtain ⟨ht0, ht1, ht2, ht3, ht4, ht5, ht6, ht7⟩ := hc
      have ht0 := beq_len ht0
      have ht1 := beq_len ht1
      have ht3 := beq_len ht3
      subst ht0 ht1 ht3
      have ht5 : (n : Int) = ln := by simpa using ht5
      subst ht5
      have hinv : 0 ≤ i ∧ (n : Int) ≤ 4611686018427387904 ∧ (opsOf n row).length = n ∧ (opsOf n row2).length = n := by
        exact ⟨by simpa using ht6, by simpa using ht7, opsOf_length n row, opsOf_length n row2⟩
      have hk := stOf_keep hb [(0, .slice (some ⟨0, 0, some 0⟩) n 12), (1, .slice (some ⟨1, 0, some 0⟩) n 12), (4, .bool false), (12, vI n), (13, vI i)] (by
        intro x hx
        simp only [List.mem_cons, List.not_mem_nil, or_false] at hx
        rcases hx with rfl | rfl | rfl | rfl | rfl
        · exact hs0
        · exact hs1
        · exact hs2
        · exact hs3
        · exact hs4) hm
      have key := sqL own own2 n (opsOf n row) (opsOf n row2) i hinv
      unfold sqH at key
      have key := LoopSem.like (m := [.rows own true 12 n row, .rows own2 true 12 n row2]) key ⟨.rows (ops_like ht2), .rows (ops_like ht4), trivial⟩
      have key : LoopSem Try.prog 2 (sqX Try.prog) (stOf 26 [(0, .slice (some ⟨0, 0, some 0⟩) n 12), (1, .slice (some ⟨1, 0, some 0⟩) n 12), (4, .bool false), (12, vI n), (13, vI i)] [.rows own true 12 n row, .rows own2 true 12 n row2]) _ _ := key
      rw [← hk] at key
      have key := LoopSem.clean key
      unfold sqO at key
      rcases Ans.br_some hr1 with ⟨hq, hr1⟩ | ⟨hq, hr1⟩
      · simp only [hq] at key
        simp only [Ans.res, Option.some.injEq, Prod.mk.injEq] at hr1
        obtain ⟨rfl, rfl⟩ := hr1
        exact key
      · simp only [hq] at key
        simp only [Ans.res, Option.some.injEq, Prod.mk.injEq] at hr1
        obtain ⟨rfl, rfl⟩ := hr1
        exact key
    · simp [Ans.res] at hr1
  · cases h
def Csq (P : Program) : Cx := (Csa P).addLB 40 4 2 sqS
theorem oksq : CxOk (Csq Try.prog) := Cx.addLB_ok oksa sqX_eq fun _ _ _ _ h hr => sqK h hr
theorem eqlE00 : exT ((Csq Try.prog).at 40) 60 Try.f40 [.slice none 0 0, .slice none 0 0] [] [] = some (.bool true, []) := by kernel_rfl
theorem eqlE01 (own : Bool) (n : Nat) (xs : List O3) : exT ((Csq Try.prog).at 40) 60 Try.f40 [.slice none 0 0, .slice (some ⟨0, 0, some 0⟩) n 12] [.rows own true 12 n (opRow xs)] [.fix 0] =
    (match (0 : Int) != (n : Int) with
    | true => some (.bool false, [.rows own true 12 n (opRow xs)])
    | false => some (.bool true, [.rows own true 12 n (opRow xs)])) := by kernel_rfl
theorem eqlE10 (own : Bool) (n : Nat) (xs : List O3) : exT ((Csq Try.prog).at 40) 60 Try.f40 [.slice (some ⟨0, 0, some 0⟩) n 12, .slice none 0 0] [.rows own true 12 n (opRow xs)] [.fix 0] =
    (match (n : Int) != (0 : Int) with
    | true => some (.bool false, [.rows own true 12 n (opRow xs)])
    | false => match decide ((0 : Int) < (n : Int)) with
      | true => match boundsI 0 n with
        | true => none
        | false => none
      | false => some (.bool true, [.rows own true 12 n (opRow xs)])) := by kernel_rfl
theorem eqlE1 (own own2 : Bool) (n m : Nat) (xs ys : List O3) : exT ((Csq Try.prog).at 40) 60 Try.f40 [.slice (some ⟨0, 0, some 0⟩) n 12, .slice (some ⟨1, 0, some 0⟩) m 12] [.rows own true 12 n (opRow xs), .rows own2 true 12 m (opRow ys)] [.fix 0, .fix 1] =
    (match (n : Int) != (m : Int) with
    | true => some (.bool false, [.rows own true 12 n (opRow xs), .rows own2 true 12 m (opRow ys)])
    | false => gd (smT n m (opRow xs) (opRow ys)) (match smeL ((opsOf n (opRow xs)).drop (0 : Int).toNat) ((opsOf n (opRow ys)).drop (0 : Int).toNat) with
      | true => some (.bool true, [.rows own true 12 n (opRow (opsOf n (opRow xs))), .rows own2 true 12 n (opRow (opsOf n (opRow ys)))])
      | false => some (.bool false, [.rows own true 12 n (opRow (opsOf n (opRow xs))), .rows own2 true 12 n (opRow (opsOf n (opRow ys)))]))) := by kernel_rfl
theorem eqlE (own own2 : Bool) (n m : Nat) (xs ys : List O3) (hx : xs.length = n) (hy : ys.length = m) (hn : n ≤ 1500000) : exT ((Csq Try.prog).at 40) 60 Try.f40 [.slice (some ⟨0, 0, some 0⟩) n 12, .slice (some ⟨1, 0, some 0⟩) m 12] [.rows own true 12 n (opRow xs), .rows own2 true 12 m (opRow ys)] [.fix 0, .fix 1] =
    some (.bool (sameB xs ys), [.rows own true 12 n (opRow xs), .rows own2 true 12 m (opRow ys)]) := by
  rw [eqlE1]
  unfold sameB
  rw [hx, hy]
  by_cases h : n = m
  · subst h
    have ht : smT n n (opRow xs) (opRow ys) = true := by
      unfold smT
      rw [Nat.beq_refl, okOps_opRow, okOps_opRow]
      simp; omega
    rw [ht, opsOf_row hx, opsOf_row hy]
    simp only [bne_self_eq_false, gd_true, Int.toNat_zero, List.drop_zero, beq_self_eq_true, Bool.true_and]
    cases smeL xs ys <;> rfl
  · have h1 : ((n : Int) != (m : Int)) = true := by simp; omega
    have h2 : ((n : Int) == (m : Int)) = false := by simp; omega
    rw [h1, h2]; rfl
def eqlF : List Value → Mem → Option (Ans (Value × Mem))
  | [.slice none 0 0, .slice none 0 0], [] => some (.out (.bool true, []))
  | [.slice none 0 0, .slice (some ⟨0, 0, some 0⟩) n 12], [.rows own true 12 n2 row] => some (.br (Nat.beq n n2 && okOps n row) (.out (.bool (sameB [] (opsOf n row)), [.rows own true 12 n (opRow (opsOf n row))])) .fail)
  | [.slice (some ⟨0, 0, some 0⟩) n 12, .slice none 0 0], [.rows own true 12 n2 row] => some (.br (Nat.beq n n2 && okOps n row) (.out (.bool (sameB (opsOf n row) []), [.rows own true 12 n (opRow (opsOf n row))])) .fail)
  | [.slice (some ⟨0, 0, some 0⟩) n 12, .slice (some ⟨1, 0, some 0⟩) m 12], [.rows own true 12 n2 row, .rows own2 true 12 m2 row2] => some (.br (Nat.beq n n2 && (okOps n row && (Nat.beq m m2 && (okOps m row2 && decide (n ≤ 1500000))))) (.out (.bool (sameB (opsOf n row) (opsOf m row2)), [.rows own true 12 n (opRow (opsOf n row)), .rows own2 true 12 m (opRow (opsOf m row2))])) .fail)
  | _, _ => none
def Ceq (P : Program) : Cx := (Csq P).addF 40 eqlF
theorem okeq : CxOk (Ceq Try.prog) := Cx.addF_ok oksq fun args m ans v m' h hr => by
  unfold eqlF at h
  split at h
  · simp only [Option.some.injEq] at h
    subst h
    simp only [Ans.res, Option.some.injEq, Prod.mk.injEq] at hr
    obtain ⟨rfl, rfl⟩ := hr
    exact exT_ok oksq Try.func40 (by kernel_rfl) eqlE00
  · rename_i n own n2 row
    simp only [Option.some.injEq] at h
    subst h
    rcases Ans.br_some hr with ⟨hc, hr1⟩ | ⟨_, hr1⟩
    rotate_left
    · simp [Ans.res] at hr1
    clear hr
    simp only [Bool.and_eq_true] at hc
    obtain ⟨c1, c2⟩ := hc
    have c1 := beq_len c1
    subst c1
    simp only [Ans.res, Option.some.injEq, Prod.mk.injEq] at hr1
    obtain ⟨rfl, rfl⟩ := hr1
    have hE := eqlE01 own n (opsOf n row)
    have hl := opsOf_length n row
    have e : sameB [] (opsOf n row) = !((0 : Int) != (n : Int)) := by
      unfold sameB
      rw [hl]
      have : smeL [] (opsOf n row) = true := by cases opsOf n row <;> rfl
      rw [this]
      simp [bne]
    rw [e]
    refine (exT_ok oksq Try.func40 (by kernel_rfl) (hE.trans ?_)).like ⟨.rows (ops_like c2), trivial⟩
    cases (0 : Int) != (n : Int) <;> rfl
  · rename_i n own n2 row
    simp only [Option.some.injEq] at h
    subst h
    rcases Ans.br_some hr with ⟨hc, hr1⟩ | ⟨_, hr1⟩
    rotate_left
    · simp [Ans.res] at hr1
    clear hr
    simp only [Bool.and_eq_true] at hc
    obtain ⟨c1, c2⟩ := hc
    have c1 := beq_len c1
    subst c1
    simp only [Ans.res, Option.some.injEq, Prod.mk.injEq] at hr1
    obtain ⟨rfl, rfl⟩ := hr1
    have hE := eqlE10 own n (opsOf n row)
    have hl := opsOf_length n row
    have e : sameB (opsOf n row) [] = !((n : Int) != (0 : Int)) := by
      unfold sameB
      rw [hl]
      have : smeL (opsOf n row) [] = true := by cases opsOf n row <;> rfl
      rw [this]
      simp [bne]
    rw [e]
    refine (exT_ok oksq Try.func40 (by kernel_rfl) (hE.trans ?_)).like ⟨.rows (ops_like c2), trivial⟩
    by_cases hz : n = 0
    · subst hz; rfl
    · have h1 : ((n : Int) != (0 : Int)) = true := by simp; omega
      rw [h1]; rfl
  · rename_i n m own n2 row own2 m2 row2
    simp only [Option.some.injEq] at h
    subst h
    rcases Ans.br_some hr with ⟨hc, hr1⟩ | ⟨_, hr1⟩
    rotate_left
    · simp [Ans.res] at hr1
    clear hr
    simp only [Bool.and_eq_true, decide_eq_true_eq] at hc
    obtain ⟨c1, c2, c3, c4, c5⟩ := hc
    have c1 := beq_len c1
    have c3 := beq_len c3
    subst c1 c3
    simp only [Ans.res, Option.some.injEq, Prod.mk.injEq] at hr1
    obtain ⟨rfl, rfl⟩ := hr1
    exact (exT_ok oksq Try.func40 (by kernel_rfl) (eqlE own own2 n m (opsOf n row) (opsOf m row2) (opsOf_length n row) (opsOf_length m row2) c5)).like ⟨.rows (ops_like c2), .rows (ops_like c4), trivial⟩
  · cases h
end Go.Proofs.Ytggdbakgiknogaa


namespace Go.Proofs.Ytggdbakgiknogaa
open Go Vx
theorem awE : exFun ((Ceq Try.prog).at 11) 100 Try.f11 (pack [] []) = some (.bool true) := by kernel_rfl
def Faw : List Int → Option Value
  | [] => some (.bool true)
  | _ => none
def Caw (P : Program) : Cx := (Ceq P).add 11 [] Faw
theorem okaw : CxOk (Caw Try.prog) := Cx.add_ok okeq (n := 100) Try.func11 (by kernel_rfl) fun l v hl h => by
  match l, hl, h with
  | [], _, hh => rw [awE]; exact hh
end Go.Proofs.Ytggdbakgiknogaa


namespace Go.Proofs.Ytggdbakgiknogaa
open Go Vx
def twT (n : Nat) (row : Nat → List Value) : Bool := Nat.beq n n && (okOps n row && decide (n ≤ 1500000))
def dcT (n : Nat) (row : Nat → List Value) : Bool := Nat.beq n n && (okOps n row && decide (n ≤ 1100000))
def oT (n : Nat) (row : Nat → List Value) : Bool := Nat.beq n n && okOps n row
def ssT (n m : Nat) (row row2 : Nat → List Value) : Bool := Nat.beq n n && (okOps n row && (Nat.beq m m && (okOps m row2 && decide (n ≤ 1500000))))
end Go.Proofs.Ytggdbakgiknogaa
