/-
  facettop.seeds as a contract. Nothing here is trusted.
-/
import Derived.Test.YtneaibkfglfpaaaHSeD
namespace Go.Proofs.Ytneaibkfglfpaaa
open Go Vx Go.RowKit
theorem sdRow_get {Y : List Sd} {q : Nat} (h : q < Y.length) : sdRow Y q = (Y[q]).cells := by unfold sdRow; rw [List.getElem?_eq_getElem h]; rfl
def isSd (l : List Value) : Bool := match sdCells l with
  | some d => d.ok
  | none => false
def decS (l : List Value) : Sd := match sdCells l with
  | some d => d
  | none => Sd.zero
def okSds (n : Nat) (row : Nat → List Value) : Bool := (List.range n).all fun i => isSd (row i)
def sdsOf (n : Nat) (row : Nat → List Value) : List Sd := (List.range n).map fun i => decS (row i)
theorem sdsOf_length (n : Nat) (row : Nat → List Value) : (sdsOf n row).length = n := by simp [sdsOf]
theorem okSds_row {ss : List Sd} (h : ∀ d ∈ ss, d.ok = true) {n : Nat} (hn : ss.length = n) : okSds n (sdRow ss) = true := List.all_eq_true.2 fun i hi => by
  have hi : i < ss.length := by rw [hn]; exact List.mem_range.1 hi
  rw [sdRow_get hi]
  exact h _ (List.getElem_mem hi)
theorem sdsOf_row {ss : List Sd} {n : Nat} (hn : ss.length = n) : sdsOf n (sdRow ss) = ss := by
  subst hn
  apply List.ext_getElem?
  intro i
  unfold sdsOf
  rw [List.getElem?_map]
  by_cases hi : i < ss.length
  · rw [List.getElem?_range hi, List.getElem?_eq_getElem hi, Option.map_some, sdRow_get hi]
    rfl
  · rw [List.getElem?_eq_none (by simp; omega), List.getElem?_eq_none (by omega)]; rfl
theorem sds_like {n : Nat} {row : Nat → List Value} (h : okSds n row = true) : rowsLike n row (sdRow (sdsOf n row)) := by
  intro i hi
  have := List.all_eq_true.1 h i (List.mem_range.2 hi)
  unfold isSd at this
  split at this
  · rename_i d hd
    unfold sdRow sdsOf
    rw [List.getElem?_map, List.getElem?_range hi]
    simp only [Option.map_some, Option.getD_some, decS, hd]
    exact sdCells_spec hd
  · cases this
theorem sds_ok {n : Nat} {row : Nat → List Value} (h : okSds n row = true) : ∀ d ∈ sdsOf n row, d.ok = true := by
  intro d hd
  unfold sdsOf at hd
  obtain ⟨i, hi, rfl⟩ := List.mem_map.1 hd
  have := List.all_eq_true.1 h i hi
  unfold isSd at this
  unfold decS
  split at this
  · rename_i d2 hd2
    exact this
  · cases this
/-- The maps of so many seeds. -/
def sdL (k : Nat) (ss : List Sd) : List O3 := (List.range k).map fun i => sdO (hx ss i)
theorem atS_ok {ss : List Sd} (h : ∀ d ∈ ss, d.ok = true) {i : Nat} (hi : i < ss.length) : (hx ss i).ok = true := by
  have := h _ (List.getElem_mem hi)
  unfold hx atS
  rw [List.getElem?_eq_getElem hi]
  exact this
theorem sdL_len (k : Nat) (ss : List Sd) : (sdL k ss).length = k := by simp [sdL]
theorem rows_one (o : O3) : rowsLike 1 (chop 12 0 o.cells) (opRow [o]) := fun i hi => by
  have : i = 0 := by omega
  subst this
  rfl
theorem rows_snoc {k : Nat} {r : Nat → List Value} {l : List O3} (h : rowsLike k r (opRow l)) (hl : l.length = k) (o : O3) : rowsLike (k + 1) (catR k r (chop 12 0 o.cells)) (opRow (l ++ [o])) := fun i hi => by
  rw [← catR_one l o i (by omega)]
  unfold catR
  rw [hl]
  cases hb : Nat.blt i k with
  | true => exact h i (Nat.blt_eq.mp hb)
  | false => rfl
theorem seeds_sem (own : Bool) (ss : List Sd) (h : ∀ d ∈ ss, d.ok = true) (k : Nat) (hk : (k = ss.length ∧ 1 ≤ k ∧ k ≤ 3) ∨ (k = 3 ∧ 3 ≤ ss.length)) : MemSem Try.prog 35 [.slice (some ⟨0, 0, some 0⟩) ss.length 6] [.rows own true 6 ss.length (sdRow ss)] (.slice (some ⟨1, 0, some 0⟩) k 12) [.rows own true 6 ss.length (sdRow ss), .rows true true 12 k (opRow (sdL k ss))] := by
  have hE := seedsE own ss.length ss
  have b : ∀ i : Nat, i < ss.length → ∀ x : Option (Value × Mem), sd1 ss.length ss i x = x := fun i hi x => by
    unfold sd1
    rw [show boundsI (i : Int) ss.length = true by simp [boundsI]; omega, show boundsI 0 ss.length = true by simp [boundsI]; omega, atS_ok h hi]
    rfl
  have r1 := rows_one (sdO (hx ss 0))
  have r2 := rows_snoc r1 rfl (sdO (hx ss 1))
  have r3 := rows_snoc r2 rfl (sdO (hx ss 2))
  rw [show decide ((0 : Int) < (ss.length : Int)) = true by simp; omega] at hE
  simp only [b 0 (by omega)] at hE
  by_cases h1 : 1 < ss.length
  · rw [show decide ((1 : Int) < (ss.length : Int)) = true by simp; omega] at hE
    simp only [b 1 (by omega)] at hE
    by_cases h2 : 2 < ss.length
    · have hk3 : k = 3 := by omega
      subst hk3
      rw [show decide ((2 : Int) < (ss.length : Int)) = true by simp; omega] at hE
      simp only [b 2 (by omega)] at hE
      have hE2 : exT ((Cse2 Try.prog).at 35) 60 Try.f35 [.slice (some ⟨0, 0, some 0⟩) ss.length 6] [.rows own true 6 ss.length (sdRow ss)] [.fix 0, .slot 0] = sdA own ss.length ss 3 (catR 2 (catR 1 (chop 12 0 (sdO (hx ss 0)).cells) (chop 12 0 (sdO (hx ss 1)).cells)) (chop 12 0 (sdO (hx ss 2)).cells)) := by
        rw [hE]
        cases decide ((3 : Int) < (ss.length : Int)) <;> rfl
      exact (exT_ok okse2 Try.func35 (by kernel_rfl) hE2).likes ⟨.refl _, .rows r3, trivial⟩
    · have hk2 : k = 2 := by omega
      subst hk2
      rw [show decide ((2 : Int) < (ss.length : Int)) = false by simp; omega] at hE
      exact (exT_ok okse2 Try.func35 (by kernel_rfl) hE).likes ⟨.refl _, .rows r2, trivial⟩
  · have hk1 : k = 1 := by omega
    subst hk1
    rw [show decide ((1 : Int) < (ss.length : Int)) = false by simp; omega] at hE
    exact (exT_ok okse2 Try.func35 (by kernel_rfl) hE).likes ⟨.refl _, .rows r1, trivial⟩
theorem seeds_none (own : Bool) : MemSem Try.prog 35 [.slice (some ⟨0, 0, some 0⟩) 0 6] [.rows own true 6 0 (sdRow [])] (.slice none 0 0) [.rows own true 6 0 (sdRow []), .no] := exT_ok okse2 Try.func35 (by kernel_rfl) (seedsE own 0 [])
def sdOut (own : Bool) (n : Nat) (ss : List Sd) (k : Nat) : Ans (Value × Mem) := .out (.slice (some ⟨1, 0, some 0⟩) k 12, [.rows own true 6 n (sdRow ss), .rows true true 12 k (opRow (sdL k ss))])
def sdF : List Value → Mem → Option (Ans (Value × Mem))
  | [.slice none 0 0], [] => some (.out (.slice none 0 0, [.no]))
  | [.slice (some ⟨0, 0, some 0⟩) N 6], [.rows own true 6 N2 row] => some (.br (Nat.beq N N2 && okSds N row) (.br (Nat.beq N 0) (.out (.slice none 0 0, [.rows own true 6 N (sdRow (sdsOf N row)), .no])) (.br (Nat.beq N 1) (sdOut own N (sdsOf N row) 1) (.br (Nat.beq N 2) (sdOut own N (sdsOf N row) 2) (sdOut own N (sdsOf N row) 3)))) .fail)
  | _, _ => none
theorem nbeq_ff {n m : Nat} (h : Nat.beq n m = false) : n ≠ m := fun e => by rw [e, Nat.beq_refl] at h; cases h
theorem sdF_ok {args : List Value} {m : Mem} {ans : Ans (Value × Mem)} {v : Value} {m' : Mem} (h : sdF args m = some ans) (hr : ans.res = some (v, m')) : MemSem Try.prog 35 args m v m' := by
  unfold sdF at h
  split at h
  · simp only [Option.some.injEq] at h
    subst h
    simp only [Ans.res, Option.some.injEq, Prod.mk.injEq] at hr
    obtain ⟨rfl, rfl⟩ := hr
    exact exT_ok okse2 Try.func35 (by kernel_rfl) seedsZ
  rotate_left
  · cases h
  rename_i N own N2 row
  simp only [Option.some.injEq] at h
  subst h
  rcases Ans.br_some hr with ⟨hc, hr1⟩ | ⟨_, hr1⟩
  rotate_left
  · simp [Ans.res] at hr1
  rw [Bool.and_eq_true] at hc
  obtain ⟨c1, c2⟩ := hc
  have c1 := beq_len c1
  subst c1
  have hl := sdsOf_length N row
  have hok := sds_ok c2
  have fin : ∀ k : Nat, ((k = N ∧ 1 ≤ k ∧ k ≤ 3) ∨ (k = 3 ∧ 3 ≤ N)) → (sdOut own N (sdsOf N row) k).res = some (v, m') → MemSem Try.prog 35 [.slice (some ⟨0, 0, some 0⟩) N 6] [.rows own true 6 N row] v m' := fun k hk hq => by
    simp only [sdOut, Ans.res, Option.some.injEq, Prod.mk.injEq] at hq
    obtain ⟨rfl, rfl⟩ := hq
    have := seeds_sem own (sdsOf N row) hok k (by rw [hl]; exact hk)
    rw [hl] at this
    exact this.like ⟨.rows (sds_like c2), trivial⟩
  rcases Ans.br_some hr1 with ⟨hq, hr2⟩ | ⟨hq, hr2⟩
  · have := beq_len hq
    subst this
    simp only [Ans.res, Option.some.injEq, Prod.mk.injEq] at hr2
    obtain ⟨rfl, rfl⟩ := hr2
    exact (seeds_none own).like ⟨.rows fun i hi => by omega, trivial⟩
  · have n0 := nbeq_ff hq
    rcases Ans.br_some hr2 with ⟨hq1, hr3⟩ | ⟨hq1, hr3⟩
    · have := beq_len hq1
      exact fin 1 (by omega) hr3
    · have n1 := nbeq_ff hq1
      rcases Ans.br_some hr3 with ⟨hq2, hr4⟩ | ⟨hq2, hr4⟩
      · have := beq_len hq2
        exact fin 2 (by omega) hr4
      · have n2 := nbeq_ff hq2
        exact fin 3 (by omega) hr4
def okT6 (n : Nat) (ss : List Sd) : Bool := Nat.beq n n && okSds n (sdRow ss)
end Go.Proofs.Ytneaibkfglfpaaa
