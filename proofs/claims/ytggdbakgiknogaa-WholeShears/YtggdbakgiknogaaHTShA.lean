/-
  facettop.seeds as a contract; facettop.WholeShears: its pieces, run. Nothing here is trusted.
-/
import Derived.Test.YtggdbakgiknogaaHSeD
import Derived.Test.YtggdbakgiknogaaHGrpS
import Derived.Test.YtggdbakgiknogaaHShD
namespace Go.Proofs.Ytggdbakgiknogaa
open Go Vx Go.RowKit
theorem sdRow_get {Y : List Sd} {q : Nat} (h : q < Y.length) : sdRow Y q = (Y[q]).cells := by unfold sdRow; rw [List.getElem?_eq_getElem h]; rfl
def isSd (l : List Value) : Bool := match sdCells l with
  | some d => d.ok
  | none => false
def decS (l : List Value) : Sd := match sdCells l with
  | some d => d
  | none => Sd.zero
def okSds (n : Nat) (row : Nat → List Value) : Bool := (List.range n).all fun i => isSd (row i)
def sdsOf (n : Nat) (row : Nat → List Value) : List Sd := (List.range n).map fun i => decS (row i)
theorem sdsOf_length (n : Nat) (row : Nat → List Value) : (sdsOf n row).length = n := by simp [sdsOf]
theorem okSds_row {ss : List Sd} (h : ∀ d ∈ ss, d.ok = true) {n : Nat} (hn : ss.length = n) : okSds n (sdRow ss) = true := List.all_eq_true.2 fun i hi => by
  have hi : i < ss.length := by rw [hn]; exact List.mem_range.1 hi
  rw [sdRow_get hi]
  exact h _ (List.getElem_mem hi)
theorem sdsOf_row {ss : List Sd} {n : Nat} (hn : ss.length = n) : sdsOf n (sdRow ss) = ss := by
  subst hn
  apply List.ext_getElem?
  intro i
  unfold sdsOf
  rw [List.getElem?_map]
  by_cases hi : i < ss.length
  · rw [List.getElem?_range hi, List.getElem?_eq_getElem hi, Option.map_some, sdRow_get hi]
    rfl
  · rw [List.getElem?_eq_none (by simp; omega), List.getElem?_eq_none (by omega)]; rfl
theorem sds_like {n : Nat} {row : Nat → List Value} (h : okSds n row = true) : rowsLike n row (sdRow (sdsOf n row)) := by
  intro i hi
  have := List.all_eq_true.1 h i (List.mem_range.2 hi)
  unfold isSd at this
  split at this
  · rename_i d hd
    unfold sdRow sdsOf
    rw [List.getElem?_map, List.getElem?_range hi]
    simp only [Option.map_some, Option.getD_some, decS, hd]
    exact sdCells_spec hd
  · cases this
theorem sds_ok {n : Nat} {row : Nat → List Value} (h : okSds n row = true) : ∀ d ∈ sdsOf n row, d.ok = true := by
  intro d hd
  unfold sdsOf at hd
  obtain ⟨i, hi, rfl⟩ := List.mem_map.1 hd
  have := List.all_eq_true.1 h i hi
  unfold isSd at this
  unfold decS
  split at this
  · rename_i d2 hd2
    exact this
  · cases this
/-- The maps of so many seeds. -/
def sdL (k : Nat) (ss : List Sd) : List O3 := (List.range k).map fun i => sdO (hx ss i)
theorem atS_ok {ss : List Sd} (h : ∀ d ∈ ss, d.ok = true) {i : Nat} (hi : i < ss.length) : (hx ss i).ok = true := by
  have := h _ (List.getElem_mem hi)
  unfold hx atS
  rw [List.getElem?_eq_getElem hi]
  exact this
theorem sdL_ck {ss : List Sd} (h : ∀ d ∈ ss, d.ok = true) {k : Nat} (hk : k ≤ ss.length) : ∀ o ∈ sdL k ss, o.ck = 0 := fun o ho => by
  obtain ⟨i, hi, rfl⟩ := List.mem_map.1 ho
  exact sdO_ck (atS_ok h (by have := List.mem_range.1 hi; omega))
theorem sdL_len (k : Nat) (ss : List Sd) : (sdL k ss).length = k := by simp [sdL]
theorem rows_one (o : O3) : rowsLike 1 (chop 12 0 o.cells) (opRow [o]) := fun i hi => by
  have : i = 0 := by omega
  subst this
  rfl
theorem rows_snoc {k : Nat} {r : Nat → List Value} {l : List O3} (h : rowsLike k r (opRow l)) (hl : l.length = k) (o : O3) : rowsLike (k + 1) (catR k r (chop 12 0 o.cells)) (opRow (l ++ [o])) := fun i hi => by
  rw [← catR_one l o i (by omega)]
  unfold catR
  rw [hl]
  cases hb : Nat.blt i k with
  | true => exact h i (Nat.blt_eq.mp hb)
  | false => rfl
theorem seeds_sem (own : Bool) (ss : List Sd) (h : ∀ d ∈ ss, d.ok = true) (k : Nat) (hk : (k = ss.length ∧ 1 ≤ k ∧ k ≤ 3) ∨ (k = 3 ∧ 3 ≤ ss.length)) : MemSem Try.prog 34 [.slice (some ⟨0, 0, some 0⟩) ss.length 6] [.rows own true 6 ss.length (sdRow ss)] (.slice (some ⟨1, 0, some 0⟩) k 12) [.rows own true 6 ss.length (sdRow ss), .rows true true 12 k (opRow (sdL k ss))] := by
  have hE := seedsE own ss.length ss
  have b : ∀ i : Nat, i < ss.length → ∀ x : Option (Value × Mem), sd1 ss.length ss i x = x := fun i hi x => by
    unfold sd1
    rw [show boundsI (i : Int) ss.length = true by simp [boundsI]; omega, show boundsI 0 ss.length = true by simp [boundsI]; omega, atS_ok h hi]
    rfl
  have r1 := rows_one (sdO (hx ss 0))
  have r2 := rows_snoc r1 rfl (sdO (hx ss 1))
  have r3 := rows_snoc r2 rfl (sdO (hx ss 2))
  rw [show decide ((0 : Int) < (ss.length : Int)) = true by simp; omega] at hE
  simp only [b 0 (by omega)] at hE
  by_cases h1 : 1 < ss.length
  · rw [show decide ((1 : Int) < (ss.length : Int)) = true by simp; omega] at hE
    simp only [b 1 (by omega)] at hE
    by_cases h2 : 2 < ss.length
    · have hk3 : k = 3 := by omega
      subst hk3
      rw [show decide ((2 : Int) < (ss.length : Int)) = true by simp; omega] at hE
      simp only [b 2 (by omega)] at hE
      have hE2 : exT ((Cse2 Try.prog).at 34) 60 Try.f34 [.slice (some ⟨0, 0, some 0⟩) ss.length 6] [.rows own true 6 ss.length (sdRow ss)] [.fix 0, .slot 0] = sdA own ss.length ss 3 (catR 2 (catR 1 (chop 12 0 (sdO (hx ss 0)).cells) (chop 12 0 (sdO (hx ss 1)).cells)) (chop 12 0 (sdO (hx ss 2)).cells)) := by
        rw [hE]
        cases decide ((3 : Int) < (ss.length : Int)) <;> rfl
      exact (exT_ok okse2 Try.func34 (by kernel_rfl) hE2).likes ⟨.refl _, .rows r3, trivial⟩
    · have hk2 : k = 2 := by omega
      subst hk2
      rw [show decide ((2 : Int) < (ss.length : Int)) = false by simp; omega] at hE
      exact (exT_ok okse2 Try.func34 (by kernel_rfl) hE).likes ⟨.refl _, .rows r2, trivial⟩
  · have hk1 : k = 1 := by omega
    subst hk1
    rw [show decide ((1 : Int) < (ss.length : Int)) = false by simp; omega] at hE
    exact (exT_ok okse2 Try.func34 (by kernel_rfl) hE).likes ⟨.refl _, .rows r1, trivial⟩
theorem seeds_none (own : Bool) : MemSem Try.prog 34 [.slice (some ⟨0, 0, some 0⟩) 0 6] [.rows own true 6 0 (sdRow [])] (.slice none 0 0) [.rows own true 6 0 (sdRow []), .no] := exT_ok okse2 Try.func34 (by kernel_rfl) (seedsE own 0 [])
def sdOut (own : Bool) (n : Nat) (ss : List Sd) (k : Nat) : Ans (Value × Mem) := .out (.slice (some ⟨1, 0, some 0⟩) k 12, [.rows own true 6 n (sdRow ss), .rows true true 12 k (opRow (sdL k ss))])
def sdF : List Value → Mem → Option (Ans (Value × Mem))
  | [.slice none 0 0], [] => some (.out (.slice none 0 0, [.no]))
  | [.slice (some ⟨0, 0, some 0⟩) N 6], [.rows own true 6 N2 row] => some (.br (Nat.beq N N2 && okSds N row) (.br (Nat.beq N 0) (.out (.slice none 0 0, [.rows own true 6 N (sdRow (sdsOf N row)), .no])) (.br (Nat.beq N 1) (sdOut own N (sdsOf N row) 1) (.br (Nat.beq N 2) (sdOut own N (sdsOf N row) 2) (sdOut own N (sdsOf N row) 3)))) .fail)
  | _, _ => none
theorem nbeq_ff {n m : Nat} (h : Nat.beq n m = false) : n ≠ m := fun e => by rw [e, Nat.beq_refl] at h; cases h
theorem sdF_ok {args : List Value} {m : Mem} {ans : Ans (Value × Mem)} {v : Value} {m' : Mem} (h : sdF args m = some ans) (hr : ans.res = some (v, m')) : MemSem Try.prog 34 args m v m' := by
  unfold sdF at h
  split at h
  · simp only [Option.some.injEq] at h
    subst h
    simp only [Ans.res, Option.some.injEq, Prod.mk.injEq] at hr
    obtain ⟨rfl, rfl⟩ := hr
    exact exT_ok okse2 Try.func34 (by kernel_rfl) seedsZ
  rotate_left
  · cases h
  rename_i N own N2 row
  simp only [Option.some.injEq] at h
  subst h
  rcases Ans.br_some hr with ⟨hc, hr1⟩ | ⟨_, hr1⟩
  rotate_left
  · simp [Ans.res] at hr1
  rw [Bool.and_eq_true] at hc
  obtain ⟨c1, c2⟩ := hc
  have c1 := beq_len c1
  subst c1
  have hl := sdsOf_length N row
  have hok := sds_ok c2
  have fin : ∀ k : Nat, ((k = N ∧ 1 ≤ k ∧ k ≤ 3) ∨ (k = 3 ∧ 3 ≤ N)) → (sdOut own N (sdsOf N row) k).res = some (v, m') → MemSem Try.prog 34 [.slice (some ⟨0, 0, some 0⟩) N 6] [.rows own true 6 N row] v m' := fun k hk hq => by
    simp only [sdOut, Ans.res, Option.some.injEq, Prod.mk.injEq] at hq
    obtain ⟨rfl, rfl⟩ := hq
    have := seeds_sem own (sdsOf N row) hok k (by rw [hl]; exact hk)
    rw [hl] at this
    exact this.like ⟨.rows (sds_like c2), trivial⟩
  rcases Ans.br_some hr1 with ⟨hq, hr2⟩ | ⟨hq, hr2⟩
  · have := beq_len hq
    subst this
    simp only [Ans.res, Option.some.injEq, Prod.mk.injEq] at hr2
    obtain ⟨rfl, rfl⟩ := hr2
    exact (seeds_none own).like ⟨.rows fun i hi => by omega, trivial⟩
  · have n0 := nbeq_ff hq
    rcases Ans.br_some hr2 with ⟨hq1, hr3⟩ | ⟨hq1, hr3⟩
    · have := beq_len hq1
      exact fin 1 (by omega) hr3
    · have n1 := nbeq_ff hq1
      rcases Ans.br_some hr3 with ⟨hq2, hr4⟩ | ⟨hq2, hr4⟩
      · have := beq_len hq2
        exact fin 2 (by omega) hr4
      · have n2 := nbeq_ff hq2
        exact fin 3 (by omega) hr4
/-! The law -/
def Cwf (P : Program) : Cx := (Cse2 P).addF 34 sdF
theorem okwf : CxOk (Cwf Try.prog) := Cx.addF_ok okse2 fun _ _ _ _ _ h hr => sdF_ok h hr
def wsB (P : Program) : Code := bodyOf P 10
theorem wsB_eq : Try.f10.body = some (wsB Try.prog) := by kernel_rfl
def wsR (own : Bool) (n : Nat) (ss : List Sd) (b : Bool) : St := stOf 127 [(6, .bool b)] [.rows own true 6 n (sdRow ss)]
def ws2 (own : Bool) (n : Nat) (ss : List Sd) (c : Nat) (r : Nat → List Value) : St := stOf 127 [(6, .bool false), (9, .slice (some ⟨1, 0, some 0⟩) c 12)] [.rows own true 6 n (sdRow ss), .rows true true 12 c r]
def ws2N (own : Bool) (n : Nat) (ss : List Sd) : St := stOf 127 [(6, .bool false), (9, .slice none 0 0)] [.rows own true 6 n (sdRow ss), .no]
def okT6 (n : Nat) (ss : List Sd) : Bool := Nat.beq n n && okSds n (sdRow ss)
def Cw0 (P : Program) : Cx := (Cwf P).road 34 [true, true]
theorem okw_0 : CxOk (Cw0 Try.prog) := Cx.road_ok okwf _ _
def ws1_0 (own : Bool) (n : Nat) (ss : List Sd) (a : Int) (s : O3) : St := stOf 127 [(2, .int .u8 a), (6, .bool false), (7, .pointer (some ⟨1, 0, none⟩)), (8, .slice none 0 0), (9, .slice none 0 0)] [.rows own true 6 n (sdRow ss), .cells true 0 s.cells]
theorem wsP0_0 (own : Bool) (n : Nat) (ss : List Sd) (m a : Int) : segR ((Cw0 Try.prog).into 10 1) 80 5 (wsB Try.prog) [2, 6, 7, 8, 9] [.fix 0, .slot 7] (enter Try.f10 [.slice (some ⟨0, 0, some 0⟩) n 6, .int .i8 m, .int .u8 a] [.rows own true 6 n (sdRow ss)]) =
    (match m == 0 with
    | true => gd (lk n) (gd (okT6 n ss) (gd (Nat.beq n 0) (some (ws1_0 own n ss a (shear 1)))))
    | false => gd (lk n) (gd (okT6 n ss) (gd (Nat.beq n 0) (some (ws1_0 own n ss a (shear (W m))))))) := by kernel_rfl
theorem wsP5_0 (own : Bool) (n : Nat) (ss : List Sd) (a : Int) (s : O3) : roundR ((Cse2 Try.prog).into 10 1) 80 (stmt 5 (wsB Try.prog)) [6, 9] [6, 9] [.fix 0, .slot 9] [.fix 0, .slot 9] (ws1_0 own n ss a s) =
    (match (0 : Int) == Int.tmod (W a) 1 with
    | true => some (.normal, ws2 own n ss 1 (chop 12 0 s.cells))
    | false => some (.normal, ws2N own n ss)) := by kernel_rfl
def Cw1 (P : Program) : Cx := (Cwf P).road 34 [true, false, true]
theorem okw_1 : CxOk (Cw1 Try.prog) := Cx.road_ok okwf _ _
def ws1_1 (own : Bool) (n : Nat) (ss : List Sd) (a : Int) (s : O3) (Z : List O3) : St := stOf 127 [(2, .int .u8 a), (6, .bool false), (7, .pointer (some ⟨1, 0, none⟩)), (8, .slice (some ⟨2, 0, some 0⟩) 1 12), (9, .slice none 0 0)] [.rows own true 6 n (sdRow ss), .cells true 0 s.cells, .rows true true 12 1 (opRow Z)]
theorem wsP0_1 (own : Bool) (n : Nat) (ss : List Sd) (m a : Int) : segR ((Cw1 Try.prog).into 10 1) 80 5 (wsB Try.prog) [2, 6, 7, 8, 9] [.fix 0, .slot 7, .slot 8] (enter Try.f10 [.slice (some ⟨0, 0, some 0⟩) n 6, .int .i8 m, .int .u8 a] [.rows own true 6 n (sdRow ss)]) =
    (match m == 0 with
    | true => gd (lk n) (gd (okT6 n ss) (gn (Nat.beq n 0) (gd (Nat.beq n 1) (some (ws1_1 own n ss a (shear 1) (sdL 1 (sdsOf n (sdRow ss))))))))
    | false => gd (lk n) (gd (okT6 n ss) (gn (Nat.beq n 0) (gd (Nat.beq n 1) (some (ws1_1 own n ss a (shear (W m)) (sdL 1 (sdsOf n (sdRow ss))))))))) := by kernel_rfl
theorem wsP5_1 (own : Bool) (n : Nat) (ss : List Sd) (a : Int) (s : O3) (Z : List O3) : roundR ((Cse2 Try.prog).into 10 1) 80 (stmt 5 (wsB Try.prog)) [6, 9] [6, 9] [.fix 0, .slot 9] [.fix 0, .slot 9] (ws1_1 own n ss a s Z) =
    (match (0 : Int) == Int.tmod (W a) 2 with
    | true => (match (1 : Int) == Int.tmod (W a) 2 with
      | true => some (.normal, ws2 own n ss 3 (catR 2 (catR 1 (chop 12 0 s.cells) (chop 12 0 (atO Z 0).cells)) (chop 12 0 s.cells)))
      | false => some (.normal, ws2 own n ss 2 (catR 1 (chop 12 0 s.cells) (chop 12 0 (atO Z 0).cells))))
    | false => (match (1 : Int) == Int.tmod (W a) 2 with
      | true => some (.normal, ws2 own n ss 2 (catR 1 (chop 12 0 (atO Z 0).cells) (chop 12 0 s.cells)))
      | false => some (.normal, ws2 own n ss 1 (chop 12 0 (atO Z 0).cells)))) := by kernel_rfl
def Cw2 (P : Program) : Cx := (Cwf P).road 34 [true, false, false, true]
theorem okw_2 : CxOk (Cw2 Try.prog) := Cx.road_ok okwf _ _
def ws1_2 (own : Bool) (n : Nat) (ss : List Sd) (a : Int) (s : O3) (Z : List O3) : St := stOf 127 [(2, .int .u8 a), (6, .bool false), (7, .pointer (some ⟨1, 0, none⟩)), (8, .slice (some ⟨2, 0, some 0⟩) 2 12), (9, .slice none 0 0)] [.rows own true 6 n (sdRow ss), .cells true 0 s.cells, .rows true true 12 2 (opRow Z)]
theorem wsP0_2 (own : Bool) (n : Nat) (ss : List Sd) (m a : Int) : segR ((Cw2 Try.prog).into 10 1) 80 5 (wsB Try.prog) [2, 6, 7, 8, 9] [.fix 0, .slot 7, .slot 8] (enter Try.f10 [.slice (some ⟨0, 0, some 0⟩) n 6, .int .i8 m, .int .u8 a] [.rows own true 6 n (sdRow ss)]) =
    (match m == 0 with
    | true => gd (lk n) (gd (okT6 n ss) (gn (Nat.beq n 0) (gn (Nat.beq n 1) (gd (Nat.beq n 2) (some (ws1_2 own n ss a (shear 1) (sdL 2 (sdsOf n (sdRow ss)))))))))
    | false => gd (lk n) (gd (okT6 n ss) (gn (Nat.beq n 0) (gn (Nat.beq n 1) (gd (Nat.beq n 2) (some (ws1_2 own n ss a (shear (W m)) (sdL 2 (sdsOf n (sdRow ss)))))))))) := by kernel_rfl
theorem wsP5_2 (own : Bool) (n : Nat) (ss : List Sd) (a : Int) (s : O3) (Z : List O3) : roundR ((Cse2 Try.prog).into 10 1) 80 (stmt 5 (wsB Try.prog)) [6, 9] [6, 9] [.fix 0, .slot 9] [.fix 0, .slot 9] (ws1_2 own n ss a s Z) =
    (match (0 : Int) == Int.tmod (W a) 3 with
    | true => (match (1 : Int) == Int.tmod (W a) 3 with
      | true => (match (2 : Int) == Int.tmod (W a) 3 with
        | true => some (.normal, ws2 own n ss 5 (catR 4 (catR 3 (catR 2 (catR 1 (chop 12 0 s.cells) (chop 12 0 (atO Z 0).cells)) (chop 12 0 s.cells)) (chop 12 0 (atO Z 1).cells)) (chop 12 0 s.cells)))
        | false => some (.normal, ws2 own n ss 4 (catR 3 (catR 2 (catR 1 (chop 12 0 s.cells) (chop 12 0 (atO Z 0).cells)) (chop 12 0 s.cells)) (chop 12 0 (atO Z 1).cells))))
      | false => (match (2 : Int) == Int.tmod (W a) 3 with
        | true => some (.normal, ws2 own n ss 4 (catR 3 (catR 2 (catR 1 (chop 12 0 s.cells) (chop 12 0 (atO Z 0).cells)) (chop 12 0 (atO Z 1).cells)) (chop 12 0 s.cells)))
        | false => some (.normal, ws2 own n ss 3 (catR 2 (catR 1 (chop 12 0 s.cells) (chop 12 0 (atO Z 0).cells)) (chop 12 0 (atO Z 1).cells)))))
    | false => (match (1 : Int) == Int.tmod (W a) 3 with
      | true => (match (2 : Int) == Int.tmod (W a) 3 with
        | true => some (.normal, ws2 own n ss 4 (catR 3 (catR 2 (catR 1 (chop 12 0 (atO Z 0).cells) (chop 12 0 s.cells)) (chop 12 0 (atO Z 1).cells)) (chop 12 0 s.cells)))
        | false => some (.normal, ws2 own n ss 3 (catR 2 (catR 1 (chop 12 0 (atO Z 0).cells) (chop 12 0 s.cells)) (chop 12 0 (atO Z 1).cells))))
      | false => (match (2 : Int) == Int.tmod (W a) 3 with
        | true => some (.normal, ws2 own n ss 3 (catR 2 (catR 1 (chop 12 0 (atO Z 0).cells) (chop 12 0 (atO Z 1).cells)) (chop 12 0 s.cells)))
        | false => some (.normal, ws2 own n ss 2 (catR 1 (chop 12 0 (atO Z 0).cells) (chop 12 0 (atO Z 1).cells)))))) := by kernel_rfl
def Cw3 (P : Program) : Cx := (Cwf P).road 34 [true, false, false, false]
theorem okw_3 : CxOk (Cw3 Try.prog) := Cx.road_ok okwf _ _
def ws1_3 (own : Bool) (n : Nat) (ss : List Sd) (a : Int) (s : O3) (Z : List O3) : St := stOf 127 [(2, .int .u8 a), (6, .bool false), (7, .pointer (some ⟨1, 0, none⟩)), (8, .slice (some ⟨2, 0, some 0⟩) 3 12), (9, .slice none 0 0)] [.rows own true 6 n (sdRow ss), .cells true 0 s.cells, .rows true true 12 3 (opRow Z)]
theorem wsP0_3 (own : Bool) (n : Nat) (ss : List Sd) (m a : Int) : segR ((Cw3 Try.prog).into 10 1) 80 5 (wsB Try.prog) [2, 6, 7, 8, 9] [.fix 0, .slot 7, .slot 8] (enter Try.f10 [.slice (some ⟨0, 0, some 0⟩) n 6, .int .i8 m, .int .u8 a] [.rows own true 6 n (sdRow ss)]) =
    (match m == 0 with
    | true => gd (lk n) (gd (okT6 n ss) (gn (Nat.beq n 0) (gn (Nat.beq n 1) (gn (Nat.beq n 2) (some (ws1_3 own n ss a (shear 1) (sdL 3 (sdsOf n (sdRow ss)))))))))
    | false => gd (lk n) (gd (okT6 n ss) (gn (Nat.beq n 0) (gn (Nat.beq n 1) (gn (Nat.beq n 2) (some (ws1_3 own n ss a (shear (W m)) (sdL 3 (sdsOf n (sdRow ss)))))))))) := by kernel_rfl
theorem wsP5_3 (own : Bool) (n : Nat) (ss : List Sd) (a : Int) (s : O3) (Z : List O3) : roundR ((Cse2 Try.prog).into 10 1) 80 (stmt 5 (wsB Try.prog)) [6, 9] [6, 9] [.fix 0, .slot 9] [.fix 0, .slot 9] (ws1_3 own n ss a s Z) =
    (match (0 : Int) == Int.tmod (W a) 4 with
    | true => (match (1 : Int) == Int.tmod (W a) 4 with
      | true => (match (2 : Int) == Int.tmod (W a) 4 with
        | true => (match (3 : Int) == Int.tmod (W a) 4 with
          | true => some (.normal, ws2 own n ss 7 (catR 6 (catR 5 (catR 4 (catR 3 (catR 2 (catR 1 (chop 12 0 s.cells) (chop 12 0 (atO Z 0).cells)) (chop 12 0 s.cells)) (chop 12 0 (atO Z 1).cells)) (chop 12 0 s.cells)) (chop 12 0 (atO Z 2).cells)) (chop 12 0 s.cells)))
          | false => some (.normal, ws2 own n ss 6 (catR 5 (catR 4 (catR 3 (catR 2 (catR 1 (chop 12 0 s.cells) (chop 12 0 (atO Z 0).cells)) (chop 12 0 s.cells)) (chop 12 0 (atO Z 1).cells)) (chop 12 0 s.cells)) (chop 12 0 (atO Z 2).cells))))
        | false => (match (3 : Int) == Int.tmod (W a) 4 with
          | true => some (.normal, ws2 own n ss 6 (catR 5 (catR 4 (catR 3 (catR 2 (catR 1 (chop 12 0 s.cells) (chop 12 0 (atO Z 0).cells)) (chop 12 0 s.cells)) (chop 12 0 (atO Z 1).cells)) (chop 12 0 (atO Z 2).cells)) (chop 12 0 s.cells)))
          | false => some (.normal, ws2 own n ss 5 (catR 4 (catR 3 (catR 2 (catR 1 (chop 12 0 s.cells) (chop 12 0 (atO Z 0).cells)) (chop 12 0 s.cells)) (chop 12 0 (atO Z 1).cells)) (chop 12 0 (atO Z 2).cells)))))
      | false => (match (2 : Int) == Int.tmod (W a) 4 with
        | true => (match (3 : Int) == Int.tmod (W a) 4 with
          | true => some (.normal, ws2 own n ss 6 (catR 5 (catR 4 (catR 3 (catR 2 (catR 1 (chop 12 0 s.cells) (chop 12 0 (atO Z 0).cells)) (chop 12 0 (atO Z 1).cells)) (chop 12 0 s.cells)) (chop 12 0 (atO Z 2).cells)) (chop 12 0 s.cells)))
          | false => some (.normal, ws2 own n ss 5 (catR 4 (catR 3 (catR 2 (catR 1 (chop 12 0 s.cells) (chop 12 0 (atO Z 0).cells)) (chop 12 0 (atO Z 1).cells)) (chop 12 0 s.cells)) (chop 12 0 (atO Z 2).cells))))
        | false => (match (3 : Int) == Int.tmod (W a) 4 with
          | true => some (.normal, ws2 own n ss 5 (catR 4 (catR 3 (catR 2 (catR 1 (chop 12 0 s.cells) (chop 12 0 (atO Z 0).cells)) (chop 12 0 (atO Z 1).cells)) (chop 12 0 (atO Z 2).cells)) (chop 12 0 s.cells)))
          | false => some (.normal, ws2 own n ss 4 (catR 3 (catR 2 (catR 1 (chop 12 0 s.cells) (chop 12 0 (atO Z 0).cells)) (chop 12 0 (atO Z 1).cells)) (chop 12 0 (atO Z 2).cells))))))
    | false => (match (1 : Int) == Int.tmod (W a) 4 with
      | true => (match (2 : Int) == Int.tmod (W a) 4 with
        | true => (match (3 : Int) == Int.tmod (W a) 4 with
          | true => some (.normal, ws2 own n ss 6 (catR 5 (catR 4 (catR 3 (catR 2 (catR 1 (chop 12 0 (atO Z 0).cells) (chop 12 0 s.cells)) (chop 12 0 (atO Z 1).cells)) (chop 12 0 s.cells)) (chop 12 0 (atO Z 2).cells)) (chop 12 0 s.cells)))
          | false => some (.normal, ws2 own n ss 5 (catR 4 (catR 3 (catR 2 (catR 1 (chop 12 0 (atO Z 0).cells) (chop 12 0 s.cells)) (chop 12 0 (atO Z 1).cells)) (chop 12 0 s.cells)) (chop 12 0 (atO Z 2).cells))))
        | false => (match (3 : Int) == Int.tmod (W a) 4 with
          | true => some (.normal, ws2 own n ss 5 (catR 4 (catR 3 (catR 2 (catR 1 (chop 12 0 (atO Z 0).cells) (chop 12 0 s.cells)) (chop 12 0 (atO Z 1).cells)) (chop 12 0 (atO Z 2).cells)) (chop 12 0 s.cells)))
          | false => some (.normal, ws2 own n ss 4 (catR 3 (catR 2 (catR 1 (chop 12 0 (atO Z 0).cells) (chop 12 0 s.cells)) (chop 12 0 (atO Z 1).cells)) (chop 12 0 (atO Z 2).cells)))))
      | false => (match (2 : Int) == Int.tmod (W a) 4 with
        | true => (match (3 : Int) == Int.tmod (W a) 4 with
          | true => some (.normal, ws2 own n ss 5 (catR 4 (catR 3 (catR 2 (catR 1 (chop 12 0 (atO Z 0).cells) (chop 12 0 (atO Z 1).cells)) (chop 12 0 s.cells)) (chop 12 0 (atO Z 2).cells)) (chop 12 0 s.cells)))
          | false => some (.normal, ws2 own n ss 4 (catR 3 (catR 2 (catR 1 (chop 12 0 (atO Z 0).cells) (chop 12 0 (atO Z 1).cells)) (chop 12 0 s.cells)) (chop 12 0 (atO Z 2).cells))))
        | false => (match (3 : Int) == Int.tmod (W a) 4 with
          | true => some (.normal, ws2 own n ss 4 (catR 3 (catR 2 (catR 1 (chop 12 0 (atO Z 0).cells) (chop 12 0 (atO Z 1).cells)) (chop 12 0 (atO Z 2).cells)) (chop 12 0 s.cells)))
          | false => some (.normal, ws2 own n ss 3 (catR 2 (catR 1 (chop 12 0 (atO Z 0).cells) (chop 12 0 (atO Z 1).cells)) (chop 12 0 (atO Z 2).cells))))))) := by kernel_rfl
theorem wsHas : hasStmt 5 (wsB Try.prog) = true := by kernel_rfl
def Cwa (P : Program) : Cx := (Cse2 P).road 12 [true, false]
theorem okwa : CxOk (Cwa Try.prog) := Cx.road_ok okse2 _ _
def ws3 (own : Bool) (n : Nat) (ss : List Sd) (e : Int) : St := stOf 127 [(6, .bool false), (11, .slice (some ⟨1, 0, some 0⟩) 1 12), (12, vI 0), (13, .slice none 0 0), (14, vI e)] [.rows own true 6 n (sdRow ss), .rows true true 12 1 (opRow [O3.one])]
theorem wsP6 (own : Bool) (n : Nat) (ss : List Sd) (c : Nat) (V : List O3) : segR ((Cwa Try.prog).into 10 1) 60 2 (seqDrop 6 (wsB Try.prog)) [6, 11, 12, 13, 14] [.fix 0, .slot 11] (ws2 own n ss c (opRow V)) =
    gd (lk c) (gd (oTc c (opRow V)) (gn (clsOk (opsOf c (opRow V))) (some (ws3 own n ss (clsErr (opsOf c (opRow V))))))) := by kernel_rfl
def Cwb (P : Program) : Cx := (Cse2 P).good 12 [true, true]
theorem okwb : CxOk (Cwb Try.prog) := Cx.good_ok okse2 _ _
def ws4 (own : Bool) (n : Nat) (ss : List Sd) (e : Int) (X Y : O3) : St := stOf 127 [(6, .bool false), (11, .slice (some ⟨1, 0, some 0⟩) 1 12), (12, vI 0), (13, .slice none 0 0), (14, vI e), (15, .pointer (some ⟨2, 0, none⟩)), (16, .pointer (some ⟨3, 0, none⟩))] [.rows own true 6 n (sdRow ss), .rows true true 12 1 (opRow [O3.one]), .cells true 0 X.cells, .cells true 0 Y.cells]
theorem wsP8 (own : Bool) (n : Nat) (ss : List Sd) (e : Int) : segR ((Cse2 Try.prog).into 10 1) 60 2 (seqDrop 8 (wsB Try.prog)) [6, 11, 12, 13, 14, 15, 16] [.fix 0, .slot 11, .slot 15, .slot 16] (ws3 own n ss e) = some (ws4 own n ss e shiftX shiftY) := by kernel_rfl
def ws5 (own : Bool) (n : Nat) (ss : List Sd) (e f : Int) (X : O3) : St := stOf 127 [(6, .bool false), (11, .slice (some ⟨1, 0, some 0⟩) 1 12), (12, vI 0), (13, .slice none 0 0), (14, vI e), (15, .pointer (some ⟨2, 0, none⟩)), (17, .slice none 0 0), (18, vI f)] [.rows own true 6 n (sdRow ss), .rows true true 12 1 (opRow [O3.one]), .cells true 0 X.cells]
theorem wsP10 (own : Bool) (n : Nat) (ss : List Sd) (e : Int) (X Y : O3) : segR ((Cwa Try.prog).into 10 1) 60 1 (seqDrop 10 (wsB Try.prog)) [6, 11, 12, 13, 14, 15, 17, 18] [.fix 0, .slot 11, .slot 15] (ws4 own n ss e X Y) = gn (clsOk (opsOf 2 (chop 12 0 (X.cells ++ Y.cells)))) (some (ws5 own n ss e (clsErr (opsOf 2 (chop 12 0 (X.cells ++ Y.cells)))) X)) := by kernel_rfl
def ws6 (own : Bool) (n : Nat) (ss : List Sd) (e f : Int) (k : Nat) (G : List O3) : St := stOf 127 [(6, .bool false), (11, .slice (some ⟨1, 0, some 0⟩) 1 12), (12, vI 0), (13, .slice none 0 0), (14, vI e), (17, .slice none 0 0), (18, vI f), (19, .slice (some ⟨2, 0, some 0⟩) k 12), (20, vI 0)] [.rows own true 6 n (sdRow ss), .rows true true 12 1 (opRow [O3.one]), .rows true true 12 k (opRow G)]
theorem wsP11 (own : Bool) (n : Nat) (ss : List Sd) (e f : Int) (X : O3) : segR ((Cwb Try.prog).into 10 1) 60 1 (seqDrop 11 (wsB Try.prog)) [6, 11, 12, 13, 14, 17, 18, 19, 20] [.fix 0, .slot 11, .slot 19] (ws5 own n ss e f X) = gd (clsOk (opsOf 1 (chop 12 0 X.cells))) (some (ws6 own n ss e f (clsG (opsOf 1 (chop 12 0 X.cells))).length (clsG (opsOf 1 (chop 12 0 X.cells))))) := by kernel_rfl
theorem wsP12 (own : Bool) (n : Nat) (ss : List Sd) (e f : Int) (k : Nat) (G : List O3) : roundR ((Cse2 Try.prog).into 10 1) 60 (seqDrop 12 (wsB Try.prog)) [6] [6] [.fix 0] [.fix 0] (ws6 own n ss e f k G) =
    (match e == 5 with
    | true => match f == 5 with
      | true => some (.ret, wsR own n ss ((k : Int) == 24))
      | false => some (.ret, wsR own n ss false)
    | false => some (.ret, wsR own n ss false)) := by kernel_rfl
theorem wsRet (own : Bool) (n : Nat) (ss : List Sd) : (retA Try.prog Try.f10 (.ret, wsR own n ss true)).res = some (.bool true, [.rows own true 6 n (sdRow ss)]) := by kernel_rfl
/-! No seeds at all -/
def wzR (b : Bool) : St := stOf 127 [(6, .bool b)] []
def wz1 (a : Int) (s : O3) : St := stOf 127 [(2, .int .u8 a), (6, .bool false), (7, .pointer (some ⟨0, 0, none⟩)), (8, .slice none 0 0), (9, .slice none 0 0)] [.cells true 0 s.cells]
theorem wzP0 (m a : Int) : segR ((Cwf Try.prog).into 10 0) 80 5 (wsB Try.prog) [2, 6, 7, 8, 9] [.slot 7] (enter Try.f10 [.slice none 0 0, .int .i8 m, .int .u8 a] []) =
    (match m == 0 with
    | true => some (wz1 a (shear 1))
    | false => some (wz1 a (shear (W m)))) := by kernel_rfl
theorem wzP5 (a : Int) (s : O3) : roundR ((Cse2 Try.prog).into 10 0) 80 (stmt 5 (wsB Try.prog)) [6, 9] [6, 9] [.slot 9] [.slot 9] (wz1 a s) =
    (match (0 : Int) == Int.tmod (W a) 1 with
    | true => some (.normal, stOf 127 [(6, .bool false), (9, .slice (some ⟨0, 0, some 0⟩) 1 12)] [.rows true true 12 1 (chop 12 0 s.cells)])
    | false => some (.normal, stOf 127 [(6, .bool false), (9, .slice none 0 0)] [.no])) := by kernel_rfl
def wz3 (e : Int) : St := stOf 127 [(6, .bool false), (11, .slice (some ⟨0, 0, some 0⟩) 1 12), (12, vI 0), (13, .slice none 0 0), (14, vI e)] [.rows true true 12 1 (opRow [O3.one])]
theorem wzP6 (c : Nat) (V : List O3) : segR ((Cwa Try.prog).into 10 0) 60 2 (seqDrop 6 (wsB Try.prog)) [6, 11, 12, 13, 14] [.slot 11] (stOf 127 [(6, .bool false), (9, .slice (some ⟨0, 0, some 0⟩) c 12)] [.rows true true 12 c (opRow V)]) =
    gd (lk c) (gd (oTc c (opRow V)) (gn (clsOk (opsOf c (opRow V))) (some (wz3 (clsErr (opsOf c (opRow V))))))) := by kernel_rfl
def wz4 (e : Int) (X Y : O3) : St := stOf 127 [(6, .bool false), (11, .slice (some ⟨0, 0, some 0⟩) 1 12), (12, vI 0), (13, .slice none 0 0), (14, vI e), (15, .pointer (some ⟨1, 0, none⟩)), (16, .pointer (some ⟨2, 0, none⟩))] [.rows true true 12 1 (opRow [O3.one]), .cells true 0 X.cells, .cells true 0 Y.cells]
theorem wzP8 (e : Int) : segR ((Cse2 Try.prog).into 10 0) 60 2 (seqDrop 8 (wsB Try.prog)) [6, 11, 12, 13, 14, 15, 16] [.slot 11, .slot 15, .slot 16] (wz3 e) = some (wz4 e shiftX shiftY) := by kernel_rfl
def wz5 (e f : Int) (X : O3) : St := stOf 127 [(6, .bool false), (11, .slice (some ⟨0, 0, some 0⟩) 1 12), (12, vI 0), (13, .slice none 0 0), (14, vI e), (15, .pointer (some ⟨1, 0, none⟩)), (17, .slice none 0 0), (18, vI f)] [.rows true true 12 1 (opRow [O3.one]), .cells true 0 X.cells]
theorem wzP10 (e : Int) (X Y : O3) : segR ((Cwa Try.prog).into 10 0) 60 1 (seqDrop 10 (wsB Try.prog)) [6, 11, 12, 13, 14, 15, 17, 18] [.slot 11, .slot 15] (wz4 e X Y) = gn (clsOk (opsOf 2 (chop 12 0 (X.cells ++ Y.cells)))) (some (wz5 e (clsErr (opsOf 2 (chop 12 0 (X.cells ++ Y.cells)))) X)) := by kernel_rfl
def wz6 (e f : Int) (k : Nat) (G : List O3) : St := stOf 127 [(6, .bool false), (11, .slice (some ⟨0, 0, some 0⟩) 1 12), (12, vI 0), (13, .slice none 0 0), (14, vI e), (17, .slice none 0 0), (18, vI f), (19, .slice (some ⟨1, 0, some 0⟩) k 12), (20, vI 0)] [.rows true true 12 1 (opRow [O3.one]), .rows true true 12 k (opRow G)]
theorem wzP11 (e f : Int) (X : O3) : segR ((Cwb Try.prog).into 10 0) 60 1 (seqDrop 11 (wsB Try.prog)) [6, 11, 12, 13, 14, 17, 18, 19, 20] [.slot 11, .slot 19] (wz5 e f X) = gd (clsOk (opsOf 1 (chop 12 0 X.cells))) (some (wz6 e f (clsG (opsOf 1 (chop 12 0 X.cells))).length (clsG (opsOf 1 (chop 12 0 X.cells))))) := by kernel_rfl
theorem wzP12 (e f : Int) (k : Nat) (G : List O3) : roundR ((Cse2 Try.prog).into 10 0) 60 (seqDrop 12 (wsB Try.prog)) [6] [6] [] [] (wz6 e f k G) =
    (match e == 5 with
    | true => match f == 5 with
      | true => some (.ret, wzR ((k : Int) == 24))
      | false => some (.ret, wzR false)
    | false => some (.ret, wzR false)) := by kernel_rfl
theorem wzRet : (retA Try.prog Try.f10 (.ret, wzR true)).res = some (.bool true, []) := by kernel_rfl
end Go.Proofs.Ytggdbakgiknogaa
