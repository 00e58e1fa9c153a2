/-
  Lists of matrices and of columns in memory. Nothing here is trusted.
-/
import Derived.Test.YtcefeamjnnkahaaGd
import Derived.Test.YtcefeamjnnkahaaGt

namespace Go.Proofs.Ytcefeamjnnkahaa.Vx
open Go
/-- The cells of a list's maps. -/
def mtRow (l : List M3) : Nat → List Value := fun i => ((l[i]?).getD M3.zero).cells
def decM (l : List Value) : M3 := match matCells l with
  | some o => o
  | none => M3.zero
def isM (l : List Value) : Bool := match matCells l with
  | some _ => true
  | none => false
def okMts (n : Nat) (row : Nat → List Value) : Bool := (List.range n).all fun i => isM (row i)
def mtsOf (n : Nat) (row : Nat → List Value) : List M3 := (List.range n).map fun i => decM (row i)
theorem matCells_cells (o : M3) : matCells o.cells = some o := rfl
theorem isM_cells (o : M3) : isM o.cells = true := rfl
theorem decM_cells (o : M3) : decM o.cells = o := rfl
theorem okMts_mtRow (xs : List M3) (n : Nat) : okMts n (mtRow xs) = true := List.all_eq_true.2 fun _ _ => isM_cells _
theorem mtsOf_mtRow (xs : List M3) : mtsOf xs.length (mtRow xs) = xs := by
  apply List.ext_getElem?
  intro i
  unfold mtsOf mtRow
  rw [List.getElem?_map]
  by_cases hi : i < xs.length
  · rw [List.getElem?_range hi, List.getElem?_eq_getElem hi]
    simp [decM_cells, List.getElem?_eq_getElem hi]
  · rw [List.getElem?_eq_none (by simp; omega), List.getElem?_eq_none (by omega)]; rfl
theorem mtsOf_length (n : Nat) (row : Nat → List Value) : (mtsOf n row).length = n := by simp [mtsOf]
theorem mts_like {n : Nat} {row : Nat → List Value} (h : okMts n row = true) : rowsLike n row (mtRow (mtsOf n row)) := by
  intro i hi
  have := List.all_eq_true.1 h i (List.mem_range.2 hi)
  unfold isM at this
  split at this
  · rename_i o ho
    unfold mtRow mtsOf
    rw [List.getElem?_map, List.getElem?_range hi]
    simp only [Option.map_some, Option.getD_some, decM, ho]
    exact matCells_spec ho
  · cases this
theorem like_mts {own : Bool} {n : Nat} {row : Nat → List Value} (h : okMts n row = true) : Like (.rows own true 9 n row) (.rows own true 9 (mtsOf n row).length (mtRow (mtsOf n row))) := by
  rw [mtsOf_length]; exact .rows (mts_like h)
/-- One map behind others. -/
theorem catR_mts (xs : List M3) (o : M3) (i : Nat) (hi : i < xs.length + 1) : catR xs.length (mtRow xs) (chop 9 0 o.cells) i = mtRow (xs ++ [o]) i := by
  unfold catR mtRow
  by_cases h : i < xs.length
  · rw [show Nat.blt i xs.length = true by simpa [Nat.blt_eq] using h, List.getElem?_append_left h]
  · have : i = xs.length := by omega
    subst this
    rw [blt_ff (Nat.lt_irrefl _)]
    simp only [Nat.sub_self]
    rw [List.getElem?_append_right (Nat.le_refl _)]
    simp only [Nat.sub_self, List.getElem?_cons_zero, Option.getD_some]
    rfl
theorem like_ngmts {pl : Bool} {n : Nat} {xs : List M3} (hx : xs.length = n) (o : M3) : Like (.grow pl 9 (n + 1) (catR n (mtRow xs) (chop 9 0 o.cells))) (.grow pl 9 (n + 1) (mtRow (xs ++ [o]))) := by
  subst hx
  exact .grow fun i hi => catR_mts xs o i hi
theorem like_nrmts {own pl : Bool} {n : Nat} {xs : List M3} (hx : xs.length = n) (o : M3) : Like (.rows own pl 9 (n + 1) (catR n (mtRow xs) (chop 9 0 o.cells))) (.rows own pl 9 (n + 1) (mtRow (xs ++ [o]))) := by
  subst hx
  exact .rows fun i hi => catR_mts xs o i hi
theorem like_chopmts {own pl : Bool} (o : M3) : Like (.rows own pl 9 1 (chop 9 0 o.cells)) (.rows own pl 9 1 (mtRow [o])) := .rows fun i hi => by
  have : i = 0 := by omega
  subst this
  rfl
theorem like_onemts {own pl : Bool} (xs : List M3) (o : M3) : Like (.rows own pl 9 (xs.length + 1) (catR xs.length (mtRow xs) (chop 9 0 o.cells))) (.rows own pl 9 (xs ++ [o]).length (mtRow (xs ++ [o]))) := by
  rw [List.length_append]
  exact .rows fun i hi => catR_mts xs o i hi

theorem like_onegmts {pl : Bool} (xs : List M3) (o : M3) : Like (.grow pl 9 (xs.length + 1) (catR xs.length (mtRow xs) (chop 9 0 o.cells))) (.grow pl 9 (xs ++ [o]).length (mtRow (xs ++ [o]))) := by
  rw [List.length_append]
  exact .grow fun i hi => catR_mts xs o i hi

theorem mtsOf_row {xs : List M3} {n : Nat} (h : xs.length = n) : mtsOf n (mtRow xs) = xs := by subst h; exact mtsOf_mtRow xs
/-- The cells of a list's maps. -/
def vcRow (l : List V3) : Nat → List Value := fun i => ((l[i]?).getD V3.zero).cells
def decV (l : List Value) : V3 := match vecCells l with
  | some o => o
  | none => V3.zero
def isV (l : List Value) : Bool := match vecCells l with
  | some _ => true
  | none => false
def okVcs (n : Nat) (row : Nat → List Value) : Bool := (List.range n).all fun i => isV (row i)
def vcsOf (n : Nat) (row : Nat → List Value) : List V3 := (List.range n).map fun i => decV (row i)
theorem vecCells_cells (o : V3) : vecCells o.cells = some o := rfl
theorem isV_cells (o : V3) : isV o.cells = true := rfl
theorem decV_cells (o : V3) : decV o.cells = o := rfl
theorem okVcs_vcRow (xs : List V3) (n : Nat) : okVcs n (vcRow xs) = true := List.all_eq_true.2 fun _ _ => isV_cells _
theorem vcsOf_vcRow (xs : List V3) : vcsOf xs.length (vcRow xs) = xs := by
  apply List.ext_getElem?
  intro i
  unfold vcsOf vcRow
  rw [List.getElem?_map]
  by_cases hi : i < xs.length
  · rw [List.getElem?_range hi, List.getElem?_eq_getElem hi]
    simp [decV_cells, List.getElem?_eq_getElem hi]
  · rw [List.getElem?_eq_none (by simp; omega), List.getElem?_eq_none (by omega)]; rfl
theorem vcsOf_length (n : Nat) (row : Nat → List Value) : (vcsOf n row).length = n := by simp [vcsOf]
theorem vcs_like {n : Nat} {row : Nat → List Value} (h : okVcs n row = true) : rowsLike n row (vcRow (vcsOf n row)) := by
  intro i hi
  have := List.all_eq_true.1 h i (List.mem_range.2 hi)
  unfold isV at this
  split at this
  · rename_i o ho
    unfold vcRow vcsOf
    rw [List.getElem?_map, List.getElem?_range hi]
    simp only [Option.map_some, Option.getD_some, decV, ho]
    exact vecCells_spec ho
  · cases this
theorem like_vcs {own : Bool} {n : Nat} {row : Nat → List Value} (h : okVcs n row = true) : Like (.rows own true 3 n row) (.rows own true 3 (vcsOf n row).length (vcRow (vcsOf n row))) := by
  rw [vcsOf_length]; exact .rows (vcs_like h)
/-- One map behind others. -/
theorem catR_vcs (xs : List V3) (o : V3) (i : Nat) (hi : i < xs.length + 1) : catR xs.length (vcRow xs) (chop 3 0 o.cells) i = vcRow (xs ++ [o]) i := by
  unfold catR vcRow
  by_cases h : i < xs.length
  · rw [show Nat.blt i xs.length = true by simpa [Nat.blt_eq] using h, List.getElem?_append_left h]
  · have : i = xs.length := by omega
    subst this
    rw [blt_ff (Nat.lt_irrefl _)]
    simp only [Nat.sub_self]
    rw [List.getElem?_append_right (Nat.le_refl _)]
    simp only [Nat.sub_self, List.getElem?_cons_zero, Option.getD_some]
    rfl
theorem like_ngvcs {pl : Bool} {n : Nat} {xs : List V3} (hx : xs.length = n) (o : V3) : Like (.grow pl 3 (n + 1) (catR n (vcRow xs) (chop 3 0 o.cells))) (.grow pl 3 (n + 1) (vcRow (xs ++ [o]))) := by
  subst hx
  exact .grow fun i hi => catR_vcs xs o i hi
theorem like_nrvcs {own pl : Bool} {n : Nat} {xs : List V3} (hx : xs.length = n) (o : V3) : Like (.rows own pl 3 (n + 1) (catR n (vcRow xs) (chop 3 0 o.cells))) (.rows own pl 3 (n + 1) (vcRow (xs ++ [o]))) := by
  subst hx
  exact .rows fun i hi => catR_vcs xs o i hi
theorem like_chopvcs {own pl : Bool} (o : V3) : Like (.rows own pl 3 1 (chop 3 0 o.cells)) (.rows own pl 3 1 (vcRow [o])) := .rows fun i hi => by
  have : i = 0 := by omega
  subst this
  rfl
theorem like_onevcs {own pl : Bool} (xs : List V3) (o : V3) : Like (.rows own pl 3 (xs.length + 1) (catR xs.length (vcRow xs) (chop 3 0 o.cells))) (.rows own pl 3 (xs ++ [o]).length (vcRow (xs ++ [o]))) := by
  rw [List.length_append]
  exact .rows fun i hi => catR_vcs xs o i hi

theorem like_onegvcs {pl : Bool} (xs : List V3) (o : V3) : Like (.grow pl 3 (xs.length + 1) (catR xs.length (vcRow xs) (chop 3 0 o.cells))) (.grow pl 3 (xs ++ [o]).length (vcRow (xs ++ [o]))) := by
  rw [List.length_append]
  exact .grow fun i hi => catR_vcs xs o i hi

theorem vcsOf_row {xs : List V3} {n : Nat} (h : xs.length = n) : vcsOf n (vcRow xs) = xs := by subst h; exact vcsOf_vcRow xs
end Go.Proofs.Ytcefeamjnnkahaa.Vx


namespace Go.Proofs.Ytcefeamjnnkahaa
open Go Vx
/-- What Check answers. -/
def chkI (X : List O3) : Int := match clsOk X with
  | true => match !(sameB (clsG X) X) with
    | true => 5
    | false => 0
  | false => clsErr X
theorem clsErr_ne (X : List O3) : clsErr X ≠ 0 := by
  unfold clsErr
  by_cases h : ckMaps X = 0
  · rw [h]; decide
  · rw [(bif_beq h).1]; exact h
theorem chkE0 : exT ((Caw Try.prog).at 13) 60 Try.f13 [.slice none 0 0] [] [] = some (vI 5, []) := by kernel_rfl
theorem chkE1 (own : Bool) (N : Nat) (ls : List O3) : exT ((Caw Try.prog).at 13) 60 Try.f13 [.slice (some ⟨0, 0, some 0⟩) N 12] [.rows own true 12 N (opRow ls)] [.fix 0] =
    gd (oT N (opRow ls)) (match clsOk (opsOf N (opRow ls)) with
      | true => gd (ssT (clsG (opsOf N (opRow ls))).length N (opRow (clsG (opsOf N (opRow ls)))) (opRow (opsOf N (opRow ls)))) (match !(sameB (opsOf (clsG (opsOf N (opRow ls))).length (opRow (clsG (opsOf N (opRow ls))))) (opsOf N (opRow (opsOf N (opRow ls))))) with
        | true => some (vI 5, [.rows own true 12 N (opRow (opsOf N (opRow (opsOf N (opRow ls)))))])
        | false => some (vI 0, [.rows own true 12 N (opRow (opsOf N (opRow (opsOf N (opRow ls)))))]))
      | false => match clsErr (opsOf N (opRow ls)) == 0 with
        | true => gd (oT N (opRow (opsOf N (opRow ls)))) (match !(sameB [] (opsOf N (opRow (opsOf N (opRow ls))))) with
          | true => some (vI 5, [.rows own true 12 N (opRow (opsOf N (opRow (opsOf N (opRow ls)))))])
          | false => some (vI (clsErr (opsOf N (opRow ls))), [.rows own true 12 N (opRow (opsOf N (opRow (opsOf N (opRow ls)))))]))
        | false => some (vI (clsErr (opsOf N (opRow ls))), [.rows own true 12 N (opRow (opsOf N (opRow ls)))])) := by kernel_rfl
theorem oT_ok (n : Nat) (xs : List O3) : oT n (opRow xs) = true := by unfold oT; rw [Nat.beq_refl, okOps_opRow]; rfl
theorem chkE (own : Bool) (N : Nat) (ls : List O3) (hl : ls.length = N) : exT ((Caw Try.prog).at 13) 60 Try.f13 [.slice (some ⟨0, 0, some 0⟩) N 12] [.rows own true 12 N (opRow ls)] [.fix 0] = some (vI (chkI ls), [.rows own true 12 N (opRow ls)]) := by
  rw [chkE1, opsOf_row hl, opsOf_row hl, oT_ok, gd_true]
  unfold chkI
  cases hc : clsOk ls with
  | true =>
    have hlen := clsOk_len hc
    have ht : ssT (clsG ls).length N (opRow (clsG ls)) (opRow ls) = true := by unfold ssT; rw [Nat.beq_refl, Nat.beq_refl, okOps_opRow, okOps_opRow]; simp; omega
    simp only [ht, gd_true, opsOf_row]
    cases sameB (clsG ls) ls <;> rfl
  | false => simp only [(bif_beq (clsErr_ne ls)).1]
def chkF : List Value → Mem → Option (Ans (Value × Mem))
  | [.slice none 0 0], [] => some (.out (vI 5, []))
  | [.slice (some ⟨0, 0, some 0⟩) N 12], [.rows own true 12 N2 row] => some (.br (Nat.beq N N2 && okOps N row) (.out (vI (chkI (opsOf N row)), [.rows own true 12 N (opRow (opsOf N row))])) .fail)
  | _, _ => none
def Cck (P : Program) : Cx := (Caw P).addF 13 chkF
theorem okck : CxOk (Cck Try.prog) := Cx.addF_ok okaw fun args m ans v m' h hr => by
  unfold chkF at h
  split at h
  · simp only [Option.some.injEq] at h
    subst h
    simp only [Ans.res, Option.some.injEq, Prod.mk.injEq] at hr
    obtain ⟨rfl, rfl⟩ := hr
    exact exT_ok okaw Try.func13 (by kernel_rfl) chkE0
  · rename_i N own N2 row
    simp only [Option.some.injEq] at h
    subst h
    rcases Ans.br_some hr with ⟨hc, hr1⟩ | ⟨_, hr1⟩
    rotate_left
    · simp [Ans.res] at hr1
    clear hr
    simp only [Bool.and_eq_true] at hc
    obtain ⟨c1, c2⟩ := hc
    have c1 := beq_len c1
    subst c1
    simp only [Ans.res, Option.some.injEq, Prod.mk.injEq] at hr1
    obtain ⟨rfl, rfl⟩ := hr1
    exact (exT_ok okaw Try.func13 (by kernel_rfl) (chkE own N (opsOf N row) (opsOf_length N row))).like ⟨.rows (ops_like c2), trivial⟩
  · cases h
/-- Where each map stands. -/
def atsL : List O3 → Int → ES → ES
  | [], _, es => es
  | o :: l, i, es => atsL l (i + 1) (mPut (key o) i es)

def peX (P : Program) : Code := (loopsOf P 40 6).headD .skip
theorem peX_eq : loopsOf Try.prog 40 6 = [peX Try.prog] := by kernel_rfl
def peH (own : Bool) (n : Nat) (xs : List O3) (es : ES) (i : Int) : St := stOf 28 [(2, .map none), (3, vI 0), (5, .map (some 1)), (16, .slice (some ⟨0, 0, some 0⟩) n 12), (17, vI n), (18, vI i)] [.rows own true 12 n (opRow xs), .mp false 12 es]
theorem peR (own : Bool) (n : Nat) (xs : List O3) (es : ES) (i : Int) : roundR ((Cck Try.prog).into 40 1) 40 (peX Try.prog) [2, 3, 5, 16, 17, 18] [2, 3, 5] [.fix 0, .fix 1] [.fix 0, .fix 1] (peH own n xs es i) =
    (match decide (i < (n : Int)) with
    | true => match boundsI i n with
      | true => some (.normal, peH own n xs (mPut (key (atO xs i)) i es) (W (i + 1)))
      | false => none
    | false => some (.exit 0, stOf 28 [(2, .map none), (3, vI 0), (5, .map (some 1))] [.rows own true 12 n (opRow xs), .mp false 12 es])) := by kernel_rfl
structure peG where
  (own : Bool) (n : Nat) (xs : List O3) (es : ES) (i : Int)
def peO (own : Bool) (n : Nat) (xs : List O3) (es : ES) (i : Int) : Exit × St :=
  (.exit 0, stOf 28 [(2, .map none), (3, vI 0), (5, .map (some 1))] [.rows own true 12 n (opRow xs), .mp false 12 (atsL (xs.drop i.toNat) i es)])
theorem peL (own : Bool) (n : Nat) (xs : List O3) (es : ES) (i : Int) (hg : 0 ≤ i ∧ (n : Int) ≤ 4611686018427387904 ∧ xs.length = n) : LoopSem Try.prog 1 (peX Try.prog) (peH own n xs es i) (peO own n xs es i).1 (peO own n xs es i).2 := by
  refine loop_rule (C := Cck Try.prog) okck (f := 40) (B := 1) (loopsOf_in (k := 6) peX_eq) 40 [2, 3, 5, 16, 17, 18] [2, 3, 5] [.fix 0, .fix 1] [.fix 0, .fix 1] (fun g : peG => peH g.own g.n g.xs g.es g.i) (fun g => (g.n - g.i).toNat) (fun g => 0 ≤ g.i ∧ (g.n : Int) ≤ 4611686018427387904 ∧ g.xs.length = g.n) (fun g => peO g.own g.n g.xs g.es g.i) ?_ ⟨own, n, xs, es, i⟩ hg
  clear hg
  rintro ⟨own, n, xs, es, i⟩ hg
  simp only at hg
  simp only [peR]
  obtain ⟨h0, h1, h2⟩ := hg
  by_cases hi : i < (n : Int)
  · have hd : decide (i < (n : Int)) = true := by simpa using hi
    have hb : boundsI i n = true := by simp [boundsI, h0, hi]
    have hdx := drop_at (xs := xs) h0 (by omega)
    have hw : W (i + 1) = i + 1 := W_in (by omega)
    rw [hd, hb, hw]
    left
    refine ⟨⟨own, n, xs, mPut (key (atO xs i)) i es, i + 1⟩, rfl, ⟨by simp only; omega, h1, h2⟩, by simp only; omega, ?_⟩
    unfold peO
    simp only [hdx, atsL]
  · have hd : decide (i < (n : Int)) = false := by simpa using hi
    rw [hd]
    right
    have hn : xs.drop i.toNat = [] := List.drop_eq_nil_of_le (by omega)
    unfold peO
    simp only [hn, atsL]
    exact ⟨trivial, by simp⟩
def peS (st : St) : Option (Ans (Exit × St)) :=
  match sized st 28 2, tAt st 2, tAt st 3, tAt st 5, tAt st 16, tAt st 17, tAt st 18, st.mem with
  | true, some (.map none), some (.int .i64 0), some (.map (some 1)), some (.slice (some ⟨0, 0, some 0⟩) n 12), some (.int .i64 ln), some (.int .i64 i), [.rows own true 12 n2 row, .mp false 12 es] => some (.br (Nat.beq n n2 && (okOps n row && (decide ((n : Int) = ln) && (decide (0 ≤ i) && (decide ((n : Int) ≤ 4611686018427387904)))))) (.out (.exit 0, stOf 28 [(2, .map none), (3, vI 0), (5, .map (some 1))] [.rows own true 12 n (opRow (opsOf n row)), .mp false 12 (atsL ((opsOf n row).drop i.toNat) i es)])) .fail)
  | _, _, _, _, _, _, _, _ => none
theorem peK {st : St} {ans : Ans (Exit × St)} {e_ : Exit} {s_ : St} (h : peS st = some ans) (hr : ans.res = some (e_, s_)) : LoopSem Try.prog 1 (peX Try.prog) st e_ s_ := by
  unfold peS at h
  split at h
  · rename_i n ln i own n2 row es hb hs0 hs1 hs2 hs3 hs4 hs5 hm
    simp only [Option.some.injEq] at h
    subst h
    rcases Ans.br_some hr with ⟨hc, hr1⟩ | ⟨_, hr1⟩
    · clear hr
      simp only [Bool.and_eq_true] at hc
      obtain ⟨ht0, ht1, ht2, ht3, ht4⟩ := hc
      have ht0 := beq_len ht0
      subst ht0
      have ht2 : (n : Int) = ln := by simpa using ht2
      subst ht2
      have hinv : 0 ≤ i ∧ (n : Int) ≤ 4611686018427387904 ∧ (opsOf n row).length = n := by
        exact ⟨by simpa using ht3, by simpa using ht4, opsOf_length n row⟩
      have hk := stOf_keep hb [(2, .map none), (3, vI 0), (5, .map (some 1)), (16, .slice (some ⟨0, 0, some 0⟩) n 12), (17, vI n), (18, vI i)] (by
        intro x hx
        simp only [List.mem_cons, List.not_mem_nil, or_false] at hx
        rcases hx with rfl | rfl | rfl | rfl | rfl | rfl
        · exact hs0
        · exact hs1
        · exact hs2
        · exact hs3
        · exact hs4
        · exact hs5) hm
      have key := peL own n (opsOf n row) es i hinv
      unfold peH at key
      have key := LoopSem.like (m := [.rows own true 12 n row, .mp false 12 es]) key ⟨.rows (ops_like ht1), .refl _, trivial⟩
      have key : LoopSem Try.prog 1 (peX Try.prog) (stOf 28 [(2, .map none), (3, vI 0), (5, .map (some 1)), (16, .slice (some ⟨0, 0, some 0⟩) n 12), (17, vI n), (18, vI i)] [.rows own true 12 n row, .mp false 12 es]) _ _ := key
      rw [← hk] at key
      have key := LoopSem.clean key
      unfold peO at key
      simp only [Ans.res, Option.some.injEq, Prod.mk.injEq] at hr1
      obtain ⟨rfl, rfl⟩ := hr1
      exact key
    · simp [Ans.res] at hr1
  · cases h

def Cpe (P : Program) : Cx := (Cck P).addLB 40 6 1 peS
theorem okpe : CxOk (Cpe Try.prog) := Cx.addLB_ok okck peX_eq fun _ _ _ _ h hr => peK h hr
theorem plsE0 : exT ((Cpe Try.prog).at 40) 60 Try.f40 [.slice none 0 0] [] [.slot 0] = some (.tuple #[.map none, vI 5], [.no]) := by kernel_rfl
theorem plsE1 (own : Bool) (N : Nat) (ls : List O3) : exT ((Cpe Try.prog).at 40) 60 Try.f40 [.slice (some ⟨0, 0, some 0⟩) N 12] [.rows own true 12 N (opRow ls)] [.fix 0, .slot 0] =
    gd (oT N (opRow ls)) (match chkI (opsOf N (opRow ls)) != 0 with
      | true => some (.tuple #[.map none, vI (chkI (opsOf N (opRow ls)))], [.rows own true 12 N (opRow (opsOf N (opRow ls))), .no])
      | false => gd (lT N (opRow (opsOf N (opRow ls))) N) (some (.tuple #[.map (some 1), vI 0], [.rows own true 12 N (opRow (opsOf N (opRow (opsOf N (opRow ls))))), .mp false 12 (atsL ((opsOf N (opRow (opsOf N (opRow ls)))).drop (0 : Int).toNat) 0 [])]))) := by kernel_rfl
theorem lT_ok {n : Nat} {xs : List O3} (hn : n ≤ 4611686018427387904) : lT n (opRow xs) n = true := by
  unfold lT
  rw [Nat.beq_refl, okOps_opRow]
  simp; omega
def plsF : List Value → Mem → Option (Ans (Value × Mem))
  | [.slice none 0 0], [] => some (.out (.tuple #[.map none, vI 5], [.no]))
  | [.slice (some ⟨0, 0, some 0⟩) N 12], [.rows own true 12 N2 row] => some (.br (Nat.beq N N2 && (okOps N row && decide (N ≤ 4611686018427387904))) (.br (chkI (opsOf N row) != 0) (.out (.tuple #[.map none, vI (chkI (opsOf N row))], [.rows own true 12 N (opRow (opsOf N row)), .no])) (.out (.tuple #[.map (some 1), vI 0], [.rows own true 12 N (opRow (opsOf N row)), .mp false 12 (atsL (opsOf N row) 0 [])]))) .fail)
  | _, _ => none
def Cpls (P : Program) : Cx := (Cpe P).addF 40 plsF
theorem okpls : CxOk (Cpls Try.prog) := Cx.addF_ok okpe fun args m ans v m' h hr => by
  unfold plsF at h
  split at h
  · simp only [Option.some.injEq] at h
    subst h
    simp only [Ans.res, Option.some.injEq, Prod.mk.injEq] at hr
    obtain ⟨rfl, rfl⟩ := hr
    exact exT_ok okpe Try.func40 (by kernel_rfl) plsE0
  · rename_i N own N2 row
    simp only [Option.some.injEq] at h
    subst h
    rcases Ans.br_some hr with ⟨hc, hr1⟩ | ⟨_, hr1⟩
    rotate_left
    · simp [Ans.res] at hr1
    clear hr
    simp only [Bool.and_eq_true, decide_eq_true_eq] at hc
    obtain ⟨c1, c2, c3⟩ := hc
    have c1 := beq_len c1
    subst c1
    have hl := opsOf_length N row
    have hE := plsE1 own N (opsOf N row)
    rw [opsOf_row hl, opsOf_row hl, oT_ok, lT_ok c3] at hE
    simp only [gd_true, Int.toNat_zero, List.drop_zero] at hE
    rcases Ans.br_some hr1 with ⟨hq, hr2⟩ | ⟨hq, hr2⟩
    · rw [hq] at hE
      simp only [Ans.res, Option.some.injEq, Prod.mk.injEq] at hr2
      obtain ⟨rfl, rfl⟩ := hr2
      exact (exT_ok okpe Try.func40 (by kernel_rfl) hE).like ⟨.rows (ops_like c2), trivial⟩
    · rw [hq] at hE
      simp only [Ans.res, Option.some.injEq, Prod.mk.injEq] at hr2
      obtain ⟨rfl, rfl⟩ := hr2
      exact (exT_ok okpe Try.func40 (by kernel_rfl) hE).like ⟨.rows (ops_like c2), trivial⟩
  · cases h
/-! Find -/
def fndV (X : List O3) (o : O3) : Int := bif leastN (chkI X) o.ck == 0 then (bif mHas (key o) (atsL X 0 []) then mGet (key o) (atsL X 0 []) else 0) else 0
def fndE (X : List O3) (o : O3) : Int := bif leastN (chkI X) o.ck == 0 then (bif mHas (key o) (atsL X 0 []) then 0 else 9) else leastN (chkI X) o.ck
def twoI (a b : Int) : Value := .tuple #[vI a, vI b]
theorem fndE0 (o : O3) : exT ((Cpls Try.prog).at 15) 60 Try.f15 [.slice none 0 0, o.v] [] [] = (match leastN 5 o.ck != 0 with
    | true => some (twoI 0 (leastN 5 o.ck), [])
    | false => none) := by kernel_rfl
theorem fndE1 (own : Bool) (N : Nat) (ls : List O3) (o : O3) : exT ((Cpls Try.prog).at 15) 60 Try.f15 [.slice (some ⟨0, 0, some 0⟩) N 12, o.v] [.rows own true 12 N (opRow ls)] [.fix 0] =
    gd (Nat.beq N N && (okOps N (opRow ls) && decide (N ≤ 4611686018427387904))) (match chkI (opsOf N (opRow ls)) != 0 with
      | true => match leastN (chkI (opsOf N (opRow ls))) o.ck != 0 with
        | true => some (twoI 0 (leastN (chkI (opsOf N (opRow ls))) o.ck), [.rows own true 12 N (opRow (opsOf N (opRow ls)))])
        | false => none
      | false => match leastN 0 o.ck != 0 with
        | true => some (twoI 0 (leastN 0 o.ck), [.rows own true 12 N (opRow (opsOf N (opRow ls)))])
        | false => match !(mHas (key o) (atsL (opsOf N (opRow ls)) 0 [])) with
          | true => some (twoI 0 9, [.rows own true 12 N (opRow (opsOf N (opRow ls)))])
          | false => some (twoI (mGet (key o) (atsL (opsOf N (opRow ls)) 0 [])) 0, [.rows own true 12 N (opRow (opsOf N (opRow ls)))])) := by kernel_rfl
end Go.Proofs.Ytcefeamjnnkahaa
