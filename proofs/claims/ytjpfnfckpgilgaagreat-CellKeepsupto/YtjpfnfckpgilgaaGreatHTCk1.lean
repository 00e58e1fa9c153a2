/-
  facetref11.DocKeeps, told. Nothing here is trusted.
-/
import Derived.Test.YtjpfnfckpgilgaaGreatHTCk0
namespace Go.Proofs.YtjpfnfckpgilgaaGreat
open Go Vx Go.RowKit

def dT (n : Nat) (row : Nat → List Value) : Bool := Nat.beq n n && (okOps n row && decide (n ≤ 4611686018427387904))
def Cdn (P : Program) : Cx := (CCck P).lend 63
theorem okdn : CxOk (Cdn Tryz.prog) := Cx.lend_ok okCck _
theorem dT_ok {xs : List O3} (h : (xs.length : Int) ≤ 4000000000000000000) : dT xs.length (opRow xs) = true := by unfold dT; rw [Nat.beq_refl, okOps_opRow]; simp; omega

def dpB (P : Program) : Code := bodyOf P 14
theorem dpB_eq : Tryz.f14.body = some (dpB Tryz.prog) := by kernel_rfl
def dpE (own : Bool) (n : Nat) (xs : List O3) (h : G6) : St := stOf 30 [(1, .slice (some ⟨0, 0, some 0⟩) n 12), (2, .pointer (some ⟨1, 0, none⟩)), (4, .bool false), (5, vI 0)] [.rows own true 12 n (opRow xs), .cells true 0 h.cells]
def dpH (own : Bool) (n : Nat) (xs : List O3) (h : G6) (i : Int) : St := stOf 30 [(2, .pointer (some ⟨1, 0, none⟩)), (4, .bool false), (5, vI 0), (17, .slice (some ⟨0, 0, some 0⟩) n 12), (18, vI n), (19, vI i)] [.rows own true 12 n (opRow xs), .cells true 0 h.cells]
def dpX (own : Bool) (n : Nat) (xs : List O3) (_ : G6) (_ : Int) : St := stOf 30 [(4, .bool false), (5, vI 0)] [.rows own true 12 n (opRow xs)]
def dpZ (own : Bool) (n : Nat) (xs : List O3) (_ : G6) : St := stOf 30 [(4, .bool false), (5, vI 0)] [.rows own true 12 n (opRow xs)]
def dpY (own : Bool) (n : Nat) (xs : List O3) (_ : G6) : St := stOf 30 [(4, .bool true), (5, vI 0)] [.rows own true 12 n (opRow xs)]
theorem dpP (own : Bool) (n : Nat) (xs : List O3) (h : G6) : segR ((Cdn Tryz.prog).into 14 1) 60 2 (dpB Tryz.prog) [1, 2, 4, 5] [.fix 0, .slot 2] (enter Tryz.f14 [h.v, .slice (some ⟨0, 0, some 0⟩) n 12] [.rows own true 12 n (opRow xs)]) = gd (lk n) (gd (dT n (opRow xs)) (gn (kpe (opsOf n (opRow xs)) h != 0) (some (dpE own n xs h)))) := by kernel_rfl
theorem dpFor : isFor 0 (stmt 2 (dpB Tryz.prog)) = true := by kernel_rfl
theorem dpHas : hasStmt 2 (dpB Tryz.prog) = true := by kernel_rfl
theorem dpHd (own : Bool) (n : Nat) (xs : List O3) (h : G6) : roundR ((Cdn Tryz.prog).into 14 1) 60 (forHead (stmt 2 (dpB Tryz.prog))) [2, 4, 5, 17, 18, 19] [2, 4, 5, 17, 18, 19] [.fix 0, .slot 2] [.fix 0, .slot 2] (dpE own n xs h) = some (.normal, dpH own n xs h 0) := by kernel_rfl
theorem dpR (own : Bool) (n : Nat) (xs : List O3) (h : G6) (i : Nat) : roundR ((Cdn Tryz.prog).into 14 1) 60 (forBody (stmt 2 (dpB Tryz.prog))) [2, 4, 5, 17, 18, 19] [4, 5] [.fix 0, .slot 2] [.fix 0] (dpH own n xs h (i : Int)) =
    (match decide ((i : Int) < (n : Int)) with
    | true => gd (boundsI (i : Int) n) (match !(keepR h.mat (atO xs (i : Int)).r) with
      | true => some (.ret, dpX own n xs h (i : Int))
      | false => some (.normal, dpH own n xs h (W ((i : Int) + 1))))
    | false => some (.exit 0, dpZ own n xs h)) := by kernel_rfl
theorem dpEnd (own : Bool) (n : Nat) (xs : List O3) (h : G6) : roundR ((Cdn Tryz.prog).into 14 1) 60 (seqDrop 3 (dpB Tryz.prog)) [4, 5] [4, 5] [.fix 0] [.fix 0] (dpZ own n xs h) = some (.ret, dpY own n xs h) := by kernel_rfl
def dpt (X : List O3) (h : G6) (i : Nat) : Bool := !(keepR h.mat (atO X (i : Int)).r)
set_option maxRecDepth 100000 in
theorem dpIn : InBody ((Cdn Tryz.prog).into 14 1) (forHead (stmt 2 (dpB Tryz.prog))) ∧ InBody ((Cdn Tryz.prog).into 14 1) (forBody (stmt 2 (dpB Tryz.prog))) := for_in (C := Cdn Tryz.prog) (f := 14) (B := 1) (id := 0) (k := 2) (fn := Tryz.f14) (b := dpB Tryz.prog) Tryz.func14 dpB_eq dpFor
theorem dpRX (own : Bool) (xs : List O3) (h : G6) (i : Nat) : (retA Tryz.prog Tryz.f14 (.ret, dpX own xs.length xs h (i : Int))).res.bind (fun vm => (tidyA 1 [.fix 0] vm).res) = some (.tuple #[.bool false, vI 0], [.rows own true 12 xs.length (opRow xs)]) := by kernel_rfl
theorem dpRZ (own : Bool) (xs : List O3) (h : G6) : (retA Tryz.prog Tryz.f14 (.ret, dpY own xs.length xs h)).res.bind (fun vm => (tidyA 1 [.fix 0] vm).res) = some (.tuple #[.bool true, vI 0], [.rows own true 12 xs.length (opRow xs)]) := by kernel_rfl
theorem dpL (own : Bool) (xs : List O3) (h : G6) (hn : (xs.length : Int) ≤ 4000000000000000000) :
    (∀ k, fst? (dpt xs h) xs.length 0 = some k → LoopSem Tryz.prog 1 (forBody (stmt 2 (dpB Tryz.prog))) (dpH own xs.length xs h 0) .ret (dpX own xs.length xs h (k : Int))) ∧ (fst? (dpt xs h) xs.length 0 = none → LoopSem Tryz.prog 1 (forBody (stmt 2 (dpB Tryz.prog))) (dpH own xs.length xs h 0) (.exit 0) (dpZ own xs.length xs h)) := by
  refine scan_loop (C := Cdn Tryz.prog) okdn (f := 14) (B := 1) (m := 60) dpIn.2 (by omega) (fun i => dpH own xs.length xs h i) (dpt xs h) (fun k => dpX own xs.length xs h (k : Int)) 0 (dpZ own xs.length xs h) (mask := [2, 4, 5, 17, 18, 19]) (mout := [4, 5]) (sp := [.fix 0, .slot 2]) (so := [.fix 0]) fun i hi => ?_
  refine (dpR own xs.length xs h i).trans ?_
  unfold dpt
  cases decide ((i : Int) < (xs.length : Int)) <;> cases keepR h.mat (atO xs (i : Int)).r <;> rfl
/-- The answer. -/
theorem dpM (own : Bool) (xs : List O3) (h : G6) (hn : (xs.length : Int) ≤ 4000000000000000000) (hc : (kpe xs h != 0) = false) :
    MemSem Tryz.prog 14 [h.v, .slice (some ⟨0, 0, some 0⟩) xs.length 12] [.rows own true 12 xs.length (opRow xs)] (match fst? (dpt xs h) xs.length 0 with
      | some _ => .tuple #[.bool false, vI 0]
      | none => .tuple #[.bool true, vI 0]) [.rows own true 12 xs.length (opRow xs)] := by
  have r1 := dpP own xs.length xs h
  rw [lk_true, gd_true, dT_ok (by omega), gd_true, opsOf_opRow, hc] at r1
  replace r1 : _ = some _ := r1
  have hl := dpL own xs h hn
  have body0 : InBody ((Cdn Tryz.prog).into 14 1) (dpB Tryz.prog) := Or.inl ⟨Tryz.f14, dpB Tryz.prog, Tryz.func14, dpB_eq, fun _ hx => hx⟩
  have hd := end_rule (C := Cdn Tryz.prog) okdn (f := 14) (B := 1) dpIn.1 (dpHd own xs.length xs h)
  cases hf : fst? (dpt xs h) xs.length 0 with
  | some k =>
    have hx := dpRX own xs h k
    obtain ⟨⟨v1, m1⟩, x1, x2⟩ := Option.bind_eq_some_iff.1 hx
    exact (body_mem (P := Tryz.prog) (f := 14) (m := [.rows own true 12 xs.length (opRow xs)]) Tryz.func14 dpB_eq (by kernel_rfl) (seg_rule (C := Cdn Tryz.prog) okdn (f := 14) (B := 1) (k := 2) body0 r1 (stmt_out dpHas (for_ret dpFor hd (hl.1 k hf)) (by simp))) x1).tidy x2
  | none =>
    have hx := dpRZ own xs h
    obtain ⟨⟨v1, m1⟩, x1, x2⟩ := Option.bind_eq_some_iff.1 hx
    exact (body_mem (P := Tryz.prog) (f := 14) (m := [.rows own true 12 xs.length (opRow xs)]) Tryz.func14 dpB_eq (by kernel_rfl) (seg_rule (C := Cdn Tryz.prog) okdn (f := 14) (B := 1) (k := 2) body0 r1 (stmt_rule dpHas (for_rule dpFor hd (hl.2 hf)) (end_rule (C := Cdn Tryz.prog) okdn (f := 14) (B := 1) (bodyOf_in Tryz.func14 dpB_eq) (dpEnd own xs.length xs h)))) x1).tidy x2

def dp0 (own : Bool) (n : Nat) (xs : List O3) (h : G6) : St := stOf 30 [(1, .slice (some ⟨0, 0, some 0⟩) n 12), (2, .pointer (some ⟨1, 0, none⟩)), (4, .bool false), (5, vI 0)] [.rows own true 12 n (opRow xs), .cells true 0 h.cells]
theorem dpPe (own : Bool) (n : Nat) (xs : List O3) (h : G6) : segR ((Cdn Tryz.prog).into 14 1) 60 1 (dpB Tryz.prog) [1, 2, 4, 5] [.fix 0, .slot 2] (enter Tryz.f14 [h.v, .slice (some ⟨0, 0, some 0⟩) n 12] [.rows own true 12 n (opRow xs)]) = some (dp0 own n xs h) := by kernel_rfl
theorem dpRe (own : Bool) (n : Nat) (xs : List O3) (h : G6) : roundR ((Cdn Tryz.prog).into 14 1) 60 (stmt 1 (dpB Tryz.prog)) [4, 5] [4, 5] [.fix 0] [.fix 0] (dp0 own n xs h) =
    gd (lk n) (gd (dT n (opRow xs)) (match kpe (opsOf n (opRow xs)) h != 0 with
      | true => some (.ret, stOf 30 [(4, .bool false), (5, vI (kpe (opsOf n (opRow xs)) h))] [.rows own true 12 n (opRow xs)])
      | false => some (.normal, stOf 30 [(4, .bool false), (5, vI 0)] [.rows own true 12 n (opRow xs)]))) := by kernel_rfl
theorem dpHe : hasStmt 1 (dpB Tryz.prog) = true := by kernel_rfl
theorem dpQe (own : Bool) (xs : List O3) (e : Int) : (retA Tryz.prog Tryz.f14 (.ret, stOf 30 [(4, .bool false), (5, vI e)] [.rows own true 12 xs.length (opRow xs)])).res = some (.tuple #[.bool false, vI e], [.rows own true 12 xs.length (opRow xs)]) := by kernel_rfl
theorem dpMe (own : Bool) (xs : List O3) (h : G6) (hl : (xs.length : Int) ≤ 4000000000000000000) (hc : (kpe xs h != 0) = true) : MemSem Tryz.prog 14 [h.v, .slice (some ⟨0, 0, some 0⟩) xs.length 12] [.rows own true 12 xs.length (opRow xs)] (.tuple #[.bool false, vI (kpe xs h)]) [.rows own true 12 xs.length (opRow xs)] := by
  have r2 := dpRe own xs.length xs h
  rw [lk_true, gd_true, dT_ok hl, gd_true, opsOf_opRow, hc] at r2
  have body0 : InBody ((Cdn Tryz.prog).into 14 1) (dpB Tryz.prog) := Or.inl ⟨Tryz.f14, dpB Tryz.prog, Tryz.func14, dpB_eq, fun _ hx => hx⟩
  exact body_mem (P := Tryz.prog) (f := 14) (m := [.rows own true 12 xs.length (opRow xs)]) Tryz.func14 dpB_eq (by kernel_rfl) (seg_rule (C := Cdn Tryz.prog) okdn (f := 14) (B := 1) (k := 1) body0 (dpPe own xs.length xs h) (stmt_out dpHe (end_rule (C := Cdn Tryz.prog) okdn (f := 14) (B := 1) (stmt_in Tryz.func14 dpB_eq) r2) (by simp))) (dpQe own xs _)
theorem dpt_kpt (X : List O3) (m : G6) : dpt X m = kpt X m := by
  funext i
  unfold dpt kpt
  rw [keep_same]
theorem dpS (own : Bool) (X : List O3) (m : G6) (hl : (X.length : Int) ≤ 4000000000000000000) : MemSem Tryz.prog 14 [m.v, .slice (some ⟨0, 0, some 0⟩) X.length 12] [.rows own true 12 X.length (opRow X)] (kpV X m) [.rows own true 12 X.length (opRow X)] := by
  unfold kpV kpI
  cases hc : kpe X m != 0 with
  | true => exact dpMe own X m hl hc
  | false =>
    have e : kpe X m = 0 := by simpa using hc
    have := dpM own X m hl hc
    rw [dpt_kpt] at this
    rw [e]
    revert this
    cases fst? (kpt X m) X.length 0 <;> exact fun h => h
theorem dpZ0 (h : G6) : exT ((Cdn Tryz.prog).at 14) 60 Tryz.f14 [h.v, .slice none 0 0] [] [] = (match leastN h.mck 5 != 0 with
    | true => some (.tuple #[.bool false, vI (leastN h.mck 5)], [])
    | false => some (.tuple #[.bool true, vI 0], [])) := by kernel_rfl
def dpF : List Value → Mem → Option (Ans (Value × Mem))
  | [.agg co, .slice none 0 0], [] => match gCells co.toList with
    | some m => some (.out (.tuple #[.bool false, vI (leastN m.mck 5)], []))
    | none => none
  | [.agg co, .slice (some ⟨0, 0, some 0⟩) N 12], [.rows own true 12 N2 row] => match gCells co.toList with
    | some m => some (.br (Nat.beq N N2 && (okOps N row && decide (N ≤ 4000000000000000000))) (.out (kpV (opsOf N row) m, [.rows own true 12 N (opRow (opsOf N row))])) .fail)
    | none => none
  | _, _ => none
theorem dpF_ok : ∀ args m ans v m', dpF args m = some ans → ans.res = some (v, m') → MemSem Tryz.prog 14 args m v m' := by
  intro args m ans v m' h hr
  unfold dpF at h
  split at h
  · rename_i co
    split at h
    · rename_i g hg
      simp only [Option.some.injEq] at h
      subst h
      simp only [Ans.res, Option.some.injEq, Prod.mk.injEq] at hr
      obtain ⟨rfl, rfl⟩ := hr
      have e1 : co = g.cells.toArray := by rw [← gCells_spec hg]
      subst e1
      have := dpZ0 g
      rw [g5] at this
      exact exT_ok okdn Tryz.func14 (by kernel_rfl) this
    · cases h
  · rename_i co N own N2 row
    split at h
    rotate_left
    · cases h
    rename_i g hg
    simp only [Option.some.injEq] at h
    subst h
    rcases Ans.br_some hr with ⟨hc, hr1⟩ | ⟨_, hr1⟩
    rotate_left
    · simp [Ans.res] at hr1
    rw [Bool.and_eq_true, Bool.and_eq_true, decide_eq_true_eq] at hc
    obtain ⟨c1, c2, c3⟩ := hc
    have c1 := beq_len c1
    subst c1
    simp only [Ans.res, Option.some.injEq, Prod.mk.injEq] at hr1
    obtain ⟨rfl, rfl⟩ := hr1
    have e1 : co = g.cells.toArray := by rw [← gCells_spec hg]
    subst e1
    have hl := opsOf_length N row
    have := dpS own (opsOf N row) g (by rw [hl]; omega)
    rw [hl] at this
    exact this.like ⟨.rows (ops_like c2), trivial⟩
  · cases h
/-! The law -/
def Cka (P : Program) : Cx := ((((CCck P).addE 14 dpF).lend 15).addI 52).addI 156
theorem okka : CxOk (Cka Tryz.prog) := Cx.addI_ok (Cx.addI_ok (Cx.lend_ok (Cx.addE_ok okCck dpF_ok) _) (by kernel_rfl)) (by kernel_rfl)
theorem cawE : exFun ((Cka Tryz.prog).at 11) 400 Tryz.f11 (pack [] []) = some (.bool true) := by kernel_rfl
def Fcaw : List Int → Option Value
  | [] => some (.bool true)
  | _ => none
def Ckb (P : Program) : Cx := (Cka P).add 11 [] Fcaw
theorem okkb : CxOk (Ckb Tryz.prog) := Cx.add_ok okka (n := 400) Tryz.func11 (by kernel_rfl) fun l v hl h => by
  match l, hl, h with
  | [], _, hh => rw [cawE]; exact hh
def Ckt (P : Program) (p : List Bool) : Cx := (Ckb P).makes 12 p
theorem okkt (p : List Bool) : CxOk (Ckt Tryz.prog p) := Cx.makes_ok okkb _ _
def o9 : O3 := ⟨M3.zero, ⟨9, 9, 9⟩⟩
def rT (q : Nat) : Bool := Nat.beq q q && (decide ((q + 1) * 96 ≤ 2 ^ 47) && decide (q + 1 ≤ 2 ^ 62))
def ckB (P : Program) : Code := bodyOf P 3
theorem ckB_eq : Tryz.f3.body = some (ckB Tryz.prog) := by kernel_rfl
def ckS (own : Bool) (n : Nat) (xs : List O3) (h : G6) (l : Nat) (r : Nat → List Value) : St := stOf 59 [(1, .slice (some ⟨0, 0, some 0⟩) n 12), (2, .pointer (some ⟨1, 0, none⟩)), (4, .bool false), (5, .slice (some ⟨2, 0, some 0⟩) l 12)] [.rows own true 12 n (opRow xs), .cells true 0 h.cells, .rows true true 12 l r]
theorem ckP1 (own : Bool) (n : Nat) (xs : List O3) (h : G6) : segR ((Ckt Tryz.prog [true, false]).into 3 1) 60 3 (ckB Tryz.prog) [1, 2, 4, 5] [.fix 0, .slot 2, .slot 5] (enter Tryz.f3 [h.v, .slice (some ⟨0, 0, some 0⟩) n 12] [.rows own true 12 n (opRow xs)]) = gd (lk n) (gd (twT n (opRow xs)) (gn (Nat.beq n 0) (gd (rT n) (some (ckS own n xs h (n + 1) (catR n (opRow (opsOf n (opRow xs))) (chop 12 0 o9.cells))))))) := by kernel_rfl
theorem ckP0 (own : Bool) (n : Nat) (xs : List O3) (h : G6) : segR ((Ckt Tryz.prog [true, true]).into 3 1) 60 3 (ckB Tryz.prog) [1, 2, 4, 5] [.fix 0, .slot 2, .slot 5] (enter Tryz.f3 [h.v, .slice (some ⟨0, 0, some 0⟩) n 12] [.rows own true 12 n (opRow xs)]) = gd (lk n) (gd (twT n (opRow xs)) (gd (Nat.beq n 0) (some (ckS own n xs h 1 (chop 12 0 o9.cells))))) := by kernel_rfl
end Go.Proofs.YtjpfnfckpgilgaaGreat
