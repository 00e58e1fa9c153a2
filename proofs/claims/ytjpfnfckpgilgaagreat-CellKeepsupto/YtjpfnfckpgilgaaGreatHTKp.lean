/-
  cell.Keeps, told. Nothing here is trusted.
-/
import Derived.Test.YtjpfnfckpgilgaaGreatHTCelm
import Derived.Test.YtjpfnfckpgilgaaGreatKak
import Derived.Test.YtjpfnfckpgilgaaGreatKaj
namespace Go.Proofs.YtjpfnfckpgilgaaGreat
open Go Vx Go.RowKit

def Vx.G6.cells (m : G6) : List Value := [.int .i64 m.aa, .int .i64 m.bb, .int .i64 m.cc, .int .i64 m.bc, .int .i64 m.ac, .int .i64 m.ab]
def gCells : List Value → Option G6
  | [.int .i64 a, .int .i64 b, .int .i64 c, .int .i64 e, .int .i64 f, .int .i64 g] => some ⟨a, b, c, e, f, g⟩
  | _ => none
theorem gCells_spec {l : List Value} {m : G6} (h : gCells l = some m) : l = m.cells := by
  unfold gCells at h
  split at h
  · simp only [Option.some.injEq] at h
    subst h; rfl
  · cases h
def kpe (X : List O3) (m : G6) : Int := leastN m.mck (chkI X)
def kmT (n : Nat) (row : Nat → List Value) : Bool := Nat.beq n n && okOps n row

def kpB (P : Program) : Code := bodyOf P 13
theorem kpB_eq : Tryz.f13.body = some (kpB Tryz.prog) := by kernel_rfl
def kpE (own : Bool) (n : Nat) (xs : List O3) (h : G6) : St := stOf 31 [(1, .slice (some ⟨0, 0, some 0⟩) n 12), (2, .pointer (some ⟨1, 0, none⟩)), (4, .bool false), (5, vI 0)] [.rows own true 12 n (opRow xs), .cells true 0 h.cells]
def kpH (own : Bool) (n : Nat) (xs : List O3) (h : G6) (i : Int) : St := stOf 31 [(2, .pointer (some ⟨1, 0, none⟩)), (4, .bool false), (5, vI 0), (18, .slice (some ⟨0, 0, some 0⟩) n 12), (19, vI n), (20, vI i)] [.rows own true 12 n (opRow xs), .cells true 0 h.cells]
def kpX (own : Bool) (n : Nat) (xs : List O3) (_ : G6) (_ : Int) : St := stOf 31 [(4, .bool false), (5, vI 0)] [.rows own true 12 n (opRow xs)]
def kpZ (own : Bool) (n : Nat) (xs : List O3) (_ : G6) : St := stOf 31 [(4, .bool false), (5, vI 0)] [.rows own true 12 n (opRow xs)]
def kpY (own : Bool) (n : Nat) (xs : List O3) (_ : G6) : St := stOf 31 [(4, .bool true), (5, vI 0)] [.rows own true 12 n (opRow xs)]
theorem kpP (own : Bool) (n : Nat) (xs : List O3) (h : G6) : segR ((CCcm Tryz.prog).into 13 1) 60 2 (kpB Tryz.prog) [1, 2, 4, 5] [.fix 0, .slot 2] (enter Tryz.f13 [h.v, .slice (some ⟨0, 0, some 0⟩) n 12] [.rows own true 12 n (opRow xs)]) = gd (lk n) (gd (oT n (opRow xs)) (gn (kpe (opsOf n (opRow xs)) h != 0) (some (kpE own n xs h)))) := by kernel_rfl
theorem kpFor : isFor 0 (stmt 2 (kpB Tryz.prog)) = true := by kernel_rfl
theorem kpHas : hasStmt 2 (kpB Tryz.prog) = true := by kernel_rfl
theorem kpHd (own : Bool) (n : Nat) (xs : List O3) (h : G6) : roundR ((CCcm Tryz.prog).into 13 1) 60 (forHead (stmt 2 (kpB Tryz.prog))) [2, 4, 5, 18, 19, 20] [2, 4, 5, 18, 19, 20] [.fix 0, .slot 2] [.fix 0, .slot 2] (kpE own n xs h) = some (.normal, kpH own n xs h 0) := by kernel_rfl
theorem kpR (own : Bool) (n : Nat) (xs : List O3) (h : G6) (i : Nat) : roundR ((CCcm Tryz.prog).into 13 1) 60 (forBody (stmt 2 (kpB Tryz.prog))) [2, 4, 5, 18, 19, 20] [4, 5] [.fix 0, .slot 2] [.fix 0] (kpH own n xs h (i : Int)) =
    (match decide ((i : Int) < (n : Int)) with
    | true => gd (boundsI (i : Int) n) (match !((h.turn (atO xs (i : Int)).r).w.eqB h) with
      | true => some (.ret, kpX own n xs h (i : Int))
      | false => some (.normal, kpH own n xs h (W ((i : Int) + 1))))
    | false => some (.exit 0, kpZ own n xs h)) := by kernel_rfl
theorem kpEnd (own : Bool) (n : Nat) (xs : List O3) (h : G6) : roundR ((CCcm Tryz.prog).into 13 1) 60 (seqDrop 3 (kpB Tryz.prog)) [4, 5] [4, 5] [.fix 0] [.fix 0] (kpZ own n xs h) = some (.ret, kpY own n xs h) := by kernel_rfl
def kpt (X : List O3) (h : G6) (i : Nat) : Bool := !((h.turn (atO X (i : Int)).r).w.eqB h)
set_option maxRecDepth 100000 in
theorem kpIn : InBody ((CCcm Tryz.prog).into 13 1) (forHead (stmt 2 (kpB Tryz.prog))) ∧ InBody ((CCcm Tryz.prog).into 13 1) (forBody (stmt 2 (kpB Tryz.prog))) := for_in (C := CCcm Tryz.prog) (f := 13) (B := 1) (id := 0) (k := 2) (fn := Tryz.f13) (b := kpB Tryz.prog) Tryz.func13 kpB_eq kpFor
theorem kpRX (own : Bool) (xs : List O3) (h : G6) (i : Nat) : (retA Tryz.prog Tryz.f13 (.ret, kpX own xs.length xs h (i : Int))).res.bind (fun vm => (tidyA 1 [.fix 0] vm).res) = some (.tuple #[.bool false, vI 0], [.rows own true 12 xs.length (opRow xs)]) := by kernel_rfl
theorem kpRZ (own : Bool) (xs : List O3) (h : G6) : (retA Tryz.prog Tryz.f13 (.ret, kpY own xs.length xs h)).res.bind (fun vm => (tidyA 1 [.fix 0] vm).res) = some (.tuple #[.bool true, vI 0], [.rows own true 12 xs.length (opRow xs)]) := by kernel_rfl
theorem kpL (own : Bool) (xs : List O3) (h : G6) (hn : (xs.length : Int) ≤ 9000000000000000000) :
    (∀ k, fst? (kpt xs h) xs.length 0 = some k → LoopSem Tryz.prog 1 (forBody (stmt 2 (kpB Tryz.prog))) (kpH own xs.length xs h 0) .ret (kpX own xs.length xs h (k : Int))) ∧ (fst? (kpt xs h) xs.length 0 = none → LoopSem Tryz.prog 1 (forBody (stmt 2 (kpB Tryz.prog))) (kpH own xs.length xs h 0) (.exit 0) (kpZ own xs.length xs h)) := by
  refine scan_loop (C := CCcm Tryz.prog) okCcm (f := 13) (B := 1) (m := 60) kpIn.2 hn (fun i => kpH own xs.length xs h i) (kpt xs h) (fun k => kpX own xs.length xs h (k : Int)) 0 (kpZ own xs.length xs h) (mask := [2, 4, 5, 18, 19, 20]) (mout := [4, 5]) (sp := [.fix 0, .slot 2]) (so := [.fix 0]) fun i hi => ?_
  refine (kpR own xs.length xs h i).trans ?_
  unfold kpt
  cases decide ((i : Int) < (xs.length : Int)) <;> cases (h.turn (atO xs (i : Int)).r).w.eqB h <;> rfl
/-- The answer. -/
theorem kpM (own : Bool) (xs : List O3) (h : G6) (hn : (xs.length : Int) ≤ 9000000000000000000) (hc : (kpe xs h != 0) = false) :
    MemSem Tryz.prog 13 [h.v, .slice (some ⟨0, 0, some 0⟩) xs.length 12] [.rows own true 12 xs.length (opRow xs)] (match fst? (kpt xs h) xs.length 0 with
      | some _ => .tuple #[.bool false, vI 0]
      | none => .tuple #[.bool true, vI 0]) [.rows own true 12 xs.length (opRow xs)] := by
  have r1 := kpP own xs.length xs h
  rw [lk_true, gd_true, oT_ok, gd_true, opsOf_opRow, hc] at r1
  replace r1 : _ = some _ := r1
  have hl := kpL own xs h hn
  have body0 : InBody ((CCcm Tryz.prog).into 13 1) (kpB Tryz.prog) := Or.inl ⟨Tryz.f13, kpB Tryz.prog, Tryz.func13, kpB_eq, fun _ hx => hx⟩
  have hd := end_rule (C := CCcm Tryz.prog) okCcm (f := 13) (B := 1) kpIn.1 (kpHd own xs.length xs h)
  cases hf : fst? (kpt xs h) xs.length 0 with
  | some k =>
    have hx := kpRX own xs h k
    obtain ⟨⟨v1, m1⟩, x1, x2⟩ := Option.bind_eq_some_iff.1 hx
    exact (body_mem (P := Tryz.prog) (f := 13) (m := [.rows own true 12 xs.length (opRow xs)]) Tryz.func13 kpB_eq (by kernel_rfl) (seg_rule (C := CCcm Tryz.prog) okCcm (f := 13) (B := 1) (k := 2) body0 r1 (stmt_out kpHas (for_ret kpFor hd (hl.1 k hf)) (by simp))) x1).tidy x2
  | none =>
    have hx := kpRZ own xs h
    obtain ⟨⟨v1, m1⟩, x1, x2⟩ := Option.bind_eq_some_iff.1 hx
    exact (body_mem (P := Tryz.prog) (f := 13) (m := [.rows own true 12 xs.length (opRow xs)]) Tryz.func13 kpB_eq (by kernel_rfl) (seg_rule (C := CCcm Tryz.prog) okCcm (f := 13) (B := 1) (k := 2) body0 r1 (stmt_rule kpHas (for_rule kpFor hd (hl.2 hf)) (end_rule (C := CCcm Tryz.prog) okCcm (f := 13) (B := 1) (bodyOf_in Tryz.func13 kpB_eq) (kpEnd own xs.length xs h)))) x1).tidy x2

def kp0 (own : Bool) (n : Nat) (xs : List O3) (h : G6) : St := stOf 31 [(1, .slice (some ⟨0, 0, some 0⟩) n 12), (2, .pointer (some ⟨1, 0, none⟩)), (4, .bool false), (5, vI 0)] [.rows own true 12 n (opRow xs), .cells true 0 h.cells]
theorem kpPe (own : Bool) (n : Nat) (xs : List O3) (h : G6) : segR ((CCcm Tryz.prog).into 13 1) 60 1 (kpB Tryz.prog) [1, 2, 4, 5] [.fix 0, .slot 2] (enter Tryz.f13 [h.v, .slice (some ⟨0, 0, some 0⟩) n 12] [.rows own true 12 n (opRow xs)]) = some (kp0 own n xs h) := by kernel_rfl
theorem kpRe (own : Bool) (n : Nat) (xs : List O3) (h : G6) : roundR ((CCcm Tryz.prog).into 13 1) 60 (stmt 1 (kpB Tryz.prog)) [4, 5] [4, 5] [.fix 0] [.fix 0] (kp0 own n xs h) =
    gd (lk n) (gd (oT n (opRow xs)) (match kpe (opsOf n (opRow xs)) h != 0 with
      | true => some (.ret, stOf 31 [(4, .bool false), (5, vI (kpe (opsOf n (opRow xs)) h))] [.rows own true 12 n (opRow xs)])
      | false => some (.normal, stOf 31 [(4, .bool false), (5, vI 0)] [.rows own true 12 n (opRow xs)]))) := by kernel_rfl
theorem kpHe : hasStmt 1 (kpB Tryz.prog) = true := by kernel_rfl
theorem kpQe (own : Bool) (xs : List O3) (e : Int) : (retA Tryz.prog Tryz.f13 (.ret, stOf 31 [(4, .bool false), (5, vI e)] [.rows own true 12 xs.length (opRow xs)])).res = some (.tuple #[.bool false, vI e], [.rows own true 12 xs.length (opRow xs)]) := by kernel_rfl
theorem kpMe (own : Bool) (xs : List O3) (h : G6) (hc : (kpe xs h != 0) = true) : MemSem Tryz.prog 13 [h.v, .slice (some ⟨0, 0, some 0⟩) xs.length 12] [.rows own true 12 xs.length (opRow xs)] (.tuple #[.bool false, vI (kpe xs h)]) [.rows own true 12 xs.length (opRow xs)] := by
  have r2 := kpRe own xs.length xs h
  rw [lk_true, gd_true, oT_ok, gd_true, opsOf_opRow, hc] at r2
  have body0 : InBody ((CCcm Tryz.prog).into 13 1) (kpB Tryz.prog) := Or.inl ⟨Tryz.f13, kpB Tryz.prog, Tryz.func13, kpB_eq, fun _ hx => hx⟩
  exact body_mem (P := Tryz.prog) (f := 13) (m := [.rows own true 12 xs.length (opRow xs)]) Tryz.func13 kpB_eq (by kernel_rfl) (seg_rule (C := CCcm Tryz.prog) okCcm (f := 13) (B := 1) (k := 1) body0 (kpPe own xs.length xs h) (stmt_out kpHe (end_rule (C := CCcm Tryz.prog) okCcm (f := 13) (B := 1) (stmt_in Tryz.func13 kpB_eq) r2) (by simp))) (kpQe own xs _)
theorem kpZ0 (h : G6) : exT ((CCcm Tryz.prog).at 13) 60 Tryz.f13 [h.v, .slice none 0 0] [] [] = (match leastN h.mck 5 != 0 with
    | true => some (.tuple #[.bool false, vI (leastN h.mck 5)], [])
    | false => some (.tuple #[.bool true, vI 0], [])) := by kernel_rfl
/-- Do all maps keep the metric? -/
def kpI (X : List O3) (m : G6) : Bool := match kpe X m != 0 with
  | true => false
  | false => match fst? (kpt X m) X.length 0 with
    | some _ => false
    | none => true
def kpV (X : List O3) (m : G6) : Value := .tuple #[.bool (kpI X m), vI (kpe X m)]
theorem kpS (own : Bool) (X : List O3) (m : G6) : MemSem Tryz.prog 13 [m.v, .slice (some ⟨0, 0, some 0⟩) X.length 12] [.rows own true 12 X.length (opRow X)] (kpV X m) [.rows own true 12 X.length (opRow X)] := by
  unfold kpV kpI
  cases hc : kpe X m != 0 with
  | true => exact kpMe own X m hc
  | false =>
    have e : kpe X m = 0 := by simpa using hc
    have hl : (X.length : Int) ≤ 9000000000000000000 := by
      have := (chk_grp (leastN_zero.1 e).2).2.2
      omega
    have := kpM own X m hl hc
    rw [e]
    revert this
    cases fst? (kpt X m) X.length 0 <;> exact fun h => h
theorem g5 (m : G6) : (leastN m.mck 5 != 0) = true := by rcases m.mck_cases with e | e | e <;> rw [e] <;> rfl
def kpF : List Value → Mem → Option (Ans (Value × Mem))
  | [.agg co, .slice none 0 0], [] => match gCells co.toList with
    | some m => some (.out (.tuple #[.bool false, vI (leastN m.mck 5)], []))
    | none => none
  | [.agg co, .slice (some ⟨0, 0, some 0⟩) N 12], [.rows own true 12 N2 row] => match gCells co.toList with
    | some m => some (.br (Nat.beq N N2 && okOps N row) (.out (kpV (opsOf N row) m, [.rows own true 12 N (opRow (opsOf N row))])) .fail)
    | none => none
  | _, _ => none
theorem kpF_ok : ∀ args m ans v m', kpF args m = some ans → ans.res = some (v, m') → MemSem Tryz.prog 13 args m v m' := by
  intro args m ans v m' h hr
  unfold kpF at h
  split at h
  · rename_i co
    split at h
    · rename_i g hg
      simp only [Option.some.injEq] at h
      subst h
      simp only [Ans.res, Option.some.injEq, Prod.mk.injEq] at hr
      obtain ⟨rfl, rfl⟩ := hr
      have e1 : co = g.cells.toArray := by rw [← gCells_spec hg]
      subst e1
      have := kpZ0 g
      rw [g5] at this
      exact exT_ok okCcm Tryz.func13 (by kernel_rfl) this
    · cases h
  · rename_i co N own N2 row
    split at h
    rotate_left
    · cases h
    rename_i g hg
    simp only [Option.some.injEq] at h
    subst h
    rcases Ans.br_some hr with ⟨hc, hr1⟩ | ⟨_, hr1⟩
    rotate_left
    · simp [Ans.res] at hr1
    rw [Bool.and_eq_true] at hc
    obtain ⟨c1, c2⟩ := hc
    have c1 := beq_len c1
    subst c1
    simp only [Ans.res, Option.some.injEq, Prod.mk.injEq] at hr1
    obtain ⟨rfl, rfl⟩ := hr1
    have e1 : co = g.cells.toArray := by rw [← gCells_spec hg]
    subst e1
    have := kpS own (opsOf N row) g
    rw [opsOf_length] at this
    exact this.like ⟨.rows (ops_like c2), trivial⟩
  · cases h
def Ckp (P : Program) : Cx := (CCcm P).addE 13 kpF
theorem okkp : CxOk (Ckp Tryz.prog) := Cx.addE_ok okCcm kpF_ok
end Go.Proofs.YtjpfnfckpgilgaaGreat
