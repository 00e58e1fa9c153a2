/-
  absent.Centric and facetref14.DocCentric, told. Nothing here is trusted.
-/
import Derived.Test.YtjpfnfckpgilgaaKak
import Derived.Test.YtjpfnfckpgilgaaKaf
import Derived.Test.YtjpfnfckpgilgaaRows
import Derived.OpenShut

namespace Go.Proofs.Ytjpfnfckpgilgaa
open Go Vx Go.RowKit
def oppW (h : V3) : V3 := ⟨W (0 - h.x), W (0 - h.y), W (0 - h.z)⟩

def ceB (P : Program) : Code := bodyOf P 24
theorem ceB_eq : Try.f24.body = some (ceB Try.prog) := by kernel_rfl
def ceE (own : Bool) (n : Nat) (xs : List O3) (h : V3) : St := stOf 49 [(0, .slice (some ⟨0, 0, some 0⟩) n 12), (3, .pointer (some ⟨1, 0, none⟩)), (4, vI 0), (5, .bool false), (6, vI 0), (8, .pointer (some ⟨2, 0, none⟩))] [.rows own true 12 n (opRow xs), .cells true 0 h.cells, .cells true 0 (oppW h).cells]
def ceH (own : Bool) (n : Nat) (xs : List O3) (h : V3) (i : Int) : St := stOf 49 [(3, .pointer (some ⟨1, 0, none⟩)), (4, vI 0), (5, .bool false), (6, vI 0), (8, .pointer (some ⟨2, 0, none⟩)), (29, .slice (some ⟨0, 0, some 0⟩) n 12), (30, vI n), (31, vI i)] [.rows own true 12 n (opRow xs), .cells true 0 h.cells, .cells true 0 (oppW h).cells]
def ceX (own : Bool) (n : Nat) (xs : List O3) (h : V3) (i : Int) : St := stOf 49 [(4, vI (phV (atO xs i) h)), (5, .bool true), (6, vI 0)] [.rows own true 12 n (opRow xs)]
def ceZ (own : Bool) (n : Nat) (xs : List O3) (_ : V3) : St := stOf 49 [(4, vI 0), (5, .bool false), (6, vI 0)] [.rows own true 12 n (opRow xs)]
def ceY (own : Bool) (n : Nat) (xs : List O3) (_ : V3) : St := stOf 49 [(4, vI 0), (5, .bool false), (6, vI 0)] [.rows own true 12 n (opRow xs)]
theorem ceP (own : Bool) (n : Nat) (xs : List O3) (h : V3) : segR ((Can Try.prog).into 24 1) 60 3 (ceB Try.prog) [0, 3, 4, 5, 6, 8] [.fix 0, .slot 3, .slot 8] (enter Try.f24 [.slice (some ⟨0, 0, some 0⟩) n 12, h.v] [.rows own true 12 n (opRow xs)]) = gd (lk n) (gd (ghT alwB n (opRow xs) h) (gn (acI (opsOf n (opRow xs)) h != 0) (some (ceE own n xs h)))) := by kernel_rfl
theorem ceFor : isFor 0 (stmt 3 (ceB Try.prog)) = true := by kernel_rfl
theorem ceHas : hasStmt 3 (ceB Try.prog) = true := by kernel_rfl
theorem ceHd (own : Bool) (n : Nat) (xs : List O3) (h : V3) : roundR ((Can Try.prog).into 24 1) 60 (forHead (stmt 3 (ceB Try.prog))) [3, 4, 5, 6, 8, 29, 30, 31] [3, 4, 5, 6, 8, 29, 30, 31] [.fix 0, .slot 3, .slot 8] [.fix 0, .slot 3, .slot 8] (ceE own n xs h) = some (.normal, ceH own n xs h 0) := by kernel_rfl
theorem ceR (own : Bool) (n : Nat) (xs : List O3) (h : V3) (i : Nat) : roundR ((Can Try.prog).into 24 1) 60 (forBody (stmt 3 (ceB Try.prog))) [3, 4, 5, 6, 8, 29, 30, 31] [4, 5, 6] [.fix 0, .slot 3, .slot 8] [.fix 0] (ceH own n xs h (i : Int)) =
    (match decide ((i : Int) < (n : Int)) with
    | true => gd (boundsI (i : Int) n) (match (rowI h (atO xs (i : Int)).r).eqB (oppW h) with
      | true => some (.ret, ceX own n xs h (i : Int))
      | false => some (.normal, ceH own n xs h (W ((i : Int) + 1))))
    | false => some (.exit 0, ceZ own n xs h)) := by kernel_rfl
theorem ceEnd (own : Bool) (n : Nat) (xs : List O3) (h : V3) : roundR ((Can Try.prog).into 24 1) 60 (seqDrop 4 (ceB Try.prog)) [4, 5, 6] [4, 5, 6] [.fix 0] [.fix 0] (ceZ own n xs h) = some (.ret, ceY own n xs h) := by kernel_rfl
def cet (X : List O3) (h : V3) (i : Nat) : Bool := (rowI h (atO X (i : Int)).r).eqB (oppW h)
set_option maxRecDepth 100000 in
theorem ceIn : InBody ((Can Try.prog).into 24 1) (forHead (stmt 3 (ceB Try.prog))) ∧ InBody ((Can Try.prog).into 24 1) (forBody (stmt 3 (ceB Try.prog))) := for_in (C := Can Try.prog) (f := 24) (B := 1) (id := 0) (k := 3) (fn := Try.f24) (b := ceB Try.prog) Try.func24 ceB_eq ceFor
theorem ceRX (own : Bool) (xs : List O3) (h : V3) (i : Nat) : (retA Try.prog Try.f24 (.ret, ceX own xs.length xs h (i : Int))).res.bind (fun vm => (tidyA 1 [.fix 0] vm).res) = some (.tuple #[vI (phV (atO xs (i : Int)) h), .bool true, vI 0], [.rows own true 12 xs.length (opRow xs)]) := by kernel_rfl
theorem ceRZ (own : Bool) (xs : List O3) (h : V3) : (retA Try.prog Try.f24 (.ret, ceY own xs.length xs h)).res.bind (fun vm => (tidyA 1 [.fix 0] vm).res) = some (.tuple #[vI 0, .bool false, vI 0], [.rows own true 12 xs.length (opRow xs)]) := by kernel_rfl
theorem ceL (own : Bool) (xs : List O3) (h : V3) (hn : (xs.length : Int) ≤ 9000000000000000000) :
    (∀ k, fst? (cet xs h) xs.length 0 = some k → LoopSem Try.prog 1 (forBody (stmt 3 (ceB Try.prog))) (ceH own xs.length xs h 0) .ret (ceX own xs.length xs h (k : Int))) ∧ (fst? (cet xs h) xs.length 0 = none → LoopSem Try.prog 1 (forBody (stmt 3 (ceB Try.prog))) (ceH own xs.length xs h 0) (.exit 0) (ceZ own xs.length xs h)) := by
  refine scan_loop (C := Can Try.prog) okan (f := 24) (B := 1) (m := 60) ceIn.2 hn (fun i => ceH own xs.length xs h i) (cet xs h) (fun k => ceX own xs.length xs h (k : Int)) 0 (ceZ own xs.length xs h) (mask := [3, 4, 5, 6, 8, 29, 30, 31]) (mout := [4, 5, 6]) (sp := [.fix 0, .slot 3, .slot 8]) (so := [.fix 0]) fun i hi => ?_
  refine (ceR own xs.length xs h i).trans ?_
  unfold cet
  cases decide ((i : Int) < (xs.length : Int)) <;> cases (rowI h (atO xs (i : Int)).r).eqB (oppW h) <;> rfl
/-- The answer. -/
theorem ceM (own : Bool) (xs : List O3) (h : V3) (hn : (xs.length : Int) ≤ 9000000000000000000) (hc : (acI xs h != 0) = false) :
    MemSem Try.prog 24 [.slice (some ⟨0, 0, some 0⟩) xs.length 12, h.v] [.rows own true 12 xs.length (opRow xs)] (match fst? (cet xs h) xs.length 0 with
      | some i => .tuple #[vI (phV (atO xs (i : Int)) h), .bool true, vI 0]
      | none => .tuple #[vI 0, .bool false, vI 0]) [.rows own true 12 xs.length (opRow xs)] := by
  have r1 := ceP own xs.length xs h
  rw [lk_true, gd_true, ghT_ok (show alwB xs h = true from rfl), gd_true, opsOf_opRow, hc] at r1
  replace r1 : _ = some _ := r1
  have hl := ceL own xs h hn
  have body0 : InBody ((Can Try.prog).into 24 1) (ceB Try.prog) := Or.inl ⟨Try.f24, ceB Try.prog, Try.func24, ceB_eq, fun _ hx => hx⟩
  have hd := end_rule (C := Can Try.prog) okan (f := 24) (B := 1) ceIn.1 (ceHd own xs.length xs h)
  cases hf : fst? (cet xs h) xs.length 0 with
  | some k =>
    have hx := ceRX own xs h k
    obtain ⟨⟨v1, m1⟩, x1, x2⟩ := Option.bind_eq_some_iff.1 hx
    exact (body_mem (P := Try.prog) (f := 24) (m := [.rows own true 12 xs.length (opRow xs)]) Try.func24 ceB_eq (by kernel_rfl) (seg_rule (C := Can Try.prog) okan (f := 24) (B := 1) (k := 3) body0 r1 (stmt_out ceHas (for_ret ceFor hd (hl.1 k hf)) (by simp))) x1).tidy x2
  | none =>
    have hx := ceRZ own xs h
    obtain ⟨⟨v1, m1⟩, x1, x2⟩ := Option.bind_eq_some_iff.1 hx
    exact (body_mem (P := Try.prog) (f := 24) (m := [.rows own true 12 xs.length (opRow xs)]) Try.func24 ceB_eq (by kernel_rfl) (seg_rule (C := Can Try.prog) okan (f := 24) (B := 1) (k := 3) body0 r1 (stmt_rule ceHas (for_rule ceFor hd (hl.2 hf)) (end_rule (C := Can Try.prog) okan (f := 24) (B := 1) (bodyOf_in Try.func24 ceB_eq) (ceEnd own xs.length xs h)))) x1).tidy x2

def deB (P : Program) : Code := bodyOf P 25
theorem deB_eq : Try.f25.body = some (deB Try.prog) := by kernel_rfl
def deE (own : Bool) (n : Nat) (xs : List O3) (h : V3) : St := stOf 52 [(0, .slice (some ⟨0, 0, some 0⟩) n 12), (3, .pointer (some ⟨1, 0, none⟩)), (4, vI 0), (5, .bool false), (6, vI 0)] [.rows own true 12 n (opRow xs), .cells true 0 h.cells]
def deH (own : Bool) (n : Nat) (xs : List O3) (h : V3) (i : Int) : St := stOf 52 [(3, .pointer (some ⟨1, 0, none⟩)), (4, vI 0), (5, .bool false), (6, vI 0), (17, .slice (some ⟨0, 0, some 0⟩) n 12), (18, vI n), (19, vI i)] [.rows own true 12 n (opRow xs), .cells true 0 h.cells]
def deX (own : Bool) (n : Nat) (xs : List O3) (h : V3) (i : Int) : St := stOf 52 [(4, vI (phI (atO xs i) h)), (5, .bool true), (6, vI 0)] [.rows own true 12 n (opRow xs)]
def deZ (own : Bool) (n : Nat) (xs : List O3) (_ : V3) : St := stOf 52 [(4, vI 0), (5, .bool false), (6, vI 0)] [.rows own true 12 n (opRow xs)]
def deY (own : Bool) (n : Nat) (xs : List O3) (_ : V3) : St := stOf 52 [(4, vI 0), (5, .bool false), (6, vI 0)] [.rows own true 12 n (opRow xs)]
theorem deP (own : Bool) (n : Nat) (xs : List O3) (h : V3) : segR ((Can Try.prog).into 25 1) 60 3 (deB Try.prog) [0, 3, 4, 5, 6] [.fix 0, .slot 3] (enter Try.f25 [.slice (some ⟨0, 0, some 0⟩) n 12, h.v] [.rows own true 12 n (opRow xs)]) = gd (lk n) (gd (ghT alwB n (opRow xs) h) (gn (rcI (opsOf n (opRow xs)) h != 0) (some (deE own n xs h)))) := by kernel_rfl
theorem deFor : isFor 0 (stmt 3 (deB Try.prog)) = true := by kernel_rfl
theorem deHas : hasStmt 3 (deB Try.prog) = true := by kernel_rfl
theorem deHd (own : Bool) (n : Nat) (xs : List O3) (h : V3) : roundR ((Can Try.prog).into 25 1) 60 (forHead (stmt 3 (deB Try.prog))) [3, 4, 5, 6, 17, 18, 19] [3, 4, 5, 6, 17, 18, 19] [.fix 0, .slot 3] [.fix 0, .slot 3] (deE own n xs h) = some (.normal, deH own n xs h 0) := by kernel_rfl
theorem deR (own : Bool) (n : Nat) (xs : List O3) (h : V3) (i : Nat) : roundR ((Can Try.prog).into 25 1) 60 (forBody (stmt 3 (deB Try.prog))) [3, 4, 5, 6, 17, 18, 19] [4, 5, 6] [.fix 0, .slot 3] [.fix 0] (deH own n xs h (i : Int)) =
    (match decide ((i : Int) < (n : Int)) with
    | true => gd (boundsI (i : Int) n) (match (rowI h (atO xs (i : Int)).r).x == (oppW h).x with
      | true => match (rowI h (atO xs (i : Int)).r).y == (oppW h).y with
        | true => match (rowI h (atO xs (i : Int)).r).z == (oppW h).z with
          | true => some (.ret, deX own n xs h (i : Int))
          | false => some (.normal, deH own n xs h (W ((i : Int) + 1)))
        | false => some (.normal, deH own n xs h (W ((i : Int) + 1)))
      | false => some (.normal, deH own n xs h (W ((i : Int) + 1))))
    | false => some (.exit 0, deZ own n xs h)) := by kernel_rfl
theorem deEnd (own : Bool) (n : Nat) (xs : List O3) (h : V3) : roundR ((Can Try.prog).into 25 1) 60 (seqDrop 4 (deB Try.prog)) [4, 5, 6] [4, 5, 6] [.fix 0] [.fix 0] (deZ own n xs h) = some (.ret, deY own n xs h) := by kernel_rfl
def det (X : List O3) (h : V3) (i : Nat) : Bool := (rowI h (atO X (i : Int)).r).eqB (oppW h)
set_option maxRecDepth 100000 in
theorem deIn : InBody ((Can Try.prog).into 25 1) (forHead (stmt 3 (deB Try.prog))) ∧ InBody ((Can Try.prog).into 25 1) (forBody (stmt 3 (deB Try.prog))) := for_in (C := Can Try.prog) (f := 25) (B := 1) (id := 0) (k := 3) (fn := Try.f25) (b := deB Try.prog) Try.func25 deB_eq deFor
theorem deRX (own : Bool) (xs : List O3) (h : V3) (i : Nat) : (retA Try.prog Try.f25 (.ret, deX own xs.length xs h (i : Int))).res.bind (fun vm => (tidyA 1 [.fix 0] vm).res) = some (.tuple #[vI (phI (atO xs (i : Int)) h), .bool true, vI 0], [.rows own true 12 xs.length (opRow xs)]) := by kernel_rfl
theorem deRZ (own : Bool) (xs : List O3) (h : V3) : (retA Try.prog Try.f25 (.ret, deY own xs.length xs h)).res.bind (fun vm => (tidyA 1 [.fix 0] vm).res) = some (.tuple #[vI 0, .bool false, vI 0], [.rows own true 12 xs.length (opRow xs)]) := by kernel_rfl
theorem deL (own : Bool) (xs : List O3) (h : V3) (hn : (xs.length : Int) ≤ 9000000000000000000) :
    (∀ k, fst? (det xs h) xs.length 0 = some k → LoopSem Try.prog 1 (forBody (stmt 3 (deB Try.prog))) (deH own xs.length xs h 0) .ret (deX own xs.length xs h (k : Int))) ∧ (fst? (det xs h) xs.length 0 = none → LoopSem Try.prog 1 (forBody (stmt 3 (deB Try.prog))) (deH own xs.length xs h 0) (.exit 0) (deZ own xs.length xs h)) := by
  refine scan_loop (C := Can Try.prog) okan (f := 25) (B := 1) (m := 60) deIn.2 hn (fun i => deH own xs.length xs h i) (det xs h) (fun k => deX own xs.length xs h (k : Int)) 0 (deZ own xs.length xs h) (mask := [3, 4, 5, 6, 17, 18, 19]) (mout := [4, 5, 6]) (sp := [.fix 0, .slot 3]) (so := [.fix 0]) fun i hi => ?_
  refine (deR own xs.length xs h i).trans ?_
  unfold det
  unfold V3.eqB eq3
  cases decide ((i : Int) < (xs.length : Int)) <;> cases (rowI h (atO xs (i : Int)).r).x == (oppW h).x <;> cases (rowI h (atO xs (i : Int)).r).y == (oppW h).y <;> cases (rowI h (atO xs (i : Int)).r).z == (oppW h).z <;> rfl
/-- The answer. -/
theorem deM (own : Bool) (xs : List O3) (h : V3) (hn : (xs.length : Int) ≤ 9000000000000000000) (hc : (rcI xs h != 0) = false) :
    MemSem Try.prog 25 [.slice (some ⟨0, 0, some 0⟩) xs.length 12, h.v] [.rows own true 12 xs.length (opRow xs)] (match fst? (det xs h) xs.length 0 with
      | some i => .tuple #[vI (phI (atO xs (i : Int)) h), .bool true, vI 0]
      | none => .tuple #[vI 0, .bool false, vI 0]) [.rows own true 12 xs.length (opRow xs)] := by
  have r1 := deP own xs.length xs h
  rw [lk_true, gd_true, ghT_ok (show alwB xs h = true from rfl), gd_true, opsOf_opRow, hc] at r1
  replace r1 : _ = some _ := r1
  have hl := deL own xs h hn
  have body0 : InBody ((Can Try.prog).into 25 1) (deB Try.prog) := Or.inl ⟨Try.f25, deB Try.prog, Try.func25, deB_eq, fun _ hx => hx⟩
  have hd := end_rule (C := Can Try.prog) okan (f := 25) (B := 1) deIn.1 (deHd own xs.length xs h)
  cases hf : fst? (det xs h) xs.length 0 with
  | some k =>
    have hx := deRX own xs h k
    obtain ⟨⟨v1, m1⟩, x1, x2⟩ := Option.bind_eq_some_iff.1 hx
    exact (body_mem (P := Try.prog) (f := 25) (m := [.rows own true 12 xs.length (opRow xs)]) Try.func25 deB_eq (by kernel_rfl) (seg_rule (C := Can Try.prog) okan (f := 25) (B := 1) (k := 3) body0 r1 (stmt_out deHas (for_ret deFor hd (hl.1 k hf)) (by simp))) x1).tidy x2
  | none =>
    have hx := deRZ own xs h
    obtain ⟨⟨v1, m1⟩, x1, x2⟩ := Option.bind_eq_some_iff.1 hx
    exact (body_mem (P := Try.prog) (f := 25) (m := [.rows own true 12 xs.length (opRow xs)]) Try.func25 deB_eq (by kernel_rfl) (seg_rule (C := Can Try.prog) okan (f := 25) (B := 1) (k := 3) body0 r1 (stmt_rule deHas (for_rule deFor hd (hl.2 hf)) (end_rule (C := Can Try.prog) okan (f := 25) (B := 1) (bodyOf_in Try.func25 deB_eq) (deEnd own xs.length xs h)))) x1).tidy x2

theorem cePe (own : Bool) (n : Nat) (xs : List O3) (h : V3) : segR ((Can Try.prog).into 24 1) 60 1 (ceB Try.prog) [0, 3, 4, 5, 6] [.fix 0, .slot 3] (enter Try.f24 [.slice (some ⟨0, 0, some 0⟩) n 12, h.v] [.rows own true 12 n (opRow xs)]) = some (stOf 49 [(0, .slice (some ⟨0, 0, some 0⟩) n 12), (3, .pointer (some ⟨1, 0, none⟩)), (4, vI 0), (5, .bool false), (6, vI 0)] [.rows own true 12 n (opRow xs), .cells true 0 h.cells]) := by kernel_rfl
theorem ceRe (own : Bool) (n : Nat) (xs : List O3) (h : V3) : roundR ((Can Try.prog).into 24 1) 60 (stmt 1 (ceB Try.prog)) [4, 5, 6] [4, 5, 6] [.fix 0] [.fix 0] (stOf 49 [(0, .slice (some ⟨0, 0, some 0⟩) n 12), (3, .pointer (some ⟨1, 0, none⟩)), (4, vI 0), (5, .bool false), (6, vI 0)] [.rows own true 12 n (opRow xs), .cells true 0 h.cells]) =
    (gd (lk n) (gd (ghT alwB n (opRow xs) h) (match acI (opsOf n (opRow xs)) h != 0 with
      | true => some (.ret, stOf 49 [(4, vI 0), (5, .bool false), (6, vI (acI (opsOf n (opRow xs)) h))] [.rows own true 12 n (opRow xs)])
      | false => some (.normal, stOf 49 [(4, vI 0), (5, .bool false), (6, vI 0)] [.rows own true 12 n (opRow xs)])))) := by kernel_rfl
theorem ceHe : hasStmt 1 (ceB Try.prog) = true := by kernel_rfl
theorem ceQe (own : Bool) (xs : List O3) (e : Int) : (retA Try.prog Try.f24 (.ret, stOf 49 [(4, vI 0), (5, .bool false), (6, vI e)] [.rows own true 12 xs.length (opRow xs)])).res = some (.tuple #[vI 0, .bool false, vI e], [.rows own true 12 xs.length (opRow xs)]) := by kernel_rfl
theorem ceMe (own : Bool) (xs : List O3) (h : V3) (hc : (acI xs h != 0) = true) : MemSem Try.prog 24 [.slice (some ⟨0, 0, some 0⟩) xs.length 12, h.v] [.rows own true 12 xs.length (opRow xs)] (.tuple #[vI 0, .bool false, vI (acI xs h)]) [.rows own true 12 xs.length (opRow xs)] := by
  have r1 := cePe own xs.length xs h
  have r2 := ceRe own xs.length xs h
  rw [lk_true, gd_true, ghT_ok (show alwB xs h = true from rfl), gd_true, opsOf_opRow] at r2
  rw [hc] at r2
  have body0 : InBody ((Can Try.prog).into 24 1) (ceB Try.prog) := Or.inl ⟨Try.f24, ceB Try.prog, Try.func24, ceB_eq, fun _ hx => hx⟩
  exact body_mem (P := Try.prog) (f := 24) (m := [.rows own true 12 xs.length (opRow xs)]) Try.func24 ceB_eq (by kernel_rfl) (seg_rule (C := Can Try.prog) okan (f := 24) (B := 1) (k := 1) body0 r1 (stmt_out ceHe (end_rule (C := Can Try.prog) okan (f := 24) (B := 1) (stmt_in Try.func24 ceB_eq) r2) (by simp))) (ceQe own xs _)
theorem ceZ0 (h : V3) : exT ((Can Try.prog).at 24) 60 Try.f24 [.slice none 0 0, h.v] [] [] = (match (leastN h.ixk 5) != 0 with
    | true => some (.tuple #[vI 0, .bool false, vI (leastN h.ixk 5)], [])
    | false => some (.tuple #[vI 0, .bool false, vI 0], [])) := by kernel_rfl

theorem dePe (own : Bool) (n : Nat) (xs : List O3) (h : V3) : segR ((Can Try.prog).into 25 1) 60 2 (deB Try.prog) [4, 5, 6, 7] [.fix 0] (enter Try.f25 [.slice (some ⟨0, 0, some 0⟩) n 12, h.v] [.rows own true 12 n (opRow xs)]) = gd (lk n) (gd (ghT alwB n (opRow xs) h) (some (stOf 52 [(4, vI 0), (5, .bool false), (6, vI 0), (7, vI (rcI (opsOf n (opRow xs)) h))] [.rows own true 12 n (opRow xs)]))) := by kernel_rfl
theorem deRe (own : Bool) (n : Nat) (xs : List O3) (h : V3) : roundR ((Can Try.prog).into 25 1) 60 (stmt 2 (deB Try.prog)) [4, 5, 6] [4, 5, 6] [.fix 0] [.fix 0] (stOf 52 [(4, vI 0), (5, .bool false), (6, vI 0), (7, vI (rcI (opsOf n (opRow xs)) h))] [.rows own true 12 n (opRow xs)]) =
    (match rcI (opsOf n (opRow xs)) h != 0 with
      | true => some (.ret, stOf 52 [(4, vI 0), (5, .bool false), (6, vI (rcI (opsOf n (opRow xs)) h))] [.rows own true 12 n (opRow xs)])
      | false => some (.normal, stOf 52 [(4, vI 0), (5, .bool false), (6, vI 0)] [.rows own true 12 n (opRow xs)])) := by kernel_rfl
theorem deHe : hasStmt 2 (deB Try.prog) = true := by kernel_rfl
theorem deQe (own : Bool) (xs : List O3) (e : Int) : (retA Try.prog Try.f25 (.ret, stOf 52 [(4, vI 0), (5, .bool false), (6, vI e)] [.rows own true 12 xs.length (opRow xs)])).res = some (.tuple #[vI 0, .bool false, vI e], [.rows own true 12 xs.length (opRow xs)]) := by kernel_rfl
theorem deMe (own : Bool) (xs : List O3) (h : V3) (hc : (rcI xs h != 0) = true) : MemSem Try.prog 25 [.slice (some ⟨0, 0, some 0⟩) xs.length 12, h.v] [.rows own true 12 xs.length (opRow xs)] (.tuple #[vI 0, .bool false, vI (rcI xs h)]) [.rows own true 12 xs.length (opRow xs)] := by
  have r1 := dePe own xs.length xs h
  have r2 := deRe own xs.length xs h
  rw [lk_true, gd_true, ghT_ok (show alwB xs h = true from rfl), gd_true, opsOf_opRow] at r1
  rw [opsOf_opRow, hc] at r2
  have body0 : InBody ((Can Try.prog).into 25 1) (deB Try.prog) := Or.inl ⟨Try.f25, deB Try.prog, Try.func25, deB_eq, fun _ hx => hx⟩
  exact body_mem (P := Try.prog) (f := 25) (m := [.rows own true 12 xs.length (opRow xs)]) Try.func25 deB_eq (by kernel_rfl) (seg_rule (C := Can Try.prog) okan (f := 25) (B := 1) (k := 2) body0 r1 (stmt_out deHe (end_rule (C := Can Try.prog) okan (f := 25) (B := 1) (stmt_in Try.func25 deB_eq) r2) (by simp))) (deQe own xs _)
theorem deZ0 (h : V3) : exT ((Can Try.prog).at 25) 60 Try.f25 [.slice none 0 0, h.v] [] [] = (match (bif h.ixk != 0 then (1 : Int) else 5) != 0 with
    | true => some (.tuple #[vI 0, .bool false, vI (bif h.ixk != 0 then (1 : Int) else 5)], [])
    | false => some (.tuple #[vI 0, .bool false, vI 0], [])) := by kernel_rfl

theorem acI_len {X : List O3} {h : V3} (e : acI X h = 0) : (X.length : Int) ≤ 9000000000000000000 := by
  have := (chk_grp (leastN_zero.1 e).2).2.2
  omega
def ceN (X : List O3) (h : V3) : Int := match acI X h != 0 with
  | true => 0
  | false => match fst? (cet X h) X.length 0 with
    | some i => phV (atO X (i : Int)) h
    | none => 0
def ceC (X : List O3) (h : V3) : Bool := match acI X h != 0 with
  | true => false
  | false => match fst? (cet X h) X.length 0 with
    | some _ => true
    | none => false
def ceV (X : List O3) (h : V3) : Value := .tuple #[vI (ceN X h), .bool (ceC X h), vI (acI X h)]
def deN (X : List O3) (h : V3) : Int := match acI X h != 0 with
  | true => 0
  | false => match fst? (det X h) X.length 0 with
    | some i => phI (atO X (i : Int)) h
    | none => 0
def deC (X : List O3) (h : V3) : Bool := match acI X h != 0 with
  | true => false
  | false => match fst? (det X h) X.length 0 with
    | some _ => true
    | none => false
def deV (X : List O3) (h : V3) : Value := .tuple #[vI (deN X h), .bool (deC X h), vI (acI X h)]
theorem ceS (own : Bool) (X : List O3) (h : V3) (_ : alwB X h = true) : MemSem Try.prog 24 [.slice (some ⟨0, 0, some 0⟩) X.length 12, h.v] [.rows own true 12 X.length (opRow X)] (ceV X h) [.rows own true 12 X.length (opRow X)] := by
  unfold ceV ceN ceC
  cases hc : acI X h != 0 with
  | true => exact ceMe own X h hc
  | false =>
    have e : acI X h = 0 := by simpa using hc
    have := ceM own X h (acI_len e) hc
    rw [e]
    revert this
    cases fst? (cet X h) X.length 0 <;> exact fun h => h
theorem deS (own : Bool) (X : List O3) (h : V3) (_ : alwB X h = true) : MemSem Try.prog 25 [.slice (some ⟨0, 0, some 0⟩) X.length 12, h.v] [.rows own true 12 X.length (opRow X)] (deV X h) [.rows own true 12 X.length (opRow X)] := by
  unfold deV deN deC
  rw [← ac_rc]
  cases hc : rcI X h != 0 with
  | true => exact deMe own X h hc
  | false =>
    have e : rcI X h = 0 := by simpa using hc
    have := deM own X h (acI_len ((ac_rc X h).symm.trans e)) hc
    rw [e]
    revert this
    cases fst? (det X h) X.length 0 <;> exact fun h => h
def ceNil (h : V3) : Option Value := some (.tuple #[vI 0, .bool false, vI (leastN h.ixk 5)])
theorem z5 (h : V3) : (leastN h.ixk 5 != 0) = true := by rcases ixk_vals h with e | e <;> rw [e] <;> rfl
theorem ceS0 (h : V3) (v : Value) (hv : ceNil h = some v) : MemSem Try.prog 24 [.slice none 0 0, h.v] [] v [] := by
  simp only [ceNil, Option.some.injEq] at hv
  subst hv
  have := ceZ0 h
  rw [z5] at this
  exact exT_ok okan Try.func24 (by kernel_rfl) this
theorem deS0 (h : V3) (v : Value) (hv : ceNil h = some v) : MemSem Try.prog 25 [.slice none 0 0, h.v] [] v [] := by
  simp only [ceNil, Option.some.injEq] at hv
  subst hv
  have := deZ0 h
  rw [ac_rc0, z5] at this
  exact exT_ok okan Try.func25 (by kernel_rfl) this
def Cao (P : Program) : Cx := ((Can P).addE 24 (ghF alwB ceV ceNil)).addE 25 (ghF alwB deV ceNil)
theorem okao : CxOk (Cao Try.prog) := Cx.addE_ok (Cx.addE_ok okan (ghF_ok ceS ceS0)) (ghF_ok deS deS0)
end Go.Proofs.Ytjpfnfckpgilgaa


namespace Go.Proofs.Ytjpfnfckpgilgaa
open Go Vx Go.RowKit

theorem isE1 (own : Bool) (n : Nat) (xs : List O3) (h : V3) : exT ((Cao Try.prog).at 20) 60 Try.f20 [.slice (some ⟨0, 0, some 0⟩) n 12, h.v] [.rows own true 12 n (opRow xs)] [.fix 0] =
    gd (lk n) (gd (ghT alwB n (opRow xs) h) (match acI (opsOf n (opRow xs)) h != 0 with
    | true => some (.tuple #[.bool false, vI (acI (opsOf n (opRow xs)) h)], [.rows own true 12 n (opRow xs)])
    | false => gd (lk n) (gd (ghT lenB n (opRow xs) h) (some (.tuple #[.bool (rsb (opsOf n (opRow xs)) h), vI 0], [.rows own true 12 n (opRow xs)]))))) := by kernel_rfl
theorem isE0 (h : V3) : exT ((Cao Try.prog).at 20) 60 Try.f20 [.slice none 0 0, h.v] [] [] = (match leastN h.ixk 5 != 0 with
    | true => some (.tuple #[.bool false, vI (leastN h.ixk 5)], [])
    | false => some (.tuple #[.bool false, vI 0], [])) := by kernel_rfl
theorem whE1 (own : Bool) (n : Nat) (xs : List O3) (h : V3) : exT ((Cao Try.prog).at 22) 60 Try.f22 [.slice (some ⟨0, 0, some 0⟩) n 12, h.v] [.rows own true 12 n (opRow xs)] [.fix 0] =
    gd (lk n) (gd (ghT alwB n (opRow xs) h) (match acI (opsOf n (opRow xs)) h != 0 with
    | true => some (p2 O3.zero.v (vI (acI (opsOf n (opRow xs)) h)), [.rows own true 12 n (opRow xs)])
    | false => gd (lk n) (gd (ghT lenB n (opRow xs) h) (match !(rsb (opsOf n (opRow xs)) h) with
      | true => some (p2 O3.zero.v (vI 9), [.rows own true 12 n (opRow xs)])
      | false => some (p2 (rsO (opsOf n (opRow xs)) h).v (vI 0), [.rows own true 12 n (opRow xs)]))))) := by kernel_rfl
theorem whE0 (h : V3) : exT ((Cao Try.prog).at 22) 60 Try.f22 [.slice none 0 0, h.v] [] [] = (match leastN h.ixk 5 != 0 with
    | true => some (p2 O3.zero.v (vI (leastN h.ixk 5)), [])
    | false => some (p2 O3.zero.v (vI 9), [])) := by kernel_rfl
theorem abE1 (own : Bool) (n : Nat) (xs : List O3) (h : V3) : exT ((Cao Try.prog).at 60) 60 Try.f60 [.slice (some ⟨0, 0, some 0⟩) n 12, h.v] [.rows own true 12 n (opRow xs)] [.fix 0] =
    gd (lk n) (gd (ghT lenB n (opRow xs) h) (some (.bool (decide (wyI (opsOf n (opRow xs)) h ≥ 0)), [.rows own true 12 n (opRow xs)]))) := by kernel_rfl
def abV (X : List O3) (h : V3) : Value := .bool (decide (wyI X h ≥ 0))
theorem abS (own : Bool) (X : List O3) (h : V3) (hk : lenB X h = true) : MemSem Try.prog 60 [.slice (some ⟨0, 0, some 0⟩) X.length 12, h.v] [.rows own true 12 X.length (opRow X)] (abV X h) [.rows own true 12 X.length (opRow X)] := by
  have := abE1 own X.length X h
  rw [lk_true, gd_true, ghT_ok hk, gd_true, opsOf_opRow] at this
  exact exT_ok okao Try.func60 (by kernel_rfl) this
def Cap (P : Program) : Cx := (Cao P).addE 60 (ghF lenB abV noZ)
theorem okap : CxOk (Cap Try.prog) := Cx.addE_ok okao (ghF_ok abS fun _ _ h => by cases h)
theorem diE1 (own : Bool) (n : Nat) (xs : List O3) (h : V3) : exT ((Cap Try.prog).at 21) 60 Try.f21 [.slice (some ⟨0, 0, some 0⟩) n 12, h.v] [.rows own true 12 n (opRow xs)] [.fix 0] =
    gd (lk n) (gd (ghT alwB n (opRow xs) h) (match rcI (opsOf n (opRow xs)) h != 0 with
    | true => some (.tuple #[.bool false, vI (rcI (opsOf n (opRow xs)) h)], [.rows own true 12 n (opRow xs)])
    | false => gd (lk n) (gd (ghT lenB n (opRow xs) h) (some (.tuple #[.bool (decide (wyI (opsOf n (opRow xs)) h ≥ 0)), vI 0], [.rows own true 12 n (opRow xs)]))))) := by kernel_rfl
theorem diE0 (h : V3) : exT ((Cap Try.prog).at 21) 60 Try.f21 [.slice none 0 0, h.v] [] [] = (match (bif h.ixk != 0 then (1 : Int) else 5) != 0 with
    | true => some (.tuple #[.bool false, vI (bif h.ixk != 0 then (1 : Int) else 5)], [])
    | false => some (.tuple #[.bool false, vI 0], [])) := by kernel_rfl
theorem dwE1 (own : Bool) (n : Nat) (xs : List O3) (h : V3) : exT ((Cap Try.prog).at 23) 60 Try.f23 [.slice (some ⟨0, 0, some 0⟩) n 12, h.v] [.rows own true 12 n (opRow xs)] [.fix 0] =
    gd (lk n) (gd (ghT alwB n (opRow xs) h) (match rcI (opsOf n (opRow xs)) h != 0 with
    | true => some (p2 O3.zero.v (vI (rcI (opsOf n (opRow xs)) h)), [.rows own true 12 n (opRow xs)])
    | false => gd (lk n) (gd (ghT lenB n (opRow xs) h) (match decide (wyI (opsOf n (opRow xs)) h < 0) with
      | true => some (p2 O3.zero.v (vI 9), [.rows own true 12 n (opRow xs)])
      | false => gd (boundsI (wyI (opsOf n (opRow xs)) h) n) (some (p2 (atO xs (wyI (opsOf n (opRow xs)) h)).v (vI 0), [.rows own true 12 n (opRow xs)])))))) := by kernel_rfl
theorem dwE0 (h : V3) : exT ((Cap Try.prog).at 23) 60 Try.f23 [.slice none 0 0, h.v] [] [] = (match (bif h.ixk != 0 then (1 : Int) else 5) != 0 with
    | true => some (p2 O3.zero.v (vI (bif h.ixk != 0 then (1 : Int) else 5)), [])
    | false => some (p2 O3.zero.v (vI 9), [])) := by kernel_rfl
/-! What they answer -/
def isb (X : List O3) (h : V3) : Bool := match acI X h != 0 with
  | true => false
  | false => rsb X h
def isV (X : List O3) (h : V3) : Value := .tuple #[.bool (isb X h), vI (acI X h)]
def whO (X : List O3) (h : V3) : O3 := match acI X h != 0 with
  | true => O3.zero
  | false => match rsb X h with
    | true => rsO X h
    | false => O3.zero
def whE (X : List O3) (h : V3) : Int := match acI X h != 0 with
  | true => acI X h
  | false => match rsb X h with
    | true => 0
    | false => 9
def whV (X : List O3) (h : V3) : Value := p2 (whO X h).v (vI (whE X h))
def dib (X : List O3) (h : V3) : Bool := match acI X h != 0 with
  | true => false
  | false => decide (wyI X h ≥ 0)
def diV (X : List O3) (h : V3) : Value := .tuple #[.bool (dib X h), vI (acI X h)]
def dwO (X : List O3) (h : V3) : O3 := match acI X h != 0 with
  | true => O3.zero
  | false => match decide (wyI X h < 0) with
    | true => O3.zero
    | false => atO X (wyI X h)
def dwE (X : List O3) (h : V3) : Int := match acI X h != 0 with
  | true => acI X h
  | false => match decide (wyI X h < 0) with
    | true => 9
    | false => 0
def dwV (X : List O3) (h : V3) : Value := p2 (dwO X h).v (vI (dwE X h))
theorem lenB_ok {X : List O3} {h : V3} (hc : (acI X h != 0) = false) : lenB X h = true := decide_eq_true (acI_len (by simpa using hc))
theorem isS (own : Bool) (X : List O3) (h : V3) (_ : alwB X h = true) : MemSem Try.prog 20 [.slice (some ⟨0, 0, some 0⟩) X.length 12, h.v] [.rows own true 12 X.length (opRow X)] (isV X h) [.rows own true 12 X.length (opRow X)] := by
  have r := isE1 own X.length X h
  rw [lk_true, gd_true, ghT_ok (show alwB X h = true from rfl), gd_true, opsOf_opRow] at r
  refine exT_ok okao Try.func20 (by kernel_rfl) (r.trans ?_)
  unfold isV isb
  cases hc : acI X h != 0 with
  | true => rfl
  | false => rw [gd_true, ghT_ok (lenB_ok hc), gd_true, show acI X h = 0 by simpa using hc]
theorem whS (own : Bool) (X : List O3) (h : V3) (_ : alwB X h = true) : MemSem Try.prog 22 [.slice (some ⟨0, 0, some 0⟩) X.length 12, h.v] [.rows own true 12 X.length (opRow X)] (whV X h) [.rows own true 12 X.length (opRow X)] := by
  have r := whE1 own X.length X h
  rw [lk_true, gd_true, ghT_ok (show alwB X h = true from rfl), gd_true, opsOf_opRow] at r
  refine exT_ok okao Try.func22 (by kernel_rfl) (r.trans ?_)
  unfold whV whO whE
  cases hc : acI X h != 0 with
  | true => rfl
  | false => rw [gd_true, ghT_ok (lenB_ok hc), gd_true]; cases rsb X h <;> rfl
theorem diS (own : Bool) (X : List O3) (h : V3) (_ : alwB X h = true) : MemSem Try.prog 21 [.slice (some ⟨0, 0, some 0⟩) X.length 12, h.v] [.rows own true 12 X.length (opRow X)] (diV X h) [.rows own true 12 X.length (opRow X)] := by
  have r := diE1 own X.length X h
  rw [lk_true, gd_true, ghT_ok (show alwB X h = true from rfl), gd_true, opsOf_opRow, ac_rc] at r
  refine exT_ok okap Try.func21 (by kernel_rfl) (r.trans ?_)
  unfold diV dib
  cases hc : acI X h != 0 with
  | true => rfl
  | false => rw [gd_true, ghT_ok (lenB_ok hc), gd_true, show acI X h = 0 by simpa using hc]
theorem wyI_in {X : List O3} {h : V3} (hw : ¬ wyI X h < 0) : boundsI (wyI X h) X.length = true := by
  unfold wyI at hw ⊢
  cases hf : fst? (wyt X h) X.length 0 with
  | none => rw [hf] at hw; exact absurd (show (-1 : Int) < 0 by decide) hw
  | some k =>
    have := fst?_some hf
    exact bd_ok' (by omega)
theorem dwS (own : Bool) (X : List O3) (h : V3) (_ : alwB X h = true) : MemSem Try.prog 23 [.slice (some ⟨0, 0, some 0⟩) X.length 12, h.v] [.rows own true 12 X.length (opRow X)] (dwV X h) [.rows own true 12 X.length (opRow X)] := by
  have r := dwE1 own X.length X h
  rw [lk_true, gd_true, ghT_ok (show alwB X h = true from rfl), gd_true, opsOf_opRow, ac_rc] at r
  refine exT_ok okap Try.func23 (by kernel_rfl) (r.trans ?_)
  unfold dwV dwO dwE
  cases hc : acI X h != 0 with
  | true => rfl
  | false =>
    rw [gd_true, ghT_ok (lenB_ok hc), gd_true]
    by_cases hw : wyI X h < 0
    · rw [decide_eq_true hw]
    · rw [decide_eq_false hw, wyI_in hw]; rfl
def isZ (h : V3) : Option Value := some (.tuple #[.bool false, vI (leastN h.ixk 5)])
def whZ (h : V3) : Option Value := some (p2 O3.zero.v (vI (leastN h.ixk 5)))
theorem isS0 (h : V3) (v : Value) (hv : isZ h = some v) : MemSem Try.prog 20 [.slice none 0 0, h.v] [] v [] := by
  simp only [isZ, Option.some.injEq] at hv
  subst hv
  have := isE0 h
  rw [z5] at this
  exact exT_ok okao Try.func20 (by kernel_rfl) this
theorem whS0 (h : V3) (v : Value) (hv : whZ h = some v) : MemSem Try.prog 22 [.slice none 0 0, h.v] [] v [] := by
  simp only [whZ, Option.some.injEq] at hv
  subst hv
  have := whE0 h
  rw [z5] at this
  exact exT_ok okao Try.func22 (by kernel_rfl) this
theorem diS0 (h : V3) (v : Value) (hv : isZ h = some v) : MemSem Try.prog 21 [.slice none 0 0, h.v] [] v [] := by
  simp only [isZ, Option.some.injEq] at hv
  subst hv
  have := diE0 h
  rw [ac_rc0, z5] at this
  exact exT_ok okap Try.func21 (by kernel_rfl) this
theorem dwS0 (h : V3) (v : Value) (hv : whZ h = some v) : MemSem Try.prog 23 [.slice none 0 0, h.v] [] v [] := by
  simp only [whZ, Option.some.injEq] at hv
  subst hv
  have := dwE0 h
  rw [ac_rc0, z5] at this
  exact exT_ok okap Try.func23 (by kernel_rfl) this
def Caq (P : Program) : Cx := ((((Cap P).addE 20 (ghF alwB isV isZ)).addE 22 (ghF alwB whV whZ)).addE 21 (ghF alwB diV isZ)).addE 23 (ghF alwB dwV whZ)
theorem okaq : CxOk (Caq Try.prog) := Cx.addE_ok (Cx.addE_ok (Cx.addE_ok (Cx.addE_ok okap (ghF_ok isS isS0)) (ghF_ok whS whS0)) (ghF_ok diS diS0)) (ghF_ok dwS dwS0)
end Go.Proofs.Ytjpfnfckpgilgaa


namespace Go.Proofs.Ytjpfnfckpgilgaa.Vx
open Go Go.RowKit
def Cx.addI (C : Cx) (f : FuncId) : Cx := { C with inl := fun g => match Nat.beq g f with
  | true => C.P.funcs[g]?
  | false => C.inl g }
theorem Cx.addI_ok {C : Cx} (hC : CxOk C) {f : FuncId} (hok : okFunc C.P f = true) : CxOk (C.addI f) := by
  refine ⟨hC.mixed, hC.tbl, hC.tbm, hC.keys, fun g fn hg => ?_, hC.lp, hC.rd, hC.rd2⟩
  simp only [Cx.addI] at hg
  cases hb : Nat.beq g f with
  | false => rw [hb] at hg; exact hC.inl g fn hg
  | true =>
    rw [hb] at hg
    have := Nat.eq_of_beq_eq_true hb
    subst this
    exact ⟨hg, okFunc_name hok hg⟩
end Go.Proofs.Ytjpfnfckpgilgaa.Vx


namespace Go.Proofs.Ytjpfnfckpgilgaa.Vx
open Go Go.RowKit

/-- The cells of a list of maps, in a world. -/
def OpsAt (W : World) (a : Addr) (xs : List O3) : Prop := a.spot = none ∧ ∃ cs T fz, W.heap[a.block]? = some (.cells cs T fz) ∧ ∀ (i : Nat) o, xs[i]? = some o → ∀ (k : Nat) v, o.cells[k]? = some v → cs[a.off + i * 12 + k]? = some v

section
variable {H : Type} {enc : TypeId × Value → H} {P : Program} {W : World} {base : Nat} {spare : Nat → Bool} {held : Bool}
theorem ints_o3 : ∀ {l : List Int}, l.length = 12 → ∃ o : O3, o.cells = intsK .i64 l
  | [a, b, c, d, e, f, g, h, i, x, y, z], _ => ⟨⟨⟨a, b, c, d, e, f, g, h, i⟩, ⟨x, y, z⟩⟩, rfl⟩
theorem open_ops {t e : TypeId} {b0 : Nat} {v : Value} {d : DataW H} {ps : List MemPlace} (ht : P.underlying t = some (.slice e)) (hl : leafs P 9 e = some (List.replicate 12 (some .i64))) (hc : P.cellsOf e = 12) (hv : Value.okWide P W .any b0 t v)
    (h : DataW.Trod enc P W base spare held t v d ps) :
    v = .slice none 0 0 ∨ ∃ (a : Addr) (cap : Nat) (xs : List O3) (es rs : List (DataW H)), v = .slice (some a) xs.length cap ∧ xs.length ≤ cap ∧ OpsAt W a xs ∧ d = .slice es rs ∧ es.length = xs.length := by
  obtain ⟨fuel, hf⟩ := h
  rcases DataW.trod_slice ht hf with ⟨h0, _⟩ | ⟨a, len, cap, elems, rest, n, _, hcs, hx, hb, hlc, hm, hlen, hel, _, _⟩
  · left
    cases v <;> simp [Value.cells] at h0
    · obtain ⟨rfl, rfl, rfl⟩ := h0; rfl
    · unfold Value.okWide at hv
      rw [ht] at hv
      simp only [Cell.okWide, ht, Cell.ok] at hv
  · right
    have hv' : v = .slice (some a) len cap := by
      cases v <;> simp [Value.cells] at hcs
      · obtain ⟨rfl, rfl, rfl⟩ := hcs; rfl
      · unfold Value.okWide at hv
        rw [ht] at hv
        simp only [Cell.okWide, ht, Cell.ok] at hv
    subst hv'
    have hhas : a.spot = none ∧ ∃ cs T fz, W.heap[a.block]? = some (.cells cs T fz) := by
      unfold Value.okWide at hv
      rw [ht] at hv
      simp only [Cell.okWide, ht, Cell.ok] at hv
      obtain ⟨_, _, _, hs, row, cells, hsh, _⟩ := hv
      refine ⟨hs, ?_⟩
      unfold World.shape? at hsh
      split at hsh
      · rename_i c el fz hh; exact ⟨c, el, fz, hh⟩
      · cases hsh
    obtain ⟨hs, cs, T, fz, hh⟩ := hhas
    have each : ∀ i, i < len → ∃ o : O3, ∀ (k : Nat) v, o.cells[k]? = some v → cs[a.off + i * 12 + k]? = some v := fun i hi => by
      have h1 := hel i hi
      rw [List.getElem?_eq_getElem (by omega), Option.bind_eq_some_iff] at h1
      obtain ⟨cc, h2, h3⟩ := h1
      obtain ⟨_, h4, h5⟩ := World.cells?_some h2
      rw [hc] at h4 h5
      obtain ⟨l, k1, k2, _⟩ := leaves_ints 12 _ (leafs_read 9 e _ hl n _ _ h3)
      obtain ⟨o, ho⟩ := ints_o3 k1
      refine ⟨o, fun k v hk => ?_⟩
      rw [ho, ← k2] at hk
      have hk2 : k < 12 := by
        have := (List.getElem?_eq_some_iff.1 hk).1
        omega
      have h6 := h5 k hk2
      rw [hk] at h6
      unfold World.cell? at h6
      have hblk : ((a.add (i * 12)).add k).block = a.block := by unfold Addr.add; split <;> split <;> rfl
      have hoff : ((a.add (i * 12)).add k).off = a.off + i * 12 + k := by
        unfold Addr.add
        split <;> split <;> (try simp only) <;> omega
      have hspt : ((a.add (i * 12)).add k).spot = none := by
        unfold Addr.add
        split <;> split <;> first | exact hs | rfl
      rw [hblk, hh] at h6
      simp only [hspt, hoff] at h6
      simpa using h6
    have build : ∀ m, m ≤ len → ∃ xs : List O3, xs.length = m ∧ ∀ (i : Nat) o, xs[i]? = some o → ∀ (k : Nat) v, o.cells[k]? = some v → cs[a.off + i * 12 + k]? = some v := by
      intro m
      induction m with
      | zero => intro _; exact ⟨[], rfl, by simp⟩
      | succ m ih =>
        intro hm2
        obtain ⟨xs, hx1, hx2⟩ := ih (by omega)
        obtain ⟨o, ho⟩ := each m (by omega)
        refine ⟨xs ++ [o], by simp [hx1], fun i p hp => ?_⟩
        by_cases hi : i < xs.length
        · rw [List.getElem?_append_left hi] at hp
          exact hx2 i p hp
        · rw [List.getElem?_append_right (by omega)] at hp
          have hi2 : i - xs.length = 0 := by
            have := (List.getElem?_eq_some_iff.1 hp).1
            simp at this; omega
          rw [hi2] at hp
          simp only [List.getElem?_cons_zero, Option.some.injEq] at hp
          subst hp
          have : i = m := by omega
          subst this
          exact ho
    obtain ⟨xs, hx1, hx2⟩ := build len (Nat.le_refl _)
    simp only [Prod.mk.injEq] at hx
    exact ⟨a, cap, xs, elems.map (·.1), rest.map (·.1), by rw [hx1], by omega, ⟨hs, cs, T, fz, hh, hx2⟩, hx.1, by simp [hlen, hx1]⟩
end

/-- The memory that a list of maps is, which is looked at alone. -/
def allKeep (W : World) : Keep := ⟨fun j => j < W.heap.size, fun j => j < W.heap.size, fun _ h => h⟩
def opsPlace (a : Addr) (n : Nat) : Place := ⟨a.block, a.off, 12, n, 0, false⟩
def oneRen (p : Place) : Ren := fun b => match b with
  | 0 => some (some p)
  | _ => none
theorem ops_blk {W : World} {a : Addr} {xs : List O3} (h : OpsAt W a xs) (r : Ren) : BlkRel W r (opsPlace a xs.length) (.rows false true 12 xs.length (opRow xs)) := by
  obtain ⟨_, cs, T, fz, hh, hx⟩ := h
  refine ⟨rfl, rfl, rfl, fun _ i _ => rfl, cs, T, fz, fun _ => rfl, hh, (fun h => by cases h), fun i hi => ⟨rfl, fun k v hv => ?_⟩⟩
  have hv' : (xs[i]).cells[k]? = some v := by
    unfold opRow at hv
    rw [List.getElem?_eq_getElem hi] at hv
    exact hv
  have hpl : plain0 v = true := by
    have hk : k < 12 := (List.getElem?_eq_some_iff.1 hv').1
    have := allL_iff.1 (show allL plain0 (xs[i]).cells = true from rfl) v (List.mem_of_getElem? hv')
    exact this
  exact ⟨v, hx i _ (List.getElem?_eq_getElem hi) k v hv', (R0_plain hpl).2 rfl⟩
theorem ops_rel {W : World} {a : Addr} {xs : List O3} (h : OpsAt W a xs) : MemRel W (allKeep W) (oneRen (opsPlace a xs.length)) [.rows false true 12 xs.length (opRow xs)] W := by
  have hb := ops_blk h (oneRen (opsPlace a xs.length))
  have key : ∀ {b : Nat} {p : Place}, oneRen (opsPlace a xs.length) b = some (some p) → b = 0 ∧ p = opsPlace a xs.length := fun {b p} hp => by
    unfold oneRen at hp
    split at hp
    · simp only [Option.some.injEq] at hp; exact ⟨rfl, hp.symm⟩
    · cases hp
  refine ⟨rfl, rfl, rfl, Nat.le_refl _, Nat.le_refl _, fun j hj => hj, fun j _ => rfl, fun b hb' => ?_, fun b hb' => ?_, fun b p hp => ?_, fun b p hp ho => ?_, fun b p hp _ _ => ?_, fun b p hp _ hz => ?_, fun b c p q hp _ _ hz => ?_, fun b c p q hp _ ho => ?_⟩
  · cases b with
    | zero => simp at hb'
    | succ b => rfl
  · unfold oneRen at hb'
    split at hb' <;> cases hb'
  · obtain ⟨rfl, rfl⟩ := key hp
    exact ⟨_, rfl, hb⟩
  · obtain ⟨rfl, rfl⟩ := key hp; cases ho
  · obtain ⟨rfl, rfl⟩ := key hp; exact hb.lt
  · obtain ⟨rfl, rfl⟩ := key hp; exact absurd rfl hz
  · obtain ⟨rfl, rfl⟩ := key hp; exact absurd rfl hz
  · obtain ⟨rfl, rfl⟩ := key hp; cases ho
theorem ops_arg {a : Addr} {n cap : Nat} (hs : a.spot = none) (hc : n ≤ cap) : R (oneRen (opsPlace a n)) (.slice (some ⟨0, 0, some 0⟩) n 12) (.slice (some a) n cap) := by
  refine R_sl_mk hc (Or.inr ⟨opsPlace a n, rfl, ?_, hc, fun i hi => ?_, fun _ => rfl, fun _ => rfl, fun h => by cases h⟩)
  · cases a; simp only [Place.addr, opsPlace, Option.getD_some, Nat.zero_mul, Nat.add_zero] at *; rw [hs]
  · simp only [Option.some.injEq] at hi; subst hi; simp [opsPlace]
/-- A law of a list of maps, called. -/
theorem MemSem.calls {P : Program} {f : FuncId} {W : World} {a : Addr} {xs : List O3} {cap : Nat} {m' : Mem} {more more' : List Value} (h : MemSem P f (.slice (some ⟨0, 0, some 0⟩) xs.length 12 :: more) [.rows false true 12 xs.length (opRow xs)] (.bool true) m') (ha : OpsAt W a xs) (hc : xs.length ≤ cap) (hm : RL (R (oneRen (opsPlace a xs.length))) more more') :
    Calls P f (.slice (some a) xs.length cap :: more').toArray W fun e W' => e = .returned (.bool true) ∧ Below W.heap.size W W' := by
  refine (h.2 W _ _ (.slice (some a) xs.length cap :: more') W ⟨ops_arg ha.1 hc, hm⟩ (ops_rel ha)).mono ?_
  rintro e w' ⟨v', r', rfl, h1, h2, h3⟩
  rw [(R_plain (v := .bool true) rfl).1 h1]
  exact ⟨rfl, ⟨h2.os, h2.tape, h2.output, h2.size, fun k hk => h2.kept k hk⟩⟩
end Go.Proofs.Ytjpfnfckpgilgaa.Vx
