/-
  ReduceVectors over an arbitrary record of functions. Nothing here is trusted.
-/
import Derived.Test.YtofblakbfmjgkaaKai

namespace Go.Proofs.Ytofblakbfmjgkaa
open Go Vx
def vecRest (R : RV) (m : G6) (p : M3) : Option Value := match R.K m != 0 with
  | true => some (.bool false)
  | false => match min2I (min2I (min2I (min2I (min2I (min2I (R.G m).aa (R.dot (R.G m) ⟨0, 1, 0⟩ ⟨0, 1, 0⟩)) (R.dot (R.G m) ⟨0, 0, 1⟩ ⟨0, 0, 1⟩)) (R.dot (R.G m) ⟨1, 1, 1⟩ ⟨1, 1, 1⟩)) (R.dot (R.G m) ⟨1, 1, 0⟩ ⟨1, 1, 0⟩)) (R.dot (R.G m) ⟨1, 0, 1⟩ ⟨1, 0, 1⟩)) (R.dot (R.G m) ⟨0, 1, 1⟩ ⟨0, 1, 1⟩) != R.h m with
    | true => some (.bool false)
    | false => match R.E m p != 0 with
      | true => some (.bool true)
      | false => match R.K (R.T m p) != 0 with
        | true => some (.bool true)
        | false => match R.K (R.T m p) == 0 with
          | true => some (.bool (R.h (R.T m p) == R.h m))
          | false => some (.bool false)
def tReduceVectors (R : RV) (m : G6) (p : M3) (x y z : Int) : Option Value := match R.K m != 0 with
  | true => match R.h m == 0 with
    | true => some (.bool (R.K m == R.K m))
    | false => some (.bool false)
  | false => match decide (R.h m < 1) with
    | true => some (.bool false)
    | false => match !((V3.mk (W x) (W y) (W z)).eqB V3.zero) with
      | true => match decide (R.dot m ⟨W x, W y, W z⟩ ⟨W x, W y, W z⟩ < R.h m) with
        | true => some (.bool false)
        | false => vecRest R m p
      | false => vecRest R m p
theorem vecRest_true (m : G6) (p : M3) (h : m.mck = 0) : vecRest Rv m p = some (.bool true) := by
  unfold vecRest
  rw [show (Rv.K m != 0) = false from (by show (m.mck != 0) = false; rw [h]; rfl)]
  have e : (min2I (min2I (min2I (min2I (min2I (min2I (Rv.G m).aa (Rv.dot (Rv.G m) ⟨0, 1, 0⟩ ⟨0, 1, 0⟩)) (Rv.dot (Rv.G m) ⟨0, 0, 1⟩ ⟨0, 0, 1⟩)) (Rv.dot (Rv.G m) ⟨1, 1, 1⟩ ⟨1, 1, 1⟩)) (Rv.dot (Rv.G m) ⟨1, 1, 0⟩ ⟨1, 1, 0⟩)) (Rv.dot (Rv.G m) ⟨1, 0, 1⟩ ⟨1, 0, 1⟩)) (Rv.dot (Rv.G m) ⟨0, 1, 1⟩ ⟨0, 1, 1⟩) != Rv.h m) = false := by
    show (shortW (obG m) != shN m) = false
    unfold obG shN
    rw [h]
    simp
  rw [e]
  by_cases h1 : turE m p = 0
  · obtain ⟨_, _, hu⟩ := turE_zero h1
    have e1 : Rv.T m p = m.turn p := by show turG m p = _; unfold turG; rw [h1]; rfl
    rw [show (Rv.E m p != 0) = false from (by show (turE m p != 0) = false; rw [h1]; rfl), e1]
    by_cases h2 : (m.turn p).mck = 0
    · rw [show (Rv.K (m.turn p) != 0) = false from (by show ((m.turn p).mck != 0) = false; rw [h2]; rfl), show (Rv.K (m.turn p) == 0) = true from (by show ((m.turn p).mck == 0) = true; rw [h2]; rfl),
        show Rv.h (m.turn p) = Rv.h m from short_turn h hu h2]
      simp
    · rw [show (Rv.K (m.turn p) != 0) = true from (bif_beq h2).2]
  · rw [show (Rv.E m p != 0) = true from (bif_beq h1).2]
theorem i8_bounds {n : Int} (h : (Lit.int .i8 n).wf = true) : -128 ≤ n ∧ n ≤ 127 := by
  simp [Lit.wf, IntKind.min, IntKind.max, IntKind.signed, IntKind.bits] at h
  omega
theorem tReduceVectors_true (m : G6) (p : M3) (x y z : Int) (hu : ∀ n ∈ [x, y, z], (Lit.int .i8 n).wf = true) : tReduceVectors Rv m p x y z = some (.bool true) := by
  unfold tReduceVectors
  by_cases h : m.mck = 0
  · rw [show (Rv.K m != 0) = false from (by show (m.mck != 0) = false; rw [h]; rfl), vecRest_true m p h]
    have hp := short_pos h
    obtain ⟨hb, hpos, _⟩ := G6.mck_zero h
    have bx := i8_bounds (hu x (by simp))
    have b_y := i8_bounds (hu y (by simp))
    have bz := i8_bounds (hu z (by simp))
    rw [W_in (n := x) (by omega), W_in (n := y) (by omega), W_in (n := z) (by omega)]
    rw [show decide (Rv.h m < 1) = false from decide_eq_false (by show ¬ shN m < 1; omega)]
    by_cases hv : V3.mk x y z = V3.zero
    · rw [V3.eqB_iff.2 hv]; rfl
    · have hb3 : (V3.mk x y z).Bd 128 := by unfold V3.Bd; simp only; omega
      have := dot_bound hb hb3 hb3
      have hs := (short_of h).2 _ hv
      rw [V3.eqB_false.2 hv, show decide (Rv.dot m ⟨x, y, z⟩ ⟨x, y, z⟩ < Rv.h m) = false from decide_eq_false (by
        show ¬ W (m.dot ⟨x, y, z⟩ ⟨x, y, z⟩) < shN m
        rw [W_in (by omega)]
        omega)]
      rfl
  · have e : Rv.h m = 0 := by show shN m = 0; unfold shN; rw [(bif_beq h).1]; rfl
    rw [show (Rv.K m != 0) = true from (bif_beq h).2, e]
    simp
end Go.Proofs.Ytofblakbfmjgkaa


namespace Go.Proofs.Ytofblakbfmjgkaa
open Go Vx
theorem vecRun (R : RV) (a0 a1 a2 a3 a4 a5 b0 b1 b2 b3 b4 b5 b6 b7 b8 x y z : Int) : exFun ((Cv R Try.prog).at 16) 200 Try.f16 [.agg (intsK .i64 [a0, a1, a2, a3, a4, a5]).toArray, .agg (intsK .i64 [b0, b1, b2, b3, b4, b5, b6, b7, b8]).toArray, .agg (intsK .i8 [x, y, z]).toArray] = tReduceVectors R ⟨a0, a1, a2, a3, a4, a5⟩ ⟨b0, b1, b2, b3, b4, b5, b6, b7, b8⟩ x y z := by kernel_rfl
theorem vecS (m : G6) (_ : ∀ n ∈ [m.aa, m.bb, m.cc, m.bc, m.ac, m.ab], (Lit.int .i64 n).wf = true) (p : M3) (_ : ∀ n ∈ [p.a, p.b, p.c, p.d, p.e, p.f, p.g, p.h, p.i], (Lit.int .i64 n).wf = true) (x y z : Int) (hu : ∀ n ∈ [x, y, z], (Lit.int .i8 n).wf = true) : PlainSem Try.prog 16 [m.v, p.v, .agg (intsK .i8 [x, y, z]).toArray] (.bool true) :=
  (exFun_sem (C := (Cv Rv Try.prog).at 16) (okv.at 16) (n := 200) Try.func16 (by kernel_rfl) (Or.inl rfl) (by
    intro v hv
    simp only [List.mem_cons, List.not_mem_nil, or_false] at hv
    rcases hv with rfl | rfl | rfl <;> rfl) ((vecRun Rv m.aa m.bb m.cc m.bc m.ac m.ab p.a p.b p.c p.d p.e p.f p.g p.h p.i x y z).trans (tReduceVectors_true m p x y z hu))).1
end Go.Proofs.Ytofblakbfmjgkaa


namespace Go.Proofs.Ytofblakbfmjgkaa
open Go Vx Go.RowKit
def enB (P : Program) : Code := bodyOf P 14
theorem enB_eq : Try.f14.body = some (enB Try.prog) := by kernel_rfl
def enM (m a : G6) (p : M3) : Mem := [.cells true 0 (G6.cells m), .cells true 0 (G6.cells a), .cells true 0 p.cells]
def en5 (m a : G6) (p : M3) (n d : Int) (e : Int) : St := stOf 166 [obPt 1 0, obPt 3 1, obPt 4 2, (5, vI n), (6, vI e), (7, vI d)] (enM m a p)
def en6 (m a : G6) (p : M3) (n d : Int) : St := stOf 166 [obPt 1 0, obPt 3 1, obPt 4 2, (5, vI n), (7, vI d)] (enM m a p)
def en7 (m a : G6) (p : M3) (n d : Int) (b : Bool) : St := stOf 166 [obPt 1 0, obPt 3 1, obPt 4 2, (5, vI n), (7, vI d), (9, .bool b)] (enM m a p)
def en15 (a : G6) (d : Int) : St := stOf 166 [obPt 3 0, (7, vI d)] [.cells true 0 (G6.cells a)]
def enRet (b : Bool) : St := stOf 166 [(2, .bool b)] []
theorem enE1 (R : RV) (m : G6) : segR ((Cv R Try.prog).into 14 0) 60 5 (enB Try.prog) [1, 3, 4, 5, 6, 7] [.slot 1, .slot 3, .slot 4] (enter Try.f14 [m.v] []) = gn (R.K m != R.K m) (some (en5 m (R.G m) (R.P m) (R.N m) (R.D m) (R.K m))) := by kernel_rfl
theorem enE5 (R : RV) (m a : G6) (p : M3) (n d e : Int) : roundR ((Cv R Try.prog).into 14 0) 60 (stmt 5 (enB Try.prog)) [1, 3, 4, 5, 7] [2] [.slot 1, .slot 3, .slot 4] [] (en5 m a p n d e) = (match e != 0 with
  | true => (match a.eqB G6.zero with
    | true => match p.eqB M3.zero with
      | true => some (.ret, enRet (n == 0))
      | false => some (.ret, enRet false)
    | false => some (.ret, enRet false))
  | false => some (.normal, en6 m a p n d)) := by kernel_rfl
theorem enE6 (R : RV) (m a : G6) (p : M3) (n d : Int) : segR ((Cv R Try.prog).into 14 0) 60 1 (seqDrop 6 (enB Try.prog)) [1, 3, 4, 5, 7, 9] [.slot 1, .slot 3, .slot 4] (en6 m a p n d) = some (en7 m a p n d true) := by kernel_rfl
def endS (K : Bool → Option (Exit × St)) : List (Int × Int) → Bool → Option (Exit × St)
  | [], b => K b
  | (x, y) :: l, b => match decide (x > 0) with
    | true => some (.ret, enRet false)
    | false => match b with
      | true => endS K l (decide (y ≤ 0))
      | false => endS K l false
theorem enE7 (R : RV) (m a : G6) (p : M3) (n d : Int) : roundR ((Cv R Try.prog).into 14 0) 60 (stmt 7 (enB Try.prog)) [1, 3, 4, 5, 7, 9] [2] [.slot 1, .slot 3, .slot 4] [] (en7 m a p n d true) =
  endS (fun b => some (.normal, en7 m a p n d b)) [(R.x0 a, R.x0 m), (R.x1 a, R.x1 m), (R.x2 a, R.x2 m), (R.x3 a, R.x3 m), (R.x4 a, R.x4 m), (R.x5 a, R.x5 m)] true := by kernel_rfl
theorem enE8 (R : RV) (m a : G6) (p : M3) (n d : Int) (b : Bool) : roundR ((Cv R Try.prog).into 14 0) 60 (stmt 8 (enB Try.prog)) [1, 3, 4, 5, 7] [2] [.slot 1, .slot 3, .slot 4] [] (en7 m a p n d b) = (match b != (n == 0) with
  | true => some (.ret, enRet false)
  | false => match n == 0 with
    | true => match !(a.eqB m) with
      | true => some (.ret, enRet false)
      | false => match !(p.eqB M3.one) with
        | true => some (.ret, enRet false)
        | false => some (.normal, en6 m a p n d)
    | false => some (.normal, en6 m a p n d)) := by kernel_rfl
theorem enE9 (R : RV) (m a : G6) (p : M3) (n d : Int) : segR ((Cv R Try.prog).into 14 0) 60 6 (seqDrop 9 (enB Try.prog)) [3, 7] [.slot 3] (en6 m a p n d) =
  gn (R.dd p != W (1 - W (2 * Int.tmod n 2))) (gn (!(a.eqB ⟨R.dot m p.c1 p.c1, R.dot m p.c2 p.c2, R.dot m p.c3 p.c3, R.dot m p.c2 p.c3, R.dot m p.c1 p.c3, R.dot m p.c1 p.c2⟩)) (some (en15 a d))) := by kernel_rfl
theorem enE15 (R : RV) (a : G6) (d : Int) : roundR ((Cv R Try.prog).into 14 0) 60 (stmt 15 (enB Try.prog)) [3, 7] [2] [.slot 3] [] (en15 a d) = (match R.K a != 0 with
  | true => some (.ret, enRet true)
  | false => some (.normal, en15 a d)) := by kernel_rfl
theorem enE16 (R : RV) (a : G6) (d : Int) : roundR ((Cv R Try.prog).into 14 0) 60 (seqDrop 16 (enB Try.prog)) [3, 7] [2] [.slot 3] [] (en15 a d) = (match R.K a == 0 with
  | true => some (.ret, enRet (R.D a == d))
  | false => some (.ret, enRet false)) := by kernel_rfl
theorem enRetA (b : Bool) : (retA Try.prog Try.f14 (.ret, enRet b)).res = some (.bool b, []) := by kernel_rfl
theorem enHas : hasStmt 5 (enB Try.prog) = true ∧ hasStmt 7 (enB Try.prog) = true ∧ hasStmt 8 (enB Try.prog) = true ∧ hasStmt 15 (enB Try.prog) = true := ⟨by kernel_rfl, by kernel_rfl, by kernel_rfl, by kernel_rfl⟩
end Go.Proofs.Ytofblakbfmjgkaa


namespace Go.Proofs.Ytofblakbfmjgkaa
open Go Vx Go.RowKit
theorem gn2 {α : Type} {x y : Bool} (h1 : x = false) (h2 : y = false) (s : α) : gn x (gn y (some s)) = some s := by subst h1; subst h2; rfl
theorem endS_eq (K : Bool → Option (Exit × St)) : ∀ (l : List (Int × Int)) (b : Bool), (∀ x ∈ l, x.1 ≤ 0) → endS K l b = K (b && l.all fun x => decide (x.2 ≤ 0))
  | [], b, _ => by simp [endS]
  | (x, y) :: l, b, h => by
    have h1 := h (x, y) (by simp)
    simp only at h1
    have ih := fun b => endS_eq K l b fun x hx => h x (by simp [hx])
    simp only [endS, decide_eq_false (show ¬ x > 0 by omega), ih]
    cases b <;> simp
set_option maxRecDepth 100000 in
theorem enIn {k : Nat} : InBody ((Cv Rv Try.prog).into 14 0) (seqDrop k (enB Try.prog)) := bodyOf_in (C := Cv Rv Try.prog) (f := 14) (B := 0) (k := k) (fn := Try.f14) (b := enB Try.prog) Try.func14 enB_eq
set_option maxRecDepth 100000 in
theorem enInS {k : Nat} : InBody ((Cv Rv Try.prog).into 14 0) (stmt k (enB Try.prog)) := stmt_in (C := Cv Rv Try.prog) (f := 14) (B := 0) (k := k) (fn := Try.f14) (b := enB Try.prog) Try.func14 enB_eq
set_option maxRecDepth 100000 in
theorem enBody (m : G6) : CodeSem Try.prog 0 (enB Try.prog) (enter Try.f14 [m.v] []) .ret (enRet true) := by
  have e1 := enE1 Rv m
  rw [show (Rv.K m != Rv.K m) = false by simp] at e1
  refine seg_rule (C := Cv Rv Try.prog) okv (f := 14) (B := 0) (k := 5) (Or.inl ⟨Try.f14, enB Try.prog, Try.func14, enB_eq, fun _ hx => hx⟩) e1 ?_
  have e5 := enE5 Rv m (Rv.G m) (Rv.P m) (Rv.N m) (Rv.D m) (Rv.K m)
  by_cases h : m.mck = 0
  · rw [show (Rv.K m != 0) = false from (by show (m.mck != 0) = false; rw [h]; rfl)] at e5
    refine stmt_rule enHas.1 (end_rule' (C := Cv Rv Try.prog) okv (f := 14) (B := 0) enInS e5) ?_
    obtain ⟨hb, hp, _⟩ := G6.mck_zero h
    have fs := fin_spec hp hb.sq4
    have hle := fs.le
    have hps := G6.Pos.sq4 fs.pos
    have hb4 := hb.sq4
    have hnn := fs.nn
    have q1 : Rv.G m = m.fin.1 := by show obG m = _; unfold obG; rw [h]; rfl
    have q2 : Rv.P m = m.fin.2.1.w := by show obP m = _; unfold obP; rw [h]; rfl
    have q3 : Rv.N m = m.fin.2.2 := by show obN m = _; unfold obN; rw [h]; rfl
    have q4 : Rv.D m = m.det := by show m.detF = _; unfold G6.detF; rw [h]; rfl
    rw [q1, q2, q3, q4]
    have sb : m.fin.1.sbd = true := fs.pos.sbd (by omega)
    have ob := obt_of fs.obt
    refine seg_rule (C := Cv Rv Try.prog) okv (f := 14) (B := 0) (k := 1) enIn (enE6 Rv m m.fin.1 m.fin.2.1.w m.fin.2.2 m.det) ?_
    rw [seqDrop_drop]
    have e7 := enE7 Rv m m.fin.1 m.fin.2.1.w m.fin.2.2 m.det
    have z1 := sixW_eq sb
    have z2 := sixW_eq (hp.sbd hb4)
    have z : [(Rv.x0 m.fin.1, Rv.x0 m), (Rv.x1 m.fin.1, Rv.x1 m), (Rv.x2 m.fin.1, Rv.x2 m), (Rv.x3 m.fin.1, Rv.x3 m), (Rv.x4 m.fin.1, Rv.x4 m), (Rv.x5 m.fin.1, Rv.x5 m)] = (sixL m.fin.1).zip (sixL m) := by
      rw [← z1, ← z2]; rfl
    have hn := ends_none fs
    rw [z, six_zip, endS_eq _ _ _ (by
      obtain ⟨h0, h1, h2, h3, h4, h5⟩ := ob
      simp only [List.mem_cons, List.not_mem_nil, or_false, forall_eq_or_imp, forall_eq]
      exact ⟨h0, h1, h2, h3, h4, h5⟩), hn] at e7
    refine stmt_rule enHas.2.1 (end_rule' (C := Cv Rv Try.prog) okv (f := 14) (B := 0) enInS e7) ?_
    have e8 := enE8 Rv m m.fin.1 m.fin.2.1.w m.fin.2.2 m.det (m.fin.2.2 == 0)
    have e8 := e8.trans (ends_start fs rfl rfl rfl _ _ _ _)
    refine stmt_rule enHas.2.2.1 (end_rule' (C := Cv Rv Try.prog) okv (f := 14) (B := 0) enInS e8) ?_
    have e9 := enE9 Rv m m.fin.1 m.fin.2.1.w m.fin.2.2 m.det
    have e9 := e9.trans (gn2 (ends_sign fs) (ends_metric fs sb) _)
    refine seg_rule (C := Cv Rv Try.prog) okv (f := 14) (B := 0) (k := 6) enIn e9 ?_
    rw [seqDrop_drop]
    have e15 := enE15 Rv m.fin.1 m.det
    by_cases hk : m.fin.1.mck = 0
    · rw [show (Rv.K m.fin.1 != 0) = false from (by show (m.fin.1.mck != 0) = false; rw [hk]; rfl)] at e15
      refine stmt_rule enHas.2.2.2 (end_rule' (C := Cv Rv Try.prog) okv (f := 14) (B := 0) enInS e15) ?_
      have e16 := enE16 Rv m.fin.1 m.det
      rw [show (Rv.K m.fin.1 == 0) = true from (by show (m.fin.1.mck == 0) = true; rw [hk]; rfl), show (Rv.D m.fin.1 == m.det) = true from (by
        show (m.fin.1.detF == m.det) = true
        have e5 : m.fin.1.detF = m.fin.1.det := by unfold G6.detF; rw [hk]; rfl
        rw [e5, ends_det fs]; simp)] at e16
      exact end_rule' (C := Cv Rv Try.prog) okv (f := 14) (B := 0) enIn e16
    · rw [show (Rv.K m.fin.1 != 0) = true from (bif_beq hk).2] at e15
      exact stmt_out enHas.2.2.2 (end_rule' (C := Cv Rv Try.prog) okv (f := 14) (B := 0) enInS e15) (by simp)
  · have q1 : Rv.G m = G6.zero := by show obG m = _; unfold obG; rw [(bif_beq h).1]; rfl
    have q2 : Rv.P m = M3.zero := by show obP m = _; unfold obP; rw [(bif_beq h).1]; rfl
    have q3 : Rv.N m = 0 := by show obN m = _; unfold obN; rw [(bif_beq h).1]; rfl
    rw [show (Rv.K m != 0) = true from (bif_beq h).2, q1, q2, q3, G6.eqB_refl, M3.eqB_refl] at e5
    rw [q1, q2, q3]
    exact stmt_out enHas.1 (end_rule' (C := Cv Rv Try.prog) okv (f := 14) (B := 0) enInS e5) (by simp)
theorem enS (m : G6) : PlainSem Try.prog 14 [m.v] (.bool true) := by
  have hm : MemSem Try.prog 14 [m.v] [] (.bool true) [] := body_mem (f := 14) Try.func14 enB_eq (by kernel_rfl) (enBody m) (enRetA true)
  exact hm.plain (by intro x hx; simp only [List.mem_cons, List.not_mem_nil, or_false] at hx; rcases hx with rfl; rfl) rfl
theorem enSu (m : G6) (_ : ∀ x ∈ [m.aa, m.bb, m.cc, m.bc, m.ac, m.ab], (Lit.int .i64 x).wf = true) : PlainSem Try.prog 14 [m.v] (.bool true) := enS m
end Go.Proofs.Ytofblakbfmjgkaa


namespace Go.Proofs.Ytofblakbfmjgkaa
open Go Vx Go.RowKit
def faB (P : Program) : Code := bodyOf P 15
theorem faB_eq : Try.f15.body = some (faB Try.prog) := by kernel_rfl
def faX (P : Program) : Code := blkBody (seqDrop 6 (faB P))
def faY (P : Program) : Code := cL (cL (faX P))
theorem faX_eq : faX Try.prog = .seq (.block 1 (faY Try.prog)) (cR (faX Try.prog)) := by kernel_rfl
def fa3 (m l : G6) (n e : Int) : St := stOf 105 [obPt 1 0, obPt 3 1, (5, vI n), (6, vI e)] [.cells true 0 (G6.cells m), .cells true 0 (G6.cells l)]
def faH (l a : G6) (n k : Int) : St := stOf 105 [obPt 3 0, (5, vI n), obPt 11 1, (12, vI k)] [.cells true 0 (G6.cells l), .cells true 0 (G6.cells a)]
def fa1 (l a : G6) (n k : Int) (x : G6) (b : Bool) : St := stOf 105 [obPt 3 0, (5, vI n), obPt 11 1, (12, vI k), obPt 13 2, (15, .bool b)] [.cells true 0 (G6.cells l), .cells true 0 (G6.cells a), .cells true 0 (G6.cells x)]
def fa2 (l a : G6) (n k : Int) (x : G6) : St := stOf 105 [obPt 3 0, (5, vI n), obPt 11 1, (12, vI k), obPt 13 2] [.cells true 0 (G6.cells l), .cells true 0 (G6.cells a), .cells true 0 (G6.cells x)]
def fa4 (l a : G6) (n k : Int) (x : G6) (f : Int) : St := stOf 105 [obPt 3 0, (5, vI n), obPt 11 1, (12, vI k), obPt 13 2, (17, vI f)] [.cells true 0 (G6.cells l), .cells true 0 (G6.cells a), .cells true 0 (G6.cells x)]
def faRet (b : Bool) : St := stOf 105 [(2, .bool b)] []
theorem faE1 (R : RV) (m : G6) : segR ((Cv R Try.prog).into 15 0) 60 3 (faB Try.prog) [1, 3, 5, 6] [.slot 1, .slot 3] (enter Try.f15 [m.v] []) = some (fa3 m (R.G m) (R.N m) (R.K m)) := by kernel_rfl
theorem faE3 (R : RV) (m l : G6) (n e : Int) : roundR ((Cv R Try.prog).into 15 0) 60 (stmt 3 (faB Try.prog)) [1, 3, 5, 6] [2] [.slot 1, .slot 3] [] (fa3 m l n e) = (match e != 0 with
  | true => (match R.K m == e with
    | true => some (.ret, faRet (!(R.sB m)))
    | false => some (.ret, faRet false))
  | false => some (.normal, fa3 m l n e)) := by kernel_rfl
theorem faE4 (R : RV) (m l : G6) (n e : Int) : segR ((Cv R Try.prog).into 15 0) 60 2 (seqDrop 4 (faB Try.prog)) [3, 5, 11, 12] [.slot 3, .slot 11] (fa3 m l n e) = some (faH l m n 0) := by kernel_rfl
theorem faBlk : isBlk 0 (seqDrop 6 (faB Try.prog)) = true := by kernel_rfl
theorem faY0 (R : RV) (l a : G6) (n k : Int) : roundR ((Cv R Try.prog).into 15 0) 60 (stmt 0 (faY Try.prog)) [3, 5, 11, 12] [2] [.slot 3, .slot 11] [] (faH l a n k) = (match R.K a != 0 with
  | true => some (.ret, faRet true)
  | false => match decide (k > 400) with
    | true => some (.ret, faRet true)
    | false => some (.normal, faH l a n k)) := by kernel_rfl
theorem faY1 (R : RV) (l a : G6) (n k : Int) : segR ((Cv R Try.prog).into 15 0) 60 2 (seqDrop 1 (faY Try.prog)) [3, 5, 11, 12, 13, 15] [.slot 3, .slot 11, .slot 13] (faH l a n k) = gn (R.K a != 0) (some (fa1 l a n k (R.sG a) (R.sB a))) := by kernel_rfl
theorem faY3 (R : RV) (l a : G6) (n k : Int) (x : G6) (b : Bool) : roundR ((Cv R Try.prog).into 15 0) 60 (stmt 3 (faY Try.prog)) [3, 5, 11, 12, 13] [2] [.slot 3, .slot 11, .slot 13] [] (fa1 l a n k x b) = (match !b with
  | true => (match a.eqB l with
    | true => (match x.eqB a with
      | true => some (.ret, faRet (k == n))
      | false => some (.ret, faRet false))
    | false => some (.ret, faRet false))
  | false => some (.normal, fa2 l a n k x)) := by kernel_rfl
theorem faY4 (R : RV) (l a : G6) (n k : Int) (x : G6) : segR ((Cv R Try.prog).into 15 0) 60 1 (seqDrop 4 (faY Try.prog)) [3, 5, 11, 12, 13, 17] [.slot 3, .slot 11, .slot 13] (fa2 l a n k x) = some (fa4 l a n k x 0) := by kernel_rfl
def firstS (K : Int → Option (Exit × St)) : List Int → Int → Option (Exit × St)
  | [], f => K f
  | x :: l, f => match f == 0 with
    | true => match decide (x > 0) with
      | true => firstS K l x
      | false => firstS K l f
    | false => firstS K l f
theorem faY5 (R : RV) (l a : G6) (n k : Int) (x : G6) : roundR ((Cv R Try.prog).into 15 0) 60 (stmt 5 (faY Try.prog)) [3, 5, 11, 12, 13, 17] [2] [.slot 3, .slot 11, .slot 13] [] (fa4 l a n k x 0) =
  firstS (fun f => some (.normal, fa4 l a n k x f)) [R.x0 a, R.x1 a, R.x2 a, R.x3 a, R.x4 a, R.x5 a] 0 := by kernel_rfl
def sqW (m : G6) : Int := W (W (2 * W (W (m.aa + m.bb) + m.cc)) + W (2 * W (W (m.ab + m.ac) + m.bc)))
theorem faY6 (R : RV) (l a : G6) (n k : Int) (x : G6) (f : Int) : roundR ((Cv R Try.prog).into 15 0) 60 (stmt 6 (faY Try.prog)) [3, 5, 11, 12, 13] [2] [.slot 3, .slot 11, .slot 13] [] (fa4 l a n k x f) = (match f == 0 with
  | true => some (.ret, faRet false)
  | false => match W (sqW a - sqW x) != W (2 * f) with
    | true => some (.ret, faRet false)
    | false => some (.normal, fa2 l a n k x)) := by kernel_rfl
theorem faY7 (R : RV) (l a : G6) (n k : Int) (x : G6) : roundR ((Cv R Try.prog).into 15 0) 60 (seqDrop 7 (faY Try.prog)) [3, 5, 11, 12] [3, 5, 11, 12] [.slot 3, .slot 11] [.slot 3, .slot 11] (fa2 l a n k x) = some (.normal, faH l x n k) := by kernel_rfl
theorem faZ (R : RV) (l a : G6) (n k : Int) : roundR ((Cv R Try.prog).into 15 0) 60 (cR (faX Try.prog)) [3, 5, 11, 12] [3, 5, 11, 12] [.slot 3, .slot 11] [.slot 3, .slot 11] (faH l a n k) = some (.normal, faH l a n (W (k + 1))) := by kernel_rfl
theorem faRetA (b : Bool) : (retA Try.prog Try.f15 (.ret, faRet b)).res = some (.bool b, []) := by kernel_rfl
theorem faHas : hasStmt 3 (faB Try.prog) = true ∧ hasStmt 0 (faY Try.prog) = true ∧ hasStmt 3 (faY Try.prog) = true ∧ hasStmt 5 (faY Try.prog) = true ∧ hasStmt 6 (faY Try.prog) = true := ⟨by kernel_rfl, by kernel_rfl, by kernel_rfl, by kernel_rfl, by kernel_rfl⟩
end Go.Proofs.Ytofblakbfmjgkaa


namespace Go.Proofs.Ytofblakbfmjgkaa
open Go Vx
def firstV : List Int → Int → Int
  | [], f => f
  | x :: l, f => bif f == 0 then (bif decide (x > 0) then firstV l x else firstV l f) else firstV l f
theorem firstV_pos : ∀ (l : List Int) (f : Int), 0 < f → firstV l f = f
  | [], _, _ => rfl
  | x :: l, f, h => by
    simp only [firstV, show (f == 0) = false by simp; omega, cond_false]
    exact firstV_pos l f h
theorem firstV_skip {x : Int} (l : List Int) (h : ¬ x > 0) : firstV (x :: l) 0 = firstV l 0 := by
  simp only [firstV, decide_eq_false h, cond_false, beq_self_eq_true, cond_true]
theorem firstV_hit {x : Int} (l : List Int) (h : x > 0) : firstV (x :: l) 0 = x := by
  simp only [firstV, decide_eq_true h, beq_self_eq_true, cond_true]
  exact firstV_pos l x h
theorem first_sharp (m : G6) (h : m.sharp.1 > 0) : firstV (sixL m) 0 = m.sharp.1 := by
  unfold sixL
  unfold G6.sharp at h ⊢
  by_cases h0 : m.bc > 0
  · rw [firstV_hit _ h0, decide_eq_true h0]; rfl
  rw [firstV_skip _ h0]; rw [decide_eq_false h0] at h ⊢
  by_cases h1 : m.ac > 0
  · rw [firstV_hit _ h1, decide_eq_true h1]; rfl
  rw [firstV_skip _ h1]; rw [decide_eq_false h1] at h ⊢
  by_cases h2 : m.ab > 0
  · rw [firstV_hit _ h2, decide_eq_true h2]; rfl
  rw [firstV_skip _ h2]; rw [decide_eq_false h2] at h ⊢
  by_cases h3 : m.ad > 0
  · rw [firstV_hit _ h3, decide_eq_true h3]; rfl
  rw [firstV_skip _ h3]; rw [decide_eq_false h3] at h ⊢
  by_cases h4 : m.bd > 0
  · rw [firstV_hit _ h4, decide_eq_true h4]; rfl
  rw [firstV_skip _ h4]; rw [decide_eq_false h4] at h ⊢
  by_cases h5 : m.cd > 0
  · rw [firstV_hit _ h5, decide_eq_true h5]; rfl
  rw [decide_eq_false h5] at h
  exact absurd h (by simp)
theorem sqW_eq' {m : G6} (h : m.sbd = true) : W (W (2 * W (W (m.aa + m.bb) + m.cc)) + W (2 * W (W (m.ab + m.ac) + m.bc))) = m.sq4 := by
  have h := G6.sbd_iff.1 h
  unfold G6.SB at h
  unfold G6.sq4
  rw [W_in (n := m.aa + m.bb) (by omega), W_in (n := m.aa + m.bb + m.cc) (by omega), W_in (n := m.ab + m.ac) (by omega), W_in (n := m.ab + m.ac + m.bc) (by omega), W_in (n := 2 * (m.aa + m.bb + m.cc)) (by omega), W_in (n := 2 * (m.ab + m.ac + m.bc)) (by omega), W_in (by omega)]
theorem walk_free : ∀ (k : Nat) (m : G6) (p q : M3) (n : Int), (G6.walk k m p n).1 = (G6.walk k m q n).1
  | 0, _, _, _, _ => rfl
  | k + 1, m, p, q, n => by
    simp only [G6.walk]
    by_cases h : m.sharp.1 > 0
    · rw [decide_eq_true h]; exact walk_free k _ _ _ _
    · rw [decide_eq_false h]; rfl
theorem walk_freeN : ∀ (k : Nat) (m : G6) (p q : M3) (n : Int), (G6.walk k m p n).2.2 = (G6.walk k m q n).2.2
  | 0, _, _, _, _ => rfl
  | k + 1, m, p, q, n => by
    simp only [G6.walk]
    by_cases h : m.sharp.1 > 0
    · rw [decide_eq_true h]; exact walk_freeN k _ _ _ _
    · rw [decide_eq_false h]; rfl
theorem fall_sq {m : G6} (hp : m.Pos) (hs : m.sq4 ≤ 1200000) : (W ((W (W (2 * W (W (m.aa + m.bb) + m.cc)) + W (2 * W (W (m.ab + m.ac) + m.bc)))) - (W (W (2 * W (W (m.next.aa + m.next.bb) + m.next.cc)) + W (2 * W (W (m.next.ab + m.next.ac) + m.next.bc))))) != W (2 * m.sharp.1)) = false := by
  have e := sq4_next m
  have h0 : 0 ≤ m.sharp.1 := by
    rcases sharp_cases m with ⟨e, _⟩ | ⟨h, _⟩
    · rw [e]; decide
    · omega
  rw [sqW_eq' (hp.sbd hs), sqW_eq' (hp.next.sbd (by omega)), e, show m.sq4 - (m.sq4 - 2 * m.sharp.1) = 2 * m.sharp.1 by omega]
  simp
end Go.Proofs.Ytofblakbfmjgkaa


namespace Go.Proofs.Ytofblakbfmjgkaa
open Go Vx Go.RowKit
theorem Vx.InBody.drop {C : Cx} {c : Code} (h : InBody C c) (k : Nat) : InBody C (seqDrop k c) := h.sub (seqDrop_loops k c)
theorem Vx.InBody.stm {C : Cx} {c : Code} (h : InBody C c) (k : Nat) : InBody C (stmt k c) := h.sub fun x hx => by
  refine seqDrop_loops k c x ?_
  unfold stmt at hx
  cases hc : seqDrop k c with
  | seq p q => rw [hc] at hx; simp only at hx; simp [loopsIn, hx]
  | _ => rw [hc] at hx; simp [loopsIn] at hx
theorem firstS_eq (K : Int → Option (Exit × St)) : ∀ (l : List Int) (f : Int), firstS K l f = K (firstV l f)
  | [], _ => rfl
  | x :: l, f => by
    simp only [firstS, firstV, firstS_eq K l]
    cases f == 0 <;> cases decide (x > 0) <;> rfl
set_option maxRecDepth 100000 in
theorem faIn : InBody ((Cv Rv Try.prog).into 15 0) (seqDrop 0 (faB Try.prog)) := bodyOf_in (C := Cv Rv Try.prog) (f := 15) (B := 0) (k := 0) (fn := Try.f15) (b := faB Try.prog) Try.func15 faB_eq
set_option maxRecDepth 100000 in
theorem faInX : InBody ((Cv Rv Try.prog).into 15 0) (faX Try.prog) := blk_inD (C := Cv Rv Try.prog) (f := 15) (B := 0) (id := 0) (k := 6) (fn := Try.f15) (b := faB Try.prog) Try.func15 faB_eq faBlk
theorem faInY : InBody ((Cv Rv Try.prog).into 15 0) (faY Try.prog) := faInX.left.left
/-- A round that leaves. -/
theorem faOut {l a : G6} {n k : Int} (h : CodeSem Try.prog 0 (faY Try.prog) (faH l a n k) .ret (faRet true)) : CodeSem Try.prog 0 (faX Try.prog) (faH l a n k) .ret (faRet true) := by
  rw [faX_eq]
  exact CodeSem.out (CodeSem.blockR h) (by simp)
theorem faNext {l a x : G6} {n k : Int} (h : CodeSem Try.prog 0 (faY Try.prog) (faH l a n k) .normal (faH l x n k)) : CodeSem Try.prog 0 (faX Try.prog) (faH l a n k) .normal (faH l x n (W (k + 1))) := by
  rw [faX_eq]
  exact CodeSem.seq (CodeSem.blockN h) (end_rule' (C := Cv Rv Try.prog) okv (f := 15) (B := 0) faInX.right (faZ Rv l x n k))
abbrev faG := G6 × Nat
def faInv (l : G6) (n : Int) (g : faG) : Prop := g.1.Pos ∧ g.1.sq4 ≤ 1200000 ∧ g.2 ≤ 401 ∧ (G6.walk g.1.sq4.toNat g.1 M3.one (g.2 : Int)).1 = l ∧ (G6.walk g.1.sq4.toNat g.1 M3.one (g.2 : Int)).2.2 = n
set_option maxRecDepth 100000 in
theorem faLoop (l : G6) (n : Int) : ∀ g : faG, faInv l n g → LoopSem Try.prog 0 (faX Try.prog) (faH l g.1 n (g.2 : Int)) .ret (faRet true) := by
  refine loop_code (σ := faG) (fun g => faH l g.1 n (g.2 : Int)) (fun g => 402 - g.2) (faInv l n) (fun _ => (.ret, faRet true)) ?_
  rintro ⟨a, k⟩ ⟨hp, hs, hk, hl, hn⟩
  simp only at hp hs hk hl hn
  have y0 := faY0 Rv l a n (k : Int)
  by_cases ha : a.mck = 0
  · rw [show (Rv.K a != 0) = false from (by show (a.mck != 0) = false; rw [ha]; rfl)] at y0
    by_cases h4 : (k : Int) > 400
    · rw [decide_eq_true h4] at y0
      right
      exact ⟨faOut (stmt_out faHas.2.1 (end_rule' (C := Cv Rv Try.prog) okv (f := 15) (B := 0) (faInY.stm 0) y0) (by simp)), by simp⟩
    · rw [decide_eq_false h4] at y0
      have y1 := faY1 Rv l a n (k : Int)
      rw [show (Rv.K a != 0) = false from (by show (a.mck != 0) = false; rw [ha]; rfl), show Rv.sG a = a.next from (by show stG a = _; unfold stG; rw [ha]; rfl), show Rv.sB a = decide (a.sharp.1 > 0) from (by show stB a = _; unfold stB; rw [ha]; rfl)] at y1
      have pre : ∀ {e : Exit} {s : St}, CodeSem Try.prog 0 (seqDrop 3 (faY Try.prog)) (fa1 l a n (k : Int) a.next (decide (a.sharp.1 > 0))) e s → CodeSem Try.prog 0 (faY Try.prog) (faH l a n (k : Int)) e s := fun {e s} h =>
        stmt_rule (k := 0) faHas.2.1 (end_rule' (C := Cv Rv Try.prog) okv (f := 15) (B := 0) (faInY.stm 0) y0) (seg_rule (C := Cv Rv Try.prog) okv (f := 15) (B := 0) (k := 2) (faInY.drop 1) y1 (by rw [seqDrop_drop]; exact h))
      have y3 := faY3 Rv l a n (k : Int) a.next (decide (a.sharp.1 > 0))
      by_cases hc : a.sharp.1 > 0
      · left
        rw [decide_eq_true hc] at y3 pre
        simp only [Bool.not_true] at y3
        have e := sq4_next a
        have hd := fin_step hp M3.one (k : Int) hc
        refine ⟨(a.next, k + 1), ?_, ⟨hp.next, by simp only; omega, by simp only; omega, ?_, ?_⟩, by simp only; omega, rfl⟩
        · have y5 := faY5 Rv l a n (k : Int) a.next
          rw [show [Rv.x0 a, Rv.x1 a, Rv.x2 a, Rv.x3 a, Rv.x4 a, Rv.x5 a] = sixL a from sixW_eq (hp.sbd hs), firstS_eq, first_sharp a hc] at y5
          have y6 := faY6 Rv l a n (k : Int) a.next a.sharp.1
          rw [show (a.sharp.1 == 0) = false by simp; omega, show (W (sqW a - sqW a.next) != W (2 * a.sharp.1)) = false from fall_sq hp hs] at y6
          have all : CodeSem Try.prog 0 (faY Try.prog) (faH l a n (k : Int)) .normal (faH l a.next n (k : Int)) := by
            refine pre (stmt_rule faHas.2.2.1 (end_rule' (C := Cv Rv Try.prog) okv (f := 15) (B := 0) (faInY.stm 3) y3) ?_)
            refine seg_rule (C := Cv Rv Try.prog) okv (f := 15) (B := 0) (k := 1) (faInY.drop 4) (faY4 Rv l a n (k : Int) a.next) ?_
            rw [seqDrop_drop]
            refine stmt_rule faHas.2.2.2.1 (end_rule' (C := Cv Rv Try.prog) okv (f := 15) (B := 0) (faInY.stm 5) y5) ?_
            refine stmt_rule faHas.2.2.2.2 (end_rule' (C := Cv Rv Try.prog) okv (f := 15) (B := 0) (faInY.stm 6) y6) ?_
            exact end_rule' (C := Cv Rv Try.prog) okv (f := 15) (B := 0) (faInY.drop 7) (faY7 Rv l a n (k : Int) a.next)
          have := faNext all
          rw [show W ((k : Int) + 1) = ((k + 1 : Nat) : Int) by rw [W_in (by omega)]; simp] at this
          exact this
        · simp only
          rw [← hl, hd, walk_free _ _ M3.one (M3.one.mul a.sharp.2), show (((k + 1 : Nat) : Int)) = (k : Int) + 1 by simp]
        · simp only
          rw [← hn, hd, walk_freeN _ _ M3.one (M3.one.mul a.sharp.2), show (((k + 1 : Nat) : Int)) = (k : Int) + 1 by simp]
      · right
        rw [decide_eq_false hc] at y3 pre
        rw [walk_stop hc] at hl hn
        simp only at hl hn
        have hx : a.next = a := by
          unfold G6.next
          rcases sharp_cases a with ⟨e, _⟩ | ⟨e, _⟩
          · rw [e, turn_one]
          · omega
        rw [hx] at y3 pre
        subst hl
        rw [← hn] at y3 pre ⊢
        simp only [Bool.not_false, G6.eqB_refl] at y3
        rw [show (((k : Nat) : Int) == ((k : Nat) : Int)) = true by simp] at y3
        exact ⟨faOut (pre (stmt_out faHas.2.2.1 (end_rule' (C := Cv Rv Try.prog) okv (f := 15) (B := 0) (faInY.stm 3) y3) (by simp))), by simp⟩
  · rw [show (Rv.K a != 0) = true from (bif_beq ha).2] at y0
    right
    exact ⟨faOut (stmt_out faHas.2.1 (end_rule' (C := Cv Rv Try.prog) okv (f := 15) (B := 0) (faInY.stm 0) y0) (by simp)), by simp⟩
set_option maxRecDepth 100000 in
theorem faBody (m : G6) : CodeSem Try.prog 0 (faB Try.prog) (enter Try.f15 [m.v] []) .ret (faRet true) := by
  refine seg_rule (C := Cv Rv Try.prog) okv (f := 15) (B := 0) (k := 3) (Or.inl ⟨Try.f15, faB Try.prog, Try.func15, faB_eq, fun _ hx => hx⟩) (faE1 Rv m) ?_
  have e3 := faE3 Rv m (Rv.G m) (Rv.N m) (Rv.K m)
  by_cases h : m.mck = 0
  · rw [show (Rv.K m != 0) = false from (by show (m.mck != 0) = false; rw [h]; rfl)] at e3
    obtain ⟨hb, hp, _⟩ := G6.mck_zero h
    refine stmt_rule faHas.1 (end_rule' (C := Cv Rv Try.prog) okv (f := 15) (B := 0) (Vx.InBody.stm (c := faB Try.prog) faIn 3) e3) ?_
    refine seg_rule (C := Cv Rv Try.prog) okv (f := 15) (B := 0) (k := 2) (Vx.InBody.drop (c := faB Try.prog) faIn 4) (faE4 Rv m (Rv.G m) (Rv.N m) (Rv.K m)) ?_
    rw [seqDrop_drop]
    refine blk_ret faBlk ?_
    refine faLoop (Rv.G m) (Rv.N m) (m, 0) ⟨hp, hb.sq4, by simp, ?_, ?_⟩
    · show m.fin.1 = obG m; unfold obG; rw [h]; rfl
    · show m.fin.2.2 = obN m; unfold obN; rw [h]; rfl
  · rw [show (Rv.K m != 0) = true from (bif_beq h).2, show (Rv.K m == Rv.K m) = true by simp, show Rv.sB m = false from (by show stB m = _; unfold stB; rw [(bif_beq h).1]; rfl)] at e3
    exact stmt_out faHas.1 (end_rule' (C := Cv Rv Try.prog) okv (f := 15) (B := 0) (Vx.InBody.stm (c := faB Try.prog) faIn 3) e3) (by simp)
theorem faS (m : G6) (_ : ∀ x ∈ [m.aa, m.bb, m.cc, m.bc, m.ac, m.ab], (Lit.int .i64 x).wf = true) : PlainSem Try.prog 15 [m.v] (.bool true) := by
  have hm : MemSem Try.prog 15 [m.v] [] (.bool true) [] := body_mem (f := 15) Try.func15 faB_eq (by kernel_rfl) (faBody m) (faRetA true)
  exact hm.plain (by intro x hx; simp only [List.mem_cons, List.not_mem_nil, or_false] at hx; rcases hx with rfl; rfl) rfl
end Go.Proofs.Ytofblakbfmjgkaa
