/-
  group.Centring of lists of any length; facetlaw14.AbsentParts, run. Nothing here is trusted.
-/
import Derived.Test.YtjpfnfckpgilgaaHTCo3
import Derived.Test.YtjpfnfckpgilgaaHGrpM
import Derived.Test.YtjpfnfckpgilgaaKal
namespace Go.Proofs.Ytjpfnfckpgilgaa
open Go Vx Go.RowKit
def ctwF : List Value → Mem → Option (Ans (Value × Mem))
  | [.slice none 0 0], [] => some (.out (nilE 5, [.no]))
  | [.slice (some ⟨0, 0, some 0⟩) N 12], [.rows own true 12 N2 row] => some (.br (Nat.beq N N2 && okOps N row) (.br (chkI (opsOf N row) != 0) (.out (nilE (chkI (opsOf N row)), [.rows own true 12 N (opRow (opsOf N row)), .no])) (.out (.tuple #[.slice (some ⟨1, 0, some 0⟩) (cens (opsOf N row)).length 3, vI 0], [.rows own true 12 N (opRow (opsOf N row)), .rows true true 3 (cens (opsOf N row)).length (vcRow (cens (opsOf N row)))]))) .fail)
  | _, _ => none
theorem ctwS {args : List Value} {m : Mem} {ans : Ans (Value × Mem)} {v : Value} {m' : Mem} (h : ctwF args m = some ans) (hr : ans.res = some (v, m')) : MemSem Try.prog 33 args m v m' := by
  unfold ctwF at h
  split at h
  · simp only [Option.some.injEq] at h
    subst h
    simp only [Ans.res, Option.some.injEq, Prod.mk.injEq] at hr
    obtain ⟨rfl, rfl⟩ := hr
    exact exT_ok okpa Try.func33 (by kernel_rfl) ctE0
  · rename_i N own N2 row
    simp only [Option.some.injEq] at h
    subst h
    rcases Ans.br_some hr with ⟨hc, hr1⟩ | ⟨_, hr1⟩
    rotate_left
    · simp [Ans.res] at hr1
    clear hr
    simp only [Bool.and_eq_true] at hc
    obtain ⟨c1, c2⟩ := hc
    have c1 := beq_len c1
    subst c1
    have hl := opsOf_length N row
    have hE := ctE1 own N (opsOf N row)
    have tg : oT N (opRow (opsOf N row)) = true := by unfold oT; rw [Nat.beq_refl, okOps_opRow]; simp
    rw [opsOf_row hl, opsOf_row hl, tg] at hE
    simp only [gd_true] at hE
    rcases Ans.br_some hr1 with ⟨hq, hr2⟩ | ⟨hq, hr2⟩
    · rw [hq] at hE
      simp only [Ans.res, Option.some.injEq, Prod.mk.injEq] at hr2
      obtain ⟨rfl, rfl⟩ := hr2
      exact (exT_ok okpa Try.func33 (by kernel_rfl) hE).like ⟨.rows (ops_like c2), trivial⟩
    · rw [hq] at hE
      have h0 : chkI (opsOf N row) = 0 := by simpa using hq
      have hN := (chk_len h0).1
      rw [hl] at hN
      have ht : partT3 N (opRow (opsOf N row)) = true := by unfold partT3; rw [Nat.beq_refl, okOps_opRow, isO_cells, decO_cells, O3.eqB_refl]; simp; omega
      have hQ : bld (fun i => (atO (opsOf N row) i).r.eqB M3.one) (fun i => (atO (opsOf N row) i).t) N 0 [] = cens (opsOf N row) := by unfold cens; rw [hl]
      rw [ht, hQ] at hE
      simp only [gd_true] at hE
      unfold endV at hE
      rw [cens_ne h0] at hE
      simp only [Ans.res, Option.some.injEq, Prod.mk.injEq] at hr2
      obtain ⟨rfl, rfl⟩ := hr2
      exact (exT_ok okpa Try.func33 (by kernel_rfl) hE).like ⟨.rows (ops_like c2), trivial⟩
  · cases h

def Cpx (P : Program) : Cx := ((Cas P).addF 33 ctwF).lend 35
theorem okpx : CxOk (Cpx Try.prog) := Cx.lend_ok (Cx.addF_ok okas fun _ _ _ _ _ h hr => ctwS h hr) _
def Cpg2 (P : Program) : Cx := (Cpx P).good 33 [true, false]
theorem okpg2 : CxOk (Cpg2 Try.prog) := Cx.good_ok okpx _ _
def Cpe2 (P : Program) : Cx := (Cpx P).road 33 [true, true]
theorem okpe2 : CxOk (Cpe2 Try.prog) := Cx.road_ok okpx _ _
def Cpc (P : Program) : Cx := (Cpx P).good 36 [true, true]
theorem okpc : CxOk (Cpc Try.prog) := Cx.good_ok okpx _ _
def paB (P : Program) : Code := bodyOf P 8
theorem paB_eq : Try.f8.body = some (paB Try.prog) := by kernel_rfl
/-- The phase of a translation. -/
def trI (h v : V3) : Int := W (W (W (h.x * v.x) + W (h.y * v.y)) + W (h.z * v.z)) % 24
def bI (n : Nat) (row : Nat → List Value) : Bool := Nat.beq n n && (okOps n row && decide (n ≤ 4611686018427387904))
def rT (q : Nat) : Bool := Nat.beq q q && (decide ((q + 1) * 96 ≤ 2 ^ 47) && decide (q + 1 ≤ 2 ^ 62))
theorem paFor : isFor 0 (stmt 5 (paB Try.prog)) = true ∧ isFor 2 (stmt 7 (paB Try.prog)) = true := ⟨by kernel_rfl, by kernel_rfl⟩
theorem paHas : hasStmt 4 (paB Try.prog) = true ∧ hasStmt 5 (paB Try.prog) = true ∧ hasStmt 7 (paB Try.prog) = true := ⟨by kernel_rfl, by kernel_rfl, by kernel_rfl⟩

def pbX (own : Bool) (n : Nat) (xs : List O3) (_ : V3) (s : Bool) (e f : Int) : St := stOf 117 [(6, .bool false), (7, .bool s), (8, vI e), (10, vI f)] [.rows own true 12 n (opRow xs)]
def pbO (own : Bool) (n : Nat) (xs : List O3) (_ : V3) (b : Bool) : St := stOf 117 [(6, .bool b)] [.rows own true 12 n (opRow xs)]
def pb5 (own : Bool) (n : Nat) (xs : List O3) (h : V3) (s : Bool) (k : Nat) (C : List V3) : St := stOf 117 [(0, .slice (some ⟨0, 0, some 0⟩) n 12), (1, .slice none 0 0), (5, .pointer (some ⟨1, 0, none⟩)), (6, .bool false), (7, .bool s), (9, .slice (some ⟨2, 0, some 0⟩) k 3)] [.rows own true 12 n (opRow xs), .cells true 0 h.cells, .rows true true 3 k (vcRow C)]
def pbH (own : Bool) (n : Nat) (xs : List O3) (h : V3) (s : Bool) (k : Nat) (C : List V3) (j : Int) : St := stOf 117 [(0, .slice (some ⟨0, 0, some 0⟩) n 12), (1, .slice none 0 0), (5, .pointer (some ⟨1, 0, none⟩)), (6, .bool false), (7, .bool s), (41, .slice (some ⟨2, 0, some 0⟩) k 3), (42, vI k), (43, vI j)] [.rows own true 12 n (opRow xs), .cells true 0 h.cells, .rows true true 3 k (vcRow C)]
def pbZ (own : Bool) (n : Nat) (xs : List O3) (h : V3) (s : Bool) : St := stOf 117 [(0, .slice (some ⟨0, 0, some 0⟩) n 12), (1, .slice none 0 0), (5, .pointer (some ⟨1, 0, none⟩)), (6, .bool false), (7, .bool s)] [.rows own true 12 n (opRow xs), .cells true 0 h.cells]
theorem pbPe (own : Bool) (n : Nat) (xs : List O3) (h : V3) : segR ((Cpe2 Try.prog).into 8 1) 60 4 (paB Try.prog) [6, 7, 8, 10] [.fix 0] (enter Try.f8 [.slice (some ⟨0, 0, some 0⟩) n 12, .slice none 0 0, h.v] [.rows own true 12 n (opRow xs)]) = gd (lk n) (gd (ghT alwB n (opRow xs) h) (gd (lk n) (gd (oT n (opRow xs)) (gd (chkI (opsOf n (opRow xs)) != 0) (some (pbX own n xs h (isb (opsOf n (opRow xs)) h) (acI (opsOf n (opRow xs)) h) (chkI (opsOf n (opRow xs))))))))) := by kernel_rfl
theorem pbPg (own : Bool) (n : Nat) (xs : List O3) (h : V3) : segR ((Cpg2 Try.prog).into 8 1) 60 4 (paB Try.prog) [6, 7, 8, 10] [.fix 0] (enter Try.f8 [.slice (some ⟨0, 0, some 0⟩) n 12, .slice none 0 0, h.v] [.rows own true 12 n (opRow xs)]) = gd (lk n) (gd (ghT alwB n (opRow xs) h) (gd (lk n) (gd (oT n (opRow xs)) (gn (chkI (opsOf n (opRow xs)) != 0) (some (pbX own n xs h (isb (opsOf n (opRow xs)) h) (acI (opsOf n (opRow xs)) h) 0)))))) := by kernel_rfl
theorem pbR4 (own : Bool) (n : Nat) (xs : List O3) (h : V3) (s : Bool) (e f : Int) : roundR ((Cpx Try.prog).into 8 1) 60 (stmt 4 (paB Try.prog)) [6] [6] [.fix 0] [.fix 0] (pbX own n xs h s e f) = (match e != 0 with
    | true => some (.ret, pbO own n xs h (!s))
    | false => match f != 0 with
      | true => some (.ret, pbO own n xs h (!s))
      | false => some (.normal, pbO own n xs h false)) := by kernel_rfl
theorem pbPo (own : Bool) (n : Nat) (xs : List O3) (h : V3) : segR ((Cpg2 Try.prog).into 8 1) 60 5 (paB Try.prog) [0, 1, 5, 6, 7, 9] [.fix 0, .slot 5, .slot 9] (enter Try.f8 [.slice (some ⟨0, 0, some 0⟩) n 12, .slice none 0 0, h.v] [.rows own true 12 n (opRow xs)]) = gd (lk n) (gd (ghT alwB n (opRow xs) h) (gd (lk n) (gd (oT n (opRow xs)) (gn (chkI (opsOf n (opRow xs)) != 0) (gn (acI (opsOf n (opRow xs)) h != 0) (some (pb5 own n xs h (isb (opsOf n (opRow xs)) h) (cens (opsOf n (opRow xs))).length (cens (opsOf n (opRow xs)))))))))) := by kernel_rfl
theorem pbHd (own : Bool) (n : Nat) (xs : List O3) (h : V3) (s : Bool) (k : Nat) (C : List V3) : roundR ((Cpx Try.prog).into 8 1) 60 (forHead (stmt 5 (paB Try.prog))) [0, 1, 5, 6, 7, 41, 42, 43] [0, 1, 5, 6, 7, 41, 42, 43] [.fix 0, .slot 5, .slot 41] [.fix 0, .slot 5, .slot 41] (pb5 own n xs h s k C) = some (.normal, pbH own n xs h s k C 0) := by kernel_rfl
theorem pbR5 (own : Bool) (n : Nat) (xs : List O3) (h : V3) (s : Bool) (k : Nat) (C : List V3) (j : Nat) : roundR ((Cpx Try.prog).into 8 1) 60 (forBody (stmt 5 (paB Try.prog))) [0, 1, 5, 6, 7, 41, 42, 43] [0, 1, 5, 6, 7] [.fix 0, .slot 5, .slot 41] [.fix 0, .slot 5] (pbH own n xs h s k C (j : Int)) =
    (match decide ((j : Int) < (k : Int)) with
    | true => gd (boundsI (j : Int) k) (match trI h (atV C j) != 0 with
      | true => (match !s with
        | true => some (.ret, pbZ own n xs h s)
        | false => some (.normal, pbH own n xs h s k C (W ((j : Int) + 1))))
      | false => some (.normal, pbH own n xs h s k C (W ((j : Int) + 1))))
    | false => some (.exit 0, pbZ own n xs h s)) := by kernel_rfl
def pbQ0 (own : Bool) (n : Nat) (xs : List O3) (h : V3) (s : Bool) : St := stOf 117 [(0, .slice (some ⟨0, 0, some 0⟩) n 12), (5, .pointer (some ⟨1, 0, none⟩)), (6, .bool false), (7, .bool s), (13, .slice none 0 0)] [.rows own true 12 n (opRow xs), .cells true 0 h.cells, .no]
def pbW (own : Bool) (n : Nat) (xs : List O3) (_ : V3) (s : Bool) (e : Int) (b : Bool) : St := stOf 117 [(6, .bool false), (7, .bool s), (8, vI e), (19, .bool b)] [.rows own true 12 n (opRow xs)]
theorem pbC0 (own : Bool) (n : Nat) (xs : List O3) (h : V3) (s : Bool) : segR ((Cpc Try.prog).into 8 1) 60 3 (seqDrop 8 (paB Try.prog)) [6, 7, 8, 19] [.fix 0] (pbQ0 own n xs h s) = gd (lk 1) (gd (ghT alwB 1 (opRow [O3.one]) h) (some (pbW own n xs h s (acI (opsOf 1 (opRow [O3.one])) h) (isb (opsOf 1 (opRow [O3.one])) h)))) := by kernel_rfl
theorem pbEn (own : Bool) (n : Nat) (xs : List O3) (h : V3) (s : Bool) (e : Int) (b : Bool) : roundR ((Cpx Try.prog).into 8 1) 60 (seqDrop 11 (paB Try.prog)) [6] [6] [.fix 0] [.fix 0] (pbW own n xs h s e b) = (match e == 0 with
    | true => match !b with
      | true => some (.ret, pbO own n xs h true)
      | false => some (.ret, pbO own n xs h s)
    | false => some (.ret, pbO own n xs h false)) := by kernel_rfl
theorem pbRt (own : Bool) (n : Nat) (xs : List O3) (h : V3) : (retA Try.prog Try.f8 (.ret, pbO own n xs h true)).res = some (.bool true, [.rows own true 12 n (opRow xs)]) := by kernel_rfl
theorem pbN (own : Bool) (n : Nat) (xs : List O3) (h : V3) (s : Bool) : segR ((Cpx Try.prog).into 8 1) 60 2 (seqDrop 6 (paB Try.prog)) [0, 5, 6, 7, 13] [.fix 0, .slot 5, .slot 13] (pbZ own n xs h s) = some (pbQ0 own n xs h s) := by kernel_rfl

def pcX (own own2 : Bool) (n m : Nat) (xs ys : List O3) (_ : V3) (s : Bool) (e f : Int) : St := stOf 117 [(6, .bool false), (7, .bool s), (8, vI e), (10, vI f)] [.rows own true 12 n (opRow xs), .rows own2 true 12 m (opRow ys)]
def pcO (own own2 : Bool) (n m : Nat) (xs ys : List O3) (_ : V3) (b : Bool) : St := stOf 117 [(6, .bool b)] [.rows own true 12 n (opRow xs), .rows own2 true 12 m (opRow ys)]
def pc5 (own own2 : Bool) (n m : Nat) (xs ys : List O3) (h : V3) (s : Bool) (k : Nat) (C : List V3) : St := stOf 117 [(0, .slice (some ⟨0, 0, some 0⟩) n 12), (1, .slice (some ⟨1, 0, some 0⟩) m 12), (5, .pointer (some ⟨2, 0, none⟩)), (6, .bool false), (7, .bool s), (9, .slice (some ⟨3, 0, some 0⟩) k 3)] [.rows own true 12 n (opRow xs), .rows own2 true 12 m (opRow ys), .cells true 0 h.cells, .rows true true 3 k (vcRow C)]
def pcH (own own2 : Bool) (n m : Nat) (xs ys : List O3) (h : V3) (s : Bool) (k : Nat) (C : List V3) (j : Int) : St := stOf 117 [(0, .slice (some ⟨0, 0, some 0⟩) n 12), (1, .slice (some ⟨1, 0, some 0⟩) m 12), (5, .pointer (some ⟨2, 0, none⟩)), (6, .bool false), (7, .bool s), (41, .slice (some ⟨3, 0, some 0⟩) k 3), (42, vI k), (43, vI j)] [.rows own true 12 n (opRow xs), .rows own2 true 12 m (opRow ys), .cells true 0 h.cells, .rows true true 3 k (vcRow C)]
def pcZ (own own2 : Bool) (n m : Nat) (xs ys : List O3) (h : V3) (s : Bool) : St := stOf 117 [(0, .slice (some ⟨0, 0, some 0⟩) n 12), (1, .slice (some ⟨1, 0, some 0⟩) m 12), (5, .pointer (some ⟨2, 0, none⟩)), (6, .bool false), (7, .bool s)] [.rows own true 12 n (opRow xs), .rows own2 true 12 m (opRow ys), .cells true 0 h.cells]
theorem pcPe (own own2 : Bool) (n m : Nat) (xs ys : List O3) (h : V3) : segR ((Cpe2 Try.prog).into 8 2) 60 4 (paB Try.prog) [6, 7, 8, 10] [.fix 0, .fix 1] (enter Try.f8 [.slice (some ⟨0, 0, some 0⟩) n 12, .slice (some ⟨1, 0, some 0⟩) m 12, h.v] [.rows own true 12 n (opRow xs), .rows own2 true 12 m (opRow ys)]) = gd (lk n) (gd (ghT alwB n (opRow xs) h) (gd (lk n) (gd (oT n (opRow xs)) (gd (chkI (opsOf n (opRow xs)) != 0) (some (pcX own own2 n m xs ys h (isb (opsOf n (opRow xs)) h) (acI (opsOf n (opRow xs)) h) (chkI (opsOf n (opRow xs))))))))) := by kernel_rfl
theorem pcPg (own own2 : Bool) (n m : Nat) (xs ys : List O3) (h : V3) : segR ((Cpg2 Try.prog).into 8 2) 60 4 (paB Try.prog) [6, 7, 8, 10] [.fix 0, .fix 1] (enter Try.f8 [.slice (some ⟨0, 0, some 0⟩) n 12, .slice (some ⟨1, 0, some 0⟩) m 12, h.v] [.rows own true 12 n (opRow xs), .rows own2 true 12 m (opRow ys)]) = gd (lk n) (gd (ghT alwB n (opRow xs) h) (gd (lk n) (gd (oT n (opRow xs)) (gn (chkI (opsOf n (opRow xs)) != 0) (some (pcX own own2 n m xs ys h (isb (opsOf n (opRow xs)) h) (acI (opsOf n (opRow xs)) h) 0)))))) := by kernel_rfl
theorem pcR4 (own own2 : Bool) (n m : Nat) (xs ys : List O3) (h : V3) (s : Bool) (e f : Int) : roundR ((Cpx Try.prog).into 8 2) 60 (stmt 4 (paB Try.prog)) [6] [6] [.fix 0, .fix 1] [.fix 0, .fix 1] (pcX own own2 n m xs ys h s e f) = (match e != 0 with
    | true => some (.ret, pcO own own2 n m xs ys h (!s))
    | false => match f != 0 with
      | true => some (.ret, pcO own own2 n m xs ys h (!s))
      | false => some (.normal, pcO own own2 n m xs ys h false)) := by kernel_rfl
theorem pcPo (own own2 : Bool) (n m : Nat) (xs ys : List O3) (h : V3) : segR ((Cpg2 Try.prog).into 8 2) 60 5 (paB Try.prog) [0, 1, 5, 6, 7, 9] [.fix 0, .fix 1, .slot 5, .slot 9] (enter Try.f8 [.slice (some ⟨0, 0, some 0⟩) n 12, .slice (some ⟨1, 0, some 0⟩) m 12, h.v] [.rows own true 12 n (opRow xs), .rows own2 true 12 m (opRow ys)]) = gd (lk n) (gd (ghT alwB n (opRow xs) h) (gd (lk n) (gd (oT n (opRow xs)) (gn (chkI (opsOf n (opRow xs)) != 0) (gn (acI (opsOf n (opRow xs)) h != 0) (some (pc5 own own2 n m xs ys h (isb (opsOf n (opRow xs)) h) (cens (opsOf n (opRow xs))).length (cens (opsOf n (opRow xs)))))))))) := by kernel_rfl
theorem pcHd (own own2 : Bool) (n m : Nat) (xs ys : List O3) (h : V3) (s : Bool) (k : Nat) (C : List V3) : roundR ((Cpx Try.prog).into 8 2) 60 (forHead (stmt 5 (paB Try.prog))) [0, 1, 5, 6, 7, 41, 42, 43] [0, 1, 5, 6, 7, 41, 42, 43] [.fix 0, .fix 1, .slot 5, .slot 41] [.fix 0, .fix 1, .slot 5, .slot 41] (pc5 own own2 n m xs ys h s k C) = some (.normal, pcH own own2 n m xs ys h s k C 0) := by kernel_rfl
theorem pcR5 (own own2 : Bool) (n m : Nat) (xs ys : List O3) (h : V3) (s : Bool) (k : Nat) (C : List V3) (j : Nat) : roundR ((Cpx Try.prog).into 8 2) 60 (forBody (stmt 5 (paB Try.prog))) [0, 1, 5, 6, 7, 41, 42, 43] [0, 1, 5, 6, 7] [.fix 0, .fix 1, .slot 5, .slot 41] [.fix 0, .fix 1, .slot 5] (pcH own own2 n m xs ys h s k C (j : Int)) =
    (match decide ((j : Int) < (k : Int)) with
    | true => gd (boundsI (j : Int) k) (match trI h (atV C j) != 0 with
      | true => (match !s with
        | true => some (.ret, pcZ own own2 n m xs ys h s)
        | false => some (.normal, pcH own own2 n m xs ys h s k C (W ((j : Int) + 1))))
      | false => some (.normal, pcH own own2 n m xs ys h s k C (W ((j : Int) + 1))))
    | false => some (.exit 0, pcZ own own2 n m xs ys h s)) := by kernel_rfl
def pcQ0 (own own2 : Bool) (n m : Nat) (xs ys : List O3) (h : V3) (s : Bool) : St := stOf 117 [(0, .slice (some ⟨0, 0, some 0⟩) n 12), (5, .pointer (some ⟨2, 0, none⟩)), (6, .bool false), (7, .bool s), (13, .slice none 0 0)] [.rows own true 12 n (opRow xs), .rows own2 true 12 m (opRow ys), .cells true 0 h.cells, .no]
def pcW (own own2 : Bool) (n m : Nat) (xs ys : List O3) (_ : V3) (s : Bool) (e : Int) (b : Bool) : St := stOf 117 [(6, .bool false), (7, .bool s), (8, vI e), (19, .bool b)] [.rows own true 12 n (opRow xs), .rows own2 true 12 m (opRow ys)]
theorem pcC0 (own own2 : Bool) (n m : Nat) (xs ys : List O3) (h : V3) (s : Bool) : segR ((Cpc Try.prog).into 8 2) 60 3 (seqDrop 8 (paB Try.prog)) [6, 7, 8, 19] [.fix 0, .fix 1] (pcQ0 own own2 n m xs ys h s) = gd (lk 1) (gd (ghT alwB 1 (opRow [O3.one]) h) (some (pcW own own2 n m xs ys h s (acI (opsOf 1 (opRow [O3.one])) h) (isb (opsOf 1 (opRow [O3.one])) h)))) := by kernel_rfl
theorem pcEn (own own2 : Bool) (n m : Nat) (xs ys : List O3) (h : V3) (s : Bool) (e : Int) (b : Bool) : roundR ((Cpx Try.prog).into 8 2) 60 (seqDrop 11 (paB Try.prog)) [6] [6] [.fix 0, .fix 1] [.fix 0, .fix 1] (pcW own own2 n m xs ys h s e b) = (match e == 0 with
    | true => match !b with
      | true => some (.ret, pcO own own2 n m xs ys h true)
      | false => some (.ret, pcO own own2 n m xs ys h s)
    | false => some (.ret, pcO own own2 n m xs ys h false)) := by kernel_rfl
theorem pcRt (own own2 : Bool) (n m : Nat) (xs ys : List O3) (h : V3) : (retA Try.prog Try.f8 (.ret, pcO own own2 n m xs ys h true)).res = some (.bool true, [.rows own true 12 n (opRow xs), .rows own2 true 12 m (opRow ys)]) := by kernel_rfl
def pc6 (own own2 : Bool) (n m : Nat) (xs ys : List O3) (h : V3) (s : Bool) : St := stOf 117 [(0, .slice (some ⟨0, 0, some 0⟩) n 12), (1, .slice (some ⟨1, 0, some 0⟩) m 12), (5, .pointer (some ⟨2, 0, none⟩)), (6, .bool false), (7, .bool s), (13, .slice none 0 0)] [.rows own true 12 n (opRow xs), .rows own2 true 12 m (opRow ys), .cells true 0 h.cells, .no]
def pcL0 (own own2 : Bool) (n m : Nat) (xs ys : List O3) (h : V3) (s : Bool) (i : Int) : St := stOf 117 [(0, .slice (some ⟨0, 0, some 0⟩) n 12), (5, .pointer (some ⟨2, 0, none⟩)), (6, .bool false), (7, .bool s), (13, .slice none 0 0), (71, .slice (some ⟨1, 0, some 0⟩) m 12), (72, vI m), (73, vI i)] [.rows own true 12 n (opRow xs), .rows own2 true 12 m (opRow ys), .cells true 0 h.cells, .no]
def pcL1 (own own2 : Bool) (n m : Nat) (xs ys : List O3) (h : V3) (s : Bool) (q : Nat) (r : Nat → List Value) (i : Int) : St := stOf 117 [(0, .slice (some ⟨0, 0, some 0⟩) n 12), (5, .pointer (some ⟨2, 0, none⟩)), (6, .bool false), (7, .bool s), (13, .slice (some ⟨3, 0, some 0⟩) q 12), (71, .slice (some ⟨1, 0, some 0⟩) m 12), (72, vI m), (73, vI i)] [.rows own true 12 n (opRow xs), .rows own2 true 12 m (opRow ys), .cells true 0 h.cells, .rows true true 12 q r]
def pcQ1 (own own2 : Bool) (n m : Nat) (xs ys : List O3) (h : V3) (s : Bool) (q : Nat) (r : Nat → List Value) : St := stOf 117 [(0, .slice (some ⟨0, 0, some 0⟩) n 12), (5, .pointer (some ⟨2, 0, none⟩)), (6, .bool false), (7, .bool s), (13, .slice (some ⟨3, 0, some 0⟩) q 12)] [.rows own true 12 n (opRow xs), .rows own2 true 12 m (opRow ys), .cells true 0 h.cells, .rows true true 12 q r]
theorem pcS6 (own own2 : Bool) (n m : Nat) (xs ys : List O3) (h : V3) (s : Bool) : segR ((Cpx Try.prog).into 8 2) 60 1 (seqDrop 6 (paB Try.prog)) [0, 1, 5, 6, 7, 13] [.fix 0, .fix 1, .slot 5, .slot 13] (pcZ own own2 n m xs ys h s) = some (pc6 own own2 n m xs ys h s) := by kernel_rfl
theorem pcHd7 (own own2 : Bool) (n m : Nat) (xs ys : List O3) (h : V3) (s : Bool) : roundR ((Cpx Try.prog).into 8 2) 60 (forHead (stmt 7 (paB Try.prog))) [0, 5, 6, 7, 13, 71, 72, 73] [0, 5, 6, 7, 13, 71, 72, 73] [.fix 0, .fix 1, .slot 5, .slot 13] [.fix 0, .fix 1, .slot 5, .slot 13] (pc6 own own2 n m xs ys h s) = some (.normal, pcL0 own own2 n m xs ys h s 0) := by kernel_rfl
theorem pcR70 (own own2 : Bool) (n m : Nat) (xs ys : List O3) (h : V3) (s : Bool) (i : Nat) : roundR ((Cpx Try.prog).into 8 2) 60 (forBody (stmt 7 (paB Try.prog))) [0, 5, 6, 7, 13, 71, 72, 73] [0, 5, 6, 7, 13] [.fix 0, .fix 1, .slot 5, .slot 13] [.fix 0, .fix 1, .slot 5, .slot 13] (pcL0 own own2 n m xs ys h s (i : Int)) =
    (match decide ((i : Int) < (m : Int)) with
    | true => gd (boundsI (i : Int) m) (gd (lk n) (gd (bI n (opRow xs)) (match fndE (opsOf n (opRow xs)) (atO ys (i : Int)) == 0 with
      | true => some (.normal, pcL1 own own2 n m xs ys h s 1 (chop 12 0 (atO ys (i : Int)).cells) (W ((i : Int) + 1)))
      | false => some (.normal, pcL0 own own2 n m xs ys h s (W ((i : Int) + 1))))))
    | false => some (.exit 2, pcQ0 own own2 n m xs ys h s)) := by kernel_rfl
theorem pcR71 (own own2 : Bool) (n m : Nat) (xs ys : List O3) (h : V3) (s : Bool) (q : Nat) (P : List O3) (i : Nat) : roundR ((Cpx Try.prog).into 8 2) 60 (forBody (stmt 7 (paB Try.prog))) [0, 5, 6, 7, 13, 71, 72, 73] [0, 5, 6, 7, 13] [.fix 0, .fix 1, .slot 5, .slot 13] [.fix 0, .fix 1, .slot 5, .slot 13] (pcL1 own own2 n m xs ys h s q (opRow P) (i : Int)) =
    (match decide ((i : Int) < (m : Int)) with
    | true => gd (boundsI (i : Int) m) (gd (lk n) (gd (bI n (opRow xs)) (match fndE (opsOf n (opRow xs)) (atO ys (i : Int)) == 0 with
      | true => (match decide ((q : Int) < 4) with
        | true => gd (rT q) (some (.normal, pcL1 own own2 n m xs ys h s (q + 1) (catR q (opRow P) (chop 12 0 (atO ys (i : Int)).cells)) (W ((i : Int) + 1))))
        | false => some (.normal, pcL1 own own2 n m xs ys h s q (opRow P) (W ((i : Int) + 1))))
      | false => some (.normal, pcL1 own own2 n m xs ys h s q (opRow P) (W ((i : Int) + 1))))))
    | false => some (.exit 2, pcQ1 own own2 n m xs ys h s q (opRow P))) := by kernel_rfl
theorem pcC1 (own own2 : Bool) (n m : Nat) (xs ys : List O3) (h : V3) (s : Bool) (q : Nat) (P : List O3) : segR ((Cpc Try.prog).into 8 2) 60 3 (seqDrop 8 (paB Try.prog)) [6, 7, 8, 19] [.fix 0, .fix 1] (pcQ1 own own2 n m xs ys h s q (opRow P)) = gd (lk q) (gd (oT q (opRow P)) (gd (clsOk (opsOf q (opRow P))) (gd (lk (clsG (opsOf q (opRow P))).length) (gd (ghT alwB (clsG (opsOf q (opRow P))).length (opRow (clsG (opsOf q (opRow P)))) h) (some (pcW own own2 n m xs ys h s (acI (opsOf (clsG (opsOf q (opRow P))).length (opRow (clsG (opsOf q (opRow P))))) h) (isb (opsOf (clsG (opsOf q (opRow P))).length (opRow (clsG (opsOf q (opRow P))))) h))))))) := by kernel_rfl
end Go.Proofs.Ytjpfnfckpgilgaa
