/-
  Rotations and Centring, of the program and of the document, told. Nothing here is trusted.
-/
import Derived.Test.YtcefeamjnnkahaaGw

namespace Go.Proofs.Ytcefeamjnnkahaa
open Go Vx
def Cpa (P : Program) : Cx := ((((Cdk P).addLB 24 7 1 ceS).addLB 25 6 1 cfS).addLB 22 6 1 raS).addLB 45 3 1 rbS
theorem okpa : CxOk (Cpa Try.prog) := Cx.addLB_ok (Cx.addLB_ok (Cx.addLB_ok (Cx.addLB_ok okdk ceX_eq fun _ _ _ _ h hr => ceK h hr) cfX_eq fun _ _ _ _ h hr => cfK h hr) raX_eq fun _ _ _ _ h hr => raK h hr) rbX_eq fun _ _ _ _ h hr => rbK h hr
def rotsT (X : List O3) : List M3 := bld (fun i => rotT X i) (fun i => (atO X i).r) X.length 0 []
def cens (X : List O3) : List V3 := bld (fun i => (atO X i).r.eqB M3.one) (fun i => (atO X i).t) X.length 0 []
theorem bld_congr {α : Type} {t u : Int → Bool} {e : Int → α} (h : ∀ i, t i = u i) : ∀ (c : Nat) (i : Int) (ms : List α), bld t e c i ms = bld u e c i ms
  | 0, _, _ => rfl
  | c + 1, i, ms => by
    simp only [bld, h i]
    cases u i with
    | true => exact bld_congr h c _ _
    | false => exact bld_congr h c _ _
theorem eqB_comm (m n : M3) : m.eqB n = n.eqB m := by
  rw [Bool.eq_iff_iff, M3.eqB_iff, M3.eqB_iff]; exact ⟨Eq.symm, Eq.symm⟩
theorem rotTU (X : List O3) (i : Int) : rotU X i = rotT X i := by unfold rotT rotU; rw [eqB_comm]
theorem bld_ne {α : Type} {t : Int → Bool} {e : Int → α} : ∀ (c : Nat) (i : Int) (ms : List α), bld t e c i ms = [] → ms = [] ∧ ∀ j : Int, i ≤ j → j < i + (c : Int) → t j = false
  | 0, i, ms, h => ⟨h, fun j h1 h2 => by omega⟩
  | c + 1, i, ms, h => by
    simp only [bld] at h
    cases ht : t i with
    | true =>
      rw [ht] at h
      have := (bld_ne c (i + 1) _ h).1
      simp at this
    | false =>
      rw [ht] at h
      obtain ⟨h1, h2⟩ := bld_ne c (i + 1) _ h
      refine ⟨h1, fun j k1 k2 => ?_⟩
      by_cases hj : j = i
      · subst hj; exact ht
      · exact h2 j (by omega) (by omega)
theorem bld_len {α : Type} {t : Int → Bool} {e : Int → α} : ∀ (c : Nat) (i : Int) (ms : List α), (bld t e c i ms).length ≤ ms.length + c
  | 0, _, _ => Nat.le_refl _
  | c + 1, i, ms => by
    simp only [bld]
    cases t i with
    | true => have := bld_len (t := t) (e := e) c (i + 1) (ms ++ [e i]); simp at this ⊢; omega
    | false => have := bld_len (t := t) (e := e) c (i + 1) ms; simp; omega
theorem chk_len {X : List O3} (h : chkI X = 0) : X.length ≤ 192 ∧ O3.one ∈ X := by
  unfold chkI at h
  cases hq : clsOk X with
  | false => rw [hq] at h; exact absurd h (clsErr_ne X)
  | true =>
    rw [hq] at h
    simp only at h
    cases hs : sameB (clsG X) X with
    | false => rw [hs] at h; cases h
    | true =>
      have e := sameB_iff.1 hs
      obtain ⟨h1, h2, hg⟩ := clsOk_spec hq
      refine ⟨h1, ?_⟩
      rw [← e]
      exact (sortO_perm _).mem_iff.2 (hg.grp (all_inv h2)).one
theorem rots_ne {X : List O3} (h : chkI X = 0) : nilL (rotsT X) = false := by
  have h1 := (chk_len h).2
  cases hr : rotsT X with
  | cons m l => rfl
  | nil =>
    exfalso
    have hx : 0 < X.length := List.length_pos_of_mem h1
    have := (bld_ne _ _ _ hr).2 0 (by omega) (by omega)
    cases this
theorem cens_ne {X : List O3} (h : chkI X = 0) : nilL (cens X) = false := by
  have h1 := (chk_len h).2
  cases hr : cens X with
  | cons m l => rfl
  | nil =>
    exfalso
    obtain ⟨j, hj, e⟩ := List.mem_iff_getElem.1 h1
    have h2 := (bld_ne _ _ _ hr).2 (j : Int) (by omega) (by omega)
    have hat : atO X (j : Int) = O3.one := by unfold atO; rw [Int.toNat_natCast, List.getElem?_eq_getElem hj]; exact e
    simp only [hat] at h2
    rw [show O3.one.r = M3.one from rfl, M3.eqB_refl] at h2
    cases h2
def partT (n : Nat) (row : Nat → List Value) : Bool := Nat.beq n n && (okOps n row && (decide ((n : Int) = (n : Int)) && (decide ((0 : Int) = 0) && decide (n ≤ 1000))))
def partT2 (n : Nat) (row : Nat → List Value) : Bool := Nat.beq n n && (okOps n row && (decide ((n : Int) = (n : Int)) && (decide ((0 : Int) = 0) && (decide (n ≤ 1000) && Nat.beq n n))))
def partT3 (n : Nat) (row : Nat → List Value) : Bool := Nat.beq n n && (okOps n row && (decide ((n : Int) = (n : Int)) && (decide ((0 : Int) = 0) && (decide (n ≤ 1000) && (isO O3.one.cells && (decO O3.one.cells).eqB O3.one)))))
def endM (own : Bool) (N : Nat) (X : List O3) (Q : List M3) : Option (Value × Mem) := match nilL Q with
  | true => some (nilE 0, [.rows own true 12 N (opRow X), .no])
  | false => some (.tuple #[.slice (some ⟨1, 0, some 0⟩) Q.length 9, vI 0], [.rows own true 12 N (opRow X), .rows true true 9 Q.length (mtRow Q)])
def endV (own : Bool) (N : Nat) (X : List O3) (Q : List V3) : Option (Value × Mem) := match nilL Q with
  | true => some (nilE 0, [.rows own true 12 N (opRow X), .no])
  | false => some (.tuple #[.slice (some ⟨1, 0, some 0⟩) Q.length 3, vI 0], [.rows own true 12 N (opRow X), .rows true true 3 Q.length (vcRow Q)])

theorem rtE0 : exT ((Cpa Try.prog).at 22) 60 Try.f22 [.slice none 0 0] [] [.slot 0] = some (nilE 5, [.no]) := by kernel_rfl
theorem rtE1 (own : Bool) (N : Nat) (ls : List O3) : exT ((Cpa Try.prog).at 22) 60 Try.f22 [.slice (some ⟨0, 0, some 0⟩) N 12] [.rows own true 12 N (opRow ls)] [.fix 0, .slot 0] =
    gd (oT N (opRow ls)) (match chkI (opsOf N (opRow ls)) != 0 with
      | true => some (nilE (chkI (opsOf N (opRow ls))), [.rows own true 12 N (opRow (opsOf N (opRow ls))), .no])
      | false => gd (partT2 N (opRow (opsOf N (opRow ls)))) (endM own N (opsOf N (opRow (opsOf N (opRow ls)))) (bld (fun i => rotT (opsOf N (opRow (opsOf N (opRow ls)))) i) (fun i => (atO (opsOf N (opRow (opsOf N (opRow ls)))) i).r) N 0 []))) := by kernel_rfl
def rtF : List Value → Mem → Option (Ans (Value × Mem))
  | [.slice none 0 0], [] => some (.out (nilE 5, [.no]))
  | [.slice (some ⟨0, 0, some 0⟩) N 12], [.rows own true 12 N2 row] => some (.br (Nat.beq N N2 && (okOps N row && decide (N ≤ 4611686018427387904))) (.br (chkI (opsOf N row) != 0) (.out (nilE (chkI (opsOf N row)), [.rows own true 12 N (opRow (opsOf N row)), .no])) (.out (.tuple #[.slice (some ⟨1, 0, some 0⟩) (rotsT (opsOf N row)).length 9, vI 0], [.rows own true 12 N (opRow (opsOf N row)), .rows true true 9 (rotsT (opsOf N row)).length (mtRow (rotsT (opsOf N row)))]))) .fail)
  | _, _ => none
theorem rtS {args : List Value} {m : Mem} {ans : Ans (Value × Mem)} {v : Value} {m' : Mem} (h : rtF args m = some ans) (hr : ans.res = some (v, m')) : MemSem Try.prog 22 args m v m' := by
  unfold rtF at h
  split at h
  · simp only [Option.some.injEq] at h
    subst h
    simp only [Ans.res, Option.some.injEq, Prod.mk.injEq] at hr
    obtain ⟨rfl, rfl⟩ := hr
    exact exT_ok okpa Try.func22 (by kernel_rfl) rtE0
  · rename_i N own N2 row
    simp only [Option.some.injEq] at h
    subst h
    rcases Ans.br_some hr with ⟨hc, hr1⟩ | ⟨_, hr1⟩
    rotate_left
    · simp [Ans.res] at hr1
    clear hr
    simp only [Bool.and_eq_true, decide_eq_true_eq] at hc
    obtain ⟨c1, c2, c3⟩ := hc
    have c1 := beq_len c1
    subst c1
    have hl := opsOf_length N row
    have hE := rtE1 own N (opsOf N row)
    have tg : oT N (opRow (opsOf N row)) = true := by unfold oT; rw [Nat.beq_refl, okOps_opRow]; simp
    rw [opsOf_row hl, opsOf_row hl, tg] at hE
    simp only [gd_true] at hE
    rcases Ans.br_some hr1 with ⟨hq, hr2⟩ | ⟨hq, hr2⟩
    · rw [hq] at hE
      simp only [Ans.res, Option.some.injEq, Prod.mk.injEq] at hr2
      obtain ⟨rfl, rfl⟩ := hr2
      exact (exT_ok okpa Try.func22 (by kernel_rfl) hE).like ⟨.rows (ops_like c2), trivial⟩
    · rw [hq] at hE
      have h0 : chkI (opsOf N row) = 0 := by simpa using hq
      have hN := (chk_len h0).1
      rw [hl] at hN
      have ht : partT2 N (opRow (opsOf N row)) = true := by unfold partT2; rw [Nat.beq_refl, okOps_opRow]; simp; omega
      have hQ : bld (fun i => rotT (opsOf N row) i) (fun i => (atO (opsOf N row) i).r) N 0 [] = rotsT (opsOf N row) := by unfold rotsT; rw [hl]
      rw [ht, hQ] at hE
      simp only [gd_true] at hE
      unfold endM at hE
      rw [rots_ne h0] at hE
      simp only [Ans.res, Option.some.injEq, Prod.mk.injEq] at hr2
      obtain ⟨rfl, rfl⟩ := hr2
      exact (exT_ok okpa Try.func22 (by kernel_rfl) hE).like ⟨.rows (ops_like c2), trivial⟩
  · cases h

theorem ruE0 : exT ((Cpa Try.prog).at 23) 60 Try.f23 [.slice none 0 0] [] [.slot 0] = some (nilE 5, [.no]) := by kernel_rfl
theorem ruE1 (own : Bool) (N : Nat) (ls : List O3) : exT ((Cpa Try.prog).at 23) 60 Try.f23 [.slice (some ⟨0, 0, some 0⟩) N 12] [.rows own true 12 N (opRow ls)] [.fix 0, .slot 0] =
    gd (pT N (opRow ls)) (match chkI (opsOf N (opRow ls)) != 0 with
      | true => some (nilE (chkI (opsOf N (opRow ls))), [.rows own true 12 N (opRow (opsOf N (opRow ls))), .no])
      | false => gd (partT2 N (opRow (opsOf N (opRow ls)))) (endM own N (opsOf N (opRow (opsOf N (opRow ls)))) (bld (fun i => rotU (opsOf N (opRow (opsOf N (opRow ls)))) i) (fun i => (atO (opsOf N (opRow (opsOf N (opRow ls)))) i).r) N 0 []))) := by kernel_rfl
def ruF : List Value → Mem → Option (Ans (Value × Mem))
  | [.slice none 0 0], [] => some (.out (nilE 5, [.no]))
  | [.slice (some ⟨0, 0, some 0⟩) N 12], [.rows own true 12 N2 row] => some (.br (Nat.beq N N2 && (okOps N row && decide (N ≤ 4611686018427387904))) (.br (chkI (opsOf N row) != 0) (.out (nilE (chkI (opsOf N row)), [.rows own true 12 N (opRow (opsOf N row)), .no])) (.out (.tuple #[.slice (some ⟨1, 0, some 0⟩) (rotsT (opsOf N row)).length 9, vI 0], [.rows own true 12 N (opRow (opsOf N row)), .rows true true 9 (rotsT (opsOf N row)).length (mtRow (rotsT (opsOf N row)))]))) .fail)
  | _, _ => none
theorem ruS {args : List Value} {m : Mem} {ans : Ans (Value × Mem)} {v : Value} {m' : Mem} (h : ruF args m = some ans) (hr : ans.res = some (v, m')) : MemSem Try.prog 23 args m v m' := by
  unfold ruF at h
  split at h
  · simp only [Option.some.injEq] at h
    subst h
    simp only [Ans.res, Option.some.injEq, Prod.mk.injEq] at hr
    obtain ⟨rfl, rfl⟩ := hr
    exact exT_ok okpa Try.func23 (by kernel_rfl) ruE0
  · rename_i N own N2 row
    simp only [Option.some.injEq] at h
    subst h
    rcases Ans.br_some hr with ⟨hc, hr1⟩ | ⟨_, hr1⟩
    rotate_left
    · simp [Ans.res] at hr1
    clear hr
    simp only [Bool.and_eq_true, decide_eq_true_eq] at hc
    obtain ⟨c1, c2, c3⟩ := hc
    have c1 := beq_len c1
    subst c1
    have hl := opsOf_length N row
    have hE := ruE1 own N (opsOf N row)
    have tg : pT N (opRow (opsOf N row)) = true := by unfold pT; rw [Nat.beq_refl, okOps_opRow]; simp; omega
    rw [opsOf_row hl, opsOf_row hl, tg] at hE
    simp only [gd_true] at hE
    rcases Ans.br_some hr1 with ⟨hq, hr2⟩ | ⟨hq, hr2⟩
    · rw [hq] at hE
      simp only [Ans.res, Option.some.injEq, Prod.mk.injEq] at hr2
      obtain ⟨rfl, rfl⟩ := hr2
      exact (exT_ok okpa Try.func23 (by kernel_rfl) hE).like ⟨.rows (ops_like c2), trivial⟩
    · rw [hq] at hE
      have h0 : chkI (opsOf N row) = 0 := by simpa using hq
      have hN := (chk_len h0).1
      rw [hl] at hN
      have ht : partT2 N (opRow (opsOf N row)) = true := by unfold partT2; rw [Nat.beq_refl, okOps_opRow]; simp; omega
      have hQ : bld (fun i => rotU (opsOf N row) i) (fun i => (atO (opsOf N row) i).r) N 0 [] = rotsT (opsOf N row) := by unfold rotsT; rw [hl]; exact bld_congr (fun i => rotTU _ i) _ _ _
      rw [ht, hQ] at hE
      simp only [gd_true] at hE
      unfold endM at hE
      rw [rots_ne h0] at hE
      simp only [Ans.res, Option.some.injEq, Prod.mk.injEq] at hr2
      obtain ⟨rfl, rfl⟩ := hr2
      exact (exT_ok okpa Try.func23 (by kernel_rfl) hE).like ⟨.rows (ops_like c2), trivial⟩
  · cases h

theorem ctE0 : exT ((Cpa Try.prog).at 24) 60 Try.f24 [.slice none 0 0] [] [.slot 0] = some (nilE 5, [.no]) := by kernel_rfl
theorem ctE1 (own : Bool) (N : Nat) (ls : List O3) : exT ((Cpa Try.prog).at 24) 60 Try.f24 [.slice (some ⟨0, 0, some 0⟩) N 12] [.rows own true 12 N (opRow ls)] [.fix 0, .slot 0] =
    gd (oT N (opRow ls)) (match chkI (opsOf N (opRow ls)) != 0 with
      | true => some (nilE (chkI (opsOf N (opRow ls))), [.rows own true 12 N (opRow (opsOf N (opRow ls))), .no])
      | false => gd (partT3 N (opRow (opsOf N (opRow ls)))) (endV own N (opsOf N (opRow (opsOf N (opRow ls)))) (bld (fun i => (atO (opsOf N (opRow (opsOf N (opRow ls)))) i).r.eqB M3.one) (fun i => (atO (opsOf N (opRow (opsOf N (opRow ls)))) i).t) N 0 []))) := by kernel_rfl
def ctF : List Value → Mem → Option (Ans (Value × Mem))
  | [.slice none 0 0], [] => some (.out (nilE 5, [.no]))
  | [.slice (some ⟨0, 0, some 0⟩) N 12], [.rows own true 12 N2 row] => some (.br (Nat.beq N N2 && (okOps N row && decide (N ≤ 4611686018427387904))) (.br (chkI (opsOf N row) != 0) (.out (nilE (chkI (opsOf N row)), [.rows own true 12 N (opRow (opsOf N row)), .no])) (.out (.tuple #[.slice (some ⟨1, 0, some 0⟩) (cens (opsOf N row)).length 3, vI 0], [.rows own true 12 N (opRow (opsOf N row)), .rows true true 3 (cens (opsOf N row)).length (vcRow (cens (opsOf N row)))]))) .fail)
  | _, _ => none
theorem ctS {args : List Value} {m : Mem} {ans : Ans (Value × Mem)} {v : Value} {m' : Mem} (h : ctF args m = some ans) (hr : ans.res = some (v, m')) : MemSem Try.prog 24 args m v m' := by
  unfold ctF at h
  split at h
  · simp only [Option.some.injEq] at h
    subst h
    simp only [Ans.res, Option.some.injEq, Prod.mk.injEq] at hr
    obtain ⟨rfl, rfl⟩ := hr
    exact exT_ok okpa Try.func24 (by kernel_rfl) ctE0
  · rename_i N own N2 row
    simp only [Option.some.injEq] at h
    subst h
    rcases Ans.br_some hr with ⟨hc, hr1⟩ | ⟨_, hr1⟩
    rotate_left
    · simp [Ans.res] at hr1
    clear hr
    simp only [Bool.and_eq_true, decide_eq_true_eq] at hc
    obtain ⟨c1, c2, c3⟩ := hc
    have c1 := beq_len c1
    subst c1
    have hl := opsOf_length N row
    have hE := ctE1 own N (opsOf N row)
    have tg : oT N (opRow (opsOf N row)) = true := by unfold oT; rw [Nat.beq_refl, okOps_opRow]; simp
    rw [opsOf_row hl, opsOf_row hl, tg] at hE
    simp only [gd_true] at hE
    rcases Ans.br_some hr1 with ⟨hq, hr2⟩ | ⟨hq, hr2⟩
    · rw [hq] at hE
      simp only [Ans.res, Option.some.injEq, Prod.mk.injEq] at hr2
      obtain ⟨rfl, rfl⟩ := hr2
      exact (exT_ok okpa Try.func24 (by kernel_rfl) hE).like ⟨.rows (ops_like c2), trivial⟩
    · rw [hq] at hE
      have h0 : chkI (opsOf N row) = 0 := by simpa using hq
      have hN := (chk_len h0).1
      rw [hl] at hN
      have ht : partT3 N (opRow (opsOf N row)) = true := by unfold partT3; rw [Nat.beq_refl, okOps_opRow, isO_cells, decO_cells, O3.eqB_refl]; simp; omega
      have hQ : bld (fun i => (atO (opsOf N row) i).r.eqB M3.one) (fun i => (atO (opsOf N row) i).t) N 0 [] = cens (opsOf N row) := by unfold cens; rw [hl]
      rw [ht, hQ] at hE
      simp only [gd_true] at hE
      unfold endV at hE
      rw [cens_ne h0] at hE
      simp only [Ans.res, Option.some.injEq, Prod.mk.injEq] at hr2
      obtain ⟨rfl, rfl⟩ := hr2
      exact (exT_ok okpa Try.func24 (by kernel_rfl) hE).like ⟨.rows (ops_like c2), trivial⟩
  · cases h

theorem csE0 : exT ((Cpa Try.prog).at 25) 60 Try.f25 [.slice none 0 0] [] [.slot 0] = some (nilE 5, [.no]) := by kernel_rfl
theorem csE1 (own : Bool) (N : Nat) (ls : List O3) : exT ((Cpa Try.prog).at 25) 60 Try.f25 [.slice (some ⟨0, 0, some 0⟩) N 12] [.rows own true 12 N (opRow ls)] [.fix 0, .slot 0] =
    gd (pT N (opRow ls)) (match chkI (opsOf N (opRow ls)) != 0 with
      | true => some (nilE (chkI (opsOf N (opRow ls))), [.rows own true 12 N (opRow (opsOf N (opRow ls))), .no])
      | false => gd (partT N (opRow (opsOf N (opRow ls)))) (endV own N (opsOf N (opRow (opsOf N (opRow ls)))) (bld (fun i => (atO (opsOf N (opRow (opsOf N (opRow ls)))) i).r.eqB M3.one) (fun i => (atO (opsOf N (opRow (opsOf N (opRow ls)))) i).t) N 0 []))) := by kernel_rfl
def csF : List Value → Mem → Option (Ans (Value × Mem))
  | [.slice none 0 0], [] => some (.out (nilE 5, [.no]))
  | [.slice (some ⟨0, 0, some 0⟩) N 12], [.rows own true 12 N2 row] => some (.br (Nat.beq N N2 && (okOps N row && decide (N ≤ 4611686018427387904))) (.br (chkI (opsOf N row) != 0) (.out (nilE (chkI (opsOf N row)), [.rows own true 12 N (opRow (opsOf N row)), .no])) (.out (.tuple #[.slice (some ⟨1, 0, some 0⟩) (cens (opsOf N row)).length 3, vI 0], [.rows own true 12 N (opRow (opsOf N row)), .rows true true 3 (cens (opsOf N row)).length (vcRow (cens (opsOf N row)))]))) .fail)
  | _, _ => none
theorem csS {args : List Value} {m : Mem} {ans : Ans (Value × Mem)} {v : Value} {m' : Mem} (h : csF args m = some ans) (hr : ans.res = some (v, m')) : MemSem Try.prog 25 args m v m' := by
  unfold csF at h
  split at h
  · simp only [Option.some.injEq] at h
    subst h
    simp only [Ans.res, Option.some.injEq, Prod.mk.injEq] at hr
    obtain ⟨rfl, rfl⟩ := hr
    exact exT_ok okpa Try.func25 (by kernel_rfl) csE0
  · rename_i N own N2 row
    simp only [Option.some.injEq] at h
    subst h
    rcases Ans.br_some hr with ⟨hc, hr1⟩ | ⟨_, hr1⟩
    rotate_left
    · simp [Ans.res] at hr1
    clear hr
    simp only [Bool.and_eq_true, decide_eq_true_eq] at hc
    obtain ⟨c1, c2, c3⟩ := hc
    have c1 := beq_len c1
    subst c1
    have hl := opsOf_length N row
    have hE := csE1 own N (opsOf N row)
    have tg : pT N (opRow (opsOf N row)) = true := by unfold pT; rw [Nat.beq_refl, okOps_opRow]; simp; omega
    rw [opsOf_row hl, opsOf_row hl, tg] at hE
    simp only [gd_true] at hE
    rcases Ans.br_some hr1 with ⟨hq, hr2⟩ | ⟨hq, hr2⟩
    · rw [hq] at hE
      simp only [Ans.res, Option.some.injEq, Prod.mk.injEq] at hr2
      obtain ⟨rfl, rfl⟩ := hr2
      exact (exT_ok okpa Try.func25 (by kernel_rfl) hE).like ⟨.rows (ops_like c2), trivial⟩
    · rw [hq] at hE
      have h0 : chkI (opsOf N row) = 0 := by simpa using hq
      have hN := (chk_len h0).1
      rw [hl] at hN
      have ht : partT N (opRow (opsOf N row)) = true := by unfold partT; rw [Nat.beq_refl, okOps_opRow]; simp; omega
      have hQ : bld (fun i => (atO (opsOf N row) i).r.eqB M3.one) (fun i => (atO (opsOf N row) i).t) N 0 [] = cens (opsOf N row) := by unfold cens; rw [hl]
      rw [ht, hQ] at hE
      simp only [gd_true] at hE
      unfold endV at hE
      rw [cens_ne h0] at hE
      simp only [Ans.res, Option.some.injEq, Prod.mk.injEq] at hr2
      obtain ⟨rfl, rfl⟩ := hr2
      exact (exT_ok okpa Try.func25 (by kernel_rfl) hE).like ⟨.rows (ops_like c2), trivial⟩
  · cases h

def Cpb (P : Program) : Cx := ((((Cpa P).addF 22 rtF).addF 23 ruF).addF 24 ctF).addF 25 csF
theorem okpb : CxOk (Cpb Try.prog) := Cx.addF_ok (Cx.addF_ok (Cx.addF_ok (Cx.addF_ok okpa fun _ _ _ _ _ h hr => rtS h hr) fun _ _ _ _ _ h hr => ruS h hr) fun _ _ _ _ _ h hr => ctS h hr) fun _ _ _ _ _ h hr => csS h hr
end Go.Proofs.Ytcefeamjnnkahaa


namespace Go.Proofs.Ytcefeamjnnkahaa
open Go Vx
/-- Are two lists of one length alike? -/
def alkL {α : Type} (q : α → α → Bool) : List α → List α → Bool
  | x :: l, y :: m => match !(q x y) with
    | true => false
    | false => alkL q l m
  | _, _ => true
theorem alkL_refl {α : Type} {q : α → α → Bool} (h : ∀ x, q x x = true) : ∀ (l : List α), alkL q l l = true
  | [] => rfl
  | x :: l => by simp only [alkL, h, Bool.not_true]; exact alkL_refl h l
def atM (xs : List M3) (i : Int) : M3 := (xs[i.toNat]?).getD M3.zero
def atV (xs : List V3) (i : Int) : V3 := (xs[i.toNat]?).getD V3.zero
theorem drop_atM {xs : List M3} {i : Int} (h0 : 0 ≤ i) (h : i < (xs.length : Int)) : xs.drop i.toNat = atM xs i :: xs.drop (i + 1).toNat := by
  have hlt : i.toNat < xs.length := by omega
  rw [show (i + 1).toNat = i.toNat + 1 by omega, List.drop_eq_getElem_cons hlt]
  unfold atM
  rw [List.getElem?_eq_getElem hlt]
  rfl
theorem drop_atV {xs : List V3} {i : Int} (h0 : 0 ≤ i) (h : i < (xs.length : Int)) : xs.drop i.toNat = atV xs i :: xs.drop (i + 1).toNat := by
  have hlt : i.toNat < xs.length := by omega
  rw [show (i + 1).toNat = i.toNat + 1 by omega, List.drop_eq_getElem_cons hlt]
  unfold atV
  rw [List.getElem?_eq_getElem hlt]
  rfl

def gaX (P : Program) : Code := (loopsOf P 6 8).headD .skip
theorem gaX_eq : loopsOf Try.prog 6 8 = [gaX Try.prog] := by kernel_rfl
def gaH (own : Bool) (n : Nat) (xs : List O3) (ys : List O3) (k : Nat) (us : List M3) (vs : List M3) (i : Int) : St := stOf 85 [(0, .slice (some ⟨0, 0, some 0⟩) n 12), (2, .bool false), (3, .slice (some ⟨2, 0, some 0⟩) k 9), (5, .slice (some ⟨3, 0, some 0⟩) k 9), (35, vI k), (36, vI i)] [.rows own true 12 n (opRow xs), .rows true true 12 n (opRow ys), .rows true true 9 k (mtRow us), .rows true true 9 k (mtRow vs)]
theorem gaR (own : Bool) (n : Nat) (xs : List O3) (ys : List O3) (k : Nat) (us : List M3) (vs : List M3) (i : Int) : roundR ((Cpb Try.prog).into 6 1) 40 (gaX Try.prog) [0, 2, 3, 5, 35, 36] [0, 2] [.fix 0, .fix 1, .fix 2, .fix 3] [.fix 0] (gaH own n xs ys k us vs i) =
    (match decide (i < (k : Int)) with
    | true => match boundsI i k with
      | true => match boundsI i k with
        | true => match !((atM us i).eqB (atM vs i)) with
          | true => some (.ret, stOf 85 [(0, .slice (some ⟨0, 0, some 0⟩) n 12), (2, .bool false)] [.rows own true 12 n (opRow xs)])
          | false => some (.normal, gaH own n xs ys k us vs (W (i + 1)))
        | false => none
      | false => none
    | false => some (.exit 0, stOf 85 [(0, .slice (some ⟨0, 0, some 0⟩) n 12), (2, .bool false)] [.rows own true 12 n (opRow xs)])) := by kernel_rfl
structure gaG where
  (own : Bool) (n : Nat) (xs : List O3) (ys : List O3) (k : Nat) (us : List M3) (vs : List M3) (i : Int)
def gaO (own : Bool) (n : Nat) (xs : List O3) (_ : List O3) (_ : Nat) (us : List M3) (vs : List M3) (i : Int) : Exit × St :=
  match alkL M3.eqB (us.drop i.toNat) (vs.drop i.toNat) with
  | true => (.exit 0, stOf 85 [(0, .slice (some ⟨0, 0, some 0⟩) n 12), (2, .bool false)] [.rows own true 12 n (opRow xs)])
  | false => (.ret, stOf 85 [(0, .slice (some ⟨0, 0, some 0⟩) n 12), (2, .bool false)] [.rows own true 12 n (opRow xs)])
theorem gaL (own : Bool) (n : Nat) (xs : List O3) (ys : List O3) (k : Nat) (us : List M3) (vs : List M3) (i : Int) (hg : 0 ≤ i ∧ (k : Int) ≤ 4611686018427387904 ∧ us.length = k ∧ vs.length = k) : LoopSem Try.prog 1 (gaX Try.prog) (gaH own n xs ys k us vs i) (gaO own n xs ys k us vs i).1 (gaO own n xs ys k us vs i).2 := by
  refine loop_rule (C := Cpb Try.prog) okpb (f := 6) (B := 1) (loopsOf_in (k := 8) gaX_eq) 40 [0, 2, 3, 5, 35, 36] [0, 2] [.fix 0, .fix 1, .fix 2, .fix 3] [.fix 0] (fun g : gaG => gaH g.own g.n g.xs g.ys g.k g.us g.vs g.i) (fun g => (g.k - g.i).toNat) (fun g => 0 ≤ g.i ∧ (g.k : Int) ≤ 4611686018427387904 ∧ g.us.length = g.k ∧ g.vs.length = g.k) (fun g => gaO g.own g.n g.xs g.ys g.k g.us g.vs g.i) ?_ ⟨own, n, xs, ys, k, us, vs, i⟩ hg
  clear hg
  rintro ⟨own, n, xs, ys, k, us, vs, i⟩ hg
  simp only at hg
  simp only [gaR]
  obtain ⟨h0, h1, h2, h3⟩ := hg
  by_cases hi : i < (k : Int)
  · have hd : decide (i < (k : Int)) = true := by simpa using hi
    have hb : boundsI i k = true := by simp [boundsI, h0, hi]
    have hdx := drop_atM (xs := us) h0 (by omega)
    have hdy := drop_atM (xs := vs) h0 (by omega)
    have hw : W (i + 1) = i + 1 := W_in (by omega)
    rw [hd, hb, hw]
    simp only
    cases he : !((atM us i).eqB (atM vs i)) with
    | true =>
      right
      unfold gaO
      simp only [hdx, hdy, alkL, he]
      exact ⟨trivial, by simp⟩
    | false =>
      left
      refine ⟨⟨own, n, xs, ys, k, us, vs, i + 1⟩, rfl, ⟨by simp only; omega, h1, h2, h3⟩, by simp only; omega, ?_⟩
      unfold gaO
      simp only [hdx, hdy, alkL, he]
  · have hd : decide (i < (k : Int)) = false := by simpa using hi
    rw [hd]
    right
    have hn : us.drop i.toNat = [] := List.drop_eq_nil_of_le (by omega)
    unfold gaO
    simp only [hn, alkL]
    exact ⟨trivial, by simp⟩
def gaS (st : St) : Option (Ans (Exit × St)) :=
  match sized st 85 4, tAt st 0, tAt st 2, tAt st 3, tAt st 5, tAt st 35, tAt st 36, st.mem with
  | true, some (.slice (some ⟨0, 0, some 0⟩) n 12), some (.bool false), some (.slice (some ⟨2, 0, some 0⟩) k 9), some (.slice (some ⟨3, 0, some 0⟩) k1 9), some (.int .i64 lk), some (.int .i64 i), [.rows own true 12 n2 row, .rows true true 12 n3 row2, .rows true true 9 k2 row3, .rows true true 9 k3 row4] => some (.br (Nat.beq n n2 && (okOps n row && (Nat.beq n n3 && (okOps n row2 && (Nat.beq k k1 && (Nat.beq k k2 && (okMts k row3 && (Nat.beq k k3 && (okMts k row4 && (decide ((k : Int) = lk) && (decide (0 ≤ i) && (decide ((k : Int) ≤ 4611686018427387904))))))))))))) (.br (alkL M3.eqB ((mtsOf k row3).drop i.toNat) ((mtsOf k row4).drop i.toNat))
      (.out (.exit 0, stOf 85 [(0, .slice (some ⟨0, 0, some 0⟩) n 12), (2, .bool false)] [.rows own true 12 n (opRow (opsOf n row))]))
      (.out (.ret, stOf 85 [(0, .slice (some ⟨0, 0, some 0⟩) n 12), (2, .bool false)] [.rows own true 12 n (opRow (opsOf n row))]))) .fail)
  | _, _, _, _, _, _, _, _ => none
theorem gaK {st : St} {ans : Ans (Exit × St)} {e_ : Exit} {s_ : St} (h : gaS st = some ans) (hr : ans.res = some (e_, s_)) : LoopSem Try.prog 1 (gaX Try.prog) st e_ s_ := by
  unfold gaS at h
  split at h
  · rename_i n k k1 lk i own n2 row n3 row2 k2 row3 k3 row4 hb hs0 hs1 hs2 hs3 hs4 hs5 hm
    simp only [Option.some.injEq] at h
    subst h
    rcases Ans.br_some hr with ⟨hc, hr1⟩ | ⟨_, hr1⟩
    · clear hr
      simp only [Bool.and_eq_true] at hc
      obtain ⟨ht0, ht1, ht2, ht3, ht4, ht5, ht6, ht7, ht8, ht9, ht10, ht11⟩ := hc
      have ht0 := beq_len ht0
      have ht2 := beq_len ht2
      have ht4 := beq_len ht4
      have ht5 := beq_len ht5
      have ht7 := beq_len ht7
      have ht9 : (k : Int) = lk := by simpa using ht9
      subst ht0 ht2 ht4 ht5 ht7 ht9
      have hinv : 0 ≤ i ∧ (k : Int) ≤ 4611686018427387904 ∧ (mtsOf k row3).length = k ∧ (mtsOf k row4).length = k := by
        exact ⟨by simpa using ht10, by simpa using ht11, mtsOf_length k row3, mtsOf_length k row4⟩
      have hk := stOf_keep hb [(0, .slice (some ⟨0, 0, some 0⟩) n 12), (2, .bool false), (3, .slice (some ⟨2, 0, some 0⟩) k 9), (5, .slice (some ⟨3, 0, some 0⟩) k 9), (35, vI k), (36, vI i)] (by
        intro x hx
        simp only [List.mem_cons, List.not_mem_nil, or_false] at hx
        rcases hx with rfl | rfl | rfl | rfl | rfl | rfl
        · exact hs0
        · exact hs1
        · exact hs2
        · exact hs3
        · exact hs4
        · exact hs5) hm
      have key := gaL own n (opsOf n row) (opsOf n row2) k (mtsOf k row3) (mtsOf k row4) i hinv
      unfold gaH at key
      have key := LoopSem.like (m := [.rows own true 12 n row, .rows true true 12 n row2, .rows true true 9 k row3, .rows true true 9 k row4]) key ⟨.rows (ops_like ht1), .rows (ops_like ht3), .rows (mts_like ht6), .rows (mts_like ht8), trivial⟩
      have key : LoopSem Try.prog 1 (gaX Try.prog) (stOf 85 [(0, .slice (some ⟨0, 0, some 0⟩) n 12), (2, .bool false), (3, .slice (some ⟨2, 0, some 0⟩) k 9), (5, .slice (some ⟨3, 0, some 0⟩) k 9), (35, vI k), (36, vI i)] [.rows own true 12 n row, .rows true true 12 n row2, .rows true true 9 k row3, .rows true true 9 k row4]) _ _ := key
      rw [← hk] at key
      have key := LoopSem.clean key
      unfold gaO at key
      rcases Ans.br_some hr1 with ⟨hq, hr1⟩ | ⟨hq, hr1⟩
      · simp only [hq] at key
        simp only [Ans.res, Option.some.injEq, Prod.mk.injEq] at hr1
        obtain ⟨rfl, rfl⟩ := hr1
        exact key
      · simp only [hq] at key
        simp only [Ans.res, Option.some.injEq, Prod.mk.injEq] at hr1
        obtain ⟨rfl, rfl⟩ := hr1
        exact key
    · simp [Ans.res] at hr1
  · cases h

def gbX (P : Program) : Code := (loopsOf P 6 18).headD .skip
theorem gbX_eq : loopsOf Try.prog 6 18 = [gbX Try.prog] := by kernel_rfl
def gbH (own : Bool) (n : Nat) (xs : List O3) (ys : List O3) (k : Nat) (us : List V3) (vs : List V3) (i : Int) : St := stOf 85 [(0, .slice (some ⟨0, 0, some 0⟩) n 12), (2, .bool false), (8, .slice (some ⟨2, 0, some 0⟩) k 3), (9, .slice (some ⟨3, 0, some 0⟩) k 3), (71, vI k), (72, vI i)] [.rows own true 12 n (opRow xs), .rows true true 12 n (opRow ys), .rows true true 3 k (vcRow us), .rows true true 3 k (vcRow vs)]
theorem gbR (own : Bool) (n : Nat) (xs : List O3) (ys : List O3) (k : Nat) (us : List V3) (vs : List V3) (i : Int) : roundR ((Cpb Try.prog).into 6 1) 40 (gbX Try.prog) [0, 2, 8, 9, 71, 72] [0, 2] [.fix 0, .fix 1, .fix 2, .fix 3] [.fix 0] (gbH own n xs ys k us vs i) =
    (match decide (i < (k : Int)) with
    | true => match boundsI i k with
      | true => match boundsI i k with
        | true => match !((atV us i).eqB (atV vs i)) with
          | true => some (.ret, stOf 85 [(0, .slice (some ⟨0, 0, some 0⟩) n 12), (2, .bool false)] [.rows own true 12 n (opRow xs)])
          | false => some (.normal, gbH own n xs ys k us vs (W (i + 1)))
        | false => none
      | false => none
    | false => some (.exit 2, stOf 85 [(0, .slice (some ⟨0, 0, some 0⟩) n 12), (2, .bool false)] [.rows own true 12 n (opRow xs)])) := by kernel_rfl
structure gbG where
  (own : Bool) (n : Nat) (xs : List O3) (ys : List O3) (k : Nat) (us : List V3) (vs : List V3) (i : Int)
def gbO (own : Bool) (n : Nat) (xs : List O3) (_ : List O3) (_ : Nat) (us : List V3) (vs : List V3) (i : Int) : Exit × St :=
  match alkL V3.eqB (us.drop i.toNat) (vs.drop i.toNat) with
  | true => (.exit 2, stOf 85 [(0, .slice (some ⟨0, 0, some 0⟩) n 12), (2, .bool false)] [.rows own true 12 n (opRow xs)])
  | false => (.ret, stOf 85 [(0, .slice (some ⟨0, 0, some 0⟩) n 12), (2, .bool false)] [.rows own true 12 n (opRow xs)])
theorem gbL (own : Bool) (n : Nat) (xs : List O3) (ys : List O3) (k : Nat) (us : List V3) (vs : List V3) (i : Int) (hg : 0 ≤ i ∧ (k : Int) ≤ 4611686018427387904 ∧ us.length = k ∧ vs.length = k) : LoopSem Try.prog 1 (gbX Try.prog) (gbH own n xs ys k us vs i) (gbO own n xs ys k us vs i).1 (gbO own n xs ys k us vs i).2 := by
  refine loop_rule (C := Cpb Try.prog) okpb (f := 6) (B := 1) (loopsOf_in (k := 18) gbX_eq) 40 [0, 2, 8, 9, 71, 72] [0, 2] [.fix 0, .fix 1, .fix 2, .fix 3] [.fix 0] (fun g : gbG => gbH g.own g.n g.xs g.ys g.k g.us g.vs g.i) (fun g => (g.k - g.i).toNat) (fun g => 0 ≤ g.i ∧ (g.k : Int) ≤ 4611686018427387904 ∧ g.us.length = g.k ∧ g.vs.length = g.k) (fun g => gbO g.own g.n g.xs g.ys g.k g.us g.vs g.i) ?_ ⟨own, n, xs, ys, k, us, vs, i⟩ hg
  clear hg
  rintro ⟨own, n, xs, ys, k, us, vs, i⟩ hg
  simp only at hg
  simp only [gbR]
  obtain ⟨h0, h1, h2, h3⟩ := hg
  by_cases hi : i < (k : Int)
  · have hd : decide (i < (k : Int)) = true := by simpa using hi
    have hb : boundsI i k = true := by simp [boundsI, h0, hi]
    have hdx := drop_atV (xs := us) h0 (by omega)
    have hdy := drop_atV (xs := vs) h0 (by omega)
    have hw : W (i + 1) = i + 1 := W_in (by omega)
    rw [hd, hb, hw]
    simp only
    cases he : !((atV us i).eqB (atV vs i)) with
    | true =>
      right
      unfold gbO
      simp only [hdx, hdy, alkL, he]
      exact ⟨trivial, by simp⟩
    | false =>
      left
      refine ⟨⟨own, n, xs, ys, k, us, vs, i + 1⟩, rfl, ⟨by simp only; omega, h1, h2, h3⟩, by simp only; omega, ?_⟩
      unfold gbO
      simp only [hdx, hdy, alkL, he]
  · have hd : decide (i < (k : Int)) = false := by simpa using hi
    rw [hd]
    right
    have hn : us.drop i.toNat = [] := List.drop_eq_nil_of_le (by omega)
    unfold gbO
    simp only [hn, alkL]
    exact ⟨trivial, by simp⟩
def gbS (st : St) : Option (Ans (Exit × St)) :=
  match sized st 85 4, tAt st 0, tAt st 2, tAt st 8, tAt st 9, tAt st 71, tAt st 72, st.mem with
  | true, some (.slice (some ⟨0, 0, some 0⟩) n 12), some (.bool false), some (.slice (some ⟨2, 0, some 0⟩) k 3), some (.slice (some ⟨3, 0, some 0⟩) k1 3), some (.int .i64 lk), some (.int .i64 i), [.rows own true 12 n2 row, .rows true true 12 n3 row2, .rows true true 3 k2 row3, .rows true true 3 k3 row4] => some (.br (Nat.beq n n2 && (okOps n row && (Nat.beq n n3 && (okOps n row2 && (Nat.beq k k1 && (Nat.beq k k2 && (okVcs k row3 && (Nat.beq k k3 && (okVcs k row4 && (decide ((k : Int) = lk) && (decide (0 ≤ i) && (decide ((k : Int) ≤ 4611686018427387904))))))))))))) (.br (alkL V3.eqB ((vcsOf k row3).drop i.toNat) ((vcsOf k row4).drop i.toNat))
      (.out (.exit 2, stOf 85 [(0, .slice (some ⟨0, 0, some 0⟩) n 12), (2, .bool false)] [.rows own true 12 n (opRow (opsOf n row))]))
      (.out (.ret, stOf 85 [(0, .slice (some ⟨0, 0, some 0⟩) n 12), (2, .bool false)] [.rows own true 12 n (opRow (opsOf n row))]))) .fail)
  | _, _, _, _, _, _, _, _ => none
theorem gbK {st : St} {ans : Ans (Exit × St)} {e_ : Exit} {s_ : St} (h : gbS st = some ans) (hr : ans.res = some (e_, s_)) : LoopSem Try.prog 1 (gbX Try.prog) st e_ s_ := by
  unfold gbS at h
  split at h
  · rename_i n k k1 lk i own n2 row n3 row2 k2 row3 k3 row4 hb hs0 hs1 hs2 hs3 hs4 hs5 hm
    simp only [Option.some.injEq] at h
    subst h
    rcases Ans.br_some hr with ⟨hc, hr1⟩ | ⟨_, hr1⟩
    · clear hr
      simp only [Bool.and_eq_true] at hc
      obtain ⟨ht0, ht1, ht2, ht3, ht4, ht5, ht6, ht7, ht8, ht9, ht10, ht11⟩ := hc
      have ht0 := beq_len ht0
      have ht2 := beq_len ht2
      have ht4 := beq_len ht4
      have ht5 := beq_len ht5
      have ht7 := beq_len ht7
      have ht9 : (k : Int) = lk := by simpa using ht9
      subst ht0 ht2 ht4 ht5 ht7 ht9
      have hinv : 0 ≤ i ∧ (k : Int) ≤ 4611686018427387904 ∧ (vcsOf k row3).length = k ∧ (vcsOf k row4).length = k := by
        exact ⟨by simpa using ht10, by simpa using ht11, vcsOf_length k row3, vcsOf_length k row4⟩
      have hk := stOf_keep hb [(0, .slice (some ⟨0, 0, some 0⟩) n 12), (2, .bool false), (8, .slice (some ⟨2, 0, some 0⟩) k 3), (9, .slice (some ⟨3, 0, some 0⟩) k 3), (71, vI k), (72, vI i)] (by
        intro x hx
        simp only [List.mem_cons, List.not_mem_nil, or_false] at hx
        rcases hx with rfl | rfl | rfl | rfl | rfl | rfl
        · exact hs0
        · exact hs1
        · exact hs2
        · exact hs3
        · exact hs4
        · exact hs5) hm
      have key := gbL own n (opsOf n row) (opsOf n row2) k (vcsOf k row3) (vcsOf k row4) i hinv
      unfold gbH at key
      have key := LoopSem.like (m := [.rows own true 12 n row, .rows true true 12 n row2, .rows true true 3 k row3, .rows true true 3 k row4]) key ⟨.rows (ops_like ht1), .rows (ops_like ht3), .rows (vcs_like ht6), .rows (vcs_like ht8), trivial⟩
      have key : LoopSem Try.prog 1 (gbX Try.prog) (stOf 85 [(0, .slice (some ⟨0, 0, some 0⟩) n 12), (2, .bool false), (8, .slice (some ⟨2, 0, some 0⟩) k 3), (9, .slice (some ⟨3, 0, some 0⟩) k 3), (71, vI k), (72, vI i)] [.rows own true 12 n row, .rows true true 12 n row2, .rows true true 3 k row3, .rows true true 3 k row4]) _ _ := key
      rw [← hk] at key
      have key := LoopSem.clean key
      unfold gbO at key
      rcases Ans.br_some hr1 with ⟨hq, hr1⟩ | ⟨hq, hr1⟩
      · simp only [hq] at key
        simp only [Ans.res, Option.some.injEq, Prod.mk.injEq] at hr1
        obtain ⟨rfl, rfl⟩ := hr1
        exact key
      · simp only [hq] at key
        simp only [Ans.res, Option.some.injEq, Prod.mk.injEq] at hr1
        obtain ⟨rfl, rfl⟩ := hr1
        exact key
    · simp [Ans.res] at hr1
  · cases h

def Cga (P : Program) : Cx := ((Cpb P).addLB 6 8 1 gaS).addLB 6 18 1 gbS
theorem okga : CxOk (Cga Try.prog) := Cx.addLB_ok (Cx.addLB_ok okpb gaX_eq fun _ _ _ _ h hr => gaK h hr) gbX_eq fun _ _ _ _ h hr => gbK h hr
end Go.Proofs.Ytcefeamjnnkahaa
