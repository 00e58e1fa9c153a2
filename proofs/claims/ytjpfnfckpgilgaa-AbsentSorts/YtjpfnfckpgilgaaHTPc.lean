/-
  Rotations and Centring, of the program and of the document, told. Nothing here is trusted.
-/
import Derived.Test.YtjpfnfckpgilgaaHTPb
namespace Go.Proofs.Ytjpfnfckpgilgaa
open Go Vx
def Cpa (P : Program) : Cx := ((Cdk P).addLB 33 7 1 cqS).addLB 106 6 1 raS
theorem okpa : CxOk (Cpa Try.prog) := Cx.addLB_ok (Cx.addLB_ok okdk ceX_eq fun _ _ _ _ h hr => cqK h hr) raX_eq fun _ _ _ _ h hr => raK h hr
def rotsT (X : List O3) : List M3 := bld (fun i => rotT X i) (fun i => (atO X i).r) X.length 0 []
def cens (X : List O3) : List V3 := bld (fun i => (atO X i).r.eqB M3.one) (fun i => (atO X i).t) X.length 0 []
theorem bld_congr {α : Type} {t u : Int → Bool} {e : Int → α} (h : ∀ i, t i = u i) : ∀ (c : Nat) (i : Int) (ms : List α), bld t e c i ms = bld u e c i ms
  | 0, _, _ => rfl
  | c + 1, i, ms => by
    simp only [bld, h i]
    cases u i with
    | true => exact bld_congr h c _ _
    | false => exact bld_congr h c _ _
theorem eqB_comm (m n : M3) : m.eqB n = n.eqB m := by
  rw [Bool.eq_iff_iff, M3.eqB_iff, M3.eqB_iff]; exact ⟨Eq.symm, Eq.symm⟩
theorem rotTU (X : List O3) (i : Int) : rotU X i = rotT X i := by unfold rotT rotU; rw [eqB_comm]
theorem bld_ne {α : Type} {t : Int → Bool} {e : Int → α} : ∀ (c : Nat) (i : Int) (ms : List α), bld t e c i ms = [] → ms = [] ∧ ∀ j : Int, i ≤ j → j < i + (c : Int) → t j = false
  | 0, i, ms, h => ⟨h, fun j h1 h2 => by omega⟩
  | c + 1, i, ms, h => by
    simp only [bld] at h
    cases ht : t i with
    | true =>
      rw [ht] at h
      have := (bld_ne c (i + 1) _ h).1
      simp at this
    | false =>
      rw [ht] at h
      obtain ⟨h1, h2⟩ := bld_ne c (i + 1) _ h
      refine ⟨h1, fun j k1 k2 => ?_⟩
      by_cases hj : j = i
      · subst hj; exact ht
      · exact h2 j (by omega) (by omega)
theorem bld_len {α : Type} {t : Int → Bool} {e : Int → α} : ∀ (c : Nat) (i : Int) (ms : List α), (bld t e c i ms).length ≤ ms.length + c
  | 0, _, _ => Nat.le_refl _
  | c + 1, i, ms => by
    simp only [bld]
    cases t i with
    | true => have := bld_len (t := t) (e := e) c (i + 1) (ms ++ [e i]); simp at this ⊢; omega
    | false => have := bld_len (t := t) (e := e) c (i + 1) ms; simp; omega
theorem chk_len {X : List O3} (h : chkI X = 0) : X.length ≤ 192 ∧ O3.one ∈ X := by
  unfold chkI at h
  cases hq : clsOk X with
  | false => rw [hq] at h; exact absurd h (clsErr_ne X)
  | true =>
    rw [hq] at h
    simp only at h
    cases hs : sameB (clsG X) X with
    | false => rw [hs] at h; cases h
    | true =>
      have e := sameB_iff.1 hs
      obtain ⟨h1, h2, hg⟩ := clsOk_spec hq
      refine ⟨h1, ?_⟩
      rw [← e]
      exact (sortO_perm _).mem_iff.2 (hg.grp (all_inv h2)).one
theorem rots_ne {X : List O3} (h : chkI X = 0) : nilL (rotsT X) = false := by
  have h1 := (chk_len h).2
  cases hr : rotsT X with
  | cons m l => rfl
  | nil =>
    exfalso
    have hx : 0 < X.length := List.length_pos_of_mem h1
    have := (bld_ne _ _ _ hr).2 0 (by omega) (by omega)
    cases this
theorem cens_ne {X : List O3} (h : chkI X = 0) : nilL (cens X) = false := by
  have h1 := (chk_len h).2
  cases hr : cens X with
  | cons m l => rfl
  | nil =>
    exfalso
    obtain ⟨j, hj, e⟩ := List.mem_iff_getElem.1 h1
    have h2 := (bld_ne _ _ _ hr).2 (j : Int) (by omega) (by omega)
    have hat : atO X (j : Int) = O3.one := by unfold atO; rw [Int.toNat_natCast, List.getElem?_eq_getElem hj]; exact e
    simp only [hat] at h2
    rw [show O3.one.r = M3.one from rfl, M3.eqB_refl] at h2
    cases h2
def partT (n : Nat) (row : Nat → List Value) : Bool := Nat.beq n n && (okOps n row && (decide ((n : Int) = (n : Int)) && (decide ((0 : Int) = 0) && decide (n ≤ 1000))))
def partT2 (n : Nat) (row : Nat → List Value) : Bool := Nat.beq n n && (okOps n row && (decide ((n : Int) = (n : Int)) && (decide ((0 : Int) = 0) && (decide (n ≤ 1000) && Nat.beq n n))))
def partT3 (n : Nat) (row : Nat → List Value) : Bool := Nat.beq n n && (okOps n row && (decide ((n : Int) = (n : Int)) && (decide ((0 : Int) = 0) && (decide (n ≤ 1000) && (isO O3.one.cells && (decO O3.one.cells).eqB O3.one)))))
def endM (own : Bool) (N : Nat) (X : List O3) (Q : List M3) : Option (Value × Mem) := match nilL Q with
  | true => some (nilE 0, [.rows own true 12 N (opRow X), .no])
  | false => some (.tuple #[.slice (some ⟨1, 0, some 0⟩) Q.length 9, vI 0], [.rows own true 12 N (opRow X), .rows true true 9 Q.length (mtRow Q)])
def endV (own : Bool) (N : Nat) (X : List O3) (Q : List V3) : Option (Value × Mem) := match nilL Q with
  | true => some (nilE 0, [.rows own true 12 N (opRow X), .no])
  | false => some (.tuple #[.slice (some ⟨1, 0, some 0⟩) Q.length 3, vI 0], [.rows own true 12 N (opRow X), .rows true true 3 Q.length (vcRow Q)])

theorem rtE0 : exT ((Cpa Try.prog).at 106) 60 Try.f106 [.slice none 0 0] [] [.slot 0] = some (nilE 5, [.no]) := by kernel_rfl
theorem rtE1 (own : Bool) (N : Nat) (ls : List O3) : exT ((Cpa Try.prog).at 106) 60 Try.f106 [.slice (some ⟨0, 0, some 0⟩) N 12] [.rows own true 12 N (opRow ls)] [.fix 0, .slot 0] =
    gd (oT N (opRow ls)) (match chkI (opsOf N (opRow ls)) != 0 with
      | true => some (nilE (chkI (opsOf N (opRow ls))), [.rows own true 12 N (opRow (opsOf N (opRow ls))), .no])
      | false => gd (partT2 N (opRow (opsOf N (opRow ls)))) (endM own N (opsOf N (opRow (opsOf N (opRow ls)))) (bld (fun i => rotT (opsOf N (opRow (opsOf N (opRow ls)))) i) (fun i => (atO (opsOf N (opRow (opsOf N (opRow ls)))) i).r) N 0 []))) := by kernel_rfl
def rtF : List Value → Mem → Option (Ans (Value × Mem))
  | [.slice none 0 0], [] => some (.out (nilE 5, [.no]))
  | [.slice (some ⟨0, 0, some 0⟩) N 12], [.rows own true 12 N2 row] => some (.br (Nat.beq N N2 && (okOps N row && decide (N ≤ 4611686018427387904))) (.br (chkI (opsOf N row) != 0) (.out (nilE (chkI (opsOf N row)), [.rows own true 12 N (opRow (opsOf N row)), .no])) (.out (.tuple #[.slice (some ⟨1, 0, some 0⟩) (rotsT (opsOf N row)).length 9, vI 0], [.rows own true 12 N (opRow (opsOf N row)), .rows true true 9 (rotsT (opsOf N row)).length (mtRow (rotsT (opsOf N row)))]))) .fail)
  | _, _ => none
theorem rtS {args : List Value} {m : Mem} {ans : Ans (Value × Mem)} {v : Value} {m' : Mem} (h : rtF args m = some ans) (hr : ans.res = some (v, m')) : MemSem Try.prog 106 args m v m' := by
  unfold rtF at h
  split at h
  · simp only [Option.some.injEq] at h
    subst h
    simp only [Ans.res, Option.some.injEq, Prod.mk.injEq] at hr
    obtain ⟨rfl, rfl⟩ := hr
    exact exT_ok okpa Try.func106 (by kernel_rfl) rtE0
  · rename_i N own N2 row
    simp only [Option.some.injEq] at h
    subst h
    rcases Ans.br_some hr with ⟨hc, hr1⟩ | ⟨_, hr1⟩
    rotate_left
    · simp [Ans.res] at hr1
    clear hr
    simp only [Bool.and_eq_true, decide_eq_true_eq] at hc
    obtain ⟨c1, c2, c3⟩ := hc
    have c1 := beq_len c1
    subst c1
    have hl := opsOf_length N row
    have hE := rtE1 own N (opsOf N row)
    have tg : oT N (opRow (opsOf N row)) = true := by unfold oT; rw [Nat.beq_refl, okOps_opRow]; simp
    rw [opsOf_row hl, opsOf_row hl, tg] at hE
    simp only [gd_true] at hE
    rcases Ans.br_some hr1 with ⟨hq, hr2⟩ | ⟨hq, hr2⟩
    · rw [hq] at hE
      simp only [Ans.res, Option.some.injEq, Prod.mk.injEq] at hr2
      obtain ⟨rfl, rfl⟩ := hr2
      exact (exT_ok okpa Try.func106 (by kernel_rfl) hE).like ⟨.rows (ops_like c2), trivial⟩
    · rw [hq] at hE
      have h0 : chkI (opsOf N row) = 0 := by simpa using hq
      have hN := (chk_len h0).1
      rw [hl] at hN
      have ht : partT2 N (opRow (opsOf N row)) = true := by unfold partT2; rw [Nat.beq_refl, okOps_opRow]; simp; omega
      have hQ : bld (fun i => rotT (opsOf N row) i) (fun i => (atO (opsOf N row) i).r) N 0 [] = rotsT (opsOf N row) := by unfold rotsT; rw [hl]
      rw [ht, hQ] at hE
      simp only [gd_true] at hE
      unfold endM at hE
      rw [rots_ne h0] at hE
      simp only [Ans.res, Option.some.injEq, Prod.mk.injEq] at hr2
      obtain ⟨rfl, rfl⟩ := hr2
      exact (exT_ok okpa Try.func106 (by kernel_rfl) hE).like ⟨.rows (ops_like c2), trivial⟩
  · cases h

theorem ctE0 : exT ((Cpa Try.prog).at 33) 60 Try.f33 [.slice none 0 0] [] [.slot 0] = some (nilE 5, [.no]) := by kernel_rfl
theorem ctE1 (own : Bool) (N : Nat) (ls : List O3) : exT ((Cpa Try.prog).at 33) 60 Try.f33 [.slice (some ⟨0, 0, some 0⟩) N 12] [.rows own true 12 N (opRow ls)] [.fix 0, .slot 0] =
    gd (oT N (opRow ls)) (match chkI (opsOf N (opRow ls)) != 0 with
      | true => some (nilE (chkI (opsOf N (opRow ls))), [.rows own true 12 N (opRow (opsOf N (opRow ls))), .no])
      | false => gd (partT3 N (opRow (opsOf N (opRow ls)))) (endV own N (opsOf N (opRow (opsOf N (opRow ls)))) (bld (fun i => (atO (opsOf N (opRow (opsOf N (opRow ls)))) i).r.eqB M3.one) (fun i => (atO (opsOf N (opRow (opsOf N (opRow ls)))) i).t) N 0 []))) := by kernel_rfl
def ctF : List Value → Mem → Option (Ans (Value × Mem))
  | [.slice none 0 0], [] => some (.out (nilE 5, [.no]))
  | [.slice (some ⟨0, 0, some 0⟩) N 12], [.rows own true 12 N2 row] => some (.br (Nat.beq N N2 && (okOps N row && decide (N ≤ 4611686018427387904))) (.br (chkI (opsOf N row) != 0) (.out (nilE (chkI (opsOf N row)), [.rows own true 12 N (opRow (opsOf N row)), .no])) (.out (.tuple #[.slice (some ⟨1, 0, some 0⟩) (cens (opsOf N row)).length 3, vI 0], [.rows own true 12 N (opRow (opsOf N row)), .rows true true 3 (cens (opsOf N row)).length (vcRow (cens (opsOf N row)))]))) .fail)
  | _, _ => none
theorem ctS {args : List Value} {m : Mem} {ans : Ans (Value × Mem)} {v : Value} {m' : Mem} (h : ctF args m = some ans) (hr : ans.res = some (v, m')) : MemSem Try.prog 33 args m v m' := by
  unfold ctF at h
  split at h
  · simp only [Option.some.injEq] at h
    subst h
    simp only [Ans.res, Option.some.injEq, Prod.mk.injEq] at hr
    obtain ⟨rfl, rfl⟩ := hr
    exact exT_ok okpa Try.func33 (by kernel_rfl) ctE0
  · rename_i N own N2 row
    simp only [Option.some.injEq] at h
    subst h
    rcases Ans.br_some hr with ⟨hc, hr1⟩ | ⟨_, hr1⟩
    rotate_left
    · simp [Ans.res] at hr1
    clear hr
    simp only [Bool.and_eq_true, decide_eq_true_eq] at hc
    obtain ⟨c1, c2, c3⟩ := hc
    have c1 := beq_len c1
    subst c1
    have hl := opsOf_length N row
    have hE := ctE1 own N (opsOf N row)
    have tg : oT N (opRow (opsOf N row)) = true := by unfold oT; rw [Nat.beq_refl, okOps_opRow]; simp
    rw [opsOf_row hl, opsOf_row hl, tg] at hE
    simp only [gd_true] at hE
    rcases Ans.br_some hr1 with ⟨hq, hr2⟩ | ⟨hq, hr2⟩
    · rw [hq] at hE
      simp only [Ans.res, Option.some.injEq, Prod.mk.injEq] at hr2
      obtain ⟨rfl, rfl⟩ := hr2
      exact (exT_ok okpa Try.func33 (by kernel_rfl) hE).like ⟨.rows (ops_like c2), trivial⟩
    · rw [hq] at hE
      have h0 : chkI (opsOf N row) = 0 := by simpa using hq
      have hN := (chk_len h0).1
      rw [hl] at hN
      have ht : partT3 N (opRow (opsOf N row)) = true := by unfold partT3; rw [Nat.beq_refl, okOps_opRow, isO_cells, decO_cells, O3.eqB_refl]; simp; omega
      have hQ : bld (fun i => (atO (opsOf N row) i).r.eqB M3.one) (fun i => (atO (opsOf N row) i).t) N 0 [] = cens (opsOf N row) := by unfold cens; rw [hl]
      rw [ht, hQ] at hE
      simp only [gd_true] at hE
      unfold endV at hE
      rw [cens_ne h0] at hE
      simp only [Ans.res, Option.some.injEq, Prod.mk.injEq] at hr2
      obtain ⟨rfl, rfl⟩ := hr2
      exact (exT_ok okpa Try.func33 (by kernel_rfl) hE).like ⟨.rows (ops_like c2), trivial⟩
  · cases h

def Cpb (P : Program) : Cx := ((Cpa P).addF 106 rtF).addF 33 ctF
theorem okpb : CxOk (Cpb Try.prog) := Cx.addF_ok (Cx.addF_ok okpa fun _ _ _ _ _ h hr => rtS h hr) fun _ _ _ _ _ h hr => ctS h hr
end Go.Proofs.Ytjpfnfckpgilgaa
