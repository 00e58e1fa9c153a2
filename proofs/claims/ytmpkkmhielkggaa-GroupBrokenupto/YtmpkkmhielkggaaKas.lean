/-
  Rotations and Centring, of the program and of the document, told. Nothing here is trusted.
-/
import Derived.Test.YtmpkkmhielkggaaKar
import Derived.Test.YtmpkkmhielkggaaKai

namespace Go.Proofs.Ytmpkkmhielkggaa
open Go Vx
def Cpa (P : Program) : Cx := ((Cdk P).addLB 18 7 1 ceS).addLB 17 6 1 raS
theorem okpa : CxOk (Cpa Try.prog) := Cx.addLB_ok (Cx.addLB_ok okdk ceX_eq fun _ _ _ _ h hr => ceK h hr) raX_eq fun _ _ _ _ h hr => raK h hr
def rotsT (X : List O3) : List M3 := bld (fun i => rotT X i) (fun i => (atO X i).r) X.length 0 []
def cens (X : List O3) : List V3 := bld (fun i => (atO X i).r.eqB M3.one) (fun i => (atO X i).t) X.length 0 []
theorem bld_congr {α : Type} {t u : Int → Bool} {e : Int → α} (h : ∀ i, t i = u i) : ∀ (c : Nat) (i : Int) (ms : List α), bld t e c i ms = bld u e c i ms
  | 0, _, _ => rfl
  | c + 1, i, ms => by
    simp only [bld, h i]
    cases u i with
    | true => exact bld_congr h c _ _
    | false => exact bld_congr h c _ _
theorem eqB_comm (m n : M3) : m.eqB n = n.eqB m := by
  rw [Bool.eq_iff_iff, M3.eqB_iff, M3.eqB_iff]; exact ⟨Eq.symm, Eq.symm⟩
theorem rotTU (X : List O3) (i : Int) : rotU X i = rotT X i := by unfold rotT rotU; rw [eqB_comm]
theorem bld_ne {α : Type} {t : Int → Bool} {e : Int → α} : ∀ (c : Nat) (i : Int) (ms : List α), bld t e c i ms = [] → ms = [] ∧ ∀ j : Int, i ≤ j → j < i + (c : Int) → t j = false
  | 0, i, ms, h => ⟨h, fun j h1 h2 => by omega⟩
  | c + 1, i, ms, h => by
    simp only [bld] at h
    cases ht : t i with
    | true =>
      rw [ht] at h
      have := (bld_ne c (i + 1) _ h).1
      simp at this
    | false =>
      rw [ht] at h
      obtain ⟨h1, h2⟩ := bld_ne c (i + 1) _ h
      refine ⟨h1, fun j k1 k2 => ?_⟩
      by_cases hj : j = i
      · subst hj; exact ht
      · exact h2 j (by omega) (by omega)
theorem bld_len {α : Type} {t : Int → Bool} {e : Int → α} : ∀ (c : Nat) (i : Int) (ms : List α), (bld t e c i ms).length ≤ ms.length + c
  | 0, _, _ => Nat.le_refl _
  | c + 1, i, ms => by
    simp only [bld]
    cases t i with
    | true => have := bld_len (t := t) (e := e) c (i + 1) (ms ++ [e i]); simp at this ⊢; omega
    | false => have := bld_len (t := t) (e := e) c (i + 1) ms; simp; omega
theorem chk_len {X : List O3} (h : chkI X = 0) : X.length ≤ 192 ∧ O3.one ∈ X := by
  unfold chkI at h
  cases hq : clsOk X with
  | false => rw [hq] at h; exact absurd h (clsErr_ne X)
  | true =>
    rw [hq] at h
    simp only at h
    cases hs : sameB (clsG X) X with
    | false => rw [hs] at h; cases h
    | true =>
      have e := sameB_iff.1 hs
      obtain ⟨h1, h2, hg⟩ := clsOk_spec hq
      refine ⟨h1, ?_⟩
      rw [← e]
      exact (sortO_perm _).mem_iff.2 (hg.grp (all_inv h2)).one
theorem rots_ne {X : List O3} (h : chkI X = 0) : nilL (rotsT X) = false := by
  have h1 := (chk_len h).2
  cases hr : rotsT X with
  | cons m l => rfl
  | nil =>
    exfalso
    have hx : 0 < X.length := List.length_pos_of_mem h1
    have := (bld_ne _ _ _ hr).2 0 (by omega) (by omega)
    cases this
theorem cens_ne {X : List O3} (h : chkI X = 0) : nilL (cens X) = false := by
  have h1 := (chk_len h).2
  cases hr : cens X with
  | cons m l => rfl
  | nil =>
    exfalso
    obtain ⟨j, hj, e⟩ := List.mem_iff_getElem.1 h1
    have h2 := (bld_ne _ _ _ hr).2 (j : Int) (by omega) (by omega)
    have hat : atO X (j : Int) = O3.one := by unfold atO; rw [Int.toNat_natCast, List.getElem?_eq_getElem hj]; exact e
    simp only [hat] at h2
    rw [show O3.one.r = M3.one from rfl, M3.eqB_refl] at h2
    cases h2
def partT (n : Nat) (row : Nat → List Value) : Bool := Nat.beq n n && (okOps n row && (decide ((n : Int) = (n : Int)) && (decide ((0 : Int) = 0) && decide (n ≤ 1000))))
def partT2 (n : Nat) (row : Nat → List Value) : Bool := Nat.beq n n && (okOps n row && (decide ((n : Int) = (n : Int)) && (decide ((0 : Int) = 0) && (decide (n ≤ 1000) && Nat.beq n n))))
def partT3 (n : Nat) (row : Nat → List Value) : Bool := Nat.beq n n && (okOps n row && (decide ((n : Int) = (n : Int)) && (decide ((0 : Int) = 0) && (decide (n ≤ 1000) && (isO O3.one.cells && (decO O3.one.cells).eqB O3.one)))))
def endM (own : Bool) (N : Nat) (X : List O3) (Q : List M3) : Option (Value × Mem) := match nilL Q with
  | true => some (nilE 0, [.rows own true 12 N (opRow X), .no])
  | false => some (.tuple #[.slice (some ⟨1, 0, some 0⟩) Q.length 9, vI 0], [.rows own true 12 N (opRow X), .rows true true 9 Q.length (mtRow Q)])
def endV (own : Bool) (N : Nat) (X : List O3) (Q : List V3) : Option (Value × Mem) := match nilL Q with
  | true => some (nilE 0, [.rows own true 12 N (opRow X), .no])
  | false => some (.tuple #[.slice (some ⟨1, 0, some 0⟩) Q.length 3, vI 0], [.rows own true 12 N (opRow X), .rows true true 3 Q.length (vcRow Q)])

theorem rtE0 : exT ((Cpa Try.prog).at 17) 60 Try.f17 [.slice none 0 0] [] [.slot 0] = some (nilE 5, [.no]) := by kernel_rfl
theorem rtE1 (own : Bool) (N : Nat) (ls : List O3) : exT ((Cpa Try.prog).at 17) 60 Try.f17 [.slice (some ⟨0, 0, some 0⟩) N 12] [.rows own true 12 N (opRow ls)] [.fix 0, .slot 0] =
    gd (oT N (opRow ls)) (match chkI (opsOf N (opRow ls)) != 0 with
      | true => some (nilE (chkI (opsOf N (opRow ls))), [.rows own true 12 N (opRow (opsOf N (opRow ls))), .no])
      | false => gd (partT2 N (opRow (opsOf N (opRow ls)))) (endM own N (opsOf N (opRow (opsOf N (opRow ls)))) (bld (fun i => rotT (opsOf N (opRow (opsOf N (opRow ls)))) i) (fun i => (atO (opsOf N (opRow (opsOf N (opRow ls)))) i).r) N 0 []))) := by kernel_rfl
def rtF : List Value → Mem → Option (Ans (Value × Mem))
  | [.slice none 0 0], [] => some (.out (nilE 5, [.no]))
  | [.slice (some ⟨0, 0, some 0⟩) N 12], [.rows own true 12 N2 row] => some (.br (Nat.beq N N2 && (okOps N row && decide (N ≤ 4611686018427387904))) (.br (chkI (opsOf N row) != 0) (.out (nilE (chkI (opsOf N row)), [.rows own true 12 N (opRow (opsOf N row)), .no])) (.out (.tuple #[.slice (some ⟨1, 0, some 0⟩) (rotsT (opsOf N row)).length 9, vI 0], [.rows own true 12 N (opRow (opsOf N row)), .rows true true 9 (rotsT (opsOf N row)).length (mtRow (rotsT (opsOf N row)))]))) .fail)
  | _, _ => none
theorem rtS {args : List Value} {m : Mem} {ans : Ans (Value × Mem)} {v : Value} {m' : Mem} (h : rtF args m = some ans) (hr : ans.res = some (v, m')) : MemSem Try.prog 17 args m v m' := by
  unfold rtF at h
  split at h
  · simp only [Option.some.injEq] at h
    subst h
    simp only [Ans.res, Option.some.injEq, Prod.mk.injEq] at hr
    obtain ⟨rfl, rfl⟩ := hr
    exact exT_ok okpa Try.func17 (by kernel_rfl) rtE0
  · rename_i N own N2 row
    simp only [Option.some.injEq] at h
    subst h
    rcases Ans.br_some hr with ⟨hc, hr1⟩ | ⟨_, hr1⟩
    rotate_left
    · simp [Ans.res] at hr1
    clear hr
    simp only [Bool.and_eq_true, decide_eq_true_eq] at hc
    obtain ⟨c1, c2, c3⟩ := hc
    have c1 := beq_len c1
    subst c1
    have hl := opsOf_length N row
    have hE := rtE1 own N (opsOf N row)
    have tg : oT N (opRow (opsOf N row)) = true := by unfold oT; rw [Nat.beq_refl, okOps_opRow]; simp
    rw [opsOf_row hl, opsOf_row hl, tg] at hE
    simp only [gd_true] at hE
    rcases Ans.br_some hr1 with ⟨hq, hr2⟩ | ⟨hq, hr2⟩
    · rw [hq] at hE
      simp only [Ans.res, Option.some.injEq, Prod.mk.injEq] at hr2
      obtain ⟨rfl, rfl⟩ := hr2
      exact (exT_ok okpa Try.func17 (by kernel_rfl) hE).like ⟨.rows (ops_like c2), trivial⟩
    · rw [hq] at hE
      have h0 : chkI (opsOf N row) = 0 := by simpa using hq
      have hN := (chk_len h0).1
      rw [hl] at hN
      have ht : partT2 N (opRow (opsOf N row)) = true := by unfold partT2; rw [Nat.beq_refl, okOps_opRow]; simp; omega
      have hQ : bld (fun i => rotT (opsOf N row) i) (fun i => (atO (opsOf N row) i).r) N 0 [] = rotsT (opsOf N row) := by unfold rotsT; rw [hl]
      rw [ht, hQ] at hE
      simp only [gd_true] at hE
      unfold endM at hE
      rw [rots_ne h0] at hE
      simp only [Ans.res, Option.some.injEq, Prod.mk.injEq] at hr2
      obtain ⟨rfl, rfl⟩ := hr2
      exact (exT_ok okpa Try.func17 (by kernel_rfl) hE).like ⟨.rows (ops_like c2), trivial⟩
  · cases h

theorem ctE0 : exT ((Cpa Try.prog).at 18) 60 Try.f18 [.slice none 0 0] [] [.slot 0] = some (nilE 5, [.no]) := by kernel_rfl
theorem ctE1 (own : Bool) (N : Nat) (ls : List O3) : exT ((Cpa Try.prog).at 18) 60 Try.f18 [.slice (some ⟨0, 0, some 0⟩) N 12] [.rows own true 12 N (opRow ls)] [.fix 0, .slot 0] =
    gd (oT N (opRow ls)) (match chkI (opsOf N (opRow ls)) != 0 with
      | true => some (nilE (chkI (opsOf N (opRow ls))), [.rows own true 12 N (opRow (opsOf N (opRow ls))), .no])
      | false => gd (partT3 N (opRow (opsOf N (opRow ls)))) (endV own N (opsOf N (opRow (opsOf N (opRow ls)))) (bld (fun i => (atO (opsOf N (opRow (opsOf N (opRow ls)))) i).r.eqB M3.one) (fun i => (atO (opsOf N (opRow (opsOf N (opRow ls)))) i).t) N 0 []))) := by kernel_rfl
def ctF : List Value → Mem → Option (Ans (Value × Mem))
  | [.slice none 0 0], [] => some (.out (nilE 5, [.no]))
  | [.slice (some ⟨0, 0, some 0⟩) N 12], [.rows own true 12 N2 row] => some (.br (Nat.beq N N2 && (okOps N row && decide (N ≤ 4611686018427387904))) (.br (chkI (opsOf N row) != 0) (.out (nilE (chkI (opsOf N row)), [.rows own true 12 N (opRow (opsOf N row)), .no])) (.out (.tuple #[.slice (some ⟨1, 0, some 0⟩) (cens (opsOf N row)).length 3, vI 0], [.rows own true 12 N (opRow (opsOf N row)), .rows true true 3 (cens (opsOf N row)).length (vcRow (cens (opsOf N row)))]))) .fail)
  | _, _ => none
theorem ctS {args : List Value} {m : Mem} {ans : Ans (Value × Mem)} {v : Value} {m' : Mem} (h : ctF args m = some ans) (hr : ans.res = some (v, m')) : MemSem Try.prog 18 args m v m' := by
  unfold ctF at h
  split at h
  · simp only [Option.some.injEq] at h
    subst h
    simp only [Ans.res, Option.some.injEq, Prod.mk.injEq] at hr
    obtain ⟨rfl, rfl⟩ := hr
    exact exT_ok okpa Try.func18 (by kernel_rfl) ctE0
  · rename_i N own N2 row
    simp only [Option.some.injEq] at h
    subst h
    rcases Ans.br_some hr with ⟨hc, hr1⟩ | ⟨_, hr1⟩
    rotate_left
    · simp [Ans.res] at hr1
    clear hr
    simp only [Bool.and_eq_true, decide_eq_true_eq] at hc
    obtain ⟨c1, c2, c3⟩ := hc
    have c1 := beq_len c1
    subst c1
    have hl := opsOf_length N row
    have hE := ctE1 own N (opsOf N row)
    have tg : oT N (opRow (opsOf N row)) = true := by unfold oT; rw [Nat.beq_refl, okOps_opRow]; simp
    rw [opsOf_row hl, opsOf_row hl, tg] at hE
    simp only [gd_true] at hE
    rcases Ans.br_some hr1 with ⟨hq, hr2⟩ | ⟨hq, hr2⟩
    · rw [hq] at hE
      simp only [Ans.res, Option.some.injEq, Prod.mk.injEq] at hr2
      obtain ⟨rfl, rfl⟩ := hr2
      exact (exT_ok okpa Try.func18 (by kernel_rfl) hE).like ⟨.rows (ops_like c2), trivial⟩
    · rw [hq] at hE
      have h0 : chkI (opsOf N row) = 0 := by simpa using hq
      have hN := (chk_len h0).1
      rw [hl] at hN
      have ht : partT3 N (opRow (opsOf N row)) = true := by unfold partT3; rw [Nat.beq_refl, okOps_opRow, isO_cells, decO_cells, O3.eqB_refl]; simp; omega
      have hQ : bld (fun i => (atO (opsOf N row) i).r.eqB M3.one) (fun i => (atO (opsOf N row) i).t) N 0 [] = cens (opsOf N row) := by unfold cens; rw [hl]
      rw [ht, hQ] at hE
      simp only [gd_true] at hE
      unfold endV at hE
      rw [cens_ne h0] at hE
      simp only [Ans.res, Option.some.injEq, Prod.mk.injEq] at hr2
      obtain ⟨rfl, rfl⟩ := hr2
      exact (exT_ok okpa Try.func18 (by kernel_rfl) hE).like ⟨.rows (ops_like c2), trivial⟩
  · cases h

def Cpb (P : Program) : Cx := ((Cpa P).addF 17 rtF).addF 18 ctF
theorem okpb : CxOk (Cpb Try.prog) := Cx.addF_ok (Cx.addF_ok okpa fun _ _ _ _ _ h hr => rtS h hr) fun _ _ _ _ _ h hr => ctS h hr
end Go.Proofs.Ytmpkkmhielkggaa


namespace Go.Proofs.Ytmpkkmhielkggaa
open Go Vx

theorem bld_drop {α : Type} {X : List O3} {p : O3 → Bool} {f : O3 → α} : ∀ (c : Nat) (i : Int) (ms : List α), 0 ≤ i → i + (c : Int) = (X.length : Int) → bld (fun i => p (atO X i)) (fun i => f (atO X i)) c i ms = ms ++ ((X.drop i.toNat).filter p).map f
  | 0, i, ms, h0, h => by
    have : X.drop i.toNat = [] := List.drop_eq_nil_of_le (by omega)
    rw [this]; simp [bld]
  | c + 1, i, ms, h0, h => by
    have hd := drop_at (xs := X) (i := i) h0 (by omega)
    have ih := fun ms => bld_drop (X := X) (p := p) (f := f) c (i + 1) ms (by omega) (by omega)
    simp only [bld]
    rw [hd, List.filter_cons]
    cases hp : p (atO X i) with
    | true => simp only [if_true, List.map_cons]; rw [ih]; simp
    | false => simp only [ih]; simp
theorem cens_len (X : List O3) : (cens X).length = (X.filter fun x => x.r.eqB M3.one).length := by
  unfold cens
  rw [bld_drop (p := fun x => x.r.eqB M3.one) (f := fun x => x.t) X.length 0 [] (by omega) (by omega)]
  simp
def rotG (m : M3) : List O3 → List M3
  | [] => []
  | o :: l => match o.r.eqB m with
    | true => rotG o.r l
    | false => o.r :: rotG o.r l
theorem bld_rot {X : List O3} : ∀ (c : Nat) (i : Int) (ms : List M3), 1 ≤ i → i + (c : Int) = (X.length : Int) → bld (fun i => rotT X i) (fun i => (atO X i).r) c i ms = ms ++ rotG (atO X (i - 1)).r (X.drop i.toNat)
  | 0, i, ms, h0, h => by
    have : X.drop i.toNat = [] := List.drop_eq_nil_of_le (by omega)
    rw [this]; simp [bld, rotG]
  | c + 1, i, ms, h0, h => by
    have hd := drop_at (xs := X) (i := i) (by omega) (by omega)
    have ih := fun ms => bld_rot (X := X) c (i + 1) ms (by omega) (by omega)
    have hz : (i == 0) = false := by simp; omega
    have ht : rotT X i = !((atO X i).r.eqB (atO X (i - 1)).r) := by unfold rotT; rw [hz]
    have e1 : i + 1 - 1 = i := by omega
    rw [hd]
    simp only [bld, ht, rotG]
    cases hp : (atO X i).r.eqB (atO X (i - 1)).r with
    | true => simp only [Bool.not_true]; rw [ih, e1]
    | false => simp only [Bool.not_false]; rw [ih, e1]; simp
theorem rotsT_cons (q : O3) (l : List O3) : rotsT (q :: l) = q.r :: rotG q.r l := by
  unfold rotsT
  rw [List.length_cons]
  have h1 : bld (fun i => rotT (q :: l) i) (fun i => (atO (q :: l) i).r) (l.length + 1) 0 [] = bld (fun i => rotT (q :: l) i) (fun i => (atO (q :: l) i).r) l.length 1 [q.r] := rfl
  rw [h1, bld_rot l.length 1 [q.r] (by omega) (by simp; omega)]
  rfl
theorem M3.l_inj {a b : M3} (h : a.l = b.l) : a = b := by
  cases a; cases b; simp [M3.l] at h; simp [h]
theorem lex_r {a b : O3} (h : lexI a.l b.l < 0) : a.r = b.r ∨ lexI a.r.l b.r.l < 0 := by
  have e : lexI a.l b.l = if lexI a.r.l b.r.l ≠ 0 then lexI a.r.l b.r.l else lexI a.t.l b.t.l := lexI_append a.r.l b.r.l a.t.l b.t.l rfl
  by_cases hz : lexI a.r.l b.r.l = 0
  · exact Or.inl (M3.l_inj ((lexI_zero (l := a.r.l) (m := b.r.l) rfl).1 hz))
  · rw [e, if_pos hz] at h
    exact Or.inr h
theorem lex_lt {a b c : M3} (h1 : lexI a.l b.l < 0) (h2 : lexI b.l c.l < 0) : lexI a.l c.l < 0 := by
  have h := lexI_trans (l := a.l) (m := b.l) (n := c.l) rfl rfl (by omega) (by omega)
  by_cases hz : lexI a.l c.l = 0
  · have e : a.l = c.l := (lexI_zero (l := a.l) (m := c.l) rfl).1 hz
    have := lexI_neg b.l c.l
    rw [← e] at this h2
    have := lexI_neg a.l b.l
    omega
  · omega
theorem rotG_spec : ∀ (l : List O3) (q : O3), StrictO (q :: l) → (∀ m ∈ rotG q.r l, lexI q.r.l m.l < 0) ∧ (rotG q.r l).Nodup ∧ ∀ d, (d = q.r ∨ d ∈ rotG q.r l) ↔ ∃ o ∈ q :: l, o.r = d
  | [], q, _ => ⟨by simp [rotG], by simp [rotG], fun d => by simp [rotG, eq_comm]⟩
  | o :: l, q, h => by
    have h2 : StrictO (o :: l) := (List.pairwise_cons.1 h).2
    have h1 : lexI q.l o.l < 0 := (List.pairwise_cons.1 h).1 o (List.mem_cons_self ..)
    obtain ⟨i1, i2, i3⟩ := rotG_spec l o h2
    simp only [rotG]
    cases he : o.r.eqB q.r with
    | true =>
      have e := M3.eqB_iff.1 he
      refine ⟨fun m hm => by rw [← e]; exact i1 m hm, i2, fun d => ?_⟩
      rw [← e, i3 d]
      constructor
      · rintro ⟨x, hx, rfl⟩; exact ⟨x, List.mem_cons_of_mem _ hx, rfl⟩
      · rintro ⟨x, hx, rfl⟩
        rcases List.mem_cons.1 hx with rfl | hx
        · exact ⟨o, List.mem_cons_self .., e⟩
        · exact ⟨x, hx, rfl⟩
    | false =>
      have hne := M3.eqB_false.1 he
      have hlt : lexI q.r.l o.r.l < 0 := by
        rcases lex_r h1 with e | e
        · exact absurd e.symm hne
        · exact e
      refine ⟨?_, ?_, fun d => ?_⟩
      · intro m hm
        rcases List.mem_cons.1 hm with rfl | hm
        · exact hlt
        · exact lex_lt hlt (i1 m hm)
      · refine List.nodup_cons.2 ⟨fun hm => ?_, i2⟩
        have := i1 _ hm
        have hz : lexI o.r.l o.r.l = 0 := (lexI_zero rfl).2 rfl
        omega
      · rw [List.mem_cons, i3 d]
        constructor
        · rintro (rfl | ⟨x, hx, rfl⟩)
          · exact ⟨q, List.mem_cons_self .., rfl⟩
          · exact ⟨x, List.mem_cons_of_mem _ hx, rfl⟩
        · rintro ⟨x, hx, rfl⟩
          rcases List.mem_cons.1 hx with rfl | hx
          · exact Or.inl rfl
          · exact Or.inr ⟨x, hx, rfl⟩
/-- The count of a group in order is that of Rotations times that of Centring. -/
theorem rots_cens {X : List O3} (hg : Grp X) (hs : StrictO X) : (rotsT X).length * (cens X).length = X.length := by
  rw [cens_len]
  cases X with
  | nil => exact absurd hg.one (by simp)
  | cons q l =>
    obtain ⟨i1, i2, i3⟩ := rotG_spec l q hs
    rw [rotsT_cons]
    refine parts_len hg (List.nodup_cons.2 ⟨fun hm => ?_, i2⟩) fun d => ?_
    · have := i1 _ hm
      have hz : lexI q.r.l q.r.l = 0 := (lexI_zero rfl).2 rfl
      omega
    · rw [List.mem_cons]; exact i3 d
end Go.Proofs.Ytmpkkmhielkggaa


namespace Go.Proofs.Ytmpkkmhielkggaa.Vx
open Go Go.RowKit

def shiftR (i : Nat) (row : Nat → List Value) : Nat → List Value := match i with
  | 0 => row
  | i + 1 => fun j => row (i + 1 + j)
theorem shiftR_at (i : Nat) (row : Nat → List Value) (j : Nat) : shiftR i row j = row (i + j) := by cases i <;> simp [shiftR]
/-- Rows that can be lent. -/
def rowsAt : Option Blk → Option (Nat × Nat × (Nat → List Value))
  | some (.rows _ true e n row) => some (e, n, row)
  | some (.grow true e n row) => some (e, n, row)
  | _ => none
def sliceAt : Value → Option (Nat × Nat × Nat × Nat)
  | .slice (some a) n e => match a.off, a.spot with
    | 0, some i => some (a.block, i, n, e)
    | _, _ => none
  | _ => none
/-- Each slice that is handed in is a block of its own, which is only read. -/
def lendA (m : Mem) : List Value → Nat → Option (List Value × Mem × Bool)
  | [], _ => some ([], [], true)
  | v :: l, k => match sliceAt v with
    | some (b, i, n, e) => match rowsAt m[b]? with
      | some (e2, n2, row) => match Nat.beq e2 e with
        | true => match lendA m l (k + 1) with
          | some (ags, ms, c) => some (.slice (some ⟨k, 0, some 0⟩) n e :: ags, .rows false true e n (shiftR i row) :: ms, Nat.ble (i + n) n2 && c)
          | none => none
        | false => none
      | none => none
    | none => match plain v with
      | true => match lendA m l k with
        | some (ags, ms, c) => some (v :: ags, ms, c)
        | none => none
      | false => none
theorem sliceAt_spec {v : Value} {b i n e : Nat} (h : sliceAt v = some (b, i, n, e)) : v = .slice (some ⟨b, 0, some i⟩) n e := by
  cases v with
  | slice a n2 e2 =>
    cases a with
    | none => cases h
    | some a =>
      obtain ⟨b2, off, spot⟩ := a
      cases off with
      | succ o => cases h
      | zero =>
        cases spot with
        | none => cases h
        | some j =>
          simp only [sliceAt, Option.some.injEq, Prod.mk.injEq] at h
          obtain ⟨rfl, rfl, rfl, rfl⟩ := h
          rfl
  | _ => cases h
theorem rowsAt_rel {w : World} {r : Ren} {p : Place} {kk : Blk} {e n : Nat} {row : Nat → List Value} (hb : BlkRel w r p kk) (h : rowsAt (some kk) = some (e, n, row)) :
    p.esz = e ∧ p.n = n ∧ (∀ i, i < n → allL plain0 (row i) = true) ∧ ∃ cs T fz, w.heap[p.blk]? = some (.cells cs T fz) ∧ ∀ i, i < n → (row i).length = e ∧ CellsAt r cs (p.off + i * e) (row i) := by
  cases kk with
  | rows own pl e2 n2 row2 =>
    cases pl with
    | false => cases h
    | true =>
      simp only [rowsAt, Option.some.injEq, Prod.mk.injEq] at h
      obtain ⟨rfl, rfl, rfl⟩ := h
      obtain ⟨h1, h2, h0, hp, cs, T, fz, h6, h3, h4, h5⟩ := hb
      exact ⟨h2, h0, hp rfl, cs, T, fz, h3, h5⟩
  | grow pl e2 n2 row2 =>
    cases pl with
    | false => cases h
    | true =>
      simp only [rowsAt, Option.some.injEq, Prod.mk.injEq] at h
      obtain ⟨rfl, rfl, rfl⟩ := h
      obtain ⟨h1, h2, h0, hp, cs, T, fz, h3, h4, h5⟩ := hb
      exact ⟨h2, h0, hp rfl, cs, T, fz, h3, h5⟩
  | _ => cases h
theorem lend_ok {w0 w : World} {keep : Keep} {r : Ren} {m : Mem} (hm : MemRel w0 keep r m w) : ∀ (args : List Value) (k : Nat) {ags : List Value} {ms : Mem} {c : Bool} {args' : List Value}, lendA m args k = some (ags, ms, c) → c = true → RL (R r) args args' →
    ∃ ps : List Place, ps.length = ms.length ∧ (∀ (rl : Ren), (∀ (i : Nat) p, ps[i]? = some p → rl (k + i) = some (some p)) → RL (R rl) ags args') ∧ ∀ (i : Nat) p, ps[i]? = some p → p.own = false ∧ p.room = 0 ∧ (∃ b q, r b = some (some q) ∧ q.blk = p.blk) ∧ ∃ kk, ms[i]? = some kk ∧ ∀ rl : Ren, BlkRel w rl p kk
  | [], k, ags, ms, c, args', h, hc, ha => by
    simp only [lendA, Option.some.injEq, Prod.mk.injEq] at h
    obtain ⟨rfl, rfl, -⟩ := h
    exact ⟨[], rfl, fun _ _ => by cases args' with | nil => trivial | cons => exact ha.elim, fun i p hp => by simp at hp⟩
  | v :: l, k, ags, ms, c, [], h, hc, ha => ha.elim
  | v :: l, k, ags, ms, c, v' :: l', h, hc, ha => by
    simp only [lendA] at h
    split at h
    · rename_i b i n e hv
      have hv := sliceAt_spec hv
      subst hv
      split at h
      · rename_i e2 n2 row hrow
        split at h
        · rename_i he
          have he := Nat.eq_of_beq_eq_true he
          subst he
          split at h
          · rename_i ags1 ms1 c1 hl
            simp only [Option.some.injEq, Prod.mk.injEq] at h
            obtain ⟨rfl, rfl, rfl⟩ := h
            rw [Bool.and_eq_true] at hc
            obtain ⟨ps, h1, h2, h3⟩ := lend_ok hm l (k + 1) hl hc.2 ha.2
            have hle : i + n ≤ n2 := Nat.le_of_ble_eq_true hc.1
            have hv : R0 r (.slice (some ⟨b, 0, some i⟩) n e2) v' := ha.1
            unfold R0 at hv
            simp only at hv
            cases hr : r b with
            | none => rw [hr] at hv; exact hv.elim
            | some q =>
              cases q with
              | none =>
                rw [hm.dead b hr] at hrow
                cases hrow
              | some p =>
                rw [hr] at hv
                simp only at hv
                obtain ⟨cc, rfl, s1, s2, s3, s4, s5⟩ := hv
                obtain ⟨kk, hkb, hrel⟩ := hm.blk b p hr
                rw [hkb] at hrow
                obtain ⟨q1, q2, q3, cs, T, fz, q4, q5⟩ := rowsAt_rel hrel hrow
                refine ⟨⟨p.blk, p.off + i * e2, e2, n, 0, false⟩ :: ps, by simp [h1], fun rl hrl => ⟨?_, h2 rl fun j q hq => ?_⟩, fun j q hq => ?_⟩
                · have := hrl 0 _ rfl
                  simp only [Nat.add_zero] at this
                  have hg : R0 rl (.slice (some ⟨k, 0, some 0⟩) n e2) (.slice (some (p.addr ⟨b, 0, some i⟩)) n cc) := by
                    unfold R0
                    simp only [this]
                    refine ⟨cc, by simp [Place.addr, q1], s1, fun j hj => ?_, fun _ => rfl, fun _ => rfl, fun h => by cases h⟩
                    simp only [Option.some.injEq] at hj
                    subst hj
                    simp
                  exact hg
                · have := hrl (j + 1) q (by simpa using hq)
                  rw [← this]; congr 1; omega
                · cases j with
                  | zero =>
                    simp only [List.getElem?_cons_zero, Option.some.injEq] at hq
                    subst hq
                    refine ⟨rfl, rfl, ⟨b, p, hr, rfl⟩, _, rfl, fun rl => ⟨rfl, rfl, rfl, fun _ j hj => ?_, cs, T, fz, fun _ => rfl, q4, (fun h => by cases h), fun j hj => ?_⟩⟩
                    · rw [shiftR_at]; exact q3 _ (by omega)
                    · rw [shiftR_at]
                      refine ⟨(q5 _ (by omega)).1, fun t u hu => ?_⟩
                      have hpu := allL_iff.1 (q3 (i + j) (by omega)) u (List.mem_of_getElem? hu)
                      obtain ⟨u', g1, g2⟩ := (q5 (i + j) (by omega)).2 t u hu
                      refine ⟨u', ?_, (R0_plain hpu).2 ((R0_plain hpu).1 g2)⟩
                      simp only
                      rw [Nat.add_assoc p.off, ← Nat.add_mul]
                      exact g1
                  | succ j =>
                    simp only [List.getElem?_cons_succ] at hq ⊢
                    exact h3 j q hq
          · cases h
        · cases h
      · cases h
    · split at h
      · rename_i hp
        split at h
        · rename_i ags1 ms1 c1 hl
          simp only [Option.some.injEq, Prod.mk.injEq] at h
          obtain ⟨rfl, rfl, rfl⟩ := h
          obtain ⟨ps, h1, h2, h3⟩ := lend_ok hm l k hl hc ha.2
          exact ⟨ps, h1, fun rl hrl => ⟨(R_plain hp).2 ((R_plain hp).1 ha.1), h2 rl hrl⟩, h3⟩
        · cases h
      · cases h

def ownB : Blk → Bool
  | .cells own _ _ => own
  | .rows own _ _ _ _ => own
  | .view .. => false
  | _ => true
theorem ownB_own {w : World} {r : Ren} {p : Place} {k : Blk} (h : BlkRel w r p k) (ho : ownB k = true) : p.own = true := by
  cases k with
  | cells own e c => simp only [ownB] at ho; rw [h.1, ho]
  | rows own pl e n row => simp only [ownB] at ho; rw [h.1, ho]
  | grow pl e n row => exact h.1
  | view pl e n row => cases ho
  | iter s pos => exact h.1
  | mp u n es => exact h.1
  | no => exact h.elim
  | gone => exact h.elim
/-- What is made beside what is there. -/
theorem MemRel.join {w0 w w' : World} {keep kp : Keep} {r rn : Ren} {m mn : Mem} (hm : MemRel w0 keep r m w) (g : MemRel w kp rn mn w') (hk : ∀ j, keep j → kp j) (ho : ∀ b p, r b = some (some p) → kp p.blk) (hown : allB ownB mn = true) :
    MemRel w0 keep (r.back rn [] m.length) (m ++ mapB (unrB [] m.length) mn) w' ∧ Ext r (r.back rn [] m.length) := by
  have hlo : ∀ {b : Nat}, b < m.length → (r.back rn [] m.length) b = r b := fun {b} hb => by simp [Ren.back, idxN, hb]
  have hhi : ∀ {b : Nat}, ¬ b < m.length → (r.back rn [] m.length) b = rn (b - m.length) := fun {b} hb => by simp [Ren.back, idxN, hb]
  have mlo : ∀ {b : Nat}, b < m.length → (m ++ mapB (unrB [] m.length) mn)[b]? = m[b]? := fun {b} hb => List.getElem?_append_left hb
  have mhi : ∀ {b : Nat}, ¬ b < m.length → (m ++ mapB (unrB [] m.length) mn)[b]? = (mn[b - m.length]?).map (unrB [] m.length) := fun {b} hb => by
    rw [List.getElem?_append_right (by omega), mapB_get]
  have newO : ∀ {b : Nat} {p : Place}, rn b = some (some p) → p.own = true := fun {b p} hb => by
    obtain ⟨k, h1, h2⟩ := g.blk b p hb
    exact ownB_own h2 (allB_iff.1 hown k (List.mem_of_getElem? h1))
  have hext : Ext r (r.back rn [] m.length) := fun b => by
    by_cases hb : b < m.length
    · exact Or.inr (Or.inl (hlo hb))
    · exact Or.inl (hm.none b (Or.inl (List.getElem?_eq_none (by omega))))
  refine ⟨⟨g.os.trans hm.os, g.tape.trans hm.tape, g.output.trans hm.output, Nat.le_trans hm.drawn g.drawn, Nat.le_trans hm.size g.size, hm.klt, fun j hj => (g.kept j (hk j hj)).trans (hm.kept j hj), fun b hb => ?_, fun b hb => ?_, fun b p hb => ?_, fun b p hb hp => ?_, fun b p hb hp hz => ?_, fun b p hb hp hz => ?_, fun b c p q hb hc hp hz => ?_, fun b c p q hb hc hp hq he => ?_⟩, hext⟩
  · by_cases hl : b < m.length
    · rw [hlo hl]; rw [mlo hl] at hb; exact hm.none b hb
    · rw [hhi hl]
      rw [mhi hl] at hb
      refine g.none _ ?_
      cases hx : mn[b - m.length]? with
      | none => exact Or.inl rfl
      | some k =>
        rw [hx] at hb
        simp only [Option.map_some, Option.some.injEq, reduceCtorEq, false_or] at hb
        exact Or.inr (by rw [unrB_no.1 hb])
  · by_cases hl : b < m.length
    · rw [hlo hl] at hb; rw [mlo hl]; exact hm.dead b hb
    · rw [hhi hl] at hb
      rw [mhi hl, g.dead _ hb]
      rfl
  · by_cases hl : b < m.length
    · rw [hlo hl] at hb
      rw [mlo hl]
      obtain ⟨k, h1, h2⟩ := hm.blk b p hb
      exact ⟨k, h1, h2.mono (g.kept _ (ho b p hb)) hext⟩
    · rw [hhi hl] at hb
      rw [mhi hl]
      obtain ⟨k, h1, h2⟩ := g.blk _ p hb
      exact ⟨_, by rw [h1]; rfl, BlkRel_back (r := r) (ks := []) rfl rfl h2⟩
  · by_cases hl : b < m.length
    · rw [hlo hl] at hb; exact hm.own b p hb hp
    · rw [hhi hl] at hb; exact fun hk2 => g.own _ p hb hp (hk _ hk2)
  · by_cases hl : b < m.length
    · rw [hlo hl] at hb; exact hm.read b p hb hp hz
    · rw [hhi hl] at hb; rw [newO hb] at hp; cases hp
  · by_cases hl : b < m.length
    · rw [hlo hl] at hb; exact hm.vw b p hb hp hz
    · rw [hhi hl] at hb; rw [newO hb] at hp; cases hp
  · intro hq he
    by_cases hl : b < m.length
    · rw [hlo hl] at hb
      by_cases hl2 : c < m.length
      · rw [hlo hl2] at hc; rw [mlo hl2]; exact hm.sep b c p q hb hc hp hz hq he
      · rw [hhi hl2] at hc
        exact absurd (he ▸ ho b p hb) (g.own _ q hc hq)
    · rw [hhi hl] at hb; rw [newO hb] at hp; cases hp
  · by_cases hl : b < m.length
    · rw [hlo hl] at hb
      by_cases hl2 : c < m.length
      · rw [hlo hl2] at hc; exact hm.inj b c p q hb hc hp hq he
      · rw [hhi hl2] at hc
        exact absurd (he ▸ ho b p hb) (g.own _ q hc hq)
    · rw [hhi hl] at hb
      by_cases hl2 : c < m.length
      · rw [hlo hl2] at hc
        exact absurd (he ▸ ho c q hc) (g.own _ p hb hp)
      · rw [hhi hl2] at hc
        have := g.inj _ _ p q hb hc hp hq he
        omega

def fromN (k : Nat) : Nat → List Nat
  | 0 => []
  | n + 1 => k :: fromN (k + 1) n
def lendG (S : List Value → Mem → Option (Ans (Value × Mem))) (args : List Value) (m : Mem) : Option (Ans (Value × Mem)) := match lendA m args 0 with
  | some (ags, ms, c) => forceL ags fun ags => forceM ms fun ms => match S ags ms with
    | some ans => some (.br c (ans.bind fun vm => forceN (fromN ms.length (vm.2.length - ms.length)) fun ks => match noDup ks && allB noViewB m with
      | true => forceM (renM ks vm.2 ks) fun mn => match allB ownB mn with
        | true => .out (unrV [] m.length (renV ks vm.1), m ++ mapB (unrB [] m.length) mn)
        | false => .fail
      | false => .fail) .fail)
    | none => none
  | none => none
/-- A call that is lent what it reads: what was there is as it was. -/
theorem lend_call {P : Program} {f : FuncId} {args ags : List Value} {m ms mu : Mem} {c : Bool} {u : Value} (hA : lendA m args 0 = some (ags, ms, c)) (hc : c = true) (hS : MemSem P f ags ms u mu) {w0 : World} {keep : Keep} {r : Ren} {args' : List Value} {w : World} (hargs : RL (R r) args args') (hm : MemRel w0 keep r m w) {Q : Ending → World → Prop}
    (hQ : ∀ v' rs w' (kp : Keep), R rs u v' → MemRel w kp rs mu w' → (∀ j, keep j → kp j) → (∀ b p, r b = some (some p) → kp p.blk) → Q (.returned v') w') : Calls P f args'.toArray w Q := by
  obtain ⟨ps, hl, hR, hB⟩ := lend_ok hm args 0 hA hc hargs
  let rl : Ren := fun i => (ps[i]?).map some
  let K : Nat → Prop := fun j => keep j ∨ ∃ b p, r b = some (some p) ∧ p.blk = j
  let kp : Keep := ⟨K, K, fun _ h => h⟩
  have hrl : ∀ {i : Nat} {p : Place}, rl i = some (some p) → ps[i]? = some p := fun {i p} hi => by
    simp only [rl] at hi
    cases hx : ps[i]? with
    | none => rw [hx] at hi; cases hi
    | some q => rw [hx] at hi; simpa using hi
  have hsm : MemRel w kp rl ms w := by
    refine ⟨rfl, rfl, rfl, Nat.le_refl _, Nat.le_refl _, fun j hj => ?_, fun _ _ => rfl, fun b hb => ?_, fun b hb => ?_, fun b p hb => ?_, fun b p hb hp => ?_, fun b p hb hp hz => ?_, fun b p hb hp hz => ?_, fun b c p q hb hc hp hz => ?_, fun b c p q hb hc hp hq he => ?_⟩
    · rcases hj with hj | ⟨b, p, hb, rfl⟩
      · have := hm.klt j hj; have := hm.size; omega
      · obtain ⟨k, _, hk⟩ := hm.blk b p hb
        exact hk.lt
    · simp only [rl]
      cases hx : ps[b]? with
      | none => rfl
      | some p =>
        obtain ⟨_, _, _, kk, h5, h6⟩ := hB b p hx
        rw [h5] at hb
        rcases hb with hb | hb
        · cases hb
        · simp only [Option.some.injEq] at hb
          subst hb
          exact ((h6 rl) : False).elim
    · simp only [rl] at hb
      cases hx : ps[b]? with
      | none => rw [hx] at hb; cases hb
      | some p => rw [hx] at hb; cases hb
    · obtain ⟨_, _, _, kk, h5, h6⟩ := hB b p (hrl hb)
      exact ⟨kk, h5, h6 rl⟩
    · rw [(hB b p (hrl hb)).1] at hp; cases hp
    · exact Or.inr (hB b p (hrl hb)).2.2.1
    · exact absurd (hB b p (hrl hb)).2.1 hz
    · exact absurd (hB b p (hrl hb)).2.1 hz
    · rw [(hB b p (hrl hb)).1] at hp; cases hp
  refine (hS.2 w kp rl args' w (hR rl fun i p hp => by simp only [Nat.zero_add, rl, hp]; rfl) hsm).mono ?_
  rintro e w' ⟨v', rs, rfl, g1, g2, g3⟩
  exact hQ v' rs w' kp g1 g2 (fun j hj => Or.inl hj) (fun b p hb => Or.inr ⟨b, p, hb, rfl⟩)
theorem lendG_ok {P : Program} {f : FuncId} {S : List Value → Mem → Option (Ans (Value × Mem))} (h : ∀ args m ans v m', S args m = some ans → ans.res = some (v, m') → MemSem P f args m v m') {args : List Value} {m m' : Mem} {ans : Ans (Value × Mem)} {v : Value}
    (ha : lendG S args m = some ans) (hr : ans.res = some (v, m')) : MemSem P f args m v m' := by
  unfold lendG at ha
  split at ha
  rotate_left
  · cases ha
  rename_i ags ms c hA
  rw [forceL_eq, forceM_eq] at ha
  split at ha
  rotate_left
  · cases ha
  rename_i ans0 hS
  simp only [Option.some.injEq] at ha
  subst ha
  rcases Ans.br_some hr with ⟨hc, hr⟩ | ⟨_, hr⟩
  rotate_left
  · simp [Ans.res] at hr
  obtain ⟨⟨u, mu⟩, h1, h2⟩ := Ans.bind_some hr
  simp only at h2
  rw [forceN_eq] at h2
  split at h2
  rotate_left
  · simp [Ans.res] at h2
  rename_i hb
  rw [Bool.and_eq_true] at hb
  rw [forceM_eq] at h2
  split at h2
  rotate_left
  · simp [Ans.res] at h2
  rename_i hown
  simp only [Ans.res, Option.some.injEq, Prod.mk.injEq] at h2
  obtain ⟨rfl, rfl⟩ := h2
  have hS := h _ _ _ _ _ hS h1
  refine ⟨hS.1, fun w0 keep r args' w hargs hm => lend_call hA hc hS hargs hm fun v' rs w' kp g1 g2 k1 k2 => ?_⟩
  obtain ⟨j1, j2⟩ := MemRel.join hm (MemRel_via g2 hb.1) k1 k2 hown
  exact ⟨v', _, rfl, R_back (r := r) (ks := []) rfl rfl (R_via (ks := fromN ms.length (mu.length - ms.length)) g1), j1, j2⟩
theorem lendG_new {S : List Value → Mem → Option (Ans (Value × Mem))} {args : List Value} {m m' : Mem} {ans : Ans (Value × Mem)} {v : Value} (ha : lendG S args m = some ans) (hr : ans.res = some (v, m')) : ∃ new, m' = m ++ new := by
  unfold lendG at ha
  split at ha
  rotate_left
  · cases ha
  rw [forceL_eq, forceM_eq] at ha
  split at ha
  rotate_left
  · cases ha
  simp only [Option.some.injEq] at ha
  subst ha
  rcases Ans.br_some hr with ⟨hc, hr⟩ | ⟨_, hr⟩
  rotate_left
  · simp [Ans.res] at hr
  obtain ⟨⟨u, mu⟩, h1, h2⟩ := Ans.bind_some hr
  simp only at h2
  rw [forceN_eq] at h2
  split at h2
  rotate_left
  · simp [Ans.res] at h2
  rw [forceM_eq] at h2
  split at h2
  rotate_left
  · simp [Ans.res] at h2
  simp only [Ans.res, Option.some.injEq, Prod.mk.injEq] at h2
  exact ⟨_, h2.2.symm⟩
def lendF (S : List Value → Mem → Option (Ans (Value × Mem))) (args : List Value) (m : Mem) : Option (Ans (Value × Mem)) := forceM (thaw (killV m)) fun m => lendG S args m
theorem lendF_ok {P : Program} {f : FuncId} {S : List Value → Mem → Option (Ans (Value × Mem))} (h : ∀ args m ans v m', S args m = some ans → ans.res = some (v, m') → MemSem P f args m v m') {args : List Value} {m m' : Mem} {ans : Ans (Value × Mem)} {v : Value}
    (ha : lendF S args m = some ans) (hr : ans.res = some (v, m')) : MemSem P f args m v m' := by
  unfold lendF at ha
  rw [forceM_eq] at ha
  exact (lendG_ok h ha hr).fresh
/-- A function that reads what it is handed, and makes what it answers. -/
def Cx.addE (C : Cx) (f : FuncId) (S : List Value → Mem → Option (Ans (Value × Mem))) : Cx := C.addM f (lendF S)
theorem Cx.addE_ok {C : Cx} (hC : CxOk C) {f : FuncId} {S : List Value → Mem → Option (Ans (Value × Mem))} (h : ∀ args m ans v m', S args m = some ans → ans.res = some (v, m') → MemSem C.P f args m v m') : CxOk (C.addE f S) :=
  Cx.addM_ok hC fun _ _ _ _ _ ha hr => lendF_ok h ha hr
/-- What is told of a function, told where it is lent what it reads. -/
def Cx.lend (C : Cx) (f : FuncId) : Cx := C.addM f (lendF fun args m => C.tbm f args m)
theorem Cx.lend_ok {C : Cx} (hC : CxOk C) (f : FuncId) : CxOk (C.lend f) :=
  Cx.addM_ok hC fun _ _ _ _ _ ha hr => lendF_ok (fun args m ans v m' h hr => hC.tbm f args m ans v m' h hr) ha hr
/-- A call that makes nothing and changes nothing. -/
def lendP (S : List Value → Mem → Option (Ans (Value × Mem))) (args : List Value) (m : Mem) : Option (Ans (Value × Mem)) := match lendA m args 0 with
  | some (ags, ms, c) => forceL ags fun ags => forceM ms fun ms => match S ags ms with
    | some ans => some (.br c (ans.bind fun vm => match plain vm.1 with
      | true => .out (vm.1, m)
      | false => .fail) .fail)
    | none => none
  | none => none
theorem lendP_spec {S : List Value → Mem → Option (Ans (Value × Mem))} {args : List Value} {m m' : Mem} {ans : Ans (Value × Mem)} {v : Value} (ha : lendP S args m = some ans) (hr : ans.res = some (v, m')) :
    m' = m ∧ ∃ ags ms mu a0, lendA m args 0 = some (ags, ms, true) ∧ S ags ms = some a0 ∧ a0.res = some (v, mu) ∧ plain v = true := by
  unfold lendP at ha
  split at ha
  rotate_left
  · cases ha
  rename_i ags ms c hA
  rw [forceL_eq, forceM_eq] at ha
  split at ha
  rotate_left
  · cases ha
  rename_i ans0 hS
  simp only [Option.some.injEq] at ha
  subst ha
  rcases Ans.br_some hr with ⟨hc, hr⟩ | ⟨_, hr⟩
  rotate_left
  · simp [Ans.res] at hr
  obtain ⟨⟨u, mu⟩, h1, h2⟩ := Ans.bind_some hr
  simp only at h2
  split at h2
  · rename_i hp
    simp only [Ans.res, Option.some.injEq, Prod.mk.injEq] at h2
    obtain ⟨rfl, rfl⟩ := h2
    exact ⟨rfl, ags, ms, mu, ans0, by rw [hA, hc], hS, h1, hp⟩
  · simp [Ans.res] at h2
theorem lendP_ok {P : Program} {f : FuncId} {S : List Value → Mem → Option (Ans (Value × Mem))} (h : ∀ args m ans v m', S args m = some ans → ans.res = some (v, m') → MemSem P f args m v m') {args : List Value} {m m' : Mem} {ans : Ans (Value × Mem)} {v : Value}
    (ha : lendP S args m = some ans) (hr : ans.res = some (v, m')) : MemSem P f args m v m' := by
  obtain ⟨rfl, ags, ms, mu, a0, hA, hS, h1, hp⟩ := lendP_spec ha hr
  have hS := h _ _ _ _ _ hS h1
  refine ⟨hS.1, fun w0 keep r args' w hargs hm => lend_call hA rfl hS hargs hm fun v' rs w' kp g1 g2 k1 k2 => ?_⟩
  obtain ⟨j1, j2⟩ := MemRel.join hm (MemRel_via (ks := []) g2 rfl) k1 k2 rfl
  simp only [renM, mapB, List.append_nil] at j1
  exact ⟨v', _, rfl, (R_plain hp).2 ((R_plain hp).1 g1), j1, j2⟩
theorem lendA_set {m : Mem} {q : Nat} {k : Blk} (hq : m[q]? = some .no) : ∀ (args : List Value) (i : Nat) (x : List Value × Mem × Bool), lendA m args i = some x → lendA (m.set q k) args i = some x
  | [], _, _, h => h
  | v :: l, i, x, h => by
    simp only [lendA] at h ⊢
    split at h
    · rename_i b j n e hv
      split at h
      · rename_i e2 n2 row hrow
        have hne : q ≠ b := fun e => by subst e; rw [hq] at hrow; cases hrow
        rw [List.getElem?_set_ne hne, hrow]
        simp only
        split at h
        · rename_i he
          try simp only [he]
          split at h
          · rename_i a1 m1 c1 hl
            rw [lendA_set hq l (i + 1) _ hl]
            exact h
          · cases h
        · cases h
      · cases h
    · split at h
      · rename_i hp
        try simp only [hp]
        split at h
        · rename_i a1 m1 c1 hl
          rw [lendA_set hq l i _ hl]
          exact h
        · cases h
      · cases h
theorem lendP_rd {S : List Value → Mem → Option (Ans (Value × Mem))} {args : List Value} {m m' : Mem} {ans : Ans (Value × Mem)} {v : Value} (ha : lendP S args m = some ans) (hr : ans.res = some (v, m')) :
    m' = m ∧ ∀ (q : Nat) k, m[q]? = some .no → ∃ ans', lendP S args (m.set q k) = some ans' ∧ ans'.res = some (v, m.set q k) := by
  obtain ⟨e, ags, ms, mu, a0, hA, hS, h1, hp⟩ := lendP_spec ha hr
  refine ⟨e, fun q k hq => ?_⟩
  unfold lendP
  rw [lendA_set hq args 0 _ hA]
  simp only [forceL_eq, forceM_eq, hS]
  refine ⟨_, rfl, ?_⟩
  simp only [Ans.res]
  rw [Ans.res_bind, h1]
  simp only [Option.bind_some, hp]
  rfl
end Go.Proofs.Ytmpkkmhielkggaa.Vx


namespace Go.Proofs.Ytmpkkmhielkggaa.Vx
open Go Go.RowKit
/-- One road of a tree; on the others nothing is told. -/
def pickA {α : Type} : List Bool → Ans α → Ans α
  | true :: p, .br b t _ => .br b (pickA p t) .fail
  | false :: p, .br b _ f => .br b .fail (pickA p f)
  | _, x => x
theorem pickA_ok {α : Type} {a : α} : ∀ (p : List Bool) (x : Ans α), (pickA p x).res = some a → x.res = some a
  | [], x, h => by cases x <;> exact h
  | true :: p, .br b t f, h => by
    rcases Ans.br_some h with ⟨hb, h1⟩ | ⟨hb, h1⟩
    · subst hb; exact pickA_ok p t h1
    · simp [Ans.res] at h1
  | false :: p, .br b t f, h => by
    rcases Ans.br_some h with ⟨hb, h1⟩ | ⟨hb, h1⟩
    · simp [Ans.res] at h1
    · subst hb; exact pickA_ok p f h1
  | true :: p, .out a, h => h
  | false :: p, .out a, h => h
  | true :: p, .fail, h => h
  | false :: p, .fail, h => h
/-- No error; yes. -/
def asm1 : Value → Bool × Value
  | .int k e => (e == 0, .int k 0)
  | .bool b => (b, .bool true)
  | v => (true, v)
def asmV : Value → Bool × Value
  | .tuple vs => match vs.toList with
    | [a, b] => ((asm1 b).1, .tuple #[a, (asm1 b).2])
    | [a, b, c] => ((asm1 c).1, .tuple #[a, b, (asm1 c).2])
    | _ => (true, .tuple vs)
  | v => asm1 v
theorem asm1_ok {v : Value} (h : (asm1 v).1 = true) : (asm1 v).2 = v := by
  cases v with
  | int k e => simp only [asm1] at h ⊢; rw [(beq_iff_eq.1 h)]
  | bool b => simp only [asm1] at h ⊢; rw [h]
  | _ => rfl
theorem asmV_ok {v : Value} (h : (asmV v).1 = true) : (asmV v).2 = v := by
  cases v with
  | tuple vs =>
    unfold asmV at h ⊢
    simp only at h ⊢
    split at h
    · rename_i a b he
      rw [asm1_ok h]
      congr 1
      rw [← he]
    · rename_i a b c he
      rw [asm1_ok h]
      congr 1
      rw [← he]
    · rfl
  | int k e => exact asm1_ok (v := .int k e) h
  | bool b => exact asm1_ok (v := .bool b) h
  | _ => rfl
def asmA (x : Ans (Value × Mem)) : Ans (Value × Mem) := x.bind fun vm => .br (asmV vm.1).1 (.out ((asmV vm.1).2, vm.2)) .fail
theorem asmA_ok {x : Ans (Value × Mem)} {v : Value} {m : Mem} (h : (asmA x).res = some (v, m)) : x.res = some (v, m) := by
  obtain ⟨⟨u, mu⟩, h1, h2⟩ := Ans.bind_some h
  rcases Ans.br_some h2 with ⟨hb, h3⟩ | ⟨_, h3⟩
  · simp only [Ans.res, Option.some.injEq, Prod.mk.injEq] at h3
    obtain ⟨rfl, rfl⟩ := h3
    rw [h1, asmV_ok hb]
  · simp [Ans.res] at h3
/-- A function of which one road is wanted, with no error; it is lent what it reads. -/
def Cx.good (C : Cx) (f : FuncId) (p : List Bool) : Cx := C.addM f (lendF fun args m => match C.tbm f args m with
  | some ans => some (asmA (pickA p ans))
  | none => none)
theorem Cx.good_ok {C : Cx} (hC : CxOk C) (f : FuncId) (p : List Bool) : CxOk (C.good f p) :=
  Cx.addM_ok hC fun _ _ _ _ _ ha hr => lendF_ok (fun args m ans v m' h hr => by
    split at h
    · rename_i a0 h0
      simp only [Option.some.injEq] at h
      subst h
      exact hC.tbm f args m a0 v m' h0 (pickA_ok p a0 (asmA_ok hr))
    · cases h) ha hr
/-- The same, with what it answers as it is. -/
def Cx.road (C : Cx) (f : FuncId) (p : List Bool) : Cx := C.addM f (lendF fun args m => match C.tbm f args m with
  | some ans => some (pickA p ans)
  | none => none)
theorem Cx.road_ok {C : Cx} (hC : CxOk C) (f : FuncId) (p : List Bool) : CxOk (C.road f p) :=
  Cx.addM_ok hC fun _ _ _ _ _ ha hr => lendF_ok (fun args m ans v m' h hr => by
    split at h
    · rename_i a0 h0
      simp only [Option.some.injEq] at h
      subst h
      exact hC.tbm f args m a0 v m' h0 (pickA_ok p a0 hr)
    · cases h) ha hr
/-- A function that only looks (1), or that makes something beside what is there (2). -/
def Cx.roadS (C : Cx) (f : FuncId) (p : List Bool) (args : List Value) (m : Mem) : Option (Ans (Value × Mem)) := match C.tbm f args m with
  | some ans => some (pickA p ans)
  | none => none
theorem Cx.roadS_ok {C : Cx} (hC : CxOk C) {f : FuncId} {p : List Bool} (args : List Value) (m : Mem) (ans : Ans (Value × Mem)) (v : Value) (m' : Mem) (h : C.roadS f p args m = some ans) (hr : ans.res = some (v, m')) : MemSem C.P f args m v m' := by
  unfold Cx.roadS at h
  split at h
  · rename_i a0 h0
    simp only [Option.some.injEq] at h
    subst h
    exact hC.tbm f args m a0 v m' h0 (pickA_ok p a0 hr)
  · cases h
def Cx.putRd (C : Cx) (f : FuncId) (z : Nat) (F : List Value → Mem → Option (Ans (Value × Mem))) : Cx := { C with
  tbm := fun g args m => match Nat.beq g f with
    | true => F args m
    | false => C.tbm g args m
  rd := fun g => match Nat.beq g f with
    | true => z
    | false => C.rd g
  inl := fun g => match Nat.beq g f with
    | true => none
    | false => C.inl g }
theorem Cx.putRd_ok {C : Cx} (hC : CxOk C) {f : FuncId} {z : Nat} {F : List Value → Mem → Option (Ans (Value × Mem))} (h0 : ∀ args m ans v m', F args m = some ans → ans.res = some (v, m') → MemSem C.P f args m v m')
    (h1 : z = 1 → ∀ args m ans v m', F args m = some ans → ans.res = some (v, m') → m' = m ∧ ∀ (q : Nat) k, m[q]? = some .no → ∃ ans', F args (m.set q k) = some ans' ∧ ans'.res = some (v, m.set q k))
    (h2 : z = 2 → ∀ args m ans v m', F args m = some ans → ans.res = some (v, m') → ∃ new, m' = m ++ new) : CxOk (C.putRd f z F) := by
  refine ⟨hC.mixed, hC.tbl, ?_, hC.keys, fun g fn hg => ?_, hC.lp, ?_, ?_⟩
  rotate_left
  · simp only [Cx.putRd] at hg
    cases hb : Nat.beq g f with
    | true => simp only [hb] at hg; cases hg
    | false => simp only [hb] at hg; exact hC.inl g fn hg
  rotate_right
  · intro g args m ans v m' ha hr
    simp only [Cx.putRd] at ha
    cases hg : Nat.beq g f with
    | false => simp only [hg] at ha; exact hC.tbm g args m ans v m' ha hr
    | true =>
      have hgf := Nat.eq_of_beq_eq_true hg
      subst hgf
      simp only [hg] at ha
      exact h0 args m ans v m' ha hr
  · intro g hg args m ans v m' ha hr
    simp only [Cx.putRd] at hg ha ⊢
    cases hb : Nat.beq g f with
    | false => simp only [hb] at hg ha ⊢; exact hC.rd g hg args m ans v m' ha hr
    | true => simp only [hb] at hg ha ⊢; exact h1 hg args m ans v m' ha hr
  · intro g hg args m ans v m' ha hr
    simp only [Cx.putRd] at hg ha
    cases hb : Nat.beq g f with
    | false => simp only [hb] at hg ha; exact hC.rd2 g hg args m ans v m' ha hr
    | true => simp only [hb] at hg ha; exact h2 hg args m ans v m' ha hr
def Cx.looks (C : Cx) (f : FuncId) (p : List Bool) : Cx := C.putRd f 1 (lendP (C.roadS f p))
theorem Cx.looks_ok {C : Cx} (hC : CxOk C) (f : FuncId) (p : List Bool) : CxOk (C.looks f p) :=
  Cx.putRd_ok hC (fun _ _ _ _ _ ha hr => lendP_ok (Cx.roadS_ok hC) ha hr) (fun _ _ _ _ _ _ ha hr => lendP_rd ha hr) (fun h => by cases h)
def Cx.makes (C : Cx) (f : FuncId) (p : List Bool) : Cx := C.putRd f 2 (lendG (C.roadS f p))
theorem Cx.makes_ok {C : Cx} (hC : CxOk C) (f : FuncId) (p : List Bool) : CxOk (C.makes f p) :=
  Cx.putRd_ok hC (fun _ _ _ _ _ ha hr => lendG_ok (Cx.roadS_ok hC) ha hr) (fun h => by cases h) (fun _ _ _ _ _ _ ha hr => lendG_new ha hr)
end Go.Proofs.Ytmpkkmhielkggaa.Vx


namespace Go.Proofs.Ytmpkkmhielkggaa.Vx
open Go Go.RowKit
theorem CodeSem.seq {P : Program} {B : Nat} {x y : Code} {st s s' : St} {e : Exit} (h1 : CodeSem P B x st .normal s) (h2 : CodeSem P B y s e s') : CodeSem P B (.seq x y) st e s' := fun Q w0 keep r0 a w hB hQ hr =>
  wp_seq (h1 _ w0 keep r0 a w hB (fun a' w' hr' => h2 Q w0 keep r0 a' w' hB hQ hr') hr)
theorem CodeSem.like {P : Program} {B : Nat} {x : Code} {st st2 s : St} {e : Exit} (h : CodeSem P B x st2 e s) (hl : StLike st st2) : CodeSem P B x st e s := fun Q w0 keep r0 a w hB hQ hr =>
  h Q w0 keep r0 a w hB hQ (hr.like hl)
def seqDrop : Nat → Code → Code
  | 0, c => c
  | k + 1, .seq _ y => seqDrop k y
  | _ + 1, _ => .skip
theorem seqDrop_loops : ∀ (k : Nat) (c : Code), ∀ x ∈ loopsIn (seqDrop k c), x ∈ loopsIn c
  | 0, c, x, h => h
  | k + 1, c, x, h => by
    cases c with
    | seq p q => simp only [seqDrop] at h; simp only [loopsIn, List.mem_append]; exact Or.inr (seqDrop_loops k q x h)
    | _ => simp [seqDrop, loopsIn] at h
/-- So many statements, one behind the other. -/
def exSeq (n : Nat) (C : Cx) : Nat → Code → St → Ans St
  | 0, _, st => .out st
  | k + 1, c, st => match c with
    | .seq x y => (exCode n C x st).bind fun es => match es.1 with
      | .normal => exSeq n C k y es.2
      | _ => .fail
    | _ => .fail
theorem exSeq_sound {C : Cx} (hC : CxOk C) {n f B : Nat} {e : Exit} {s' : St} : ∀ (k : Nat) (c : Code) (st s : St), InBody (C.into f B) c → (exSeq n (C.into f B) k c st).res = some s → CodeSem C.P B (seqDrop k c) s e s' → CodeSem C.P B c st e s'
  | 0, c, st, s, _, h, h2 => by
    simp only [exSeq, Ans.res, Option.some.injEq] at h
    subst h
    exact h2
  | k + 1, c, st, s, hin, h, h2 => by
    cases c with
    | seq x y =>
      simp only [exSeq] at h
      obtain ⟨⟨e1, s1⟩, h1, h3⟩ := Ans.bind_some h
      have hx := (exCode_sound hC n).1 f B x (hin.sub fun z hz => by simp [loopsIn, hz]) st e1 s1 h1
      simp only at h3
      cases e1 with
      | normal => exact hx.seq (exSeq_sound hC k y s1 s (hin.sub fun z hz => by simp [loopsIn, hz]) h3 h2)
      | _ => simp [Ans.res] at h3
    | _ => simp [exSeq, Ans.res] at h
/-- A piece: so many statements, and what is told on behind them (slots, blocks). -/
def segR (C : Cx) (n k : Nat) (c : Code) (mask : List Nat) (sp : List From) (st : St) : Option St := ((exSeq n C k c st).bind fun s => (cleanA mask mask sp sp C.fb (.ret, s)).bind fun es => .out es.2).res
theorem seg_rule {C : Cx} (hC : CxOk C) {f B n k : Nat} {c : Code} {mask : List Nat} {sp : List From} {st s s' : St} {e : Exit} (hin : InBody (C.into f B) c) (h : segR (C.into f B) n k c mask sp st = some s) (h2 : CodeSem C.P B (seqDrop k c) s e s') : CodeSem C.P B c st e s' := by
  unfold segR at h
  obtain ⟨s1, h3, h4⟩ := Ans.bind_some h
  obtain ⟨⟨e2, s2⟩, h5, h6⟩ := Ans.bind_some h4
  simp only [Ans.res, Option.some.injEq] at h6
  subst h6
  exact exSeq_sound hC k c st s1 hin h3 fun Q w0 keep r0 a w hB hQ hr => h2 Q w0 keep r0 a w hB hQ (clean_rel h5 hB hr).2
/-- The last piece. -/
theorem end_rule {C : Cx} (hC : CxOk C) {f B n : Nat} {c : Code} {mask : List Nat} {sp : List From} {st s : St} {e : Exit} (hin : InBody (C.into f B) c) (h : roundR (C.into f B) n c mask mask sp sp st = some (e, s)) : CodeSem C.P B c st e s := by
  obtain ⟨⟨e1, s1⟩, h3, h4⟩ := Ans.bind_some h
  intro Q w0 keep r0 a w hB hQ hr
  refine (exCode_sound hC n).1 f B c hin _ _ _ h3 _ w0 keep r0 a w hB ?_ hr
  intro a' w' hr'
  obtain ⟨he, hs⟩ := clean_rel h4 hB hr'
  subst he
  exact hQ a' w' hs
def bodyOf (P : Program) (f : Nat) : Code := match P.funcs[f]? with
  | some fn => match fn.body with
    | some b => b
    | none => .skip
  | none => .skip
theorem bodyOf_in {C : Cx} {f B k : Nat} {fn : Func} {b : Code} (hf : C.P.funcs[f]? = some fn) (hb : fn.body = some b) : InBody (C.into f B) (seqDrop k b) :=
  Or.inl ⟨fn, b, hf, hb, seqDrop_loops k b⟩
theorem seqDrop_drop (k l : Nat) : ∀ (c : Code), seqDrop l (seqDrop k c) = seqDrop (k + l) c := by
  induction k with
  | zero => intro c; rw [Nat.zero_add]; rfl
  | succ k ih =>
    intro c
    rw [Nat.succ_add]
    cases c with
    | seq p q => simp only [seqDrop]; exact ih q
    | _ => simp only [seqDrop]; cases l <;> rfl
/-- No error but this one. -/
def wantV (z : Int) : Value → Bool × Value
  | .int k e => (e == z, .int k z)
  | v => (true, v)
theorem wantV_ok {z : Int} {v : Value} (h : (wantV z v).1 = true) : (wantV z v).2 = v := by
  cases v with
  | int k e => simp only [wantV] at h ⊢; rw [(beq_iff_eq.1 h)]
  | _ => rfl
def wantA (z : Int) (x : Ans (Value × Mem)) : Ans (Value × Mem) := x.bind fun vm => .br (wantV z vm.1).1 (.out ((wantV z vm.1).2, vm.2)) .fail
theorem wantA_ok {z : Int} {x : Ans (Value × Mem)} {v : Value} {m : Mem} (h : (wantA z x).res = some (v, m)) : x.res = some (v, m) := by
  obtain ⟨⟨u, mu⟩, h1, h2⟩ := Ans.bind_some h
  rcases Ans.br_some h2 with ⟨hb, h3⟩ | ⟨_, h3⟩
  · simp only [Ans.res, Option.some.injEq, Prod.mk.injEq] at h3
    obtain ⟨rfl, rfl⟩ := h3
    rw [h1, wantV_ok hb]
  · simp [Ans.res] at h3
/-- A function of which one road is wanted, with this answer. -/
def Cx.want (C : Cx) (f : FuncId) (p : List Bool) (z : Int) : Cx := C.addM f (lendF fun args m => match C.tbm f args m with
  | some ans => some (wantA z (pickA p ans))
  | none => none)
theorem Cx.want_ok {C : Cx} (hC : CxOk C) (f : FuncId) (p : List Bool) (z : Int) : CxOk (C.want f p z) :=
  Cx.addM_ok hC fun _ _ _ _ _ ha hr => lendF_ok (fun args m ans v m' h hr => by
    split at h
    · rename_i a0 h0
      simp only [Option.some.injEq] at h
      subst h
      exact hC.tbm f args m a0 v m' h0 (pickA_ok p a0 (wantA_ok hr))
    · cases h) ha hr
end Go.Proofs.Ytmpkkmhielkggaa.Vx
