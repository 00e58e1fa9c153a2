/-
  The unlike matrices of a group in order, and its pure shifts: how many. No program in sight. Nothing here is trusted.
-/
import Derived.Test.YtjpfnfckpgilgaaKaj
import Derived.Test.YtjpfnfckpgilgaaHTPc
namespace Go.Proofs.Ytjpfnfckpgilgaa
open Go Vx

theorem bld_drop {α : Type} {X : List O3} {p : O3 → Bool} {f : O3 → α} : ∀ (c : Nat) (i : Int) (ms : List α), 0 ≤ i → i + (c : Int) = (X.length : Int) → bld (fun i => p (atO X i)) (fun i => f (atO X i)) c i ms = ms ++ ((X.drop i.toNat).filter p).map f
  | 0, i, ms, h0, h => by
    have : X.drop i.toNat = [] := List.drop_eq_nil_of_le (by omega)
    rw [this]; simp [bld]
  | c + 1, i, ms, h0, h => by
    have hd := drop_at (xs := X) (i := i) h0 (by omega)
    have ih := fun ms => bld_drop (X := X) (p := p) (f := f) c (i + 1) ms (by omega) (by omega)
    simp only [bld]
    rw [hd, List.filter_cons]
    cases hp : p (atO X i) with
    | true => simp only [if_true, List.map_cons]; rw [ih]; simp
    | false => simp only [ih]; simp
theorem cens_len (X : List O3) : (cens X).length = (X.filter fun x => x.r.eqB M3.one).length := by
  unfold cens
  rw [bld_drop (p := fun x => x.r.eqB M3.one) (f := fun x => x.t) X.length 0 [] (by omega) (by omega)]
  simp
def rotG (m : M3) : List O3 → List M3
  | [] => []
  | o :: l => match o.r.eqB m with
    | true => rotG o.r l
    | false => o.r :: rotG o.r l
theorem bld_rot {X : List O3} : ∀ (c : Nat) (i : Int) (ms : List M3), 1 ≤ i → i + (c : Int) = (X.length : Int) → bld (fun i => rotT X i) (fun i => (atO X i).r) c i ms = ms ++ rotG (atO X (i - 1)).r (X.drop i.toNat)
  | 0, i, ms, h0, h => by
    have : X.drop i.toNat = [] := List.drop_eq_nil_of_le (by omega)
    rw [this]; simp [bld, rotG]
  | c + 1, i, ms, h0, h => by
    have hd := drop_at (xs := X) (i := i) (by omega) (by omega)
    have ih := fun ms => bld_rot (X := X) c (i + 1) ms (by omega) (by omega)
    have hz : (i == 0) = false := by simp; omega
    have ht : rotT X i = !((atO X i).r.eqB (atO X (i - 1)).r) := by unfold rotT; rw [hz]
    have e1 : i + 1 - 1 = i := by omega
    rw [hd]
    simp only [bld, ht, rotG]
    cases hp : (atO X i).r.eqB (atO X (i - 1)).r with
    | true => simp only [Bool.not_true]; rw [ih, e1]
    | false => simp only [Bool.not_false]; rw [ih, e1]; simp
theorem rotsT_cons (q : O3) (l : List O3) : rotsT (q :: l) = q.r :: rotG q.r l := by
  unfold rotsT
  rw [List.length_cons]
  have h1 : bld (fun i => rotT (q :: l) i) (fun i => (atO (q :: l) i).r) (l.length + 1) 0 [] = bld (fun i => rotT (q :: l) i) (fun i => (atO (q :: l) i).r) l.length 1 [q.r] := rfl
  rw [h1, bld_rot l.length 1 [q.r] (by omega) (by simp; omega)]
  rfl
theorem M3.l_inj {a b : M3} (h : a.l = b.l) : a = b := by
  cases a; cases b; simp [M3.l] at h; simp [h]
theorem lex_r {a b : O3} (h : lexI a.l b.l < 0) : a.r = b.r ∨ lexI a.r.l b.r.l < 0 := by
  have e : lexI a.l b.l = if lexI a.r.l b.r.l ≠ 0 then lexI a.r.l b.r.l else lexI a.t.l b.t.l := lexI_append a.r.l b.r.l a.t.l b.t.l rfl
  by_cases hz : lexI a.r.l b.r.l = 0
  · exact Or.inl (M3.l_inj ((lexI_zero (l := a.r.l) (m := b.r.l) rfl).1 hz))
  · rw [e, if_pos hz] at h
    exact Or.inr h
theorem lex_lt {a b c : M3} (h1 : lexI a.l b.l < 0) (h2 : lexI b.l c.l < 0) : lexI a.l c.l < 0 := by
  have h := lexI_trans (l := a.l) (m := b.l) (n := c.l) rfl rfl (by omega) (by omega)
  by_cases hz : lexI a.l c.l = 0
  · have e : a.l = c.l := (lexI_zero (l := a.l) (m := c.l) rfl).1 hz
    have := lexI_neg b.l c.l
    rw [← e] at this h2
    have := lexI_neg a.l b.l
    omega
  · omega
theorem rotG_spec : ∀ (l : List O3) (q : O3), StrictO (q :: l) → (∀ m ∈ rotG q.r l, lexI q.r.l m.l < 0) ∧ (rotG q.r l).Nodup ∧ ∀ d, (d = q.r ∨ d ∈ rotG q.r l) ↔ ∃ o ∈ q :: l, o.r = d
  | [], q, _ => ⟨by simp [rotG], by simp [rotG], fun d => by simp [rotG, eq_comm]⟩
  | o :: l, q, h => by
    have h2 : StrictO (o :: l) := (List.pairwise_cons.1 h).2
    have h1 : lexI q.l o.l < 0 := (List.pairwise_cons.1 h).1 o (List.mem_cons_self ..)
    obtain ⟨i1, i2, i3⟩ := rotG_spec l o h2
    simp only [rotG]
    cases he : o.r.eqB q.r with
    | true =>
      have e := M3.eqB_iff.1 he
      refine ⟨fun m hm => by rw [← e]; exact i1 m hm, i2, fun d => ?_⟩
      rw [← e, i3 d]
      constructor
      · rintro ⟨x, hx, rfl⟩; exact ⟨x, List.mem_cons_of_mem _ hx, rfl⟩
      · rintro ⟨x, hx, rfl⟩
        rcases List.mem_cons.1 hx with rfl | hx
        · exact ⟨o, List.mem_cons_self .., e⟩
        · exact ⟨x, hx, rfl⟩
    | false =>
      have hne := M3.eqB_false.1 he
      have hlt : lexI q.r.l o.r.l < 0 := by
        rcases lex_r h1 with e | e
        · exact absurd e.symm hne
        · exact e
      refine ⟨?_, ?_, fun d => ?_⟩
      · intro m hm
        rcases List.mem_cons.1 hm with rfl | hm
        · exact hlt
        · exact lex_lt hlt (i1 m hm)
      · refine List.nodup_cons.2 ⟨fun hm => ?_, i2⟩
        have := i1 _ hm
        have hz : lexI o.r.l o.r.l = 0 := (lexI_zero rfl).2 rfl
        omega
      · rw [List.mem_cons, i3 d]
        constructor
        · rintro (rfl | ⟨x, hx, rfl⟩)
          · exact ⟨q, List.mem_cons_self .., rfl⟩
          · exact ⟨x, List.mem_cons_of_mem _ hx, rfl⟩
        · rintro ⟨x, hx, rfl⟩
          rcases List.mem_cons.1 hx with rfl | hx
          · exact Or.inl rfl
          · exact Or.inr ⟨x, hx, rfl⟩
/-- The count of a group in order is that of Rotations times that of Centring. -/
theorem rots_cens {X : List O3} (hg : Grp X) (hs : StrictO X) : (rotsT X).length * (cens X).length = X.length := by
  rw [cens_len]
  cases X with
  | nil => exact absurd hg.one (by simp)
  | cons q l =>
    obtain ⟨i1, i2, i3⟩ := rotG_spec l q hs
    rw [rotsT_cons]
    refine parts_len hg (List.nodup_cons.2 ⟨fun hm => ?_, i2⟩) fun d => ?_
    · have := i1 _ hm
      have hz : lexI q.r.l q.r.l = 0 := (lexI_zero rfl).2 rfl
      omega
    · rw [List.mem_cons]; exact i3 d
end Go.Proofs.Ytjpfnfckpgilgaa
