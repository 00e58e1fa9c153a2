/-
  hkl.Of, told; what it answers. Nothing here is trusted.
-/
import Derived.Test.YtjpfnfckpgilgaaHTHk2
namespace Go.Proofs.Ytjpfnfckpgilgaa
open Go Vx Go.RowKit

/-- The list that Of answers, and what lies there behind it. -/
def ofL (X : List O3) (h : V3) : List V3 := cpct (sortK V3.key (trn X h))
def ofA (X : List O3) (h : V3) : List V3 := cpAll (sortK V3.key (trn X h))
theorem trn_le {X : List O3} {h : V3} (hc : acI X h = 0) : (trn X h).length ≤ 192 := by unfold trn; rw [List.length_map]; exact rots_le (leastN_zero.1 hc).2
theorem svT_ok {Y : List V3} (h : Y.length ≤ 1000) : svT Y.length Y = true := by unfold svT; rw [Nat.beq_refl, okVcs_vcRow]; simpa using h
theorem ofS (own : Bool) (X : List O3) (h : V3) (hc : acI X h = 0) : MemSem Try.prog 32 [.slice (some ⟨0, 0, some 0⟩) X.length 12, h.v] [.rows own true 12 X.length (opRow X)] (.tuple #[.slice (some ⟨1, 0, some 0⟩) (ofL X h).length 3, vI 0]) [.rows own true 12 X.length (opRow X), .rows true true 3 (trn X h).length (vcRow (ofA X h))] := by
  have r := ofE1 own X.length X h
  have hl : (sortK V3.key (trn X h)).length = (trn X h).length := sortK_len _ _
  have h2 : vcsOf (trn X h).length (vcRow (sortK V3.key (trn X h))) = sortK V3.key (trn X h) := by rw [← hl, vcsOf_vcRow]
  have h3 : svT (trn X h).length (sortK V3.key (trn X h)) = true := by rw [← hl]; exact svT_ok (by rw [hl]; have := trn_le hc; omega)
  rw [lk_true, gd_true, oT_ok, gd_true, opsOf_opRow, hc, svT_ok (by have := trn_le hc; omega), gd_true, vcsOf_vcRow, h3, gd_true, h2] at r
  exact exT_ok okof Try.func32 (by kernel_rfl) r
theorem ofSe (own : Bool) (X : List O3) (h : V3) (hc : acI X h ≠ 0) : MemSem Try.prog 32 [.slice (some ⟨0, 0, some 0⟩) X.length 12, h.v] [.rows own true 12 X.length (opRow X)] (nilE (acI X h)) [.rows own true 12 X.length (opRow X)] := by
  have r := ofE2 own X.length X h
  rw [lk_true, gd_true, oT_ok, gd_true, opsOf_opRow, show (acI X h != 0) = true by simpa using hc, gd_true] at r
  exact exT_ok okoe Try.func32 (by kernel_rfl) r
def ofF : List Value → Mem → Option (Ans (Value × Mem))
  | [.slice (some ⟨0, 0, some 0⟩) N 12, .agg co], [.rows own true 12 N2 row] => match vecCells co.toList with
    | some h => some (.br (Nat.beq N N2 && okOps N row) (.br (acI (opsOf N row) h != 0) (.out (nilE (acI (opsOf N row) h), [.rows own true 12 N (opRow (opsOf N row))])) (.out (.tuple #[.slice (some ⟨1, 0, some 0⟩) (ofL (opsOf N row) h).length 3, vI 0], [.rows own true 12 N (opRow (opsOf N row)), .rows true true 3 (trn (opsOf N row) h).length (vcRow (ofA (opsOf N row) h))]))) .fail)
    | none => none
  | _, _ => none
theorem ofF_ok {args : List Value} {m : Mem} {ans : Ans (Value × Mem)} {v : Value} {m' : Mem} (h : ofF args m = some ans) (hr : ans.res = some (v, m')) : MemSem Try.prog 32 args m v m' := by
  unfold ofF at h
  split at h
  rotate_left
  · cases h
  rename_i N co own N2 row
  split at h
  rotate_left
  · cases h
  rename_i p hp
  simp only [Option.some.injEq] at h
  subst h
  rcases Ans.br_some hr with ⟨hc, hr1⟩ | ⟨_, hr1⟩
  rotate_left
  · simp [Ans.res] at hr1
  rw [Bool.and_eq_true] at hc
  obtain ⟨c1, c2⟩ := hc
  have c1 := beq_len c1
  subst c1
  have e1 : co = p.cells.toArray := by rw [← vecCells_spec hp]
  subst e1
  have hl := opsOf_length N row
  rcases Ans.br_some hr1 with ⟨hq, hr2⟩ | ⟨hq, hr2⟩
  · simp only [Ans.res, Option.some.injEq, Prod.mk.injEq] at hr2
    obtain ⟨rfl, rfl⟩ := hr2
    have := ofSe own (opsOf N row) p (by simpa using hq)
    rw [hl] at this
    exact this.like ⟨.rows (ops_like c2), trivial⟩
  · simp only [Ans.res, Option.some.injEq, Prod.mk.injEq] at hr2
    obtain ⟨rfl, rfl⟩ := hr2
    have := ofS own (opsOf N row) p (by simpa using hq)
    rw [hl] at this
    exact this.like ⟨.rows (ops_like c2), trivial⟩
def Cow (P : Program) : Cx := (Cav P).addF 32 ofF
theorem okow : CxOk (Cow Try.prog) := Cx.addF_ok okav fun _ _ _ _ _ h hr => ofF_ok h hr
def Cog (P : Program) : Cx := (Cow P).good 32 [true, false]
theorem okog : CxOk (Cog Try.prog) := Cx.good_ok okow _ _
/-! Its members -/
theorem mem_cpF : ∀ (l : List V3) (p q : V3), (q = p ∨ q ∈ cpF p l) ↔ (q = p ∨ q ∈ l)
  | [], p, q => by simp [cpF]
  | x :: l, p, q => by
    simp only [cpF]
    cases hb : x.eqB p with
    | true =>
      have e := V3.eqB_iff.1 hb
      subst e
      simp only [List.mem_cons]
      rw [mem_cpF l x q]
      constructor
      · rintro (h | h)
        · exact Or.inl h
        · exact Or.inr (Or.inr h)
      · rintro (h | h | h)
        · exact Or.inl h
        · exact Or.inl h
        · exact Or.inr h
    | false =>
      simp only [List.mem_cons]
      rw [mem_cpF l x q]
theorem mem_cpct {l : List V3} {q : V3} : q ∈ cpct l ↔ q ∈ l := by
  cases l with
  | nil => simp [cpct]
  | cons x l => simp only [cpct, List.mem_cons]; exact mem_cpF l x q
theorem mem_rots {X : List O3} (hs : StrictO X) (m : M3) : m ∈ rotsT X ↔ ∃ o ∈ X, o.r = m := by
  cases X with
  | nil => simp [rotsT, bld]
  | cons q l =>
    rw [rotsT_cons, List.mem_cons]
    exact (rotG_spec l q hs).2.2 m
theorem mem_ofL {X : List O3} (h : V3) (hs : StrictO X) (v : V3) : v ∈ ofL X h ↔ ∃ o ∈ X, rowI h o.r = v := by
  unfold ofL
  rw [mem_cpct, (sortK_perm V3.key _).mem_iff]
  unfold trn
  rw [List.mem_map]
  constructor
  · rintro ⟨m, hm, rfl⟩
    obtain ⟨o, ho, rfl⟩ := (mem_rots hs m).1 hm
    exact ⟨o, ho, rfl⟩
  · rintro ⟨o, ho, rfl⟩
    exact ⟨o.r, (mem_rots hs _).2 ⟨o, ho, rfl⟩, rfl⟩
theorem ofA_at {X : List O3} {h : V3} {j : Nat} (hj : j < (ofL X h).length) : atV (ofA X h) j = (ofL X h)[j] := by
  unfold ofA cpAll
  have : j < (cpct (sortK V3.key (trn X h)) ++ List.replicate ((sortK V3.key (trn X h)).length - (cpct (sortK V3.key (trn X h))).length) V3.zero).length := by
    rw [List.length_append]
    have : j < (cpct (sortK V3.key (trn X h))).length := hj
    omega
  rw [atV_get this, List.getElem_append_left (show j < (cpct (sortK V3.key (trn X h))).length from hj)]
  rfl
end Go.Proofs.Ytjpfnfckpgilgaa
