/-
  Maps held against each other, entry by entry. Nothing here is trusted.
-/
import Derived.Test.YtlkmphmiegegbaaOpGT
namespace Go.Proofs.Ytlkmphmiegegbaa.Vx
open Go

def lexI : List Int → List Int → Int
  | a :: l, b :: m => if a < b then -1 else if a > b then 1 else lexI l m
  | _, _ => 0
def O3.l (o : O3) : List Int := [o.r.a, o.r.b, o.r.c, o.r.d, o.r.e, o.r.f, o.r.g, o.r.h, o.r.i, o.t.x, o.t.y, o.t.z]
theorem lexI_cases : ∀ (l m : List Int), lexI l m = -1 ∨ lexI l m = 0 ∨ lexI l m = 1
  | [], _ => Or.inr (Or.inl (by simp [lexI]))
  | _ :: _, [] => Or.inr (Or.inl (by simp [lexI]))
  | a :: l, b :: m => by
    simp only [lexI]
    split
    · exact Or.inl rfl
    · split
      · exact Or.inr (Or.inr rfl)
      · exact lexI_cases l m
theorem lexI_neg : ∀ (l m : List Int), lexI m l = -lexI l m
  | [], [] => rfl
  | [], _ :: _ => rfl
  | _ :: _, [] => rfl
  | a :: l, b :: m => by
    simp only [lexI]
    by_cases h1 : a < b
    · rw [if_pos h1, if_neg (by omega), if_pos (by omega)]; rfl
    · by_cases h2 : a > b
      · rw [if_pos (by omega), if_neg h1, if_pos h2]
      · rw [if_neg (by omega), if_neg (by omega), if_neg h1, if_neg h2]; exact lexI_neg l m
theorem lexI_zero : ∀ {l m : List Int}, l.length = m.length → (lexI l m = 0 ↔ l = m)
  | [], [], _ => by simp [lexI]
  | [], _ :: _, h => by simp at h
  | _ :: _, [], h => by simp at h
  | a :: l, b :: m, h => by
    simp only [lexI, List.cons.injEq]
    have ih := lexI_zero (l := l) (m := m) (by simpa using h)
    by_cases h1 : a < b
    · rw [if_pos h1]; constructor
      · intro h; omega
      · intro h; omega
    · by_cases h2 : a > b
      · rw [if_neg h1, if_pos h2]; constructor
        · intro h; omega
        · intro h; omega
      · rw [if_neg h1, if_neg h2, ih]
        constructor
        · intro h; exact ⟨by omega, h⟩
        · intro h; exact h.2
theorem lexI_trans : ∀ {l m n : List Int}, l.length = m.length → m.length = n.length → lexI l m ≤ 0 → lexI m n ≤ 0 → lexI l n ≤ 0
  | [], _, _, _, _, _, _ => by simp [lexI]
  | _ :: _, [], _, h, _, _, _ => by simp at h
  | _ :: _, _ :: _, [], _, h, _, _ => by simp at h
  | a :: l, b :: m, c :: n, h1, h2, h3, h4 => by
    simp only [lexI] at h3 h4 ⊢
    split at h3
    · split at h4
      · rw [if_pos (by omega)]; omega
      · split at h4
        · omega
        · rw [if_pos (by omega)]; omega
    · split at h3
      · omega
      · split at h4
        · rw [if_pos (by omega)]; omega
        · split at h4
          · omega
          · rw [if_neg (by omega), if_neg (by omega)]
            exact lexI_trans (by simpa using h1) (by simpa using h2) h3 h4
theorem comp_lex : ∀ (l m : List Int), l.length = m.length → nth (chainL (compT l m) [0]) 0 = lexI l m
  | [], [], _ => rfl
  | [], _ :: _, h => by simp at h
  | _ :: _, [], h => by simp at h
  | a :: l, b :: m, h => by
    have ih := comp_lex l m (by simpa using h)
    simp only [compT, lexI]
    have hc : cmpR a b = if a < b then -1 else if a > b then 1 else 0 := by
      unfold cmpR cmpT
      by_cases h1 : a < b
      · simp [chainL, h1, nth]
      · by_cases h2 : a > b
        · simp [chainL, h1, h2, nth]
        · simp [chainL, h1, h2, nth]
    rw [hc]
    by_cases h1 : a < b
    · simp [h1, chainL, nth]
    · by_cases h2 : a > b
      · simp [h1, h2, chainL, nth]
      · simp only [h1, h2, if_false, bne_self_eq_false, chainL]; exact ih
theorem dcomp_lex : ∀ (l m : List Int), l.length = m.length → nth (chainL (dcompT l m) [0]) 0 = lexI l m
  | [], [], _ => rfl
  | [], _ :: _, h => by simp at h
  | _ :: _, [], h => by simp at h
  | a :: l, b :: m, h => by
    have ih := dcomp_lex l m (by simpa using h)
    simp only [dcompT, lexI]
    by_cases h1 : a < b
    · simp [h1, chainL, nth]
    · by_cases h2 : a > b
      · simp [h1, h2, chainL, nth]
      · simp only [h1, h2, decide_false, if_false, chainL]; exact ih
theorem lexI_append : ∀ (l m l' m' : List Int), l.length = m.length → lexI (l ++ l') (m ++ m') = if lexI l m ≠ 0 then lexI l m else lexI l' m'
  | [], [], _, _, _ => by simp [lexI]
  | [], _ :: _, _, _, h => by simp at h
  | _ :: _, [], _, _, h => by simp at h
  | a :: l, b :: m, l', m', h => by
    simp only [List.cons_append, lexI]
    split
    · simp
    · split
      · simp
      · exact lexI_append l m l' m' (by simpa using h)
def tCmp (a b : Int) : Option Value := chainO mk1 (cmpT a b) [0]
def fCmp (a b : Int) : Value := vI (cmpR a b)
theorem tCmp_eq (a b : Int) : tCmp a b = some (fCmp a b) := by unfold tCmp fCmp; rw [chain_eq]; rfl
def tNaN (a : Int) : Option Value := some (.bool (a != a))
def fNaN (_ : Int) : Value := .bool false
theorem tNaN_eq (a : Int) : tNaN a = some (fNaN a) := by unfold tNaN fNaN; rw [bne_self_eq_false]
def tVCompare (a b : M3) : Option Value := chainO mk1 (compT a.l b.l) [0]
def fVCompare (a b : M3) : Value := vI (lexI a.l b.l)
theorem tVCompare_eq (a b : M3) : tVCompare a b = some (fVCompare a b) := by
  unfold tVCompare fVCompare
  rw [chain_eq, ← comp_lex a.l b.l rfl]; rfl
def tOCompare (a b : O3) : Option Value := match lexI a.r.l b.r.l != 0 with
  | true => some (vI (lexI a.r.l b.r.l))
  | false => chainO mk1 (compT a.t.l b.t.l) [0]
def fOCompare (a b : O3) : Value := vI (lexI a.l b.l)
theorem tOCompare_eq (a b : O3) : tOCompare a b = some (fOCompare a b) := by
  unfold tOCompare fOCompare
  have e : lexI a.l b.l = if lexI a.r.l b.r.l ≠ 0 then lexI a.r.l b.r.l else lexI a.t.l b.t.l := lexI_append a.r.l b.r.l a.t.l b.t.l rfl
  rw [e]
  by_cases h : lexI a.r.l b.r.l = 0
  · rw [h]
    simp only [bne_self_eq_false, ne_eq, not_true_eq_false, if_false]
    rw [chain_eq, ← comp_lex a.t.l b.t.l rfl]; rfl
  · rw [(bif_beq h).2, if_pos h]
def tRCompare (a b : O3) : Option Value := chainO mk1 (dcompT a.l b.l) [0]
theorem tRCompare_eq (a b : O3) : tRCompare a b = some (fOCompare a b) := by
  unfold tRCompare fOCompare
  rw [chain_eq, ← dcomp_lex a.l b.l rfl]; rfl
theorem O3.l_inj {a b : O3} (h : a.l = b.l) : a = b := by
  obtain ⟨⟨_, _, _, _, _, _, _, _, _⟩, ⟨_, _, _⟩⟩ := a
  obtain ⟨⟨_, _, _, _, _, _, _, _, _⟩, ⟨_, _, _⟩⟩ := b
  simp [O3.l] at h
  simp [h]
/-! The statement's tests, in its order -/
def tOpCompares (a b c : O3) : Option Value :=
  guardF [lexI a.l b.l != lexI a.l b.l, lexI b.l c.l != lexI b.l c.l, lexI a.l c.l != lexI a.l c.l, lexI b.l a.l != W (0 - lexI a.l b.l), (lexI a.l b.l == 0) != a.eqB b]
    (match decide (lexI a.l b.l > 0) with
      | true => some (.bool true)
      | false => match decide (lexI b.l c.l > 0) with
        | true => some (.bool true)
        | false => some (.bool (decide (lexI a.l c.l ≤ 0))))
theorem tOpCompares_true (a b c : O3) : tOpCompares a b c = some (.bool true) := by
  unfold tOpCompares
  rw [guardF_eq]
  · by_cases h1 : lexI a.l b.l > 0
    · simp [h1]
    · by_cases h2 : lexI b.l c.l > 0
      · simp [h1, h2]
      · have := lexI_trans (l := a.l) (m := b.l) (n := c.l) rfl rfl (by omega) (by omega)
        simp [h1, h2, this]
  · intro t ht
    simp only [List.mem_cons, List.not_mem_nil, or_false] at ht
    rcases ht with rfl | rfl | rfl | rfl | rfl
    · simp
    · simp
    · simp
    · have := lexI_cases a.l b.l
      rw [W_in (by omega), lexI_neg a.l b.l]
      simp
    · have : (lexI a.l b.l == 0) = a.eqB b := beq_of_iff (by
        rw [beq_iff_eq, O3.eqB_iff, lexI_zero (l := a.l) (m := b.l) rfl]
        exact ⟨O3.l_inj, fun h => by rw [h]⟩)
      rw [this]; simp
end Go.Proofs.Ytlkmphmiegegbaa.Vx
