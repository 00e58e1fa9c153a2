/-
  Lists of complex numbers, and of pairs of bits, in memory. Nothing here is trusted.
-/
import Derived.Test.YtokdjjdmmahbiaaVyQ
import Derived.Test.YtokdjjdmmahbiaaRowT
namespace Go.Proofs.Ytokdjjdmmahbiaa.Vx
open Go Go.RowKit

def atU (l : List (Nat × Nat)) (i : Nat) : Nat × Nat := (l[i]?).getD (0, 0)
/-- Complex numbers. -/
def cxRow (l : List (Nat × Nat)) : Nat → List Value := fun i => [aC .f64 (atU l i).1 (atU l i).2]
/-- Pairs of bits. -/
def u2Row (l : List (Nat × Nat)) : Nat → List Value := fun i => [.int .u64 ((atU l i).1 : Int), .int .u64 ((atU l i).2 : Int)]
def decC : List Value → Nat × Nat
  | [.iface 0 (.complex .f64 a b)] => (a, b)
  | _ => (0, 0)
def isC : List Value → Bool
  | [.iface 0 (.complex .f64 _ _)] => true
  | _ => false
def okCs (n : Nat) (row : Nat → List Value) : Bool := (List.range n).all fun i => isC (row i)
def csOf (n : Nat) (row : Nat → List Value) : List (Nat × Nat) := (List.range n).map fun i => decC (row i)
def decU : List Value → Nat × Nat
  | [.int .u64 a, .int .u64 b] => (a.toNat, b.toNat)
  | _ => (0, 0)
def isU : List Value → Bool
  | [.int .u64 a, .int .u64 b] => decide (0 ≤ a) && decide (0 ≤ b)
  | _ => false
def okUs (n : Nat) (row : Nat → List Value) : Bool := (List.range n).all fun i => isU (row i)
def usOf (n : Nat) (row : Nat → List Value) : List (Nat × Nat) := (List.range n).map fun i => decU (row i)
theorem okCs_row (l : List (Nat × Nat)) (n : Nat) : okCs n (cxRow l) = true := List.all_eq_true.2 fun _ _ => rfl
theorem okUs_row (l : List (Nat × Nat)) (n : Nat) : okUs n (u2Row l) = true := List.all_eq_true.2 fun i _ => by
  unfold isU u2Row
  simp
theorem csOf_length (n : Nat) (row : Nat → List Value) : (csOf n row).length = n := by simp [csOf]
theorem usOf_length (n : Nat) (row : Nat → List Value) : (usOf n row).length = n := by simp [usOf]
theorem csOf_row {l : List (Nat × Nat)} {n : Nat} (h : l.length = n) : csOf n (cxRow l) = l := by
  subst h
  apply List.ext_getElem?
  intro i
  unfold csOf cxRow atU
  rw [List.getElem?_map]
  by_cases hi : i < l.length
  · rw [List.getElem?_range hi, List.getElem?_eq_getElem hi]
    simp [decC, aC, List.getElem?_eq_getElem hi]
  · rw [List.getElem?_eq_none (by simp; omega), List.getElem?_eq_none (by omega)]; rfl
theorem usOf_row {l : List (Nat × Nat)} {n : Nat} (h : l.length = n) : usOf n (u2Row l) = l := by
  subst h
  apply List.ext_getElem?
  intro i
  unfold usOf u2Row atU
  rw [List.getElem?_map]
  by_cases hi : i < l.length
  · rw [List.getElem?_range hi, List.getElem?_eq_getElem hi]
    simp [decU, List.getElem?_eq_getElem hi]
  · rw [List.getElem?_eq_none (by simp; omega), List.getElem?_eq_none (by omega)]; rfl
theorem atU_get {l : List (Nat × Nat)} {i : Nat} (h : i < l.length) : atU l i = l[i] := by unfold atU; rw [List.getElem?_eq_getElem h]; rfl
theorem cs_like {n : Nat} {row : Nat → List Value} (h : okCs n row = true) : rowsLike n row (cxRow (csOf n row)) := by
  intro i hi
  have := List.all_eq_true.1 h i (List.mem_range.2 hi)
  unfold isC at this
  split at this
  · rename_i a b hx
    unfold cxRow csOf atU
    rw [List.getElem?_map, List.getElem?_range hi]
    simp only [Option.map_some, Option.getD_some, hx, decC]
    rfl
  · cases this
theorem us_like {n : Nat} {row : Nat → List Value} (h : okUs n row = true) : rowsLike n row (u2Row (usOf n row)) := by
  intro i hi
  have := List.all_eq_true.1 h i (List.mem_range.2 hi)
  unfold isU at this
  split at this
  · rename_i a b hx
    simp only [Bool.and_eq_true, decide_eq_true_eq] at this
    unfold u2Row usOf atU
    rw [List.getElem?_map, List.getElem?_range hi]
    simp only [Option.map_some, Option.getD_some, hx, decU]
    rw [Int.toNat_of_nonneg this.1, Int.toNat_of_nonneg this.2]
  · cases this
theorem cx_snoc (l : List (Nat × Nat)) (x : Nat × Nat) {n : Nat} (hn : l.length = n) : rowsLike (n + 1) (catR n (cxRow l) (chop 1 0 [aC .f64 x.1 x.2])) (cxRow (l ++ [x])) := by
  subst hn
  intro i hi
  unfold catR
  by_cases h : i < l.length
  · rw [show Nat.blt i l.length = true by simpa [Nat.blt_eq] using h]
    unfold cxRow atU
    rw [List.getElem?_append_left h]
  · have : i = l.length := by omega
    subst this
    rw [blt_ff (Nat.lt_irrefl _)]
    simp only [Nat.sub_self]
    unfold cxRow atU
    rw [List.getElem?_append_right (Nat.le_refl _)]
    simp only [Nat.sub_self, List.getElem?_cons_zero, Option.getD_some]
    rfl
theorem cx_one (x : Nat × Nat) : rowsLike 1 (chop 1 0 [aC .f64 x.1 x.2]) (cxRow [x]) := by
  intro i hi
  have : i = 0 := by omega
  subst this
  rfl

/-! ## States of exact floats -/
theorem RL_soft {r : Ren} : ∀ {l l' : List Value}, RL (R r) l l' → RL (R r) (mapL soft l) l'
  | [], [], _ => trivial
  | _ :: _, _ :: _, h => ⟨R_soft h.1, RL_soft h.2⟩
  | [], _ :: _, h => h.elim
  | _ :: _, [], h => h.elim
theorem Rel.soft {w0 : World} {keep : Keep} {r0 : Ren} {st : St} {a : Act} {w : World} (h : Rel w0 keep r0 st a w) : Rel w0 keep r0 ⟨mapL soft st.tmps, st.mem⟩ a w := by
  obtain ⟨r, hx, h1, h2, h3⟩ := h
  exact ⟨r, hx, h1, RL_soft h2, h3⟩
theorem LoopSem.soft {P : Program} {B : Nat} {x : Code} {st s : St} {e : Exit} (h : LoopSem P B x ⟨mapL soft st.tmps, st.mem⟩ e s) : LoopSem P B x st e s := fun Q w0 keep r0 a w hB hQ hr => h Q w0 keep r0 a w hB hQ hr.soft
theorem CodeSem.soft {P : Program} {B : Nat} {x : Code} {st s : St} {e : Exit} (h : CodeSem P B x ⟨mapL soft st.tmps, st.mem⟩ e s) : CodeSem P B x st e s := fun Q w0 keep r0 a w hB hQ hr => h Q w0 keep r0 a w hB hQ hr.soft
end Go.Proofs.Ytokdjjdmmahbiaa.Vx
