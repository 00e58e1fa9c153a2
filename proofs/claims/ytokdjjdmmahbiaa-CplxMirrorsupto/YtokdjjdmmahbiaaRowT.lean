/-
  Lists of maps in memory. Nothing here is trusted.
-/
import Derived.Test.YtokdjjdmmahbiaaVyF
import Derived.Test.YtokdjjdmmahbiaaLoopS
namespace Go.Proofs.Ytokdjjdmmahbiaa.Vx
open Go

/-- The cells of a list's maps. -/
def opRow (l : List O3) : Nat → List Value := fun i => ((l[i]?).getD O3.zero).cells
def decO (l : List Value) : O3 := match opCells l with
  | some o => o
  | none => O3.zero
def isO (l : List Value) : Bool := match opCells l with
  | some _ => true
  | none => false
def okOps (n : Nat) (row : Nat → List Value) : Bool := (List.range n).all fun i => isO (row i)
def opsOf (n : Nat) (row : Nat → List Value) : List O3 := (List.range n).map fun i => decO (row i)
theorem opCells_cells (o : O3) : opCells o.cells = some o := rfl
theorem isO_cells (o : O3) : isO o.cells = true := rfl
theorem decO_cells (o : O3) : decO o.cells = o := rfl
theorem okOps_opRow (xs : List O3) (n : Nat) : okOps n (opRow xs) = true := List.all_eq_true.2 fun _ _ => isO_cells _
theorem opsOf_opRow (xs : List O3) : opsOf xs.length (opRow xs) = xs := by
  apply List.ext_getElem?
  intro i
  unfold opsOf opRow
  rw [List.getElem?_map]
  by_cases hi : i < xs.length
  · rw [List.getElem?_range hi, List.getElem?_eq_getElem hi]
    simp [decO_cells, List.getElem?_eq_getElem hi]
  · rw [List.getElem?_eq_none (by simp; omega), List.getElem?_eq_none (by omega)]; rfl
theorem opsOf_length (n : Nat) (row : Nat → List Value) : (opsOf n row).length = n := by simp [opsOf]
theorem ops_like {n : Nat} {row : Nat → List Value} (h : okOps n row = true) : rowsLike n row (opRow (opsOf n row)) := by
  intro i hi
  have := List.all_eq_true.1 h i (List.mem_range.2 hi)
  unfold isO at this
  split at this
  · rename_i o ho
    unfold opRow opsOf
    rw [List.getElem?_map, List.getElem?_range hi]
    simp only [Option.map_some, Option.getD_some, decO, ho]
    exact opCells_spec ho
  · cases this
theorem like_ops {own : Bool} {n : Nat} {row : Nat → List Value} (h : okOps n row = true) : Like (.rows own true 12 n row) (.rows own true 12 (opsOf n row).length (opRow (opsOf n row))) := by
  rw [opsOf_length]; exact .rows (ops_like h)
theorem blt_ff {a b : Nat} (h : ¬ a < b) : Nat.blt a b = false := by
  cases hb : Nat.blt a b with
  | false => rfl
  | true => exact absurd (Nat.blt_eq.mp hb) h
/-- One map behind others. -/
theorem catR_one (xs : List O3) (o : O3) (i : Nat) (hi : i < xs.length + 1) : catR xs.length (opRow xs) (chop 12 0 o.cells) i = opRow (xs ++ [o]) i := by
  unfold catR opRow
  by_cases h : i < xs.length
  · rw [show Nat.blt i xs.length = true by simpa [Nat.blt_eq] using h, List.getElem?_append_left h]
  · have : i = xs.length := by omega
    subst this
    rw [blt_ff (Nat.lt_irrefl _)]
    simp only [Nat.sub_self]
    rw [List.getElem?_append_right (Nat.le_refl _)]
    simp only [Nat.sub_self, List.getElem?_cons_zero, Option.getD_some]
    rfl
theorem like_ng {pl : Bool} {n : Nat} {xs : List O3} (hx : xs.length = n) (o : O3) : Like (.grow pl 12 (n + 1) (catR n (opRow xs) (chop 12 0 o.cells))) (.grow pl 12 (n + 1) (opRow (xs ++ [o]))) := by
  subst hx
  exact .grow fun i hi => catR_one xs o i hi
theorem like_nr {own pl : Bool} {n : Nat} {xs : List O3} (hx : xs.length = n) (o : O3) : Like (.rows own pl 12 (n + 1) (catR n (opRow xs) (chop 12 0 o.cells))) (.rows own pl 12 (n + 1) (opRow (xs ++ [o]))) := by
  subst hx
  exact .rows fun i hi => catR_one xs o i hi
theorem like_chop {own pl : Bool} (o : O3) : Like (.rows own pl 12 1 (chop 12 0 o.cells)) (.rows own pl 12 1 (opRow [o])) := .rows fun i hi => by
  have : i = 0 := by omega
  subst this
  rfl
theorem like_one {own pl : Bool} (xs : List O3) (o : O3) : Like (.rows own pl 12 (xs.length + 1) (catR xs.length (opRow xs) (chop 12 0 o.cells))) (.rows own pl 12 (xs ++ [o]).length (opRow (xs ++ [o]))) := by
  rw [List.length_append]
  exact .rows fun i hi => catR_one xs o i hi

theorem like_oneg {pl : Bool} (xs : List O3) (o : O3) : Like (.grow pl 12 (xs.length + 1) (catR xs.length (opRow xs) (chop 12 0 o.cells))) (.grow pl 12 (xs ++ [o]).length (opRow (xs ++ [o]))) := by
  rw [List.length_append]
  exact .grow fun i hi => catR_one xs o i hi

/-! Guards -/
def tAt (st : St) (i : Nat) : Option Value := st.tmps[i]?
def gd {α : Type} (b : Bool) (x : Option α) : Option α := match b with
  | true => x
  | false => none
theorem gd_true {α : Type} (x : Option α) : gd true x = x := rfl
theorem LoopSem.like {P : Program} {B : Nat} {x : Code} {tm : List Value} {m m2 : Mem} {s : St} {e : Exit} (h : LoopSem P B x ⟨tm, m2⟩ e s) (hl : LikeL m m2) : LoopSem P B x ⟨tm, m⟩ e s := by
  intro Q w0 keep r0 a w hB hQ hr
  refine h Q w0 keep r0 a w hB hQ ?_
  obtain ⟨r, hx, h1, h2, h3⟩ := hr
  exact ⟨r, hx, h1, h2, h3.like hl⟩
theorem beq_len {a b : Nat} (h : Nat.beq a b = true) : a = b := Nat.eq_of_beq_eq_true h
/-- Of two errors the lesser one, 0 being none. -/
def leastN (a b : Int) : Int := match a == 0 with
  | true => b
  | false => match b != 0 with
    | true => match decide (b < a) with
      | true => b
      | false => a
    | false => a
end Go.Proofs.Ytokdjjdmmahbiaa.Vx
