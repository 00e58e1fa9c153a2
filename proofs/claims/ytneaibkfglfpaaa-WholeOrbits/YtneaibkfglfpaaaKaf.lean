/-
  The functions that the statements of this seat call, one by one: called as told, whatever the world. Nothing here is trusted.
-/
import Derived.Test.YtneaibkfglfpaaaKae
import Derived.Test.YtneaibkfglfpaaaProg

namespace Go.Proofs.Ytneaibkfglfpaaa
open Go Vx

def inlined : List Nat := [10, 13, 14, 15, 16, 17, 18, 19, 20, 21, 22, 23, 24, 25, 26, 28, 29, 30, 31, 32, 33, 34, 35, 40, 41, 42, 46, 47, 48, 49, 50, 51, 52, 53, 54, 55, 56, 57, 58, 59, 60, 61, 63, 65, 66, 67, 68, 39, 69, 70, 73, 75, 76, 77, 81, 82, 83, 84, 85, 86, 87, 88, 89, 91, 92, 93, 94, 95, 96, 97, 98, 99, 100, 101, 120, 121, 122, 123, 124, 125, 126, 127, 136, 137, 138, 141, 36, 37, 38]
def C0 (P : Program) : Cx := base P inlined
theorem ok0 : CxOk (C0 Try.prog) := base_ok (by kernel_rfl) (by kernel_rfl)
/-- vec.within -/
theorem e1 (a0 a1 a2 b : Int) : exFun ((C0 Try.prog).at 121) 60 Try.f121 (pack [some 3, none] [a0, a1, a2, b]) = tWithin ⟨a0, a1, a2⟩ b := by kernel_rfl
def F_117 : List Int → Option Value
  | [a0, a1, a2, b] => some (fWithin ⟨a0, a1, a2⟩ b)
  | _ => none
def C1 (P : Program) : Cx := (C0 P).add 121 [some 3, none] F_117
theorem ok1 : CxOk (C1 Try.prog) := Cx.add_ok ok0 (n := 60) Try.func121 (by kernel_rfl) fun l v hl h => by
  match l, hl, h with
  | [a0, a1, a2, b], _, hh => rw [e1, tWithin_eq]; exact hh
/-- vec.Check -/
theorem e2 (a0 a1 a2 a3 a4 a5 a6 a7 a8 : Int) : exFun ((C1 Try.prog).at 99) 60 Try.f99 (pack [some 9] [a0, a1, a2, a3, a4, a5, a6, a7, a8]) = tCheck ⟨a0, a1, a2, a3, a4, a5, a6, a7, a8⟩ := by kernel_rfl
def F_95 : List Int → Option Value
  | [a0, a1, a2, a3, a4, a5, a6, a7, a8] => some (fCheck ⟨a0, a1, a2, a3, a4, a5, a6, a7, a8⟩)
  | _ => none
def C2 (P : Program) : Cx := (C1 P).add 99 [some 9] F_95
theorem ok2 : CxOk (C2 Try.prog) := Cx.add_ok ok1 (n := 60) Try.func99 (by kernel_rfl) fun l v hl h => by
  match l, hl, h with
  | [a0, a1, a2, a3, a4, a5, a6, a7, a8], _, hh => rw [e2, tCheck_eq]; exact hh
/-- vec.checkBoth -/
theorem e3 (a0 a1 a2 a3 a4 a5 a6 a7 a8 b0 b1 b2 : Int) : exFun ((C2 Try.prog).at 93) 60 Try.f93 (pack [some 9, some 3] [a0, a1, a2, a3, a4, a5, a6, a7, a8, b0, b1, b2]) = tBoth ⟨a0, a1, a2, a3, a4, a5, a6, a7, a8⟩ ⟨b0, b1, b2⟩ := by kernel_rfl
def F_89 : List Int → Option Value
  | [a0, a1, a2, a3, a4, a5, a6, a7, a8, b0, b1, b2] => some (fBoth ⟨a0, a1, a2, a3, a4, a5, a6, a7, a8⟩ ⟨b0, b1, b2⟩)
  | _ => none
def C3 (P : Program) : Cx := (C2 P).add 93 [some 9, some 3] F_89
theorem ok3 : CxOk (C3 Try.prog) := Cx.add_ok ok2 (n := 60) Try.func93 (by kernel_rfl) fun l v hl h => by
  match l, hl, h with
  | [a0, a1, a2, a3, a4, a5, a6, a7, a8, b0, b1, b2], _, hh => rw [e3, tBoth_eq]; exact hh
/-- vec.Mul -/
theorem e4 (a0 a1 a2 a3 a4 a5 a6 a7 a8 b0 b1 b2 b3 b4 b5 b6 b7 b8 : Int) : exFun ((C3 Try.prog).at 126) 60 Try.f126 (pack [some 9, some 9] [a0, a1, a2, a3, a4, a5, a6, a7, a8, b0, b1, b2, b3, b4, b5, b6, b7, b8]) = tMul ⟨a0, a1, a2, a3, a4, a5, a6, a7, a8⟩ ⟨b0, b1, b2, b3, b4, b5, b6, b7, b8⟩ := by kernel_rfl
def F_122 : List Int → Option Value
  | [a0, a1, a2, a3, a4, a5, a6, a7, a8, b0, b1, b2, b3, b4, b5, b6, b7, b8] => some (fMul ⟨a0, a1, a2, a3, a4, a5, a6, a7, a8⟩ ⟨b0, b1, b2, b3, b4, b5, b6, b7, b8⟩)
  | _ => none
def C4 (P : Program) : Cx := (C3 P).add 126 [some 9, some 9] F_122
theorem ok4 : CxOk (C4 Try.prog) := Cx.add_ok ok3 (n := 60) Try.func126 (by kernel_rfl) fun l v hl h => by
  match l, hl, h with
  | [a0, a1, a2, a3, a4, a5, a6, a7, a8, b0, b1, b2, b3, b4, b5, b6, b7, b8], _, hh => rw [e4, tMul_eq]; exact hh
/-- vec.Apply -/
theorem e5 (a0 a1 a2 a3 a4 a5 a6 a7 a8 b0 b1 b2 : Int) : exFun ((C4 Try.prog).at 68) 60 Try.f68 (pack [some 9, some 3] [a0, a1, a2, a3, a4, a5, a6, a7, a8, b0, b1, b2]) = tApply ⟨a0, a1, a2, a3, a4, a5, a6, a7, a8⟩ ⟨b0, b1, b2⟩ := by kernel_rfl
def F_63 : List Int → Option Value
  | [a0, a1, a2, a3, a4, a5, a6, a7, a8, b0, b1, b2] => some (fApply ⟨a0, a1, a2, a3, a4, a5, a6, a7, a8⟩ ⟨b0, b1, b2⟩)
  | _ => none
def C5 (P : Program) : Cx := (C4 P).add 68 [some 9, some 3] F_63
theorem ok5 : CxOk (C5 Try.prog) := Cx.add_ok ok4 (n := 60) Try.func68 (by kernel_rfl) fun l v hl h => by
  match l, hl, h with
  | [a0, a1, a2, a3, a4, a5, a6, a7, a8, b0, b1, b2], _, hh => rw [e5, tApply_eq]; exact hh
/-- vec.Det -/
theorem e6 (a0 a1 a2 a3 a4 a5 a6 a7 a8 : Int) : exFun ((C5 Try.prog).at 120) 60 Try.f120 (pack [some 9] [a0, a1, a2, a3, a4, a5, a6, a7, a8]) = tDet ⟨a0, a1, a2, a3, a4, a5, a6, a7, a8⟩ := by kernel_rfl
def F_116 : List Int → Option Value
  | [a0, a1, a2, a3, a4, a5, a6, a7, a8] => some (fDet ⟨a0, a1, a2, a3, a4, a5, a6, a7, a8⟩)
  | _ => none
def C6 (P : Program) : Cx := (C5 P).add 120 [some 9] F_116
theorem ok6 : CxOk (C6 Try.prog) := Cx.add_ok ok5 (n := 60) Try.func120 (by kernel_rfl) fun l v hl h => by
  match l, hl, h with
  | [a0, a1, a2, a3, a4, a5, a6, a7, a8], _, hh => rw [e6, tDet_eq]; exact hh
/-- vec.Inverse -/
theorem e7 (a0 a1 a2 a3 a4 a5 a6 a7 a8 : Int) : exFun ((C6 Try.prog).at 98) 60 Try.f98 (pack [some 9] [a0, a1, a2, a3, a4, a5, a6, a7, a8]) = tInverse ⟨a0, a1, a2, a3, a4, a5, a6, a7, a8⟩ := by kernel_rfl
def F_94 : List Int → Option Value
  | [a0, a1, a2, a3, a4, a5, a6, a7, a8] => some (fInverse ⟨a0, a1, a2, a3, a4, a5, a6, a7, a8⟩)
  | _ => none
def C7 (P : Program) : Cx := (C6 P).add 98 [some 9] F_94
theorem ok7 : CxOk (C7 Try.prog) := Cx.add_ok ok6 (n := 60) Try.func98 (by kernel_rfl) fun l v hl h => by
  match l, hl, h with
  | [a0, a1, a2, a3, a4, a5, a6, a7, a8], _, hh => rw [e7, tInverse_eq]; exact hh
/-- frac.residue -/
theorem e8 (a b : Int) : exFun ((C7 Try.prog).at 91) 60 Try.f91 (pack [none, none] [a, b]) = tResidue a b := by kernel_rfl
def F_87 : List Int → Option (Bool × Value)
  | [a, b] => some (modB b, vI (a % b))
  | _ => none
def C8 (P : Program) : Cx := (C7 P).addD 91 [none, none] F_87
theorem ok8 : CxOk (C8 Try.prog) := Cx.addD_ok ok7 (n := 60) Try.func91 (by kernel_rfl) fun l v hl h => by
  match l, hl, h with
  | [a, b], _, hh => simp only [F_87, Option.some.injEq, Prod.mk.injEq] at hh; rw [e8, tResidue_eq hh.1, hh.2]
/-- frac.Add -/
theorem e9 (a0 a1 a2 b0 b1 b2 : Int) : exFun ((C8 Try.prog).at 138) 60 Try.f138 (pack [some 3, some 3] [a0, a1, a2, b0, b1, b2]) = tAdd ⟨a0, a1, a2⟩ ⟨b0, b1, b2⟩ := by kernel_rfl
def F_134 : List Int → Option Value
  | [a0, a1, a2, b0, b1, b2] => some (fAdd ⟨a0, a1, a2⟩ ⟨b0, b1, b2⟩)
  | _ => none
def C9 (P : Program) : Cx := (C8 P).add 138 [some 3, some 3] F_134
theorem ok9 : CxOk (C9 Try.prog) := Cx.add_ok ok8 (n := 60) Try.func138 (by kernel_rfl) fun l v hl h => by
  match l, hl, h with
  | [a0, a1, a2, b0, b1, b2], _, hh => rw [e9, tAdd_eq]; exact hh
/-- frac.Neg -/
theorem e10 (a0 a1 a2 : Int) : exFun ((C9 Try.prog).at 100) 60 Try.f100 (pack [some 3] [a0, a1, a2]) = tNeg ⟨a0, a1, a2⟩ := by kernel_rfl
def F_96 : List Int → Option Value
  | [a0, a1, a2] => some (fNeg ⟨a0, a1, a2⟩)
  | _ => none
def C10 (P : Program) : Cx := (C9 P).add 100 [some 3] F_96
theorem ok10 : CxOk (C10 Try.prog) := Cx.add_ok ok9 (n := 60) Try.func100 (by kernel_rfl) fun l v hl h => by
  match l, hl, h with
  | [a0, a1, a2], _, hh => rw [e10, tNeg_eq]; exact hh
/-- frac.isFineness -/
theorem e11 (a : Int) : exFun ((C10 Try.prog).at 65) 60 Try.f65 (pack [none] [a]) = tFine a := by kernel_rfl
def F_60 : List Int → Option Value
  | [a] => some (fFine a)
  | _ => none
def C11 (P : Program) : Cx := (C10 P).add 65 [none] F_60
theorem ok11 : CxOk (C11 Try.prog) := Cx.add_ok ok10 (n := 60) Try.func65 (by kernel_rfl) fun l v hl h => by
  match l, hl, h with
  | [a], _, hh => rw [e11, tFine_eq]; exact hh
/-- frac.Form -/
theorem e12 (a0 a1 a2 a3 : Int) : exFun ((C11 Try.prog).at 30) 60 Try.f30 (pack [some 4] [a0, a1, a2, a3]) = tPForm ⟨a0, ⟨a1, a2, a3⟩⟩ := by kernel_rfl
def F_29 : List Int → Option Value
  | [a0, a1, a2, a3] => some (fPForm ⟨a0, ⟨a1, a2, a3⟩⟩)
  | _ => none
def C12 (P : Program) : Cx := (C11 P).add 30 [some 4] F_29
theorem ok12 : CxOk (C12 Try.prog) := Cx.add_ok ok11 (n := 60) Try.func30 (by kernel_rfl) fun l v hl h => by
  match l, hl, h with
  | [a0, a1, a2, a3], _, hh => rw [e12, tPForm_eq]; exact hh
/-- frac.Place -/
theorem e13 (a b0 b1 b2 : Int) : exFun ((C12 Try.prog).at 39) 60 Try.f39 (pack [none, some 3] [a, b0, b1, b2]) = tPlace a ⟨b0, b1, b2⟩ := by kernel_rfl
def F_64 : List Int → Option Value
  | [a, b0, b1, b2] => some (fPlace a ⟨b0, b1, b2⟩)
  | _ => none
def C13 (P : Program) : Cx := (C12 P).add 39 [none, some 3] F_64
theorem ok13 : CxOk (C13 Try.prog) := Cx.add_ok ok12 (n := 60) Try.func39 (by kernel_rfl) fun l v hl h => by
  match l, hl, h with
  | [a, b0, b1, b2], _, hh => rw [e13, tPlace_eq]; exact hh
/-- frac.Shift -/
theorem e14 (a0 a1 a2 a3 b0 b1 b2 : Int) : exFun ((C13 Try.prog).at 69) 60 Try.f69 (pack [some 4, some 3] [a0, a1, a2, a3, b0, b1, b2]) = tShift ⟨a0, ⟨a1, a2, a3⟩⟩ ⟨b0, b1, b2⟩ := by kernel_rfl
def F_65 : List Int → Option Value
  | [a0, a1, a2, a3, b0, b1, b2] => some (fShift ⟨a0, ⟨a1, a2, a3⟩⟩ ⟨b0, b1, b2⟩)
  | _ => none
def C14 (P : Program) : Cx := (C13 P).add 69 [some 4, some 3] F_65
theorem ok14 : CxOk (C14 Try.prog) := Cx.add_ok ok13 (n := 60) Try.func69 (by kernel_rfl) fun l v hl h => by
  match l, hl, h with
  | [a0, a1, a2, a3, b0, b1, b2], _, hh => rw [e14, tShift_eq]; exact hh

def CC (P : Program) : Cx := C14 P
theorem okC : CxOk (CC Try.prog) := ok14

end Go.Proofs.Ytneaibkfglfpaaa


namespace Go.Proofs.Ytneaibkfglfpaaa.Vx
open Go

/-- The cells of a list's maps. -/
def opRow (l : List O3) : Nat → List Value := fun i => ((l[i]?).getD O3.zero).cells
def decO (l : List Value) : O3 := match opCells l with
  | some o => o
  | none => O3.zero
def isO (l : List Value) : Bool := match opCells l with
  | some _ => true
  | none => false
def okOps (n : Nat) (row : Nat → List Value) : Bool := (List.range n).all fun i => isO (row i)
def opsOf (n : Nat) (row : Nat → List Value) : List O3 := (List.range n).map fun i => decO (row i)
theorem isO_cells (o : O3) : isO o.cells = true := rfl
theorem decO_cells (o : O3) : decO o.cells = o := rfl
theorem okOps_opRow (xs : List O3) (n : Nat) : okOps n (opRow xs) = true := List.all_eq_true.2 fun _ _ => isO_cells _
theorem opsOf_opRow (xs : List O3) : opsOf xs.length (opRow xs) = xs := by
  apply List.ext_getElem?
  intro i
  unfold opsOf opRow
  rw [List.getElem?_map]
  by_cases hi : i < xs.length
  · rw [List.getElem?_range hi, List.getElem?_eq_getElem hi]
    simp [decO_cells, List.getElem?_eq_getElem hi]
  · rw [List.getElem?_eq_none (by simp; omega), List.getElem?_eq_none (by omega)]; rfl
theorem opsOf_length (n : Nat) (row : Nat → List Value) : (opsOf n row).length = n := by simp [opsOf]
theorem ops_like {n : Nat} {row : Nat → List Value} (h : okOps n row = true) : rowsLike n row (opRow (opsOf n row)) := by
  intro i hi
  have := List.all_eq_true.1 h i (List.mem_range.2 hi)
  unfold isO at this
  split at this
  · rename_i o ho
    unfold opRow opsOf
    rw [List.getElem?_map, List.getElem?_range hi]
    simp only [Option.map_some, Option.getD_some, decO, ho]
    exact opCells_spec ho
  · cases this
theorem blt_ff {a b : Nat} (h : ¬ a < b) : Nat.blt a b = false := by
  cases hb : Nat.blt a b with
  | false => rfl
  | true => exact absurd (Nat.blt_eq.mp hb) h
/-- One map behind others. -/
theorem catR_one (xs : List O3) (o : O3) (i : Nat) (hi : i < xs.length + 1) : catR xs.length (opRow xs) (chop 12 0 o.cells) i = opRow (xs ++ [o]) i := by
  unfold catR opRow
  by_cases h : i < xs.length
  · rw [show Nat.blt i xs.length = true by simpa [Nat.blt_eq] using h, List.getElem?_append_left h]
  · have : i = xs.length := by omega
    subst this
    rw [blt_ff (Nat.lt_irrefl _)]
    simp only [Nat.sub_self]
    rw [List.getElem?_append_right (Nat.le_refl _)]
    simp only [Nat.sub_self, List.getElem?_cons_zero, Option.getD_some]
    rfl
theorem like_ng {pl : Bool} {n : Nat} {xs : List O3} (hx : xs.length = n) (o : O3) : Like (.grow pl 12 (n + 1) (catR n (opRow xs) (chop 12 0 o.cells))) (.grow pl 12 (n + 1) (opRow (xs ++ [o]))) := by
  subst hx
  exact .grow fun i hi => catR_one xs o i hi
theorem like_nr {own pl : Bool} {n : Nat} {xs : List O3} (hx : xs.length = n) (o : O3) : Like (.rows own pl 12 (n + 1) (catR n (opRow xs) (chop 12 0 o.cells))) (.rows own pl 12 (n + 1) (opRow (xs ++ [o]))) := by
  subst hx
  exact .rows fun i hi => catR_one xs o i hi
theorem like_chop {own pl : Bool} (o : O3) : Like (.rows own pl 12 1 (chop 12 0 o.cells)) (.rows own pl 12 1 (opRow [o])) := .rows fun i hi => by
  have : i = 0 := by omega
  subst this
  rfl
def tAt (st : St) (i : Nat) : Option Value := st.tmps[i]?
def gd {α : Type} (b : Bool) (x : Option α) : Option α := match b with
  | true => x
  | false => none
theorem gd_true {α : Type} (x : Option α) : gd true x = x := rfl
theorem LoopSem.like {P : Program} {B : Nat} {x : Code} {tm : List Value} {m m2 : Mem} {s : St} {e : Exit} (h : LoopSem P B x ⟨tm, m2⟩ e s) (hl : LikeL m m2) : LoopSem P B x ⟨tm, m⟩ e s := by
  intro Q w0 keep r0 a w hB hQ hr
  refine h Q w0 keep r0 a w hB hQ ?_
  obtain ⟨r, hx, h1, h2, h3⟩ := hr
  exact ⟨r, hx, h1, h2, h3.like hl⟩
theorem beq_len {a b : Nat} (h : Nat.beq a b = true) : a = b := Nat.eq_of_beq_eq_true h
/-- Of two errors the lesser one, 0 being none. -/
def leastN (a b : Int) : Int := match a == 0 with
  | true => b
  | false => match b != 0 with
    | true => match decide (b < a) with
      | true => b
      | false => a
    | false => a
end Go.Proofs.Ytneaibkfglfpaaa.Vx


namespace Go.Proofs.Ytneaibkfglfpaaa
open Go Vx
def leastM (a b : Int) : Mem := [.cells true 1 [.int .i64 a, .int .i64 b]]
def leastA : List Value := [.slice (some ⟨0, 0, none⟩) 2 1]
theorem eLeast (a b : Int) : (exFunA ((CC Try.prog).at 47) 60 Try.f47 leastA (leastM a b)).res = (match a == 0 with
    | true => some (vI b, leastM a b)
    | false => match b != 0 with
      | true => match decide (b < a) with
        | true => some (vI b, leastM a b)
        | false => some (vI a, leastM a b)
      | false => some (vI a, leastM a b)) := by kernel_rfl
theorem eLeast' (a b : Int) : (exFunA ((CC Try.prog).at 47) 60 Try.f47 leastA (leastM a b)).res = some (vI (leastN a b), leastM a b) := by
  rw [eLeast]
  unfold leastN
  cases a == 0 <;> cases b != 0 <;> cases decide (b < a) <;> rfl
def leastS : List Value → Mem → Option (Ans (Value × Mem))
  | [.slice (some ⟨0, 0, none⟩) 2 1], [.cells true 1 [.int .i64 a, .int .i64 b]] => some (.out (vI (leastN a b), leastM a b))
  | _, _ => none
def CL (P : Program) : Cx := (CC P).addF 47 leastS
theorem okL : CxOk (CL Try.prog) := Cx.addF_ok okC fun args m ans v m' h hr => by
  unfold leastS at h
  split at h
  · rename_i a b
    simp only [Option.some.injEq] at h
    subst h
    simp only [Ans.res, Option.some.injEq, Prod.mk.injEq] at hr
    obtain ⟨rfl, rfl⟩ := hr
    exact exFunA_ok (n := 60) okC Try.func47 (by kernel_rfl) (eLeast' a b)
  · cases h
end Go.Proofs.Ytneaibkfglfpaaa


namespace Go.Proofs.Ytneaibkfglfpaaa.Vx
open Go

theorem Wdet {m : M3} (h : m.ok = true) : W m.det = m.det := by rw [← detW_W, detW_eq h]
theorem V3.Bd.add {u v : V3} {k l : Int} (h : u.Bd k) (h' : v.Bd l) : (u.add v).Bd (k + l) := by unfold V3.Bd V3.add at *; simp only; omega
theorem V3.Bd.neg {u : V3} {k : Int} (h : u.Bd k) : u.neg.Bd k := by unfold V3.Bd V3.neg at *; simp only; omega
end Go.Proofs.Ytneaibkfglfpaaa.Vx


namespace Go.Proofs.Ytneaibkfglfpaaa.Vx
open Go

/-- So many times more; the map that was reached, and the error. -/
def powL (o : O3) : Nat → O3 → O3 × Int
  | 0, p => (p, 0)
  | k + 1, p => match o.mulE p != 0 with
    | true => (p, o.mulE p)
    | false => powL o k (o.mulF p)
def powOut (x : O3 × Int) : O3 × Int := bif x.2 == 0 then (x.1, 0) else (O3.zero, x.2)
def O3.pow (o : O3) (n : Int) : O3 × Int :=
  bif decide (n < -1000) || decide (n > 1000) then (O3.zero, 1)
  else bif o.ck != 0 then (O3.zero, o.ck)
  else bif decide (n < 0) then (bif o.invE != 0 then (O3.zero, o.invE) else powOut (powL o.invF (-n).toNat O3.one))
  else powOut (powL o n.toNat O3.one)
theorem O3.ck_mul {a b : O3} (ha : a.ck = 0) (hb : b.ck = 0) (h : (a.mul b).r.ok = true) : (a.mul b).ck = 0 := by
  obtain ⟨_, _, a3⟩ := O3.ck_zero.1 ha
  obtain ⟨_, _, b3⟩ := O3.ck_zero.1 hb
  exact O3.ck_zero.2 ⟨V3.md_part _, h, M3.U_mul a3 b3⟩
theorem O3.mulF_eq {a b : O3} (ha : a.ck = 0) (hb : b.ck = 0) : a.mulF b = (a.mul b).small ∧ a.mulE b = (a.mul b).smallE := by
  have : leastI a.ck b.ck = 0 := leastI_zero.2 ⟨ha, hb⟩
  unfold O3.mulF O3.mulE
  rw [this]; exact ⟨rfl, rfl⟩
theorem O3.smallE_zero {o : O3} : o.smallE = 0 ↔ o.r.ok = true := by unfold O3.smallE; cases o.r.ok <;> simp
theorem O3.small_ok {o : O3} (h : o.r.ok = true) : o.small = o := by unfold O3.small; rw [h]; rfl
end Go.Proofs.Ytneaibkfglfpaaa.Vx


namespace Go.Proofs.Ytneaibkfglfpaaa
open Go Vx

/-- What holds of a matrix m, its square p and its adjugate c. -/
structure Alg (m0 m1 m2 m3 m4 m5 m6 m7 m8 p0 p1 p2 p3 p4 p5 p6 p7 p8 c0 c1 c2 c3 c4 c5 c6 c7 c8 t s D : Int) : Prop where
  tr : t = m0 + m4 + m8
  sq0 : p0 = m0 * m0 + m1 * m3 + m2 * m6
  sq1 : p1 = m0 * m1 + m1 * m4 + m2 * m7
  sq2 : p2 = m0 * m2 + m1 * m5 + m2 * m8
  sq3 : p3 = m3 * m0 + m4 * m3 + m5 * m6
  sq4 : p4 = m3 * m1 + m4 * m4 + m5 * m7
  sq5 : p5 = m3 * m2 + m4 * m5 + m5 * m8
  sq6 : p6 = m6 * m0 + m7 * m3 + m8 * m6
  sq7 : p7 = m6 * m1 + m7 * m4 + m8 * m7
  sq8 : p8 = m6 * m2 + m7 * m5 + m8 * m8
  ch0 : c0 = p0 - t * m0 + s * 1
  ch1 : c1 = p1 - t * m1 + s * 0
  ch2 : c2 = p2 - t * m2 + s * 0
  ch3 : c3 = p3 - t * m3 + s * 0
  ch4 : c4 = p4 - t * m4 + s * 1
  ch5 : c5 = p5 - t * m5 + s * 0
  ch6 : c6 = p6 - t * m6 + s * 0
  ch7 : c7 = p7 - t * m7 + s * 0
  ch8 : c8 = p8 - t * m8 + s * 1
  cp0 : c0 * p0 + c1 * p3 + c2 * p6 = D * m0
  cp1 : c0 * p1 + c1 * p4 + c2 * p7 = D * m1
  cp2 : c0 * p2 + c1 * p5 + c2 * p8 = D * m2
  cp3 : c3 * p0 + c4 * p3 + c5 * p6 = D * m3
  cp4 : c3 * p1 + c4 * p4 + c5 * p7 = D * m4
  cp5 : c3 * p2 + c4 * p5 + c5 * p8 = D * m5
  cp6 : c6 * p0 + c7 * p3 + c8 * p6 = D * m6
  cp7 : c6 * p1 + c7 * p4 + c8 * p7 = D * m7
  cp8 : c6 * p2 + c7 * p5 + c8 * p8 = D * m8
  mc0 : m0 * c0 + m1 * c3 + m2 * c6 = D * 1
  mc1 : m0 * c1 + m1 * c4 + m2 * c7 = D * 0
  mc2 : m0 * c2 + m1 * c5 + m2 * c8 = D * 0
  mc3 : m3 * c0 + m4 * c3 + m5 * c6 = D * 0
  mc4 : m3 * c1 + m4 * c4 + m5 * c7 = D * 1
  mc5 : m3 * c2 + m4 * c5 + m5 * c8 = D * 0
  mc6 : m6 * c0 + m7 * c3 + m8 * c6 = D * 0
  mc7 : m6 * c1 + m7 * c4 + m8 * c7 = D * 0
  mc8 : m6 * c2 + m7 * c5 + m8 * c8 = D * 1
  mp0 : m0 * p0 + m1 * p3 + m2 * p6 = t * p0 - s * m0 + D * 1
  mp1 : m0 * p1 + m1 * p4 + m2 * p7 = t * p1 - s * m1 + D * 0
  mp2 : m0 * p2 + m1 * p5 + m2 * p8 = t * p2 - s * m2 + D * 0
  mp3 : m3 * p0 + m4 * p3 + m5 * p6 = t * p3 - s * m3 + D * 0
  mp4 : m3 * p1 + m4 * p4 + m5 * p7 = t * p4 - s * m4 + D * 1
  mp5 : m3 * p2 + m4 * p5 + m5 * p8 = t * p5 - s * m5 + D * 0
  mp6 : m6 * p0 + m7 * p3 + m8 * p6 = t * p6 - s * m6 + D * 0
  mp7 : m6 * p1 + m7 * p4 + m8 * p7 = t * p7 - s * m7 + D * 0
  mp8 : m6 * p2 + m7 * p5 + m8 * p8 = t * p8 - s * m8 + D * 1
  pp0 : p0 * p0 + p1 * p3 + p2 * p6 = (t * t - s) * p0 + (D - t * s) * m0 + t * D * 1
  pp1 : p0 * p1 + p1 * p4 + p2 * p7 = (t * t - s) * p1 + (D - t * s) * m1 + t * D * 0
  pp2 : p0 * p2 + p1 * p5 + p2 * p8 = (t * t - s) * p2 + (D - t * s) * m2 + t * D * 0
  pp3 : p3 * p0 + p4 * p3 + p5 * p6 = (t * t - s) * p3 + (D - t * s) * m3 + t * D * 0
  pp4 : p3 * p1 + p4 * p4 + p5 * p7 = (t * t - s) * p4 + (D - t * s) * m4 + t * D * 1
  pp5 : p3 * p2 + p4 * p5 + p5 * p8 = (t * t - s) * p5 + (D - t * s) * m5 + t * D * 0
  pp6 : p6 * p0 + p7 * p3 + p8 * p6 = (t * t - s) * p6 + (D - t * s) * m6 + t * D * 0
  pp7 : p6 * p1 + p7 * p4 + p8 * p7 = (t * t - s) * p7 + (D - t * s) * m7 + t * D * 0
  pp8 : p6 * p2 + p7 * p5 + p8 * p8 = (t * t - s) * p8 + (D - t * s) * m8 + t * D * 1
  cc0 : c0 * c0 + c1 * c3 + c2 * c6 = s * p0 + (D - s * t) * m0 + (s * s - D * t) * 1
  cc1 : c0 * c1 + c1 * c4 + c2 * c7 = s * p1 + (D - s * t) * m1 + (s * s - D * t) * 0
  cc2 : c0 * c2 + c1 * c5 + c2 * c8 = s * p2 + (D - s * t) * m2 + (s * s - D * t) * 0
  cc3 : c3 * c0 + c4 * c3 + c5 * c6 = s * p3 + (D - s * t) * m3 + (s * s - D * t) * 0
  cc4 : c3 * c1 + c4 * c4 + c5 * c7 = s * p4 + (D - s * t) * m4 + (s * s - D * t) * 1
  cc5 : c3 * c2 + c4 * c5 + c5 * c8 = s * p5 + (D - s * t) * m5 + (s * s - D * t) * 0
  cc6 : c6 * c0 + c7 * c3 + c8 * c6 = s * p6 + (D - s * t) * m6 + (s * s - D * t) * 0
  cc7 : c6 * c1 + c7 * c4 + c8 * c7 = s * p7 + (D - s * t) * m7 + (s * s - D * t) * 0
  cc8 : c6 * c2 + c7 * c5 + c8 * c8 = s * p8 + (D - s * t) * m8 + (s * s - D * t) * 1
  t2 : p0 + p4 + p8 = t * t - 2 * s
  dp : det p0 p1 p2 p3 p4 p5 p6 p7 p8 = D * D
  dm : D = det m0 m1 m2 m3 m4 m5 m6 m7 m8

end Go.Proofs.Ytneaibkfglfpaaa


namespace Go.Proofs.Ytneaibkfglfpaaa.Vx
open Go

theorem app_md (m : M3) (v : V3) : (m.app (v.md 24)).md 24 = (m.app v).md 24 := by
  unfold M3.app V3.md
  simp only [V3.mk.injEq]
  refine ⟨?_, ?_, ?_⟩ <;> simp [Int.add_emod, Int.mul_emod]
theorem V3.add_comm (u v : V3) : u.add v = v.add u := by unfold V3.add; simp only [V3.mk.injEq]; omega
theorem V3.add_assoc (u v x : V3) : (u.add v).add x = u.add (v.add x) := by unfold V3.add; simp only [V3.mk.injEq]; omega
/-- Sums of the first powers' translations. -/
def sumP (o : O3) : Nat → V3
  | 0 => V3.zero
  | k + 1 => (sumP o k).add ((o.r.pow k).app o.t)
def gcd3 (s : V3) : Int := (Int.gcd (Int.gcd (Int.gcd 24 s.x : Int) s.y : Int) s.z : Int)
def O3.sum (o : O3) (n : Nat) : V3 := (sumP o n).md 24
def O3.ordF (o : O3) : Int := bif o.ck == 0 then (bif o.r.ordI == 0 then 0 else o.r.ordI * (24 / gcd3 (o.sum o.r.ordI.toNat))) else 0
def O3.ordE (o : O3) : Int := bif o.ck == 0 then (bif o.r.ordI == 0 then 9 else 0) else o.ck
end Go.Proofs.Ytneaibkfglfpaaa.Vx


namespace Go.Proofs.Ytneaibkfglfpaaa.Vx
open Go

theorem md_app_add (m : M3) (u v : V3) : ((m.app (u.md 24)).add v).md 24 = ((m.app u).add v).md 24 := by
  rw [← md_add_md, app_md, md_add_md]
theorem V3.md_add_right (u v : V3) : (u.add (v.md 24)).md 24 = (u.add v).md 24 := by rw [V3.add_comm, md_add_md, V3.add_comm]
theorem O3.ext' {a b : O3} (h1 : a.r = b.r) (h2 : a.t = b.t) : a = b := by cases a; cases b; simp only at h1 h2; rw [h1, h2]
theorem O3.mul_assoc (a b c : O3) : (a.mul b).mul c = a.mul (b.mul c) := by
  refine O3.ext' (M3.mul_assoc _ _ _) ?_
  simp only [O3.mul]
  rw [md_app_add, M3.app_add, ← M3.app_mul, V3.md_add_right, V3.add_assoc]
theorem V3.zero_add (v : V3) : V3.zero.add v = v := by unfold V3.add V3.zero; simp
theorem M3.app_zero (m : M3) : m.app V3.zero = V3.zero := by unfold M3.app V3.zero; simp
theorem O3.mul_one {a : O3} (h : a.t.part = true) : a.mul O3.one = a := by
  refine O3.ext' (M3.mul_one _) ?_
  simp only [O3.mul, O3.one]
  rw [M3.app_zero, V3.zero_add, V3.part_md h]
theorem O3.one_mul {a : O3} (h : a.t.part = true) : O3.one.mul a = a := by
  refine O3.ext' (M3.one_mul _) ?_
  simp only [O3.mul, O3.one]
  rw [M3.app_one, V3.add_zero, V3.part_md h]
theorem V3.neg_add (v : V3) : v.neg.add v = V3.zero := by unfold V3.neg V3.add V3.zero; simp only [V3.mk.injEq]; omega
theorem V3.add_neg (v : V3) : v.add v.neg = V3.zero := by rw [V3.add_comm, V3.neg_add]
theorem O3.inv_mul {a : O3} (hu : a.r.U) : a.inv.mul a = O3.one := by
  refine O3.ext' (M3.inv_mul hu) ?_
  simp only [O3.mul, O3.inv, O3.one]
  rw [V3.md_add_right, V3.add_neg]
  rfl
theorem form_m {p : P3} (h : p.form = true) : p.m = 24 * (p.m / 24) ∧ 0 < p.m / 24 := by
  have := (P3.form_spec h).1
  rcases this with e | e | e | e <;> rw [e] <;> decide
theorem O3.app_form {o : O3} {p : P3} (h : p.form = true) : (o.app p).form = true := by
  unfold P3.form at h ⊢
  rw [Bool.and_eq_true] at h
  simp only [O3.app, h.1, md_md, V3.eqB_refl, Bool.and_self]
theorem app_md' (k : Int) (m : M3) (v : V3) : (m.app (v.md k)).md k = (m.app v).md k := by
  unfold M3.app V3.md
  simp only [V3.mk.injEq]
  refine ⟨?_, ?_, ?_⟩ <;> simp [Int.add_emod, Int.mul_emod]
theorem V3.md_add_r (k : Int) (u v : V3) : (u.add (v.md k)).md k = (u.add v).md k := by rw [V3.add_comm, md_add_md, V3.add_comm]
theorem smul_md (k : Int) (v : V3) : ((v.md 24).smul k).md (24 * k) = (v.smul k).md (24 * k) := by
  unfold V3.smul V3.md
  simp only [V3.mk.injEq]
  have key : ∀ x : Int, k * (x % 24) % (24 * k) = k * x % (24 * k) := fun x => by
    have e : x = 24 * (x / 24) + x % 24 := (Int.mul_ediv_add_emod x 24).symm
    have e2 : k * x = k * (x % 24) + (24 * k) * (x / 24) := by
      conv => lhs; rw [e]
      grind
    rw [e2, Int.add_mul_emod_self_left]
  exact ⟨key _, key _, key _⟩
theorem smul_add (k : Int) (u v : V3) : (u.add v).smul k = (u.smul k).add (v.smul k) := by
  unfold V3.smul V3.add; simp only [V3.mk.injEq]; exact ⟨Int.mul_add _ _ _, Int.mul_add _ _ _, Int.mul_add _ _ _⟩
theorem app_smul (k : Int) (m : M3) (v : V3) : m.app (v.smul k) = (m.app v).smul k := by
  unfold V3.smul M3.app; simp only [V3.mk.injEq]; refine ⟨?_, ?_, ?_⟩ <;> grind
theorem O3.app_mul (a b : O3) {p : P3} (h : p.form = true) : (a.mul b).app p = a.app (b.app p) := by
  obtain ⟨hm, _⟩ := form_m h
  unfold O3.app
  simp only [O3.mul, P3.mk.injEq, true_and]
  generalize p.m / 24 = k at *
  rw [hm]
  rw [← md_add_md (24 * k) (a.r.app _), app_md', md_add_md, M3.app_add, app_smul, M3.app_mul, V3.add_assoc, ← smul_add, ← V3.md_add_r _ (a.r.app (b.r.app p.x)), smul_md k, V3.md_add_r]
theorem O3.mulF_of {a b : O3} (ha : a.ck = 0) (hb : b.ck = 0) (h : a.mulE b = 0) : a.mulF b = a.mul b ∧ (a.mul b).ck = 0 := by
  obtain ⟨e1, e2⟩ := O3.mulF_eq ha hb
  rw [e2] at h
  have hok := O3.smallE_zero.1 h
  exact ⟨by rw [e1, O3.small_ok hok], O3.ck_mul ha hb hok⟩
theorem beq_true {x : Int} (h : x = 0) : (x == 0) = true ∧ (x != 0) = false := by subst h; exact ⟨rfl, rfl⟩

theorem O3.appF_of {o : O3} {p : P3} (ho : o.ck = 0) (hp : p.form = true) : o.appE p = 0 ∧ o.appF p = o.app p := by
  have : o.appE p = 0 := by unfold O3.appE; rw [hp, ho]; rfl
  refine ⟨this, ?_⟩
  unfold O3.appF; rw [this]; rfl
end Go.Proofs.Ytneaibkfglfpaaa.Vx


namespace Go.Proofs.Ytneaibkfglfpaaa.Vx
open Go

def lexI : List Int → List Int → Int
  | a :: l, b :: m => if a < b then -1 else if a > b then 1 else lexI l m
  | _, _ => 0
def O3.l (o : O3) : List Int := [o.r.a, o.r.b, o.r.c, o.r.d, o.r.e, o.r.f, o.r.g, o.r.h, o.r.i, o.t.x, o.t.y, o.t.z]
theorem lexI_neg : ∀ (l m : List Int), lexI m l = -lexI l m
  | [], [] => rfl
  | [], _ :: _ => rfl
  | _ :: _, [] => rfl
  | a :: l, b :: m => by
    simp only [lexI]
    by_cases h1 : a < b
    · rw [if_pos h1, if_neg (by omega), if_pos (by omega)]; rfl
    · by_cases h2 : a > b
      · rw [if_pos (by omega), if_neg h1, if_pos h2]
      · rw [if_neg (by omega), if_neg (by omega), if_neg h1, if_neg h2]; exact lexI_neg l m
theorem lexI_zero : ∀ {l m : List Int}, l.length = m.length → (lexI l m = 0 ↔ l = m)
  | [], [], _ => by simp [lexI]
  | [], _ :: _, h => by simp at h
  | _ :: _, [], h => by simp at h
  | a :: l, b :: m, h => by
    simp only [lexI, List.cons.injEq]
    have ih := lexI_zero (l := l) (m := m) (by simpa using h)
    by_cases h1 : a < b
    · rw [if_pos h1]; constructor
      · intro h; omega
      · intro h; omega
    · by_cases h2 : a > b
      · rw [if_neg h1, if_pos h2]; constructor
        · intro h; omega
        · intro h; omega
      · rw [if_neg h1, if_neg h2, ih]
        constructor
        · intro h; exact ⟨by omega, h⟩
        · intro h; exact h.2
theorem lexI_trans : ∀ {l m n : List Int}, l.length = m.length → m.length = n.length → lexI l m ≤ 0 → lexI m n ≤ 0 → lexI l n ≤ 0
  | [], _, _, _, _, _, _ => by simp [lexI]
  | _ :: _, [], _, h, _, _, _ => by simp at h
  | _ :: _, _ :: _, [], _, h, _, _ => by simp at h
  | a :: l, b :: m, c :: n, h1, h2, h3, h4 => by
    simp only [lexI] at h3 h4 ⊢
    split at h3
    · split at h4
      · rw [if_pos (by omega)]; omega
      · split at h4
        · omega
        · rw [if_pos (by omega)]; omega
    · split at h3
      · omega
      · split at h4
        · rw [if_pos (by omega)]; omega
        · split at h4
          · omega
          · rw [if_neg (by omega), if_neg (by omega)]
            exact lexI_trans (by simpa using h1) (by simpa using h2) h3 h4
theorem comp_lex : ∀ (l m : List Int), l.length = m.length → nth (chainL (compT l m) [0]) 0 = lexI l m
  | [], [], _ => rfl
  | [], _ :: _, h => by simp at h
  | _ :: _, [], h => by simp at h
  | a :: l, b :: m, h => by
    have ih := comp_lex l m (by simpa using h)
    simp only [compT, lexI]
    have hc : cmpR a b = if a < b then -1 else if a > b then 1 else 0 := by
      unfold cmpR cmpT
      by_cases h1 : a < b
      · simp [chainL, h1, nth]
      · by_cases h2 : a > b
        · simp [chainL, h1, h2, nth]
        · simp [chainL, h1, h2, nth]
    rw [hc]
    by_cases h1 : a < b
    · simp [h1, chainL, nth]
    · by_cases h2 : a > b
      · simp [h1, h2, chainL, nth]
      · simp only [h1, h2, if_false, bne_self_eq_false, chainL]; exact ih
theorem dcomp_lex : ∀ (l m : List Int), l.length = m.length → nth (chainL (dcompT l m) [0]) 0 = lexI l m
  | [], [], _ => rfl
  | [], _ :: _, h => by simp at h
  | _ :: _, [], h => by simp at h
  | a :: l, b :: m, h => by
    have ih := dcomp_lex l m (by simpa using h)
    simp only [dcompT, lexI]
    by_cases h1 : a < b
    · simp [h1, chainL, nth]
    · by_cases h2 : a > b
      · simp [h1, h2, chainL, nth]
      · simp only [h1, h2, decide_false, if_false, chainL]; exact ih
theorem lexI_append : ∀ (l m l' m' : List Int), l.length = m.length → lexI (l ++ l') (m ++ m') = if lexI l m ≠ 0 then lexI l m else lexI l' m'
  | [], [], _, _, _ => by simp [lexI]
  | [], _ :: _, _, _, h => by simp at h
  | _ :: _, [], _, _, h => by simp at h
  | a :: l, b :: m, l', m', h => by
    simp only [List.cons_append, lexI]
    split
    · simp
    · split
      · simp
      · exact lexI_append l m l' m' (by simpa using h)
def tCmp (a b : Int) : Option Value := chainO mk1 (cmpT a b) [0]
def fCmp (a b : Int) : Value := vI (cmpR a b)
theorem tCmp_eq (a b : Int) : tCmp a b = some (fCmp a b) := by unfold tCmp fCmp; rw [chain_eq]; rfl
def tNaN (a : Int) : Option Value := some (.bool (a != a))
def fNaN (_ : Int) : Value := .bool false
theorem tNaN_eq (a : Int) : tNaN a = some (fNaN a) := by unfold tNaN fNaN; rw [bne_self_eq_false]
def tVCompare (a b : M3) : Option Value := chainO mk1 (compT a.l b.l) [0]
def fVCompare (a b : M3) : Value := vI (lexI a.l b.l)
theorem tVCompare_eq (a b : M3) : tVCompare a b = some (fVCompare a b) := by
  unfold tVCompare fVCompare
  rw [chain_eq, ← comp_lex a.l b.l rfl]; rfl
def tOCompare (a b : O3) : Option Value := match lexI a.r.l b.r.l != 0 with
  | true => some (vI (lexI a.r.l b.r.l))
  | false => chainO mk1 (compT a.t.l b.t.l) [0]
def fOCompare (a b : O3) : Value := vI (lexI a.l b.l)
theorem tOCompare_eq (a b : O3) : tOCompare a b = some (fOCompare a b) := by
  unfold tOCompare fOCompare
  have e : lexI a.l b.l = if lexI a.r.l b.r.l ≠ 0 then lexI a.r.l b.r.l else lexI a.t.l b.t.l := lexI_append a.r.l b.r.l a.t.l b.t.l rfl
  rw [e]
  by_cases h : lexI a.r.l b.r.l = 0
  · rw [h]
    simp only [bne_self_eq_false, ne_eq, not_true_eq_false, if_false]
    rw [chain_eq, ← comp_lex a.t.l b.t.l rfl]; rfl
  · rw [(bif_beq h).2, if_pos h]
theorem O3.l_inj {a b : O3} (h : a.l = b.l) : a = b := by
  obtain ⟨⟨_, _, _, _, _, _, _, _, _⟩, ⟨_, _, _⟩⟩ := a
  obtain ⟨⟨_, _, _, _, _, _, _, _, _⟩, ⟨_, _, _⟩⟩ := b
  simp [O3.l] at h
  simp [h]
end Go.Proofs.Ytneaibkfglfpaaa.Vx


namespace Go.Proofs.Ytneaibkfglfpaaa.Vx
open Go
theorem leastN_ck (a b : O3) : leastN a.ck b.ck = leastI a.ck b.ck := by
  rcases O3.ck_cases a with h | h | h <;> rcases O3.ck_cases b with k | k | k <;> rw [h, k] <;> decide
def tOMulN (a b : O3) : Option Value :=
  match leastN a.ck b.ck != 0 with
  | true => some (pOE O3.zero (leastN a.ck b.ck))
  | false => match (a.r.mulF b.r).ck != 0 with
    | true => some (pOE O3.zero (a.r.mulF b.r).ck)
    | false => some (pOE ⟨a.r.mulF b.r, a.send b.t⟩ 0)
theorem tOMulN_eq (a b : O3) : tOMulN a b = some (fOMul a b) := by
  unfold tOMulN
  rw [leastN_ck]
  exact tOMul_eq a b
def tCheckMap (o : O3) : Option Value := match o.ck != 0 with
  | true => some (vI o.ck)
  | false => some (vI 0)
theorem tCheckMap_eq (o : O3) : tCheckMap o = some (fOCheck o) := by
  unfold tCheckMap fOCheck
  by_cases h : o.ck = 0
  · rw [h]; rfl
  · rw [(bif_beq h).2]
end Go.Proofs.Ytneaibkfglfpaaa.Vx


namespace Go.Proofs.Ytneaibkfglfpaaa
open Go Vx

def Cg0 (P : Program) : Cx := CL P
theorem okg0 : CxOk (Cg0 Try.prog) := okL
/-- op.checkMatrix -/
theorem eg1 (a0 a1 a2 a3 a4 a5 a6 a7 a8 : Int) : exFun ((Cg0 Try.prog).at 92) 60 Try.f92 (pack [some 9] [a0, a1, a2, a3, a4, a5, a6, a7, a8]) = tCheckM ⟨a0, a1, a2, a3, a4, a5, a6, a7, a8⟩ := by kernel_rfl
def Fg_88 : List Int → Option Value
  | [a0, a1, a2, a3, a4, a5, a6, a7, a8] => some (fCheckM ⟨a0, a1, a2, a3, a4, a5, a6, a7, a8⟩)
  | _ => none
def Cg1 (P : Program) : Cx := (Cg0 P).add 92 [some 9] Fg_88
theorem okg1 : CxOk (Cg1 Try.prog) := Cx.add_ok okg0 (n := 60) Try.func92 (by kernel_rfl) fun l v hl h => by
  match l, hl, h with
  | [a0, a1, a2, a3, a4, a5, a6, a7, a8], _, hh => rw [eg1, tCheckM_eq]; exact hh
/-- op.check -/
theorem eg2 (a0 a1 a2 a3 a4 a5 a6 a7 a8 a9 a10 a11 : Int) : exFun ((Cg1 Try.prog).at 67) 60 Try.f67 (pack [some 12] [a0, a1, a2, a3, a4, a5, a6, a7, a8, a9, a10, a11]) = tOCheck ⟨⟨a0, a1, a2, a3, a4, a5, a6, a7, a8⟩, ⟨a9, a10, a11⟩⟩ := by kernel_rfl
def Fg_62 : List Int → Option Value
  | [a0, a1, a2, a3, a4, a5, a6, a7, a8, a9, a10, a11] => some (fOCheck ⟨⟨a0, a1, a2, a3, a4, a5, a6, a7, a8⟩, ⟨a9, a10, a11⟩⟩)
  | _ => none
def Cg2 (P : Program) : Cx := (Cg1 P).add 67 [some 12] Fg_62
theorem okg2 : CxOk (Cg2 Try.prog) := Cx.add_ok okg1 (n := 60) Try.func67 (by kernel_rfl) fun l v hl h => by
  match l, hl, h with
  | [a0, a1, a2, a3, a4, a5, a6, a7, a8, a9, a10, a11], _, hh => rw [eg2, tOCheck_eq]; exact hh
/-- op.send -/
theorem eg3 (a0 a1 a2 a3 a4 a5 a6 a7 a8 a9 a10 a11 b0 b1 b2 : Int) : exFun ((Cg2 Try.prog).at 127) 60 Try.f127 (pack [some 12, some 3] [a0, a1, a2, a3, a4, a5, a6, a7, a8, a9, a10, a11, b0, b1, b2]) = tSend ⟨⟨a0, a1, a2, a3, a4, a5, a6, a7, a8⟩, ⟨a9, a10, a11⟩⟩ ⟨b0, b1, b2⟩ := by kernel_rfl
def Fg_123 : List Int → Option Value
  | [a0, a1, a2, a3, a4, a5, a6, a7, a8, a9, a10, a11, b0, b1, b2] => some (fSend ⟨⟨a0, a1, a2, a3, a4, a5, a6, a7, a8⟩, ⟨a9, a10, a11⟩⟩ ⟨b0, b1, b2⟩)
  | _ => none
def Cg3 (P : Program) : Cx := (Cg2 P).add 127 [some 12, some 3] Fg_123
theorem okg3 : CxOk (Cg3 Try.prog) := Cx.add_ok okg2 (n := 60) Try.func127 (by kernel_rfl) fun l v hl h => by
  match l, hl, h with
  | [a0, a1, a2, a3, a4, a5, a6, a7, a8, a9, a10, a11, b0, b1, b2], _, hh => rw [eg3, tSend_eq]; exact hh
/-- op.One -/
theorem eg4 : exFun ((Cg3 Try.prog).at 51) 60 Try.f51 (pack [] []) = tOne := by kernel_rfl
def Fg_46 : List Int → Option Value
  | [] => some (fOne)
  | _ => none
def Cg4 (P : Program) : Cx := (Cg3 P).add 51 [] Fg_46
theorem okg4 : CxOk (Cg4 Try.prog) := Cx.add_ok okg3 (n := 60) Try.func51 (by kernel_rfl) fun l v hl h => by
  match l, hl, h with
  | [], _, hh => rw [eg4, tOne_eq]; exact hh
/-- op.Mul -/
theorem eg5 (a0 a1 a2 a3 a4 a5 a6 a7 a8 a9 a10 a11 b0 b1 b2 b3 b4 b5 b6 b7 b8 b9 b10 b11 : Int) : exFun ((Cg4 Try.prog).at 101) 60 Try.f101 (pack [some 12, some 12] [a0, a1, a2, a3, a4, a5, a6, a7, a8, a9, a10, a11, b0, b1, b2, b3, b4, b5, b6, b7, b8, b9, b10, b11]) = tOMulN ⟨⟨a0, a1, a2, a3, a4, a5, a6, a7, a8⟩, ⟨a9, a10, a11⟩⟩ ⟨⟨b0, b1, b2, b3, b4, b5, b6, b7, b8⟩, ⟨b9, b10, b11⟩⟩ := by kernel_rfl
def Fg_97 : List Int → Option Value
  | [a0, a1, a2, a3, a4, a5, a6, a7, a8, a9, a10, a11, b0, b1, b2, b3, b4, b5, b6, b7, b8, b9, b10, b11] => some (fOMul ⟨⟨a0, a1, a2, a3, a4, a5, a6, a7, a8⟩, ⟨a9, a10, a11⟩⟩ ⟨⟨b0, b1, b2, b3, b4, b5, b6, b7, b8⟩, ⟨b9, b10, b11⟩⟩)
  | _ => none
def Cg5 (P : Program) : Cx := (Cg4 P).add 101 [some 12, some 12] Fg_97
theorem okg5 : CxOk (Cg5 Try.prog) := Cx.add_ok okg4 (n := 60) Try.func101 (by kernel_rfl) fun l v hl h => by
  match l, hl, h with
  | [a0, a1, a2, a3, a4, a5, a6, a7, a8, a9, a10, a11, b0, b1, b2, b3, b4, b5, b6, b7, b8, b9, b10, b11], _, hh => rw [eg5, tOMulN_eq]; exact hh
/-- op.Inverse -/
theorem eg6 (a0 a1 a2 a3 a4 a5 a6 a7 a8 a9 a10 a11 : Int) : exFun ((Cg5 Try.prog).at 76) 60 Try.f76 (pack [some 12] [a0, a1, a2, a3, a4, a5, a6, a7, a8, a9, a10, a11]) = tOInverse ⟨⟨a0, a1, a2, a3, a4, a5, a6, a7, a8⟩, ⟨a9, a10, a11⟩⟩ := by kernel_rfl
def Fg_72 : List Int → Option Value
  | [a0, a1, a2, a3, a4, a5, a6, a7, a8, a9, a10, a11] => some (fOInverse ⟨⟨a0, a1, a2, a3, a4, a5, a6, a7, a8⟩, ⟨a9, a10, a11⟩⟩)
  | _ => none
def Cg6 (P : Program) : Cx := (Cg5 P).add 76 [some 12] Fg_72
theorem okg6 : CxOk (Cg6 Try.prog) := Cx.add_ok okg5 (n := 60) Try.func76 (by kernel_rfl) fun l v hl h => by
  match l, hl, h with
  | [a0, a1, a2, a3, a4, a5, a6, a7, a8, a9, a10, a11], _, hh => rw [eg6, tOInverse_eq]; exact hh
/-- group.checkMap -/
theorem eg7 (a0 a1 a2 a3 a4 a5 a6 a7 a8 a9 a10 a11 : Int) : exFun ((Cg6 Try.prog).at 48) 60 Try.f48 (pack [some 12] [a0, a1, a2, a3, a4, a5, a6, a7, a8, a9, a10, a11]) = tCheckMap ⟨⟨a0, a1, a2, a3, a4, a5, a6, a7, a8⟩, ⟨a9, a10, a11⟩⟩ := by kernel_rfl
def Fg_43 : List Int → Option Value
  | [a0, a1, a2, a3, a4, a5, a6, a7, a8, a9, a10, a11] => some (fOCheck ⟨⟨a0, a1, a2, a3, a4, a5, a6, a7, a8⟩, ⟨a9, a10, a11⟩⟩)
  | _ => none
def Cg7 (P : Program) : Cx := (Cg6 P).add 48 [some 12] Fg_43
theorem okg7 : CxOk (Cg7 Try.prog) := Cx.add_ok okg6 (n := 60) Try.func48 (by kernel_rfl) fun l v hl h => by
  match l, hl, h with
  | [a0, a1, a2, a3, a4, a5, a6, a7, a8, a9, a10, a11], _, hh => rw [eg7, tCheckMap_eq]; exact hh
/-- facetref05.One -/
theorem eg8 : exFun ((Cg7 Try.prog).at 21) 60 Try.f21 (pack [] []) = tOne := by kernel_rfl
def Fg_20 : List Int → Option Value
  | [] => some (fOne)
  | _ => none
def Cg8 (P : Program) : Cx := (Cg7 P).add 21 [] Fg_20
theorem okg8 : CxOk (Cg8 Try.prog) := Cx.add_ok okg7 (n := 60) Try.func21 (by kernel_rfl) fun l v hl h => by
  match l, hl, h with
  | [], _, hh => rw [eg8, tOne_eq]; exact hh
/-- cmp.isNaN[int] -/
theorem eg9 (a : Int) : exFun ((Cg8 Try.prog).at 95) 60 Try.f95 (pack [none] [a]) = tNaN a := by kernel_rfl
def Fg_91 : List Int → Option Value
  | [a] => some (fNaN a)
  | _ => none
def Cg9 (P : Program) : Cx := (Cg8 P).add 95 [none] Fg_91
theorem okg9 : CxOk (Cg9 Try.prog) := Cx.add_ok okg8 (n := 60) Try.func95 (by kernel_rfl) fun l v hl h => by
  match l, hl, h with
  | [a], _, hh => rw [eg9, tNaN_eq]; exact hh
/-- cmp.Compare[int] -/
theorem eg10 (a b : Int) : exFun ((Cg9 Try.prog).at 70) 60 Try.f70 (pack [none, none] [a, b]) = tCmp a b := by kernel_rfl
def Fg_66 : List Int → Option Value
  | [a, b] => some (fCmp a b)
  | _ => none
def Cg10 (P : Program) : Cx := (Cg9 P).add 70 [none, none] Fg_66
theorem okg10 : CxOk (Cg10 Try.prog) := Cx.add_ok okg9 (n := 60) Try.func70 (by kernel_rfl) fun l v hl h => by
  match l, hl, h with
  | [a, b], _, hh => rw [eg10, tCmp_eq]; exact hh
/-- vec.Compare -/
theorem eg11 (a0 a1 a2 a3 a4 a5 a6 a7 a8 b0 b1 b2 b3 b4 b5 b6 b7 b8 : Int) : exFun ((Cg10 Try.prog).at 49) 60 Try.f49 (pack [some 9, some 9] [a0, a1, a2, a3, a4, a5, a6, a7, a8, b0, b1, b2, b3, b4, b5, b6, b7, b8]) = tVCompare ⟨a0, a1, a2, a3, a4, a5, a6, a7, a8⟩ ⟨b0, b1, b2, b3, b4, b5, b6, b7, b8⟩ := by kernel_rfl
def Fg_44 : List Int → Option Value
  | [a0, a1, a2, a3, a4, a5, a6, a7, a8, b0, b1, b2, b3, b4, b5, b6, b7, b8] => some (fVCompare ⟨a0, a1, a2, a3, a4, a5, a6, a7, a8⟩ ⟨b0, b1, b2, b3, b4, b5, b6, b7, b8⟩)
  | _ => none
def Cg11 (P : Program) : Cx := (Cg10 P).add 49 [some 9, some 9] Fg_44
theorem okg11 : CxOk (Cg11 Try.prog) := Cx.add_ok okg10 (n := 60) Try.func49 (by kernel_rfl) fun l v hl h => by
  match l, hl, h with
  | [a0, a1, a2, a3, a4, a5, a6, a7, a8, b0, b1, b2, b3, b4, b5, b6, b7, b8], _, hh => rw [eg11, tVCompare_eq]; exact hh
/-- op.Compare -/
theorem eg12 (a0 a1 a2 a3 a4 a5 a6 a7 a8 a9 a10 a11 b0 b1 b2 b3 b4 b5 b6 b7 b8 b9 b10 b11 : Int) : exFun ((Cg11 Try.prog).at 17) 60 Try.f17 (pack [some 12, some 12] [a0, a1, a2, a3, a4, a5, a6, a7, a8, a9, a10, a11, b0, b1, b2, b3, b4, b5, b6, b7, b8, b9, b10, b11]) = tOCompare ⟨⟨a0, a1, a2, a3, a4, a5, a6, a7, a8⟩, ⟨a9, a10, a11⟩⟩ ⟨⟨b0, b1, b2, b3, b4, b5, b6, b7, b8⟩, ⟨b9, b10, b11⟩⟩ := by kernel_rfl
def Fg_16 : List Int → Option Value
  | [a0, a1, a2, a3, a4, a5, a6, a7, a8, a9, a10, a11, b0, b1, b2, b3, b4, b5, b6, b7, b8, b9, b10, b11] => some (fOCompare ⟨⟨a0, a1, a2, a3, a4, a5, a6, a7, a8⟩, ⟨a9, a10, a11⟩⟩ ⟨⟨b0, b1, b2, b3, b4, b5, b6, b7, b8⟩, ⟨b9, b10, b11⟩⟩)
  | _ => none
def Cg12 (P : Program) : Cx := (Cg11 P).add 17 [some 12, some 12] Fg_16
theorem okg12 : CxOk (Cg12 Try.prog) := Cx.add_ok okg11 (n := 60) Try.func17 (by kernel_rfl) fun l v hl h => by
  match l, hl, h with
  | [a0, a1, a2, a3, a4, a5, a6, a7, a8, a9, a10, a11, b0, b1, b2, b3, b4, b5, b6, b7, b8, b9, b10, b11], _, hh => rw [eg12, tOCompare_eq]; exact hh

def CCg (P : Program) : Cx := Cg12 P
theorem okCg : CxOk (CCg Try.prog) := okg12

end Go.Proofs.Ytneaibkfglfpaaa


namespace Go.Proofs.Ytneaibkfglfpaaa
open Go Vx
/-- The map at a place. -/
def atO (xs : List O3) (i : Int) : O3 := (xs[i.toNat]?).getD O3.zero
def leastL : List O3 → Int → Int
  | [], e => e
  | o :: l, e => leastL l (leastN e o.ck)
theorem drop_at {xs : List O3} {i : Int} (h0 : 0 ≤ i) (h : i < (xs.length : Int)) : xs.drop i.toNat = atO xs i :: xs.drop (i + 1).toNat := by
  have hlt : i.toNat < xs.length := by omega
  rw [show (i + 1).toNat = i.toNat + 1 by omega, List.drop_eq_getElem_cons hlt]
  unfold atO
  rw [List.getElem?_eq_getElem hlt]
  rfl

def ckmX (P : Program) : Code := (loopsOf P 41 5).headD .skip
theorem ckmX_eq : loopsOf Try.prog 41 5 = [ckmX Try.prog] := by kernel_rfl
def ckmH (own : Bool) (n : Nat) (xs : List O3) (e : Int) (i : Int) : St := stOf 22 [(3, vI e), (9, .slice (some ⟨0, 0, some 0⟩) n 12), (10, vI n), (11, vI i)] [.rows own true 12 n (opRow xs)]
theorem ckmR (own : Bool) (n : Nat) (xs : List O3) (e : Int) (i : Int) : roundR ((CCg Try.prog).into 41 1) 40 (ckmX Try.prog) [3, 9, 10, 11] [3] [.fix 0] [.fix 0] (ckmH own n xs e i) =
    match decide (i < (n : Int)) with
    | true => match boundsI i n with
      | true => some (.normal, ckmH own n xs (leastN e (atO xs i).ck) (W (i + 1)))
      | false => none
    | false => some (.exit 0, stOf 22 [(3, vI e)] [.rows own true 12 n (opRow xs)]) := by kernel_rfl
structure ckmG where
  (own : Bool) (n : Nat) (xs : List O3) (e : Int) (i : Int)
def ckmO (own : Bool) (n : Nat) (xs : List O3) (e : Int) (i : Int) : Exit × St :=
  (.exit 0, stOf 22 [(3, vI (leastL (xs.drop i.toNat) e))] [.rows own true 12 n (opRow xs)])
theorem ckmL (own : Bool) (n : Nat) (xs : List O3) (e : Int) (i : Int) (hg : 0 ≤ i ∧ (n : Int) ≤ 4611686018427387904 ∧ xs.length = n) : LoopSem Try.prog 1 (ckmX Try.prog) (ckmH own n xs e i) (ckmO own n xs e i).1 (ckmO own n xs e i).2 := by
  refine loop_rule (C := CCg Try.prog) okCg (f := 41) (B := 1) (loopsOf_in (k := 5) ckmX_eq) 40 [3, 9, 10, 11] [3] [.fix 0] [.fix 0] (fun g : ckmG => ckmH g.own g.n g.xs g.e g.i) (fun g => (g.n - g.i).toNat) (fun g => 0 ≤ g.i ∧ (g.n : Int) ≤ 4611686018427387904 ∧ g.xs.length = g.n) (fun g => ckmO g.own g.n g.xs g.e g.i) ?_ ⟨own, n, xs, e, i⟩ hg
  clear hg
  rintro ⟨own, n, xs, e, i⟩ hg
  simp only at hg
  simp only [ckmR]
  obtain ⟨h0, h1, h2⟩ := hg
  by_cases hi : i < (n : Int)
  · have hd : decide (i < (n : Int)) = true := by simpa using hi
    have hb : boundsI i n = true := by simp [boundsI, h0, hi]
    rw [hd, hb]
    left
    have hw : W (i + 1) = i + 1 := W_in (by omega)
    refine ⟨⟨own, n, xs, leastN e (atO xs i).ck, i + 1⟩, by rw [hw], ⟨by simp only; omega, h1, h2⟩, by simp only; omega, ?_⟩
    unfold ckmO
    simp only
    rw [drop_at h0 (by omega)]
    rfl
  · have hd : decide (i < (n : Int)) = false := by simpa using hi
    rw [hd]
    right
    have hn : xs.drop i.toNat = [] := List.drop_eq_nil_of_le (by omega)
    unfold ckmO
    simp only [hn]
    exact ⟨rfl, by simp⟩
def ckmS (st : St) : Option (Ans (Exit × St)) :=
  match sized st 22 1, tAt st 3, tAt st 9, tAt st 10, tAt st 11, st.mem with
  | true, some (.int .i64 e), some (.slice (some ⟨0, 0, some 0⟩) n 12), some (.int .i64 ln), some (.int .i64 i), [.rows own true 12 n2 row] => some (.br (Nat.beq n n2 && (okOps n row && (decide ((n : Int) = ln) && (decide (0 ≤ i) && (decide ((n : Int) ≤ 4611686018427387904)))))) (.out (.exit 0, stOf 22 [(3, vI (leastL ((opsOf n row).drop i.toNat) e))] [.rows own true 12 n (opRow (opsOf n row))])) .fail)
  | _, _, _, _, _, _ => none
theorem ckmK {st : St} {ans : Ans (Exit × St)} {e_ : Exit} {s_ : St} (h : ckmS st = some ans) (hr : ans.res = some (e_, s_)) : LoopSem Try.prog 1 (ckmX Try.prog) st e_ s_ := by
  unfold ckmS at h
  split at h
  · rename_i e n ln i own n2 row hb hs0 hs1 hs2 hs3 hm
    simp only [Option.some.injEq] at h
    subst h
    rcases Ans.br_some hr with ⟨hc, hr1⟩ | ⟨_, hr1⟩
    · clear hr
      simp only [Bool.and_eq_true] at hc
      obtain ⟨ht0, ht1, ht2, ht3, ht4⟩ := hc
      have ht0 := beq_len ht0
      subst ht0
      have ht2 : (n : Int) = ln := by simpa using ht2
      subst ht2
      have hinv : 0 ≤ i ∧ (n : Int) ≤ 4611686018427387904 ∧ (opsOf n row).length = n := by
        exact ⟨by simpa using ht3, by simpa using ht4, opsOf_length n row⟩
      have hk := stOf_keep hb [(3, vI e), (9, .slice (some ⟨0, 0, some 0⟩) n 12), (10, vI n), (11, vI i)] (by
        intro x hx
        simp only [List.mem_cons, List.not_mem_nil, or_false] at hx
        rcases hx with rfl | rfl | rfl | rfl
        · exact hs0
        · exact hs1
        · exact hs2
        · exact hs3) hm
      have key := ckmL own n (opsOf n row) e i hinv
      unfold ckmH at key
      have key := LoopSem.like (m := [.rows own true 12 n row]) key ⟨.rows (ops_like ht1), trivial⟩
      have key : LoopSem Try.prog 1 (ckmX Try.prog) (stOf 22 [(3, vI e), (9, .slice (some ⟨0, 0, some 0⟩) n 12), (10, vI n), (11, vI i)] [.rows own true 12 n row]) _ _ := key
      rw [← hk] at key
      have key := LoopSem.clean key
      unfold ckmO at key
      simp only [Ans.res, Option.some.injEq, Prod.mk.injEq] at hr1
      obtain ⟨rfl, rfl⟩ := hr1
      exact key
    · simp [Ans.res] at hr1
  · cases h
end Go.Proofs.Ytneaibkfglfpaaa


namespace Go.Proofs.Ytneaibkfglfpaaa
open Go Vx
theorem opsOf_row {xs : List O3} {n : Nat} (h : xs.length = n) : opsOf n (opRow xs) = xs := by subst h; exact opsOf_opRow xs
def Ckm (P : Program) : Cx := (CCg P).addLB 41 5 1 ckmS
theorem okm : CxOk (Ckm Try.prog) := Cx.addLB_ok okCg ckmX_eq fun _ _ _ _ h hr => ckmK h hr
def ckMaps (xs : List O3) : Int := if (xs.length : Int) > 192 then 2 else leastL xs 0

/-- group.checkMaps -/
theorem ckmsE0 : (exFunA ((Ckm Try.prog).at 41) 60 Try.f41 [.slice none 0 0] []).res = some (vI 0, []) := by kernel_rfl
theorem ckmsE1 (own : Bool) (n : Nat) (xs : List O3) : (exFunA ((Ckm Try.prog).at 41) 60 Try.f41 [.slice (some ⟨0, 0, some 0⟩) n 12] [.rows own true 12 n (opRow xs)]).res = (match decide ((n : Int) > 192) with
    | true => some (vI 2, [.rows own true 12 n (opRow xs)])
    | false => gd (Nat.beq n n && (okOps n (opRow xs) && (decide ((n : Int) = (n : Int)) && (decide ((0 : Int) ≤ 0) && decide ((n : Int) ≤ 4611686018427387904))))) (some (vI (leastL ((opsOf n (opRow xs)).drop (0 : Int).toNat) 0), [.rows own true 12 n (opRow (opsOf n (opRow xs)))]))) := by kernel_rfl
theorem ckmsE (own : Bool) (n : Nat) (xs : List O3) (hx : xs.length = n) : (exFunA ((Ckm Try.prog).at 41) 60 Try.f41 [.slice (some ⟨0, 0, some 0⟩) n 12] [.rows own true 12 n (opRow xs)]).res = some (vI (ckMaps xs), [.rows own true 12 n (opRow xs)]) := by
  rw [ckmsE1]
  unfold ckMaps
  by_cases h : (n : Int) > 192
  · rw [decide_eq_true h, if_pos (by omega)]
  · have hb : decide ((n : Int) ≤ 4611686018427387904) = true := by simp; omega
    rw [decide_eq_false h, if_neg (by omega), opsOf_row hx, hb]
    simp [okOps_opRow, gd]
def ckmsF : List Value → Mem → Option (Ans (Value × Mem))
  | [.slice none 0 0], [] => some (.out (vI 0, []))
  | [.slice (some ⟨0, 0, some 0⟩) n 12], [.rows own true 12 n2 row] => some (.br (Nat.beq n n2 && okOps n row) (.out (vI (ckMaps (opsOf n row)), [.rows own true 12 n (opRow (opsOf n row))])) .fail)
  | _, _ => none
def Cckm (P : Program) : Cx := (Ckm P).addF 41 ckmsF
theorem okckm : CxOk (Cckm Try.prog) := Cx.addF_ok okm fun args m ans v m' h hr => by
  unfold ckmsF at h
  split at h
  · simp only [Option.some.injEq] at h
    subst h
    simp only [Ans.res, Option.some.injEq, Prod.mk.injEq] at hr
    obtain ⟨rfl, rfl⟩ := hr
    exact exFunA_ok (n := 60) okm Try.func41 (by kernel_rfl) ckmsE0
  · rename_i n own n2 row
    simp only [Option.some.injEq] at h
    subst h
    rcases Ans.br_some hr with ⟨hc, hr1⟩ | ⟨_, hr1⟩
    · clear hr
      simp only [Bool.and_eq_true] at hc
      obtain ⟨h0, h1⟩ := hc
      have h0 := beq_len h0
      subst h0
      simp only [Ans.res, Option.some.injEq, Prod.mk.injEq] at hr1
      obtain ⟨rfl, rfl⟩ := hr1
      exact (exFunA_ok (n := 60) okm Try.func41 (by kernel_rfl) (ckmsE own n (opsOf n row) (opsOf_length n row))).like ⟨.rows (ops_like h1), trivial⟩
    · simp [Ans.res] at hr1
  · cases h
end Go.Proofs.Ytneaibkfglfpaaa


namespace Go.Proofs.Ytneaibkfglfpaaa
open Go Vx
/-- The numbers of a map. -/
def key (o : O3) : List Int := [o.r.a, o.r.b, o.r.c, o.r.d, o.r.e, o.r.f, o.r.g, o.r.h, o.r.i, o.t.x, o.t.y, o.t.z]
theorem key_inj {a b : O3} (h : key a = key b) : a = b := by
  cases a with | mk r t => cases b with | mk r' t' => cases r; cases t; cases r'; cases t'; simp [key] at h; simp [h]
theorem key_of : ∀ {xs : List Int}, xs.length = 12 → ∃ o, xs = key o
  | [a, b, c, d, e, f, g, h, i, x, y, z], _ => ⟨⟨⟨a, b, c, d, e, f, g, h, i⟩, ⟨x, y, z⟩⟩, rfl⟩
theorem eqOp (a b : O3) : eqCells Try.prog 9 34 a.cells b.cells = some (a.eqB b) := by kernel_rfl
theorem chkOp (a : O3) (b : Bool) (w : World) : (Instr.checkKey b 10000 34 (.agg a.cells.toArray)).run Try.prog w = .ok () w := by kernel_rfl
theorem keyOk : KeyOk Try.prog 34 12 := by
  refine ⟨fun xs ys hx hy w => ?_, fun xs hx b w => ?_, Option.isSome_iff_exists.1 (by kernel_rfl)⟩
  · obtain ⟨a, rfl⟩ := key_of hx
    obtain ⟨b, rfl⟩ := key_of hy
    have := equal_run (P := Try.prog) (t := 34) (xs := a.cells.toArray) (ys := b.cells.toArray) (by kernel_rfl) (eqOp a b) w
    have e : decide (key b = key a) = a.eqB b := by
      rw [Bool.eq_iff_iff, decide_eq_true_eq, O3.eqB_iff]
      exact ⟨fun h => (key_inj h).symm, fun h => by rw [h]⟩
    rw [e]
    exact this
  · obtain ⟨a, rfl⟩ := key_of hx
    exact chkOp a b w
def Ck (P : Program) : Cx := (Cckm P).addK 34 12
theorem okk : CxOk (Ck Try.prog) := Cx.addK_ok okckm keyOk
end Go.Proofs.Ytneaibkfglfpaaa


namespace Go.Proofs.Ytneaibkfglfpaaa
open Go Vx
def strucB (a n k : Nat) : Blk := .cells true 0 [.slice (some ⟨a, 0, some 0⟩) n 12, .map (some 2), .slice (some ⟨3, 0, some 0⟩) k 12]
def tcX (P : Program) : Code := (loopsOf P 78 10).headD .skip
theorem tcX_eq : loopsOf Try.prog 78 10 = [tcX Try.prog] := by kernel_rfl
/-- Ahead of the first round. -/
def tcE (n : Nat) (xs : List O3) (es : List (List Int × Int)) (mm bb : O3) (k : Nat) (ms : List O3) (f : O3) (p : Nat) (i : Int) : St := stOf 66 [(0, .pointer (some ⟨0, 0, none⟩)), (9, .pointer (some ⟨6, 0, none⟩)), (48, .slice (some ⟨1, 0, some 0⟩) p 12), (49, vI p), (50, vI i)] [strucB 1 n k, .rows true true 12 n (opRow xs), .mp true 12 es, .rows true true 12 k (opRow ms), .cells true 0 mm.cells, .cells true 0 bb.cells, .cells true 0 f.cells, .cells true 0 []]
/-- Behind a round. -/
def tcB (n0 : Nat) (xs0 : List O3) (n : Nat) (row : Nat → List Value) (es : List (List Int × Int)) (k : Nat) (ms : List O3) (f : O3) (p : Nat) (i : Int) : St := stOf 66 [(0, .pointer (some ⟨0, 0, none⟩)), (9, .pointer (some ⟨4, 0, none⟩)), (48, .slice (some ⟨1, 0, some 0⟩) p 12), (49, vI p), (50, vI i)] [strucB 5 n k, .view true 12 n0 (opRow xs0), .mp true 12 es, .rows true true 12 k (opRow ms), .cells true 0 f.cells, .grow true 12 n row]
def tcM0 (n : Nat) (xs : List O3) (es : List (List Int × Int)) (k : Nat) (ms : List O3) : Mem := [strucB 1 n k, .rows true true 12 n (opRow xs), .mp true 12 es, .rows true true 12 k (opRow ms), .no]
def tcM1 (n : Nat) (xs : List O3) (es : List (List Int × Int)) (k : Nat) (ms : List O3) : Mem := [strucB 4 n k, .gone, .mp true 12 es, .rows true true 12 k (opRow ms), .rows true true 12 n (opRow xs)]
def fits (n : Nat) : Bool := Nat.beq n n && (decide ((n + 1) * 96 ≤ 2 ^ 47) && decide (n + 1 ≤ 2 ^ 62))
theorem tcRE (n : Nat) (xs : List O3) (es : List (List Int × Int)) (mm bb : O3) (k : Nat) (ms : List O3) (f : O3) (p : Nat) (i : Int) : roundR ((Ck Try.prog).into 78 4) 40 (tcX Try.prog) [0, 9, 48, 49, 50] [8] [.fix 0, .fix 1, .fix 2, .fix 3, .slot 9, .cellN 0 0 4] [.fix 0, .fix 1, .fix 2, .fix 3, .cellN 0 0 4] (tcE n xs es mm bb k ms f p i) =
    (match decide (i < (p : Int)) with
    | true => match boundsI i p with
      | true => match f.mulE (atO xs i) != 0 with
        | true => some (.ret, stOf 66 [(8, .bool false)] (tcM0 n xs es k ms))
        | false => match fits n with
          | true => some (.normal, tcB n xs (n + 1) (catR n (opRow xs) (chop 12 0 (f.mulF (atO xs i)).cells)) (mPut (key (f.mulF (atO xs i))) 0 es) k ms f p (W (i + 1)))
          | false => none
      | false => none
    | false => some (.exit 0, stOf 66 [] (tcM0 n xs es k ms))) := by kernel_rfl
theorem tcRB (n0 : Nat) (xs0 : List O3) (n : Nat) (xs : List O3) (es : List (List Int × Int)) (k : Nat) (ms : List O3) (f : O3) (p : Nat) (i : Int) : roundR ((Ck Try.prog).into 78 4) 40 (tcX Try.prog) [0, 9, 48, 49, 50] [8] [.fix 0, .fix 1, .fix 2, .fix 3, .slot 9, .cellN 0 0 4] [.fix 0, .fix 1, .fix 2, .fix 3, .cellN 0 0 4] (tcB n0 xs0 n (opRow xs) es k ms f p i) =
    (match decide (i < (p : Int)) with
    | true => match boundsI i p with
      | true => match f.mulE (atO xs0 i) != 0 with
        | true => some (.ret, stOf 66 [(8, .bool false)] (tcM1 n xs es k ms))
        | false => match fits n with
          | true => some (.normal, tcB n0 xs0 (n + 1) (catR n (opRow xs) (chop 12 0 (f.mulF (atO xs0 i)).cells)) (mPut (key (f.mulF (atO xs0 i))) 0 es) k ms f p (W (i + 1)))
          | false => none
      | false => none
    | false => some (.exit 0, stOf 66 [] (tcM1 n xs es k ms))) := by kernel_rfl
end Go.Proofs.Ytneaibkfglfpaaa


namespace Go.Proofs.Ytneaibkfglfpaaa
open Go Vx
abbrev ES := List (List Int × Int)
/-- Each map of a list, then f: appended to the maps, until one is too great. -/
def cosL (f : O3) : List O3 → List O3 → ES → Bool × List O3 × ES
  | [], xs, es => (true, xs, es)
  | a :: l, xs, es => match f.mulE a != 0 with
    | true => (false, xs, es)
    | false => cosL f l (xs ++ [f.mulF a]) (mPut (key (f.mulF a)) 0 es)
structure tcG where
  (b : Bool) (n0 : Nat) (xs0 : List O3) (n : Nat) (xs : List O3) (es : ES) (mm bb : O3) (k : Nat) (ms : List O3) (f : O3) (p : Nat) (i : Int)
def tcH (g : tcG) : St := match g.b with
  | false => tcE g.n g.xs g.es g.mm g.bb g.k g.ms g.f g.p g.i
  | true => tcB g.n0 g.xs0 g.n (opRow g.xs) g.es g.k g.ms g.f g.p g.i
def tcInv (g : tcG) : Prop := g.xs0.length = g.n0 ∧ g.xs.length = g.n ∧ 1 ≤ g.p ∧ g.p ≤ g.n0 ∧ 0 ≤ g.i ∧ g.i ≤ (g.p : Int) ∧ (g.n : Int) + (g.p - g.i) ≤ 192 ∧ (g.b = false → g.i = 0 ∧ g.n = g.n0 ∧ g.xs = g.xs0) ∧ (g.b = true → g.n0 < g.n) ∧ g.n0 ≤ g.n
def tcRes (g : tcG) : Bool × List O3 × ES := cosL g.f ((g.xs0.take g.p).drop g.i.toNat) g.xs g.es
def tcMem (n0 : Nat) (xs0 : List O3) (r : Bool × List O3 × ES) (k : Nat) (ms : List O3) : Mem := match Nat.blt n0 r.2.1.length with
  | true => tcM1 r.2.1.length r.2.1 r.2.2 k ms
  | false => tcM0 n0 xs0 r.2.2 k ms
def tcO (g : tcG) : Exit × St := match (tcRes g).1 with
  | true => (.exit 0, stOf 66 [] (tcMem g.n0 g.xs0 (tcRes g) g.k g.ms))
  | false => (.ret, stOf 66 [(8, .bool false)] (tcMem g.n0 g.xs0 (tcRes g) g.k g.ms))
theorem take_at {xs : List O3} {p : Nat} {i : Int} (h0 : 0 ≤ i) (h : i < (p : Int)) (hp : p ≤ xs.length) : (xs.take p).drop i.toNat = atO xs i :: (xs.take p).drop (i + 1).toNat := by
  have hl : (xs.take p).length = p := by simp; omega
  rw [drop_at h0 (by omega)]
  congr 1
  unfold atO
  rw [List.getElem?_take, if_pos (by omega)]
theorem fits_ok {n : Nat} (h : n ≤ 1000) : fits n = true := by
  unfold fits
  rw [Nat.beq_refl]
  simp; omega
theorem tcL (g : tcG) (hg : tcInv g) : LoopSem Try.prog 4 (tcX Try.prog) (tcH g) (tcO g).1 (tcO g).2 := by
  refine loop_rule2 (C := Ck Try.prog) okk (f := 78) (B := 4) (loopsOf_in (k := 10) tcX_eq) 40 [0, 9, 48, 49, 50] [8] [.fix 0, .fix 1, .fix 2, .fix 3, .slot 9, .cellN 0 0 4] [.fix 0, .fix 1, .fix 2, .fix 3, .cellN 0 0 4] tcH (fun g => (g.p - g.i).toNat) tcInv tcO ?_ g hg
  clear hg g
  rintro ⟨b, n0, xs0, n, xs, es, mm, bb, k, ms, f, p, i⟩ hg
  unfold tcInv at hg
  simp only at hg
  obtain ⟨h1, h2, h3, h4, h5, h6, h7, h8, h9, h10⟩ := hg
  by_cases hi : i < (p : Int)
  · have hd : decide (i < (p : Int)) = true := by simpa using hi
    have hb : boundsI i p = true := by simp [boundsI, h5, hi]
    have hw : W (i + 1) = i + 1 := W_in (by omega)
    have hf : fits n = true := fits_ok (by omega)
    have htk := take_at (xs := xs0) h5 hi (by omega)
    cases he : f.mulE (atO xs0 i) != 0 with
    | true =>
      right
      have hres : tcRes ⟨b, n0, xs0, n, xs, es, mm, bb, k, ms, f, p, i⟩ = (false, xs, es) := by unfold tcRes; simp only [htk, cosL, he]
      cases b with
      | false =>
        obtain ⟨rfl, rfl, rfl⟩ := h8 rfl
        refine ⟨stOf 66 [(8, .bool false)] (tcM0 n xs es k ms), ?_, ?_, ?_⟩
        · unfold tcH
          simp only [tcRE, hd, hb, he]
          unfold tcO
          simp only [hres]
        · unfold tcO tcMem
          simp only [hres, h2, blt_ff (Nat.lt_irrefl n)]
          exact StLike.refl _
        · unfold tcO; simp [hres]
      | true =>
        have hlt := h9 rfl
        refine ⟨stOf 66 [(8, .bool false)] (tcM1 n xs es k ms), ?_, ?_, ?_⟩
        · unfold tcH
          simp only [tcRB, hd, hb, he]
          unfold tcO
          simp only [hres]
        · unfold tcO tcMem
          simp only [hres, h2, show Nat.blt n0 n = true by simpa [Nat.blt_eq] using hlt]
          exact StLike.refl _
        · unfold tcO; simp [hres]
    | false =>
      left
      refine ⟨⟨true, n0, xs0, n + 1, xs ++ [f.mulF (atO xs0 i)], mPut (key (f.mulF (atO xs0 i))) 0 es, mm, bb, k, ms, f, p, i + 1⟩, tcB n0 xs0 (n + 1) (catR n (opRow xs) (chop 12 0 (f.mulF (atO xs0 i)).cells)) (mPut (key (f.mulF (atO xs0 i))) 0 es) k ms f p (i + 1), ?_, ?_, ?_, ?_, ?_⟩
      · cases b with
        | false =>
          obtain ⟨rfl, rfl, rfl⟩ := h8 rfl
          unfold tcH
          simp only [tcRE, hd, hb, he, hf, hw]
        | true =>
          unfold tcH
          simp only [tcRB, hd, hb, he, hf, hw]
      · exact ⟨rfl, .refl _, .refl _, .refl _, .refl _, .refl _, like_ng h2 _, trivial⟩
      · unfold tcInv
        simp only
        refine ⟨h1, by simp [h2], h3, h4, by omega, by omega, by omega, (fun h => by cases h), fun _ => ?_, by omega⟩
        cases b with
        | false => obtain ⟨_, e, _⟩ := h8 rfl; omega
        | true => have := h9 rfl; omega
      · simp only; omega
      · have hres : tcRes ⟨b, n0, xs0, n, xs, es, mm, bb, k, ms, f, p, i⟩ = tcRes ⟨true, n0, xs0, n + 1, xs ++ [f.mulF (atO xs0 i)], mPut (key (f.mulF (atO xs0 i))) 0 es, mm, bb, k, ms, f, p, i + 1⟩ := by unfold tcRes; simp only [htk, cosL, he]
        unfold tcO
        simp only [hres, tcMem]
  · have hd : decide (i < (p : Int)) = false := by simpa using hi
    have hip : i = (p : Int) := by omega
    right
    have hn : (xs0.take p).drop i.toNat = [] := List.drop_eq_nil_of_le (by simp; omega)
    have hres : tcRes ⟨b, n0, xs0, n, xs, es, mm, bb, k, ms, f, p, i⟩ = (true, xs, es) := by unfold tcRes; simp only [hn, cosL]
    cases b with
    | false =>
      obtain ⟨e, _, _⟩ := h8 rfl
      omega
    | true =>
      have hlt := h9 rfl
      refine ⟨stOf 66 [] (tcM1 n xs es k ms), ?_, ?_, ?_⟩
      · unfold tcH
        simp only [tcRB, hd]
        unfold tcO
        simp only [hres]
      · unfold tcO tcMem
        simp only [hres, h2, show Nat.blt n0 n = true by simpa [Nat.blt_eq] using hlt]
        exact StLike.refl _
      · unfold tcO; simp [hres]
end Go.Proofs.Ytneaibkfglfpaaa


namespace Go.Proofs.Ytneaibkfglfpaaa
open Go Vx
def tcTest (n n2 k k2 p : Nat) (row row2 : Nat → List Value) (lp i : Int) : Bool := Nat.beq n n2 && (okOps n row && (Nat.beq k k2 && (okOps k row2 && (decide ((p : Int) = lp) && (decide (i = 0) && (Nat.ble 1 p && (Nat.ble p n && decide (n + p ≤ 192))))))))
def tcS (st : St) : Option (Ans (Exit × St)) :=
  match sized st 66 8, tAt st 0, tAt st 9, tAt st 48, tAt st 49, tAt st 50, st.mem with
  | true, some (.pointer (some ⟨0, 0, none⟩)), some (.pointer (some ⟨6, 0, none⟩)), some (.slice (some ⟨1, 0, some 0⟩) p 12), some (.int .i64 lp), some (.int .i64 i), [.cells true 0 cs, .rows true true 12 n2 row, .mp true 12 es, .rows true true 12 k2 row2, .cells true 0 cm, .cells true 0 cb, .cells true 0 cf, .cells true 0 []] =>
    match cs, opCells cm, opCells cb, opCells cf with
    | [.slice (some ⟨1, 0, some 0⟩) n 12, .map (some 2), .slice (some ⟨3, 0, some 0⟩) k 12], some _, some _, some f => some (.br (tcTest n n2 k k2 p row row2 lp i) (.br (cosL f ((opsOf n row).take p) (opsOf n row) es).1 (.br (Nat.blt n (cosL f ((opsOf n row).take p) (opsOf n row) es).2.1.length) (.out (.exit 0, stOf 66 [] (tcM1 (cosL f ((opsOf n row).take p) (opsOf n row) es).2.1.length (cosL f ((opsOf n row).take p) (opsOf n row) es).2.1 (cosL f ((opsOf n row).take p) (opsOf n row) es).2.2 k (opsOf k row2)))) (.out (.exit 0, stOf 66 [] (tcM0 n (opsOf n row) (cosL f ((opsOf n row).take p) (opsOf n row) es).2.2 k (opsOf k row2))))) (.br (Nat.blt n (cosL f ((opsOf n row).take p) (opsOf n row) es).2.1.length) (.out (.ret, stOf 66 [(8, .bool false)] (tcM1 (cosL f ((opsOf n row).take p) (opsOf n row) es).2.1.length (cosL f ((opsOf n row).take p) (opsOf n row) es).2.1 (cosL f ((opsOf n row).take p) (opsOf n row) es).2.2 k (opsOf k row2)))) (.out (.ret, stOf 66 [(8, .bool false)] (tcM0 n (opsOf n row) (cosL f ((opsOf n row).take p) (opsOf n row) es).2.2 k (opsOf k row2)))))) .fail)
    | _, _, _, _ => none
  | _, _, _, _, _, _, _ => none
theorem tcK {st : St} {ans : Ans (Exit × St)} {e_ : Exit} {s_ : St} (h : tcS st = some ans) (hr : ans.res = some (e_, s_)) : LoopSem Try.prog 4 (tcX Try.prog) st e_ s_ := by
  unfold tcS at h
  split at h
  · rename_i p lp i cs n2 row es k2 row2 cm cb cf hb hs0 hs1 hs2 hs3 hs4 hm
    split at h
    rotate_left
    · cases h
    rename_i n k m b f hm0 hm1 hm2
    rw [opCells_spec hm0, opCells_spec hm1, opCells_spec hm2] at hm
    simp only [Option.some.injEq] at h
    subst h
    rcases Ans.br_some hr with ⟨hc, hr1⟩ | ⟨_, hr1⟩
    · clear hr
      unfold tcTest at hc
      simp only [Bool.and_eq_true, decide_eq_true_eq] at hc
      obtain ⟨c1, c2, c3, c4, c5, c6, c7, c8, c9⟩ := hc
      have c1 := beq_len c1
      subst c1
      have c3 := beq_len c3
      subst c3
      subst c5
      subst c6
      have c7 := Nat.le_of_ble_eq_true c7
      have c8 := Nat.le_of_ble_eq_true c8
      have hk := stOf_keep hb [(0, .pointer (some ⟨0, 0, none⟩)), (9, .pointer (some ⟨6, 0, none⟩)), (48, .slice (some ⟨1, 0, some 0⟩) p 12), (49, vI p), (50, vI 0)] (by
        intro x hx
        simp only [List.mem_cons, List.not_mem_nil, or_false] at hx
        rcases hx with rfl | rfl | rfl | rfl | rfl
        · exact hs0
        · exact hs1
        · exact hs2
        · exact hs3
        · exact hs4) hm
      have key := tcL ⟨false, n, opsOf n row, n, opsOf n row, es, m, b, k, opsOf k row2, f, p, 0⟩ (by
        unfold tcInv
        simp only
        exact ⟨opsOf_length n row, opsOf_length n row, c7, c8, by omega, by omega, by omega, fun _ => ⟨trivial, trivial, trivial⟩, (fun h => by cases h), Nat.le_refl _⟩)
      have key := LoopSem.like (tm := (tcE n (opsOf n row) es m b k (opsOf k row2) f p 0).tmps) (m := st.mem) (m2 := (tcE n (opsOf n row) es m b k (opsOf k row2) f p 0).mem) key (by
        rw [hm]
        exact ⟨.refl _, .rows (ops_like c2), .refl _, .rows (ops_like c4), .refl _, .refl _, .refl _, .refl _, trivial⟩)
      have e0 : (⟨(tcE n (opsOf n row) es m b k (opsOf k row2) f p 0).tmps, st.mem⟩ : St) = ⟨keepL [0, 9, 48, 49, 50] 0 st.tmps, st.mem⟩ := by
        have := congrArg St.tmps hk
        rw [show keepL [0, 9, 48, 49, 50] 0 st.tmps = (tcE n (opsOf n row) es m b k (opsOf k row2) f p 0).tmps from this]
      rw [e0] at key
      have key := LoopSem.clean key
      have hres : tcRes ⟨false, n, opsOf n row, n, opsOf n row, es, m, b, k, opsOf k row2, f, p, 0⟩ = (cosL f ((opsOf n row).take p) (opsOf n row) es) := rfl
      unfold tcO tcMem at key
      simp only [hres] at key
      rcases Ans.br_some hr1 with ⟨hq, hr2⟩ | ⟨hq, hr2⟩
      · simp only [hq] at key
        rcases Ans.br_some hr2 with ⟨hq2, hr3⟩ | ⟨hq2, hr3⟩
        · simp only [hq2] at key
          simp only [Ans.res, Option.some.injEq, Prod.mk.injEq] at hr3
          obtain ⟨rfl, rfl⟩ := hr3
          exact key
        · simp only [hq2] at key
          simp only [Ans.res, Option.some.injEq, Prod.mk.injEq] at hr3
          obtain ⟨rfl, rfl⟩ := hr3
          exact key
      · simp only [hq] at key
        rcases Ans.br_some hr2 with ⟨hq2, hr3⟩ | ⟨hq2, hr3⟩
        · simp only [hq2] at key
          simp only [Ans.res, Option.some.injEq, Prod.mk.injEq] at hr3
          obtain ⟨rfl, rfl⟩ := hr3
          exact key
        · simp only [hq2] at key
          simp only [Ans.res, Option.some.injEq, Prod.mk.injEq] at hr3
          obtain ⟨rfl, rfl⟩ := hr3
          exact key
    · simp [Ans.res] at hr1
  · cases h
def Ctc (P : Program) : Cx := (Ck P).addLB 78 10 4 tcS
theorem oktc : CxOk (Ctc Try.prog) := Cx.addLB_ok okk tcX_eq fun _ _ _ _ h hr => tcK h hr
def spanM (n : Nat) (xs : List O3) (es : ES) (k : Nat) (ms : List O3) : Mem := [strucB 1 n k, .rows true true 12 n (opRow xs), .mp true 12 es, .rows true true 12 k (opRow ms)]
def cosR (n k : Nat) (xs ms : List O3) (es : ES) (f : O3) (p : Nat) : Option (Value × Mem) := gd (tcTest n n k k p (opRow xs) (opRow ms) p 0)
  (match (cosL f ((opsOf n (opRow xs)).take p) (opsOf n (opRow xs)) es).1 with
  | true => match Nat.blt n (cosL f ((opsOf n (opRow xs)).take p) (opsOf n (opRow xs)) es).2.1.length with
    | true => some (.bool true, tcM1 (cosL f ((opsOf n (opRow xs)).take p) (opsOf n (opRow xs)) es).2.1.length (cosL f ((opsOf n (opRow xs)).take p) (opsOf n (opRow xs)) es).2.1 (cosL f ((opsOf n (opRow xs)).take p) (opsOf n (opRow xs)) es).2.2 k (opsOf k (opRow ms)))
    | false => some (.bool true, tcM0 n (opsOf n (opRow xs)) (cosL f ((opsOf n (opRow xs)).take p) (opsOf n (opRow xs)) es).2.2 k (opsOf k (opRow ms)))
  | false => match Nat.blt n (cosL f ((opsOf n (opRow xs)).take p) (opsOf n (opRow xs)) es).2.1.length with
    | true => some (.bool false, tcM1 (cosL f ((opsOf n (opRow xs)).take p) (opsOf n (opRow xs)) es).2.1.length (cosL f ((opsOf n (opRow xs)).take p) (opsOf n (opRow xs)) es).2.1 (cosL f ((opsOf n (opRow xs)).take p) (opsOf n (opRow xs)) es).2.2 k (opsOf k (opRow ms)))
    | false => some (.bool false, tcM0 n (opsOf n (opRow xs)) (cosL f ((opsOf n (opRow xs)).take p) (opsOf n (opRow xs)) es).2.2 k (opsOf k (opRow ms))))
theorem tcF1 (m b : O3) (q : Int) (n : Nat) (xs : List O3) (es : ES) (k : Nat) (ms : List O3) : exT ((Ctc Try.prog).at 78) 60 Try.f78 [.pointer (some ⟨0, 0, none⟩), m.v, b.v, vI q] (spanM n xs es k ms) [.fix 0, .fix 1, .fix 2, .fix 3, .cellN 0 0 4] =
    (match m.mulE b != 0 with
    | true => some (.bool false, tcM0 n xs es k ms)
    | false => match mHas (key (m.mulF b)) es with
      | true => some (.bool true, tcM0 n xs es k ms)
      | false => match decide (W ((n : Int) + q) > 192) with
        | true => some (.bool false, tcM0 n xs es k ms)
        | false => match leI q n with
          | true => cosR n k xs ms es (m.mulF b) q.toNat
          | false => none) := by kernel_rfl
end Go.Proofs.Ytneaibkfglfpaaa


namespace Go.Proofs.Ytneaibkfglfpaaa
open Go Vx
theorem cosL_true (f : O3) : ∀ (l xs : List O3) (es : ES), (cosL f l xs es).1 = true → (cosL f l xs es).2.1.length = xs.length + l.length
  | [], xs, es, _ => rfl
  | a :: l, xs, es, h => by
    simp only [cosL] at h ⊢
    cases he : f.mulE a != 0 with
    | true => rw [he] at h; cases h
    | false =>
      rw [he] at h
      rw [cosL_true f l _ _ h]
      simp; omega
/-- What is told of a call, put together. -/
theorem tcSem (m b : O3) (q : Int) (n : Nat) (xs : List O3) (es : ES) (k : Nat) (ms : List O3) (hx : xs.length = n) (hm : ms.length = k) (h0 : 0 < q) (h1 : q ≤ (n : Int)) (h2 : n ≤ 192) {v : Value} {m' : Mem}
    (h : Ans.res (.br (m.mulE b != 0) (.out (.bool false, goneAll 4)) (.br (mHas (key (m.mulF b)) es) (.out (.bool true, tcM0 n (xs) es k (ms))) (.br (decide ((n : Int) + q > 192)) (.out (.bool false, goneAll 4)) (.br (cosL (m.mulF b) ((xs).take q.toNat) (xs) es).1 (.out (.bool true, tcM1 (cosL (m.mulF b) ((xs).take q.toNat) (xs) es).2.1.length (cosL (m.mulF b) ((xs).take q.toNat) (xs) es).2.1 (cosL (m.mulF b) ((xs).take q.toNat) (xs) es).2.2 k (ms))) (.out (.bool false, goneAll 4)))))) = some (v, m')) : MemSem Try.prog 78 [.pointer (some ⟨0, 0, none⟩), m.v, b.v, vI q] (spanM n xs es k ms) v m' := by
  have hE := tcF1 m b q n xs es k ms
  have sem : ∀ {v : Value} {m' : Mem}, exT ((Ctc Try.prog).at 78) 60 Try.f78 [.pointer (some ⟨0, 0, none⟩), m.v, b.v, vI q] (spanM n xs es k ms) [.fix 0, .fix 1, .fix 2, .fix 3, .cellN 0 0 4] = some (v, m') → MemSem Try.prog 78 [.pointer (some ⟨0, 0, none⟩), m.v, b.v, vI q] (spanM n xs es k ms) v m' := fun hh => exT_ok oktc Try.func78 (by kernel_rfl) hh
  have hlen : (spanM n xs es k ms).length = 4 := rfl
  rcases Ans.br_some h with ⟨hq, h⟩ | ⟨hq, h⟩
  · rw [hq] at hE
    simp only [Ans.res, Option.some.injEq, Prod.mk.injEq] at h
    obtain ⟨rfl, rfl⟩ := h
    exact (sem hE).forget rfl
  · rw [hq] at hE
    rcases Ans.br_some h with ⟨hq, h⟩ | ⟨hq, h⟩
    · simp only [hq] at hE
      simp only [Ans.res, Option.some.injEq, Prod.mk.injEq] at h
      obtain ⟨rfl, rfl⟩ := h
      exact sem hE
    · simp only [hq] at hE
      have hw : W ((n : Int) + q) = (n : Int) + q := W_in (by omega)
      rw [hw] at hE
      rcases Ans.br_some h with ⟨hq, h⟩ | ⟨hq, h⟩
      · simp only [hq] at hE
        simp only [Ans.res, Option.some.injEq, Prod.mk.injEq] at h
        obtain ⟨rfl, rfl⟩ := h
        exact (sem hE).forget rfl
      · simp only [hq] at hE
        have hq' : ¬ ((n : Int) + q > 192) := by simpa using hq
        have hle : leI q n = true := by simp [leI]; omega
        rw [hle] at hE
        unfold cosR tcTest at hE
        rw [opsOf_row hx, opsOf_row hm, okOps_opRow, okOps_opRow, Nat.beq_refl, Nat.beq_refl, show Nat.ble 1 q.toNat = true by rw [Nat.ble_eq]; omega, show Nat.ble q.toNat n = true by rw [Nat.ble_eq]; omega, show decide (n + q.toNat ≤ 192) = true by simp; omega] at hE
        simp only [decide_true, Bool.and_self, gd] at hE
        rcases Ans.br_some h with ⟨hq2, h⟩ | ⟨hq2, h⟩
        · have hl := cosL_true _ _ _ _ hq2
          have hbl : Nat.blt n (cosL (m.mulF b) (xs.take q.toNat) xs es).2.1.length = true := by
            rw [hl, Nat.blt_eq]; simp; omega
          simp only [hq2, hbl] at hE
          simp only [Ans.res, Option.some.injEq, Prod.mk.injEq] at h
          obtain ⟨rfl, rfl⟩ := h
          exact sem hE
        · simp only [hq2] at hE
          simp only [Ans.res, Option.some.injEq, Prod.mk.injEq] at h
          obtain ⟨rfl, rfl⟩ := h
          split at hE
          · exact (sem hE).forget rfl
          · exact (sem hE).forget rfl
def tcT (n n2 k k2 : Nat) (row row2 : Nat → List Value) (q : Int) : Bool := Nat.beq n n2 && (okOps n row && (Nat.beq k k2 && (okOps k row2 && (decide (0 < q) && (decide (q ≤ (n : Int)) && decide (n ≤ 192))))))
def tcFn : List Value → Mem → Option (Ans (Value × Mem))
  | [.pointer (some ⟨0, 0, none⟩), .agg cm, .agg cb, .int .i64 q], [.cells true 0 cs, .rows true true 12 n2 row, .mp true 12 es, .rows true true 12 k2 row2] => match cs, opCells cm.toList, opCells cb.toList with
    | [.slice (some ⟨1, 0, some 0⟩) n 12, .map (some 2), .slice (some ⟨3, 0, some 0⟩) k 12], some m, some b => some (.br (tcT n n2 k k2 row row2 q) (.br (m.mulE b != 0) (.out (.bool false, goneAll 4)) (.br (mHas (key (m.mulF b)) es) (.out (.bool true, tcM0 n (opsOf n row) es k (opsOf k row2))) (.br (decide ((n : Int) + q > 192)) (.out (.bool false, goneAll 4)) (.br (cosL (m.mulF b) ((opsOf n row).take q.toNat) (opsOf n row) es).1 (.out (.bool true, tcM1 (cosL (m.mulF b) ((opsOf n row).take q.toNat) (opsOf n row) es).2.1.length (cosL (m.mulF b) ((opsOf n row).take q.toNat) (opsOf n row) es).2.1 (cosL (m.mulF b) ((opsOf n row).take q.toNat) (opsOf n row) es).2.2 k (opsOf k row2))) (.out (.bool false, goneAll 4)))))) .fail)
    | _, _, _ => none
  | _, _ => none
def Ctd (P : Program) : Cx := (Ctc P).addF 78 tcFn
theorem oktd : CxOk (Ctd Try.prog) := Cx.addF_ok oktc fun args mm ans v m' h hr => by
  unfold tcFn at h
  split at h
  · rename_i cm cb q cs n2 row es k2 row2
    split at h
    · rename_i n k m b hc1 hc2
      simp only [Option.some.injEq] at h
      subst h
      rcases Ans.br_some hr with ⟨hc, hr1⟩ | ⟨_, hr1⟩
      · clear hr
        unfold tcT at hc
        simp only [Bool.and_eq_true, decide_eq_true_eq] at hc
        obtain ⟨c1, c2, c3, c4, c5, c6, c7⟩ := hc
        have c1 := beq_len c1
        subst c1
        have c3 := beq_len c3
        subst c3
        have e1 : cm = m.cells.toArray := by rw [← opCells_spec hc1]
        have e2 : cb = b.cells.toArray := by rw [← opCells_spec hc2]
        subst e1
        subst e2
        exact (tcSem m b q n (opsOf n row) es k (opsOf k row2) (opsOf_length n row) (opsOf_length k row2) c5 c6 c7 hr1).like ⟨.refl _, .rows (ops_like c2), .refl _, .rows (ops_like c4), trivial⟩
      · simp [Ans.res] at hr1
    · cases h
  · cases h
end Go.Proofs.Ytneaibkfglfpaaa


namespace Go.Proofs.Ytneaibkfglfpaaa
open Go Vx
def tkX (P : Program) : Code := (loopsOf P 43 10).headD .skip
theorem tkX_eq : loopsOf Try.prog 43 10 = [tkX Try.prog] := by kernel_rfl

def tkNE (o : O3) (n : Nat) (xs : List O3) (es : ES) (k : Nat) (ms : List O3) : Mem := [.cells true 0 [.slice (some ⟨1, 0, some 0⟩) n 12, .map (some 2), .slice (some ⟨6, 0, some 0⟩) k 12], .rows true true 12 n (opRow xs), .mp true 12 es, .cells true 0 o.cells, .cells true 0 [], .rows true true 12 1 (chop 12 0 o.cells), .rows true true 12 k (opRow ms)]
def tkNA (o : O3) (n : Nat) (xs : List O3) (es : ES) (k : Nat) (ms : List O3) : Mem := [.cells true 0 [.slice (some ⟨1, 0, some 0⟩) n 12, .map (some 2), .slice (some ⟨6, 0, some 0⟩) k 12], .rows true true 12 n (opRow xs), .mp true 12 es, .cells true 0 o.cells, .cells true 0 [], .rows true true 12 1 (chop 12 0 o.cells), .rows true true 12 k (opRow ms), .no]
def tkNB (o : O3) (n : Nat) (xs : List O3) (es : ES) (k : Nat) (ms : List O3) : Mem := [.cells true 0 [.slice (some ⟨7, 0, some 0⟩) n 12, .map (some 2), .slice (some ⟨6, 0, some 0⟩) k 12], .gone, .mp true 12 es, .cells true 0 o.cells, .cells true 0 [], .rows true true 12 1 (chop 12 0 o.cells), .rows true true 12 k (opRow ms), .rows true true 12 n (opRow xs)]
def tkNX (o : O3) : Mem := [.gone, .gone, .gone, .cells true 0 o.cells, .cells true 0 [], .rows true true 12 1 (chop 12 0 o.cells), .no, .no]
def tkNH (m : Mem) (k : Nat) (q f i : Int) : St := stOf 68 [(0, .pointer (some ⟨0, 0, none⟩)), (4, .bool false), (7, vI q), (8, vI f), (49, .slice (some ⟨6, 0, some 0⟩) k 12), (50, vI k), (51, vI i)] m
theorem tkNRE (o : O3) (n : Nat) (xs : List O3) (es : ES) (k : Nat) (ms : List O3) (q f i : Int) : roundR ((Ctd Try.prog).into 43 3) 40 (tkX Try.prog) [0, 4, 7, 8, 49, 50, 51] [0, 4, 7, 8] [.fix 0, .fix 1, .fix 2, .fix 3, .fix 4, .fix 5, .cell 0 2, .cellN 0 0 3] [.fix 0, .fix 1, .fix 2, .fix 3, .fix 4, .fix 5, .cell 0 2, .cellN 0 0 3] (tkNH (tkNE o n xs es k ms) k q f i) =
    (match decide (i < (k : Int)) with
    | true => match boundsI i k with
      | true => match boundsI f n with
        | true => match tcT n n k k (opRow xs) (opRow ms) q with
          | true => match (atO ms i).mulE (atO xs f) != 0 with
            | true => some (.ret, stOf 68 [(0, .pointer (some ⟨0, 0, none⟩)), (4, .bool false), (7, vI q), (8, vI f)] (tkNX o))
            | false => match mHas (key ((atO ms i).mulF (atO xs f))) es with
              | true => some (.normal, tkNH (tkNA o n (opsOf n (opRow xs)) es k (opsOf k (opRow ms))) k q f (W (i + 1)))
              | false => match decide ((n : Int) + q > 192) with
                | true => some (.ret, stOf 68 [(0, .pointer (some ⟨0, 0, none⟩)), (4, .bool false), (7, vI q), (8, vI f)] (tkNX o))
                | false => match (cosL ((atO ms i).mulF (atO xs f)) ((opsOf n (opRow xs)).take q.toNat) (opsOf n (opRow xs)) es).1 with
                  | true => some (.normal, tkNH (tkNB o (cosL ((atO ms i).mulF (atO xs f)) ((opsOf n (opRow xs)).take q.toNat) (opsOf n (opRow xs)) es).2.1.length (cosL ((atO ms i).mulF (atO xs f)) ((opsOf n (opRow xs)).take q.toNat) (opsOf n (opRow xs)) es).2.1 (cosL ((atO ms i).mulF (atO xs f)) ((opsOf n (opRow xs)).take q.toNat) (opsOf n (opRow xs)) es).2.2 k (opsOf k (opRow ms))) k q f (W (i + 1)))
                  | false => some (.ret, stOf 68 [(0, .pointer (some ⟨0, 0, none⟩)), (4, .bool false), (7, vI q), (8, vI f)] (tkNX o))
          | false => none
        | false => none
      | false => none
    | false => some (.exit 2, stOf 68 [(0, .pointer (some ⟨0, 0, none⟩)), (4, .bool false), (7, vI q), (8, vI f)] (tkNA o n xs es k ms))) := by kernel_rfl
theorem tkNRA (o : O3) (n : Nat) (xs : List O3) (es : ES) (k : Nat) (ms : List O3) (q f i : Int) : roundR ((Ctd Try.prog).into 43 3) 40 (tkX Try.prog) [0, 4, 7, 8, 49, 50, 51] [0, 4, 7, 8] [.fix 0, .fix 1, .fix 2, .fix 3, .fix 4, .fix 5, .cell 0 2, .cellN 0 0 3] [.fix 0, .fix 1, .fix 2, .fix 3, .fix 4, .fix 5, .cell 0 2, .cellN 0 0 3] (tkNH (tkNA o n xs es k ms) k q f i) =
    (match decide (i < (k : Int)) with
    | true => match boundsI i k with
      | true => match boundsI f n with
        | true => match tcT n n k k (opRow xs) (opRow ms) q with
          | true => match (atO ms i).mulE (atO xs f) != 0 with
            | true => some (.ret, stOf 68 [(0, .pointer (some ⟨0, 0, none⟩)), (4, .bool false), (7, vI q), (8, vI f)] (tkNX o))
            | false => match mHas (key ((atO ms i).mulF (atO xs f))) es with
              | true => some (.normal, tkNH (tkNA o n (opsOf n (opRow xs)) es k (opsOf k (opRow ms))) k q f (W (i + 1)))
              | false => match decide ((n : Int) + q > 192) with
                | true => some (.ret, stOf 68 [(0, .pointer (some ⟨0, 0, none⟩)), (4, .bool false), (7, vI q), (8, vI f)] (tkNX o))
                | false => match (cosL ((atO ms i).mulF (atO xs f)) ((opsOf n (opRow xs)).take q.toNat) (opsOf n (opRow xs)) es).1 with
                  | true => some (.normal, tkNH (tkNB o (cosL ((atO ms i).mulF (atO xs f)) ((opsOf n (opRow xs)).take q.toNat) (opsOf n (opRow xs)) es).2.1.length (cosL ((atO ms i).mulF (atO xs f)) ((opsOf n (opRow xs)).take q.toNat) (opsOf n (opRow xs)) es).2.1 (cosL ((atO ms i).mulF (atO xs f)) ((opsOf n (opRow xs)).take q.toNat) (opsOf n (opRow xs)) es).2.2 k (opsOf k (opRow ms))) k q f (W (i + 1)))
                  | false => some (.ret, stOf 68 [(0, .pointer (some ⟨0, 0, none⟩)), (4, .bool false), (7, vI q), (8, vI f)] (tkNX o))
          | false => none
        | false => none
      | false => none
    | false => some (.exit 2, stOf 68 [(0, .pointer (some ⟨0, 0, none⟩)), (4, .bool false), (7, vI q), (8, vI f)] (tkNA o n xs es k ms))) := by kernel_rfl
theorem tkNRB (o : O3) (n : Nat) (xs : List O3) (es : ES) (k : Nat) (ms : List O3) (q f i : Int) : roundR ((Ctd Try.prog).into 43 3) 40 (tkX Try.prog) [0, 4, 7, 8, 49, 50, 51] [0, 4, 7, 8] [.fix 0, .fix 1, .fix 2, .fix 3, .fix 4, .fix 5, .cell 0 2, .cellN 0 0 3] [.fix 0, .fix 1, .fix 2, .fix 3, .fix 4, .fix 5, .cell 0 2, .cellN 0 0 3] (tkNH (tkNB o n xs es k ms) k q f i) =
    (match decide (i < (k : Int)) with
    | true => match boundsI i k with
      | true => match boundsI f n with
        | true => match tcT n n k k (opRow xs) (opRow ms) q with
          | true => match (atO ms i).mulE (atO xs f) != 0 with
            | true => some (.ret, stOf 68 [(0, .pointer (some ⟨0, 0, none⟩)), (4, .bool false), (7, vI q), (8, vI f)] (tkNX o))
            | false => match mHas (key ((atO ms i).mulF (atO xs f))) es with
              | true => some (.normal, tkNH (tkNB o n (opsOf n (opRow xs)) es k (opsOf k (opRow ms))) k q f (W (i + 1)))
              | false => match decide ((n : Int) + q > 192) with
                | true => some (.ret, stOf 68 [(0, .pointer (some ⟨0, 0, none⟩)), (4, .bool false), (7, vI q), (8, vI f)] (tkNX o))
                | false => match (cosL ((atO ms i).mulF (atO xs f)) ((opsOf n (opRow xs)).take q.toNat) (opsOf n (opRow xs)) es).1 with
                  | true => some (.normal, tkNH (tkNB o (cosL ((atO ms i).mulF (atO xs f)) ((opsOf n (opRow xs)).take q.toNat) (opsOf n (opRow xs)) es).2.1.length (cosL ((atO ms i).mulF (atO xs f)) ((opsOf n (opRow xs)).take q.toNat) (opsOf n (opRow xs)) es).2.1 (cosL ((atO ms i).mulF (atO xs f)) ((opsOf n (opRow xs)).take q.toNat) (opsOf n (opRow xs)) es).2.2 k (opsOf k (opRow ms))) k q f (W (i + 1)))
                  | false => some (.ret, stOf 68 [(0, .pointer (some ⟨0, 0, none⟩)), (4, .bool false), (7, vI q), (8, vI f)] (tkNX o))
          | false => none
        | false => none
      | false => none
    | false => some (.exit 2, stOf 68 [(0, .pointer (some ⟨0, 0, none⟩)), (4, .bool false), (7, vI q), (8, vI f)] (tkNB o n xs es k ms))) := by kernel_rfl


def tkME (o : O3) (n : Nat) (xs : List O3) (es : ES) (k : Nat) (ms : List O3) : Mem := [.cells true 0 [.slice (some ⟨1, 0, some 0⟩) n 12, .map (some 2), .slice (some ⟨7, 0, some 0⟩) k 12], .rows true true 12 n (opRow xs), .mp true 12 es, .gone, .cells true 0 o.cells, .cells true 0 [], .rows true true 12 1 (chop 12 0 o.cells), .rows true true 12 k (opRow ms)]
def tkMA (o : O3) (n : Nat) (xs : List O3) (es : ES) (k : Nat) (ms : List O3) : Mem := [.cells true 0 [.slice (some ⟨1, 0, some 0⟩) n 12, .map (some 2), .slice (some ⟨7, 0, some 0⟩) k 12], .rows true true 12 n (opRow xs), .mp true 12 es, .gone, .cells true 0 o.cells, .cells true 0 [], .rows true true 12 1 (chop 12 0 o.cells), .rows true true 12 k (opRow ms), .no]
def tkMB (o : O3) (n : Nat) (xs : List O3) (es : ES) (k : Nat) (ms : List O3) : Mem := [.cells true 0 [.slice (some ⟨8, 0, some 0⟩) n 12, .map (some 2), .slice (some ⟨7, 0, some 0⟩) k 12], .gone, .mp true 12 es, .gone, .cells true 0 o.cells, .cells true 0 [], .rows true true 12 1 (chop 12 0 o.cells), .rows true true 12 k (opRow ms), .rows true true 12 n (opRow xs)]
def tkMX (o : O3) : Mem := [.gone, .gone, .gone, .gone, .cells true 0 o.cells, .cells true 0 [], .rows true true 12 1 (chop 12 0 o.cells), .no, .no]
def tkMH (m : Mem) (k : Nat) (q f i : Int) : St := stOf 68 [(0, .pointer (some ⟨0, 0, none⟩)), (4, .bool false), (7, vI q), (8, vI f), (49, .slice (some ⟨7, 0, some 0⟩) k 12), (50, vI k), (51, vI i)] m
theorem tkMRE (o : O3) (n : Nat) (xs : List O3) (es : ES) (k : Nat) (ms : List O3) (q f i : Int) : roundR ((Ctd Try.prog).into 43 4) 40 (tkX Try.prog) [0, 4, 7, 8, 49, 50, 51] [0, 4, 7, 8] [.fix 0, .fix 1, .fix 2, .fix 3, .fix 4, .fix 5, .fix 6, .cell 0 2, .cellN 0 0 4] [.fix 0, .fix 1, .fix 2, .fix 3, .fix 4, .fix 5, .fix 6, .cell 0 2, .cellN 0 0 4] (tkMH (tkME o n xs es k ms) k q f i) =
    (match decide (i < (k : Int)) with
    | true => match boundsI i k with
      | true => match boundsI f n with
        | true => match tcT n n k k (opRow xs) (opRow ms) q with
          | true => match (atO ms i).mulE (atO xs f) != 0 with
            | true => some (.ret, stOf 68 [(0, .pointer (some ⟨0, 0, none⟩)), (4, .bool false), (7, vI q), (8, vI f)] (tkMX o))
            | false => match mHas (key ((atO ms i).mulF (atO xs f))) es with
              | true => some (.normal, tkMH (tkMA o n (opsOf n (opRow xs)) es k (opsOf k (opRow ms))) k q f (W (i + 1)))
              | false => match decide ((n : Int) + q > 192) with
                | true => some (.ret, stOf 68 [(0, .pointer (some ⟨0, 0, none⟩)), (4, .bool false), (7, vI q), (8, vI f)] (tkMX o))
                | false => match (cosL ((atO ms i).mulF (atO xs f)) ((opsOf n (opRow xs)).take q.toNat) (opsOf n (opRow xs)) es).1 with
                  | true => some (.normal, tkMH (tkMB o (cosL ((atO ms i).mulF (atO xs f)) ((opsOf n (opRow xs)).take q.toNat) (opsOf n (opRow xs)) es).2.1.length (cosL ((atO ms i).mulF (atO xs f)) ((opsOf n (opRow xs)).take q.toNat) (opsOf n (opRow xs)) es).2.1 (cosL ((atO ms i).mulF (atO xs f)) ((opsOf n (opRow xs)).take q.toNat) (opsOf n (opRow xs)) es).2.2 k (opsOf k (opRow ms))) k q f (W (i + 1)))
                  | false => some (.ret, stOf 68 [(0, .pointer (some ⟨0, 0, none⟩)), (4, .bool false), (7, vI q), (8, vI f)] (tkMX o))
          | false => none
        | false => none
      | false => none
    | false => some (.exit 2, stOf 68 [(0, .pointer (some ⟨0, 0, none⟩)), (4, .bool false), (7, vI q), (8, vI f)] (tkMA o n xs es k ms))) := by kernel_rfl
theorem tkMRA (o : O3) (n : Nat) (xs : List O3) (es : ES) (k : Nat) (ms : List O3) (q f i : Int) : roundR ((Ctd Try.prog).into 43 4) 40 (tkX Try.prog) [0, 4, 7, 8, 49, 50, 51] [0, 4, 7, 8] [.fix 0, .fix 1, .fix 2, .fix 3, .fix 4, .fix 5, .fix 6, .cell 0 2, .cellN 0 0 4] [.fix 0, .fix 1, .fix 2, .fix 3, .fix 4, .fix 5, .fix 6, .cell 0 2, .cellN 0 0 4] (tkMH (tkMA o n xs es k ms) k q f i) =
    (match decide (i < (k : Int)) with
    | true => match boundsI i k with
      | true => match boundsI f n with
        | true => match tcT n n k k (opRow xs) (opRow ms) q with
          | true => match (atO ms i).mulE (atO xs f) != 0 with
            | true => some (.ret, stOf 68 [(0, .pointer (some ⟨0, 0, none⟩)), (4, .bool false), (7, vI q), (8, vI f)] (tkMX o))
            | false => match mHas (key ((atO ms i).mulF (atO xs f))) es with
              | true => some (.normal, tkMH (tkMA o n (opsOf n (opRow xs)) es k (opsOf k (opRow ms))) k q f (W (i + 1)))
              | false => match decide ((n : Int) + q > 192) with
                | true => some (.ret, stOf 68 [(0, .pointer (some ⟨0, 0, none⟩)), (4, .bool false), (7, vI q), (8, vI f)] (tkMX o))
                | false => match (cosL ((atO ms i).mulF (atO xs f)) ((opsOf n (opRow xs)).take q.toNat) (opsOf n (opRow xs)) es).1 with
                  | true => some (.normal, tkMH (tkMB o (cosL ((atO ms i).mulF (atO xs f)) ((opsOf n (opRow xs)).take q.toNat) (opsOf n (opRow xs)) es).2.1.length (cosL ((atO ms i).mulF (atO xs f)) ((opsOf n (opRow xs)).take q.toNat) (opsOf n (opRow xs)) es).2.1 (cosL ((atO ms i).mulF (atO xs f)) ((opsOf n (opRow xs)).take q.toNat) (opsOf n (opRow xs)) es).2.2 k (opsOf k (opRow ms))) k q f (W (i + 1)))
                  | false => some (.ret, stOf 68 [(0, .pointer (some ⟨0, 0, none⟩)), (4, .bool false), (7, vI q), (8, vI f)] (tkMX o))
          | false => none
        | false => none
      | false => none
    | false => some (.exit 2, stOf 68 [(0, .pointer (some ⟨0, 0, none⟩)), (4, .bool false), (7, vI q), (8, vI f)] (tkMA o n xs es k ms))) := by kernel_rfl
theorem tkMRB (o : O3) (n : Nat) (xs : List O3) (es : ES) (k : Nat) (ms : List O3) (q f i : Int) : roundR ((Ctd Try.prog).into 43 4) 40 (tkX Try.prog) [0, 4, 7, 8, 49, 50, 51] [0, 4, 7, 8] [.fix 0, .fix 1, .fix 2, .fix 3, .fix 4, .fix 5, .fix 6, .cell 0 2, .cellN 0 0 4] [.fix 0, .fix 1, .fix 2, .fix 3, .fix 4, .fix 5, .fix 6, .cell 0 2, .cellN 0 0 4] (tkMH (tkMB o n xs es k ms) k q f i) =
    (match decide (i < (k : Int)) with
    | true => match boundsI i k with
      | true => match boundsI f n with
        | true => match tcT n n k k (opRow xs) (opRow ms) q with
          | true => match (atO ms i).mulE (atO xs f) != 0 with
            | true => some (.ret, stOf 68 [(0, .pointer (some ⟨0, 0, none⟩)), (4, .bool false), (7, vI q), (8, vI f)] (tkMX o))
            | false => match mHas (key ((atO ms i).mulF (atO xs f))) es with
              | true => some (.normal, tkMH (tkMB o n (opsOf n (opRow xs)) es k (opsOf k (opRow ms))) k q f (W (i + 1)))
              | false => match decide ((n : Int) + q > 192) with
                | true => some (.ret, stOf 68 [(0, .pointer (some ⟨0, 0, none⟩)), (4, .bool false), (7, vI q), (8, vI f)] (tkMX o))
                | false => match (cosL ((atO ms i).mulF (atO xs f)) ((opsOf n (opRow xs)).take q.toNat) (opsOf n (opRow xs)) es).1 with
                  | true => some (.normal, tkMH (tkMB o (cosL ((atO ms i).mulF (atO xs f)) ((opsOf n (opRow xs)).take q.toNat) (opsOf n (opRow xs)) es).2.1.length (cosL ((atO ms i).mulF (atO xs f)) ((opsOf n (opRow xs)).take q.toNat) (opsOf n (opRow xs)) es).2.1 (cosL ((atO ms i).mulF (atO xs f)) ((opsOf n (opRow xs)).take q.toNat) (opsOf n (opRow xs)) es).2.2 k (opsOf k (opRow ms))) k q f (W (i + 1)))
                  | false => some (.ret, stOf 68 [(0, .pointer (some ⟨0, 0, none⟩)), (4, .bool false), (7, vI q), (8, vI f)] (tkMX o))
          | false => none
        | false => none
      | false => none
    | false => some (.exit 2, stOf 68 [(0, .pointer (some ⟨0, 0, none⟩)), (4, .bool false), (7, vI q), (8, vI f)] (tkMB o n xs es k ms))) := by kernel_rfl

end Go.Proofs.Ytneaibkfglfpaaa
