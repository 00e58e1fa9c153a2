/-
  slices.Compact of indices: its pieces, run. Nothing here is trusted.
-/
import Derived.Test.YtjpfnfckpgilgaaHTSoV
import Derived.Test.YtjpfnfckpgilgaaKak
namespace Go.Proofs.Ytjpfnfckpgilgaa
open Go Vx
def stV (Y : List V3) (q : V3) (i : Int) : Nat → List Value := fun k => match Nat.beq k i.toNat with
  | true => setMany (vcRow Y i.toNat) 0 q.cells
  | false => vcRow Y k
/-- So many indices from one on, set one by one. -/
def fillF (f : Nat → V3) : Nat → Nat → List V3 → List V3
  | 0, _, Y => Y
  | c + 1, i, Y => fillF f c (i + 1) (Y.set i (f i))
theorem fillF_len (f : Nat → V3) : ∀ (c i : Nat) (Y : List V3), (fillF f c i Y).length = Y.length
  | 0, _, _ => rfl
  | c + 1, i, Y => by simp only [fillF]; rw [fillF_len f c]; simp
theorem fillF_get (f : Nat → V3) : ∀ (c i : Nat) (Y : List V3) (q : Nat), (fillF f c i Y)[q]? = if i ≤ q ∧ q < i + c ∧ q < Y.length then some (f q) else Y[q]?
  | 0, i, Y, q => by
    rw [if_neg (by omega)]
    rfl
  | c + 1, i, Y, q => by
    simp only [fillF]
    rw [fillF_get f c (i + 1) (Y.set i (f i)) q]
    simp only [List.length_set]
    by_cases h : q = i
    · subst h
      rw [if_neg (by omega)]
      by_cases hl : q < Y.length
      · rw [List.getElem?_set_self hl, if_pos (by omega)]
      · rw [List.getElem?_eq_none (by simp; omega), if_neg (by omega), List.getElem?_eq_none (by omega)]
    · rw [List.getElem?_set_ne (fun e => h e.symm)]
      by_cases h2 : i + 1 ≤ q ∧ q < i + 1 + c ∧ q < Y.length
      · rw [if_pos h2, if_pos (by omega)]
      · rw [if_neg h2, if_neg (by omega)]
theorem stV_like (Y : List V3) (o : V3) {i : Nat} (hi : i < Y.length) (l : Nat) (hl : l = Y.length) : rowsLike l (stV Y o (i : Int)) (vcRow (Y.set i o)) := fun q hq => by
  have hm : ∀ a b : V3, setMany a.cells 0 b.cells = b.cells := fun _ _ => rfl
  unfold stV
  rw [Int.toNat_natCast, vcRow_get hi, hm, vcRow_get (by simp; omega : q < (Y.set i o).length)]
  cases hb : Nat.beq q i with
  | true =>
    have := Nat.eq_of_beq_eq_true hb
    subst this
    simp
  | false =>
    have hne : i ≠ q := fun e => by subst e; simp at hb
    simp [List.getElem_set_ne hne, vcRow_get (by omega : q < Y.length)]
def atV (Y : List V3) (i : Nat) : V3 := (Y[i]?).getD V3.zero
def cpB (P : Program) : Code := bodyOf P 110
theorem cpB_eq : Try.f110.body = some (cpB Try.prog) := by kernel_rfl
def R4 (n : Nat) (r : Nat → List Value) : Blk := .rows true true 3 n r
/-- Ahead of the outer loop, and in it. -/
def cp0 (n : Nat) (Y : List V3) : St := stOf 61 [(0, .slice (some ⟨0, 0, some 0⟩) n 3), (2, .slice none 0 0)] [.rows true true 3 n (vcRow Y)]
def cp1 (n : Nat) (Y : List V3) (k : Int) : St := stOf 61 [(0, .slice (some ⟨0, 0, some 0⟩) n 3), (2, .slice none 0 0), (3, vI k)] [.rows true true 3 n (vcRow Y)]
theorem cpE1 (n : Nat) (Y : List V3) : segR ((CChk Try.prog).into 110 1) 40 1 (cpB Try.prog) [0, 2] [.fix 0] (enter Try.f110 [.slice (some ⟨0, 0, some 0⟩) n 3] [.rows true true 3 n (vcRow Y)]) = some (cp0 n Y) := by kernel_rfl
theorem cpE2 (n : Nat) (Y : List V3) : roundR ((CChk Try.prog).into 110 1) 40 (stmt 1 (cpB Try.prog)) [0, 2] [0, 2] [.fix 0] [.fix 0] (cp0 n Y) =
    (match decide ((n : Int) < 2) with
    | true => some (.ret, stOf 61 [(0, .slice (some ⟨0, 0, some 0⟩) n 3), (2, .slice (some ⟨0, 0, some 0⟩) n 3)] [.rows true true 3 n (vcRow Y)])
    | false => some (.normal, cp0 n Y)) := by kernel_rfl
def cpO (P : Program) : Code := forBody (stmt 2 (cpB P))
theorem cpFor : isFor 0 (stmt 2 (cpB Try.prog)) = true := by kernel_rfl
theorem cpHead (n : Nat) (Y : List V3) : roundR ((CChk Try.prog).into 110 1) 40 (forHead (stmt 2 (cpB Try.prog))) [0, 2, 3] [0, 2, 3] [.fix 0] [.fix 0] (cp0 n Y) = some (.normal, cp1 n Y 1) := by kernel_rfl
theorem cpA (n : Nat) (Y : List V3) (k : Int) : roundR ((CChk Try.prog).into 110 1) 40 (cL (cpO Try.prog)) [0, 2, 3] [0, 2, 3] [.fix 0] [.fix 0] (cp1 n Y k) =
    (match decide (k < (n : Int)) with
    | true => some (.normal, cp1 n Y k)
    | false => some (.exit 0, cp1 n Y k)) := by kernel_rfl
/-- The inner part: the test of two neighbours, and what comes behind it. -/
def cpI (P : Program) : Code := cL (cL (cR (cpO P)))
def cp2 (n : Nat) (Y : List V3) (k : Int) (b : Bool) : St := stOf 61 [(0, .slice (some ⟨0, 0, some 0⟩) n 3), (2, .slice none 0 0), (3, vI k), (25, .bool b)] [.rows true true 3 n (vcRow Y)]
theorem cpT (n : Nat) (Y : List V3) (k : Nat) : roundR ((CChk Try.prog).into 110 1) 40 (cL (cpI Try.prog)) [0, 2, 3, 25] [0, 2, 3, 25] [.fix 0] [.fix 0] (cp1 n Y k) =
    gd (boundsI k n) (gd (boundsI (W ((k : Int) - 1)) n) (some (.normal, cp2 n Y k ((atV Y k).eqB (atV Y (W ((k : Int) - 1)).toNat))))) := by kernel_rfl
theorem cpN (n : Nat) (Y : List V3) (k : Int) : roundR ((CChk Try.prog).into 110 1) 40 (cR (cR (cpO Try.prog))) [0, 2, 3] [0, 2, 3] [.fix 0] [.fix 0] (cp2 n Y k false) = some (.normal, cp1 n Y (W (k + 1))) := by kernel_rfl
/-- Where two neighbours are alike. -/
def cpX (P : Program) : Code := cL (cR (cpI P))
def cp3 (n : Nat) (Y : List V3) (j m : Nat) (k k2 : Int) : St := stOf 61 [(0, .slice (some ⟨0, 0, some 0⟩) n 3), (2, .slice none 0 0), (3, vI k), (4, .slice (some ⟨0, 0, some (j + 1)⟩) m 3), (5, vI k2)] [.rows true true 3 n (vcRow Y)]
def cp3a (n : Nat) (Y : List V3) (j m : Nat) (k : Int) : St := stOf 61 [(0, .slice (some ⟨0, 0, some 0⟩) n 3), (2, .slice none 0 0), (3, vI k), (4, .slice (some ⟨0, 0, some (j + 1)⟩) m 3)] [.rows true true 3 n (vcRow Y)]
theorem cpX0 (n : Nat) (Y : List V3) (j : Nat) : segR ((CChk Try.prog).into 110 1) 40 1 (cpX Try.prog) [0, 2, 3, 4] [.fix 0] (cp2 n Y ((j + 1 : Nat) : Int) true) =
    gd (leI ((j + 1 : Nat) : Int) n) (match decide (((j + 1 : Nat) : Int) < (n : Int)) with
      | true => some (cp3a n Y j (n - (j + 1)) ((j + 1 : Nat) : Int))
      | false => some (stOf 61 [(0, .slice (some ⟨0, 0, some 0⟩) n 3), (2, .slice none 0 0), (3, vI ((j + 1 : Nat) : Int)), (4, emp)] [.rows true true 3 n (vcRow Y)])) := by kernel_rfl
theorem cpForI : isFor 2 (stmt 1 (cpX Try.prog)) = true := by kernel_rfl
theorem cpHeadI (n : Nat) (Y : List V3) (j m : Nat) (k : Int) : roundR ((CChk Try.prog).into 110 1) 40 (forHead (stmt 1 (cpX Try.prog))) [0, 2, 3, 4, 5] [0, 2, 3, 4, 5] [.fix 0] [.fix 0] (cp3a n Y j m k) = some (.normal, cp3 n Y j m k 1) := by kernel_rfl
theorem cpR (n : Nat) (Y : List V3) (j m k k2 : Nat) : roundR ((CChk Try.prog).into 110 1) 40 (forBody (stmt 1 (cpX Try.prog))) [0, 2, 3, 4, 5] [0, 2, 3] [.fix 0] [.fix 0] (cp3 n Y j m k k2) =
    (match decide ((k2 : Int) < (m : Int)) with
    | true => gd (boundsI k2 m) (gd (boundsI (W ((k2 : Int) - 1)) m) (match !((atV Y (j + 1 + k2)).eqB (atV Y (j + 1 + (W ((k2 : Int) - 1)).toNat))) with
      | true => gd (boundsI k2 m) (gd (boundsI k n) (some (.normal, stOf 61 [(0, .slice (some ⟨0, 0, some 0⟩) n 3), (2, .slice none 0 0), (3, vI (W ((k : Int) + 1))), (4, .slice (some ⟨0, 0, some (j + 1)⟩) m 3), (5, vI (W ((k2 : Int) + 1)))] [.rows true true 3 n (stV Y (atV Y (j + 1 + k2)) (k : Int))])))
      | false => some (.normal, cp3 n Y j m k (W ((k2 : Int) + 1)))))
    | false => some (.exit 2, cp1 n Y k)) := by kernel_rfl
def zeroTail (Y : List V3) (k m : Nat) : Nat → List Value := fun q => match Nat.ble k q && Nat.blt q (k + m) with
  | true => V3.zero.cells
  | false => vcRow Y q
theorem cpC (n : Nat) (Y : List V3) (k : Nat) : roundR ((CChk Try.prog).into 110 1) 40 (seqDrop 2 (cpX Try.prog)) [0, 2] [0, 2] [.fix 0] [.fix 0] (cp1 n Y k) =
    gd (leI k n) (match decide ((k : Int) < (n : Int)) with
      | true => gd (Nat.blt 0 (n - k) && Nat.ble (k + (n - k)) n) (gd (leI k n) (some (.ret, stOf 61 [(0, .slice (some ⟨0, 0, some 0⟩) n 3), (2, .slice (some ⟨0, 0, some 0⟩) k 3)] [.rows true true 3 n (zeroTail Y k (n - k))])))
      | false => none) := by kernel_rfl
end Go.Proofs.Ytjpfnfckpgilgaa
