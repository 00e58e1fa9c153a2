/-
  facettop.shorter answers true where no small vector is shorter. Nothing here is trusted.
-/
import Derived.Test.YtofblakbfmjgkaaHTWcS
namespace Go.Proofs.Ytofblakbfmjgkaa
open Go Vx Go.RowKit
set_option maxRecDepth 100000 in
theorem hIn : InBody ((Cwd2 Try.prog).into 59 0) (hrB Try.prog) := bodyOf_in (C := Cwd2 Try.prog) (f := 59) (B := 0) (k := 0) (fn := Try.f59) (b := hrB Try.prog) Try.func59 hrB_eq
theorem hInX0 : InBody ((Cwd2 Try.prog).into 59 0) (hX0 Try.prog) := inForB (inStm hIn 1)
theorem hInY1 : InBody ((Cwd2 Try.prog).into 59 0) (hY1 Try.prog) := (inStm hInX0 1).left
theorem hInX2 : InBody ((Cwd2 Try.prog).into 59 0) (hX2 Try.prog) := inBlkB (inDrop hInY1 1)
theorem hInY3 : InBody ((Cwd2 Try.prog).into 59 0) (hY3 Try.prog) := (inStm hInX2 1).left
theorem hInX4 : InBody ((Cwd2 Try.prog).into 59 0) (hX4 Try.prog) := inBlkB (inDrop hInY3 1)
/-- Nothing from -3 to 3 but nought is shorter than n. -/
def Nosh (m : G6) (n : Int) : Prop := ∀ x y z : Int, -3 ≤ x ∧ x ≤ 3 → -3 ≤ y ∧ y ≤ 3 → -3 ≤ z ∧ z ≤ 3 → m.dotE ⟨x, y, z⟩ ⟨x, y, z⟩ = 0 ∧ (m.dotF ⟨x, y, z⟩ ⟨x, y, z⟩ < n → x = 0 ∧ y = 0 ∧ z = 0)
theorem Nosh.in4 {m : G6} {n : Int} (h : Nosh m n) {x y z : Int} (hx : -3 ≤ x ∧ x ≤ 3) (hy : -3 ≤ y ∧ y ≤ 3) (hz : -3 ≤ z ∧ z ≤ 3) (a b : Option (Exit × St)) : hIn4 (m.dotE ⟨x, y, z⟩ ⟨x, y, z⟩) (m.dotF ⟨x, y, z⟩ ⟨x, y, z⟩) n x y z a b = b := by
  obtain ⟨e, d⟩ := h x y z hx hy hz
  unfold hIn4
  rw [e]
  simp only [bne_self_eq_false]
  by_cases hd : m.dotF ⟨x, y, z⟩ ⟨x, y, z⟩ < n
  · obtain ⟨rfl, rfl, rfl⟩ := d hd
    rw [decide_eq_true hd]
    simp only [bne_self_eq_false]
  · rw [decide_eq_false hd]
theorem hL4 {m : G6} {n : Int} (h : Nosh m n) {x y : Int} (hx : -3 ≤ x ∧ x ≤ 3) (hy : -3 ≤ y ∧ y ≤ 3) : ∀ (k : Nat) (z : Int), k = (4 - z).toNat → -3 ≤ z → LoopSem Try.prog 0 (hX4 Try.prog) (h3 m n x y z) (.exit 4) (h2 m n x y) := by
  intro k
  induction k with
  | zero =>
    intro z hk hz
    have hr := hX4r m n x y z
    rw [decide_eq_false (show ¬ z ≤ 3 by omega)] at hr
    exact loop_leave (C := Cwd2 Try.prog) okwd2 (f := 59) (B := 0) hInX4 hr (by simp)
  | succ k ih =>
    intro z hk hz
    have hr := hX4r m n x y z
    rw [decide_eq_true (show z ≤ 3 by omega), h.in4 hx hy ⟨hz, by omega⟩, W_in (n := z + 1) (by omega)] at hr
    exact loop_next (C := Cwd2 Try.prog) okwd2 (f := 59) (B := 0) hInX4 hr (StLike.refl _) (ih (z + 1) (by omega) (by omega))
theorem hL2 {m : G6} {n : Int} (h : Nosh m n) {x : Int} (hx : -3 ≤ x ∧ x ≤ 3) : ∀ (k : Nat) (y : Int), k = (4 - y).toNat → -3 ≤ y → LoopSem Try.prog 0 (hX2 Try.prog) (h2 m n x y) (.exit 2) (h1 m n x) := by
  intro k
  induction k with
  | zero =>
    intro y hk hy
    have hr := hX2a m n x y
    rw [decide_eq_false (show ¬ y ≤ 3 by omega)] at hr
    exact loop_leaveC (stmt_out (k := 0) hHas.2.2.2.1 (end_rule' (C := Cwd2 Try.prog) okwd2 (f := 59) (B := 0) (inStm hInX2 0) hr) (by simp)) (by simp)
  | succ k ih =>
    intro y hk hy
    have hr := hX2a m n x y
    rw [decide_eq_true (show y ≤ 3 by omega)] at hr
    have hc := hX2c m n x y
    rw [W_in (n := y + 1) (by omega)] at hc
    have hb : CodeSem Try.prog 0 (.block 3 (hY3 Try.prog)) (h2 m n x y) .normal (h2 m n x y) :=
      CodeSem.blockN (seg_rule (C := Cwd2 Try.prog) okwd2 (f := 59) (B := 0) (k := 1) hInY3 (hY3b m n x y) (blk_rule hBlk4 (hL4 h hx ⟨hy, by omega⟩ 7 (-3) (by omega) (by omega))))
    rw [← hX2b] at hb
    exact loop_nextC (stmt_rule (k := 0) hHas.2.2.2.1 (end_rule' (C := Cwd2 Try.prog) okwd2 (f := 59) (B := 0) (inStm hInX2 0) hr) (stmt_rule hHas.2.2.2.2 hb (end_rule' (C := Cwd2 Try.prog) okwd2 (f := 59) (B := 0) (inDrop hInX2 2) hc))) (ih (y + 1) (by omega) (by omega))
theorem hL0 {m : G6} {n : Int} (h : Nosh m n) : ∀ (k : Nat) (x : Int), k = (4 - x).toNat → -3 ≤ x → LoopSem Try.prog 0 (hX0 Try.prog) (h1 m n x) (.exit 0) (h0 m n) := by
  intro k
  induction k with
  | zero =>
    intro x hk hx
    have hr := hX0a m n x
    rw [decide_eq_false (show ¬ x ≤ 3 by omega)] at hr
    exact loop_leaveC (stmt_out (k := 0) hHas.2.1 (end_rule' (C := Cwd2 Try.prog) okwd2 (f := 59) (B := 0) (inStm hInX0 0) hr) (by simp)) (by simp)
  | succ k ih =>
    intro x hk hx
    have hr := hX0a m n x
    rw [decide_eq_true (show x ≤ 3 by omega)] at hr
    have hc := hX0c m n x
    rw [W_in (n := x + 1) (by omega)] at hc
    have hb : CodeSem Try.prog 0 (.block 1 (hY1 Try.prog)) (h1 m n x) .normal (h1 m n x) :=
      CodeSem.blockN (seg_rule (C := Cwd2 Try.prog) okwd2 (f := 59) (B := 0) (k := 1) hInY1 (hY1b m n x) (blk_rule hBlk2 (hL2 h ⟨hx, by omega⟩ 7 (-3) (by omega) (by omega))))
    rw [← hX0b] at hb
    exact loop_nextC (stmt_rule (k := 0) hHas.2.1 (end_rule' (C := Cwd2 Try.prog) okwd2 (f := 59) (B := 0) (inStm hInX0 0) hr) (stmt_rule hHas.2.2.1 hb (end_rule' (C := Cwd2 Try.prog) okwd2 (f := 59) (B := 0) (inDrop hInX0 2) hc))) (ih (x + 1) (by omega) (by omega))
set_option maxRecDepth 100000 in
theorem hS {m : G6} {n : Int} (h : Nosh m n) : PlainSem Try.prog 59 [m.v, vI n] (.bool true) := by
  have body : CodeSem Try.prog 0 (hrB Try.prog) (enter Try.f59 [m.v, vI n] []) .ret (stOf 54 [(4, .bool true)] []) := by
    refine seg_rule (C := Cwd2 Try.prog) okwd2 (f := 59) (B := 0) (k := 1) hIn (hE0 m n) ?_
    exact stmt_rule hHas.1 (for_rule hFor (end_rule' (C := Cwd2 Try.prog) okwd2 (f := 59) (B := 0) (inForH (inStm hIn 1)) (hHead m n)) (hL0 h 7 (-3) (by omega) (by omega))) (end_rule' (C := Cwd2 Try.prog) okwd2 (f := 59) (B := 0) (inDrop hIn 2) (hEnd m n))
  have hm : MemSem Try.prog 59 [m.v, vI n] [] (.bool true) [] := body_mem (f := 59) Try.func59 hrB_eq (by kernel_rfl) body hRet
  exact hm.plain (by intro x hx; simp only [List.mem_cons, List.not_mem_nil, or_false] at hx; rcases hx with rfl | rfl <;> rfl) rfl
end Go.Proofs.Ytofblakbfmjgkaa
