/-
  Lists with a shear in them close to no group; nor do two shifts by 24ths along two edges; one makes 24 maps. No program in sight. Nothing here is trusted.
-/
import Derived.Test.YtggdbakgiknogaaMai
namespace Go.Proofs.Ytggdbakgiknogaa
open Go Vx

def shear (n : Int) : O3 := ⟨⟨1, n, 0, 0, 1, 0, 0, 0, 1⟩, ⟨0, 0, 0⟩⟩
theorem shear_mul (a b : Int) : (shear a).mul (shear b) = shear (a + b) := by
  refine O3.ext' ?_ ?_
  · simp [shear, O3.mul, M3.mul]; omega
  · simp [shear, O3.mul, M3.app, V3.add, V3.md]
theorem shear_zero : shear 0 = O3.one := rfl
theorem shear_gen {ls : List O3} {n : Int} (h : shear n ∈ ls) : ∀ (k : Nat), Gen ls (shear ((k : Int) * n))
  | 0 => by
    have : shear (((0 : Nat) : Int) * n) = O3.one := by rw [show (((0 : Nat) : Int) * n) = 0 by simp]; rfl
    rw [this]; exact Gen.one
  | k + 1 => by
    have ih := shear_gen h k
    have e : shear (((k + 1 : Nat) : Int) * n) = (shear n).mul (shear ((k : Int) * n)) := by
      rw [shear_mul]; congr 1; rw [Int.natCast_add, Int.add_mul]; simp; omega
    have e' : shear (((k + 1 : Nat) : Int) * n) = (shear ((k : Int) * n)).mul (shear n) := by
      rw [e, shear_mul, shear_mul, Int.add_comm]
    first
      | (rw [e]; exact Gen.step h ih)
      | (rw [e']; exact Gen.step ih h)
      | (rw [e]; exact Gen.step ih h)
      | (rw [e']; exact Gen.step h ih)
theorem shear_bad {ls : List O3} {n : Int} (hn : n ≠ 0) (h : shear n ∈ ls) : Bad ls := by
  refine Or.inl ⟨_, shear_gen h 1001, ?_⟩
  have hb : ¬ (-1000 ≤ (1001 : Int) * n ∧ (1001 : Int) * n ≤ 1000) := by omega
  cases hk : (shear (((1001 : Nat) : Int) * n)).r.ok with
  | false => rfl
  | true =>
    exfalso
    apply hb
    have := (M3.ok_iff.1 hk).2.1
    simpa [shear] using this
theorem ckMaps_form {ls : List O3} (hl : ls.length ≤ 192) (h : ∀ o ∈ ls, o.ck = 0) : ckMaps ls = 0 := by
  have key : ∀ (l : List O3), (∀ o ∈ l, o.ck = 0) → leastL l 0 = 0 := by
    intro l
    induction l with
    | nil => intro _; rfl
    | cons o l ih =>
      intro h
      show leastL l (leastN 0 o.ck) = 0
      rw [h o (List.mem_cons_self ..)]
      exact ih fun x hx => h x (List.mem_cons_of_mem _ hx)
  unfold ckMaps
  rw [if_neg (by omega)]
  exact key ls h
/-- What Close says of a list of maps in form with a shear among them. -/
theorem cls_shear {ls : List O3} {n : Int} (hl : ls.length ≤ 192) (hck : ∀ o ∈ ls, o.ck = 0) (hn : n ≠ 0) (h : shear n ∈ ls) : clsOk ls = false ∧ clsErr ls = 5 := by
  have h0 := ckMaps_form hl hck
  constructor
  · unfold clsOk
    rw [h0]
    rcases clR_spec hck with ⟨r, _, k2⟩ | ⟨k1, _⟩
    · exact absurd (shear_bad hn h) k2.not_bad
    · rw [k1]; rfl
  · unfold clsErr; rw [h0]; rfl
def shiftX : O3 := ⟨M3.one, ⟨1, 0, 0⟩⟩
def shiftY : O3 := ⟨M3.one, ⟨0, 1, 0⟩⟩
theorem cls_x : clsOk [shiftX] = true ∧ (clsG [shiftX]).length = 24 := by
  have h : (clsOk [shiftX], (clsG [shiftX]).length) = (true, 24) := by kernel_rfl
  rw [Prod.mk.injEq] at h
  exact h
theorem cls_xy : clsOk [shiftX, shiftY] = false ∧ clsErr [shiftX, shiftY] = 5 := by
  have h : (clsOk [shiftX, shiftY], clsErr [shiftX, shiftY]) = (false, 5) := by kernel_rfl
  rw [Prod.mk.injEq] at h
  exact h
end Go.Proofs.Ytggdbakgiknogaa
