/-
  The document's steps, on the products of four edges. Nothing here is trusted.
-/
import Derived.Test.YtofblakbfmjgkaaKai
namespace Go.Proofs.Ytofblakbfmjgkaa.Vx
open Go
def laidL (m : G6) : List Int := [m.dot e1v e1v, m.dot e1v e2v, m.dot e1v e3v, m.dot e1v e4v, m.dot e2v e1v, m.dot e2v e2v, m.dot e2v e3v, m.dot e2v e4v, m.dot e3v e1v, m.dot e3v e2v, m.dot e3v e3v, m.dot e3v e4v, m.dot e4v e1v, m.dot e4v e2v, m.dot e4v e3v, m.dot e4v e4v]
def agI (l : List Int) : Value := .agg (l.map (.int .i64)).toArray
def tLaid (m : G6) : Option Value := some (agI ((laidL m).map W))
def fLaid (m : G6) : Value := agI ((laidL m).map W)
theorem tLaid_eq (m : G6) : tLaid m = some (fLaid m) := rfl
/-- The new edges by the old ones. -/
def T4 (u v i k : Nat) : Int := if i = u then (if k = u then -1 else 0) else if i = v then (if k = v then 1 else 0) else if k = i then 1 else if k = u then 1 else 0
def ent (l : List Int) (u v i j : Nat) : Int := (List.range 16).foldl (fun s n => W (s + W (W (T4 u v i (n / 4) * nth l n) * T4 u v j (n % 4)))) 0
def ents (l : List Int) (u v : Nat) : List Int := [ent l u v 0 0, ent l u v 0 1, ent l u v 0 2, ent l u v 0 3, ent l u v 1 0, ent l u v 1 1, ent l u v 1 2, ent l u v 1 3, ent l u v 2 0, ent l u v 2 1, ent l u v 2 2, ent l u v 2 3, ent l u v 3 0, ent l u v 3 1, ent l u v 3 2, ent l u v 3 3]
def stpHit (l : List Int) (u v : Nat) (p : M3) : Option Value := some (p3v (agI (ents l u v)) p.v (.bool true))
def tStp (l : List Int) : Option Value := match decide (nth l 6 ≤ 0) with
  | false => stpHit l 1 2 stp0
  | true => match decide (nth l 2 ≤ 0) with
    | false => stpHit l 0 2 stp1
    | true => match decide (nth l 1 ≤ 0) with
      | false => stpHit l 0 1 stp2
      | true => match decide (nth l 3 ≤ 0) with
        | false => stpHit l 0 3 stp3
        | true => match decide (nth l 7 ≤ 0) with
          | false => stpHit l 1 3 stp4
          | true => match decide (nth l 11 ≤ 0) with
            | false => stpHit l 2 3 stp5
            | true => some (p3v (agI l) M3.one.v (.bool false))
def gOf (l : List Int) : G6 := ⟨nth l 0, nth l 5, nth l 10, nth l 6, nth l 2, nth l 1⟩
def eqL : List Int → List Int → Bool
  | [], [] => true
  | x :: l, y :: m => x == y && eqL l m
  | _, _ => false
theorem eqL_eq : ∀ {l m : List Int}, eqL l m = true → l = m
  | [], [], _ => rfl
  | [], _ :: _, h => by simp [eqL] at h
  | _ :: _, [], h => by simp [eqL] at h
  | x :: l, y :: m, h => by
    simp only [eqL, Bool.and_eq_true, beq_iff_eq] at h
    rw [h.1, eqL_eq h.2]
theorem eqL_refl : ∀ (l : List Int), eqL l l = true
  | [] => rfl
  | x :: l => by simp only [eqL, beq_self_eq_true, eqL_refl l, Bool.and_self]
def lidB (l : List Int) : Bool := eqL l (laidL (gOf l)) && (gOf l).sbd
def fStp (l : List Int) : Value := p3v (agI (laidL (gOf l).next)) (gOf l).sharp.2.v (.bool (decide ((gOf l).sharp.1 > 0)))
def entZ (l : List Int) (u v i j : Nat) : Int := (List.range 16).foldl (fun s n => s + T4 u v i (n / 4) * nth l n * T4 u v j (n % 4)) 0
theorem ent_Z (l : List Int) (u v i j : Nat) : ent l u v i j = W (entZ l u v i j) := by
  have key : ∀ (ns : List Nat) (s : Int), ns.foldl (fun s n => W (s + W (W (T4 u v i (n / 4) * nth l n) * T4 u v j (n % 4)))) (W s) = W (ns.foldl (fun s n => s + T4 u v i (n / 4) * nth l n * T4 u v j (n % 4)) s) := by
    intro ns
    induction ns with
    | nil => intro s; rfl
    | cons n ns ih =>
      intro s
      simp only [List.foldl]
      rw [W_mull, W_addl, W_addr, ih]
  exact key (List.range 16) 0
theorem gOf_laid (m : G6) : gOf (laidL m) = m := by
  refine G6.ext' ⟨?_, ?_, ?_, ?_, ?_, ?_⟩ <;> simp [gOf, laidL, nth, G6.dot, e1v, e2v, e3v, e4v]
theorem laid_small {m : G6} {n : Int} (h : m.SB n) : ∀ x ∈ laidL m, -(9 * n) ≤ x ∧ x ≤ 9 * n := by
  unfold G6.SB at h
  simp only [laidL, List.mem_cons, List.not_mem_nil, or_false, forall_eq_or_imp, forall_eq, G6.dot, e1v, e2v, e3v, e4v]
  omega
theorem map_W {l : List Int} {n : Int} (h : ∀ x ∈ l, -n ≤ x ∧ x ≤ n) (hn : n ≤ 9000000000000000000) : l.map W = l := by
  induction l with
  | nil => rfl
  | cons x l ih =>
    have := h x (by simp)
    rw [List.map_cons, W_in (by omega), ih fun y hy => h y (by simp [hy])]
end Go.Proofs.Ytofblakbfmjgkaa.Vx
