/-
  facetref11.keeps: what it comes to. Nothing here is trusted.
-/
import Derived.Test.YtjpfnfckpgilgaaGreatHTKp
namespace Go.Proofs.YtjpfnfckpgilgaaGreat
open Go Vx Go.RowKit

def Vx.tR11L (a b : Int) : Option Value := match a == 0 with
  | true => some (vI b)
  | false => match b != 0 with
    | true => match decide (b < a) with
      | true => some (vI b)
      | false => some (vI a)
    | false => some (vI a)
def Vx.fR11L (a b : Int) : Value := vI (leastN a b)
theorem Vx.tR11L_eq (a b : Int) : tR11L a b = some (fR11L a b) := by
  unfold tR11L fR11L leastN
  cases a == 0 <;> cases b != 0 <;> cases decide (b < a) <;> rfl
def Vx.krT (g r : M3) : List (Bool × List Int) := [(bilW g r.c1 r.c1 != g.a, []), (bilW g r.c1 r.c2 != g.b, []), (bilW g r.c1 r.c3 != g.c, []), (bilW g r.c2 r.c1 != g.d, []), (bilW g r.c2 r.c2 != g.e, []), (bilW g r.c2 r.c3 != g.f, []), (bilW g r.c3 r.c1 != g.g, []), (bilW g r.c3 r.c2 != g.h, []), (bilW g r.c3 r.c3 != g.i, [])]
def Vx.tKeepR (g r : M3) : Option Value := orT (krT g r) (some (.bool false)) (some (.bool true))
def Vx.keepR (g r : M3) : Bool := (krT g r).all fun x => !x.1
def Vx.fKeepR (g r : M3) : Value := .bool (keepR g r)
theorem Vx.orT_all (a e : Option Value) : ∀ (l : List (Bool × List Int)), orT l a e = bif l.all (fun x => !x.1) then e else a
  | [] => rfl
  | (b, x) :: l => by
    have := orT_all a e l
    cases b with
    | true => rfl
    | false => simpa [orT] using this
theorem Vx.tKeepR_eq (g r : M3) : tKeepR g r = some (fKeepR g r) := by
  unfold tKeepR fKeepR keepR
  rw [orT_all]
  cases (krT g r).all (fun x => !x.1) <;> rfl
theorem keep_same (m : G6) (r : M3) : keepR m.mat r = (m.turn r).w.eqB m := by
  rw [Bool.eq_iff_iff]
  unfold keepR krT G6.eqB
  simp only [List.all_cons, List.all_nil, Bool.and_true, Bool.and_eq_true, Bool.not_eq_true', bne_eq_false_iff_eq, beq_iff_eq, bilW_eq, bil_dot]
  simp only [G6.mat, G6.w, G6.turn, dot_comm m r.c2 r.c1, dot_comm m r.c3 r.c1, dot_comm m r.c3 r.c2]
  constructor
  · rintro ⟨h1, h2, h3, h4, h5, h6, h7, h8, h9⟩
    exact ⟨h1, h5, h9, h6, h3, h2⟩
  · rintro ⟨h1, h2, h3, h4, h5, h6⟩
    exact ⟨h1, h6, h5, h6, h2, h4, h5, h4, h3⟩
end Go.Proofs.YtjpfnfckpgilgaaGreat
