/-
  Indices held against each other. Nothing here is trusted.
-/
import Derived.Test.YtjpfnfckpgilgaaKak
import Derived.Test.YtjpfnfckpgilgaaKag
namespace Go.Proofs.Ytjpfnfckpgilgaa.Vx
open Go
def tHCmp (a b : V3) : Option Value := match cmpR a.x b.x != 0 with
  | true => some (vI (cmpR a.x b.x))
  | false => match cmpR a.y b.y != 0 with
    | true => some (vI (cmpR a.y b.y))
    | false => match cmpR a.z b.z != 0 with
      | true => some (vI (cmpR a.z b.z))
      | false => some (vI 0)
def fHCmp (a b : V3) : Value := vI (lexI a.l b.l)
theorem cmpR_is (a b : Int) : cmpR a b = if a < b then -1 else if a > b then 1 else 0 := by
  unfold cmpR
  by_cases h1 : a < b
  · rw [if_pos h1]
    simp [cmpT, chainL, h1, nth]
  · rw [if_neg h1]
    by_cases h2 : a > b
    · rw [if_pos h2]; simp [cmpT, chainL, h1, h2, nth]
    · rw [if_neg h2]; simp [cmpT, chainL, h1, h2, nth]
theorem lex_st (a b : Int) (l m : List Int) : lexI (a :: l) (b :: m) = (match cmpR a b != 0 with
    | true => cmpR a b
    | false => lexI l m) := by
  rw [cmpR_is]
  simp only [lexI]
  by_cases h1 : a < b
  · rw [if_pos h1, if_pos h1]; rfl
  · rw [if_neg h1, if_neg h1]
    by_cases h2 : a > b
    · rw [if_pos h2, if_pos h2]; rfl
    · rw [if_neg h2, if_neg h2]; rfl
theorem tHCmp_eq (a b : V3) : tHCmp a b = some (fHCmp a b) := by
  unfold tHCmp fHCmp V3.l
  rw [lex_st, lex_st, lex_st]
  cases cmpR a.x b.x != 0 <;> cases cmpR a.y b.y != 0 <;> cases cmpR a.z b.z != 0 <;> rfl
end Go.Proofs.Ytjpfnfckpgilgaa.Vx
