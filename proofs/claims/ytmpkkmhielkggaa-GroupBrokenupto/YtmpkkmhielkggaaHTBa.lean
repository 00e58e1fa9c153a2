/-
  facetlaw05.GroupBroken, piece by piece. Nothing here is trusted.
-/
import Derived.Test.YtmpkkmhielkggaaHTQd
import Derived.Test.YtmpkkmhielkggaaKas
namespace Go.Proofs.Ytmpkkmhielkggaa
open Go Vx
def gbB (P : Program) : Code := bodyOf P 4
theorem gbB_eq : Try.f4.body = some (gbB Try.prog) := by kernel_rfl
/-- The group and two places in it. -/
def gb1 (own : Bool) (n : Nat) (xs : List O3) (k : Nat) (G : List O3) (i j : Int) : St := stOf 152 [(1, vI i), (2, vI j), (6, .bool false), (7, .slice (some ⟨1, 0, some 0⟩) k 12), (9, vI k)] [.rows own true 12 n (opRow xs), .rows true true 12 k (opRow G)]
theorem gbP1 (own : Bool) (n : Nat) (xs : List O3) (a b : Int) : segR ((Cqa Try.prog).into 4 1) 60 6 (gbB Try.prog) [1, 2, 6, 7, 9] [.fix 0, .slot 7] (enter Try.f4 [.slice (some ⟨0, 0, some 0⟩) n 12, vI a, vI b] [.rows own true 12 n (opRow xs)]) =
    gd (lk n) (gd (twT n (opRow xs)) (gn (Nat.beq n 0) (gd (lk n) (gd (oT n (opRow (opsOf n (opRow xs)))) (gd (clsOk (opsOf n (opRow (opsOf n (opRow xs)))))
      (gn (((clsG (opsOf n (opRow (opsOf n (opRow xs))))).length : Int) == 0) (gn (((clsG (opsOf n (opRow (opsOf n (opRow xs))))).length : Int) == 0) (gn (((clsG (opsOf n (opRow (opsOf n (opRow xs))))).length : Int) == 0) (gn (((clsG (opsOf n (opRow (opsOf n (opRow xs))))).length : Int) == 0)
        (some (gb1 own n xs (clsG (opsOf n (opRow (opsOf n (opRow xs))))).length (clsG (opsOf n (opRow (opsOf n (opRow xs))))) (idxI a (clsG (opsOf n (opRow (opsOf n (opRow xs))))).length) (idxI b (clsG (opsOf n (opRow (opsOf n (opRow xs))))).length)))))))))))) := by kernel_rfl
end Go.Proofs.Ytmpkkmhielkggaa
