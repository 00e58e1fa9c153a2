/-
  facetlaw14.AbsentTurns, run. Nothing here is trusted.
-/
import Derived.Test.YtjpfnfckpgilgaaHTBo1
namespace Go.Proofs.Ytjpfnfckpgilgaa
open Go Vx Go.RowKit

def tuB (P : Program) : Code := bodyOf P 6
theorem tuB_eq : Try.f6.body = some (tuB Try.prog) := by kernel_rfl
def tuS (own : Bool) (n : Nat) (xs : List O3) (h : V3) (b : Bool) (e : Int) : St := stOf 67 [(0, .slice (some ⟨0, 0, some 0⟩) n 12), (3, .pointer (some ⟨1, 0, none⟩)), (4, .bool false), (5, .bool b), (6, vI e)] [.rows own true 12 n (opRow xs), .cells true 0 h.cells]
def tuL (own : Bool) (n : Nat) (xs : List O3) (b : Bool) (k m : Nat) (Y : List V3) : St := stOf 67 [(0, .slice (some ⟨0, 0, some 0⟩) n 12), (4, .bool false), (5, .bool b), (7, .slice (some ⟨1, 0, some 0⟩) k 3)] [.rows own true 12 n (opRow xs), .rows true true 3 m (vcRow Y)]
def tuI (own : Bool) (n : Nat) (xs : List O3) (b : Bool) (k m : Nat) (Y : List V3) (j : Int) : St := stOf 67 [(0, .slice (some ⟨0, 0, some 0⟩) n 12), (4, .bool false), (5, .bool b), (33, .slice (some ⟨1, 0, some 0⟩) k 3), (34, vI k), (35, vI j)] [.rows own true 12 n (opRow xs), .rows true true 3 m (vcRow Y)]
def tuZ (own : Bool) (n : Nat) (xs : List O3) : St := stOf 67 [(0, .slice (some ⟨0, 0, some 0⟩) n 12), (4, .bool false)] [.rows own true 12 n (opRow xs)]
theorem tuP (own : Bool) (n : Nat) (xs : List O3) (h : V3) : segR ((Cow Try.prog).into 6 1) 60 3 (tuB Try.prog) [0, 3, 4, 5, 6] [.fix 0, .slot 3] (enter Try.f6 [.slice (some ⟨0, 0, some 0⟩) n 12, h.v] [.rows own true 12 n (opRow xs)]) =
    gd (lk n) (gd (ghT alwB n (opRow xs) h) (some (tuS own n xs h (isb (opsOf n (opRow xs)) h) (acI (opsOf n (opRow xs)) h)))) := by kernel_rfl
theorem tuHas : hasStmt 3 (tuB Try.prog) = true ∧ hasStmt 6 (tuB Try.prog) = true := ⟨by kernel_rfl, by kernel_rfl⟩
theorem tuEr (own : Bool) (n : Nat) (xs : List O3) (h : V3) (e : Int) : roundR ((Cow Try.prog).into 6 1) 60 (stmt 3 (tuB Try.prog)) [4] [4] [.fix 0] [.fix 0] (tuS own n xs h false e) =
    (match e != 0 with
    | true => some (.ret, stOf 67 [(4, .bool true)] [.rows own true 12 n (opRow xs)])
    | false => some (.normal, stOf 67 [(4, .bool false)] [.rows own true 12 n (opRow xs)])) := by kernel_rfl
theorem tuO (own : Bool) (n : Nat) (xs : List O3) (h : V3) (b : Bool) : segR ((Cbx Try.prog).into 6 1) 60 3 (seqDrop 3 (tuB Try.prog)) [0, 4, 5, 7] [.fix 0, .slot 7] (tuS own n xs h b 0) =
    gd (lk n) (gd (oT n (opRow xs)) (gn (acI (opsOf n (opRow xs)) h != 0) (some (tuL own n xs b (boL (opsOf n (opRow xs)) h).length (opps (trn (opsOf n (opRow xs)) h)).length (boA (opsOf n (opRow xs)) h))))) := by kernel_rfl
theorem tuFor : isFor 0 (stmt 6 (tuB Try.prog)) = true := by kernel_rfl
theorem tuHd (own : Bool) (n : Nat) (xs : List O3) (b : Bool) (k m : Nat) (Y : List V3) : roundR ((Cow Try.prog).into 6 1) 60 (forHead (stmt 6 (tuB Try.prog))) [0, 4, 5, 33, 34, 35] [0, 4, 5, 33, 34, 35] [.fix 0, .slot 33] [.fix 0, .slot 33] (tuL own n xs b k m Y) = some (.normal, tuI own n xs b k m Y 0) := by kernel_rfl
theorem tuR (own : Bool) (n : Nat) (xs : List O3) (b : Bool) (k m : Nat) (Y : List V3) (j : Nat) : roundR ((Cow Try.prog).into 6 1) 60 (forBody (stmt 6 (tuB Try.prog))) [0, 4, 5, 33, 34, 35] [0, 4] [.fix 0, .slot 33] [.fix 0] (tuI own n xs b k m Y (j : Int)) =
    (match decide ((j : Int) < (k : Int)) with
    | true => gd (boundsI (j : Int) k) (gd (lk n) (gd (ghT alwB n (opRow xs) (atV Y j)) (match acI (opsOf n (opRow xs)) (atV Y j) == 1 with
      | true => some (.normal, tuI own n xs b k m Y (W ((j : Int) + 1)))
      | false => match acI (opsOf n (opRow xs)) (atV Y j) != 0 with
        | true => some (.ret, tuZ own n xs)
        | false => match b != isb (opsOf n (opRow xs)) (atV Y j) with
          | true => some (.ret, tuZ own n xs)
          | false => some (.normal, tuI own n xs b k m Y (W ((j : Int) + 1))))))
    | false => some (.exit 0, tuZ own n xs)) := by kernel_rfl
theorem tuF (own : Bool) (n : Nat) (xs : List O3) : roundR ((Cow Try.prog).into 6 1) 60 (seqDrop 7 (tuB Try.prog)) [4] [4] [.fix 0] [.fix 0] (tuZ own n xs) = gd (lk n) (gd (ghT alwB n (opRow xs) V3.zero) (match acI (opsOf n (opRow xs)) V3.zero == 0 with
    | true => some (.ret, stOf 67 [(4, .bool (!isb (opsOf n (opRow xs)) V3.zero))] [.rows own true 12 n (opRow xs)])
    | false => some (.ret, stOf 67 [(4, .bool false)] [.rows own true 12 n (opRow xs)]))) := by kernel_rfl
theorem tuQ (own : Bool) (n : Nat) (xs : List O3) : (retA Try.prog Try.f6 (.ret, stOf 67 [(4, .bool true)] [.rows own true 12 n (opRow xs)])).res = some (.bool true, [.rows own true 12 n (opRow xs)]) := by kernel_rfl
def tu0 (h : V3) (e : Int) : St := stOf 67 [(0, .slice none 0 0), (3, .pointer (some ⟨0, 0, none⟩)), (4, .bool false), (5, .bool false), (6, vI e)] [.cells true 0 h.cells]
theorem tuP0 (h : V3) : segR ((Cow Try.prog).into 6 0) 60 3 (tuB Try.prog) [0, 3, 4, 5, 6] [.slot 3] (enter Try.f6 [.slice none 0 0, h.v] []) = some (tu0 h (leastN h.ixk 5)) := by kernel_rfl
theorem tuR0 (h : V3) (e : Int) : roundR ((Cow Try.prog).into 6 0) 60 (stmt 3 (tuB Try.prog)) [4] [4] [] [] (tu0 h e) =
    (match e != 0 with
    | true => some (.ret, stOf 67 [(4, .bool true)] [])
    | false => some (.normal, stOf 67 [(4, .bool false)] [])) := by kernel_rfl
theorem tuQ0 : (retA Try.prog Try.f6 (.ret, stOf 67 [(4, .bool true)] [])).res = some (.bool true, []) := by kernel_rfl
end Go.Proofs.Ytjpfnfckpgilgaa
