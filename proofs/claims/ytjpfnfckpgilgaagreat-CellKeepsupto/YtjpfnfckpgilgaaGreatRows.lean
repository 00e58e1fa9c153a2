/-
  No cell of these rows narrows 'for every input' (looked for: loops, veiled, ifaces, maps, wideKeys, modest, calm, conditions, laid).
  DERIVED. THE GIVEN ROWS OF THIS SEAT. 8 by the template 'for every input the law returns true; each argument reads behind the call as it read before'; 0 by the template 'total and deterministic' (their statements: YtjpfnfckpgilgaaGreatTotals.lean).
  GIVEN WITH THE SEED: the statements are not yours to turn. If you find one false, say at which input.
  Laid BY PROGRAM, IN A SANDBOX (cutbox-rows.mjs): the forced cells as the released guide's own fill.sh prints them over the translation 7a4be5ad146c894a… (all of the seat's roots in one cut). By AI agents, Wed Nov 11 2026. No macro, syntax, notation, axiom, sorry.
-/
import Derived.Test.YtjpfnfckpgilgaaGreatChecked
import GoSem.Claim
import GoSem.ClaimJoined
import GoSem.ClaimMapViews
import Derived.JoinedTies
import Derived.KernelRfl
namespace Go.Proofs.YtjpfnfckpgilgaaGreat
/- THE CELL 'sum', in the pinned program and in every row, IS THE sha256 OF THE DUMP (.gsa) THAT YtjpfnfckpgilgaaGreatProg.lean LOADS. Nothing in Lean hashes anything: it is a label: what it is worth is what the hold of that sum in a sandbox is worth. -/
noncomputable def Tryz.pinned : Pinned := { name := "ytjpfnfckpgilgaagreat", sum := "7a4be5ad146c894a61fc459885651e05292852eb517a33f197027b0bb0eeab6d", checked := Tryz.checked }
namespace Rows
def none {H : Type} : Left H := { results := [], args := [] }

/-- 'facetlaw11.CellKeeps': WHATEVER THE INPUT: true; the input reads as it did. -/
def cellKeepsSpec : ChangeSpec := { name := "cellKeeps", fn := fun _ => fun
  | [d1, d2] => { results := [.lit (.bool true)], args := [d1, d2] }
  | _ => none }
def cellKeepsRow : OpenClaim := { program := "ytjpfnfckpgilgaagreat", sum := "7a4be5ad146c894a61fc459885651e05292852eb517a33f197027b0bb0eeab6d", func := "facet/facetlaw11.CellKeeps", spec := "cellKeeps", unfollowed := true, recurses := true, plainKeys := false, apart := false }
def CellKeepsSaid : Prop := cellKeepsRow.holds Tryz.pinned (OpenSpec.ofChange cellKeepsSpec)

/-- ITS FALSE NEIGHBOUR: 'it returns false'. Refute it at one input. -/
def cellKeepsWrong : ChangeSpec := { name := "cellKeeps", fn := fun _ => fun
  | [d1, d2] => { results := [.lit (.bool false)], args := [d1, d2] }
  | _ => none }
def CellKeepsWrongFalsely : Prop := cellKeepsRow.holds Tryz.pinned (OpenSpec.ofChange cellKeepsWrong)

/-- 'facetlaw13.HklTurns': WHATEVER THE INPUT: true; the input reads as it did. -/
def hklTurnsSpec : ChangeSpec := { name := "hklTurns", fn := fun _ => fun
  | [d1, d2, d3] => { results := [.lit (.bool true)], args := [d1, d2, d3] }
  | _ => none }
def hklTurnsRow : OpenClaim := { program := "ytjpfnfckpgilgaagreat", sum := "7a4be5ad146c894a61fc459885651e05292852eb517a33f197027b0bb0eeab6d", func := "facet/facetlaw13.HklTurns", spec := "hklTurns", unfollowed := true, recurses := true, named := ["math/bits.divideError", "math/bits.overflowError"], plainKeys := false, apart := false }
def HklTurnsSaid : Prop := hklTurnsRow.holds Tryz.pinned (OpenSpec.ofChange hklTurnsSpec)

/-- ITS FALSE NEIGHBOUR: 'it returns false'. Refute it at one input. -/
def hklTurnsWrong : ChangeSpec := { name := "hklTurns", fn := fun _ => fun
  | [d1, d2, d3] => { results := [.lit (.bool false)], args := [d1, d2, d3] }
  | _ => none }
def HklTurnsWrongFalsely : Prop := hklTurnsRow.holds Tryz.pinned (OpenSpec.ofChange hklTurnsWrong)

/-- 'facetlaw13.HklOfs': WHATEVER THE INPUT: true; the input reads as it did. -/
def hklOfsSpec : ChangeSpec := { name := "hklOfs", fn := fun _ => fun
  | [d1, d2] => { results := [.lit (.bool true)], args := [d1, d2] }
  | _ => none }
def hklOfsRow : OpenClaim := { program := "ytjpfnfckpgilgaagreat", sum := "7a4be5ad146c894a61fc459885651e05292852eb517a33f197027b0bb0eeab6d", func := "facet/facetlaw13.HklOfs", spec := "hklOfs", unfollowed := true, recurses := true, named := ["math/bits.divideError", "math/bits.overflowError"], plainKeys := false, apart := false }
def HklOfsSaid : Prop := hklOfsRow.holds Tryz.pinned (OpenSpec.ofChange hklOfsSpec)

/-- ITS FALSE NEIGHBOUR: 'it returns false'. Refute it at one input. -/
def hklOfsWrong : ChangeSpec := { name := "hklOfs", fn := fun _ => fun
  | [d1, d2] => { results := [.lit (.bool false)], args := [d1, d2] }
  | _ => none }
def HklOfsWrongFalsely : Prop := hklOfsRow.holds Tryz.pinned (OpenSpec.ofChange hklOfsWrong)

/-- 'facetlaw13.HklFirsts': WHATEVER THE INPUT: true; the input reads as it did. -/
def hklFirstsSpec : ChangeSpec := { name := "hklFirsts", fn := fun _ => fun
  | [d1, d2] => { results := [.lit (.bool true)], args := [d1, d2] }
  | _ => none }
def hklFirstsRow : OpenClaim := { program := "ytjpfnfckpgilgaagreat", sum := "7a4be5ad146c894a61fc459885651e05292852eb517a33f197027b0bb0eeab6d", func := "facet/facetlaw13.HklFirsts", spec := "hklFirsts", unfollowed := true, recurses := true, named := ["math/bits.divideError", "math/bits.overflowError"], plainKeys := false, apart := false }
def HklFirstsSaid : Prop := hklFirstsRow.holds Tryz.pinned (OpenSpec.ofChange hklFirstsSpec)

/-- ITS FALSE NEIGHBOUR: 'it returns false'. Refute it at one input. -/
def hklFirstsWrong : ChangeSpec := { name := "hklFirsts", fn := fun _ => fun
  | [d1, d2] => { results := [.lit (.bool false)], args := [d1, d2] }
  | _ => none }
def HklFirstsWrongFalsely : Prop := hklFirstsRow.holds Tryz.pinned (OpenSpec.ofChange hklFirstsWrong)

/-- 'facetlaw13.HklActs': WHATEVER THE INPUT: true; the input reads as it did. -/
def hklActsSpec : ChangeSpec := { name := "hklActs", fn := fun _ => fun
  | [d1, d2, d3] => { results := [.lit (.bool true)], args := [d1, d2, d3] }
  | _ => none }
def hklActsRow : OpenClaim := { program := "ytjpfnfckpgilgaagreat", sum := "7a4be5ad146c894a61fc459885651e05292852eb517a33f197027b0bb0eeab6d", func := "facet/facetlaw13.HklActs", spec := "hklActs", unfollowed := true, recurses := true, named := ["math/bits.divideError", "math/bits.overflowError"], plainKeys := false, apart := false }
def HklActsSaid : Prop := hklActsRow.holds Tryz.pinned (OpenSpec.ofChange hklActsSpec)

/-- ITS FALSE NEIGHBOUR: 'it returns false'. Refute it at one input. -/
def hklActsWrong : ChangeSpec := { name := "hklActs", fn := fun _ => fun
  | [d1, d2, d3] => { results := [.lit (.bool false)], args := [d1, d2, d3] }
  | _ => none }
def HklActsWrongFalsely : Prop := hklActsRow.holds Tryz.pinned (OpenSpec.ofChange hklActsWrong)

/-- 'facetlaw13.HklCounts': WHATEVER THE INPUT: true; the input reads as it did. -/
def hklCountsSpec : ChangeSpec := { name := "hklCounts", fn := fun _ => fun
  | [d1, d2, d3] => { results := [.lit (.bool true)], args := [d1, d2, d3] }
  | _ => none }
def hklCountsRow : OpenClaim := { program := "ytjpfnfckpgilgaagreat", sum := "7a4be5ad146c894a61fc459885651e05292852eb517a33f197027b0bb0eeab6d", func := "facet/facetlaw13.HklCounts", spec := "hklCounts", unfollowed := true, recurses := true, named := ["math/bits.divideError", "math/bits.overflowError"], plainKeys := false, apart := false }
def HklCountsSaid : Prop := hklCountsRow.holds Tryz.pinned (OpenSpec.ofChange hklCountsSpec)

/-- ITS FALSE NEIGHBOUR: 'it returns false'. Refute it at one input. -/
def hklCountsWrong : ChangeSpec := { name := "hklCounts", fn := fun _ => fun
  | [d1, d2, d3] => { results := [.lit (.bool false)], args := [d1, d2, d3] }
  | _ => none }
def HklCountsWrongFalsely : Prop := hklCountsRow.holds Tryz.pinned (OpenSpec.ofChange hklCountsWrong)

/-- 'facetlaw13.HklLeast': WHATEVER THE INPUT: true; the input reads as it did. -/
def hklLeastSpec : ChangeSpec := { name := "hklLeast", fn := fun _ => fun
  | [d1, d2] => { results := [.lit (.bool true)], args := [d1, d2] }
  | _ => none }
def hklLeastRow : OpenClaim := { program := "ytjpfnfckpgilgaagreat", sum := "7a4be5ad146c894a61fc459885651e05292852eb517a33f197027b0bb0eeab6d", func := "facet/facetlaw13.HklLeast", spec := "hklLeast", unfollowed := true, recurses := true, named := ["math/bits.divideError", "math/bits.overflowError"], plainKeys := false, apart := false }
def HklLeastSaid : Prop := hklLeastRow.holds Tryz.pinned (OpenSpec.ofChange hklLeastSpec)

/-- ITS FALSE NEIGHBOUR: 'it returns false'. Refute it at one input. -/
def hklLeastWrong : ChangeSpec := { name := "hklLeast", fn := fun _ => fun
  | [d1, d2] => { results := [.lit (.bool false)], args := [d1, d2] }
  | _ => none }
def HklLeastWrongFalsely : Prop := hklLeastRow.holds Tryz.pinned (OpenSpec.ofChange hklLeastWrong)

/-- 'facettop.WholeIndices': WHATEVER THE INPUT: true; the input reads as it did. -/
def wholeIndicesSpec : ChangeSpec := { name := "wholeIndices", fn := fun _ => fun
  | [d1, d2, d3, d4, d5, d6] => { results := [.lit (.bool true)], args := [d1, d2, d3, d4, d5, d6] }
  | _ => none }
def wholeIndicesRow : OpenClaim := { program := "ytjpfnfckpgilgaagreat", sum := "7a4be5ad146c894a61fc459885651e05292852eb517a33f197027b0bb0eeab6d", func := "facet/facettop.WholeIndices", spec := "wholeIndices", unfollowed := true, recurses := true, plainKeys := false, apart := false }
def WholeIndicesSaid : Prop := wholeIndicesRow.holds Tryz.pinned (OpenSpec.ofChange wholeIndicesSpec)

/-- ITS FALSE NEIGHBOUR: 'it returns false'. Refute it at one input. -/
def wholeIndicesWrong : ChangeSpec := { name := "wholeIndices", fn := fun _ => fun
  | [d1, d2, d3, d4, d5, d6] => { results := [.lit (.bool false)], args := [d1, d2, d3, d4, d5, d6] }
  | _ => none }
def WholeIndicesWrongFalsely : Prop := wholeIndicesRow.holds Tryz.pinned (OpenSpec.ofChange wholeIndicesWrong)

/- THE SECOND FORM. 'bulk': how many values and letters a reading holds, each counted each time it is reached (what is shared counts as often as it is met; a slice's spare places count too). A statement '..UptoSaid' is the law's where the arguments, and the package variables that the reading takes, are together of bulk at most 1048576: NARROWER than '..Said'. Prove '..Said' where nothing that the law and all that it calls make is longer than what came in: it says more and counts as full. Else prove '..UptoSaid'. A law counts once. -/
mutual
def uptoBulk {H : Type} : DataW H → Nat
  | .lit (.string bytes) => bytes.length + 1
  | .lit _ => 1
  | .nil => 1
  | .ptr d => uptoBulk d + 1
  | .slice elems spare => uptoBulkAll elems + uptoBulkAll spare + 1
  | .agg parts => uptoBulkAll parts + 1
  | .iface _ d => uptoBulk d + 1
  | .map entries => uptoBulkEntries entries + 1
  | .held _ => 1
def uptoBulkAll {H : Type} : List (DataW H) → Nat
  | [] => 0
  | d :: r => uptoBulk d + uptoBulkAll r
def uptoBulkEntries {H : Type} : List (Lit × DataW H) → Nat
  | [] => 0
  | x :: r => uptoBulkEntry x + uptoBulkEntries r
def uptoBulkEntry {H : Type} : Lit × DataW H → Nat
  | (.string bytes, d) => bytes.length + uptoBulk d + 1
  | (_, d) => uptoBulk d + 1
 end
def uptoSmall : (H : Type) → List (DataW H) → Bool := fun _ ds => decide (uptoBulkAll ds ≤ 1048576)
def OpenSpec.upto (s : _root_.Go.ChangeSpec) : _root_.Go.OpenSpec := { _root_.Go.OpenSpec.ofChange s with cond := some uptoSmall }

/-- 'facetlaw11.CellKeeps', WHERE WHAT IT READS IS OF BULK AT MOST 1048576: true; the input reads as it did. -/
def cellKeepsUptoRow : OpenClaim := { program := "ytjpfnfckpgilgaagreat", sum := "7a4be5ad146c894a61fc459885651e05292852eb517a33f197027b0bb0eeab6d", func := "facet/facetlaw11.CellKeeps", spec := "cellKeeps", unfollowed := true, recurses := true, plainKeys := false, apart := false, narrowed := true }
def CellKeepsUptoSaid : Prop := cellKeepsUptoRow.holds Tryz.pinned (OpenSpec.upto cellKeepsSpec)

/-- 'facetlaw13.HklTurns', WHERE WHAT IT READS IS OF BULK AT MOST 1048576: true; the input reads as it did. -/
def hklTurnsUptoRow : OpenClaim := { program := "ytjpfnfckpgilgaagreat", sum := "7a4be5ad146c894a61fc459885651e05292852eb517a33f197027b0bb0eeab6d", func := "facet/facetlaw13.HklTurns", spec := "hklTurns", unfollowed := true, recurses := true, named := ["math/bits.divideError", "math/bits.overflowError"], plainKeys := false, apart := false, narrowed := true }
def HklTurnsUptoSaid : Prop := hklTurnsUptoRow.holds Tryz.pinned (OpenSpec.upto hklTurnsSpec)

/-- 'facetlaw13.HklOfs', WHERE WHAT IT READS IS OF BULK AT MOST 1048576: true; the input reads as it did. -/
def hklOfsUptoRow : OpenClaim := { program := "ytjpfnfckpgilgaagreat", sum := "7a4be5ad146c894a61fc459885651e05292852eb517a33f197027b0bb0eeab6d", func := "facet/facetlaw13.HklOfs", spec := "hklOfs", unfollowed := true, recurses := true, named := ["math/bits.divideError", "math/bits.overflowError"], plainKeys := false, apart := false, narrowed := true }
def HklOfsUptoSaid : Prop := hklOfsUptoRow.holds Tryz.pinned (OpenSpec.upto hklOfsSpec)

/-- 'facetlaw13.HklFirsts', WHERE WHAT IT READS IS OF BULK AT MOST 1048576: true; the input reads as it did. -/
def hklFirstsUptoRow : OpenClaim := { program := "ytjpfnfckpgilgaagreat", sum := "7a4be5ad146c894a61fc459885651e05292852eb517a33f197027b0bb0eeab6d", func := "facet/facetlaw13.HklFirsts", spec := "hklFirsts", unfollowed := true, recurses := true, named := ["math/bits.divideError", "math/bits.overflowError"], plainKeys := false, apart := false, narrowed := true }
def HklFirstsUptoSaid : Prop := hklFirstsUptoRow.holds Tryz.pinned (OpenSpec.upto hklFirstsSpec)

/-- 'facetlaw13.HklActs', WHERE WHAT IT READS IS OF BULK AT MOST 1048576: true; the input reads as it did. -/
def hklActsUptoRow : OpenClaim := { program := "ytjpfnfckpgilgaagreat", sum := "7a4be5ad146c894a61fc459885651e05292852eb517a33f197027b0bb0eeab6d", func := "facet/facetlaw13.HklActs", spec := "hklActs", unfollowed := true, recurses := true, named := ["math/bits.divideError", "math/bits.overflowError"], plainKeys := false, apart := false, narrowed := true }
def HklActsUptoSaid : Prop := hklActsUptoRow.holds Tryz.pinned (OpenSpec.upto hklActsSpec)

/-- 'facetlaw13.HklCounts', WHERE WHAT IT READS IS OF BULK AT MOST 1048576: true; the input reads as it did. -/
def hklCountsUptoRow : OpenClaim := { program := "ytjpfnfckpgilgaagreat", sum := "7a4be5ad146c894a61fc459885651e05292852eb517a33f197027b0bb0eeab6d", func := "facet/facetlaw13.HklCounts", spec := "hklCounts", unfollowed := true, recurses := true, named := ["math/bits.divideError", "math/bits.overflowError"], plainKeys := false, apart := false, narrowed := true }
def HklCountsUptoSaid : Prop := hklCountsUptoRow.holds Tryz.pinned (OpenSpec.upto hklCountsSpec)

/-- 'facetlaw13.HklLeast', WHERE WHAT IT READS IS OF BULK AT MOST 1048576: true; the input reads as it did. -/
def hklLeastUptoRow : OpenClaim := { program := "ytjpfnfckpgilgaagreat", sum := "7a4be5ad146c894a61fc459885651e05292852eb517a33f197027b0bb0eeab6d", func := "facet/facetlaw13.HklLeast", spec := "hklLeast", unfollowed := true, recurses := true, named := ["math/bits.divideError", "math/bits.overflowError"], plainKeys := false, apart := false, narrowed := true }
def HklLeastUptoSaid : Prop := hklLeastUptoRow.holds Tryz.pinned (OpenSpec.upto hklLeastSpec)

/-- 'facettop.WholeIndices', WHERE WHAT IT READS IS OF BULK AT MOST 1048576: true; the input reads as it did. -/
def wholeIndicesUptoRow : OpenClaim := { program := "ytjpfnfckpgilgaagreat", sum := "7a4be5ad146c894a61fc459885651e05292852eb517a33f197027b0bb0eeab6d", func := "facet/facettop.WholeIndices", spec := "wholeIndices", unfollowed := true, recurses := true, plainKeys := false, apart := false, narrowed := true }
def WholeIndicesUptoSaid : Prop := wholeIndicesUptoRow.holds Tryz.pinned (OpenSpec.upto wholeIndicesSpec)

end Rows
end Go.Proofs.YtjpfnfckpgilgaaGreat
