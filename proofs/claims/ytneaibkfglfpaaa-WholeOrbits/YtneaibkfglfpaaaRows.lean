/-
  No cell of these rows narrows 'for every input' (looked for: loops, veiled, ifaces, maps, wideKeys, modest, calm, conditions, laid).
  DERIVED. THE GIVEN ROWS OF THIS SEAT. 9 by the template 'for every input the law returns true; each argument reads behind the call as it read before'; 0 by the template 'total and deterministic' (their statements: YtneaibkfglfpaaaTotals.lean).
  GIVEN WITH THE SEED: the statements are not yours to turn. If you find one false, say at which input.
  Laid BY PROGRAM, IN A SANDBOX (cutbox-rows.mjs): the forced cells as the released guide's own fill.sh prints them over the translation 4fb36b635f75e4b9… (all of the seat's roots in one cut). By AI agents, Wed Nov 11 2026. No macro, syntax, notation, axiom, sorry.
-/
import Derived.Test.YtneaibkfglfpaaaChecked
import GoSem.Claim
import GoSem.ClaimJoined
import GoSem.ClaimMapViews
import Derived.JoinedTies
import Derived.KernelRfl
namespace Go.Proofs.Ytneaibkfglfpaaa
/- THE CELL 'sum', in the pinned program and in every row, IS THE sha256 OF THE DUMP (.gsa) THAT YtneaibkfglfpaaaProg.lean LOADS. Nothing in Lean hashes anything: it is a label: what it is worth is what the hold of that sum in a sandbox is worth. -/
noncomputable def Try.pinned : Pinned := { name := "ytneaibkfglfpaaa", sum := "4fb36b635f75e4b9a5132f6506cbc184e79ff823ca74c21b1f0a9754b4efe545", checked := Try.checked }
namespace Rows
def none {H : Type} : Left H := { results := [], args := [] }

/-- 'facetlaw05.GroupLeast': WHATEVER THE INPUT: true; the input reads as it did. -/
def groupLeastSpec : ChangeSpec := { name := "groupLeast", fn := fun _ => fun
  | [d1, d2] => { results := [.lit (.bool true)], args := [d1, d2] }
  | _ => none }
def groupLeastRow : OpenClaim := { program := "ytneaibkfglfpaaa", sum := "4fb36b635f75e4b9a5132f6506cbc184e79ff823ca74c21b1f0a9754b4efe545", func := "facet/facetlaw05.GroupLeast", spec := "groupLeast", unfollowed := true, recurses := true, plainKeys := false, apart := false }
def GroupLeastSaid : Prop := groupLeastRow.holds Try.pinned (OpenSpec.ofChange groupLeastSpec)

/-- ITS FALSE NEIGHBOUR: 'it returns false'. Refute it at one input. -/
def groupLeastWrong : ChangeSpec := { name := "groupLeast", fn := fun _ => fun
  | [d1, d2] => { results := [.lit (.bool false)], args := [d1, d2] }
  | _ => none }
def GroupLeastWrongFalsely : Prop := groupLeastRow.holds Try.pinned (OpenSpec.ofChange groupLeastWrong)

/-- 'facetlaw05.GroupBroken': WHATEVER THE INPUT: true; the input reads as it did. -/
def groupBrokenSpec : ChangeSpec := { name := "groupBroken", fn := fun _ => fun
  | [d1, d2, d3] => { results := [.lit (.bool true)], args := [d1, d2, d3] }
  | _ => none }
def groupBrokenRow : OpenClaim := { program := "ytneaibkfglfpaaa", sum := "4fb36b635f75e4b9a5132f6506cbc184e79ff823ca74c21b1f0a9754b4efe545", func := "facet/facetlaw05.GroupBroken", spec := "groupBroken", unfollowed := true, recurses := true, plainKeys := false, apart := false }
def GroupBrokenSaid : Prop := groupBrokenRow.holds Try.pinned (OpenSpec.ofChange groupBrokenSpec)

/-- ITS FALSE NEIGHBOUR: 'it returns false'. Refute it at one input. -/
def groupBrokenWrong : ChangeSpec := { name := "groupBroken", fn := fun _ => fun
  | [d1, d2, d3] => { results := [.lit (.bool false)], args := [d1, d2, d3] }
  | _ => none }
def GroupBrokenWrongFalsely : Prop := groupBrokenRow.holds Try.pinned (OpenSpec.ofChange groupBrokenWrong)

/-- 'facetlaw05.GroupChecks': WHATEVER THE INPUT: true; the input reads as it did. -/
def groupChecksSpec : ChangeSpec := { name := "groupChecks", fn := fun _ => fun
  | [d1, d2] => { results := [.lit (.bool true)], args := [d1, d2] }
  | _ => none }
def groupChecksRow : OpenClaim := { program := "ytneaibkfglfpaaa", sum := "4fb36b635f75e4b9a5132f6506cbc184e79ff823ca74c21b1f0a9754b4efe545", func := "facet/facetlaw05.GroupChecks", spec := "groupChecks", unfollowed := true, recurses := true, plainKeys := false, apart := false }
def GroupChecksSaid : Prop := groupChecksRow.holds Try.pinned (OpenSpec.ofChange groupChecksSpec)

/-- ITS FALSE NEIGHBOUR: 'it returns false'. Refute it at one input. -/
def groupChecksWrong : ChangeSpec := { name := "groupChecks", fn := fun _ => fun
  | [d1, d2] => { results := [.lit (.bool false)], args := [d1, d2] }
  | _ => none }
def GroupChecksWrongFalsely : Prop := groupChecksRow.holds Try.pinned (OpenSpec.ofChange groupChecksWrong)

/-- 'facetlaw05.GroupKeeps': WHATEVER THE INPUT: true; the input reads as it did. -/
def groupKeepsSpec : ChangeSpec := { name := "groupKeeps", fn := fun _ => fun
  | [d] => { results := [.lit (.bool true)], args := [d] }
  | _ => none }
def groupKeepsRow : OpenClaim := { program := "ytneaibkfglfpaaa", sum := "4fb36b635f75e4b9a5132f6506cbc184e79ff823ca74c21b1f0a9754b4efe545", func := "facet/facetlaw05.GroupKeeps", spec := "groupKeeps", unfollowed := true, recurses := true, plainKeys := false, apart := false }
def GroupKeepsSaid : Prop := groupKeepsRow.holds Try.pinned (OpenSpec.ofChange groupKeepsSpec)

/-- ITS FALSE NEIGHBOUR: 'it returns false'. Refute it at one input. -/
def groupKeepsWrong : ChangeSpec := { name := "groupKeeps", fn := fun _ => fun
  | [d] => { results := [.lit (.bool false)], args := [d] }
  | _ => none }
def GroupKeepsWrongFalsely : Prop := groupKeepsRow.holds Try.pinned (OpenSpec.ofChange groupKeepsWrong)

/-- 'facetlaw09.OrbitCounts': WHATEVER THE INPUT: true; the input reads as it did. -/
def orbitCountsSpec : ChangeSpec := { name := "orbitCounts", fn := fun _ => fun
  | [d1, d2] => { results := [.lit (.bool true)], args := [d1, d2] }
  | _ => none }
def orbitCountsRow : OpenClaim := { program := "ytneaibkfglfpaaa", sum := "4fb36b635f75e4b9a5132f6506cbc184e79ff823ca74c21b1f0a9754b4efe545", func := "facet/facetlaw09.OrbitCounts", spec := "orbitCounts", unfollowed := true, recurses := true, plainKeys := false, apart := false }
def OrbitCountsSaid : Prop := orbitCountsRow.holds Try.pinned (OpenSpec.ofChange orbitCountsSpec)

/-- ITS FALSE NEIGHBOUR: 'it returns false'. Refute it at one input. -/
def orbitCountsWrong : ChangeSpec := { name := "orbitCounts", fn := fun _ => fun
  | [d1, d2] => { results := [.lit (.bool false)], args := [d1, d2] }
  | _ => none }
def OrbitCountsWrongFalsely : Prop := orbitCountsRow.holds Try.pinned (OpenSpec.ofChange orbitCountsWrong)

/-- 'facetlaw09.OrbitMoves': WHATEVER THE INPUT: true; the input reads as it did. -/
def orbitMovesSpec : ChangeSpec := { name := "orbitMoves", fn := fun _ => fun
  | [d1, d2, d3] => { results := [.lit (.bool true)], args := [d1, d2, d3] }
  | _ => none }
def orbitMovesRow : OpenClaim := { program := "ytneaibkfglfpaaa", sum := "4fb36b635f75e4b9a5132f6506cbc184e79ff823ca74c21b1f0a9754b4efe545", func := "facet/facetlaw09.OrbitMoves", spec := "orbitMoves", unfollowed := true, recurses := true, plainKeys := false, apart := false }
def OrbitMovesSaid : Prop := orbitMovesRow.holds Try.pinned (OpenSpec.ofChange orbitMovesSpec)

/-- ITS FALSE NEIGHBOUR: 'it returns false'. Refute it at one input. -/
def orbitMovesWrong : ChangeSpec := { name := "orbitMoves", fn := fun _ => fun
  | [d1, d2, d3] => { results := [.lit (.bool false)], args := [d1, d2, d3] }
  | _ => none }
def OrbitMovesWrongFalsely : Prop := orbitMovesRow.holds Try.pinned (OpenSpec.ofChange orbitMovesWrong)

/-- 'facetlaw09.OrbitParts': WHATEVER THE INPUT: true; the input reads as it did. -/
def orbitPartsSpec : ChangeSpec := { name := "orbitParts", fn := fun _ => fun
  | [d1, d2, d3] => { results := [.lit (.bool true)], args := [d1, d2, d3] }
  | _ => none }
def orbitPartsRow : OpenClaim := { program := "ytneaibkfglfpaaa", sum := "4fb36b635f75e4b9a5132f6506cbc184e79ff823ca74c21b1f0a9754b4efe545", func := "facet/facetlaw09.OrbitParts", spec := "orbitParts", unfollowed := true, recurses := true, plainKeys := false, apart := false }
def OrbitPartsSaid : Prop := orbitPartsRow.holds Try.pinned (OpenSpec.ofChange orbitPartsSpec)

/-- ITS FALSE NEIGHBOUR: 'it returns false'. Refute it at one input. -/
def orbitPartsWrong : ChangeSpec := { name := "orbitParts", fn := fun _ => fun
  | [d1, d2, d3] => { results := [.lit (.bool false)], args := [d1, d2, d3] }
  | _ => none }
def OrbitPartsWrongFalsely : Prop := orbitPartsRow.holds Try.pinned (OpenSpec.ofChange orbitPartsWrong)

/-- 'facettop.WholeShears': WHATEVER THE INPUT: true; the input reads as it did. -/
def wholeShearsSpec : ChangeSpec := { name := "wholeShears", fn := fun _ => fun
  | [d1, d2, d3] => { results := [.lit (.bool true)], args := [d1, d2, d3] }
  | _ => none }
def wholeShearsRow : OpenClaim := { program := "ytneaibkfglfpaaa", sum := "4fb36b635f75e4b9a5132f6506cbc184e79ff823ca74c21b1f0a9754b4efe545", func := "facet/facettop.WholeShears", spec := "wholeShears", unfollowed := true, recurses := true, plainKeys := false, apart := false }
def WholeShearsSaid : Prop := wholeShearsRow.holds Try.pinned (OpenSpec.ofChange wholeShearsSpec)

/-- ITS FALSE NEIGHBOUR: 'it returns false'. Refute it at one input. -/
def wholeShearsWrong : ChangeSpec := { name := "wholeShears", fn := fun _ => fun
  | [d1, d2, d3] => { results := [.lit (.bool false)], args := [d1, d2, d3] }
  | _ => none }
def WholeShearsWrongFalsely : Prop := wholeShearsRow.holds Try.pinned (OpenSpec.ofChange wholeShearsWrong)

/-- 'facettop.WholeOrbits': WHATEVER THE INPUT: true; the input reads as it did. -/
def wholeOrbitsSpec : ChangeSpec := { name := "wholeOrbits", fn := fun _ => fun
  | [d1, d2, d3, d4] => { results := [.lit (.bool true)], args := [d1, d2, d3, d4] }
  | _ => none }
def wholeOrbitsRow : OpenClaim := { program := "ytneaibkfglfpaaa", sum := "4fb36b635f75e4b9a5132f6506cbc184e79ff823ca74c21b1f0a9754b4efe545", func := "facet/facettop.WholeOrbits", spec := "wholeOrbits", unfollowed := true, recurses := true, plainKeys := false, apart := false }
def WholeOrbitsSaid : Prop := wholeOrbitsRow.holds Try.pinned (OpenSpec.ofChange wholeOrbitsSpec)

/-- ITS FALSE NEIGHBOUR: 'it returns false'. Refute it at one input. -/
def wholeOrbitsWrong : ChangeSpec := { name := "wholeOrbits", fn := fun _ => fun
  | [d1, d2, d3, d4] => { results := [.lit (.bool false)], args := [d1, d2, d3, d4] }
  | _ => none }
def WholeOrbitsWrongFalsely : Prop := wholeOrbitsRow.holds Try.pinned (OpenSpec.ofChange wholeOrbitsWrong)

/- THE SECOND FORM. 'bulk': how many values and letters a reading holds, each counted each time it is reached (what is shared counts as often as it is met; a slice's spare places count too). A statement '..UptoSaid' is the law's where the arguments, and the package variables that the reading takes, are together of bulk at most 1048576: NARROWER than '..Said'. Prove '..Said' where nothing that the law and all that it calls make is longer than what came in: it says more and counts as full. Else prove '..UptoSaid'. A law counts once. -/
mutual
def uptoBulk {H : Type} : DataW H → Nat
  | .lit (.string bytes) => bytes.length + 1
  | .lit _ => 1
  | .nil => 1
  | .ptr d => uptoBulk d + 1
  | .slice elems spare => uptoBulkAll elems + uptoBulkAll spare + 1
  | .agg parts => uptoBulkAll parts + 1
  | .iface _ d => uptoBulk d + 1
  | .map entries => uptoBulkEntries entries + 1
  | .held _ => 1
def uptoBulkAll {H : Type} : List (DataW H) → Nat
  | [] => 0
  | d :: r => uptoBulk d + uptoBulkAll r
def uptoBulkEntries {H : Type} : List (Lit × DataW H) → Nat
  | [] => 0
  | x :: r => uptoBulkEntry x + uptoBulkEntries r
def uptoBulkEntry {H : Type} : Lit × DataW H → Nat
  | (.string bytes, d) => bytes.length + uptoBulk d + 1
  | (_, d) => uptoBulk d + 1
 end
def uptoSmall : (H : Type) → List (DataW H) → Bool := fun _ ds => decide (uptoBulkAll ds ≤ 1048576)
def OpenSpec.upto (s : _root_.Go.ChangeSpec) : _root_.Go.OpenSpec := { _root_.Go.OpenSpec.ofChange s with cond := some uptoSmall }

/-- 'facetlaw05.GroupLeast', WHERE WHAT IT READS IS OF BULK AT MOST 1048576: true; the input reads as it did. -/
def groupLeastUptoRow : OpenClaim := { program := "ytneaibkfglfpaaa", sum := "4fb36b635f75e4b9a5132f6506cbc184e79ff823ca74c21b1f0a9754b4efe545", func := "facet/facetlaw05.GroupLeast", spec := "groupLeast", unfollowed := true, recurses := true, plainKeys := false, apart := false, narrowed := true }
def GroupLeastUptoSaid : Prop := groupLeastUptoRow.holds Try.pinned (OpenSpec.upto groupLeastSpec)

/-- 'facetlaw05.GroupBroken', WHERE WHAT IT READS IS OF BULK AT MOST 1048576: true; the input reads as it did. -/
def groupBrokenUptoRow : OpenClaim := { program := "ytneaibkfglfpaaa", sum := "4fb36b635f75e4b9a5132f6506cbc184e79ff823ca74c21b1f0a9754b4efe545", func := "facet/facetlaw05.GroupBroken", spec := "groupBroken", unfollowed := true, recurses := true, plainKeys := false, apart := false, narrowed := true }
def GroupBrokenUptoSaid : Prop := groupBrokenUptoRow.holds Try.pinned (OpenSpec.upto groupBrokenSpec)

/-- 'facetlaw05.GroupChecks', WHERE WHAT IT READS IS OF BULK AT MOST 1048576: true; the input reads as it did. -/
def groupChecksUptoRow : OpenClaim := { program := "ytneaibkfglfpaaa", sum := "4fb36b635f75e4b9a5132f6506cbc184e79ff823ca74c21b1f0a9754b4efe545", func := "facet/facetlaw05.GroupChecks", spec := "groupChecks", unfollowed := true, recurses := true, plainKeys := false, apart := false, narrowed := true }
def GroupChecksUptoSaid : Prop := groupChecksUptoRow.holds Try.pinned (OpenSpec.upto groupChecksSpec)

/-- 'facetlaw05.GroupKeeps', WHERE WHAT IT READS IS OF BULK AT MOST 1048576: true; the input reads as it did. -/
def groupKeepsUptoRow : OpenClaim := { program := "ytneaibkfglfpaaa", sum := "4fb36b635f75e4b9a5132f6506cbc184e79ff823ca74c21b1f0a9754b4efe545", func := "facet/facetlaw05.GroupKeeps", spec := "groupKeeps", unfollowed := true, recurses := true, plainKeys := false, apart := false, narrowed := true }
def GroupKeepsUptoSaid : Prop := groupKeepsUptoRow.holds Try.pinned (OpenSpec.upto groupKeepsSpec)

/-- 'facetlaw09.OrbitCounts', WHERE WHAT IT READS IS OF BULK AT MOST 1048576: true; the input reads as it did. -/
def orbitCountsUptoRow : OpenClaim := { program := "ytneaibkfglfpaaa", sum := "4fb36b635f75e4b9a5132f6506cbc184e79ff823ca74c21b1f0a9754b4efe545", func := "facet/facetlaw09.OrbitCounts", spec := "orbitCounts", unfollowed := true, recurses := true, plainKeys := false, apart := false, narrowed := true }
def OrbitCountsUptoSaid : Prop := orbitCountsUptoRow.holds Try.pinned (OpenSpec.upto orbitCountsSpec)

/-- 'facetlaw09.OrbitMoves', WHERE WHAT IT READS IS OF BULK AT MOST 1048576: true; the input reads as it did. -/
def orbitMovesUptoRow : OpenClaim := { program := "ytneaibkfglfpaaa", sum := "4fb36b635f75e4b9a5132f6506cbc184e79ff823ca74c21b1f0a9754b4efe545", func := "facet/facetlaw09.OrbitMoves", spec := "orbitMoves", unfollowed := true, recurses := true, plainKeys := false, apart := false, narrowed := true }
def OrbitMovesUptoSaid : Prop := orbitMovesUptoRow.holds Try.pinned (OpenSpec.upto orbitMovesSpec)

/-- 'facetlaw09.OrbitParts', WHERE WHAT IT READS IS OF BULK AT MOST 1048576: true; the input reads as it did. -/
def orbitPartsUptoRow : OpenClaim := { program := "ytneaibkfglfpaaa", sum := "4fb36b635f75e4b9a5132f6506cbc184e79ff823ca74c21b1f0a9754b4efe545", func := "facet/facetlaw09.OrbitParts", spec := "orbitParts", unfollowed := true, recurses := true, plainKeys := false, apart := false, narrowed := true }
def OrbitPartsUptoSaid : Prop := orbitPartsUptoRow.holds Try.pinned (OpenSpec.upto orbitPartsSpec)

/-- 'facettop.WholeShears', WHERE WHAT IT READS IS OF BULK AT MOST 1048576: true; the input reads as it did. -/
def wholeShearsUptoRow : OpenClaim := { program := "ytneaibkfglfpaaa", sum := "4fb36b635f75e4b9a5132f6506cbc184e79ff823ca74c21b1f0a9754b4efe545", func := "facet/facettop.WholeShears", spec := "wholeShears", unfollowed := true, recurses := true, plainKeys := false, apart := false, narrowed := true }
def WholeShearsUptoSaid : Prop := wholeShearsUptoRow.holds Try.pinned (OpenSpec.upto wholeShearsSpec)

/-- 'facettop.WholeOrbits', WHERE WHAT IT READS IS OF BULK AT MOST 1048576: true; the input reads as it did. -/
def wholeOrbitsUptoRow : OpenClaim := { program := "ytneaibkfglfpaaa", sum := "4fb36b635f75e4b9a5132f6506cbc184e79ff823ca74c21b1f0a9754b4efe545", func := "facet/facettop.WholeOrbits", spec := "wholeOrbits", unfollowed := true, recurses := true, plainKeys := false, apart := false, narrowed := true }
def WholeOrbitsUptoSaid : Prop := wholeOrbitsUptoRow.holds Try.pinned (OpenSpec.upto wholeOrbitsSpec)

end Rows
end Go.Proofs.Ytneaibkfglfpaaa
