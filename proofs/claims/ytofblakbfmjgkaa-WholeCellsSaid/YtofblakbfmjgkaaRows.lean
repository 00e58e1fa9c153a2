/-
  No cell of these rows narrows 'for every input' (looked for: loops, veiled, ifaces, maps, wideKeys, modest, calm, conditions, laid).
  DERIVED. THE GIVEN ROWS OF THIS SEAT. 16 by the template 'for every input the law returns true; each argument reads behind the call as it read before'; 0 by the template 'total and deterministic' (their statements: YtofblakbfmjgkaaTotals.lean).
  GIVEN WITH THE SEED: the statements are not yours to turn. If you find one false, say at which input.
  Laid BY PROGRAM, IN A SANDBOX (cutbox-rows.mjs): the forced cells as the released guide's own fill.sh prints them over the translation 724187a6c8577966… (all of the seat's roots in one cut). By AI agents, Wed Nov 11 2026. No macro, syntax, notation, axiom, sorry.
-/
import Derived.Test.YtofblakbfmjgkaaChecked
import GoSem.Claim
import GoSem.ClaimJoined
import GoSem.ClaimMapViews
import Derived.JoinedTies
import Derived.KernelRfl
namespace Go.Proofs.Ytofblakbfmjgkaa
/- THE CELL 'sum', in the pinned program and in every row, IS THE sha256 OF THE DUMP (.gsa) THAT YtofblakbfmjgkaaProg.lean LOADS. Nothing in Lean hashes anything: it is a label: what it is worth is what the hold of that sum in a sandbox is worth. -/
noncomputable def Try.pinned : Pinned := { name := "ytofblakbfmjgkaa", sum := "724187a6c85779661b7b378383ffe386f909b684fa447ede8bf396b579546de1", checked := Try.checked }
namespace Rows
def none {H : Type} : Left H := { results := [], args := [] }

/-- 'facetlaw11.CellChecks': WHATEVER THE INPUT: true; the input reads as it did. -/
def cellChecksSpec : ChangeSpec := { name := "cellChecks", fn := fun _ => fun
  | [d1, d2, d3] => { results := [.lit (.bool true)], args := [d1, d2, d3] }
  | _ => none }
def cellChecksRow : OpenClaim := { program := "ytofblakbfmjgkaa", sum := "724187a6c85779661b7b378383ffe386f909b684fa447ede8bf396b579546de1", func := "facet/facetlaw11.CellChecks", spec := "cellChecks", plainKeys := false, apart := false }
def CellChecksSaid : Prop := cellChecksRow.holds Try.pinned (OpenSpec.ofChange cellChecksSpec)

/-- ITS FALSE NEIGHBOUR: 'it returns false'. Refute it at one input. -/
def cellChecksWrong : ChangeSpec := { name := "cellChecks", fn := fun _ => fun
  | [d1, d2, d3] => { results := [.lit (.bool false)], args := [d1, d2, d3] }
  | _ => none }
def CellChecksWrongFalsely : Prop := cellChecksRow.holds Try.pinned (OpenSpec.ofChange cellChecksWrong)

/-- 'facetlaw11.CellSpacings': WHATEVER THE INPUT: true; the input reads as it did. -/
def cellSpacingsSpec : ChangeSpec := { name := "cellSpacings", fn := fun _ => fun
  | [d1, d2] => { results := [.lit (.bool true)], args := [d1, d2] }
  | _ => none }
def cellSpacingsRow : OpenClaim := { program := "ytofblakbfmjgkaa", sum := "724187a6c85779661b7b378383ffe386f909b684fa447ede8bf396b579546de1", func := "facet/facetlaw11.CellSpacings", spec := "cellSpacings", plainKeys := false, apart := false }
def CellSpacingsSaid : Prop := cellSpacingsRow.holds Try.pinned (OpenSpec.ofChange cellSpacingsSpec)

/-- ITS FALSE NEIGHBOUR: 'it returns false'. Refute it at one input. -/
def cellSpacingsWrong : ChangeSpec := { name := "cellSpacings", fn := fun _ => fun
  | [d1, d2] => { results := [.lit (.bool false)], args := [d1, d2] }
  | _ => none }
def CellSpacingsWrongFalsely : Prop := cellSpacingsRow.holds Try.pinned (OpenSpec.ofChange cellSpacingsWrong)

/-- 'facetlaw11.CellFars': WHATEVER THE INPUT: true; the input reads as it did. -/
def cellFarsSpec : ChangeSpec := { name := "cellFars", fn := fun _ => fun
  | [d1, d2, d3] => { results := [.lit (.bool true)], args := [d1, d2, d3] }
  | _ => none }
def cellFarsRow : OpenClaim := { program := "ytofblakbfmjgkaa", sum := "724187a6c85779661b7b378383ffe386f909b684fa447ede8bf396b579546de1", func := "facet/facetlaw11.CellFars", spec := "cellFars", plainKeys := false, apart := false }
def CellFarsSaid : Prop := cellFarsRow.holds Try.pinned (OpenSpec.ofChange cellFarsSpec)

/-- ITS FALSE NEIGHBOUR: 'it returns false'. Refute it at one input. -/
def cellFarsWrong : ChangeSpec := { name := "cellFars", fn := fun _ => fun
  | [d1, d2, d3] => { results := [.lit (.bool false)], args := [d1, d2, d3] }
  | _ => none }
def CellFarsWrongFalsely : Prop := cellFarsRow.holds Try.pinned (OpenSpec.ofChange cellFarsWrong)

/-- 'facetlaw11.CellCompares': WHATEVER THE INPUT: true; the input reads as it did. -/
def cellComparesSpec : ChangeSpec := { name := "cellCompares", fn := fun _ => fun
  | [d1, d2] => { results := [.lit (.bool true)], args := [d1, d2] }
  | _ => none }
def cellComparesRow : OpenClaim := { program := "ytofblakbfmjgkaa", sum := "724187a6c85779661b7b378383ffe386f909b684fa447ede8bf396b579546de1", func := "facet/facetlaw11.CellCompares", spec := "cellCompares", plainKeys := false, apart := false }
def CellComparesSaid : Prop := cellComparesRow.holds Try.pinned (OpenSpec.ofChange cellComparesSpec)

/-- ITS FALSE NEIGHBOUR: 'it returns false'. Refute it at one input. -/
def cellComparesWrong : ChangeSpec := { name := "cellCompares", fn := fun _ => fun
  | [d1, d2] => { results := [.lit (.bool false)], args := [d1, d2] }
  | _ => none }
def CellComparesWrongFalsely : Prop := cellComparesRow.holds Try.pinned (OpenSpec.ofChange cellComparesWrong)

/-- 'facetlaw11.CellSquares': WHATEVER THE INPUT: true; the input reads as it did. -/
def cellSquaresSpec : ChangeSpec := { name := "cellSquares", fn := fun _ => fun
  | [d1, d2, d3] => { results := [.lit (.bool true)], args := [d1, d2, d3] }
  | _ => none }
def cellSquaresRow : OpenClaim := { program := "ytofblakbfmjgkaa", sum := "724187a6c85779661b7b378383ffe386f909b684fa447ede8bf396b579546de1", func := "facet/facetlaw11.CellSquares", spec := "cellSquares", plainKeys := false, apart := false }
def CellSquaresSaid : Prop := cellSquaresRow.holds Try.pinned (OpenSpec.ofChange cellSquaresSpec)

/-- ITS FALSE NEIGHBOUR: 'it returns false'. Refute it at one input. -/
def cellSquaresWrong : ChangeSpec := { name := "cellSquares", fn := fun _ => fun
  | [d1, d2, d3] => { results := [.lit (.bool false)], args := [d1, d2, d3] }
  | _ => none }
def CellSquaresWrongFalsely : Prop := cellSquaresRow.holds Try.pinned (OpenSpec.ofChange cellSquaresWrong)

/-- 'facetlaw11.CellDual': WHATEVER THE INPUT: true; the input reads as it did. -/
def cellDualSpec : ChangeSpec := { name := "cellDual", fn := fun _ => fun
  | [d1, d2, d3] => { results := [.lit (.bool true)], args := [d1, d2, d3] }
  | _ => none }
def cellDualRow : OpenClaim := { program := "ytofblakbfmjgkaa", sum := "724187a6c85779661b7b378383ffe386f909b684fa447ede8bf396b579546de1", func := "facet/facetlaw11.CellDual", spec := "cellDual", plainKeys := false, apart := false }
def CellDualSaid : Prop := cellDualRow.holds Try.pinned (OpenSpec.ofChange cellDualSpec)

/-- ITS FALSE NEIGHBOUR: 'it returns false'. Refute it at one input. -/
def cellDualWrong : ChangeSpec := { name := "cellDual", fn := fun _ => fun
  | [d1, d2, d3] => { results := [.lit (.bool false)], args := [d1, d2, d3] }
  | _ => none }
def CellDualWrongFalsely : Prop := cellDualRow.holds Try.pinned (OpenSpec.ofChange cellDualWrong)

/-- 'facetlaw11.CellMaps': WHATEVER THE INPUT: true; the input reads as it did. -/
def cellMapsSpec : ChangeSpec := { name := "cellMaps", fn := fun _ => fun
  | [d1, d2, d3, d4] => { results := [.lit (.bool true)], args := [d1, d2, d3, d4] }
  | _ => none }
def cellMapsRow : OpenClaim := { program := "ytofblakbfmjgkaa", sum := "724187a6c85779661b7b378383ffe386f909b684fa447ede8bf396b579546de1", func := "facet/facetlaw11.CellMaps", spec := "cellMaps", unfollowed := true, recurses := true, plainKeys := false, apart := false }
def CellMapsSaid : Prop := cellMapsRow.holds Try.pinned (OpenSpec.ofChange cellMapsSpec)

/-- ITS FALSE NEIGHBOUR: 'it returns false'. Refute it at one input. -/
def cellMapsWrong : ChangeSpec := { name := "cellMaps", fn := fun _ => fun
  | [d1, d2, d3, d4] => { results := [.lit (.bool false)], args := [d1, d2, d3, d4] }
  | _ => none }
def CellMapsWrongFalsely : Prop := cellMapsRow.holds Try.pinned (OpenSpec.ofChange cellMapsWrong)

/-- 'facetlaw11.CellTotal': WHATEVER THE INPUT: true; the input reads as it did. -/
def cellTotalSpec : ChangeSpec := { name := "cellTotal", fn := fun _ => fun
  | [d1, d2, d3] => { results := [.lit (.bool true)], args := [d1, d2, d3] }
  | _ => none }
def cellTotalRow : OpenClaim := { program := "ytofblakbfmjgkaa", sum := "724187a6c85779661b7b378383ffe386f909b684fa447ede8bf396b579546de1", func := "facet/facetlaw11.CellTotal", spec := "cellTotal", plainKeys := false, apart := false }
def CellTotalSaid : Prop := cellTotalRow.holds Try.pinned (OpenSpec.ofChange cellTotalSpec)

/-- ITS FALSE NEIGHBOUR: 'it returns false'. Refute it at one input. -/
def cellTotalWrong : ChangeSpec := { name := "cellTotal", fn := fun _ => fun
  | [d1, d2, d3] => { results := [.lit (.bool false)], args := [d1, d2, d3] }
  | _ => none }
def CellTotalWrongFalsely : Prop := cellTotalRow.holds Try.pinned (OpenSpec.ofChange cellTotalWrong)

/-- 'facetlaw12.ReduceSteps': WHATEVER THE INPUT: true; the input reads as it did. -/
def reduceStepsSpec : ChangeSpec := { name := "reduceSteps", fn := fun _ => fun
  | [d] => { results := [.lit (.bool true)], args := [d] }
  | _ => none }
def reduceStepsRow : OpenClaim := { program := "ytofblakbfmjgkaa", sum := "724187a6c85779661b7b378383ffe386f909b684fa447ede8bf396b579546de1", func := "facet/facetlaw12.ReduceSteps", spec := "reduceSteps", plainKeys := false, apart := false }
def ReduceStepsSaid : Prop := reduceStepsRow.holds Try.pinned (OpenSpec.ofChange reduceStepsSpec)

/-- ITS FALSE NEIGHBOUR: 'it returns false'. Refute it at one input. -/
def reduceStepsWrong : ChangeSpec := { name := "reduceSteps", fn := fun _ => fun
  | [d] => { results := [.lit (.bool false)], args := [d] }
  | _ => none }
def ReduceStepsWrongFalsely : Prop := reduceStepsRow.holds Try.pinned (OpenSpec.ofChange reduceStepsWrong)

/-- 'facetlaw12.ReduceObtuses': WHATEVER THE INPUT: true; the input reads as it did. -/
def reduceObtusesSpec : ChangeSpec := { name := "reduceObtuses", fn := fun _ => fun
  | [d] => { results := [.lit (.bool true)], args := [d] }
  | _ => none }
def reduceObtusesRow : OpenClaim := { program := "ytofblakbfmjgkaa", sum := "724187a6c85779661b7b378383ffe386f909b684fa447ede8bf396b579546de1", func := "facet/facetlaw12.ReduceObtuses", spec := "reduceObtuses", plainKeys := false, apart := false }
def ReduceObtusesSaid : Prop := reduceObtusesRow.holds Try.pinned (OpenSpec.ofChange reduceObtusesSpec)

/-- ITS FALSE NEIGHBOUR: 'it returns false'. Refute it at one input. -/
def reduceObtusesWrong : ChangeSpec := { name := "reduceObtuses", fn := fun _ => fun
  | [d] => { results := [.lit (.bool false)], args := [d] }
  | _ => none }
def ReduceObtusesWrongFalsely : Prop := reduceObtusesRow.holds Try.pinned (OpenSpec.ofChange reduceObtusesWrong)

/-- 'facetlaw12.ReduceTurneds': WHATEVER THE INPUT: true; the input reads as it did. -/
def reduceTurnedsSpec : ChangeSpec := { name := "reduceTurneds", fn := fun _ => fun
  | [d1, d2] => { results := [.lit (.bool true)], args := [d1, d2] }
  | _ => none }
def reduceTurnedsRow : OpenClaim := { program := "ytofblakbfmjgkaa", sum := "724187a6c85779661b7b378383ffe386f909b684fa447ede8bf396b579546de1", func := "facet/facetlaw12.ReduceTurneds", spec := "reduceTurneds", plainKeys := false, apart := false }
def ReduceTurnedsSaid : Prop := reduceTurnedsRow.holds Try.pinned (OpenSpec.ofChange reduceTurnedsSpec)

/-- ITS FALSE NEIGHBOUR: 'it returns false'. Refute it at one input. -/
def reduceTurnedsWrong : ChangeSpec := { name := "reduceTurneds", fn := fun _ => fun
  | [d1, d2] => { results := [.lit (.bool false)], args := [d1, d2] }
  | _ => none }
def ReduceTurnedsWrongFalsely : Prop := reduceTurnedsRow.holds Try.pinned (OpenSpec.ofChange reduceTurnedsWrong)

/-- 'facetlaw12.ReduceEnds': WHATEVER THE INPUT: true; the input reads as it did. -/
def reduceEndsSpec : ChangeSpec := { name := "reduceEnds", fn := fun _ => fun
  | [d] => { results := [.lit (.bool true)], args := [d] }
  | _ => none }
def reduceEndsRow : OpenClaim := { program := "ytofblakbfmjgkaa", sum := "724187a6c85779661b7b378383ffe386f909b684fa447ede8bf396b579546de1", func := "facet/facetlaw12.ReduceEnds", spec := "reduceEnds", plainKeys := false, apart := false }
def ReduceEndsSaid : Prop := reduceEndsRow.holds Try.pinned (OpenSpec.ofChange reduceEndsSpec)

/-- ITS FALSE NEIGHBOUR: 'it returns false'. Refute it at one input. -/
def reduceEndsWrong : ChangeSpec := { name := "reduceEnds", fn := fun _ => fun
  | [d] => { results := [.lit (.bool false)], args := [d] }
  | _ => none }
def ReduceEndsWrongFalsely : Prop := reduceEndsRow.holds Try.pinned (OpenSpec.ofChange reduceEndsWrong)

/-- 'facetlaw12.ReduceFalls': WHATEVER THE INPUT: true; the input reads as it did. -/
def reduceFallsSpec : ChangeSpec := { name := "reduceFalls", fn := fun _ => fun
  | [d] => { results := [.lit (.bool true)], args := [d] }
  | _ => none }
def reduceFallsRow : OpenClaim := { program := "ytofblakbfmjgkaa", sum := "724187a6c85779661b7b378383ffe386f909b684fa447ede8bf396b579546de1", func := "facet/facetlaw12.ReduceFalls", spec := "reduceFalls", plainKeys := false, apart := false }
def ReduceFallsSaid : Prop := reduceFallsRow.holds Try.pinned (OpenSpec.ofChange reduceFallsSpec)

/-- ITS FALSE NEIGHBOUR: 'it returns false'. Refute it at one input. -/
def reduceFallsWrong : ChangeSpec := { name := "reduceFalls", fn := fun _ => fun
  | [d] => { results := [.lit (.bool false)], args := [d] }
  | _ => none }
def ReduceFallsWrongFalsely : Prop := reduceFallsRow.holds Try.pinned (OpenSpec.ofChange reduceFallsWrong)

/-- 'facetlaw12.ReduceVectors': WHATEVER THE INPUT: true; the input reads as it did. -/
def reduceVectorsSpec : ChangeSpec := { name := "reduceVectors", fn := fun _ => fun
  | [d1, d2, d3] => { results := [.lit (.bool true)], args := [d1, d2, d3] }
  | _ => none }
def reduceVectorsRow : OpenClaim := { program := "ytofblakbfmjgkaa", sum := "724187a6c85779661b7b378383ffe386f909b684fa447ede8bf396b579546de1", func := "facet/facetlaw12.ReduceVectors", spec := "reduceVectors", plainKeys := false, apart := false }
def ReduceVectorsSaid : Prop := reduceVectorsRow.holds Try.pinned (OpenSpec.ofChange reduceVectorsSpec)

/-- ITS FALSE NEIGHBOUR: 'it returns false'. Refute it at one input. -/
def reduceVectorsWrong : ChangeSpec := { name := "reduceVectors", fn := fun _ => fun
  | [d1, d2, d3] => { results := [.lit (.bool false)], args := [d1, d2, d3] }
  | _ => none }
def ReduceVectorsWrongFalsely : Prop := reduceVectorsRow.holds Try.pinned (OpenSpec.ofChange reduceVectorsWrong)

/-- 'facettop.WholeCells': WHATEVER THE INPUT: true; the input reads as it did. -/
def wholeCellsSpec : ChangeSpec := { name := "wholeCells", fn := fun _ => fun
  | [d1, d2, d3, d4, d5] => { results := [.lit (.bool true)], args := [d1, d2, d3, d4, d5] }
  | _ => none }
def wholeCellsRow : OpenClaim := { program := "ytofblakbfmjgkaa", sum := "724187a6c85779661b7b378383ffe386f909b684fa447ede8bf396b579546de1", func := "facet/facettop.WholeCells", spec := "wholeCells", plainKeys := false, apart := false }
def WholeCellsSaid : Prop := wholeCellsRow.holds Try.pinned (OpenSpec.ofChange wholeCellsSpec)

/-- ITS FALSE NEIGHBOUR: 'it returns false'. Refute it at one input. -/
def wholeCellsWrong : ChangeSpec := { name := "wholeCells", fn := fun _ => fun
  | [d1, d2, d3, d4, d5] => { results := [.lit (.bool false)], args := [d1, d2, d3, d4, d5] }
  | _ => none }
def WholeCellsWrongFalsely : Prop := wholeCellsRow.holds Try.pinned (OpenSpec.ofChange wholeCellsWrong)

/-- 'facettop.WholeDistances': WHATEVER THE INPUT: true; the input reads as it did. -/
def wholeDistancesSpec : ChangeSpec := { name := "wholeDistances", fn := fun _ => fun
  | [d1, d2, d3, d4] => { results := [.lit (.bool true)], args := [d1, d2, d3, d4] }
  | _ => none }
def wholeDistancesRow : OpenClaim := { program := "ytofblakbfmjgkaa", sum := "724187a6c85779661b7b378383ffe386f909b684fa447ede8bf396b579546de1", func := "facet/facettop.WholeDistances", spec := "wholeDistances", unfollowed := true, recurses := true, plainKeys := false, apart := false }
def WholeDistancesSaid : Prop := wholeDistancesRow.holds Try.pinned (OpenSpec.ofChange wholeDistancesSpec)

/-- ITS FALSE NEIGHBOUR: 'it returns false'. Refute it at one input. -/
def wholeDistancesWrong : ChangeSpec := { name := "wholeDistances", fn := fun _ => fun
  | [d1, d2, d3, d4] => { results := [.lit (.bool false)], args := [d1, d2, d3, d4] }
  | _ => none }
def WholeDistancesWrongFalsely : Prop := wholeDistancesRow.holds Try.pinned (OpenSpec.ofChange wholeDistancesWrong)

/- THE SECOND FORM. 'bulk': how many values and letters a reading holds, each counted each time it is reached (what is shared counts as often as it is met; a slice's spare places count too). A statement '..UptoSaid' is the law's where the arguments, and the package variables that the reading takes, are together of bulk at most 1048576: NARROWER than '..Said'. Prove '..Said' where nothing that the law and all that it calls make is longer than what came in: it says more and counts as full. Else prove '..UptoSaid'. A law counts once. -/
mutual
def uptoBulk {H : Type} : DataW H → Nat
  | .lit (.string bytes) => bytes.length + 1
  | .lit _ => 1
  | .nil => 1
  | .ptr d => uptoBulk d + 1
  | .slice elems spare => uptoBulkAll elems + uptoBulkAll spare + 1
  | .agg parts => uptoBulkAll parts + 1
  | .iface _ d => uptoBulk d + 1
  | .map entries => uptoBulkEntries entries + 1
  | .held _ => 1
def uptoBulkAll {H : Type} : List (DataW H) → Nat
  | [] => 0
  | d :: r => uptoBulk d + uptoBulkAll r
def uptoBulkEntries {H : Type} : List (Lit × DataW H) → Nat
  | [] => 0
  | x :: r => uptoBulkEntry x + uptoBulkEntries r
def uptoBulkEntry {H : Type} : Lit × DataW H → Nat
  | (.string bytes, d) => bytes.length + uptoBulk d + 1
  | (_, d) => uptoBulk d + 1
 end
def uptoSmall : (H : Type) → List (DataW H) → Bool := fun _ ds => decide (uptoBulkAll ds ≤ 1048576)
def OpenSpec.upto (s : _root_.Go.ChangeSpec) : _root_.Go.OpenSpec := { _root_.Go.OpenSpec.ofChange s with cond := some uptoSmall }

/-- 'facetlaw11.CellChecks', WHERE WHAT IT READS IS OF BULK AT MOST 1048576: true; the input reads as it did. -/
def cellChecksUptoRow : OpenClaim := { program := "ytofblakbfmjgkaa", sum := "724187a6c85779661b7b378383ffe386f909b684fa447ede8bf396b579546de1", func := "facet/facetlaw11.CellChecks", spec := "cellChecks", plainKeys := false, apart := false, narrowed := true }
def CellChecksUptoSaid : Prop := cellChecksUptoRow.holds Try.pinned (OpenSpec.upto cellChecksSpec)

/-- 'facetlaw11.CellSpacings', WHERE WHAT IT READS IS OF BULK AT MOST 1048576: true; the input reads as it did. -/
def cellSpacingsUptoRow : OpenClaim := { program := "ytofblakbfmjgkaa", sum := "724187a6c85779661b7b378383ffe386f909b684fa447ede8bf396b579546de1", func := "facet/facetlaw11.CellSpacings", spec := "cellSpacings", plainKeys := false, apart := false, narrowed := true }
def CellSpacingsUptoSaid : Prop := cellSpacingsUptoRow.holds Try.pinned (OpenSpec.upto cellSpacingsSpec)

/-- 'facetlaw11.CellFars', WHERE WHAT IT READS IS OF BULK AT MOST 1048576: true; the input reads as it did. -/
def cellFarsUptoRow : OpenClaim := { program := "ytofblakbfmjgkaa", sum := "724187a6c85779661b7b378383ffe386f909b684fa447ede8bf396b579546de1", func := "facet/facetlaw11.CellFars", spec := "cellFars", plainKeys := false, apart := false, narrowed := true }
def CellFarsUptoSaid : Prop := cellFarsUptoRow.holds Try.pinned (OpenSpec.upto cellFarsSpec)

/-- 'facetlaw11.CellCompares', WHERE WHAT IT READS IS OF BULK AT MOST 1048576: true; the input reads as it did. -/
def cellComparesUptoRow : OpenClaim := { program := "ytofblakbfmjgkaa", sum := "724187a6c85779661b7b378383ffe386f909b684fa447ede8bf396b579546de1", func := "facet/facetlaw11.CellCompares", spec := "cellCompares", plainKeys := false, apart := false, narrowed := true }
def CellComparesUptoSaid : Prop := cellComparesUptoRow.holds Try.pinned (OpenSpec.upto cellComparesSpec)

/-- 'facetlaw11.CellSquares', WHERE WHAT IT READS IS OF BULK AT MOST 1048576: true; the input reads as it did. -/
def cellSquaresUptoRow : OpenClaim := { program := "ytofblakbfmjgkaa", sum := "724187a6c85779661b7b378383ffe386f909b684fa447ede8bf396b579546de1", func := "facet/facetlaw11.CellSquares", spec := "cellSquares", plainKeys := false, apart := false, narrowed := true }
def CellSquaresUptoSaid : Prop := cellSquaresUptoRow.holds Try.pinned (OpenSpec.upto cellSquaresSpec)

/-- 'facetlaw11.CellDual', WHERE WHAT IT READS IS OF BULK AT MOST 1048576: true; the input reads as it did. -/
def cellDualUptoRow : OpenClaim := { program := "ytofblakbfmjgkaa", sum := "724187a6c85779661b7b378383ffe386f909b684fa447ede8bf396b579546de1", func := "facet/facetlaw11.CellDual", spec := "cellDual", plainKeys := false, apart := false, narrowed := true }
def CellDualUptoSaid : Prop := cellDualUptoRow.holds Try.pinned (OpenSpec.upto cellDualSpec)

/-- 'facetlaw11.CellMaps', WHERE WHAT IT READS IS OF BULK AT MOST 1048576: true; the input reads as it did. -/
def cellMapsUptoRow : OpenClaim := { program := "ytofblakbfmjgkaa", sum := "724187a6c85779661b7b378383ffe386f909b684fa447ede8bf396b579546de1", func := "facet/facetlaw11.CellMaps", spec := "cellMaps", unfollowed := true, recurses := true, plainKeys := false, apart := false, narrowed := true }
def CellMapsUptoSaid : Prop := cellMapsUptoRow.holds Try.pinned (OpenSpec.upto cellMapsSpec)

/-- 'facetlaw11.CellTotal', WHERE WHAT IT READS IS OF BULK AT MOST 1048576: true; the input reads as it did. -/
def cellTotalUptoRow : OpenClaim := { program := "ytofblakbfmjgkaa", sum := "724187a6c85779661b7b378383ffe386f909b684fa447ede8bf396b579546de1", func := "facet/facetlaw11.CellTotal", spec := "cellTotal", plainKeys := false, apart := false, narrowed := true }
def CellTotalUptoSaid : Prop := cellTotalUptoRow.holds Try.pinned (OpenSpec.upto cellTotalSpec)

/-- 'facetlaw12.ReduceSteps', WHERE WHAT IT READS IS OF BULK AT MOST 1048576: true; the input reads as it did. -/
def reduceStepsUptoRow : OpenClaim := { program := "ytofblakbfmjgkaa", sum := "724187a6c85779661b7b378383ffe386f909b684fa447ede8bf396b579546de1", func := "facet/facetlaw12.ReduceSteps", spec := "reduceSteps", plainKeys := false, apart := false, narrowed := true }
def ReduceStepsUptoSaid : Prop := reduceStepsUptoRow.holds Try.pinned (OpenSpec.upto reduceStepsSpec)

/-- 'facetlaw12.ReduceObtuses', WHERE WHAT IT READS IS OF BULK AT MOST 1048576: true; the input reads as it did. -/
def reduceObtusesUptoRow : OpenClaim := { program := "ytofblakbfmjgkaa", sum := "724187a6c85779661b7b378383ffe386f909b684fa447ede8bf396b579546de1", func := "facet/facetlaw12.ReduceObtuses", spec := "reduceObtuses", plainKeys := false, apart := false, narrowed := true }
def ReduceObtusesUptoSaid : Prop := reduceObtusesUptoRow.holds Try.pinned (OpenSpec.upto reduceObtusesSpec)

/-- 'facetlaw12.ReduceTurneds', WHERE WHAT IT READS IS OF BULK AT MOST 1048576: true; the input reads as it did. -/
def reduceTurnedsUptoRow : OpenClaim := { program := "ytofblakbfmjgkaa", sum := "724187a6c85779661b7b378383ffe386f909b684fa447ede8bf396b579546de1", func := "facet/facetlaw12.ReduceTurneds", spec := "reduceTurneds", plainKeys := false, apart := false, narrowed := true }
def ReduceTurnedsUptoSaid : Prop := reduceTurnedsUptoRow.holds Try.pinned (OpenSpec.upto reduceTurnedsSpec)

/-- 'facetlaw12.ReduceEnds', WHERE WHAT IT READS IS OF BULK AT MOST 1048576: true; the input reads as it did. -/
def reduceEndsUptoRow : OpenClaim := { program := "ytofblakbfmjgkaa", sum := "724187a6c85779661b7b378383ffe386f909b684fa447ede8bf396b579546de1", func := "facet/facetlaw12.ReduceEnds", spec := "reduceEnds", plainKeys := false, apart := false, narrowed := true }
def ReduceEndsUptoSaid : Prop := reduceEndsUptoRow.holds Try.pinned (OpenSpec.upto reduceEndsSpec)

/-- 'facetlaw12.ReduceFalls', WHERE WHAT IT READS IS OF BULK AT MOST 1048576: true; the input reads as it did. -/
def reduceFallsUptoRow : OpenClaim := { program := "ytofblakbfmjgkaa", sum := "724187a6c85779661b7b378383ffe386f909b684fa447ede8bf396b579546de1", func := "facet/facetlaw12.ReduceFalls", spec := "reduceFalls", plainKeys := false, apart := false, narrowed := true }
def ReduceFallsUptoSaid : Prop := reduceFallsUptoRow.holds Try.pinned (OpenSpec.upto reduceFallsSpec)

/-- 'facetlaw12.ReduceVectors', WHERE WHAT IT READS IS OF BULK AT MOST 1048576: true; the input reads as it did. -/
def reduceVectorsUptoRow : OpenClaim := { program := "ytofblakbfmjgkaa", sum := "724187a6c85779661b7b378383ffe386f909b684fa447ede8bf396b579546de1", func := "facet/facetlaw12.ReduceVectors", spec := "reduceVectors", plainKeys := false, apart := false, narrowed := true }
def ReduceVectorsUptoSaid : Prop := reduceVectorsUptoRow.holds Try.pinned (OpenSpec.upto reduceVectorsSpec)

/-- 'facettop.WholeCells', WHERE WHAT IT READS IS OF BULK AT MOST 1048576: true; the input reads as it did. -/
def wholeCellsUptoRow : OpenClaim := { program := "ytofblakbfmjgkaa", sum := "724187a6c85779661b7b378383ffe386f909b684fa447ede8bf396b579546de1", func := "facet/facettop.WholeCells", spec := "wholeCells", plainKeys := false, apart := false, narrowed := true }
def WholeCellsUptoSaid : Prop := wholeCellsUptoRow.holds Try.pinned (OpenSpec.upto wholeCellsSpec)

/-- 'facettop.WholeDistances', WHERE WHAT IT READS IS OF BULK AT MOST 1048576: true; the input reads as it did. -/
def wholeDistancesUptoRow : OpenClaim := { program := "ytofblakbfmjgkaa", sum := "724187a6c85779661b7b378383ffe386f909b684fa447ede8bf396b579546de1", func := "facet/facettop.WholeDistances", spec := "wholeDistances", unfollowed := true, recurses := true, plainKeys := false, apart := false, narrowed := true }
def WholeDistancesUptoSaid : Prop := wholeDistancesUptoRow.holds Try.pinned (OpenSpec.upto wholeDistancesSpec)

end Rows
end Go.Proofs.Ytofblakbfmjgkaa
