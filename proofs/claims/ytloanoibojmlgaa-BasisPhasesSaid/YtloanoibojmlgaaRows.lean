/-
  No cell of these rows narrows 'for every input' (looked for: loops, veiled, ifaces, maps, wideKeys, modest, calm, conditions, laid).
  DERIVED. THE GIVEN ROWS OF THIS SEAT. 6 by the template 'for every input the law returns true; each argument reads behind the call as it read before'; 0 by the template 'total and deterministic' (their statements: YtloanoibojmlgaaTotals.lean).
  GIVEN WITH THE SEED: the statements are not yours to turn. If you find one false, say at which input.
  Laid BY PROGRAM, IN A SANDBOX (cutbox-rows.mjs): the forced cells as the released guide's own fill.sh prints them over the translation 17479f07c4e6e2d6… (all of the seat's roots in one cut). By AI agents, Wed Nov 11 2026. No macro, syntax, notation, axiom, sorry.
-/
import Derived.Test.YtloanoibojmlgaaChecked
import GoSem.Claim
import GoSem.ClaimJoined
import GoSem.ClaimMapViews
import Derived.JoinedTies
import Derived.KernelRfl
namespace Go.Proofs.Ytloanoibojmlgaa
/- THE CELL 'sum', in the pinned program and in every row, IS THE sha256 OF THE DUMP (.gsa) THAT YtloanoibojmlgaaProg.lean LOADS. Nothing in Lean hashes anything: it is a label: what it is worth is what the hold of that sum in a sandbox is worth. -/
noncomputable def Try.pinned : Pinned := { name := "ytloanoibojmlgaa", sum := "17479f07c4e6e2d66f124f7df8917bd35a378eeaa0c05b55dc3c12d58d15401f", checked := Try.checked }
namespace Rows
def none {H : Type} : Left H := { results := [], args := [] }

/-- 'facetlaw07.BasisChanges': WHATEVER THE INPUT: true; the input reads as it did. -/
def basisChangesSpec : ChangeSpec := { name := "basisChanges", fn := fun _ => fun
  | [d1, d2] => { results := [.lit (.bool true)], args := [d1, d2] }
  | _ => none }
def basisChangesRow : OpenClaim := { program := "ytloanoibojmlgaa", sum := "17479f07c4e6e2d66f124f7df8917bd35a378eeaa0c05b55dc3c12d58d15401f", func := "facet/facetlaw07.BasisChanges", spec := "basisChanges", apart := false }
def BasisChangesSaid : Prop := basisChangesRow.holds Try.pinned (OpenSpec.ofChange basisChangesSpec)

/-- ITS FALSE NEIGHBOUR: 'it returns false'. Refute it at one input. -/
def basisChangesWrong : ChangeSpec := { name := "basisChanges", fn := fun _ => fun
  | [d1, d2] => { results := [.lit (.bool false)], args := [d1, d2] }
  | _ => none }
def BasisChangesWrongFalsely : Prop := basisChangesRow.holds Try.pinned (OpenSpec.ofChange basisChangesWrong)

/-- 'facetlaw07.BasisThings': WHATEVER THE INPUT: true; the input reads as it did. -/
def basisThingsSpec : ChangeSpec := { name := "basisThings", fn := fun _ => fun
  | [d1, d2, d3, d4] => { results := [.lit (.bool true)], args := [d1, d2, d3, d4] }
  | _ => none }
def basisThingsRow : OpenClaim := { program := "ytloanoibojmlgaa", sum := "17479f07c4e6e2d66f124f7df8917bd35a378eeaa0c05b55dc3c12d58d15401f", func := "facet/facetlaw07.BasisThings", spec := "basisThings", apart := false }
def BasisThingsSaid : Prop := basisThingsRow.holds Try.pinned (OpenSpec.ofChange basisThingsSpec)

/-- ITS FALSE NEIGHBOUR: 'it returns false'. Refute it at one input. -/
def basisThingsWrong : ChangeSpec := { name := "basisThings", fn := fun _ => fun
  | [d1, d2, d3, d4] => { results := [.lit (.bool false)], args := [d1, d2, d3, d4] }
  | _ => none }
def BasisThingsWrongFalsely : Prop := basisThingsRow.holds Try.pinned (OpenSpec.ofChange basisThingsWrong)

/-- 'facetlaw07.BasisMetrics': WHATEVER THE INPUT: true; the input reads as it did. -/
def basisMetricsSpec : ChangeSpec := { name := "basisMetrics", fn := fun _ => fun
  | [d1, d2] => { results := [.lit (.bool true)], args := [d1, d2] }
  | _ => none }
def basisMetricsRow : OpenClaim := { program := "ytloanoibojmlgaa", sum := "17479f07c4e6e2d66f124f7df8917bd35a378eeaa0c05b55dc3c12d58d15401f", func := "facet/facetlaw07.BasisMetrics", spec := "basisMetrics", apart := false }
def BasisMetricsSaid : Prop := basisMetricsRow.holds Try.pinned (OpenSpec.ofChange basisMetricsSpec)

/-- ITS FALSE NEIGHBOUR: 'it returns false'. Refute it at one input. -/
def basisMetricsWrong : ChangeSpec := { name := "basisMetrics", fn := fun _ => fun
  | [d1, d2] => { results := [.lit (.bool false)], args := [d1, d2] }
  | _ => none }
def BasisMetricsWrongFalsely : Prop := basisMetricsRow.holds Try.pinned (OpenSpec.ofChange basisMetricsWrong)

/-- 'facetlaw07.BasisGoes': WHATEVER THE INPUT: true; the input reads as it did. -/
def basisGoesSpec : ChangeSpec := { name := "basisGoes", fn := fun _ => fun
  | [d1, d2, d3] => { results := [.lit (.bool true)], args := [d1, d2, d3] }
  | _ => none }
def basisGoesRow : OpenClaim := { program := "ytloanoibojmlgaa", sum := "17479f07c4e6e2d66f124f7df8917bd35a378eeaa0c05b55dc3c12d58d15401f", func := "facet/facetlaw07.BasisGoes", spec := "basisGoes", apart := false }
def BasisGoesSaid : Prop := basisGoesRow.holds Try.pinned (OpenSpec.ofChange basisGoesSpec)

/-- ITS FALSE NEIGHBOUR: 'it returns false'. Refute it at one input. -/
def basisGoesWrong : ChangeSpec := { name := "basisGoes", fn := fun _ => fun
  | [d1, d2, d3] => { results := [.lit (.bool false)], args := [d1, d2, d3] }
  | _ => none }
def BasisGoesWrongFalsely : Prop := basisGoesRow.holds Try.pinned (OpenSpec.ofChange basisGoesWrong)

/-- 'facetlaw07.BasisBack': WHATEVER THE INPUT: true; the input reads as it did. -/
def basisBackSpec : ChangeSpec := { name := "basisBack", fn := fun _ => fun
  | [d1, d2, d3, d4] => { results := [.lit (.bool true)], args := [d1, d2, d3, d4] }
  | _ => none }
def basisBackRow : OpenClaim := { program := "ytloanoibojmlgaa", sum := "17479f07c4e6e2d66f124f7df8917bd35a378eeaa0c05b55dc3c12d58d15401f", func := "facet/facetlaw07.BasisBack", spec := "basisBack", apart := false }
def BasisBackSaid : Prop := basisBackRow.holds Try.pinned (OpenSpec.ofChange basisBackSpec)

/-- ITS FALSE NEIGHBOUR: 'it returns false'. Refute it at one input. -/
def basisBackWrong : ChangeSpec := { name := "basisBack", fn := fun _ => fun
  | [d1, d2, d3, d4] => { results := [.lit (.bool false)], args := [d1, d2, d3, d4] }
  | _ => none }
def BasisBackWrongFalsely : Prop := basisBackRow.holds Try.pinned (OpenSpec.ofChange basisBackWrong)

/-- 'facetlaw07.BasisPhases': WHATEVER THE INPUT: true; the input reads as it did. -/
def basisPhasesSpec : ChangeSpec := { name := "basisPhases", fn := fun _ => fun
  | [d1, d2, d3] => { results := [.lit (.bool true)], args := [d1, d2, d3] }
  | _ => none }
def basisPhasesRow : OpenClaim := { program := "ytloanoibojmlgaa", sum := "17479f07c4e6e2d66f124f7df8917bd35a378eeaa0c05b55dc3c12d58d15401f", func := "facet/facetlaw07.BasisPhases", spec := "basisPhases", apart := false }
def BasisPhasesSaid : Prop := basisPhasesRow.holds Try.pinned (OpenSpec.ofChange basisPhasesSpec)

/-- ITS FALSE NEIGHBOUR: 'it returns false'. Refute it at one input. -/
def basisPhasesWrong : ChangeSpec := { name := "basisPhases", fn := fun _ => fun
  | [d1, d2, d3] => { results := [.lit (.bool false)], args := [d1, d2, d3] }
  | _ => none }
def BasisPhasesWrongFalsely : Prop := basisPhasesRow.holds Try.pinned (OpenSpec.ofChange basisPhasesWrong)

/- THE SECOND FORM. 'bulk': how many values and letters a reading holds, each counted each time it is reached (what is shared counts as often as it is met; a slice's spare places count too). A statement '..UptoSaid' is the law's where the arguments, and the package variables that the reading takes, are together of bulk at most 1048576: NARROWER than '..Said'. Prove '..Said' where nothing that the law and all that it calls make is longer than what came in: it says more and counts as full. Else prove '..UptoSaid'. A law counts once. -/
mutual
def uptoBulk {H : Type} : DataW H → Nat
  | .lit (.string bytes) => bytes.length + 1
  | .lit _ => 1
  | .nil => 1
  | .ptr d => uptoBulk d + 1
  | .slice elems spare => uptoBulkAll elems + uptoBulkAll spare + 1
  | .agg parts => uptoBulkAll parts + 1
  | .iface _ d => uptoBulk d + 1
  | .map entries => uptoBulkEntries entries + 1
  | .held _ => 1
def uptoBulkAll {H : Type} : List (DataW H) → Nat
  | [] => 0
  | d :: r => uptoBulk d + uptoBulkAll r
def uptoBulkEntries {H : Type} : List (Lit × DataW H) → Nat
  | [] => 0
  | x :: r => uptoBulkEntry x + uptoBulkEntries r
def uptoBulkEntry {H : Type} : Lit × DataW H → Nat
  | (.string bytes, d) => bytes.length + uptoBulk d + 1
  | (_, d) => uptoBulk d + 1
 end
def uptoSmall : (H : Type) → List (DataW H) → Bool := fun _ ds => decide (uptoBulkAll ds ≤ 1048576)
def OpenSpec.upto (s : _root_.Go.ChangeSpec) : _root_.Go.OpenSpec := { _root_.Go.OpenSpec.ofChange s with cond := some uptoSmall }

/-- 'facetlaw07.BasisChanges', WHERE WHAT IT READS IS OF BULK AT MOST 1048576: true; the input reads as it did. -/
def basisChangesUptoRow : OpenClaim := { program := "ytloanoibojmlgaa", sum := "17479f07c4e6e2d66f124f7df8917bd35a378eeaa0c05b55dc3c12d58d15401f", func := "facet/facetlaw07.BasisChanges", spec := "basisChanges", apart := false, narrowed := true }
def BasisChangesUptoSaid : Prop := basisChangesUptoRow.holds Try.pinned (OpenSpec.upto basisChangesSpec)

/-- 'facetlaw07.BasisThings', WHERE WHAT IT READS IS OF BULK AT MOST 1048576: true; the input reads as it did. -/
def basisThingsUptoRow : OpenClaim := { program := "ytloanoibojmlgaa", sum := "17479f07c4e6e2d66f124f7df8917bd35a378eeaa0c05b55dc3c12d58d15401f", func := "facet/facetlaw07.BasisThings", spec := "basisThings", apart := false, narrowed := true }
def BasisThingsUptoSaid : Prop := basisThingsUptoRow.holds Try.pinned (OpenSpec.upto basisThingsSpec)

/-- 'facetlaw07.BasisMetrics', WHERE WHAT IT READS IS OF BULK AT MOST 1048576: true; the input reads as it did. -/
def basisMetricsUptoRow : OpenClaim := { program := "ytloanoibojmlgaa", sum := "17479f07c4e6e2d66f124f7df8917bd35a378eeaa0c05b55dc3c12d58d15401f", func := "facet/facetlaw07.BasisMetrics", spec := "basisMetrics", apart := false, narrowed := true }
def BasisMetricsUptoSaid : Prop := basisMetricsUptoRow.holds Try.pinned (OpenSpec.upto basisMetricsSpec)

/-- 'facetlaw07.BasisGoes', WHERE WHAT IT READS IS OF BULK AT MOST 1048576: true; the input reads as it did. -/
def basisGoesUptoRow : OpenClaim := { program := "ytloanoibojmlgaa", sum := "17479f07c4e6e2d66f124f7df8917bd35a378eeaa0c05b55dc3c12d58d15401f", func := "facet/facetlaw07.BasisGoes", spec := "basisGoes", apart := false, narrowed := true }
def BasisGoesUptoSaid : Prop := basisGoesUptoRow.holds Try.pinned (OpenSpec.upto basisGoesSpec)

/-- 'facetlaw07.BasisBack', WHERE WHAT IT READS IS OF BULK AT MOST 1048576: true; the input reads as it did. -/
def basisBackUptoRow : OpenClaim := { program := "ytloanoibojmlgaa", sum := "17479f07c4e6e2d66f124f7df8917bd35a378eeaa0c05b55dc3c12d58d15401f", func := "facet/facetlaw07.BasisBack", spec := "basisBack", apart := false, narrowed := true }
def BasisBackUptoSaid : Prop := basisBackUptoRow.holds Try.pinned (OpenSpec.upto basisBackSpec)

/-- 'facetlaw07.BasisPhases', WHERE WHAT IT READS IS OF BULK AT MOST 1048576: true; the input reads as it did. -/
def basisPhasesUptoRow : OpenClaim := { program := "ytloanoibojmlgaa", sum := "17479f07c4e6e2d66f124f7df8917bd35a378eeaa0c05b55dc3c12d58d15401f", func := "facet/facetlaw07.BasisPhases", spec := "basisPhases", apart := false, narrowed := true }
def BasisPhasesUptoSaid : Prop := basisPhasesUptoRow.holds Try.pinned (OpenSpec.upto basisPhasesSpec)

end Rows
end Go.Proofs.Ytloanoibojmlgaa
