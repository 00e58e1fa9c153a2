/-
  No cell of these rows narrows 'for every input' (looked for: loops, veiled, ifaces, maps, wideKeys, modest, calm, conditions, laid).
  DERIVED. THE GIVEN ROWS OF THIS SEAT. 5 by the template 'for every input the law returns true; each argument reads behind the call as it read before'; 0 by the template 'total and deterministic' (their statements: YtagnkjdobkdhmabTotals.lean).
  GIVEN WITH THE SEED: the statements are not yours to turn. If you find one false, say at which input.
  Laid BY PROGRAM, IN A SANDBOX (cutbox-rows.mjs): the forced cells as the released guide's own fill.sh prints them over the translation e256e182cadfc49b… (all of the seat's roots in one cut). By AI agents, Wed Nov 11 2026. No macro, syntax, notation, axiom, sorry.
-/
import Derived.Test.YtagnkjdobkdhmabChecked
import GoSem.Claim
import GoSem.ClaimJoined
import GoSem.ClaimMapViews
import Derived.JoinedTies
import Derived.KernelRfl
namespace Go.Proofs.Ytagnkjdobkdhmab
/- THE CELL 'sum', in the pinned program and in every row, IS THE sha256 OF THE DUMP (.gsa) THAT YtagnkjdobkdhmabProg.lean LOADS. Nothing in Lean hashes anything: it is a label: what it is worth is what the hold of that sum in a sandbox is worth. -/
noncomputable def Try.pinned : Pinned := { name := "ytagnkjdobkdhmab", sum := "e256e182cadfc49b1ae5254b52d96563b1d5beeddc7058b4d87a909ad5777486", checked := Try.checked }
namespace Rows
def none {H : Type} : Left H := { results := [], args := [] }

/-- 'facetlaw03.OpTurns': WHATEVER THE INPUT: true; the input reads as it did. -/
def opTurnsSpec : ChangeSpec := { name := "opTurns", fn := fun _ => fun
  | [d1, d2] => { results := [.lit (.bool true)], args := [d1, d2] }
  | _ => none }
def opTurnsRow : OpenClaim := { program := "ytagnkjdobkdhmab", sum := "e256e182cadfc49b1ae5254b52d96563b1d5beeddc7058b4d87a909ad5777486", func := "facet/facetlaw03.OpTurns", spec := "opTurns", apart := false }
def OpTurnsSaid : Prop := opTurnsRow.holds Try.pinned (OpenSpec.ofChange opTurnsSpec)

/-- ITS FALSE NEIGHBOUR: 'it returns false'. Refute it at one input. -/
def opTurnsWrong : ChangeSpec := { name := "opTurns", fn := fun _ => fun
  | [d1, d2] => { results := [.lit (.bool false)], args := [d1, d2] }
  | _ => none }
def OpTurnsWrongFalsely : Prop := opTurnsRow.holds Try.pinned (OpenSpec.ofChange opTurnsWrong)

/-- 'facetlaw03.OpCompares': WHATEVER THE INPUT: true; the input reads as it did. -/
def opComparesSpec : ChangeSpec := { name := "opCompares", fn := fun _ => fun
  | [d1, d2, d3] => { results := [.lit (.bool true)], args := [d1, d2, d3] }
  | _ => none }
def opComparesRow : OpenClaim := { program := "ytagnkjdobkdhmab", sum := "e256e182cadfc49b1ae5254b52d96563b1d5beeddc7058b4d87a909ad5777486", func := "facet/facetlaw03.OpCompares", spec := "opCompares", apart := false }
def OpComparesSaid : Prop := opComparesRow.holds Try.pinned (OpenSpec.ofChange opComparesSpec)

/-- ITS FALSE NEIGHBOUR: 'it returns false'. Refute it at one input. -/
def opComparesWrong : ChangeSpec := { name := "opCompares", fn := fun _ => fun
  | [d1, d2, d3] => { results := [.lit (.bool false)], args := [d1, d2, d3] }
  | _ => none }
def OpComparesWrongFalsely : Prop := opComparesRow.holds Try.pinned (OpenSpec.ofChange opComparesWrong)

/-- 'facetlaw03.OpFixed': WHATEVER THE INPUT: true; the input reads as it did. -/
def opFixedSpec : ChangeSpec := { name := "opFixed", fn := fun _ => fun
  | [] => { results := [.lit (.bool true)], args := [] }
  | _ => none }
def opFixedRow : OpenClaim := { program := "ytagnkjdobkdhmab", sum := "e256e182cadfc49b1ae5254b52d96563b1d5beeddc7058b4d87a909ad5777486", func := "facet/facetlaw03.OpFixed", spec := "opFixed", apart := false }
def OpFixedSaid : Prop := opFixedRow.holds Try.pinned (OpenSpec.ofChange opFixedSpec)

/-- ITS FALSE NEIGHBOUR: 'it returns false'. Refute it at one input. -/
def opFixedWrong : ChangeSpec := { name := "opFixed", fn := fun _ => fun
  | [] => { results := [.lit (.bool false)], args := [] }
  | _ => none }
def OpFixedWrongFalsely : Prop := opFixedRow.holds Try.pinned (OpenSpec.ofChange opFixedWrong)

/-- 'facetlaw01.VecPowers': WHATEVER THE INPUT: true; the input reads as it did. -/
def vecPowersSpec : ChangeSpec := { name := "vecPowers", fn := fun _ => fun
  | [d1, d2] => { results := [.lit (.bool true)], args := [d1, d2] }
  | _ => none }
def vecPowersRow : OpenClaim := { program := "ytagnkjdobkdhmab", sum := "e256e182cadfc49b1ae5254b52d96563b1d5beeddc7058b4d87a909ad5777486", func := "facet/facetlaw01.VecPowers", spec := "vecPowers", apart := false }
def VecPowersSaid : Prop := vecPowersRow.holds Try.pinned (OpenSpec.ofChange vecPowersSpec)

/-- ITS FALSE NEIGHBOUR: 'it returns false'. Refute it at one input. -/
def vecPowersWrong : ChangeSpec := { name := "vecPowers", fn := fun _ => fun
  | [d1, d2] => { results := [.lit (.bool false)], args := [d1, d2] }
  | _ => none }
def VecPowersWrongFalsely : Prop := vecPowersRow.holds Try.pinned (OpenSpec.ofChange vecPowersWrong)

/-- 'facettop.WholeMatrices': WHATEVER THE INPUT: true; the input reads as it did. -/
def wholeMatricesSpec : ChangeSpec := { name := "wholeMatrices", fn := fun _ => fun
  | [d1, d2, d3, d4, d5] => { results := [.lit (.bool true)], args := [d1, d2, d3, d4, d5] }
  | _ => none }
def wholeMatricesRow : OpenClaim := { program := "ytagnkjdobkdhmab", sum := "e256e182cadfc49b1ae5254b52d96563b1d5beeddc7058b4d87a909ad5777486", func := "facet/facettop.WholeMatrices", spec := "wholeMatrices", apart := false }
def WholeMatricesSaid : Prop := wholeMatricesRow.holds Try.pinned (OpenSpec.ofChange wholeMatricesSpec)

/-- ITS FALSE NEIGHBOUR: 'it returns false'. Refute it at one input. -/
def wholeMatricesWrong : ChangeSpec := { name := "wholeMatrices", fn := fun _ => fun
  | [d1, d2, d3, d4, d5] => { results := [.lit (.bool false)], args := [d1, d2, d3, d4, d5] }
  | _ => none }
def WholeMatricesWrongFalsely : Prop := wholeMatricesRow.holds Try.pinned (OpenSpec.ofChange wholeMatricesWrong)

/- THE SECOND FORM. 'bulk': how many values and letters a reading holds, each counted each time it is reached (what is shared counts as often as it is met; a slice's spare places count too). A statement '..UptoSaid' is the law's where the arguments, and the package variables that the reading takes, are together of bulk at most 1048576: NARROWER than '..Said'. Prove '..Said' where nothing that the law and all that it calls make is longer than what came in: it says more and counts as full. Else prove '..UptoSaid'. A law counts once. -/
mutual
def uptoBulk {H : Type} : DataW H → Nat
  | .lit (.string bytes) => bytes.length + 1
  | .lit _ => 1
  | .nil => 1
  | .ptr d => uptoBulk d + 1
  | .slice elems spare => uptoBulkAll elems + uptoBulkAll spare + 1
  | .agg parts => uptoBulkAll parts + 1
  | .iface _ d => uptoBulk d + 1
  | .map entries => uptoBulkEntries entries + 1
  | .held _ => 1
def uptoBulkAll {H : Type} : List (DataW H) → Nat
  | [] => 0
  | d :: r => uptoBulk d + uptoBulkAll r
def uptoBulkEntries {H : Type} : List (Lit × DataW H) → Nat
  | [] => 0
  | x :: r => uptoBulkEntry x + uptoBulkEntries r
def uptoBulkEntry {H : Type} : Lit × DataW H → Nat
  | (.string bytes, d) => bytes.length + uptoBulk d + 1
  | (_, d) => uptoBulk d + 1
 end
def uptoSmall : (H : Type) → List (DataW H) → Bool := fun _ ds => decide (uptoBulkAll ds ≤ 1048576)
def OpenSpec.upto (s : _root_.Go.ChangeSpec) : _root_.Go.OpenSpec := { _root_.Go.OpenSpec.ofChange s with cond := some uptoSmall }

/-- 'facetlaw03.OpTurns', WHERE WHAT IT READS IS OF BULK AT MOST 1048576: true; the input reads as it did. -/
def opTurnsUptoRow : OpenClaim := { program := "ytagnkjdobkdhmab", sum := "e256e182cadfc49b1ae5254b52d96563b1d5beeddc7058b4d87a909ad5777486", func := "facet/facetlaw03.OpTurns", spec := "opTurns", apart := false, narrowed := true }
def OpTurnsUptoSaid : Prop := opTurnsUptoRow.holds Try.pinned (OpenSpec.upto opTurnsSpec)

/-- 'facetlaw03.OpCompares', WHERE WHAT IT READS IS OF BULK AT MOST 1048576: true; the input reads as it did. -/
def opComparesUptoRow : OpenClaim := { program := "ytagnkjdobkdhmab", sum := "e256e182cadfc49b1ae5254b52d96563b1d5beeddc7058b4d87a909ad5777486", func := "facet/facetlaw03.OpCompares", spec := "opCompares", apart := false, narrowed := true }
def OpComparesUptoSaid : Prop := opComparesUptoRow.holds Try.pinned (OpenSpec.upto opComparesSpec)

/-- 'facetlaw03.OpFixed', WHERE WHAT IT READS IS OF BULK AT MOST 1048576: true; the input reads as it did. -/
def opFixedUptoRow : OpenClaim := { program := "ytagnkjdobkdhmab", sum := "e256e182cadfc49b1ae5254b52d96563b1d5beeddc7058b4d87a909ad5777486", func := "facet/facetlaw03.OpFixed", spec := "opFixed", apart := false, narrowed := true }
def OpFixedUptoSaid : Prop := opFixedUptoRow.holds Try.pinned (OpenSpec.upto opFixedSpec)

/-- 'facetlaw01.VecPowers', WHERE WHAT IT READS IS OF BULK AT MOST 1048576: true; the input reads as it did. -/
def vecPowersUptoRow : OpenClaim := { program := "ytagnkjdobkdhmab", sum := "e256e182cadfc49b1ae5254b52d96563b1d5beeddc7058b4d87a909ad5777486", func := "facet/facetlaw01.VecPowers", spec := "vecPowers", apart := false, narrowed := true }
def VecPowersUptoSaid : Prop := vecPowersUptoRow.holds Try.pinned (OpenSpec.upto vecPowersSpec)

/-- 'facettop.WholeMatrices', WHERE WHAT IT READS IS OF BULK AT MOST 1048576: true; the input reads as it did. -/
def wholeMatricesUptoRow : OpenClaim := { program := "ytagnkjdobkdhmab", sum := "e256e182cadfc49b1ae5254b52d96563b1d5beeddc7058b4d87a909ad5777486", func := "facet/facettop.WholeMatrices", spec := "wholeMatrices", apart := false, narrowed := true }
def WholeMatricesUptoSaid : Prop := wholeMatricesUptoRow.holds Try.pinned (OpenSpec.upto wholeMatricesSpec)

end Rows
end Go.Proofs.Ytagnkjdobkdhmab
