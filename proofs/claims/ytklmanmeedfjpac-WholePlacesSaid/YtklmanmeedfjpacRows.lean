/-
  No cell of these rows narrows 'for every input' (looked for: loops, veiled, ifaces, maps, wideKeys, modest, calm, conditions, laid).
  DERIVED. THE GIVEN ROWS OF THIS SEAT. 3 by the template 'for every input the law returns true; each argument reads behind the call as it read before'; 0 by the template 'total and deterministic' (their statements: YtklmanmeedfjpacTotals.lean).
  GIVEN WITH THE SEED: the statements are not yours to turn. If you find one false, say at which input.
  Laid BY PROGRAM, IN A SANDBOX (cutbox-rows.mjs): the forced cells as the released guide's own fill.sh prints them over the translation 6b309f0977895e6f… (all of the seat's roots in one cut). By AI agents, Wed Nov 11 2026. No macro, syntax, notation, axiom, sorry.
-/
import Derived.Test.YtklmanmeedfjpacChecked
import GoSem.Claim
import GoSem.ClaimJoined
import GoSem.ClaimMapViews
import Derived.JoinedTies
import Derived.KernelRfl
namespace Go.Proofs.Ytklmanmeedfjpac
/- THE CELL 'sum', in the pinned program and in every row, IS THE sha256 OF THE DUMP (.gsa) THAT YtklmanmeedfjpacProg.lean LOADS. Nothing in Lean hashes anything: it is a label: what it is worth is what the hold of that sum in a sandbox is worth. -/
noncomputable def Try.pinned : Pinned := { name := "ytklmanmeedfjpac", sum := "6b309f0977895e6f782966a5d9ad1ceed12a5dd72dabd711efab0ae9123b4c2f", checked := Try.checked }
namespace Rows
def none {H : Type} : Left H := { results := [], args := [] }

/-- 'facetlaw02.FracTotal': WHATEVER THE INPUT: true; the input reads as it did. -/
def fracTotalSpec : ChangeSpec := { name := "fracTotal", fn := fun _ => fun
  | [d1, d2, d3] => { results := [.lit (.bool true)], args := [d1, d2, d3] }
  | _ => none }
def fracTotalRow : OpenClaim := { program := "ytklmanmeedfjpac", sum := "6b309f0977895e6f782966a5d9ad1ceed12a5dd72dabd711efab0ae9123b4c2f", func := "facet/facetlaw02.FracTotal", spec := "fracTotal", apart := false }
def FracTotalSaid : Prop := fracTotalRow.holds Try.pinned (OpenSpec.ofChange fracTotalSpec)

/-- ITS FALSE NEIGHBOUR: 'it returns false'. Refute it at one input. -/
def fracTotalWrong : ChangeSpec := { name := "fracTotal", fn := fun _ => fun
  | [d1, d2, d3] => { results := [.lit (.bool false)], args := [d1, d2, d3] }
  | _ => none }
def FracTotalWrongFalsely : Prop := fracTotalRow.holds Try.pinned (OpenSpec.ofChange fracTotalWrong)

/-- 'facettop.WholeMatrices': WHATEVER THE INPUT: true; the input reads as it did. -/
def wholeMatricesSpec : ChangeSpec := { name := "wholeMatrices", fn := fun _ => fun
  | [d1, d2, d3, d4, d5] => { results := [.lit (.bool true)], args := [d1, d2, d3, d4, d5] }
  | _ => none }
def wholeMatricesRow : OpenClaim := { program := "ytklmanmeedfjpac", sum := "6b309f0977895e6f782966a5d9ad1ceed12a5dd72dabd711efab0ae9123b4c2f", func := "facet/facettop.WholeMatrices", spec := "wholeMatrices", apart := false }
def WholeMatricesSaid : Prop := wholeMatricesRow.holds Try.pinned (OpenSpec.ofChange wholeMatricesSpec)

/-- ITS FALSE NEIGHBOUR: 'it returns false'. Refute it at one input. -/
def wholeMatricesWrong : ChangeSpec := { name := "wholeMatrices", fn := fun _ => fun
  | [d1, d2, d3, d4, d5] => { results := [.lit (.bool false)], args := [d1, d2, d3, d4, d5] }
  | _ => none }
def WholeMatricesWrongFalsely : Prop := wholeMatricesRow.holds Try.pinned (OpenSpec.ofChange wholeMatricesWrong)

/-- 'facettop.WholePlaces': WHATEVER THE INPUT: true; the input reads as it did. -/
def wholePlacesSpec : ChangeSpec := { name := "wholePlaces", fn := fun _ => fun
  | [d1, d2, d3, d4, d5] => { results := [.lit (.bool true)], args := [d1, d2, d3, d4, d5] }
  | _ => none }
def wholePlacesRow : OpenClaim := { program := "ytklmanmeedfjpac", sum := "6b309f0977895e6f782966a5d9ad1ceed12a5dd72dabd711efab0ae9123b4c2f", func := "facet/facettop.WholePlaces", spec := "wholePlaces", apart := false }
def WholePlacesSaid : Prop := wholePlacesRow.holds Try.pinned (OpenSpec.ofChange wholePlacesSpec)

/-- ITS FALSE NEIGHBOUR: 'it returns false'. Refute it at one input. -/
def wholePlacesWrong : ChangeSpec := { name := "wholePlaces", fn := fun _ => fun
  | [d1, d2, d3, d4, d5] => { results := [.lit (.bool false)], args := [d1, d2, d3, d4, d5] }
  | _ => none }
def WholePlacesWrongFalsely : Prop := wholePlacesRow.holds Try.pinned (OpenSpec.ofChange wholePlacesWrong)

/- THE SECOND FORM. 'bulk': how many values and letters a reading holds, each counted each time it is reached (what is shared counts as often as it is met; a slice's spare places count too). A statement '..UptoSaid' is the law's where the arguments, and the package variables that the reading takes, are together of bulk at most 1048576: NARROWER than '..Said'. Prove '..Said' where nothing that the law and all that it calls make is longer than what came in: it says more and counts as full. Else prove '..UptoSaid'. A law counts once. -/
mutual
def uptoBulk {H : Type} : DataW H → Nat
  | .lit (.string bytes) => bytes.length + 1
  | .lit _ => 1
  | .nil => 1
  | .ptr d => uptoBulk d + 1
  | .slice elems spare => uptoBulkAll elems + uptoBulkAll spare + 1
  | .agg parts => uptoBulkAll parts + 1
  | .iface _ d => uptoBulk d + 1
  | .map entries => uptoBulkEntries entries + 1
  | .held _ => 1
def uptoBulkAll {H : Type} : List (DataW H) → Nat
  | [] => 0
  | d :: r => uptoBulk d + uptoBulkAll r
def uptoBulkEntries {H : Type} : List (Lit × DataW H) → Nat
  | [] => 0
  | x :: r => uptoBulkEntry x + uptoBulkEntries r
def uptoBulkEntry {H : Type} : Lit × DataW H → Nat
  | (.string bytes, d) => bytes.length + uptoBulk d + 1
  | (_, d) => uptoBulk d + 1
 end
def uptoSmall : (H : Type) → List (DataW H) → Bool := fun _ ds => decide (uptoBulkAll ds ≤ 1048576)
def OpenSpec.upto (s : _root_.Go.ChangeSpec) : _root_.Go.OpenSpec := { _root_.Go.OpenSpec.ofChange s with cond := some uptoSmall }

/-- 'facetlaw02.FracTotal', WHERE WHAT IT READS IS OF BULK AT MOST 1048576: true; the input reads as it did. -/
def fracTotalUptoRow : OpenClaim := { program := "ytklmanmeedfjpac", sum := "6b309f0977895e6f782966a5d9ad1ceed12a5dd72dabd711efab0ae9123b4c2f", func := "facet/facetlaw02.FracTotal", spec := "fracTotal", apart := false, narrowed := true }
def FracTotalUptoSaid : Prop := fracTotalUptoRow.holds Try.pinned (OpenSpec.upto fracTotalSpec)

/-- 'facettop.WholeMatrices', WHERE WHAT IT READS IS OF BULK AT MOST 1048576: true; the input reads as it did. -/
def wholeMatricesUptoRow : OpenClaim := { program := "ytklmanmeedfjpac", sum := "6b309f0977895e6f782966a5d9ad1ceed12a5dd72dabd711efab0ae9123b4c2f", func := "facet/facettop.WholeMatrices", spec := "wholeMatrices", apart := false, narrowed := true }
def WholeMatricesUptoSaid : Prop := wholeMatricesUptoRow.holds Try.pinned (OpenSpec.upto wholeMatricesSpec)

/-- 'facettop.WholePlaces', WHERE WHAT IT READS IS OF BULK AT MOST 1048576: true; the input reads as it did. -/
def wholePlacesUptoRow : OpenClaim := { program := "ytklmanmeedfjpac", sum := "6b309f0977895e6f782966a5d9ad1ceed12a5dd72dabd711efab0ae9123b4c2f", func := "facet/facettop.WholePlaces", spec := "wholePlaces", apart := false, narrowed := true }
def WholePlacesUptoSaid : Prop := wholePlacesUptoRow.holds Try.pinned (OpenSpec.upto wholePlacesSpec)

end Rows
end Go.Proofs.Ytklmanmeedfjpac
