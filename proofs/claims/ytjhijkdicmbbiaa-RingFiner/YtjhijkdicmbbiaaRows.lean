/-
  No cell of these rows narrows 'for every input' (looked for: loops, veiled, ifaces, maps, wideKeys, modest, calm, conditions, laid).
  DERIVED. THE GIVEN ROWS OF THIS SEAT. 19 by the template 'for every input the law returns true; each argument reads behind the call as it read before'; 0 by the template 'total and deterministic' (their statements: YtjhijkdicmbbiaaTotals.lean).
  GIVEN WITH THE SEED: the statements are not yours to turn. If you find one false, say at which input.
  Laid BY PROGRAM, IN A SANDBOX (cutbox-rows.mjs): the forced cells as the released guide's own fill.sh prints them over the translation 25c2379a567d9d64… (all of the seat's roots in one cut). By AI agents, Wed Nov 11 2026. No macro, syntax, notation, axiom, sorry.
-/
import Derived.Test.YtjhijkdicmbbiaaChecked
import GoSem.Claim
import GoSem.ClaimJoined
import GoSem.ClaimMapViews
import Derived.JoinedTies
import Derived.KernelRfl
namespace Go.Proofs.Ytjhijkdicmbbiaa
/- THE CELL 'sum', in the pinned program and in every row, IS THE sha256 OF THE DUMP (.gsa) THAT YtjhijkdicmbbiaaProg.lean LOADS. Nothing in Lean hashes anything: it is a label: what it is worth is what the hold of that sum in a sandbox is worth. -/
noncomputable def Try.pinned : Pinned := { name := "ytjhijkdicmbbiaa", sum := "25c2379a567d9d6485ad1d539e83b061c197969d94a357291b1be878c8eb3036", checked := Try.checked }
namespace Rows
def none {H : Type} : Left H := { results := [], args := [] }

/-- 'facetlaw15.RingSums': WHATEVER THE INPUT: true; the input reads as it did. -/
def ringSumsSpec : ChangeSpec := { name := "ringSums", fn := fun _ => fun
  | [d1, d2] => { results := [.lit (.bool true)], args := [d1, d2] }
  | _ => none }
def ringSumsRow : OpenClaim := { program := "ytjhijkdicmbbiaa", sum := "25c2379a567d9d6485ad1d539e83b061c197969d94a357291b1be878c8eb3036", func := "facet/facetlaw15.RingSums", spec := "ringSums", inPlace := ["math/bits.Add64", "math/bits.Sub64"], unfollowed := true, recurses := true, apart := false }
def RingSumsSaid : Prop := ringSumsRow.holds Try.pinned (OpenSpec.ofChange ringSumsSpec)

/-- ITS FALSE NEIGHBOUR: 'it returns false'. Refute it at one input. -/
def ringSumsWrong : ChangeSpec := { name := "ringSums", fn := fun _ => fun
  | [d1, d2] => { results := [.lit (.bool false)], args := [d1, d2] }
  | _ => none }
def RingSumsWrongFalsely : Prop := ringSumsRow.holds Try.pinned (OpenSpec.ofChange ringSumsWrong)

/-- 'facetlaw15.RingProducts': WHATEVER THE INPUT: true; the input reads as it did. -/
def ringProductsSpec : ChangeSpec := { name := "ringProducts", fn := fun _ => fun
  | [d1, d2, d3] => { results := [.lit (.bool true)], args := [d1, d2, d3] }
  | _ => none }
def ringProductsRow : OpenClaim := { program := "ytjhijkdicmbbiaa", sum := "25c2379a567d9d6485ad1d539e83b061c197969d94a357291b1be878c8eb3036", func := "facet/facetlaw15.RingProducts", spec := "ringProducts", inPlace := ["math/bits.Add64", "math/bits.Sub64"], unfollowed := true, recurses := true, apart := false }
def RingProductsSaid : Prop := ringProductsRow.holds Try.pinned (OpenSpec.ofChange ringProductsSpec)

/-- ITS FALSE NEIGHBOUR: 'it returns false'. Refute it at one input. -/
def ringProductsWrong : ChangeSpec := { name := "ringProducts", fn := fun _ => fun
  | [d1, d2, d3] => { results := [.lit (.bool false)], args := [d1, d2, d3] }
  | _ => none }
def RingProductsWrongFalsely : Prop := ringProductsRow.holds Try.pinned (OpenSpec.ofChange ringProductsWrong)

/-- 'facetlaw15.RingOnes': WHATEVER THE INPUT: true; the input reads as it did. -/
def ringOnesSpec : ChangeSpec := { name := "ringOnes", fn := fun _ => fun
  | [d1, d2, d3, d4] => { results := [.lit (.bool true)], args := [d1, d2, d3, d4] }
  | _ => none }
def ringOnesRow : OpenClaim := { program := "ytjhijkdicmbbiaa", sum := "25c2379a567d9d6485ad1d539e83b061c197969d94a357291b1be878c8eb3036", func := "facet/facetlaw15.RingOnes", spec := "ringOnes", inPlace := ["math/bits.Add64", "math/bits.Sub64"], unfollowed := true, recurses := true, apart := false }
def RingOnesSaid : Prop := ringOnesRow.holds Try.pinned (OpenSpec.ofChange ringOnesSpec)

/-- ITS FALSE NEIGHBOUR: 'it returns false'. Refute it at one input. -/
def ringOnesWrong : ChangeSpec := { name := "ringOnes", fn := fun _ => fun
  | [d1, d2, d3, d4] => { results := [.lit (.bool false)], args := [d1, d2, d3, d4] }
  | _ => none }
def RingOnesWrongFalsely : Prop := ringOnesRow.holds Try.pinned (OpenSpec.ofChange ringOnesWrong)

/-- 'facetlaw15.RingAsks': WHATEVER THE INPUT: true; the input reads as it did. -/
def ringAsksSpec : ChangeSpec := { name := "ringAsks", fn := fun _ => fun
  | [d1, d2, d3] => { results := [.lit (.bool true)], args := [d1, d2, d3] }
  | _ => none }
def ringAsksRow : OpenClaim := { program := "ytjhijkdicmbbiaa", sum := "25c2379a567d9d6485ad1d539e83b061c197969d94a357291b1be878c8eb3036", func := "facet/facetlaw15.RingAsks", spec := "ringAsks", inPlace := ["math/bits.Add64", "math/bits.Sub64"], unfollowed := true, recurses := true, apart := false }
def RingAsksSaid : Prop := ringAsksRow.holds Try.pinned (OpenSpec.ofChange ringAsksSpec)

/-- ITS FALSE NEIGHBOUR: 'it returns false'. Refute it at one input. -/
def ringAsksWrong : ChangeSpec := { name := "ringAsks", fn := fun _ => fun
  | [d1, d2, d3] => { results := [.lit (.bool false)], args := [d1, d2, d3] }
  | _ => none }
def RingAsksWrongFalsely : Prop := ringAsksRow.holds Try.pinned (OpenSpec.ofChange ringAsksWrong)

/-- 'facetlaw15.RingKeeps': WHATEVER THE INPUT: true; the input reads as it did. -/
def ringKeepsSpec : ChangeSpec := { name := "ringKeeps", fn := fun _ => fun
  | [d1, d2, d3] => { results := [.lit (.bool true)], args := [d1, d2, d3] }
  | _ => none }
def ringKeepsRow : OpenClaim := { program := "ytjhijkdicmbbiaa", sum := "25c2379a567d9d6485ad1d539e83b061c197969d94a357291b1be878c8eb3036", func := "facet/facetlaw15.RingKeeps", spec := "ringKeeps", inPlace := ["math/bits.Add64", "math/bits.Sub64"], unfollowed := true, recurses := true, apart := false }
def RingKeepsSaid : Prop := ringKeepsRow.holds Try.pinned (OpenSpec.ofChange ringKeepsSpec)

/-- ITS FALSE NEIGHBOUR: 'it returns false'. Refute it at one input. -/
def ringKeepsWrong : ChangeSpec := { name := "ringKeeps", fn := fun _ => fun
  | [d1, d2, d3] => { results := [.lit (.bool false)], args := [d1, d2, d3] }
  | _ => none }
def RingKeepsWrongFalsely : Prop := ringKeepsRow.holds Try.pinned (OpenSpec.ofChange ringKeepsWrong)

/-- 'facetlaw15.RingLaws': WHATEVER THE INPUT: true; the input reads as it did. -/
def ringLawsSpec : ChangeSpec := { name := "ringLaws", fn := fun _ => fun
  | [d1, d2, d3, d4] => { results := [.lit (.bool true)], args := [d1, d2, d3, d4] }
  | _ => none }
def ringLawsRow : OpenClaim := { program := "ytjhijkdicmbbiaa", sum := "25c2379a567d9d6485ad1d539e83b061c197969d94a357291b1be878c8eb3036", func := "facet/facetlaw15.RingLaws", spec := "ringLaws", inPlace := ["math/bits.Add64", "math/bits.Sub64"], unfollowed := true, recurses := true, apart := false }
def RingLawsSaid : Prop := ringLawsRow.holds Try.pinned (OpenSpec.ofChange ringLawsSpec)

/-- ITS FALSE NEIGHBOUR: 'it returns false'. Refute it at one input. -/
def ringLawsWrong : ChangeSpec := { name := "ringLaws", fn := fun _ => fun
  | [d1, d2, d3, d4] => { results := [.lit (.bool false)], args := [d1, d2, d3, d4] }
  | _ => none }
def RingLawsWrongFalsely : Prop := ringLawsRow.holds Try.pinned (OpenSpec.ofChange ringLawsWrong)

/-- 'facetlaw15.RingRoots': WHATEVER THE INPUT: true; the input reads as it did. -/
def ringRootsSpec : ChangeSpec := { name := "ringRoots", fn := fun _ => fun
  | [d1, d2, d3] => { results := [.lit (.bool true)], args := [d1, d2, d3] }
  | _ => none }
def ringRootsRow : OpenClaim := { program := "ytjhijkdicmbbiaa", sum := "25c2379a567d9d6485ad1d539e83b061c197969d94a357291b1be878c8eb3036", func := "facet/facetlaw15.RingRoots", spec := "ringRoots", inPlace := ["math/bits.Add64", "math/bits.Sub64"], unfollowed := true, recurses := true, apart := false }
def RingRootsSaid : Prop := ringRootsRow.holds Try.pinned (OpenSpec.ofChange ringRootsSpec)

/-- ITS FALSE NEIGHBOUR: 'it returns false'. Refute it at one input. -/
def ringRootsWrong : ChangeSpec := { name := "ringRoots", fn := fun _ => fun
  | [d1, d2, d3] => { results := [.lit (.bool false)], args := [d1, d2, d3] }
  | _ => none }
def RingRootsWrongFalsely : Prop := ringRootsRow.holds Try.pinned (OpenSpec.ofChange ringRootsWrong)

/-- 'facetlaw15.RingFiner': WHATEVER THE INPUT: true; the input reads as it did. -/
def ringFinerSpec : ChangeSpec := { name := "ringFiner", fn := fun _ => fun
  | [d1, d2, d3] => { results := [.lit (.bool true)], args := [d1, d2, d3] }
  | _ => none }
def ringFinerRow : OpenClaim := { program := "ytjhijkdicmbbiaa", sum := "25c2379a567d9d6485ad1d539e83b061c197969d94a357291b1be878c8eb3036", func := "facet/facetlaw15.RingFiner", spec := "ringFiner", inPlace := ["math/bits.Add64", "math/bits.Sub64"], unfollowed := true, recurses := true, apart := false }
def RingFinerSaid : Prop := ringFinerRow.holds Try.pinned (OpenSpec.ofChange ringFinerSpec)

/-- ITS FALSE NEIGHBOUR: 'it returns false'. Refute it at one input. -/
def ringFinerWrong : ChangeSpec := { name := "ringFiner", fn := fun _ => fun
  | [d1, d2, d3] => { results := [.lit (.bool false)], args := [d1, d2, d3] }
  | _ => none }
def RingFinerWrongFalsely : Prop := ringFinerRow.holds Try.pinned (OpenSpec.ofChange ringFinerWrong)

/-- 'facetlaw15.RingZero': WHATEVER THE INPUT: true; the input reads as it did. -/
def ringZeroSpec : ChangeSpec := { name := "ringZero", fn := fun _ => fun
  | [d1, d2, d3] => { results := [.lit (.bool true)], args := [d1, d2, d3] }
  | _ => none }
def ringZeroRow : OpenClaim := { program := "ytjhijkdicmbbiaa", sum := "25c2379a567d9d6485ad1d539e83b061c197969d94a357291b1be878c8eb3036", func := "facet/facetlaw15.RingZero", spec := "ringZero", inPlace := ["math/bits.Add64", "math/bits.Sub64"], unfollowed := true, recurses := true, apart := false }
def RingZeroSaid : Prop := ringZeroRow.holds Try.pinned (OpenSpec.ofChange ringZeroSpec)

/-- ITS FALSE NEIGHBOUR: 'it returns false'. Refute it at one input. -/
def ringZeroWrong : ChangeSpec := { name := "ringZero", fn := fun _ => fun
  | [d1, d2, d3] => { results := [.lit (.bool false)], args := [d1, d2, d3] }
  | _ => none }
def RingZeroWrongFalsely : Prop := ringZeroRow.holds Try.pinned (OpenSpec.ofChange ringZeroWrong)

/-- 'facetlaw16.CplxOnes': WHATEVER THE INPUT: true; the input reads as it did. -/
def cplxOnesSpec : ChangeSpec := { name := "cplxOnes", fn := fun _ => fun
  | [d1, d2] => { results := [.lit (.bool true)], args := [d1, d2] }
  | _ => none }
def cplxOnesRow : OpenClaim := { program := "ytjhijkdicmbbiaa", sum := "25c2379a567d9d6485ad1d539e83b061c197969d94a357291b1be878c8eb3036", func := "facet/facetlaw16.CplxOnes", spec := "cplxOnes", inPlace := ["math.Float64bits", "math.Float64frombits", "math.sqrt", "math.Float32frombits", "math.Float32bits"], apart := false }
def CplxOnesSaid : Prop := cplxOnesRow.holds Try.pinned (OpenSpec.ofChange cplxOnesSpec)

/-- ITS FALSE NEIGHBOUR: 'it returns false'. Refute it at one input. -/
def cplxOnesWrong : ChangeSpec := { name := "cplxOnes", fn := fun _ => fun
  | [d1, d2] => { results := [.lit (.bool false)], args := [d1, d2] }
  | _ => none }
def CplxOnesWrongFalsely : Prop := cplxOnesRow.holds Try.pinned (OpenSpec.ofChange cplxOnesWrong)

/-- 'facetlaw16.CplxTwos': WHATEVER THE INPUT: true; the input reads as it did. -/
def cplxTwosSpec : ChangeSpec := { name := "cplxTwos", fn := fun _ => fun
  | [d1, d2] => { results := [.lit (.bool true)], args := [d1, d2] }
  | _ => none }
def cplxTwosRow : OpenClaim := { program := "ytjhijkdicmbbiaa", sum := "25c2379a567d9d6485ad1d539e83b061c197969d94a357291b1be878c8eb3036", func := "facet/facetlaw16.CplxTwos", spec := "cplxTwos", inPlace := ["math.Float64bits", "math.Float64frombits", "math.sqrt"], apart := false }
def CplxTwosSaid : Prop := cplxTwosRow.holds Try.pinned (OpenSpec.ofChange cplxTwosSpec)

/-- ITS FALSE NEIGHBOUR: 'it returns false'. Refute it at one input. -/
def cplxTwosWrong : ChangeSpec := { name := "cplxTwos", fn := fun _ => fun
  | [d1, d2] => { results := [.lit (.bool false)], args := [d1, d2] }
  | _ => none }
def CplxTwosWrongFalsely : Prop := cplxTwosRow.holds Try.pinned (OpenSpec.ofChange cplxTwosWrong)

/-- 'facetlaw16.CplxSums': WHATEVER THE INPUT: true; the input reads as it did. -/
def cplxSumsSpec : ChangeSpec := { name := "cplxSums", fn := fun _ => fun
  | [d1, d2] => { results := [.lit (.bool true)], args := [d1, d2] }
  | _ => none }
def cplxSumsRow : OpenClaim := { program := "ytjhijkdicmbbiaa", sum := "25c2379a567d9d6485ad1d539e83b061c197969d94a357291b1be878c8eb3036", func := "facet/facetlaw16.CplxSums", spec := "cplxSums", inPlace := ["math.Float64bits", "math.Float64frombits", "math.sqrt"], apart := false }
def CplxSumsSaid : Prop := cplxSumsRow.holds Try.pinned (OpenSpec.ofChange cplxSumsSpec)

/-- ITS FALSE NEIGHBOUR: 'it returns false'. Refute it at one input. -/
def cplxSumsWrong : ChangeSpec := { name := "cplxSums", fn := fun _ => fun
  | [d1, d2] => { results := [.lit (.bool false)], args := [d1, d2] }
  | _ => none }
def CplxSumsWrongFalsely : Prop := cplxSumsRow.holds Try.pinned (OpenSpec.ofChange cplxSumsWrong)

/-- 'facetlaw16.CplxMirrors': WHATEVER THE INPUT: true; the input reads as it did. -/
def cplxMirrorsSpec : ChangeSpec := { name := "cplxMirrors", fn := fun _ => fun
  | [d1, d2, d3] => { results := [.lit (.bool true)], args := [d1, d2, d3] }
  | _ => none }
def cplxMirrorsRow : OpenClaim := { program := "ytjhijkdicmbbiaa", sum := "25c2379a567d9d6485ad1d539e83b061c197969d94a357291b1be878c8eb3036", func := "facet/facetlaw16.CplxMirrors", spec := "cplxMirrors", inPlace := ["math.Float64bits", "math.Float64frombits", "math.sqrt"], apart := false }
def CplxMirrorsSaid : Prop := cplxMirrorsRow.holds Try.pinned (OpenSpec.ofChange cplxMirrorsSpec)

/-- ITS FALSE NEIGHBOUR: 'it returns false'. Refute it at one input. -/
def cplxMirrorsWrong : ChangeSpec := { name := "cplxMirrors", fn := fun _ => fun
  | [d1, d2, d3] => { results := [.lit (.bool false)], args := [d1, d2, d3] }
  | _ => none }
def CplxMirrorsWrongFalsely : Prop := cplxMirrorsRow.holds Try.pinned (OpenSpec.ofChange cplxMirrorsWrong)

/-- 'facetlaw16.CplxQuarters': WHATEVER THE INPUT: true; the input reads as it did. -/
def cplxQuartersSpec : ChangeSpec := { name := "cplxQuarters", fn := fun _ => fun
  | [d1, d2] => { results := [.lit (.bool true)], args := [d1, d2] }
  | _ => none }
def cplxQuartersRow : OpenClaim := { program := "ytjhijkdicmbbiaa", sum := "25c2379a567d9d6485ad1d539e83b061c197969d94a357291b1be878c8eb3036", func := "facet/facetlaw16.CplxQuarters", spec := "cplxQuarters", inPlace := ["math.Float64bits", "math.Float64frombits", "math.sqrt"], apart := false }
def CplxQuartersSaid : Prop := cplxQuartersRow.holds Try.pinned (OpenSpec.ofChange cplxQuartersSpec)

/-- ITS FALSE NEIGHBOUR: 'it returns false'. Refute it at one input. -/
def cplxQuartersWrong : ChangeSpec := { name := "cplxQuarters", fn := fun _ => fun
  | [d1, d2] => { results := [.lit (.bool false)], args := [d1, d2] }
  | _ => none }
def CplxQuartersWrongFalsely : Prop := cplxQuartersRow.holds Try.pinned (OpenSpec.ofChange cplxQuartersWrong)

/-- 'facetlaw16.CplxUnits': WHATEVER THE INPUT: true; the input reads as it did. -/
def cplxUnitsSpec : ChangeSpec := { name := "cplxUnits", fn := fun _ => fun
  | [d1, d2] => { results := [.lit (.bool true)], args := [d1, d2] }
  | _ => none }
def cplxUnitsRow : OpenClaim := { program := "ytjhijkdicmbbiaa", sum := "25c2379a567d9d6485ad1d539e83b061c197969d94a357291b1be878c8eb3036", func := "facet/facetlaw16.CplxUnits", spec := "cplxUnits", inPlace := ["math.Float64bits", "math.Float64frombits", "math.sqrt"], apart := false }
def CplxUnitsSaid : Prop := cplxUnitsRow.holds Try.pinned (OpenSpec.ofChange cplxUnitsSpec)

/-- ITS FALSE NEIGHBOUR: 'it returns false'. Refute it at one input. -/
def cplxUnitsWrong : ChangeSpec := { name := "cplxUnits", fn := fun _ => fun
  | [d1, d2] => { results := [.lit (.bool false)], args := [d1, d2] }
  | _ => none }
def CplxUnitsWrongFalsely : Prop := cplxUnitsRow.holds Try.pinned (OpenSpec.ofChange cplxUnitsWrong)

/-- 'facetlaw16.CplxFixed': WHATEVER THE INPUT: true; the input reads as it did. -/
def cplxFixedSpec : ChangeSpec := { name := "cplxFixed", fn := fun _ => fun
  | [] => { results := [.lit (.bool true)], args := [] }
  | _ => none }
def cplxFixedRow : OpenClaim := { program := "ytjhijkdicmbbiaa", sum := "25c2379a567d9d6485ad1d539e83b061c197969d94a357291b1be878c8eb3036", func := "facet/facetlaw16.CplxFixed", spec := "cplxFixed", inPlace := ["math.Float64bits", "math.Float64frombits", "math.sqrt", "math.Float32bits"], apart := false }
def CplxFixedSaid : Prop := cplxFixedRow.holds Try.pinned (OpenSpec.ofChange cplxFixedSpec)

/-- ITS FALSE NEIGHBOUR: 'it returns false'. Refute it at one input. -/
def cplxFixedWrong : ChangeSpec := { name := "cplxFixed", fn := fun _ => fun
  | [] => { results := [.lit (.bool false)], args := [] }
  | _ => none }
def CplxFixedWrongFalsely : Prop := cplxFixedRow.holds Try.pinned (OpenSpec.ofChange cplxFixedWrong)

/-- 'facetlaw16.CplxMemory': WHATEVER THE INPUT: true; the input reads as it did. -/
def cplxMemorySpec : ChangeSpec := { name := "cplxMemory", fn := fun _ => fun
  | [d] => { results := [.lit (.bool true)], args := [d] }
  | _ => none }
def cplxMemoryRow : OpenClaim := { program := "ytjhijkdicmbbiaa", sum := "25c2379a567d9d6485ad1d539e83b061c197969d94a357291b1be878c8eb3036", func := "facet/facetlaw16.CplxMemory", spec := "cplxMemory", inPlace := ["math.Float64bits", "math.Float64frombits", "math.sqrt"], apart := false }
def CplxMemorySaid : Prop := cplxMemoryRow.holds Try.pinned (OpenSpec.ofChange cplxMemorySpec)

/-- ITS FALSE NEIGHBOUR: 'it returns false'. Refute it at one input. -/
def cplxMemoryWrong : ChangeSpec := { name := "cplxMemory", fn := fun _ => fun
  | [d] => { results := [.lit (.bool false)], args := [d] }
  | _ => none }
def CplxMemoryWrongFalsely : Prop := cplxMemoryRow.holds Try.pinned (OpenSpec.ofChange cplxMemoryWrong)

/-- 'facettop.WholeRing': WHATEVER THE INPUT: true; the input reads as it did. -/
def wholeRingSpec : ChangeSpec := { name := "wholeRing", fn := fun _ => fun
  | [d1, d2, d3, d4, d5, d6] => { results := [.lit (.bool true)], args := [d1, d2, d3, d4, d5, d6] }
  | _ => none }
def wholeRingRow : OpenClaim := { program := "ytjhijkdicmbbiaa", sum := "25c2379a567d9d6485ad1d539e83b061c197969d94a357291b1be878c8eb3036", func := "facet/facettop.WholeRing", spec := "wholeRing", inPlace := ["math/bits.Add64", "math/bits.Sub64"], unfollowed := true, recurses := true, apart := false }
def WholeRingSaid : Prop := wholeRingRow.holds Try.pinned (OpenSpec.ofChange wholeRingSpec)

/-- ITS FALSE NEIGHBOUR: 'it returns false'. Refute it at one input. -/
def wholeRingWrong : ChangeSpec := { name := "wholeRing", fn := fun _ => fun
  | [d1, d2, d3, d4, d5, d6] => { results := [.lit (.bool false)], args := [d1, d2, d3, d4, d5, d6] }
  | _ => none }
def WholeRingWrongFalsely : Prop := wholeRingRow.holds Try.pinned (OpenSpec.ofChange wholeRingWrong)

/-- 'facettop.WholeParts': WHATEVER THE INPUT: true; the input reads as it did. -/
def wholePartsSpec : ChangeSpec := { name := "wholeParts", fn := fun _ => fun
  | [d1, d2, d3, d4] => { results := [.lit (.bool true)], args := [d1, d2, d3, d4] }
  | _ => none }
def wholePartsRow : OpenClaim := { program := "ytjhijkdicmbbiaa", sum := "25c2379a567d9d6485ad1d539e83b061c197969d94a357291b1be878c8eb3036", func := "facet/facettop.WholeParts", spec := "wholeParts", inPlace := ["math.Float64frombits", "math.Float64bits", "math.sqrt"], apart := false }
def WholePartsSaid : Prop := wholePartsRow.holds Try.pinned (OpenSpec.ofChange wholePartsSpec)

/-- ITS FALSE NEIGHBOUR: 'it returns false'. Refute it at one input. -/
def wholePartsWrong : ChangeSpec := { name := "wholeParts", fn := fun _ => fun
  | [d1, d2, d3, d4] => { results := [.lit (.bool false)], args := [d1, d2, d3, d4] }
  | _ => none }
def WholePartsWrongFalsely : Prop := wholePartsRow.holds Try.pinned (OpenSpec.ofChange wholePartsWrong)

/- THE SECOND FORM. 'bulk': how many values and letters a reading holds, each counted each time it is reached (what is shared counts as often as it is met; a slice's spare places count too). A statement '..UptoSaid' is the law's where the arguments, and the package variables that the reading takes, are together of bulk at most 1048576: NARROWER than '..Said'. Prove '..Said' where nothing that the law and all that it calls make is longer than what came in: it says more and counts as full. Else prove '..UptoSaid'. A law counts once. -/
mutual
def uptoBulk {H : Type} : DataW H → Nat
  | .lit (.string bytes) => bytes.length + 1
  | .lit _ => 1
  | .nil => 1
  | .ptr d => uptoBulk d + 1
  | .slice elems spare => uptoBulkAll elems + uptoBulkAll spare + 1
  | .agg parts => uptoBulkAll parts + 1
  | .iface _ d => uptoBulk d + 1
  | .map entries => uptoBulkEntries entries + 1
  | .held _ => 1
def uptoBulkAll {H : Type} : List (DataW H) → Nat
  | [] => 0
  | d :: r => uptoBulk d + uptoBulkAll r
def uptoBulkEntries {H : Type} : List (Lit × DataW H) → Nat
  | [] => 0
  | x :: r => uptoBulkEntry x + uptoBulkEntries r
def uptoBulkEntry {H : Type} : Lit × DataW H → Nat
  | (.string bytes, d) => bytes.length + uptoBulk d + 1
  | (_, d) => uptoBulk d + 1
 end
def uptoSmall : (H : Type) → List (DataW H) → Bool := fun _ ds => decide (uptoBulkAll ds ≤ 1048576)
def OpenSpec.upto (s : _root_.Go.ChangeSpec) : _root_.Go.OpenSpec := { _root_.Go.OpenSpec.ofChange s with cond := some uptoSmall }

/-- 'facetlaw15.RingSums', WHERE WHAT IT READS IS OF BULK AT MOST 1048576: true; the input reads as it did. -/
def ringSumsUptoRow : OpenClaim := { program := "ytjhijkdicmbbiaa", sum := "25c2379a567d9d6485ad1d539e83b061c197969d94a357291b1be878c8eb3036", func := "facet/facetlaw15.RingSums", spec := "ringSums", inPlace := ["math/bits.Add64", "math/bits.Sub64"], unfollowed := true, recurses := true, apart := false, narrowed := true }
def RingSumsUptoSaid : Prop := ringSumsUptoRow.holds Try.pinned (OpenSpec.upto ringSumsSpec)

/-- 'facetlaw15.RingProducts', WHERE WHAT IT READS IS OF BULK AT MOST 1048576: true; the input reads as it did. -/
def ringProductsUptoRow : OpenClaim := { program := "ytjhijkdicmbbiaa", sum := "25c2379a567d9d6485ad1d539e83b061c197969d94a357291b1be878c8eb3036", func := "facet/facetlaw15.RingProducts", spec := "ringProducts", inPlace := ["math/bits.Add64", "math/bits.Sub64"], unfollowed := true, recurses := true, apart := false, narrowed := true }
def RingProductsUptoSaid : Prop := ringProductsUptoRow.holds Try.pinned (OpenSpec.upto ringProductsSpec)

/-- 'facetlaw15.RingOnes', WHERE WHAT IT READS IS OF BULK AT MOST 1048576: true; the input reads as it did. -/
def ringOnesUptoRow : OpenClaim := { program := "ytjhijkdicmbbiaa", sum := "25c2379a567d9d6485ad1d539e83b061c197969d94a357291b1be878c8eb3036", func := "facet/facetlaw15.RingOnes", spec := "ringOnes", inPlace := ["math/bits.Add64", "math/bits.Sub64"], unfollowed := true, recurses := true, apart := false, narrowed := true }
def RingOnesUptoSaid : Prop := ringOnesUptoRow.holds Try.pinned (OpenSpec.upto ringOnesSpec)

/-- 'facetlaw15.RingAsks', WHERE WHAT IT READS IS OF BULK AT MOST 1048576: true; the input reads as it did. -/
def ringAsksUptoRow : OpenClaim := { program := "ytjhijkdicmbbiaa", sum := "25c2379a567d9d6485ad1d539e83b061c197969d94a357291b1be878c8eb3036", func := "facet/facetlaw15.RingAsks", spec := "ringAsks", inPlace := ["math/bits.Add64", "math/bits.Sub64"], unfollowed := true, recurses := true, apart := false, narrowed := true }
def RingAsksUptoSaid : Prop := ringAsksUptoRow.holds Try.pinned (OpenSpec.upto ringAsksSpec)

/-- 'facetlaw15.RingKeeps', WHERE WHAT IT READS IS OF BULK AT MOST 1048576: true; the input reads as it did. -/
def ringKeepsUptoRow : OpenClaim := { program := "ytjhijkdicmbbiaa", sum := "25c2379a567d9d6485ad1d539e83b061c197969d94a357291b1be878c8eb3036", func := "facet/facetlaw15.RingKeeps", spec := "ringKeeps", inPlace := ["math/bits.Add64", "math/bits.Sub64"], unfollowed := true, recurses := true, apart := false, narrowed := true }
def RingKeepsUptoSaid : Prop := ringKeepsUptoRow.holds Try.pinned (OpenSpec.upto ringKeepsSpec)

/-- 'facetlaw15.RingLaws', WHERE WHAT IT READS IS OF BULK AT MOST 1048576: true; the input reads as it did. -/
def ringLawsUptoRow : OpenClaim := { program := "ytjhijkdicmbbiaa", sum := "25c2379a567d9d6485ad1d539e83b061c197969d94a357291b1be878c8eb3036", func := "facet/facetlaw15.RingLaws", spec := "ringLaws", inPlace := ["math/bits.Add64", "math/bits.Sub64"], unfollowed := true, recurses := true, apart := false, narrowed := true }
def RingLawsUptoSaid : Prop := ringLawsUptoRow.holds Try.pinned (OpenSpec.upto ringLawsSpec)

/-- 'facetlaw15.RingRoots', WHERE WHAT IT READS IS OF BULK AT MOST 1048576: true; the input reads as it did. -/
def ringRootsUptoRow : OpenClaim := { program := "ytjhijkdicmbbiaa", sum := "25c2379a567d9d6485ad1d539e83b061c197969d94a357291b1be878c8eb3036", func := "facet/facetlaw15.RingRoots", spec := "ringRoots", inPlace := ["math/bits.Add64", "math/bits.Sub64"], unfollowed := true, recurses := true, apart := false, narrowed := true }
def RingRootsUptoSaid : Prop := ringRootsUptoRow.holds Try.pinned (OpenSpec.upto ringRootsSpec)

/-- 'facetlaw15.RingFiner', WHERE WHAT IT READS IS OF BULK AT MOST 1048576: true; the input reads as it did. -/
def ringFinerUptoRow : OpenClaim := { program := "ytjhijkdicmbbiaa", sum := "25c2379a567d9d6485ad1d539e83b061c197969d94a357291b1be878c8eb3036", func := "facet/facetlaw15.RingFiner", spec := "ringFiner", inPlace := ["math/bits.Add64", "math/bits.Sub64"], unfollowed := true, recurses := true, apart := false, narrowed := true }
def RingFinerUptoSaid : Prop := ringFinerUptoRow.holds Try.pinned (OpenSpec.upto ringFinerSpec)

/-- 'facetlaw15.RingZero', WHERE WHAT IT READS IS OF BULK AT MOST 1048576: true; the input reads as it did. -/
def ringZeroUptoRow : OpenClaim := { program := "ytjhijkdicmbbiaa", sum := "25c2379a567d9d6485ad1d539e83b061c197969d94a357291b1be878c8eb3036", func := "facet/facetlaw15.RingZero", spec := "ringZero", inPlace := ["math/bits.Add64", "math/bits.Sub64"], unfollowed := true, recurses := true, apart := false, narrowed := true }
def RingZeroUptoSaid : Prop := ringZeroUptoRow.holds Try.pinned (OpenSpec.upto ringZeroSpec)

/-- 'facetlaw16.CplxOnes', WHERE WHAT IT READS IS OF BULK AT MOST 1048576: true; the input reads as it did. -/
def cplxOnesUptoRow : OpenClaim := { program := "ytjhijkdicmbbiaa", sum := "25c2379a567d9d6485ad1d539e83b061c197969d94a357291b1be878c8eb3036", func := "facet/facetlaw16.CplxOnes", spec := "cplxOnes", inPlace := ["math.Float64bits", "math.Float64frombits", "math.sqrt", "math.Float32frombits", "math.Float32bits"], apart := false, narrowed := true }
def CplxOnesUptoSaid : Prop := cplxOnesUptoRow.holds Try.pinned (OpenSpec.upto cplxOnesSpec)

/-- 'facetlaw16.CplxTwos', WHERE WHAT IT READS IS OF BULK AT MOST 1048576: true; the input reads as it did. -/
def cplxTwosUptoRow : OpenClaim := { program := "ytjhijkdicmbbiaa", sum := "25c2379a567d9d6485ad1d539e83b061c197969d94a357291b1be878c8eb3036", func := "facet/facetlaw16.CplxTwos", spec := "cplxTwos", inPlace := ["math.Float64bits", "math.Float64frombits", "math.sqrt"], apart := false, narrowed := true }
def CplxTwosUptoSaid : Prop := cplxTwosUptoRow.holds Try.pinned (OpenSpec.upto cplxTwosSpec)

/-- 'facetlaw16.CplxSums', WHERE WHAT IT READS IS OF BULK AT MOST 1048576: true; the input reads as it did. -/
def cplxSumsUptoRow : OpenClaim := { program := "ytjhijkdicmbbiaa", sum := "25c2379a567d9d6485ad1d539e83b061c197969d94a357291b1be878c8eb3036", func := "facet/facetlaw16.CplxSums", spec := "cplxSums", inPlace := ["math.Float64bits", "math.Float64frombits", "math.sqrt"], apart := false, narrowed := true }
def CplxSumsUptoSaid : Prop := cplxSumsUptoRow.holds Try.pinned (OpenSpec.upto cplxSumsSpec)

/-- 'facetlaw16.CplxMirrors', WHERE WHAT IT READS IS OF BULK AT MOST 1048576: true; the input reads as it did. -/
def cplxMirrorsUptoRow : OpenClaim := { program := "ytjhijkdicmbbiaa", sum := "25c2379a567d9d6485ad1d539e83b061c197969d94a357291b1be878c8eb3036", func := "facet/facetlaw16.CplxMirrors", spec := "cplxMirrors", inPlace := ["math.Float64bits", "math.Float64frombits", "math.sqrt"], apart := false, narrowed := true }
def CplxMirrorsUptoSaid : Prop := cplxMirrorsUptoRow.holds Try.pinned (OpenSpec.upto cplxMirrorsSpec)

/-- 'facetlaw16.CplxQuarters', WHERE WHAT IT READS IS OF BULK AT MOST 1048576: true; the input reads as it did. -/
def cplxQuartersUptoRow : OpenClaim := { program := "ytjhijkdicmbbiaa", sum := "25c2379a567d9d6485ad1d539e83b061c197969d94a357291b1be878c8eb3036", func := "facet/facetlaw16.CplxQuarters", spec := "cplxQuarters", inPlace := ["math.Float64bits", "math.Float64frombits", "math.sqrt"], apart := false, narrowed := true }
def CplxQuartersUptoSaid : Prop := cplxQuartersUptoRow.holds Try.pinned (OpenSpec.upto cplxQuartersSpec)

/-- 'facetlaw16.CplxUnits', WHERE WHAT IT READS IS OF BULK AT MOST 1048576: true; the input reads as it did. -/
def cplxUnitsUptoRow : OpenClaim := { program := "ytjhijkdicmbbiaa", sum := "25c2379a567d9d6485ad1d539e83b061c197969d94a357291b1be878c8eb3036", func := "facet/facetlaw16.CplxUnits", spec := "cplxUnits", inPlace := ["math.Float64bits", "math.Float64frombits", "math.sqrt"], apart := false, narrowed := true }
def CplxUnitsUptoSaid : Prop := cplxUnitsUptoRow.holds Try.pinned (OpenSpec.upto cplxUnitsSpec)

/-- 'facetlaw16.CplxFixed', WHERE WHAT IT READS IS OF BULK AT MOST 1048576: true; the input reads as it did. -/
def cplxFixedUptoRow : OpenClaim := { program := "ytjhijkdicmbbiaa", sum := "25c2379a567d9d6485ad1d539e83b061c197969d94a357291b1be878c8eb3036", func := "facet/facetlaw16.CplxFixed", spec := "cplxFixed", inPlace := ["math.Float64bits", "math.Float64frombits", "math.sqrt", "math.Float32bits"], apart := false, narrowed := true }
def CplxFixedUptoSaid : Prop := cplxFixedUptoRow.holds Try.pinned (OpenSpec.upto cplxFixedSpec)

/-- 'facetlaw16.CplxMemory', WHERE WHAT IT READS IS OF BULK AT MOST 1048576: true; the input reads as it did. -/
def cplxMemoryUptoRow : OpenClaim := { program := "ytjhijkdicmbbiaa", sum := "25c2379a567d9d6485ad1d539e83b061c197969d94a357291b1be878c8eb3036", func := "facet/facetlaw16.CplxMemory", spec := "cplxMemory", inPlace := ["math.Float64bits", "math.Float64frombits", "math.sqrt"], apart := false, narrowed := true }
def CplxMemoryUptoSaid : Prop := cplxMemoryUptoRow.holds Try.pinned (OpenSpec.upto cplxMemorySpec)

/-- 'facettop.WholeRing', WHERE WHAT IT READS IS OF BULK AT MOST 1048576: true; the input reads as it did. -/
def wholeRingUptoRow : OpenClaim := { program := "ytjhijkdicmbbiaa", sum := "25c2379a567d9d6485ad1d539e83b061c197969d94a357291b1be878c8eb3036", func := "facet/facettop.WholeRing", spec := "wholeRing", inPlace := ["math/bits.Add64", "math/bits.Sub64"], unfollowed := true, recurses := true, apart := false, narrowed := true }
def WholeRingUptoSaid : Prop := wholeRingUptoRow.holds Try.pinned (OpenSpec.upto wholeRingSpec)

/-- 'facettop.WholeParts', WHERE WHAT IT READS IS OF BULK AT MOST 1048576: true; the input reads as it did. -/
def wholePartsUptoRow : OpenClaim := { program := "ytjhijkdicmbbiaa", sum := "25c2379a567d9d6485ad1d539e83b061c197969d94a357291b1be878c8eb3036", func := "facet/facettop.WholeParts", spec := "wholeParts", inPlace := ["math.Float64frombits", "math.Float64bits", "math.sqrt"], apart := false, narrowed := true }
def WholePartsUptoSaid : Prop := wholePartsUptoRow.holds Try.pinned (OpenSpec.upto wholePartsSpec)

end Rows
end Go.Proofs.Ytjhijkdicmbbiaa
