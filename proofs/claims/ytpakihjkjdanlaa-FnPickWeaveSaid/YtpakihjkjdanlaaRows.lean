/-
  No cell of these rows narrows 'for every input' (looked for: loops, veiled, ifaces, maps, wideKeys, modest, calm, conditions, laid).
  DERIVED. THE GIVEN ROWS OF THIS SEAT. 13 by the template 'for every input the law returns true; each argument reads behind the call as it read before'; 0 by the template 'total and deterministic' (their statements: YtpakihjkjdanlaaTotals.lean).
  GIVEN WITH THE SEED: the statements are not yours to turn. If you find one false, say at which input.
  Laid BY PROGRAM, IN A SANDBOX (cutbox-rows.mjs): the forced cells as the released guide's own fill.sh prints them over the translation 61d5657051e14f82… (all of the seat's roots in one cut). By AI agents, Wed Nov 11 2026. No macro, syntax, notation, axiom, sorry.
-/
import Derived.Test.YtpakihjkjdanlaaChecked
import GoSem.Claim
import GoSem.ClaimJoined
import GoSem.ClaimMapViews
import Derived.JoinedTies
import Derived.KernelRfl
namespace Go.Proofs.Ytpakihjkjdanlaa
/- THE CELL 'sum', in the pinned program and in every row, IS THE sha256 OF THE DUMP (.gsa) THAT YtpakihjkjdanlaaProg.lean LOADS. Nothing in Lean hashes anything: it is a label: what it is worth is what the hold of that sum in a sandbox is worth. -/
noncomputable def Try.pinned : Pinned := { name := "ytpakihjkjdanlaa", sum := "61d5657051e14f82bbc0e6b09050eb8e4308b393f2bd5b2657b2c2c5198286db", checked := Try.checked }
namespace Rows
def none {H : Type} : Left H := { results := [], args := [] }

/-- 'laws.FnExactGatherData': WHATEVER THE INPUT: true; the input reads as it did. -/
def fnExactGatherDataSpec : ChangeSpec := { name := "fnExactGatherData", fn := fun _ => fun
  | [d1, d2] => { results := [.lit (.bool true)], args := [d1, d2] }
  | _ => none }
def fnExactGatherDataRow : OpenClaim := { program := "ytpakihjkjdanlaa", sum := "61d5657051e14f82bbc0e6b09050eb8e4308b393f2bd5b2657b2c2c5198286db", func := "loop.example/flatarrays/laws.FnExactGatherData", spec := "fnExactGatherData", plainKeys := false, apart := false }
def FnExactGatherDataSaid : Prop := fnExactGatherDataRow.holds Try.pinned (OpenSpec.ofChange fnExactGatherDataSpec)

/-- ITS FALSE NEIGHBOUR: 'it returns false'. Refute it at one input. -/
def fnExactGatherDataWrong : ChangeSpec := { name := "fnExactGatherData", fn := fun _ => fun
  | [d1, d2] => { results := [.lit (.bool false)], args := [d1, d2] }
  | _ => none }
def FnExactGatherDataWrongFalsely : Prop := fnExactGatherDataRow.holds Try.pinned (OpenSpec.ofChange fnExactGatherDataWrong)

/-- 'laws.FnExactIsPermutation': WHATEVER THE INPUT: true; the input reads as it did. -/
def fnExactIsPermutationSpec : ChangeSpec := { name := "fnExactIsPermutation", fn := fun _ => fun
  | [d] => { results := [.lit (.bool true)], args := [d] }
  | _ => none }
def fnExactIsPermutationRow : OpenClaim := { program := "ytpakihjkjdanlaa", sum := "61d5657051e14f82bbc0e6b09050eb8e4308b393f2bd5b2657b2c2c5198286db", func := "loop.example/flatarrays/laws.FnExactIsPermutation", spec := "fnExactIsPermutation", plainKeys := false, apart := false }
def FnExactIsPermutationSaid : Prop := fnExactIsPermutationRow.holds Try.pinned (OpenSpec.ofChange fnExactIsPermutationSpec)

/-- ITS FALSE NEIGHBOUR: 'it returns false'. Refute it at one input. -/
def fnExactIsPermutationWrong : ChangeSpec := { name := "fnExactIsPermutation", fn := fun _ => fun
  | [d] => { results := [.lit (.bool false)], args := [d] }
  | _ => none }
def FnExactIsPermutationWrongFalsely : Prop := fnExactIsPermutationRow.holds Try.pinned (OpenSpec.ofChange fnExactIsPermutationWrong)

/-- 'laws.FnExactInvertIndices': WHATEVER THE INPUT: true; the input reads as it did. -/
def fnExactInvertIndicesSpec : ChangeSpec := { name := "fnExactInvertIndices", fn := fun _ => fun
  | [d] => { results := [.lit (.bool true)], args := [d] }
  | _ => none }
def fnExactInvertIndicesRow : OpenClaim := { program := "ytpakihjkjdanlaa", sum := "61d5657051e14f82bbc0e6b09050eb8e4308b393f2bd5b2657b2c2c5198286db", func := "loop.example/flatarrays/laws.FnExactInvertIndices", spec := "fnExactInvertIndices", plainKeys := false, apart := false }
def FnExactInvertIndicesSaid : Prop := fnExactInvertIndicesRow.holds Try.pinned (OpenSpec.ofChange fnExactInvertIndicesSpec)

/-- ITS FALSE NEIGHBOUR: 'it returns false'. Refute it at one input. -/
def fnExactInvertIndicesWrong : ChangeSpec := { name := "fnExactInvertIndices", fn := fun _ => fun
  | [d] => { results := [.lit (.bool false)], args := [d] }
  | _ => none }
def FnExactInvertIndicesWrongFalsely : Prop := fnExactInvertIndicesRow.holds Try.pinned (OpenSpec.ofChange fnExactInvertIndicesWrong)

/-- 'laws.FnExactScatterData': WHATEVER THE INPUT: true; the input reads as it did. -/
def fnExactScatterDataSpec : ChangeSpec := { name := "fnExactScatterData", fn := fun _ => fun
  | [d1, d2] => { results := [.lit (.bool true)], args := [d1, d2] }
  | _ => none }
def fnExactScatterDataRow : OpenClaim := { program := "ytpakihjkjdanlaa", sum := "61d5657051e14f82bbc0e6b09050eb8e4308b393f2bd5b2657b2c2c5198286db", func := "loop.example/flatarrays/laws.FnExactScatterData", spec := "fnExactScatterData", plainKeys := false, apart := false }
def FnExactScatterDataSaid : Prop := fnExactScatterDataRow.holds Try.pinned (OpenSpec.ofChange fnExactScatterDataSpec)

/-- ITS FALSE NEIGHBOUR: 'it returns false'. Refute it at one input. -/
def fnExactScatterDataWrong : ChangeSpec := { name := "fnExactScatterData", fn := fun _ => fun
  | [d1, d2] => { results := [.lit (.bool false)], args := [d1, d2] }
  | _ => none }
def FnExactScatterDataWrongFalsely : Prop := fnExactScatterDataRow.holds Try.pinned (OpenSpec.ofChange fnExactScatterDataWrong)

/-- 'laws.FnExactTurnSegments': WHATEVER THE INPUT: true; the input reads as it did. -/
def fnExactTurnSegmentsSpec : ChangeSpec := { name := "fnExactTurnSegments", fn := fun _ => fun
  | [d] => { results := [.lit (.bool true)], args := [d] }
  | _ => none }
def fnExactTurnSegmentsRow : OpenClaim := { program := "ytpakihjkjdanlaa", sum := "61d5657051e14f82bbc0e6b09050eb8e4308b393f2bd5b2657b2c2c5198286db", func := "loop.example/flatarrays/laws.FnExactTurnSegments", spec := "fnExactTurnSegments", unfollowed := true, recurses := true, plainKeys := false, apart := false }
def FnExactTurnSegmentsSaid : Prop := fnExactTurnSegmentsRow.holds Try.pinned (OpenSpec.ofChange fnExactTurnSegmentsSpec)

/-- ITS FALSE NEIGHBOUR: 'it returns false'. Refute it at one input. -/
def fnExactTurnSegmentsWrong : ChangeSpec := { name := "fnExactTurnSegments", fn := fun _ => fun
  | [d] => { results := [.lit (.bool false)], args := [d] }
  | _ => none }
def FnExactTurnSegmentsWrongFalsely : Prop := fnExactTurnSegmentsRow.holds Try.pinned (OpenSpec.ofChange fnExactTurnSegmentsWrong)

/-- 'laws.FnExactSortSegments': WHATEVER THE INPUT: true; the input reads as it did. -/
def fnExactSortSegmentsSpec : ChangeSpec := { name := "fnExactSortSegments", fn := fun _ => fun
  | [d1, d2] => { results := [.lit (.bool true)], args := [d1, d2] }
  | _ => none }
def fnExactSortSegmentsRow : OpenClaim := { program := "ytpakihjkjdanlaa", sum := "61d5657051e14f82bbc0e6b09050eb8e4308b393f2bd5b2657b2c2c5198286db", func := "loop.example/flatarrays/laws.FnExactSortSegments", spec := "fnExactSortSegments", unfollowed := true, recurses := true, plainKeys := false, apart := false }
def FnExactSortSegmentsSaid : Prop := fnExactSortSegmentsRow.holds Try.pinned (OpenSpec.ofChange fnExactSortSegmentsSpec)

/-- ITS FALSE NEIGHBOUR: 'it returns false'. Refute it at one input. -/
def fnExactSortSegmentsWrong : ChangeSpec := { name := "fnExactSortSegments", fn := fun _ => fun
  | [d1, d2] => { results := [.lit (.bool false)], args := [d1, d2] }
  | _ => none }
def FnExactSortSegmentsWrongFalsely : Prop := fnExactSortSegmentsRow.holds Try.pinned (OpenSpec.ofChange fnExactSortSegmentsWrong)

/-- 'laws.FnExactPickSegments': WHATEVER THE INPUT: true; the input reads as it did. -/
def fnExactPickSegmentsSpec : ChangeSpec := { name := "fnExactPickSegments", fn := fun _ => fun
  | [d1, d2, d3] => { results := [.lit (.bool true)], args := [d1, d2, d3] }
  | _ => none }
def fnExactPickSegmentsRow : OpenClaim := { program := "ytpakihjkjdanlaa", sum := "61d5657051e14f82bbc0e6b09050eb8e4308b393f2bd5b2657b2c2c5198286db", func := "loop.example/flatarrays/laws.FnExactPickSegments", spec := "fnExactPickSegments", unfollowed := true, recurses := true, plainKeys := false, apart := false }
def FnExactPickSegmentsSaid : Prop := fnExactPickSegmentsRow.holds Try.pinned (OpenSpec.ofChange fnExactPickSegmentsSpec)

/-- ITS FALSE NEIGHBOUR: 'it returns false'. Refute it at one input. -/
def fnExactPickSegmentsWrong : ChangeSpec := { name := "fnExactPickSegments", fn := fun _ => fun
  | [d1, d2, d3] => { results := [.lit (.bool false)], args := [d1, d2, d3] }
  | _ => none }
def FnExactPickSegmentsWrongFalsely : Prop := fnExactPickSegmentsRow.holds Try.pinned (OpenSpec.ofChange fnExactPickSegmentsWrong)

/-- 'laws.FnExactWeaveData': WHATEVER THE INPUT: true; the input reads as it did. -/
def fnExactWeaveDataSpec : ChangeSpec := { name := "fnExactWeaveData", fn := fun _ => fun
  | [d1, d2, d3] => { results := [.lit (.bool true)], args := [d1, d2, d3] }
  | _ => none }
def fnExactWeaveDataRow : OpenClaim := { program := "ytpakihjkjdanlaa", sum := "61d5657051e14f82bbc0e6b09050eb8e4308b393f2bd5b2657b2c2c5198286db", func := "loop.example/flatarrays/laws.FnExactWeaveData", spec := "fnExactWeaveData", plainKeys := false, apart := false }
def FnExactWeaveDataSaid : Prop := fnExactWeaveDataRow.holds Try.pinned (OpenSpec.ofChange fnExactWeaveDataSpec)

/-- ITS FALSE NEIGHBOUR: 'it returns false'. Refute it at one input. -/
def fnExactWeaveDataWrong : ChangeSpec := { name := "fnExactWeaveData", fn := fun _ => fun
  | [d1, d2, d3] => { results := [.lit (.bool false)], args := [d1, d2, d3] }
  | _ => none }
def FnExactWeaveDataWrongFalsely : Prop := fnExactWeaveDataRow.holds Try.pinned (OpenSpec.ofChange fnExactWeaveDataWrong)

/-- 'laws.FnGather': WHATEVER THE INPUT: true; the input reads as it did. -/
def fnGatherSpec : ChangeSpec := { name := "fnGather", fn := fun _ => fun
  | [d] => { results := [.lit (.bool true)], args := [d] }
  | _ => none }
def fnGatherRow : OpenClaim := { program := "ytpakihjkjdanlaa", sum := "61d5657051e14f82bbc0e6b09050eb8e4308b393f2bd5b2657b2c2c5198286db", func := "loop.example/flatarrays/laws.FnGather", spec := "fnGather", plainKeys := false, apart := false }
def FnGatherSaid : Prop := fnGatherRow.holds Try.pinned (OpenSpec.ofChange fnGatherSpec)

/-- ITS FALSE NEIGHBOUR: 'it returns false'. Refute it at one input. -/
def fnGatherWrong : ChangeSpec := { name := "fnGather", fn := fun _ => fun
  | [d] => { results := [.lit (.bool false)], args := [d] }
  | _ => none }
def FnGatherWrongFalsely : Prop := fnGatherRow.holds Try.pinned (OpenSpec.ofChange fnGatherWrong)

/-- 'laws.FnScatter': WHATEVER THE INPUT: true; the input reads as it did. -/
def fnScatterSpec : ChangeSpec := { name := "fnScatter", fn := fun _ => fun
  | [d] => { results := [.lit (.bool true)], args := [d] }
  | _ => none }
def fnScatterRow : OpenClaim := { program := "ytpakihjkjdanlaa", sum := "61d5657051e14f82bbc0e6b09050eb8e4308b393f2bd5b2657b2c2c5198286db", func := "loop.example/flatarrays/laws.FnScatter", spec := "fnScatter", plainKeys := false, apart := false }
def FnScatterSaid : Prop := fnScatterRow.holds Try.pinned (OpenSpec.ofChange fnScatterSpec)

/-- ITS FALSE NEIGHBOUR: 'it returns false'. Refute it at one input. -/
def fnScatterWrong : ChangeSpec := { name := "fnScatter", fn := fun _ => fun
  | [d] => { results := [.lit (.bool false)], args := [d] }
  | _ => none }
def FnScatterWrongFalsely : Prop := fnScatterRow.holds Try.pinned (OpenSpec.ofChange fnScatterWrong)

/-- 'laws.FnTurnSort': WHATEVER THE INPUT: true; the input reads as it did. -/
def fnTurnSortSpec : ChangeSpec := { name := "fnTurnSort", fn := fun _ => fun
  | [d] => { results := [.lit (.bool true)], args := [d] }
  | _ => none }
def fnTurnSortRow : OpenClaim := { program := "ytpakihjkjdanlaa", sum := "61d5657051e14f82bbc0e6b09050eb8e4308b393f2bd5b2657b2c2c5198286db", func := "loop.example/flatarrays/laws.FnTurnSort", spec := "fnTurnSort", unfollowed := true, recurses := true, plainKeys := false, apart := false }
def FnTurnSortSaid : Prop := fnTurnSortRow.holds Try.pinned (OpenSpec.ofChange fnTurnSortSpec)

/-- ITS FALSE NEIGHBOUR: 'it returns false'. Refute it at one input. -/
def fnTurnSortWrong : ChangeSpec := { name := "fnTurnSort", fn := fun _ => fun
  | [d] => { results := [.lit (.bool false)], args := [d] }
  | _ => none }
def FnTurnSortWrongFalsely : Prop := fnTurnSortRow.holds Try.pinned (OpenSpec.ofChange fnTurnSortWrong)

/-- 'laws.FnPickWeave': WHATEVER THE INPUT: true; the input reads as it did. -/
def fnPickWeaveSpec : ChangeSpec := { name := "fnPickWeave", fn := fun _ => fun
  | [d1, d2] => { results := [.lit (.bool true)], args := [d1, d2] }
  | _ => none }
def fnPickWeaveRow : OpenClaim := { program := "ytpakihjkjdanlaa", sum := "61d5657051e14f82bbc0e6b09050eb8e4308b393f2bd5b2657b2c2c5198286db", func := "loop.example/flatarrays/laws.FnPickWeave", spec := "fnPickWeave", unfollowed := true, recurses := true, plainKeys := false, apart := false }
def FnPickWeaveSaid : Prop := fnPickWeaveRow.holds Try.pinned (OpenSpec.ofChange fnPickWeaveSpec)

/-- ITS FALSE NEIGHBOUR: 'it returns false'. Refute it at one input. -/
def fnPickWeaveWrong : ChangeSpec := { name := "fnPickWeave", fn := fun _ => fun
  | [d1, d2] => { results := [.lit (.bool false)], args := [d1, d2] }
  | _ => none }
def FnPickWeaveWrongFalsely : Prop := fnPickWeaveRow.holds Try.pinned (OpenSpec.ofChange fnPickWeaveWrong)

/-- 'laws.FnExactInnerOf': WHATEVER THE INPUT: true; the input reads as it did. -/
def fnExactInnerOfSpec : ChangeSpec := { name := "fnExactInnerOf", fn := fun _ => fun
  | [d] => { results := [.lit (.bool true)], args := [d] }
  | _ => none }
def fnExactInnerOfRow : OpenClaim := { program := "ytpakihjkjdanlaa", sum := "61d5657051e14f82bbc0e6b09050eb8e4308b393f2bd5b2657b2c2c5198286db", func := "loop.example/flatarrays/laws.FnExactInnerOf", spec := "fnExactInnerOf", recurses := true, plainKeys := false, apart := false }
def FnExactInnerOfSaid : Prop := fnExactInnerOfRow.holds Try.pinned (OpenSpec.ofChange fnExactInnerOfSpec)

/-- ITS FALSE NEIGHBOUR: 'it returns false'. Refute it at one input. -/
def fnExactInnerOfWrong : ChangeSpec := { name := "fnExactInnerOf", fn := fun _ => fun
  | [d] => { results := [.lit (.bool false)], args := [d] }
  | _ => none }
def FnExactInnerOfWrongFalsely : Prop := fnExactInnerOfRow.holds Try.pinned (OpenSpec.ofChange fnExactInnerOfWrong)

/- THE SECOND FORM. 'bulk': how many values and letters a reading holds, each counted each time it is reached (what is shared counts as often as it is met; a slice's spare places count too). A statement '..UptoSaid' is the law's where the arguments, and the package variables that the reading takes, are together of bulk at most 1048576: NARROWER than '..Said'. Prove '..Said' where nothing that the law and all that it calls make is longer than what came in: it says more and counts as full. Else prove '..UptoSaid'. A law counts once. -/
mutual
def uptoBulk {H : Type} : DataW H → Nat
  | .lit (.string bytes) => bytes.length + 1
  | .lit _ => 1
  | .nil => 1
  | .ptr d => uptoBulk d + 1
  | .slice elems spare => uptoBulkAll elems + uptoBulkAll spare + 1
  | .agg parts => uptoBulkAll parts + 1
  | .iface _ d => uptoBulk d + 1
  | .map entries => uptoBulkEntries entries + 1
  | .held _ => 1
def uptoBulkAll {H : Type} : List (DataW H) → Nat
  | [] => 0
  | d :: r => uptoBulk d + uptoBulkAll r
def uptoBulkEntries {H : Type} : List (Lit × DataW H) → Nat
  | [] => 0
  | x :: r => uptoBulkEntry x + uptoBulkEntries r
def uptoBulkEntry {H : Type} : Lit × DataW H → Nat
  | (.string bytes, d) => bytes.length + uptoBulk d + 1
  | (_, d) => uptoBulk d + 1
 end
def uptoSmall : (H : Type) → List (DataW H) → Bool := fun _ ds => decide (uptoBulkAll ds ≤ 1048576)
def OpenSpec.upto (s : _root_.Go.ChangeSpec) : _root_.Go.OpenSpec := { _root_.Go.OpenSpec.ofChange s with cond := some uptoSmall }

/-- 'laws.FnExactGatherData', WHERE WHAT IT READS IS OF BULK AT MOST 1048576: true; the input reads as it did. -/
def fnExactGatherDataUptoRow : OpenClaim := { program := "ytpakihjkjdanlaa", sum := "61d5657051e14f82bbc0e6b09050eb8e4308b393f2bd5b2657b2c2c5198286db", func := "loop.example/flatarrays/laws.FnExactGatherData", spec := "fnExactGatherData", plainKeys := false, apart := false, narrowed := true }
def FnExactGatherDataUptoSaid : Prop := fnExactGatherDataUptoRow.holds Try.pinned (OpenSpec.upto fnExactGatherDataSpec)

/-- 'laws.FnExactIsPermutation', WHERE WHAT IT READS IS OF BULK AT MOST 1048576: true; the input reads as it did. -/
def fnExactIsPermutationUptoRow : OpenClaim := { program := "ytpakihjkjdanlaa", sum := "61d5657051e14f82bbc0e6b09050eb8e4308b393f2bd5b2657b2c2c5198286db", func := "loop.example/flatarrays/laws.FnExactIsPermutation", spec := "fnExactIsPermutation", plainKeys := false, apart := false, narrowed := true }
def FnExactIsPermutationUptoSaid : Prop := fnExactIsPermutationUptoRow.holds Try.pinned (OpenSpec.upto fnExactIsPermutationSpec)

/-- 'laws.FnExactInvertIndices', WHERE WHAT IT READS IS OF BULK AT MOST 1048576: true; the input reads as it did. -/
def fnExactInvertIndicesUptoRow : OpenClaim := { program := "ytpakihjkjdanlaa", sum := "61d5657051e14f82bbc0e6b09050eb8e4308b393f2bd5b2657b2c2c5198286db", func := "loop.example/flatarrays/laws.FnExactInvertIndices", spec := "fnExactInvertIndices", plainKeys := false, apart := false, narrowed := true }
def FnExactInvertIndicesUptoSaid : Prop := fnExactInvertIndicesUptoRow.holds Try.pinned (OpenSpec.upto fnExactInvertIndicesSpec)

/-- 'laws.FnExactScatterData', WHERE WHAT IT READS IS OF BULK AT MOST 1048576: true; the input reads as it did. -/
def fnExactScatterDataUptoRow : OpenClaim := { program := "ytpakihjkjdanlaa", sum := "61d5657051e14f82bbc0e6b09050eb8e4308b393f2bd5b2657b2c2c5198286db", func := "loop.example/flatarrays/laws.FnExactScatterData", spec := "fnExactScatterData", plainKeys := false, apart := false, narrowed := true }
def FnExactScatterDataUptoSaid : Prop := fnExactScatterDataUptoRow.holds Try.pinned (OpenSpec.upto fnExactScatterDataSpec)

/-- 'laws.FnExactTurnSegments', WHERE WHAT IT READS IS OF BULK AT MOST 1048576: true; the input reads as it did. -/
def fnExactTurnSegmentsUptoRow : OpenClaim := { program := "ytpakihjkjdanlaa", sum := "61d5657051e14f82bbc0e6b09050eb8e4308b393f2bd5b2657b2c2c5198286db", func := "loop.example/flatarrays/laws.FnExactTurnSegments", spec := "fnExactTurnSegments", unfollowed := true, recurses := true, plainKeys := false, apart := false, narrowed := true }
def FnExactTurnSegmentsUptoSaid : Prop := fnExactTurnSegmentsUptoRow.holds Try.pinned (OpenSpec.upto fnExactTurnSegmentsSpec)

/-- 'laws.FnExactSortSegments', WHERE WHAT IT READS IS OF BULK AT MOST 1048576: true; the input reads as it did. -/
def fnExactSortSegmentsUptoRow : OpenClaim := { program := "ytpakihjkjdanlaa", sum := "61d5657051e14f82bbc0e6b09050eb8e4308b393f2bd5b2657b2c2c5198286db", func := "loop.example/flatarrays/laws.FnExactSortSegments", spec := "fnExactSortSegments", unfollowed := true, recurses := true, plainKeys := false, apart := false, narrowed := true }
def FnExactSortSegmentsUptoSaid : Prop := fnExactSortSegmentsUptoRow.holds Try.pinned (OpenSpec.upto fnExactSortSegmentsSpec)

/-- 'laws.FnExactPickSegments', WHERE WHAT IT READS IS OF BULK AT MOST 1048576: true; the input reads as it did. -/
def fnExactPickSegmentsUptoRow : OpenClaim := { program := "ytpakihjkjdanlaa", sum := "61d5657051e14f82bbc0e6b09050eb8e4308b393f2bd5b2657b2c2c5198286db", func := "loop.example/flatarrays/laws.FnExactPickSegments", spec := "fnExactPickSegments", unfollowed := true, recurses := true, plainKeys := false, apart := false, narrowed := true }
def FnExactPickSegmentsUptoSaid : Prop := fnExactPickSegmentsUptoRow.holds Try.pinned (OpenSpec.upto fnExactPickSegmentsSpec)

/-- 'laws.FnExactWeaveData', WHERE WHAT IT READS IS OF BULK AT MOST 1048576: true; the input reads as it did. -/
def fnExactWeaveDataUptoRow : OpenClaim := { program := "ytpakihjkjdanlaa", sum := "61d5657051e14f82bbc0e6b09050eb8e4308b393f2bd5b2657b2c2c5198286db", func := "loop.example/flatarrays/laws.FnExactWeaveData", spec := "fnExactWeaveData", plainKeys := false, apart := false, narrowed := true }
def FnExactWeaveDataUptoSaid : Prop := fnExactWeaveDataUptoRow.holds Try.pinned (OpenSpec.upto fnExactWeaveDataSpec)

/-- 'laws.FnGather', WHERE WHAT IT READS IS OF BULK AT MOST 1048576: true; the input reads as it did. -/
def fnGatherUptoRow : OpenClaim := { program := "ytpakihjkjdanlaa", sum := "61d5657051e14f82bbc0e6b09050eb8e4308b393f2bd5b2657b2c2c5198286db", func := "loop.example/flatarrays/laws.FnGather", spec := "fnGather", plainKeys := false, apart := false, narrowed := true }
def FnGatherUptoSaid : Prop := fnGatherUptoRow.holds Try.pinned (OpenSpec.upto fnGatherSpec)

/-- 'laws.FnScatter', WHERE WHAT IT READS IS OF BULK AT MOST 1048576: true; the input reads as it did. -/
def fnScatterUptoRow : OpenClaim := { program := "ytpakihjkjdanlaa", sum := "61d5657051e14f82bbc0e6b09050eb8e4308b393f2bd5b2657b2c2c5198286db", func := "loop.example/flatarrays/laws.FnScatter", spec := "fnScatter", plainKeys := false, apart := false, narrowed := true }
def FnScatterUptoSaid : Prop := fnScatterUptoRow.holds Try.pinned (OpenSpec.upto fnScatterSpec)

/-- 'laws.FnTurnSort', WHERE WHAT IT READS IS OF BULK AT MOST 1048576: true; the input reads as it did. -/
def fnTurnSortUptoRow : OpenClaim := { program := "ytpakihjkjdanlaa", sum := "61d5657051e14f82bbc0e6b09050eb8e4308b393f2bd5b2657b2c2c5198286db", func := "loop.example/flatarrays/laws.FnTurnSort", spec := "fnTurnSort", unfollowed := true, recurses := true, plainKeys := false, apart := false, narrowed := true }
def FnTurnSortUptoSaid : Prop := fnTurnSortUptoRow.holds Try.pinned (OpenSpec.upto fnTurnSortSpec)

/-- 'laws.FnPickWeave', WHERE WHAT IT READS IS OF BULK AT MOST 1048576: true; the input reads as it did. -/
def fnPickWeaveUptoRow : OpenClaim := { program := "ytpakihjkjdanlaa", sum := "61d5657051e14f82bbc0e6b09050eb8e4308b393f2bd5b2657b2c2c5198286db", func := "loop.example/flatarrays/laws.FnPickWeave", spec := "fnPickWeave", unfollowed := true, recurses := true, plainKeys := false, apart := false, narrowed := true }
def FnPickWeaveUptoSaid : Prop := fnPickWeaveUptoRow.holds Try.pinned (OpenSpec.upto fnPickWeaveSpec)

/-- 'laws.FnExactInnerOf', WHERE WHAT IT READS IS OF BULK AT MOST 1048576: true; the input reads as it did. -/
def fnExactInnerOfUptoRow : OpenClaim := { program := "ytpakihjkjdanlaa", sum := "61d5657051e14f82bbc0e6b09050eb8e4308b393f2bd5b2657b2c2c5198286db", func := "loop.example/flatarrays/laws.FnExactInnerOf", spec := "fnExactInnerOf", recurses := true, plainKeys := false, apart := false, narrowed := true }
def FnExactInnerOfUptoSaid : Prop := fnExactInnerOfUptoRow.holds Try.pinned (OpenSpec.upto fnExactInnerOfSpec)

end Rows
end Go.Proofs.Ytpakihjkjdanlaa
