/-
  No cell of these rows narrows 'for every input' (looked for: loops, veiled, ifaces, maps, wideKeys, modest, calm, conditions, laid).
  DERIVED. THE GIVEN ROWS OF THIS SEAT. 13 by the template 'for every input the law returns true; each argument reads behind the call as it read before'; 0 by the template 'total and deterministic' (their statements: YtpakihjkjdanlabTotals.lean).
  GIVEN WITH THE SEED: the statements are not yours to turn. If you find one false, say at which input.
  Laid BY PROGRAM, IN A SANDBOX (cutbox-rows.mjs): the forced cells as the released guide's own fill.sh prints them over the translation 33e137c1f4f21b26… (all of the seat's roots in one cut). By AI agents, Wed Nov 11 2026. No macro, syntax, notation, axiom, sorry.
-/
import Derived.Test.YtpakihjkjdanlabChecked
import GoSem.Claim
import GoSem.ClaimJoined
import GoSem.ClaimMapViews
import Derived.JoinedTies
import Derived.KernelRfl
namespace Go.Proofs.Ytpakihjkjdanlab
/- THE CELL 'sum', in the pinned program and in every row, IS THE sha256 OF THE DUMP (.gsa) THAT YtpakihjkjdanlabProg.lean LOADS. Nothing in Lean hashes anything: it is a label: what it is worth is what the hold of that sum in a sandbox is worth. -/
noncomputable def Try.pinned : Pinned := { name := "ytpakihjkjdanlab", sum := "33e137c1f4f21b2622cadb302793485bd47485d9f97c1a2518ed43b393e5b58c", checked := Try.checked }
namespace Rows
def none {H : Type} : Left H := { results := [], args := [] }

/-- 'laws.FnExactSegmentsValid': WHATEVER THE INPUT: true; the input reads as it did. -/
def fnExactSegmentsValidSpec : ChangeSpec := { name := "fnExactSegmentsValid", fn := fun _ => fun
  | [d1, d2] => { results := [.lit (.bool true)], args := [d1, d2] }
  | _ => none }
def fnExactSegmentsValidRow : OpenClaim := { program := "ytpakihjkjdanlab", sum := "33e137c1f4f21b2622cadb302793485bd47485d9f97c1a2518ed43b393e5b58c", func := "loop.example/flatarrays/laws.FnExactSegmentsValid", spec := "fnExactSegmentsValid", apart := false }
def FnExactSegmentsValidSaid : Prop := fnExactSegmentsValidRow.holds Try.pinned (OpenSpec.ofChange fnExactSegmentsValidSpec)

/-- ITS FALSE NEIGHBOUR: 'it returns false'. Refute it at one input. -/
def fnExactSegmentsValidWrong : ChangeSpec := { name := "fnExactSegmentsValid", fn := fun _ => fun
  | [d1, d2] => { results := [.lit (.bool false)], args := [d1, d2] }
  | _ => none }
def FnExactSegmentsValidWrongFalsely : Prop := fnExactSegmentsValidRow.holds Try.pinned (OpenSpec.ofChange fnExactSegmentsValidWrong)

/-- 'laws.FnExactStartsOf': WHATEVER THE INPUT: true; the input reads as it did. -/
def fnExactStartsOfSpec : ChangeSpec := { name := "fnExactStartsOf", fn := fun _ => fun
  | [d] => { results := [.lit (.bool true)], args := [d] }
  | _ => none }
def fnExactStartsOfRow : OpenClaim := { program := "ytpakihjkjdanlab", sum := "33e137c1f4f21b2622cadb302793485bd47485d9f97c1a2518ed43b393e5b58c", func := "loop.example/flatarrays/laws.FnExactStartsOf", spec := "fnExactStartsOf", unfollowed := true, recurses := true, apart := false }
def FnExactStartsOfSaid : Prop := fnExactStartsOfRow.holds Try.pinned (OpenSpec.ofChange fnExactStartsOfSpec)

/-- ITS FALSE NEIGHBOUR: 'it returns false'. Refute it at one input. -/
def fnExactStartsOfWrong : ChangeSpec := { name := "fnExactStartsOf", fn := fun _ => fun
  | [d] => { results := [.lit (.bool false)], args := [d] }
  | _ => none }
def FnExactStartsOfWrongFalsely : Prop := fnExactStartsOfRow.holds Try.pinned (OpenSpec.ofChange fnExactStartsOfWrong)

/-- 'laws.FnExactSumSegments': WHATEVER THE INPUT: true; the input reads as it did. -/
def fnExactSumSegmentsSpec : ChangeSpec := { name := "fnExactSumSegments", fn := fun _ => fun
  | [d1, d2] => { results := [.lit (.bool true)], args := [d1, d2] }
  | _ => none }
def fnExactSumSegmentsRow : OpenClaim := { program := "ytpakihjkjdanlab", sum := "33e137c1f4f21b2622cadb302793485bd47485d9f97c1a2518ed43b393e5b58c", func := "loop.example/flatarrays/laws.FnExactSumSegments", spec := "fnExactSumSegments", unfollowed := true, recurses := true, apart := false }
def FnExactSumSegmentsSaid : Prop := fnExactSumSegmentsRow.holds Try.pinned (OpenSpec.ofChange fnExactSumSegmentsSpec)

/-- ITS FALSE NEIGHBOUR: 'it returns false'. Refute it at one input. -/
def fnExactSumSegmentsWrong : ChangeSpec := { name := "fnExactSumSegments", fn := fun _ => fun
  | [d1, d2] => { results := [.lit (.bool false)], args := [d1, d2] }
  | _ => none }
def FnExactSumSegmentsWrongFalsely : Prop := fnExactSumSegmentsRow.holds Try.pinned (OpenSpec.ofChange fnExactSumSegmentsWrong)

/-- 'laws.FnExactMostSegments': WHATEVER THE INPUT: true; the input reads as it did. -/
def fnExactMostSegmentsSpec : ChangeSpec := { name := "fnExactMostSegments", fn := fun _ => fun
  | [d1, d2] => { results := [.lit (.bool true)], args := [d1, d2] }
  | _ => none }
def fnExactMostSegmentsRow : OpenClaim := { program := "ytpakihjkjdanlab", sum := "33e137c1f4f21b2622cadb302793485bd47485d9f97c1a2518ed43b393e5b58c", func := "loop.example/flatarrays/laws.FnExactMostSegments", spec := "fnExactMostSegments", unfollowed := true, recurses := true, apart := false }
def FnExactMostSegmentsSaid : Prop := fnExactMostSegmentsRow.holds Try.pinned (OpenSpec.ofChange fnExactMostSegmentsSpec)

/-- ITS FALSE NEIGHBOUR: 'it returns false'. Refute it at one input. -/
def fnExactMostSegmentsWrong : ChangeSpec := { name := "fnExactMostSegments", fn := fun _ => fun
  | [d1, d2] => { results := [.lit (.bool false)], args := [d1, d2] }
  | _ => none }
def FnExactMostSegmentsWrongFalsely : Prop := fnExactMostSegmentsRow.holds Try.pinned (OpenSpec.ofChange fnExactMostSegmentsWrong)

/-- 'laws.FnExactSpreadValues': WHATEVER THE INPUT: true; the input reads as it did. -/
def fnExactSpreadValuesSpec : ChangeSpec := { name := "fnExactSpreadValues", fn := fun _ => fun
  | [d1, d2] => { results := [.lit (.bool true)], args := [d1, d2] }
  | _ => none }
def fnExactSpreadValuesRow : OpenClaim := { program := "ytpakihjkjdanlab", sum := "33e137c1f4f21b2622cadb302793485bd47485d9f97c1a2518ed43b393e5b58c", func := "loop.example/flatarrays/laws.FnExactSpreadValues", spec := "fnExactSpreadValues", apart := false }
def FnExactSpreadValuesSaid : Prop := fnExactSpreadValuesRow.holds Try.pinned (OpenSpec.ofChange fnExactSpreadValuesSpec)

/-- ITS FALSE NEIGHBOUR: 'it returns false'. Refute it at one input. -/
def fnExactSpreadValuesWrong : ChangeSpec := { name := "fnExactSpreadValues", fn := fun _ => fun
  | [d1, d2] => { results := [.lit (.bool false)], args := [d1, d2] }
  | _ => none }
def FnExactSpreadValuesWrongFalsely : Prop := fnExactSpreadValuesRow.holds Try.pinned (OpenSpec.ofChange fnExactSpreadValuesWrong)

/-- 'laws.FnExactCountUp': WHATEVER THE INPUT: true; the input reads as it did. -/
def fnExactCountUpSpec : ChangeSpec := { name := "fnExactCountUp", fn := fun _ => fun
  | [d] => { results := [.lit (.bool true)], args := [d] }
  | _ => none }
def fnExactCountUpRow : OpenClaim := { program := "ytpakihjkjdanlab", sum := "33e137c1f4f21b2622cadb302793485bd47485d9f97c1a2518ed43b393e5b58c", func := "loop.example/flatarrays/laws.FnExactCountUp", spec := "fnExactCountUp", unfollowed := true, recurses := true, apart := false }
def FnExactCountUpSaid : Prop := fnExactCountUpRow.holds Try.pinned (OpenSpec.ofChange fnExactCountUpSpec)

/-- ITS FALSE NEIGHBOUR: 'it returns false'. Refute it at one input. -/
def fnExactCountUpWrong : ChangeSpec := { name := "fnExactCountUp", fn := fun _ => fun
  | [d] => { results := [.lit (.bool false)], args := [d] }
  | _ => none }
def FnExactCountUpWrongFalsely : Prop := fnExactCountUpRow.holds Try.pinned (OpenSpec.ofChange fnExactCountUpWrong)

/-- 'laws.FnExactPackSegments': WHATEVER THE INPUT: true; the input reads as it did. -/
def fnExactPackSegmentsSpec : ChangeSpec := { name := "fnExactPackSegments", fn := fun _ => fun
  | [d1, d2, d3] => { results := [.lit (.bool true)], args := [d1, d2, d3] }
  | _ => none }
def fnExactPackSegmentsRow : OpenClaim := { program := "ytpakihjkjdanlab", sum := "33e137c1f4f21b2622cadb302793485bd47485d9f97c1a2518ed43b393e5b58c", func := "loop.example/flatarrays/laws.FnExactPackSegments", spec := "fnExactPackSegments", unfollowed := true, recurses := true, apart := false }
def FnExactPackSegmentsSaid : Prop := fnExactPackSegmentsRow.holds Try.pinned (OpenSpec.ofChange fnExactPackSegmentsSpec)

/-- ITS FALSE NEIGHBOUR: 'it returns false'. Refute it at one input. -/
def fnExactPackSegmentsWrong : ChangeSpec := { name := "fnExactPackSegments", fn := fun _ => fun
  | [d1, d2, d3] => { results := [.lit (.bool false)], args := [d1, d2, d3] }
  | _ => none }
def FnExactPackSegmentsWrongFalsely : Prop := fnExactPackSegmentsRow.holds Try.pinned (OpenSpec.ofChange fnExactPackSegmentsWrong)

/-- 'laws.FnExactMergeLengths': WHATEVER THE INPUT: true; the input reads as it did. -/
def fnExactMergeLengthsSpec : ChangeSpec := { name := "fnExactMergeLengths", fn := fun _ => fun
  | [d1, d2] => { results := [.lit (.bool true)], args := [d1, d2] }
  | _ => none }
def fnExactMergeLengthsRow : OpenClaim := { program := "ytpakihjkjdanlab", sum := "33e137c1f4f21b2622cadb302793485bd47485d9f97c1a2518ed43b393e5b58c", func := "loop.example/flatarrays/laws.FnExactMergeLengths", spec := "fnExactMergeLengths", unfollowed := true, recurses := true, apart := false }
def FnExactMergeLengthsSaid : Prop := fnExactMergeLengthsRow.holds Try.pinned (OpenSpec.ofChange fnExactMergeLengthsSpec)

/-- ITS FALSE NEIGHBOUR: 'it returns false'. Refute it at one input. -/
def fnExactMergeLengthsWrong : ChangeSpec := { name := "fnExactMergeLengths", fn := fun _ => fun
  | [d1, d2] => { results := [.lit (.bool false)], args := [d1, d2] }
  | _ => none }
def FnExactMergeLengthsWrongFalsely : Prop := fnExactMergeLengthsRow.holds Try.pinned (OpenSpec.ofChange fnExactMergeLengthsWrong)

/-- 'laws.FnMost': WHATEVER THE INPUT: true; the input reads as it did. -/
def fnMostSpec : ChangeSpec := { name := "fnMost", fn := fun _ => fun
  | [d] => { results := [.lit (.bool true)], args := [d] }
  | _ => none }
def fnMostRow : OpenClaim := { program := "ytpakihjkjdanlab", sum := "33e137c1f4f21b2622cadb302793485bd47485d9f97c1a2518ed43b393e5b58c", func := "loop.example/flatarrays/laws.FnMost", spec := "fnMost", unfollowed := true, recurses := true, apart := false }
def FnMostSaid : Prop := fnMostRow.holds Try.pinned (OpenSpec.ofChange fnMostSpec)

/-- ITS FALSE NEIGHBOUR: 'it returns false'. Refute it at one input. -/
def fnMostWrong : ChangeSpec := { name := "fnMost", fn := fun _ => fun
  | [d] => { results := [.lit (.bool false)], args := [d] }
  | _ => none }
def FnMostWrongFalsely : Prop := fnMostRow.holds Try.pinned (OpenSpec.ofChange fnMostWrong)

/-- 'laws.FnSpread': WHATEVER THE INPUT: true; the input reads as it did. -/
def fnSpreadSpec : ChangeSpec := { name := "fnSpread", fn := fun _ => fun
  | [d] => { results := [.lit (.bool true)], args := [d] }
  | _ => none }
def fnSpreadRow : OpenClaim := { program := "ytpakihjkjdanlab", sum := "33e137c1f4f21b2622cadb302793485bd47485d9f97c1a2518ed43b393e5b58c", func := "loop.example/flatarrays/laws.FnSpread", spec := "fnSpread", unfollowed := true, recurses := true, apart := false }
def FnSpreadSaid : Prop := fnSpreadRow.holds Try.pinned (OpenSpec.ofChange fnSpreadSpec)

/-- ITS FALSE NEIGHBOUR: 'it returns false'. Refute it at one input. -/
def fnSpreadWrong : ChangeSpec := { name := "fnSpread", fn := fun _ => fun
  | [d] => { results := [.lit (.bool false)], args := [d] }
  | _ => none }
def FnSpreadWrongFalsely : Prop := fnSpreadRow.holds Try.pinned (OpenSpec.ofChange fnSpreadWrong)

/-- 'laws.FnPack': WHATEVER THE INPUT: true; the input reads as it did. -/
def fnPackSpec : ChangeSpec := { name := "fnPack", fn := fun _ => fun
  | [d] => { results := [.lit (.bool true)], args := [d] }
  | _ => none }
def fnPackRow : OpenClaim := { program := "ytpakihjkjdanlab", sum := "33e137c1f4f21b2622cadb302793485bd47485d9f97c1a2518ed43b393e5b58c", func := "loop.example/flatarrays/laws.FnPack", spec := "fnPack", unfollowed := true, recurses := true, apart := false }
def FnPackSaid : Prop := fnPackRow.holds Try.pinned (OpenSpec.ofChange fnPackSpec)

/-- ITS FALSE NEIGHBOUR: 'it returns false'. Refute it at one input. -/
def fnPackWrong : ChangeSpec := { name := "fnPack", fn := fun _ => fun
  | [d] => { results := [.lit (.bool false)], args := [d] }
  | _ => none }
def FnPackWrongFalsely : Prop := fnPackRow.holds Try.pinned (OpenSpec.ofChange fnPackWrong)

/-- 'laws.FnMergeLengths': WHATEVER THE INPUT: true; the input reads as it did. -/
def fnMergeLengthsSpec : ChangeSpec := { name := "fnMergeLengths", fn := fun _ => fun
  | [d1, d2] => { results := [.lit (.bool true)], args := [d1, d2] }
  | _ => none }
def fnMergeLengthsRow : OpenClaim := { program := "ytpakihjkjdanlab", sum := "33e137c1f4f21b2622cadb302793485bd47485d9f97c1a2518ed43b393e5b58c", func := "loop.example/flatarrays/laws.FnMergeLengths", spec := "fnMergeLengths", unfollowed := true, recurses := true, apart := false }
def FnMergeLengthsSaid : Prop := fnMergeLengthsRow.holds Try.pinned (OpenSpec.ofChange fnMergeLengthsSpec)

/-- ITS FALSE NEIGHBOUR: 'it returns false'. Refute it at one input. -/
def fnMergeLengthsWrong : ChangeSpec := { name := "fnMergeLengths", fn := fun _ => fun
  | [d1, d2] => { results := [.lit (.bool false)], args := [d1, d2] }
  | _ => none }
def FnMergeLengthsWrongFalsely : Prop := fnMergeLengthsRow.holds Try.pinned (OpenSpec.ofChange fnMergeLengthsWrong)

/-- 'laws.FnInner': WHATEVER THE INPUT: true; the input reads as it did. -/
def fnInnerSpec : ChangeSpec := { name := "fnInner", fn := fun _ => fun
  | [d1, d2] => { results := [.lit (.bool true)], args := [d1, d2] }
  | _ => none }
def fnInnerRow : OpenClaim := { program := "ytpakihjkjdanlab", sum := "33e137c1f4f21b2622cadb302793485bd47485d9f97c1a2518ed43b393e5b58c", func := "loop.example/flatarrays/laws.FnInner", spec := "fnInner", recurses := true, apart := false }
def FnInnerSaid : Prop := fnInnerRow.holds Try.pinned (OpenSpec.ofChange fnInnerSpec)

/-- ITS FALSE NEIGHBOUR: 'it returns false'. Refute it at one input. -/
def fnInnerWrong : ChangeSpec := { name := "fnInner", fn := fun _ => fun
  | [d1, d2] => { results := [.lit (.bool false)], args := [d1, d2] }
  | _ => none }
def FnInnerWrongFalsely : Prop := fnInnerRow.holds Try.pinned (OpenSpec.ofChange fnInnerWrong)

/- THE SECOND FORM. 'bulk': how many values and letters a reading holds, each counted each time it is reached (what is shared counts as often as it is met; a slice's spare places count too). A statement '..UptoSaid' is the law's where the arguments, and the package variables that the reading takes, are together of bulk at most 1048576: NARROWER than '..Said'. Prove '..Said' where nothing that the law and all that it calls make is longer than what came in: it says more and counts as full. Else prove '..UptoSaid'. A law counts once. -/
mutual
def uptoBulk {H : Type} : DataW H → Nat
  | .lit (.string bytes) => bytes.length + 1
  | .lit _ => 1
  | .nil => 1
  | .ptr d => uptoBulk d + 1
  | .slice elems spare => uptoBulkAll elems + uptoBulkAll spare + 1
  | .agg parts => uptoBulkAll parts + 1
  | .iface _ d => uptoBulk d + 1
  | .map entries => uptoBulkEntries entries + 1
  | .held _ => 1
def uptoBulkAll {H : Type} : List (DataW H) → Nat
  | [] => 0
  | d :: r => uptoBulk d + uptoBulkAll r
def uptoBulkEntries {H : Type} : List (Lit × DataW H) → Nat
  | [] => 0
  | x :: r => uptoBulkEntry x + uptoBulkEntries r
def uptoBulkEntry {H : Type} : Lit × DataW H → Nat
  | (.string bytes, d) => bytes.length + uptoBulk d + 1
  | (_, d) => uptoBulk d + 1
 end
def uptoSmall : (H : Type) → List (DataW H) → Bool := fun _ ds => decide (uptoBulkAll ds ≤ 1048576)
def OpenSpec.upto (s : _root_.Go.ChangeSpec) : _root_.Go.OpenSpec := { _root_.Go.OpenSpec.ofChange s with cond := some uptoSmall }

/-- 'laws.FnExactSegmentsValid', WHERE WHAT IT READS IS OF BULK AT MOST 1048576: true; the input reads as it did. -/
def fnExactSegmentsValidUptoRow : OpenClaim := { program := "ytpakihjkjdanlab", sum := "33e137c1f4f21b2622cadb302793485bd47485d9f97c1a2518ed43b393e5b58c", func := "loop.example/flatarrays/laws.FnExactSegmentsValid", spec := "fnExactSegmentsValid", apart := false, narrowed := true }
def FnExactSegmentsValidUptoSaid : Prop := fnExactSegmentsValidUptoRow.holds Try.pinned (OpenSpec.upto fnExactSegmentsValidSpec)

/-- 'laws.FnExactStartsOf', WHERE WHAT IT READS IS OF BULK AT MOST 1048576: true; the input reads as it did. -/
def fnExactStartsOfUptoRow : OpenClaim := { program := "ytpakihjkjdanlab", sum := "33e137c1f4f21b2622cadb302793485bd47485d9f97c1a2518ed43b393e5b58c", func := "loop.example/flatarrays/laws.FnExactStartsOf", spec := "fnExactStartsOf", unfollowed := true, recurses := true, apart := false, narrowed := true }
def FnExactStartsOfUptoSaid : Prop := fnExactStartsOfUptoRow.holds Try.pinned (OpenSpec.upto fnExactStartsOfSpec)

/-- 'laws.FnExactSumSegments', WHERE WHAT IT READS IS OF BULK AT MOST 1048576: true; the input reads as it did. -/
def fnExactSumSegmentsUptoRow : OpenClaim := { program := "ytpakihjkjdanlab", sum := "33e137c1f4f21b2622cadb302793485bd47485d9f97c1a2518ed43b393e5b58c", func := "loop.example/flatarrays/laws.FnExactSumSegments", spec := "fnExactSumSegments", unfollowed := true, recurses := true, apart := false, narrowed := true }
def FnExactSumSegmentsUptoSaid : Prop := fnExactSumSegmentsUptoRow.holds Try.pinned (OpenSpec.upto fnExactSumSegmentsSpec)

/-- 'laws.FnExactMostSegments', WHERE WHAT IT READS IS OF BULK AT MOST 1048576: true; the input reads as it did. -/
def fnExactMostSegmentsUptoRow : OpenClaim := { program := "ytpakihjkjdanlab", sum := "33e137c1f4f21b2622cadb302793485bd47485d9f97c1a2518ed43b393e5b58c", func := "loop.example/flatarrays/laws.FnExactMostSegments", spec := "fnExactMostSegments", unfollowed := true, recurses := true, apart := false, narrowed := true }
def FnExactMostSegmentsUptoSaid : Prop := fnExactMostSegmentsUptoRow.holds Try.pinned (OpenSpec.upto fnExactMostSegmentsSpec)

/-- 'laws.FnExactSpreadValues', WHERE WHAT IT READS IS OF BULK AT MOST 1048576: true; the input reads as it did. -/
def fnExactSpreadValuesUptoRow : OpenClaim := { program := "ytpakihjkjdanlab", sum := "33e137c1f4f21b2622cadb302793485bd47485d9f97c1a2518ed43b393e5b58c", func := "loop.example/flatarrays/laws.FnExactSpreadValues", spec := "fnExactSpreadValues", apart := false, narrowed := true }
def FnExactSpreadValuesUptoSaid : Prop := fnExactSpreadValuesUptoRow.holds Try.pinned (OpenSpec.upto fnExactSpreadValuesSpec)

/-- 'laws.FnExactCountUp', WHERE WHAT IT READS IS OF BULK AT MOST 1048576: true; the input reads as it did. -/
def fnExactCountUpUptoRow : OpenClaim := { program := "ytpakihjkjdanlab", sum := "33e137c1f4f21b2622cadb302793485bd47485d9f97c1a2518ed43b393e5b58c", func := "loop.example/flatarrays/laws.FnExactCountUp", spec := "fnExactCountUp", unfollowed := true, recurses := true, apart := false, narrowed := true }
def FnExactCountUpUptoSaid : Prop := fnExactCountUpUptoRow.holds Try.pinned (OpenSpec.upto fnExactCountUpSpec)

/-- 'laws.FnExactPackSegments', WHERE WHAT IT READS IS OF BULK AT MOST 1048576: true; the input reads as it did. -/
def fnExactPackSegmentsUptoRow : OpenClaim := { program := "ytpakihjkjdanlab", sum := "33e137c1f4f21b2622cadb302793485bd47485d9f97c1a2518ed43b393e5b58c", func := "loop.example/flatarrays/laws.FnExactPackSegments", spec := "fnExactPackSegments", unfollowed := true, recurses := true, apart := false, narrowed := true }
def FnExactPackSegmentsUptoSaid : Prop := fnExactPackSegmentsUptoRow.holds Try.pinned (OpenSpec.upto fnExactPackSegmentsSpec)

/-- 'laws.FnExactMergeLengths', WHERE WHAT IT READS IS OF BULK AT MOST 1048576: true; the input reads as it did. -/
def fnExactMergeLengthsUptoRow : OpenClaim := { program := "ytpakihjkjdanlab", sum := "33e137c1f4f21b2622cadb302793485bd47485d9f97c1a2518ed43b393e5b58c", func := "loop.example/flatarrays/laws.FnExactMergeLengths", spec := "fnExactMergeLengths", unfollowed := true, recurses := true, apart := false, narrowed := true }
def FnExactMergeLengthsUptoSaid : Prop := fnExactMergeLengthsUptoRow.holds Try.pinned (OpenSpec.upto fnExactMergeLengthsSpec)

/-- 'laws.FnMost', WHERE WHAT IT READS IS OF BULK AT MOST 1048576: true; the input reads as it did. -/
def fnMostUptoRow : OpenClaim := { program := "ytpakihjkjdanlab", sum := "33e137c1f4f21b2622cadb302793485bd47485d9f97c1a2518ed43b393e5b58c", func := "loop.example/flatarrays/laws.FnMost", spec := "fnMost", unfollowed := true, recurses := true, apart := false, narrowed := true }
def FnMostUptoSaid : Prop := fnMostUptoRow.holds Try.pinned (OpenSpec.upto fnMostSpec)

/-- 'laws.FnSpread', WHERE WHAT IT READS IS OF BULK AT MOST 1048576: true; the input reads as it did. -/
def fnSpreadUptoRow : OpenClaim := { program := "ytpakihjkjdanlab", sum := "33e137c1f4f21b2622cadb302793485bd47485d9f97c1a2518ed43b393e5b58c", func := "loop.example/flatarrays/laws.FnSpread", spec := "fnSpread", unfollowed := true, recurses := true, apart := false, narrowed := true }
def FnSpreadUptoSaid : Prop := fnSpreadUptoRow.holds Try.pinned (OpenSpec.upto fnSpreadSpec)

/-- 'laws.FnPack', WHERE WHAT IT READS IS OF BULK AT MOST 1048576: true; the input reads as it did. -/
def fnPackUptoRow : OpenClaim := { program := "ytpakihjkjdanlab", sum := "33e137c1f4f21b2622cadb302793485bd47485d9f97c1a2518ed43b393e5b58c", func := "loop.example/flatarrays/laws.FnPack", spec := "fnPack", unfollowed := true, recurses := true, apart := false, narrowed := true }
def FnPackUptoSaid : Prop := fnPackUptoRow.holds Try.pinned (OpenSpec.upto fnPackSpec)

/-- 'laws.FnMergeLengths', WHERE WHAT IT READS IS OF BULK AT MOST 1048576: true; the input reads as it did. -/
def fnMergeLengthsUptoRow : OpenClaim := { program := "ytpakihjkjdanlab", sum := "33e137c1f4f21b2622cadb302793485bd47485d9f97c1a2518ed43b393e5b58c", func := "loop.example/flatarrays/laws.FnMergeLengths", spec := "fnMergeLengths", unfollowed := true, recurses := true, apart := false, narrowed := true }
def FnMergeLengthsUptoSaid : Prop := fnMergeLengthsUptoRow.holds Try.pinned (OpenSpec.upto fnMergeLengthsSpec)

/-- 'laws.FnInner', WHERE WHAT IT READS IS OF BULK AT MOST 1048576: true; the input reads as it did. -/
def fnInnerUptoRow : OpenClaim := { program := "ytpakihjkjdanlab", sum := "33e137c1f4f21b2622cadb302793485bd47485d9f97c1a2518ed43b393e5b58c", func := "loop.example/flatarrays/laws.FnInner", spec := "fnInner", recurses := true, apart := false, narrowed := true }
def FnInnerUptoSaid : Prop := fnInnerUptoRow.holds Try.pinned (OpenSpec.upto fnInnerSpec)

end Rows
end Go.Proofs.Ytpakihjkjdanlab
