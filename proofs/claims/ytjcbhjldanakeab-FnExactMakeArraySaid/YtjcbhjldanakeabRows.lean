/-
  No cell of these rows narrows 'for every input' (looked for: loops, veiled, ifaces, maps, wideKeys, modest, calm, conditions, laid).
  DERIVED. THE GIVEN ROWS OF THIS SEAT. 8 by the template 'for every input the law returns true; each argument reads behind the call as it read before'; 0 by the template 'total and deterministic' (their statements: YtjcbhjldanakeabTotals.lean).
  GIVEN WITH THE SEED: the statements are not yours to turn. If you find one false, say at which input.
  Laid BY PROGRAM, IN A SANDBOX (cutbox-rows.mjs): the forced cells as the released guide's own fill.sh prints them over the translation db9b0212359c68ad… (all of the seat's roots in one cut). By AI agents, Wed Nov 11 2026. No macro, syntax, notation, axiom, sorry.
-/
import Derived.Test.YtjcbhjldanakeabChecked
import GoSem.Claim
import GoSem.ClaimJoined
import GoSem.ClaimMapViews
import Derived.JoinedTies
import Derived.KernelRfl
namespace Go.Proofs.Ytjcbhjldanakeab
/- THE CELL 'sum', in the pinned program and in every row, IS THE sha256 OF THE DUMP (.gsa) THAT YtjcbhjldanakeabProg.lean LOADS. Nothing in Lean hashes anything: it is a label: what it is worth is what the hold of that sum in a sandbox is worth. -/
noncomputable def Try.pinned : Pinned := { name := "ytjcbhjldanakeab", sum := "db9b0212359c68ad6502021d380e9a71c39d89660b7ac1940715a7bdc57deea9", checked := Try.checked }
namespace Rows
def none {H : Type} : Left H := { results := [], args := [] }

/-- 'laws.FnExactArrayValid': WHATEVER THE INPUT: true; the input reads as it did. -/
def fnExactArrayValidSpec : ChangeSpec := { name := "fnExactArrayValid", fn := fun _ => fun
  | [d1, d2] => { results := [.lit (.bool true)], args := [d1, d2] }
  | _ => none }
def fnExactArrayValidRow : OpenClaim := { program := "ytjcbhjldanakeab", sum := "db9b0212359c68ad6502021d380e9a71c39d89660b7ac1940715a7bdc57deea9", func := "loop.example/flatarrays/laws.FnExactArrayValid", spec := "fnExactArrayValid", unfollowed := true, recurses := true, plainKeys := false, apart := false }
def FnExactArrayValidSaid : Prop := fnExactArrayValidRow.holds Try.pinned (OpenSpec.ofChange fnExactArrayValidSpec)

/-- ITS FALSE NEIGHBOUR: 'it returns false'. Refute it at one input. -/
def fnExactArrayValidWrong : ChangeSpec := { name := "fnExactArrayValid", fn := fun _ => fun
  | [d1, d2] => { results := [.lit (.bool false)], args := [d1, d2] }
  | _ => none }
def FnExactArrayValidWrongFalsely : Prop := fnExactArrayValidRow.holds Try.pinned (OpenSpec.ofChange fnExactArrayValidWrong)

/-- 'laws.FnExactMakeArray': WHATEVER THE INPUT: true; the input reads as it did. -/
def fnExactMakeArraySpec : ChangeSpec := { name := "fnExactMakeArray", fn := fun _ => fun
  | [d1, d2] => { results := [.lit (.bool true)], args := [d1, d2] }
  | _ => none }
def fnExactMakeArrayRow : OpenClaim := { program := "ytjcbhjldanakeab", sum := "db9b0212359c68ad6502021d380e9a71c39d89660b7ac1940715a7bdc57deea9", func := "loop.example/flatarrays/laws.FnExactMakeArray", spec := "fnExactMakeArray", inPlace := ["internal/abi.NoEscape", "internal/bytealg.MakeNoZero"], unfollowed := true, recurses := true, plainKeys := false, apart := false }
def FnExactMakeArraySaid : Prop := fnExactMakeArrayRow.holds Try.pinned (OpenSpec.ofChange fnExactMakeArraySpec)

/-- ITS FALSE NEIGHBOUR: 'it returns false'. Refute it at one input. -/
def fnExactMakeArrayWrong : ChangeSpec := { name := "fnExactMakeArray", fn := fun _ => fun
  | [d1, d2] => { results := [.lit (.bool false)], args := [d1, d2] }
  | _ => none }
def FnExactMakeArrayWrongFalsely : Prop := fnExactMakeArrayRow.holds Try.pinned (OpenSpec.ofChange fnExactMakeArrayWrong)

/-- 'laws.FnExactNumbersOf': WHATEVER THE INPUT: true; the input reads as it did. -/
def fnExactNumbersOfSpec : ChangeSpec := { name := "fnExactNumbersOf", fn := fun _ => fun
  | [d1, d2] => { results := [.lit (.bool true)], args := [d1, d2] }
  | _ => none }
def fnExactNumbersOfRow : OpenClaim := { program := "ytjcbhjldanakeab", sum := "db9b0212359c68ad6502021d380e9a71c39d89660b7ac1940715a7bdc57deea9", func := "loop.example/flatarrays/laws.FnExactNumbersOf", spec := "fnExactNumbersOf", unfollowed := true, recurses := true, plainKeys := false, apart := false }
def FnExactNumbersOfSaid : Prop := fnExactNumbersOfRow.holds Try.pinned (OpenSpec.ofChange fnExactNumbersOfSpec)

/-- ITS FALSE NEIGHBOUR: 'it returns false'. Refute it at one input. -/
def fnExactNumbersOfWrong : ChangeSpec := { name := "fnExactNumbersOf", fn := fun _ => fun
  | [d1, d2] => { results := [.lit (.bool false)], args := [d1, d2] }
  | _ => none }
def FnExactNumbersOfWrongFalsely : Prop := fnExactNumbersOfRow.holds Try.pinned (OpenSpec.ofChange fnExactNumbersOfWrong)

/-- 'laws.FnExactLeastDepth': WHATEVER THE INPUT: true; the input reads as it did. -/
def fnExactLeastDepthSpec : ChangeSpec := { name := "fnExactLeastDepth", fn := fun _ => fun
  | [d] => { results := [.lit (.bool true)], args := [d] }
  | _ => none }
def fnExactLeastDepthRow : OpenClaim := { program := "ytjcbhjldanakeab", sum := "db9b0212359c68ad6502021d380e9a71c39d89660b7ac1940715a7bdc57deea9", func := "loop.example/flatarrays/laws.FnExactLeastDepth", spec := "fnExactLeastDepth", unfollowed := true, recurses := true, plainKeys := false, apart := false }
def FnExactLeastDepthSaid : Prop := fnExactLeastDepthRow.holds Try.pinned (OpenSpec.ofChange fnExactLeastDepthSpec)

/-- ITS FALSE NEIGHBOUR: 'it returns false'. Refute it at one input. -/
def fnExactLeastDepthWrong : ChangeSpec := { name := "fnExactLeastDepth", fn := fun _ => fun
  | [d] => { results := [.lit (.bool false)], args := [d] }
  | _ => none }
def FnExactLeastDepthWrongFalsely : Prop := fnExactLeastDepthRow.holds Try.pinned (OpenSpec.ofChange fnExactLeastDepthWrong)

/-- 'laws.FnExactLayOut': WHATEVER THE INPUT: true; the input reads as it did. -/
def fnExactLayOutSpec : ChangeSpec := { name := "fnExactLayOut", fn := fun _ => fun
  | [d1, d2] => { results := [.lit (.bool true)], args := [d1, d2] }
  | _ => none }
def fnExactLayOutRow : OpenClaim := { program := "ytjcbhjldanakeab", sum := "db9b0212359c68ad6502021d380e9a71c39d89660b7ac1940715a7bdc57deea9", func := "loop.example/flatarrays/laws.FnExactLayOut", spec := "fnExactLayOut", unfollowed := true, recurses := true, plainKeys := false, apart := false }
def FnExactLayOutSaid : Prop := fnExactLayOutRow.holds Try.pinned (OpenSpec.ofChange fnExactLayOutSpec)

/-- ITS FALSE NEIGHBOUR: 'it returns false'. Refute it at one input. -/
def fnExactLayOutWrong : ChangeSpec := { name := "fnExactLayOut", fn := fun _ => fun
  | [d1, d2] => { results := [.lit (.bool false)], args := [d1, d2] }
  | _ => none }
def FnExactLayOutWrongFalsely : Prop := fnExactLayOutRow.holds Try.pinned (OpenSpec.ofChange fnExactLayOutWrong)

/-- 'laws.FnExactSortSegments': WHATEVER THE INPUT: true; the input reads as it did. -/
def fnExactSortSegmentsSpec : ChangeSpec := { name := "fnExactSortSegments", fn := fun _ => fun
  | [d1, d2] => { results := [.lit (.bool true)], args := [d1, d2] }
  | _ => none }
def fnExactSortSegmentsRow : OpenClaim := { program := "ytjcbhjldanakeab", sum := "db9b0212359c68ad6502021d380e9a71c39d89660b7ac1940715a7bdc57deea9", func := "loop.example/flatarrays/laws.FnExactSortSegments", spec := "fnExactSortSegments", unfollowed := true, recurses := true, plainKeys := false, apart := false }
def FnExactSortSegmentsSaid : Prop := fnExactSortSegmentsRow.holds Try.pinned (OpenSpec.ofChange fnExactSortSegmentsSpec)

/-- ITS FALSE NEIGHBOUR: 'it returns false'. Refute it at one input. -/
def fnExactSortSegmentsWrong : ChangeSpec := { name := "fnExactSortSegments", fn := fun _ => fun
  | [d1, d2] => { results := [.lit (.bool false)], args := [d1, d2] }
  | _ => none }
def FnExactSortSegmentsWrongFalsely : Prop := fnExactSortSegmentsRow.holds Try.pinned (OpenSpec.ofChange fnExactSortSegmentsWrong)

/-- 'laws.FnTurnSort': WHATEVER THE INPUT: true; the input reads as it did. -/
def fnTurnSortSpec : ChangeSpec := { name := "fnTurnSort", fn := fun _ => fun
  | [d] => { results := [.lit (.bool true)], args := [d] }
  | _ => none }
def fnTurnSortRow : OpenClaim := { program := "ytjcbhjldanakeab", sum := "db9b0212359c68ad6502021d380e9a71c39d89660b7ac1940715a7bdc57deea9", func := "loop.example/flatarrays/laws.FnTurnSort", spec := "fnTurnSort", unfollowed := true, recurses := true, plainKeys := false, apart := false }
def FnTurnSortSaid : Prop := fnTurnSortRow.holds Try.pinned (OpenSpec.ofChange fnTurnSortSpec)

/-- ITS FALSE NEIGHBOUR: 'it returns false'. Refute it at one input. -/
def fnTurnSortWrong : ChangeSpec := { name := "fnTurnSort", fn := fun _ => fun
  | [d] => { results := [.lit (.bool false)], args := [d] }
  | _ => none }
def FnTurnSortWrongFalsely : Prop := fnTurnSortRow.holds Try.pinned (OpenSpec.ofChange fnTurnSortWrong)

/-- 'laws.FnExactInnerOf': WHATEVER THE INPUT: true; the input reads as it did. -/
def fnExactInnerOfSpec : ChangeSpec := { name := "fnExactInnerOf", fn := fun _ => fun
  | [d] => { results := [.lit (.bool true)], args := [d] }
  | _ => none }
def fnExactInnerOfRow : OpenClaim := { program := "ytjcbhjldanakeab", sum := "db9b0212359c68ad6502021d380e9a71c39d89660b7ac1940715a7bdc57deea9", func := "loop.example/flatarrays/laws.FnExactInnerOf", spec := "fnExactInnerOf", recurses := true, plainKeys := false, apart := false }
def FnExactInnerOfSaid : Prop := fnExactInnerOfRow.holds Try.pinned (OpenSpec.ofChange fnExactInnerOfSpec)

/-- ITS FALSE NEIGHBOUR: 'it returns false'. Refute it at one input. -/
def fnExactInnerOfWrong : ChangeSpec := { name := "fnExactInnerOf", fn := fun _ => fun
  | [d] => { results := [.lit (.bool false)], args := [d] }
  | _ => none }
def FnExactInnerOfWrongFalsely : Prop := fnExactInnerOfRow.holds Try.pinned (OpenSpec.ofChange fnExactInnerOfWrong)

/- THE SECOND FORM. 'bulk': how many values and letters a reading holds, each counted each time it is reached (what is shared counts as often as it is met; a slice's spare places count too). A statement '..UptoSaid' is the law's where the arguments, and the package variables that the reading takes, are together of bulk at most 1048576: NARROWER than '..Said'. Prove '..Said' where nothing that the law and all that it calls make is longer than what came in: it says more and counts as full. Else prove '..UptoSaid'. A law counts once. -/
mutual
def uptoBulk {H : Type} : DataW H → Nat
  | .lit (.string bytes) => bytes.length + 1
  | .lit _ => 1
  | .nil => 1
  | .ptr d => uptoBulk d + 1
  | .slice elems spare => uptoBulkAll elems + uptoBulkAll spare + 1
  | .agg parts => uptoBulkAll parts + 1
  | .iface _ d => uptoBulk d + 1
  | .map entries => uptoBulkEntries entries + 1
  | .held _ => 1
def uptoBulkAll {H : Type} : List (DataW H) → Nat
  | [] => 0
  | d :: r => uptoBulk d + uptoBulkAll r
def uptoBulkEntries {H : Type} : List (Lit × DataW H) → Nat
  | [] => 0
  | x :: r => uptoBulkEntry x + uptoBulkEntries r
def uptoBulkEntry {H : Type} : Lit × DataW H → Nat
  | (.string bytes, d) => bytes.length + uptoBulk d + 1
  | (_, d) => uptoBulk d + 1
 end
def uptoSmall : (H : Type) → List (DataW H) → Bool := fun _ ds => decide (uptoBulkAll ds ≤ 1048576)
def OpenSpec.upto (s : _root_.Go.ChangeSpec) : _root_.Go.OpenSpec := { _root_.Go.OpenSpec.ofChange s with cond := some uptoSmall }

/-- 'laws.FnExactArrayValid', WHERE WHAT IT READS IS OF BULK AT MOST 1048576: true; the input reads as it did. -/
def fnExactArrayValidUptoRow : OpenClaim := { program := "ytjcbhjldanakeab", sum := "db9b0212359c68ad6502021d380e9a71c39d89660b7ac1940715a7bdc57deea9", func := "loop.example/flatarrays/laws.FnExactArrayValid", spec := "fnExactArrayValid", unfollowed := true, recurses := true, plainKeys := false, apart := false, narrowed := true }
def FnExactArrayValidUptoSaid : Prop := fnExactArrayValidUptoRow.holds Try.pinned (OpenSpec.upto fnExactArrayValidSpec)

/-- 'laws.FnExactMakeArray', WHERE WHAT IT READS IS OF BULK AT MOST 1048576: true; the input reads as it did. -/
def fnExactMakeArrayUptoRow : OpenClaim := { program := "ytjcbhjldanakeab", sum := "db9b0212359c68ad6502021d380e9a71c39d89660b7ac1940715a7bdc57deea9", func := "loop.example/flatarrays/laws.FnExactMakeArray", spec := "fnExactMakeArray", inPlace := ["internal/abi.NoEscape", "internal/bytealg.MakeNoZero"], unfollowed := true, recurses := true, plainKeys := false, apart := false, narrowed := true }
def FnExactMakeArrayUptoSaid : Prop := fnExactMakeArrayUptoRow.holds Try.pinned (OpenSpec.upto fnExactMakeArraySpec)

/-- 'laws.FnExactNumbersOf', WHERE WHAT IT READS IS OF BULK AT MOST 1048576: true; the input reads as it did. -/
def fnExactNumbersOfUptoRow : OpenClaim := { program := "ytjcbhjldanakeab", sum := "db9b0212359c68ad6502021d380e9a71c39d89660b7ac1940715a7bdc57deea9", func := "loop.example/flatarrays/laws.FnExactNumbersOf", spec := "fnExactNumbersOf", unfollowed := true, recurses := true, plainKeys := false, apart := false, narrowed := true }
def FnExactNumbersOfUptoSaid : Prop := fnExactNumbersOfUptoRow.holds Try.pinned (OpenSpec.upto fnExactNumbersOfSpec)

/-- 'laws.FnExactLeastDepth', WHERE WHAT IT READS IS OF BULK AT MOST 1048576: true; the input reads as it did. -/
def fnExactLeastDepthUptoRow : OpenClaim := { program := "ytjcbhjldanakeab", sum := "db9b0212359c68ad6502021d380e9a71c39d89660b7ac1940715a7bdc57deea9", func := "loop.example/flatarrays/laws.FnExactLeastDepth", spec := "fnExactLeastDepth", unfollowed := true, recurses := true, plainKeys := false, apart := false, narrowed := true }
def FnExactLeastDepthUptoSaid : Prop := fnExactLeastDepthUptoRow.holds Try.pinned (OpenSpec.upto fnExactLeastDepthSpec)

/-- 'laws.FnExactLayOut', WHERE WHAT IT READS IS OF BULK AT MOST 1048576: true; the input reads as it did. -/
def fnExactLayOutUptoRow : OpenClaim := { program := "ytjcbhjldanakeab", sum := "db9b0212359c68ad6502021d380e9a71c39d89660b7ac1940715a7bdc57deea9", func := "loop.example/flatarrays/laws.FnExactLayOut", spec := "fnExactLayOut", unfollowed := true, recurses := true, plainKeys := false, apart := false, narrowed := true }
def FnExactLayOutUptoSaid : Prop := fnExactLayOutUptoRow.holds Try.pinned (OpenSpec.upto fnExactLayOutSpec)

/-- 'laws.FnExactSortSegments', WHERE WHAT IT READS IS OF BULK AT MOST 1048576: true; the input reads as it did. -/
def fnExactSortSegmentsUptoRow : OpenClaim := { program := "ytjcbhjldanakeab", sum := "db9b0212359c68ad6502021d380e9a71c39d89660b7ac1940715a7bdc57deea9", func := "loop.example/flatarrays/laws.FnExactSortSegments", spec := "fnExactSortSegments", unfollowed := true, recurses := true, plainKeys := false, apart := false, narrowed := true }
def FnExactSortSegmentsUptoSaid : Prop := fnExactSortSegmentsUptoRow.holds Try.pinned (OpenSpec.upto fnExactSortSegmentsSpec)

/-- 'laws.FnTurnSort', WHERE WHAT IT READS IS OF BULK AT MOST 1048576: true; the input reads as it did. -/
def fnTurnSortUptoRow : OpenClaim := { program := "ytjcbhjldanakeab", sum := "db9b0212359c68ad6502021d380e9a71c39d89660b7ac1940715a7bdc57deea9", func := "loop.example/flatarrays/laws.FnTurnSort", spec := "fnTurnSort", unfollowed := true, recurses := true, plainKeys := false, apart := false, narrowed := true }
def FnTurnSortUptoSaid : Prop := fnTurnSortUptoRow.holds Try.pinned (OpenSpec.upto fnTurnSortSpec)

/-- 'laws.FnExactInnerOf', WHERE WHAT IT READS IS OF BULK AT MOST 1048576: true; the input reads as it did. -/
def fnExactInnerOfUptoRow : OpenClaim := { program := "ytjcbhjldanakeab", sum := "db9b0212359c68ad6502021d380e9a71c39d89660b7ac1940715a7bdc57deea9", func := "loop.example/flatarrays/laws.FnExactInnerOf", spec := "fnExactInnerOf", recurses := true, plainKeys := false, apart := false, narrowed := true }
def FnExactInnerOfUptoSaid : Prop := fnExactInnerOfUptoRow.holds Try.pinned (OpenSpec.upto fnExactInnerOfSpec)

end Rows
end Go.Proofs.Ytjcbhjldanakeab
