/-
  No cell of these rows narrows 'for every input' (looked for: loops, veiled, ifaces, maps, wideKeys, modest, calm, conditions, laid).
  DERIVED. THE GIVEN ROWS OF THIS SEAT. 13 by the template 'for every input the law returns true; each argument reads behind the call as it read before'; 0 by the template 'total and deterministic' (their statements: YtknkenhhgjfliaaTotals.lean).
  GIVEN WITH THE SEED: the statements are not yours to turn. If you find one false, say at which input.
  Laid BY PROGRAM, IN A SANDBOX (cutbox-rows.mjs): the forced cells as the released guide's own fill.sh prints them over the translation cbf122751bec9039… (all of the seat's roots in one cut). By AI agents, Wed Nov 11 2026. No macro, syntax, notation, axiom, sorry.
-/
import Derived.Test.YtknkenhhgjfliaaChecked
import GoSem.Claim
import GoSem.ClaimJoined
import GoSem.ClaimMapViews
import Derived.JoinedTies
import Derived.KernelRfl
namespace Go.Proofs.Ytknkenhhgjfliaa
/- THE CELL 'sum', in the pinned program and in every row, IS THE sha256 OF THE DUMP (.gsa) THAT YtknkenhhgjfliaaProg.lean LOADS. Nothing in Lean hashes anything: it is a label: what it is worth is what the hold of that sum in a sandbox is worth. -/
noncomputable def Try.pinned : Pinned := { name := "ytknkenhhgjfliaa", sum := "cbf122751bec9039e2dac0e7101d0d0be398ecdf249be5b6f87913144fc2feed", checked := Try.checked }
namespace Rows
def none {H : Type} : Left H := { results := [], args := [] }

/-- 'laws.FnMakeArray': WHATEVER THE INPUT: true; the input reads as it did. -/
def fnMakeArraySpec : ChangeSpec := { name := "fnMakeArray", fn := fun _ => fun
  | [d1, d2] => { results := [.lit (.bool true)], args := [d1, d2] }
  | _ => none }
def fnMakeArrayRow : OpenClaim := { program := "ytknkenhhgjfliaa", sum := "cbf122751bec9039e2dac0e7101d0d0be398ecdf249be5b6f87913144fc2feed", func := "loop.example/flatarrays/laws.FnMakeArray", spec := "fnMakeArray", inPlace := ["internal/abi.NoEscape", "internal/bytealg.MakeNoZero"], unfollowed := true, recurses := true, apart := false }
def FnMakeArraySaid : Prop := fnMakeArrayRow.holds Try.pinned (OpenSpec.ofChange fnMakeArraySpec)

/-- ITS FALSE NEIGHBOUR: 'it returns false'. Refute it at one input. -/
def fnMakeArrayWrong : ChangeSpec := { name := "fnMakeArray", fn := fun _ => fun
  | [d1, d2] => { results := [.lit (.bool false)], args := [d1, d2] }
  | _ => none }
def FnMakeArrayWrongFalsely : Prop := fnMakeArrayRow.holds Try.pinned (OpenSpec.ofChange fnMakeArrayWrong)

/-- 'laws.FnNumbersOf': WHATEVER THE INPUT: true; the input reads as it did. -/
def fnNumbersOfSpec : ChangeSpec := { name := "fnNumbersOf", fn := fun _ => fun
  | [d] => { results := [.lit (.bool true)], args := [d] }
  | _ => none }
def fnNumbersOfRow : OpenClaim := { program := "ytknkenhhgjfliaa", sum := "cbf122751bec9039e2dac0e7101d0d0be398ecdf249be5b6f87913144fc2feed", func := "loop.example/flatarrays/laws.FnNumbersOf", spec := "fnNumbersOf", unfollowed := true, recurses := true, apart := false }
def FnNumbersOfSaid : Prop := fnNumbersOfRow.holds Try.pinned (OpenSpec.ofChange fnNumbersOfSpec)

/-- ITS FALSE NEIGHBOUR: 'it returns false'. Refute it at one input. -/
def fnNumbersOfWrong : ChangeSpec := { name := "fnNumbersOf", fn := fun _ => fun
  | [d] => { results := [.lit (.bool false)], args := [d] }
  | _ => none }
def FnNumbersOfWrongFalsely : Prop := fnNumbersOfRow.holds Try.pinned (OpenSpec.ofChange fnNumbersOfWrong)

/-- 'laws.FnJoin': WHATEVER THE INPUT: true; the input reads as it did. -/
def fnJoinSpec : ChangeSpec := { name := "fnJoin", fn := fun _ => fun
  | [d] => { results := [.lit (.bool true)], args := [d] }
  | _ => none }
def fnJoinRow : OpenClaim := { program := "ytknkenhhgjfliaa", sum := "cbf122751bec9039e2dac0e7101d0d0be398ecdf249be5b6f87913144fc2feed", func := "loop.example/flatarrays/laws.FnJoin", spec := "fnJoin", inPlace := ["internal/abi.NoEscape", "internal/bytealg.MakeNoZero"], unfollowed := true, recurses := true, apart := false }
def FnJoinSaid : Prop := fnJoinRow.holds Try.pinned (OpenSpec.ofChange fnJoinSpec)

/-- ITS FALSE NEIGHBOUR: 'it returns false'. Refute it at one input. -/
def fnJoinWrong : ChangeSpec := { name := "fnJoin", fn := fun _ => fun
  | [d] => { results := [.lit (.bool false)], args := [d] }
  | _ => none }
def FnJoinWrongFalsely : Prop := fnJoinRow.holds Try.pinned (OpenSpec.ofChange fnJoinWrong)

/-- 'laws.FnFlatten': WHATEVER THE INPUT: true; the input reads as it did. -/
def fnFlattenSpec : ChangeSpec := { name := "fnFlatten", fn := fun _ => fun
  | [d1, d2] => { results := [.lit (.bool true)], args := [d1, d2] }
  | _ => none }
def fnFlattenRow : OpenClaim := { program := "ytknkenhhgjfliaa", sum := "cbf122751bec9039e2dac0e7101d0d0be398ecdf249be5b6f87913144fc2feed", func := "loop.example/flatarrays/laws.FnFlatten", spec := "fnFlatten", inPlace := ["internal/abi.NoEscape", "internal/bytealg.MakeNoZero"], unfollowed := true, recurses := true, apart := false }
def FnFlattenSaid : Prop := fnFlattenRow.holds Try.pinned (OpenSpec.ofChange fnFlattenSpec)

/-- ITS FALSE NEIGHBOUR: 'it returns false'. Refute it at one input. -/
def fnFlattenWrong : ChangeSpec := { name := "fnFlatten", fn := fun _ => fun
  | [d1, d2] => { results := [.lit (.bool false)], args := [d1, d2] }
  | _ => none }
def FnFlattenWrongFalsely : Prop := fnFlattenRow.holds Try.pinned (OpenSpec.ofChange fnFlattenWrong)

/-- 'laws.FnExactArrayValid': WHATEVER THE INPUT: true; the input reads as it did. -/
def fnExactArrayValidSpec : ChangeSpec := { name := "fnExactArrayValid", fn := fun _ => fun
  | [d1, d2] => { results := [.lit (.bool true)], args := [d1, d2] }
  | _ => none }
def fnExactArrayValidRow : OpenClaim := { program := "ytknkenhhgjfliaa", sum := "cbf122751bec9039e2dac0e7101d0d0be398ecdf249be5b6f87913144fc2feed", func := "loop.example/flatarrays/laws.FnExactArrayValid", spec := "fnExactArrayValid", unfollowed := true, recurses := true, apart := false }
def FnExactArrayValidSaid : Prop := fnExactArrayValidRow.holds Try.pinned (OpenSpec.ofChange fnExactArrayValidSpec)

/-- ITS FALSE NEIGHBOUR: 'it returns false'. Refute it at one input. -/
def fnExactArrayValidWrong : ChangeSpec := { name := "fnExactArrayValid", fn := fun _ => fun
  | [d1, d2] => { results := [.lit (.bool false)], args := [d1, d2] }
  | _ => none }
def FnExactArrayValidWrongFalsely : Prop := fnExactArrayValidRow.holds Try.pinned (OpenSpec.ofChange fnExactArrayValidWrong)

/-- 'laws.FnExactPartsOf': WHATEVER THE INPUT: true; the input reads as it did. -/
def fnExactPartsOfSpec : ChangeSpec := { name := "fnExactPartsOf", fn := fun _ => fun
  | [d1, d2] => { results := [.lit (.bool true)], args := [d1, d2] }
  | _ => none }
def fnExactPartsOfRow : OpenClaim := { program := "ytknkenhhgjfliaa", sum := "cbf122751bec9039e2dac0e7101d0d0be398ecdf249be5b6f87913144fc2feed", func := "loop.example/flatarrays/laws.FnExactPartsOf", spec := "fnExactPartsOf", unfollowed := true, recurses := true, apart := false }
def FnExactPartsOfSaid : Prop := fnExactPartsOfRow.holds Try.pinned (OpenSpec.ofChange fnExactPartsOfSpec)

/-- ITS FALSE NEIGHBOUR: 'it returns false'. Refute it at one input. -/
def fnExactPartsOfWrong : ChangeSpec := { name := "fnExactPartsOf", fn := fun _ => fun
  | [d1, d2] => { results := [.lit (.bool false)], args := [d1, d2] }
  | _ => none }
def FnExactPartsOfWrongFalsely : Prop := fnExactPartsOfRow.holds Try.pinned (OpenSpec.ofChange fnExactPartsOfWrong)

/-- 'laws.FnExactMakeArray': WHATEVER THE INPUT: true; the input reads as it did. -/
def fnExactMakeArraySpec : ChangeSpec := { name := "fnExactMakeArray", fn := fun _ => fun
  | [d1, d2] => { results := [.lit (.bool true)], args := [d1, d2] }
  | _ => none }
def fnExactMakeArrayRow : OpenClaim := { program := "ytknkenhhgjfliaa", sum := "cbf122751bec9039e2dac0e7101d0d0be398ecdf249be5b6f87913144fc2feed", func := "loop.example/flatarrays/laws.FnExactMakeArray", spec := "fnExactMakeArray", inPlace := ["internal/abi.NoEscape", "internal/bytealg.MakeNoZero"], unfollowed := true, recurses := true, apart := false }
def FnExactMakeArraySaid : Prop := fnExactMakeArrayRow.holds Try.pinned (OpenSpec.ofChange fnExactMakeArraySpec)

/-- ITS FALSE NEIGHBOUR: 'it returns false'. Refute it at one input. -/
def fnExactMakeArrayWrong : ChangeSpec := { name := "fnExactMakeArray", fn := fun _ => fun
  | [d1, d2] => { results := [.lit (.bool false)], args := [d1, d2] }
  | _ => none }
def FnExactMakeArrayWrongFalsely : Prop := fnExactMakeArrayRow.holds Try.pinned (OpenSpec.ofChange fnExactMakeArrayWrong)

/-- 'laws.FnExactNumbersOf': WHATEVER THE INPUT: true; the input reads as it did. -/
def fnExactNumbersOfSpec : ChangeSpec := { name := "fnExactNumbersOf", fn := fun _ => fun
  | [d1, d2] => { results := [.lit (.bool true)], args := [d1, d2] }
  | _ => none }
def fnExactNumbersOfRow : OpenClaim := { program := "ytknkenhhgjfliaa", sum := "cbf122751bec9039e2dac0e7101d0d0be398ecdf249be5b6f87913144fc2feed", func := "loop.example/flatarrays/laws.FnExactNumbersOf", spec := "fnExactNumbersOf", unfollowed := true, recurses := true, apart := false }
def FnExactNumbersOfSaid : Prop := fnExactNumbersOfRow.holds Try.pinned (OpenSpec.ofChange fnExactNumbersOfSpec)

/-- ITS FALSE NEIGHBOUR: 'it returns false'. Refute it at one input. -/
def fnExactNumbersOfWrong : ChangeSpec := { name := "fnExactNumbersOf", fn := fun _ => fun
  | [d1, d2] => { results := [.lit (.bool false)], args := [d1, d2] }
  | _ => none }
def FnExactNumbersOfWrongFalsely : Prop := fnExactNumbersOfRow.holds Try.pinned (OpenSpec.ofChange fnExactNumbersOfWrong)

/-- 'laws.FnExactLengthOf': WHATEVER THE INPUT: true; the input reads as it did. -/
def fnExactLengthOfSpec : ChangeSpec := { name := "fnExactLengthOf", fn := fun _ => fun
  | [d1, d2] => { results := [.lit (.bool true)], args := [d1, d2] }
  | _ => none }
def fnExactLengthOfRow : OpenClaim := { program := "ytknkenhhgjfliaa", sum := "cbf122751bec9039e2dac0e7101d0d0be398ecdf249be5b6f87913144fc2feed", func := "loop.example/flatarrays/laws.FnExactLengthOf", spec := "fnExactLengthOf", unfollowed := true, recurses := true, apart := false }
def FnExactLengthOfSaid : Prop := fnExactLengthOfRow.holds Try.pinned (OpenSpec.ofChange fnExactLengthOfSpec)

/-- ITS FALSE NEIGHBOUR: 'it returns false'. Refute it at one input. -/
def fnExactLengthOfWrong : ChangeSpec := { name := "fnExactLengthOf", fn := fun _ => fun
  | [d1, d2] => { results := [.lit (.bool false)], args := [d1, d2] }
  | _ => none }
def FnExactLengthOfWrongFalsely : Prop := fnExactLengthOfRow.holds Try.pinned (OpenSpec.ofChange fnExactLengthOfWrong)

/-- 'laws.FnExactJoinArrays': WHATEVER THE INPUT: true; the input reads as it did. -/
def fnExactJoinArraysSpec : ChangeSpec := { name := "fnExactJoinArrays", fn := fun _ => fun
  | [d1, d2, d3] => { results := [.lit (.bool true)], args := [d1, d2, d3] }
  | _ => none }
def fnExactJoinArraysRow : OpenClaim := { program := "ytknkenhhgjfliaa", sum := "cbf122751bec9039e2dac0e7101d0d0be398ecdf249be5b6f87913144fc2feed", func := "loop.example/flatarrays/laws.FnExactJoinArrays", spec := "fnExactJoinArrays", inPlace := ["internal/abi.NoEscape", "internal/bytealg.MakeNoZero"], unfollowed := true, recurses := true, apart := false }
def FnExactJoinArraysSaid : Prop := fnExactJoinArraysRow.holds Try.pinned (OpenSpec.ofChange fnExactJoinArraysSpec)

/-- ITS FALSE NEIGHBOUR: 'it returns false'. Refute it at one input. -/
def fnExactJoinArraysWrong : ChangeSpec := { name := "fnExactJoinArrays", fn := fun _ => fun
  | [d1, d2, d3] => { results := [.lit (.bool false)], args := [d1, d2, d3] }
  | _ => none }
def FnExactJoinArraysWrongFalsely : Prop := fnExactJoinArraysRow.holds Try.pinned (OpenSpec.ofChange fnExactJoinArraysWrong)

/-- 'laws.FnExactTurnArray': WHATEVER THE INPUT: true; the input reads as it did. -/
def fnExactTurnArraySpec : ChangeSpec := { name := "fnExactTurnArray", fn := fun _ => fun
  | [d1, d2] => { results := [.lit (.bool true)], args := [d1, d2] }
  | _ => none }
def fnExactTurnArrayRow : OpenClaim := { program := "ytknkenhhgjfliaa", sum := "cbf122751bec9039e2dac0e7101d0d0be398ecdf249be5b6f87913144fc2feed", func := "loop.example/flatarrays/laws.FnExactTurnArray", spec := "fnExactTurnArray", inPlace := ["internal/abi.NoEscape", "internal/bytealg.MakeNoZero"], unfollowed := true, recurses := true, apart := false }
def FnExactTurnArraySaid : Prop := fnExactTurnArrayRow.holds Try.pinned (OpenSpec.ofChange fnExactTurnArraySpec)

/-- ITS FALSE NEIGHBOUR: 'it returns false'. Refute it at one input. -/
def fnExactTurnArrayWrong : ChangeSpec := { name := "fnExactTurnArray", fn := fun _ => fun
  | [d1, d2] => { results := [.lit (.bool false)], args := [d1, d2] }
  | _ => none }
def FnExactTurnArrayWrongFalsely : Prop := fnExactTurnArrayRow.holds Try.pinned (OpenSpec.ofChange fnExactTurnArrayWrong)

/-- 'laws.FnExactFlattenOnce': WHATEVER THE INPUT: true; the input reads as it did. -/
def fnExactFlattenOnceSpec : ChangeSpec := { name := "fnExactFlattenOnce", fn := fun _ => fun
  | [d1, d2] => { results := [.lit (.bool true)], args := [d1, d2] }
  | _ => none }
def fnExactFlattenOnceRow : OpenClaim := { program := "ytknkenhhgjfliaa", sum := "cbf122751bec9039e2dac0e7101d0d0be398ecdf249be5b6f87913144fc2feed", func := "loop.example/flatarrays/laws.FnExactFlattenOnce", spec := "fnExactFlattenOnce", inPlace := ["internal/abi.NoEscape", "internal/bytealg.MakeNoZero"], unfollowed := true, recurses := true, apart := false }
def FnExactFlattenOnceSaid : Prop := fnExactFlattenOnceRow.holds Try.pinned (OpenSpec.ofChange fnExactFlattenOnceSpec)

/-- ITS FALSE NEIGHBOUR: 'it returns false'. Refute it at one input. -/
def fnExactFlattenOnceWrong : ChangeSpec := { name := "fnExactFlattenOnce", fn := fun _ => fun
  | [d1, d2] => { results := [.lit (.bool false)], args := [d1, d2] }
  | _ => none }
def FnExactFlattenOnceWrongFalsely : Prop := fnExactFlattenOnceRow.holds Try.pinned (OpenSpec.ofChange fnExactFlattenOnceWrong)

/-- 'laws.FnExactLeastDepth': WHATEVER THE INPUT: true; the input reads as it did. -/
def fnExactLeastDepthSpec : ChangeSpec := { name := "fnExactLeastDepth", fn := fun _ => fun
  | [d] => { results := [.lit (.bool true)], args := [d] }
  | _ => none }
def fnExactLeastDepthRow : OpenClaim := { program := "ytknkenhhgjfliaa", sum := "cbf122751bec9039e2dac0e7101d0d0be398ecdf249be5b6f87913144fc2feed", func := "loop.example/flatarrays/laws.FnExactLeastDepth", spec := "fnExactLeastDepth", unfollowed := true, recurses := true, apart := false }
def FnExactLeastDepthSaid : Prop := fnExactLeastDepthRow.holds Try.pinned (OpenSpec.ofChange fnExactLeastDepthSpec)

/-- ITS FALSE NEIGHBOUR: 'it returns false'. Refute it at one input. -/
def fnExactLeastDepthWrong : ChangeSpec := { name := "fnExactLeastDepth", fn := fun _ => fun
  | [d] => { results := [.lit (.bool false)], args := [d] }
  | _ => none }
def FnExactLeastDepthWrongFalsely : Prop := fnExactLeastDepthRow.holds Try.pinned (OpenSpec.ofChange fnExactLeastDepthWrong)

/- THE SECOND FORM. 'bulk': how many values and letters a reading holds, each counted each time it is reached (what is shared counts as often as it is met; a slice's spare places count too). A statement '..UptoSaid' is the law's where the arguments, and the package variables that the reading takes, are together of bulk at most 1048576: NARROWER than '..Said'. Prove '..Said' where nothing that the law and all that it calls make is longer than what came in: it says more and counts as full. Else prove '..UptoSaid'. A law counts once. -/
mutual
def uptoBulk {H : Type} : DataW H → Nat
  | .lit (.string bytes) => bytes.length + 1
  | .lit _ => 1
  | .nil => 1
  | .ptr d => uptoBulk d + 1
  | .slice elems spare => uptoBulkAll elems + uptoBulkAll spare + 1
  | .agg parts => uptoBulkAll parts + 1
  | .iface _ d => uptoBulk d + 1
  | .map entries => uptoBulkEntries entries + 1
  | .held _ => 1
def uptoBulkAll {H : Type} : List (DataW H) → Nat
  | [] => 0
  | d :: r => uptoBulk d + uptoBulkAll r
def uptoBulkEntries {H : Type} : List (Lit × DataW H) → Nat
  | [] => 0
  | x :: r => uptoBulkEntry x + uptoBulkEntries r
def uptoBulkEntry {H : Type} : Lit × DataW H → Nat
  | (.string bytes, d) => bytes.length + uptoBulk d + 1
  | (_, d) => uptoBulk d + 1
 end
def uptoSmall : (H : Type) → List (DataW H) → Bool := fun _ ds => decide (uptoBulkAll ds ≤ 1048576)
def OpenSpec.upto (s : _root_.Go.ChangeSpec) : _root_.Go.OpenSpec := { _root_.Go.OpenSpec.ofChange s with cond := some uptoSmall }

/-- 'laws.FnMakeArray', WHERE WHAT IT READS IS OF BULK AT MOST 1048576: true; the input reads as it did. -/
def fnMakeArrayUptoRow : OpenClaim := { program := "ytknkenhhgjfliaa", sum := "cbf122751bec9039e2dac0e7101d0d0be398ecdf249be5b6f87913144fc2feed", func := "loop.example/flatarrays/laws.FnMakeArray", spec := "fnMakeArray", inPlace := ["internal/abi.NoEscape", "internal/bytealg.MakeNoZero"], unfollowed := true, recurses := true, apart := false, narrowed := true }
def FnMakeArrayUptoSaid : Prop := fnMakeArrayUptoRow.holds Try.pinned (OpenSpec.upto fnMakeArraySpec)

/-- 'laws.FnNumbersOf', WHERE WHAT IT READS IS OF BULK AT MOST 1048576: true; the input reads as it did. -/
def fnNumbersOfUptoRow : OpenClaim := { program := "ytknkenhhgjfliaa", sum := "cbf122751bec9039e2dac0e7101d0d0be398ecdf249be5b6f87913144fc2feed", func := "loop.example/flatarrays/laws.FnNumbersOf", spec := "fnNumbersOf", unfollowed := true, recurses := true, apart := false, narrowed := true }
def FnNumbersOfUptoSaid : Prop := fnNumbersOfUptoRow.holds Try.pinned (OpenSpec.upto fnNumbersOfSpec)

/-- 'laws.FnJoin', WHERE WHAT IT READS IS OF BULK AT MOST 1048576: true; the input reads as it did. -/
def fnJoinUptoRow : OpenClaim := { program := "ytknkenhhgjfliaa", sum := "cbf122751bec9039e2dac0e7101d0d0be398ecdf249be5b6f87913144fc2feed", func := "loop.example/flatarrays/laws.FnJoin", spec := "fnJoin", inPlace := ["internal/abi.NoEscape", "internal/bytealg.MakeNoZero"], unfollowed := true, recurses := true, apart := false, narrowed := true }
def FnJoinUptoSaid : Prop := fnJoinUptoRow.holds Try.pinned (OpenSpec.upto fnJoinSpec)

/-- 'laws.FnFlatten', WHERE WHAT IT READS IS OF BULK AT MOST 1048576: true; the input reads as it did. -/
def fnFlattenUptoRow : OpenClaim := { program := "ytknkenhhgjfliaa", sum := "cbf122751bec9039e2dac0e7101d0d0be398ecdf249be5b6f87913144fc2feed", func := "loop.example/flatarrays/laws.FnFlatten", spec := "fnFlatten", inPlace := ["internal/abi.NoEscape", "internal/bytealg.MakeNoZero"], unfollowed := true, recurses := true, apart := false, narrowed := true }
def FnFlattenUptoSaid : Prop := fnFlattenUptoRow.holds Try.pinned (OpenSpec.upto fnFlattenSpec)

/-- 'laws.FnExactArrayValid', WHERE WHAT IT READS IS OF BULK AT MOST 1048576: true; the input reads as it did. -/
def fnExactArrayValidUptoRow : OpenClaim := { program := "ytknkenhhgjfliaa", sum := "cbf122751bec9039e2dac0e7101d0d0be398ecdf249be5b6f87913144fc2feed", func := "loop.example/flatarrays/laws.FnExactArrayValid", spec := "fnExactArrayValid", unfollowed := true, recurses := true, apart := false, narrowed := true }
def FnExactArrayValidUptoSaid : Prop := fnExactArrayValidUptoRow.holds Try.pinned (OpenSpec.upto fnExactArrayValidSpec)

/-- 'laws.FnExactPartsOf', WHERE WHAT IT READS IS OF BULK AT MOST 1048576: true; the input reads as it did. -/
def fnExactPartsOfUptoRow : OpenClaim := { program := "ytknkenhhgjfliaa", sum := "cbf122751bec9039e2dac0e7101d0d0be398ecdf249be5b6f87913144fc2feed", func := "loop.example/flatarrays/laws.FnExactPartsOf", spec := "fnExactPartsOf", unfollowed := true, recurses := true, apart := false, narrowed := true }
def FnExactPartsOfUptoSaid : Prop := fnExactPartsOfUptoRow.holds Try.pinned (OpenSpec.upto fnExactPartsOfSpec)

/-- 'laws.FnExactMakeArray', WHERE WHAT IT READS IS OF BULK AT MOST 1048576: true; the input reads as it did. -/
def fnExactMakeArrayUptoRow : OpenClaim := { program := "ytknkenhhgjfliaa", sum := "cbf122751bec9039e2dac0e7101d0d0be398ecdf249be5b6f87913144fc2feed", func := "loop.example/flatarrays/laws.FnExactMakeArray", spec := "fnExactMakeArray", inPlace := ["internal/abi.NoEscape", "internal/bytealg.MakeNoZero"], unfollowed := true, recurses := true, apart := false, narrowed := true }
def FnExactMakeArrayUptoSaid : Prop := fnExactMakeArrayUptoRow.holds Try.pinned (OpenSpec.upto fnExactMakeArraySpec)

/-- 'laws.FnExactNumbersOf', WHERE WHAT IT READS IS OF BULK AT MOST 1048576: true; the input reads as it did. -/
def fnExactNumbersOfUptoRow : OpenClaim := { program := "ytknkenhhgjfliaa", sum := "cbf122751bec9039e2dac0e7101d0d0be398ecdf249be5b6f87913144fc2feed", func := "loop.example/flatarrays/laws.FnExactNumbersOf", spec := "fnExactNumbersOf", unfollowed := true, recurses := true, apart := false, narrowed := true }
def FnExactNumbersOfUptoSaid : Prop := fnExactNumbersOfUptoRow.holds Try.pinned (OpenSpec.upto fnExactNumbersOfSpec)

/-- 'laws.FnExactLengthOf', WHERE WHAT IT READS IS OF BULK AT MOST 1048576: true; the input reads as it did. -/
def fnExactLengthOfUptoRow : OpenClaim := { program := "ytknkenhhgjfliaa", sum := "cbf122751bec9039e2dac0e7101d0d0be398ecdf249be5b6f87913144fc2feed", func := "loop.example/flatarrays/laws.FnExactLengthOf", spec := "fnExactLengthOf", unfollowed := true, recurses := true, apart := false, narrowed := true }
def FnExactLengthOfUptoSaid : Prop := fnExactLengthOfUptoRow.holds Try.pinned (OpenSpec.upto fnExactLengthOfSpec)

/-- 'laws.FnExactJoinArrays', WHERE WHAT IT READS IS OF BULK AT MOST 1048576: true; the input reads as it did. -/
def fnExactJoinArraysUptoRow : OpenClaim := { program := "ytknkenhhgjfliaa", sum := "cbf122751bec9039e2dac0e7101d0d0be398ecdf249be5b6f87913144fc2feed", func := "loop.example/flatarrays/laws.FnExactJoinArrays", spec := "fnExactJoinArrays", inPlace := ["internal/abi.NoEscape", "internal/bytealg.MakeNoZero"], unfollowed := true, recurses := true, apart := false, narrowed := true }
def FnExactJoinArraysUptoSaid : Prop := fnExactJoinArraysUptoRow.holds Try.pinned (OpenSpec.upto fnExactJoinArraysSpec)

/-- 'laws.FnExactTurnArray', WHERE WHAT IT READS IS OF BULK AT MOST 1048576: true; the input reads as it did. -/
def fnExactTurnArrayUptoRow : OpenClaim := { program := "ytknkenhhgjfliaa", sum := "cbf122751bec9039e2dac0e7101d0d0be398ecdf249be5b6f87913144fc2feed", func := "loop.example/flatarrays/laws.FnExactTurnArray", spec := "fnExactTurnArray", inPlace := ["internal/abi.NoEscape", "internal/bytealg.MakeNoZero"], unfollowed := true, recurses := true, apart := false, narrowed := true }
def FnExactTurnArrayUptoSaid : Prop := fnExactTurnArrayUptoRow.holds Try.pinned (OpenSpec.upto fnExactTurnArraySpec)

/-- 'laws.FnExactFlattenOnce', WHERE WHAT IT READS IS OF BULK AT MOST 1048576: true; the input reads as it did. -/
def fnExactFlattenOnceUptoRow : OpenClaim := { program := "ytknkenhhgjfliaa", sum := "cbf122751bec9039e2dac0e7101d0d0be398ecdf249be5b6f87913144fc2feed", func := "loop.example/flatarrays/laws.FnExactFlattenOnce", spec := "fnExactFlattenOnce", inPlace := ["internal/abi.NoEscape", "internal/bytealg.MakeNoZero"], unfollowed := true, recurses := true, apart := false, narrowed := true }
def FnExactFlattenOnceUptoSaid : Prop := fnExactFlattenOnceUptoRow.holds Try.pinned (OpenSpec.upto fnExactFlattenOnceSpec)

/-- 'laws.FnExactLeastDepth', WHERE WHAT IT READS IS OF BULK AT MOST 1048576: true; the input reads as it did. -/
def fnExactLeastDepthUptoRow : OpenClaim := { program := "ytknkenhhgjfliaa", sum := "cbf122751bec9039e2dac0e7101d0d0be398ecdf249be5b6f87913144fc2feed", func := "loop.example/flatarrays/laws.FnExactLeastDepth", spec := "fnExactLeastDepth", unfollowed := true, recurses := true, apart := false, narrowed := true }
def FnExactLeastDepthUptoSaid : Prop := fnExactLeastDepthUptoRow.holds Try.pinned (OpenSpec.upto fnExactLeastDepthSpec)

end Rows
end Go.Proofs.Ytknkenhhgjfliaa
