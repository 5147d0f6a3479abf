/-
  No cell of these rows narrows 'for every input' (looked for: loops, veiled, ifaces, maps, wideKeys, modest, calm, conditions, laid).
  DERIVED. THE GIVEN ROWS OF THIS SEAT. 12 by the template 'for every input the law returns true; each argument reads behind the call as it read before'; 0 by the template 'total and deterministic' (their statements: YtmofoeljajdhmaaTotals.lean).
  GIVEN WITH THE SEED: the statements are not yours to turn. If you find one false, say at which input.
  Laid BY PROGRAM, IN A SANDBOX (cutbox-rows.mjs): the forced cells as the released guide's own fill.sh prints them over the translation 26cf7645d2aed7ef… (all of the seat's roots in one cut). By AI agents, Wed Nov 11 2026. No macro, syntax, notation, axiom, sorry.
-/
import Derived.Test.YtmofoeljajdhmaaChecked
import GoSem.Claim
import GoSem.ClaimJoined
import GoSem.ClaimMapViews
import Derived.JoinedTies
import Derived.KernelRfl
namespace Go.Proofs.Ytmofoeljajdhmaa
/- THE CELL 'sum', in the pinned program and in every row, IS THE sha256 OF THE DUMP (.gsa) THAT YtmofoeljajdhmaaProg.lean LOADS. Nothing in Lean hashes anything: it is a label: what it is worth is what the hold of that sum in a sandbox is worth. -/
noncomputable def Try.pinned : Pinned := { name := "ytmofoeljajdhmaa", sum := "26cf7645d2aed7ef5d40d5b3fafe24049547e390384fdd5ebcad76442386f696", checked := Try.checked }
namespace Rows
def none {H : Type} : Left H := { results := [], args := [] }

/-- 'laws.FnExactFreeVars': WHATEVER THE INPUT: true; the input reads as it did. -/
def fnExactFreeVarsSpec : ChangeSpec := { name := "fnExactFreeVars", fn := fun _ => fun
  | [d] => { results := [.lit (.bool true)], args := [d] }
  | _ => none }
def fnExactFreeVarsRow : OpenClaim := { program := "ytmofoeljajdhmaa", sum := "26cf7645d2aed7ef5d40d5b3fafe24049547e390384fdd5ebcad76442386f696", func := "loop.example/flatarrays/laws.FnExactFreeVars", spec := "fnExactFreeVars", inPlace := ["internal/bytealg.IndexByteString"], unfollowed := true, recurses := true, plainKeys := false, apart := false }
def FnExactFreeVarsSaid : Prop := fnExactFreeVarsRow.holds Try.pinned (OpenSpec.ofChange fnExactFreeVarsSpec)

/-- ITS FALSE NEIGHBOUR: 'it returns false'. Refute it at one input. -/
def fnExactFreeVarsWrong : ChangeSpec := { name := "fnExactFreeVars", fn := fun _ => fun
  | [d] => { results := [.lit (.bool false)], args := [d] }
  | _ => none }
def FnExactFreeVarsWrongFalsely : Prop := fnExactFreeVarsRow.holds Try.pinned (OpenSpec.ofChange fnExactFreeVarsWrong)

/-- 'laws.FnExactReplaceVar': WHATEVER THE INPUT: true; the input reads as it did. -/
def fnExactReplaceVarSpec : ChangeSpec := { name := "fnExactReplaceVar", fn := fun _ => fun
  | [d1, d2, d3] => { results := [.lit (.bool true)], args := [d1, d2, d3] }
  | _ => none }
def fnExactReplaceVarRow : OpenClaim := { program := "ytmofoeljajdhmaa", sum := "26cf7645d2aed7ef5d40d5b3fafe24049547e390384fdd5ebcad76442386f696", func := "loop.example/flatarrays/laws.FnExactReplaceVar", spec := "fnExactReplaceVar", inPlace := ["internal/bytealg.IndexByteString"], unfollowed := true, recurses := true, plainKeys := false, apart := false }
def FnExactReplaceVarSaid : Prop := fnExactReplaceVarRow.holds Try.pinned (OpenSpec.ofChange fnExactReplaceVarSpec)

/-- ITS FALSE NEIGHBOUR: 'it returns false'. Refute it at one input. -/
def fnExactReplaceVarWrong : ChangeSpec := { name := "fnExactReplaceVar", fn := fun _ => fun
  | [d1, d2, d3] => { results := [.lit (.bool false)], args := [d1, d2, d3] }
  | _ => none }
def FnExactReplaceVarWrongFalsely : Prop := fnExactReplaceVarRow.holds Try.pinned (OpenSpec.ofChange fnExactReplaceVarWrong)

/-- 'laws.FnParts': WHATEVER THE INPUT: true; the input reads as it did. -/
def fnPartsSpec : ChangeSpec := { name := "fnParts", fn := fun _ => fun
  | [d] => { results := [.lit (.bool true)], args := [d] }
  | _ => none }
def fnPartsRow : OpenClaim := { program := "ytmofoeljajdhmaa", sum := "26cf7645d2aed7ef5d40d5b3fafe24049547e390384fdd5ebcad76442386f696", func := "loop.example/flatarrays/laws.FnParts", spec := "fnParts", inPlace := ["internal/bytealg.IndexByteString"], unfollowed := true, recurses := true, plainKeys := false, apart := false }
def FnPartsSaid : Prop := fnPartsRow.holds Try.pinned (OpenSpec.ofChange fnPartsSpec)

/-- ITS FALSE NEIGHBOUR: 'it returns false'. Refute it at one input. -/
def fnPartsWrong : ChangeSpec := { name := "fnParts", fn := fun _ => fun
  | [d] => { results := [.lit (.bool false)], args := [d] }
  | _ => none }
def FnPartsWrongFalsely : Prop := fnPartsRow.holds Try.pinned (OpenSpec.ofChange fnPartsWrong)

/-- 'laws.FnDepth': WHATEVER THE INPUT: true; the input reads as it did. -/
def fnDepthSpec : ChangeSpec := { name := "fnDepth", fn := fun _ => fun
  | [d] => { results := [.lit (.bool true)], args := [d] }
  | _ => none }
def fnDepthRow : OpenClaim := { program := "ytmofoeljajdhmaa", sum := "26cf7645d2aed7ef5d40d5b3fafe24049547e390384fdd5ebcad76442386f696", func := "loop.example/flatarrays/laws.FnDepth", spec := "fnDepth", inPlace := ["internal/bytealg.IndexByteString", "maps.clone"], unfollowed := true, recurses := true, plainKeys := false, apart := false }
def FnDepthSaid : Prop := fnDepthRow.holds Try.pinned (OpenSpec.ofChange fnDepthSpec)

/-- ITS FALSE NEIGHBOUR: 'it returns false'. Refute it at one input. -/
def fnDepthWrong : ChangeSpec := { name := "fnDepth", fn := fun _ => fun
  | [d] => { results := [.lit (.bool false)], args := [d] }
  | _ => none }
def FnDepthWrongFalsely : Prop := fnDepthRow.holds Try.pinned (OpenSpec.ofChange fnDepthWrong)

/-- 'laws.FnReplace': WHATEVER THE INPUT: true; the input reads as it did. -/
def fnReplaceSpec : ChangeSpec := { name := "fnReplace", fn := fun _ => fun
  | [d1, d2] => { results := [.lit (.bool true)], args := [d1, d2] }
  | _ => none }
def fnReplaceRow : OpenClaim := { program := "ytmofoeljajdhmaa", sum := "26cf7645d2aed7ef5d40d5b3fafe24049547e390384fdd5ebcad76442386f696", func := "loop.example/flatarrays/laws.FnReplace", spec := "fnReplace", inPlace := ["internal/bytealg.IndexByteString", "maps.clone"], unfollowed := true, recurses := true, plainKeys := false, apart := false }
def FnReplaceSaid : Prop := fnReplaceRow.holds Try.pinned (OpenSpec.ofChange fnReplaceSpec)

/-- ITS FALSE NEIGHBOUR: 'it returns false'. Refute it at one input. -/
def fnReplaceWrong : ChangeSpec := { name := "fnReplace", fn := fun _ => fun
  | [d1, d2] => { results := [.lit (.bool false)], args := [d1, d2] }
  | _ => none }
def FnReplaceWrongFalsely : Prop := fnReplaceRow.holds Try.pinned (OpenSpec.ofChange fnReplaceWrong)

/-- 'laws.FnExactInputsValid': WHATEVER THE INPUT: true; the input reads as it did. -/
def fnExactInputsValidSpec : ChangeSpec := { name := "fnExactInputsValid", fn := fun _ => fun
  | [d1, d2] => { results := [.lit (.bool true)], args := [d1, d2] }
  | _ => none }
def fnExactInputsValidRow : OpenClaim := { program := "ytmofoeljajdhmaa", sum := "26cf7645d2aed7ef5d40d5b3fafe24049547e390384fdd5ebcad76442386f696", func := "loop.example/flatarrays/laws.FnExactInputsValid", spec := "fnExactInputsValid", unfollowed := true, recurses := true, plainKeys := false, apart := false }
def FnExactInputsValidSaid : Prop := fnExactInputsValidRow.holds Try.pinned (OpenSpec.ofChange fnExactInputsValidSpec)

/-- ITS FALSE NEIGHBOUR: 'it returns false'. Refute it at one input. -/
def fnExactInputsValidWrong : ChangeSpec := { name := "fnExactInputsValid", fn := fun _ => fun
  | [d1, d2] => { results := [.lit (.bool false)], args := [d1, d2] }
  | _ => none }
def FnExactInputsValidWrongFalsely : Prop := fnExactInputsValidRow.holds Try.pinned (OpenSpec.ofChange fnExactInputsValidWrong)

/-- 'laws.FnExactSortSegments': WHATEVER THE INPUT: true; the input reads as it did. -/
def fnExactSortSegmentsSpec : ChangeSpec := { name := "fnExactSortSegments", fn := fun _ => fun
  | [d1, d2] => { results := [.lit (.bool true)], args := [d1, d2] }
  | _ => none }
def fnExactSortSegmentsRow : OpenClaim := { program := "ytmofoeljajdhmaa", sum := "26cf7645d2aed7ef5d40d5b3fafe24049547e390384fdd5ebcad76442386f696", func := "loop.example/flatarrays/laws.FnExactSortSegments", spec := "fnExactSortSegments", unfollowed := true, recurses := true, plainKeys := false, apart := false }
def FnExactSortSegmentsSaid : Prop := fnExactSortSegmentsRow.holds Try.pinned (OpenSpec.ofChange fnExactSortSegmentsSpec)

/-- ITS FALSE NEIGHBOUR: 'it returns false'. Refute it at one input. -/
def fnExactSortSegmentsWrong : ChangeSpec := { name := "fnExactSortSegments", fn := fun _ => fun
  | [d1, d2] => { results := [.lit (.bool false)], args := [d1, d2] }
  | _ => none }
def FnExactSortSegmentsWrongFalsely : Prop := fnExactSortSegmentsRow.holds Try.pinned (OpenSpec.ofChange fnExactSortSegmentsWrong)

/-- 'laws.FnTurnSort': WHATEVER THE INPUT: true; the input reads as it did. -/
def fnTurnSortSpec : ChangeSpec := { name := "fnTurnSort", fn := fun _ => fun
  | [d] => { results := [.lit (.bool true)], args := [d] }
  | _ => none }
def fnTurnSortRow : OpenClaim := { program := "ytmofoeljajdhmaa", sum := "26cf7645d2aed7ef5d40d5b3fafe24049547e390384fdd5ebcad76442386f696", func := "loop.example/flatarrays/laws.FnTurnSort", spec := "fnTurnSort", unfollowed := true, recurses := true, plainKeys := false, apart := false }
def FnTurnSortSaid : Prop := fnTurnSortRow.holds Try.pinned (OpenSpec.ofChange fnTurnSortSpec)

/-- ITS FALSE NEIGHBOUR: 'it returns false'. Refute it at one input. -/
def fnTurnSortWrong : ChangeSpec := { name := "fnTurnSort", fn := fun _ => fun
  | [d] => { results := [.lit (.bool false)], args := [d] }
  | _ => none }
def FnTurnSortWrongFalsely : Prop := fnTurnSortRow.holds Try.pinned (OpenSpec.ofChange fnTurnSortWrong)

/-- 'laws.FnExactInnerOf': WHATEVER THE INPUT: true; the input reads as it did. -/
def fnExactInnerOfSpec : ChangeSpec := { name := "fnExactInnerOf", fn := fun _ => fun
  | [d] => { results := [.lit (.bool true)], args := [d] }
  | _ => none }
def fnExactInnerOfRow : OpenClaim := { program := "ytmofoeljajdhmaa", sum := "26cf7645d2aed7ef5d40d5b3fafe24049547e390384fdd5ebcad76442386f696", func := "loop.example/flatarrays/laws.FnExactInnerOf", spec := "fnExactInnerOf", recurses := true, plainKeys := false, apart := false }
def FnExactInnerOfSaid : Prop := fnExactInnerOfRow.holds Try.pinned (OpenSpec.ofChange fnExactInnerOfSpec)

/-- ITS FALSE NEIGHBOUR: 'it returns false'. Refute it at one input. -/
def fnExactInnerOfWrong : ChangeSpec := { name := "fnExactInnerOf", fn := fun _ => fun
  | [d] => { results := [.lit (.bool false)], args := [d] }
  | _ => none }
def FnExactInnerOfWrongFalsely : Prop := fnExactInnerOfRow.holds Try.pinned (OpenSpec.ofChange fnExactInnerOfWrong)

/-- 'laws.FnInner': WHATEVER THE INPUT: true; the input reads as it did. -/
def fnInnerSpec : ChangeSpec := { name := "fnInner", fn := fun _ => fun
  | [d1, d2] => { results := [.lit (.bool true)], args := [d1, d2] }
  | _ => none }
def fnInnerRow : OpenClaim := { program := "ytmofoeljajdhmaa", sum := "26cf7645d2aed7ef5d40d5b3fafe24049547e390384fdd5ebcad76442386f696", func := "loop.example/flatarrays/laws.FnInner", spec := "fnInner", recurses := true, plainKeys := false, apart := false }
def FnInnerSaid : Prop := fnInnerRow.holds Try.pinned (OpenSpec.ofChange fnInnerSpec)

/-- ITS FALSE NEIGHBOUR: 'it returns false'. Refute it at one input. -/
def fnInnerWrong : ChangeSpec := { name := "fnInner", fn := fun _ => fun
  | [d1, d2] => { results := [.lit (.bool false)], args := [d1, d2] }
  | _ => none }
def FnInnerWrongFalsely : Prop := fnInnerRow.holds Try.pinned (OpenSpec.ofChange fnInnerWrong)

/-- 'laws.FnExactArrayValid': WHATEVER THE INPUT: true; the input reads as it did. -/
def fnExactArrayValidSpec : ChangeSpec := { name := "fnExactArrayValid", fn := fun _ => fun
  | [d1, d2] => { results := [.lit (.bool true)], args := [d1, d2] }
  | _ => none }
def fnExactArrayValidRow : OpenClaim := { program := "ytmofoeljajdhmaa", sum := "26cf7645d2aed7ef5d40d5b3fafe24049547e390384fdd5ebcad76442386f696", func := "loop.example/flatarrays/laws.FnExactArrayValid", spec := "fnExactArrayValid", unfollowed := true, recurses := true, plainKeys := false, apart := false }
def FnExactArrayValidSaid : Prop := fnExactArrayValidRow.holds Try.pinned (OpenSpec.ofChange fnExactArrayValidSpec)

/-- ITS FALSE NEIGHBOUR: 'it returns false'. Refute it at one input. -/
def fnExactArrayValidWrong : ChangeSpec := { name := "fnExactArrayValid", fn := fun _ => fun
  | [d1, d2] => { results := [.lit (.bool false)], args := [d1, d2] }
  | _ => none }
def FnExactArrayValidWrongFalsely : Prop := fnExactArrayValidRow.holds Try.pinned (OpenSpec.ofChange fnExactArrayValidWrong)

/-- 'laws.FnExactTermValid': WHATEVER THE INPUT: true; the input reads as it did. -/
def fnExactTermValidSpec : ChangeSpec := { name := "fnExactTermValid", fn := fun _ => fun
  | [d] => { results := [.lit (.bool true)], args := [d] }
  | _ => none }
def fnExactTermValidRow : OpenClaim := { program := "ytmofoeljajdhmaa", sum := "26cf7645d2aed7ef5d40d5b3fafe24049547e390384fdd5ebcad76442386f696", func := "loop.example/flatarrays/laws.FnExactTermValid", spec := "fnExactTermValid", inPlace := ["internal/bytealg.IndexByteString"], unfollowed := true, recurses := true, plainKeys := false, apart := false }
def FnExactTermValidSaid : Prop := fnExactTermValidRow.holds Try.pinned (OpenSpec.ofChange fnExactTermValidSpec)

/-- ITS FALSE NEIGHBOUR: 'it returns false'. Refute it at one input. -/
def fnExactTermValidWrong : ChangeSpec := { name := "fnExactTermValid", fn := fun _ => fun
  | [d] => { results := [.lit (.bool false)], args := [d] }
  | _ => none }
def FnExactTermValidWrongFalsely : Prop := fnExactTermValidRow.holds Try.pinned (OpenSpec.ofChange fnExactTermValidWrong)

/- THE SECOND FORM. 'bulk': how many values and letters a reading holds, each counted each time it is reached (what is shared counts as often as it is met; a slice's spare places count too). A statement '..UptoSaid' is the law's where the arguments, and the package variables that the reading takes, are together of bulk at most 1048576: NARROWER than '..Said'. Prove '..Said' where nothing that the law and all that it calls make is longer than what came in: it says more and counts as full. Else prove '..UptoSaid'. A law counts once. -/
mutual
def uptoBulk {H : Type} : DataW H → Nat
  | .lit (.string bytes) => bytes.length + 1
  | .lit _ => 1
  | .nil => 1
  | .ptr d => uptoBulk d + 1
  | .slice elems spare => uptoBulkAll elems + uptoBulkAll spare + 1
  | .agg parts => uptoBulkAll parts + 1
  | .iface _ d => uptoBulk d + 1
  | .map entries => uptoBulkEntries entries + 1
  | .held _ => 1
def uptoBulkAll {H : Type} : List (DataW H) → Nat
  | [] => 0
  | d :: r => uptoBulk d + uptoBulkAll r
def uptoBulkEntries {H : Type} : List (Lit × DataW H) → Nat
  | [] => 0
  | x :: r => uptoBulkEntry x + uptoBulkEntries r
def uptoBulkEntry {H : Type} : Lit × DataW H → Nat
  | (.string bytes, d) => bytes.length + uptoBulk d + 1
  | (_, d) => uptoBulk d + 1
 end
def uptoSmall : (H : Type) → List (DataW H) → Bool := fun _ ds => decide (uptoBulkAll ds ≤ 1048576)
def OpenSpec.upto (s : _root_.Go.ChangeSpec) : _root_.Go.OpenSpec := { _root_.Go.OpenSpec.ofChange s with cond := some uptoSmall }

/-- 'laws.FnExactFreeVars', WHERE WHAT IT READS IS OF BULK AT MOST 1048576: true; the input reads as it did. -/
def fnExactFreeVarsUptoRow : OpenClaim := { program := "ytmofoeljajdhmaa", sum := "26cf7645d2aed7ef5d40d5b3fafe24049547e390384fdd5ebcad76442386f696", func := "loop.example/flatarrays/laws.FnExactFreeVars", spec := "fnExactFreeVars", inPlace := ["internal/bytealg.IndexByteString"], unfollowed := true, recurses := true, plainKeys := false, apart := false, narrowed := true }
def FnExactFreeVarsUptoSaid : Prop := fnExactFreeVarsUptoRow.holds Try.pinned (OpenSpec.upto fnExactFreeVarsSpec)

/-- 'laws.FnExactReplaceVar', WHERE WHAT IT READS IS OF BULK AT MOST 1048576: true; the input reads as it did. -/
def fnExactReplaceVarUptoRow : OpenClaim := { program := "ytmofoeljajdhmaa", sum := "26cf7645d2aed7ef5d40d5b3fafe24049547e390384fdd5ebcad76442386f696", func := "loop.example/flatarrays/laws.FnExactReplaceVar", spec := "fnExactReplaceVar", inPlace := ["internal/bytealg.IndexByteString"], unfollowed := true, recurses := true, plainKeys := false, apart := false, narrowed := true }
def FnExactReplaceVarUptoSaid : Prop := fnExactReplaceVarUptoRow.holds Try.pinned (OpenSpec.upto fnExactReplaceVarSpec)

/-- 'laws.FnParts', WHERE WHAT IT READS IS OF BULK AT MOST 1048576: true; the input reads as it did. -/
def fnPartsUptoRow : OpenClaim := { program := "ytmofoeljajdhmaa", sum := "26cf7645d2aed7ef5d40d5b3fafe24049547e390384fdd5ebcad76442386f696", func := "loop.example/flatarrays/laws.FnParts", spec := "fnParts", inPlace := ["internal/bytealg.IndexByteString"], unfollowed := true, recurses := true, plainKeys := false, apart := false, narrowed := true }
def FnPartsUptoSaid : Prop := fnPartsUptoRow.holds Try.pinned (OpenSpec.upto fnPartsSpec)

/-- 'laws.FnDepth', WHERE WHAT IT READS IS OF BULK AT MOST 1048576: true; the input reads as it did. -/
def fnDepthUptoRow : OpenClaim := { program := "ytmofoeljajdhmaa", sum := "26cf7645d2aed7ef5d40d5b3fafe24049547e390384fdd5ebcad76442386f696", func := "loop.example/flatarrays/laws.FnDepth", spec := "fnDepth", inPlace := ["internal/bytealg.IndexByteString", "maps.clone"], unfollowed := true, recurses := true, plainKeys := false, apart := false, narrowed := true }
def FnDepthUptoSaid : Prop := fnDepthUptoRow.holds Try.pinned (OpenSpec.upto fnDepthSpec)

/-- 'laws.FnReplace', WHERE WHAT IT READS IS OF BULK AT MOST 1048576: true; the input reads as it did. -/
def fnReplaceUptoRow : OpenClaim := { program := "ytmofoeljajdhmaa", sum := "26cf7645d2aed7ef5d40d5b3fafe24049547e390384fdd5ebcad76442386f696", func := "loop.example/flatarrays/laws.FnReplace", spec := "fnReplace", inPlace := ["internal/bytealg.IndexByteString", "maps.clone"], unfollowed := true, recurses := true, plainKeys := false, apart := false, narrowed := true }
def FnReplaceUptoSaid : Prop := fnReplaceUptoRow.holds Try.pinned (OpenSpec.upto fnReplaceSpec)

/-- 'laws.FnExactInputsValid', WHERE WHAT IT READS IS OF BULK AT MOST 1048576: true; the input reads as it did. -/
def fnExactInputsValidUptoRow : OpenClaim := { program := "ytmofoeljajdhmaa", sum := "26cf7645d2aed7ef5d40d5b3fafe24049547e390384fdd5ebcad76442386f696", func := "loop.example/flatarrays/laws.FnExactInputsValid", spec := "fnExactInputsValid", unfollowed := true, recurses := true, plainKeys := false, apart := false, narrowed := true }
def FnExactInputsValidUptoSaid : Prop := fnExactInputsValidUptoRow.holds Try.pinned (OpenSpec.upto fnExactInputsValidSpec)

/-- 'laws.FnExactSortSegments', WHERE WHAT IT READS IS OF BULK AT MOST 1048576: true; the input reads as it did. -/
def fnExactSortSegmentsUptoRow : OpenClaim := { program := "ytmofoeljajdhmaa", sum := "26cf7645d2aed7ef5d40d5b3fafe24049547e390384fdd5ebcad76442386f696", func := "loop.example/flatarrays/laws.FnExactSortSegments", spec := "fnExactSortSegments", unfollowed := true, recurses := true, plainKeys := false, apart := false, narrowed := true }
def FnExactSortSegmentsUptoSaid : Prop := fnExactSortSegmentsUptoRow.holds Try.pinned (OpenSpec.upto fnExactSortSegmentsSpec)

/-- 'laws.FnTurnSort', WHERE WHAT IT READS IS OF BULK AT MOST 1048576: true; the input reads as it did. -/
def fnTurnSortUptoRow : OpenClaim := { program := "ytmofoeljajdhmaa", sum := "26cf7645d2aed7ef5d40d5b3fafe24049547e390384fdd5ebcad76442386f696", func := "loop.example/flatarrays/laws.FnTurnSort", spec := "fnTurnSort", unfollowed := true, recurses := true, plainKeys := false, apart := false, narrowed := true }
def FnTurnSortUptoSaid : Prop := fnTurnSortUptoRow.holds Try.pinned (OpenSpec.upto fnTurnSortSpec)

/-- 'laws.FnExactInnerOf', WHERE WHAT IT READS IS OF BULK AT MOST 1048576: true; the input reads as it did. -/
def fnExactInnerOfUptoRow : OpenClaim := { program := "ytmofoeljajdhmaa", sum := "26cf7645d2aed7ef5d40d5b3fafe24049547e390384fdd5ebcad76442386f696", func := "loop.example/flatarrays/laws.FnExactInnerOf", spec := "fnExactInnerOf", recurses := true, plainKeys := false, apart := false, narrowed := true }
def FnExactInnerOfUptoSaid : Prop := fnExactInnerOfUptoRow.holds Try.pinned (OpenSpec.upto fnExactInnerOfSpec)

/-- 'laws.FnInner', WHERE WHAT IT READS IS OF BULK AT MOST 1048576: true; the input reads as it did. -/
def fnInnerUptoRow : OpenClaim := { program := "ytmofoeljajdhmaa", sum := "26cf7645d2aed7ef5d40d5b3fafe24049547e390384fdd5ebcad76442386f696", func := "loop.example/flatarrays/laws.FnInner", spec := "fnInner", recurses := true, plainKeys := false, apart := false, narrowed := true }
def FnInnerUptoSaid : Prop := fnInnerUptoRow.holds Try.pinned (OpenSpec.upto fnInnerSpec)

/-- 'laws.FnExactArrayValid', WHERE WHAT IT READS IS OF BULK AT MOST 1048576: true; the input reads as it did. -/
def fnExactArrayValidUptoRow : OpenClaim := { program := "ytmofoeljajdhmaa", sum := "26cf7645d2aed7ef5d40d5b3fafe24049547e390384fdd5ebcad76442386f696", func := "loop.example/flatarrays/laws.FnExactArrayValid", spec := "fnExactArrayValid", unfollowed := true, recurses := true, plainKeys := false, apart := false, narrowed := true }
def FnExactArrayValidUptoSaid : Prop := fnExactArrayValidUptoRow.holds Try.pinned (OpenSpec.upto fnExactArrayValidSpec)

/-- 'laws.FnExactTermValid', WHERE WHAT IT READS IS OF BULK AT MOST 1048576: true; the input reads as it did. -/
def fnExactTermValidUptoRow : OpenClaim := { program := "ytmofoeljajdhmaa", sum := "26cf7645d2aed7ef5d40d5b3fafe24049547e390384fdd5ebcad76442386f696", func := "loop.example/flatarrays/laws.FnExactTermValid", spec := "fnExactTermValid", inPlace := ["internal/bytealg.IndexByteString"], unfollowed := true, recurses := true, plainKeys := false, apart := false, narrowed := true }
def FnExactTermValidUptoSaid : Prop := fnExactTermValidUptoRow.holds Try.pinned (OpenSpec.upto fnExactTermValidSpec)

end Rows
end Go.Proofs.Ytmofoeljajdhmaa
