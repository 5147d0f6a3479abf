/-
  No cell of these rows narrows 'for every input' (looked for: loops, veiled, ifaces, maps, wideKeys, modest, calm, conditions, laid).
  DERIVED. THE GIVEN ROWS OF THIS SEAT. 6 by the template 'for every input the law returns true; each argument reads behind the call as it read before'; 0 by the template 'total and deterministic' (their statements: YtppkchcoaolhhaaTotals.lean).
  GIVEN WITH THE SEED: the statements are not yours to turn. If you find one false, say at which input.
  Laid BY PROGRAM, IN A SANDBOX (cutbox-rows.mjs): the forced cells as the released guide's own fill.sh prints them over the translation 55624d63acf00e71… (all of the seat's roots in one cut). By AI agents, Wed Nov 11 2026. No macro, syntax, notation, axiom, sorry.
-/
import Derived.Test.YtppkchcoaolhhaaChecked
import GoSem.Claim
import GoSem.ClaimJoined
import GoSem.ClaimMapViews
import Derived.JoinedTies
import Derived.KernelRfl
namespace Go.Proofs.Ytppkchcoaolhhaa
/- THE CELL 'sum', in the pinned program and in every row, IS THE sha256 OF THE DUMP (.gsa) THAT YtppkchcoaolhhaaProg.lean LOADS. Nothing in Lean hashes anything: it is a label: what it is worth is what the hold of that sum in a sandbox is worth. -/
noncomputable def Try.pinned : Pinned := { name := "ytppkchcoaolhhaa", sum := "55624d63acf00e718e46d84bcd4a4bc9fcc14d7974d35bfd9bd2b58e5039ee61", checked := Try.checked }
namespace Rows
def none {H : Type} : Left H := { results := [], args := [] }

/-- 'laws.FnInner': WHATEVER THE INPUT: true; the input reads as it did. -/
def fnInnerSpec : ChangeSpec := { name := "fnInner", fn := fun _ => fun
  | [d1, d2] => { results := [.lit (.bool true)], args := [d1, d2] }
  | _ => none }
def fnInnerRow : OpenClaim := { program := "ytppkchcoaolhhaa", sum := "55624d63acf00e718e46d84bcd4a4bc9fcc14d7974d35bfd9bd2b58e5039ee61", func := "loop.example/flatarrays/laws.FnInner", spec := "fnInner", recurses := true, apart := false }
def FnInnerSaid : Prop := fnInnerRow.holds Try.pinned (OpenSpec.ofChange fnInnerSpec)

/-- ITS FALSE NEIGHBOUR: 'it returns false'. Refute it at one input. -/
def fnInnerWrong : ChangeSpec := { name := "fnInner", fn := fun _ => fun
  | [d1, d2] => { results := [.lit (.bool false)], args := [d1, d2] }
  | _ => none }
def FnInnerWrongFalsely : Prop := fnInnerRow.holds Try.pinned (OpenSpec.ofChange fnInnerWrong)

/-- 'laws.FnExactLayoutValid': WHATEVER THE INPUT: true; the input reads as it did. -/
def fnExactLayoutValidSpec : ChangeSpec := { name := "fnExactLayoutValid", fn := fun _ => fun
  | [d] => { results := [.lit (.bool true)], args := [d] }
  | _ => none }
def fnExactLayoutValidRow : OpenClaim := { program := "ytppkchcoaolhhaa", sum := "55624d63acf00e718e46d84bcd4a4bc9fcc14d7974d35bfd9bd2b58e5039ee61", func := "loop.example/flatarrays/laws.FnExactLayoutValid", spec := "fnExactLayoutValid", apart := false }
def FnExactLayoutValidSaid : Prop := fnExactLayoutValidRow.holds Try.pinned (OpenSpec.ofChange fnExactLayoutValidSpec)

/-- ITS FALSE NEIGHBOUR: 'it returns false'. Refute it at one input. -/
def fnExactLayoutValidWrong : ChangeSpec := { name := "fnExactLayoutValid", fn := fun _ => fun
  | [d] => { results := [.lit (.bool false)], args := [d] }
  | _ => none }
def FnExactLayoutValidWrongFalsely : Prop := fnExactLayoutValidRow.holds Try.pinned (OpenSpec.ofChange fnExactLayoutValidWrong)

/-- 'laws.FnExactLayOut': WHATEVER THE INPUT: true; the input reads as it did. -/
def fnExactLayOutSpec : ChangeSpec := { name := "fnExactLayOut", fn := fun _ => fun
  | [d1, d2] => { results := [.lit (.bool true)], args := [d1, d2] }
  | _ => none }
def fnExactLayOutRow : OpenClaim := { program := "ytppkchcoaolhhaa", sum := "55624d63acf00e718e46d84bcd4a4bc9fcc14d7974d35bfd9bd2b58e5039ee61", func := "loop.example/flatarrays/laws.FnExactLayOut", spec := "fnExactLayOut", unfollowed := true, recurses := true, apart := false }
def FnExactLayOutSaid : Prop := fnExactLayOutRow.holds Try.pinned (OpenSpec.ofChange fnExactLayOutSpec)

/-- ITS FALSE NEIGHBOUR: 'it returns false'. Refute it at one input. -/
def fnExactLayOutWrong : ChangeSpec := { name := "fnExactLayOut", fn := fun _ => fun
  | [d1, d2] => { results := [.lit (.bool false)], args := [d1, d2] }
  | _ => none }
def FnExactLayOutWrongFalsely : Prop := fnExactLayOutRow.holds Try.pinned (OpenSpec.ofChange fnExactLayOutWrong)

/-- 'laws.FnExactWhatIsWrong': WHATEVER THE INPUT: true; the input reads as it did. -/
def fnExactWhatIsWrongSpec : ChangeSpec := { name := "fnExactWhatIsWrong", fn := fun _ => fun
  | [d] => { results := [.lit (.bool true)], args := [d] }
  | _ => none }
def fnExactWhatIsWrongRow : OpenClaim := { program := "ytppkchcoaolhhaa", sum := "55624d63acf00e718e46d84bcd4a4bc9fcc14d7974d35bfd9bd2b58e5039ee61", func := "loop.example/flatarrays/laws.FnExactWhatIsWrong", spec := "fnExactWhatIsWrong", apart := false }
def FnExactWhatIsWrongSaid : Prop := fnExactWhatIsWrongRow.holds Try.pinned (OpenSpec.ofChange fnExactWhatIsWrongSpec)

/-- ITS FALSE NEIGHBOUR: 'it returns false'. Refute it at one input. -/
def fnExactWhatIsWrongWrong : ChangeSpec := { name := "fnExactWhatIsWrong", fn := fun _ => fun
  | [d] => { results := [.lit (.bool false)], args := [d] }
  | _ => none }
def FnExactWhatIsWrongWrongFalsely : Prop := fnExactWhatIsWrongRow.holds Try.pinned (OpenSpec.ofChange fnExactWhatIsWrongWrong)

/-- 'laws.FnExactInnerOf': WHATEVER THE INPUT: true; the input reads as it did. -/
def fnExactInnerOfSpec : ChangeSpec := { name := "fnExactInnerOf", fn := fun _ => fun
  | [d] => { results := [.lit (.bool true)], args := [d] }
  | _ => none }
def fnExactInnerOfRow : OpenClaim := { program := "ytppkchcoaolhhaa", sum := "55624d63acf00e718e46d84bcd4a4bc9fcc14d7974d35bfd9bd2b58e5039ee61", func := "loop.example/flatarrays/laws.FnExactInnerOf", spec := "fnExactInnerOf", recurses := true, apart := false }
def FnExactInnerOfSaid : Prop := fnExactInnerOfRow.holds Try.pinned (OpenSpec.ofChange fnExactInnerOfSpec)

/-- ITS FALSE NEIGHBOUR: 'it returns false'. Refute it at one input. -/
def fnExactInnerOfWrong : ChangeSpec := { name := "fnExactInnerOf", fn := fun _ => fun
  | [d] => { results := [.lit (.bool false)], args := [d] }
  | _ => none }
def FnExactInnerOfWrongFalsely : Prop := fnExactInnerOfRow.holds Try.pinned (OpenSpec.ofChange fnExactInnerOfWrong)

/-- 'laws.FnExactPlaceOf': WHATEVER THE INPUT: true; the input reads as it did. -/
def fnExactPlaceOfSpec : ChangeSpec := { name := "fnExactPlaceOf", fn := fun _ => fun
  | [d1, d2] => { results := [.lit (.bool true)], args := [d1, d2] }
  | _ => none }
def fnExactPlaceOfRow : OpenClaim := { program := "ytppkchcoaolhhaa", sum := "55624d63acf00e718e46d84bcd4a4bc9fcc14d7974d35bfd9bd2b58e5039ee61", func := "loop.example/flatarrays/laws.FnExactPlaceOf", spec := "fnExactPlaceOf", apart := false }
def FnExactPlaceOfSaid : Prop := fnExactPlaceOfRow.holds Try.pinned (OpenSpec.ofChange fnExactPlaceOfSpec)

/-- ITS FALSE NEIGHBOUR: 'it returns false'. Refute it at one input. -/
def fnExactPlaceOfWrong : ChangeSpec := { name := "fnExactPlaceOf", fn := fun _ => fun
  | [d1, d2] => { results := [.lit (.bool false)], args := [d1, d2] }
  | _ => none }
def FnExactPlaceOfWrongFalsely : Prop := fnExactPlaceOfRow.holds Try.pinned (OpenSpec.ofChange fnExactPlaceOfWrong)

/- THE SECOND FORM. 'bulk': how many values and letters a reading holds, each counted each time it is reached (what is shared counts as often as it is met; a slice's spare places count too). A statement '..UptoSaid' is the law's where the arguments, and the package variables that the reading takes, are together of bulk at most 1048576: NARROWER than '..Said'. Prove '..Said' where nothing that the law and all that it calls make is longer than what came in: it says more and counts as full. Else prove '..UptoSaid'. A law counts once. -/
mutual
def uptoBulk {H : Type} : DataW H → Nat
  | .lit (.string bytes) => bytes.length + 1
  | .lit _ => 1
  | .nil => 1
  | .ptr d => uptoBulk d + 1
  | .slice elems spare => uptoBulkAll elems + uptoBulkAll spare + 1
  | .agg parts => uptoBulkAll parts + 1
  | .iface _ d => uptoBulk d + 1
  | .map entries => uptoBulkEntries entries + 1
  | .held _ => 1
def uptoBulkAll {H : Type} : List (DataW H) → Nat
  | [] => 0
  | d :: r => uptoBulk d + uptoBulkAll r
def uptoBulkEntries {H : Type} : List (Lit × DataW H) → Nat
  | [] => 0
  | x :: r => uptoBulkEntry x + uptoBulkEntries r
def uptoBulkEntry {H : Type} : Lit × DataW H → Nat
  | (.string bytes, d) => bytes.length + uptoBulk d + 1
  | (_, d) => uptoBulk d + 1
 end
def uptoSmall : (H : Type) → List (DataW H) → Bool := fun _ ds => decide (uptoBulkAll ds ≤ 1048576)
def OpenSpec.upto (s : _root_.Go.ChangeSpec) : _root_.Go.OpenSpec := { _root_.Go.OpenSpec.ofChange s with cond := some uptoSmall }

/-- 'laws.FnInner', WHERE WHAT IT READS IS OF BULK AT MOST 1048576: true; the input reads as it did. -/
def fnInnerUptoRow : OpenClaim := { program := "ytppkchcoaolhhaa", sum := "55624d63acf00e718e46d84bcd4a4bc9fcc14d7974d35bfd9bd2b58e5039ee61", func := "loop.example/flatarrays/laws.FnInner", spec := "fnInner", recurses := true, apart := false, narrowed := true }
def FnInnerUptoSaid : Prop := fnInnerUptoRow.holds Try.pinned (OpenSpec.upto fnInnerSpec)

/-- 'laws.FnExactLayoutValid', WHERE WHAT IT READS IS OF BULK AT MOST 1048576: true; the input reads as it did. -/
def fnExactLayoutValidUptoRow : OpenClaim := { program := "ytppkchcoaolhhaa", sum := "55624d63acf00e718e46d84bcd4a4bc9fcc14d7974d35bfd9bd2b58e5039ee61", func := "loop.example/flatarrays/laws.FnExactLayoutValid", spec := "fnExactLayoutValid", apart := false, narrowed := true }
def FnExactLayoutValidUptoSaid : Prop := fnExactLayoutValidUptoRow.holds Try.pinned (OpenSpec.upto fnExactLayoutValidSpec)

/-- 'laws.FnExactLayOut', WHERE WHAT IT READS IS OF BULK AT MOST 1048576: true; the input reads as it did. -/
def fnExactLayOutUptoRow : OpenClaim := { program := "ytppkchcoaolhhaa", sum := "55624d63acf00e718e46d84bcd4a4bc9fcc14d7974d35bfd9bd2b58e5039ee61", func := "loop.example/flatarrays/laws.FnExactLayOut", spec := "fnExactLayOut", unfollowed := true, recurses := true, apart := false, narrowed := true }
def FnExactLayOutUptoSaid : Prop := fnExactLayOutUptoRow.holds Try.pinned (OpenSpec.upto fnExactLayOutSpec)

/-- 'laws.FnExactWhatIsWrong', WHERE WHAT IT READS IS OF BULK AT MOST 1048576: true; the input reads as it did. -/
def fnExactWhatIsWrongUptoRow : OpenClaim := { program := "ytppkchcoaolhhaa", sum := "55624d63acf00e718e46d84bcd4a4bc9fcc14d7974d35bfd9bd2b58e5039ee61", func := "loop.example/flatarrays/laws.FnExactWhatIsWrong", spec := "fnExactWhatIsWrong", apart := false, narrowed := true }
def FnExactWhatIsWrongUptoSaid : Prop := fnExactWhatIsWrongUptoRow.holds Try.pinned (OpenSpec.upto fnExactWhatIsWrongSpec)

/-- 'laws.FnExactInnerOf', WHERE WHAT IT READS IS OF BULK AT MOST 1048576: true; the input reads as it did. -/
def fnExactInnerOfUptoRow : OpenClaim := { program := "ytppkchcoaolhhaa", sum := "55624d63acf00e718e46d84bcd4a4bc9fcc14d7974d35bfd9bd2b58e5039ee61", func := "loop.example/flatarrays/laws.FnExactInnerOf", spec := "fnExactInnerOf", recurses := true, apart := false, narrowed := true }
def FnExactInnerOfUptoSaid : Prop := fnExactInnerOfUptoRow.holds Try.pinned (OpenSpec.upto fnExactInnerOfSpec)

/-- 'laws.FnExactPlaceOf', WHERE WHAT IT READS IS OF BULK AT MOST 1048576: true; the input reads as it did. -/
def fnExactPlaceOfUptoRow : OpenClaim := { program := "ytppkchcoaolhhaa", sum := "55624d63acf00e718e46d84bcd4a4bc9fcc14d7974d35bfd9bd2b58e5039ee61", func := "loop.example/flatarrays/laws.FnExactPlaceOf", spec := "fnExactPlaceOf", apart := false, narrowed := true }
def FnExactPlaceOfUptoSaid : Prop := fnExactPlaceOfUptoRow.holds Try.pinned (OpenSpec.upto fnExactPlaceOfSpec)

end Rows
end Go.Proofs.Ytppkchcoaolhhaa
