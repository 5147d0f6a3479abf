/-
  No cell of these rows narrows 'for every input' (looked for: loops, veiled, ifaces, maps, wideKeys, modest, calm, conditions, laid).
  DERIVED. THE GIVEN ROWS OF THIS SEAT. 4 by the template 'for every input the law returns true; each argument reads behind the call as it read before'; 0 by the template 'total and deterministic' (their statements: YtdfanconjiiceaaTotals.lean).
  GIVEN WITH THE SEED: the statements are not yours to turn. If you find one false, say at which input.
  Laid BY PROGRAM, IN A SANDBOX (cutbox-rows.mjs): the forced cells as the released guide's own fill.sh prints them over the translation bb12cb9d347eb97b… (all of the seat's roots in one cut). By AI agents, Wed Nov 11 2026. No macro, syntax, notation, axiom, sorry.
-/
import Derived.Test.YtdfanconjiiceaaChecked
import GoSem.Claim
import GoSem.ClaimJoined
import GoSem.ClaimMapViews
import Derived.JoinedTies
import Derived.KernelRfl
namespace Go.Proofs.Ytdfanconjiiceaa
/- THE CELL 'sum', in the pinned program and in every row, IS THE sha256 OF THE DUMP (.gsa) THAT YtdfanconjiiceaaProg.lean LOADS. Nothing in Lean hashes anything: it is a label: what it is worth is what the hold of that sum in a sandbox is worth. -/
noncomputable def Try.pinned : Pinned := { name := "ytdfanconjiiceaa", sum := "bb12cb9d347eb97b00371d8a65d71eab4e102c2f81bd9787b6062383f5fb7741", checked := Try.checked }
namespace Rows
def none {H : Type} : Left H := { results := [], args := [] }

/-- 'laws.FnExactLayOut': WHATEVER THE INPUT: true; the input reads as it did. -/
def fnExactLayOutSpec : ChangeSpec := { name := "fnExactLayOut", fn := fun _ => fun
  | [d1, d2] => { results := [.lit (.bool true)], args := [d1, d2] }
  | _ => none }
def fnExactLayOutRow : OpenClaim := { program := "ytdfanconjiiceaa", sum := "bb12cb9d347eb97b00371d8a65d71eab4e102c2f81bd9787b6062383f5fb7741", func := "loop.example/flatarrays/laws.FnExactLayOut", spec := "fnExactLayOut", unfollowed := true, recurses := true, apart := false }
def FnExactLayOutSaid : Prop := fnExactLayOutRow.holds Try.pinned (OpenSpec.ofChange fnExactLayOutSpec)

/-- ITS FALSE NEIGHBOUR: 'it returns false'. Refute it at one input. -/
def fnExactLayOutWrong : ChangeSpec := { name := "fnExactLayOut", fn := fun _ => fun
  | [d1, d2] => { results := [.lit (.bool false)], args := [d1, d2] }
  | _ => none }
def FnExactLayOutWrongFalsely : Prop := fnExactLayOutRow.holds Try.pinned (OpenSpec.ofChange fnExactLayOutWrong)

/-- 'laws.FnExactPackVector': WHATEVER THE INPUT: true; the input reads as it did. -/
def fnExactPackVectorSpec : ChangeSpec := { name := "fnExactPackVector", fn := fun _ => fun
  | [d1, d2] => { results := [.lit (.bool true)], args := [d1, d2] }
  | _ => none }
def fnExactPackVectorRow : OpenClaim := { program := "ytdfanconjiiceaa", sum := "bb12cb9d347eb97b00371d8a65d71eab4e102c2f81bd9787b6062383f5fb7741", func := "loop.example/flatarrays/laws.FnExactPackVector", spec := "fnExactPackVector", unfollowed := true, recurses := true, apart := false }
def FnExactPackVectorSaid : Prop := fnExactPackVectorRow.holds Try.pinned (OpenSpec.ofChange fnExactPackVectorSpec)

/-- ITS FALSE NEIGHBOUR: 'it returns false'. Refute it at one input. -/
def fnExactPackVectorWrong : ChangeSpec := { name := "fnExactPackVector", fn := fun _ => fun
  | [d1, d2] => { results := [.lit (.bool false)], args := [d1, d2] }
  | _ => none }
def FnExactPackVectorWrongFalsely : Prop := fnExactPackVectorRow.holds Try.pinned (OpenSpec.ofChange fnExactPackVectorWrong)

/-- 'laws.FnExactPickVector': WHATEVER THE INPUT: true; the input reads as it did. -/
def fnExactPickVectorSpec : ChangeSpec := { name := "fnExactPickVector", fn := fun _ => fun
  | [d1, d2] => { results := [.lit (.bool true)], args := [d1, d2] }
  | _ => none }
def fnExactPickVectorRow : OpenClaim := { program := "ytdfanconjiiceaa", sum := "bb12cb9d347eb97b00371d8a65d71eab4e102c2f81bd9787b6062383f5fb7741", func := "loop.example/flatarrays/laws.FnExactPickVector", spec := "fnExactPickVector", recurses := true, apart := false }
def FnExactPickVectorSaid : Prop := fnExactPickVectorRow.holds Try.pinned (OpenSpec.ofChange fnExactPickVectorSpec)

/-- ITS FALSE NEIGHBOUR: 'it returns false'. Refute it at one input. -/
def fnExactPickVectorWrong : ChangeSpec := { name := "fnExactPickVector", fn := fun _ => fun
  | [d1, d2] => { results := [.lit (.bool false)], args := [d1, d2] }
  | _ => none }
def FnExactPickVectorWrongFalsely : Prop := fnExactPickVectorRow.holds Try.pinned (OpenSpec.ofChange fnExactPickVectorWrong)

/-- 'laws.FnInner': WHATEVER THE INPUT: true; the input reads as it did. -/
def fnInnerSpec : ChangeSpec := { name := "fnInner", fn := fun _ => fun
  | [d1, d2] => { results := [.lit (.bool true)], args := [d1, d2] }
  | _ => none }
def fnInnerRow : OpenClaim := { program := "ytdfanconjiiceaa", sum := "bb12cb9d347eb97b00371d8a65d71eab4e102c2f81bd9787b6062383f5fb7741", func := "loop.example/flatarrays/laws.FnInner", spec := "fnInner", recurses := true, apart := false }
def FnInnerSaid : Prop := fnInnerRow.holds Try.pinned (OpenSpec.ofChange fnInnerSpec)

/-- ITS FALSE NEIGHBOUR: 'it returns false'. Refute it at one input. -/
def fnInnerWrong : ChangeSpec := { name := "fnInner", fn := fun _ => fun
  | [d1, d2] => { results := [.lit (.bool false)], args := [d1, d2] }
  | _ => none }
def FnInnerWrongFalsely : Prop := fnInnerRow.holds Try.pinned (OpenSpec.ofChange fnInnerWrong)

/- THE SECOND FORM. 'bulk': how many values and letters a reading holds, each counted each time it is reached (what is shared counts as often as it is met; a slice's spare places count too). A statement '..UptoSaid' is the law's where the arguments, and the package variables that the reading takes, are together of bulk at most 1048576: NARROWER than '..Said'. Prove '..Said' where nothing that the law and all that it calls make is longer than what came in: it says more and counts as full. Else prove '..UptoSaid'. A law counts once. -/
mutual
def uptoBulk {H : Type} : DataW H → Nat
  | .lit (.string bytes) => bytes.length + 1
  | .lit _ => 1
  | .nil => 1
  | .ptr d => uptoBulk d + 1
  | .slice elems spare => uptoBulkAll elems + uptoBulkAll spare + 1
  | .agg parts => uptoBulkAll parts + 1
  | .iface _ d => uptoBulk d + 1
  | .map entries => uptoBulkEntries entries + 1
  | .held _ => 1
def uptoBulkAll {H : Type} : List (DataW H) → Nat
  | [] => 0
  | d :: r => uptoBulk d + uptoBulkAll r
def uptoBulkEntries {H : Type} : List (Lit × DataW H) → Nat
  | [] => 0
  | x :: r => uptoBulkEntry x + uptoBulkEntries r
def uptoBulkEntry {H : Type} : Lit × DataW H → Nat
  | (.string bytes, d) => bytes.length + uptoBulk d + 1
  | (_, d) => uptoBulk d + 1
 end
def uptoSmall : (H : Type) → List (DataW H) → Bool := fun _ ds => decide (uptoBulkAll ds ≤ 1048576)
def OpenSpec.upto (s : _root_.Go.ChangeSpec) : _root_.Go.OpenSpec := { _root_.Go.OpenSpec.ofChange s with cond := some uptoSmall }

/-- 'laws.FnExactLayOut', WHERE WHAT IT READS IS OF BULK AT MOST 1048576: true; the input reads as it did. -/
def fnExactLayOutUptoRow : OpenClaim := { program := "ytdfanconjiiceaa", sum := "bb12cb9d347eb97b00371d8a65d71eab4e102c2f81bd9787b6062383f5fb7741", func := "loop.example/flatarrays/laws.FnExactLayOut", spec := "fnExactLayOut", unfollowed := true, recurses := true, apart := false, narrowed := true }
def FnExactLayOutUptoSaid : Prop := fnExactLayOutUptoRow.holds Try.pinned (OpenSpec.upto fnExactLayOutSpec)

/-- 'laws.FnExactPackVector', WHERE WHAT IT READS IS OF BULK AT MOST 1048576: true; the input reads as it did. -/
def fnExactPackVectorUptoRow : OpenClaim := { program := "ytdfanconjiiceaa", sum := "bb12cb9d347eb97b00371d8a65d71eab4e102c2f81bd9787b6062383f5fb7741", func := "loop.example/flatarrays/laws.FnExactPackVector", spec := "fnExactPackVector", unfollowed := true, recurses := true, apart := false, narrowed := true }
def FnExactPackVectorUptoSaid : Prop := fnExactPackVectorUptoRow.holds Try.pinned (OpenSpec.upto fnExactPackVectorSpec)

/-- 'laws.FnExactPickVector', WHERE WHAT IT READS IS OF BULK AT MOST 1048576: true; the input reads as it did. -/
def fnExactPickVectorUptoRow : OpenClaim := { program := "ytdfanconjiiceaa", sum := "bb12cb9d347eb97b00371d8a65d71eab4e102c2f81bd9787b6062383f5fb7741", func := "loop.example/flatarrays/laws.FnExactPickVector", spec := "fnExactPickVector", recurses := true, apart := false, narrowed := true }
def FnExactPickVectorUptoSaid : Prop := fnExactPickVectorUptoRow.holds Try.pinned (OpenSpec.upto fnExactPickVectorSpec)

/-- 'laws.FnInner', WHERE WHAT IT READS IS OF BULK AT MOST 1048576: true; the input reads as it did. -/
def fnInnerUptoRow : OpenClaim := { program := "ytdfanconjiiceaa", sum := "bb12cb9d347eb97b00371d8a65d71eab4e102c2f81bd9787b6062383f5fb7741", func := "loop.example/flatarrays/laws.FnInner", spec := "fnInner", recurses := true, apart := false, narrowed := true }
def FnInnerUptoSaid : Prop := fnInnerUptoRow.holds Try.pinned (OpenSpec.upto fnInnerSpec)

end Rows
end Go.Proofs.Ytdfanconjiiceaa
