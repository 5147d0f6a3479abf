/-
  No cell of these rows narrows 'for every input' (looked for: loops, veiled, ifaces, maps, wideKeys, modest, calm, conditions, laid).
  DERIVED. THE GIVEN ROWS OF THIS SEAT. 11 by the template 'for every input the law returns true; each argument reads behind the call as it read before'; 0 by the template 'total and deterministic' (their statements: YtbideeajdhejoaaTotals.lean).
  GIVEN WITH THE SEED: the statements are not yours to turn. If you find one false, say at which input.
  Laid BY PROGRAM, IN A SANDBOX (cutbox-rows.mjs): the forced cells as the released guide's own fill.sh prints them over the translation af73a55ed72c321d… (all of the seat's roots in one cut). By AI agents, Wed Nov 11 2026. No macro, syntax, notation, axiom, sorry.
-/
import Derived.Test.YtbideeajdhejoaaChecked
import GoSem.Claim
import GoSem.ClaimJoined
import GoSem.ClaimMapViews
import Derived.JoinedTies
import Derived.KernelRfl
namespace Go.Proofs.Ytbideeajdhejoaa
/- THE CELL 'sum', in the pinned program and in every row, IS THE sha256 OF THE DUMP (.gsa) THAT YtbideeajdhejoaaProg.lean LOADS. Nothing in Lean hashes anything: it is a label: what it is worth is what the hold of that sum in a sandbox is worth. -/
noncomputable def Try.pinned : Pinned := { name := "ytbideeajdhejoaa", sum := "af73a55ed72c321dfcf54cafeddab6511e250efa9a5fb58a3002681384c6e311", checked := Try.checked }
namespace Rows
def none {H : Type} : Left H := { results := [], args := [] }

/-- 'laws.FnExactLayoutValid': WHATEVER THE INPUT: true; the input reads as it did. -/
def fnExactLayoutValidSpec : ChangeSpec := { name := "fnExactLayoutValid", fn := fun _ => fun
  | [d] => { results := [.lit (.bool true)], args := [d] }
  | _ => none }
def fnExactLayoutValidRow : OpenClaim := { program := "ytbideeajdhejoaa", sum := "af73a55ed72c321dfcf54cafeddab6511e250efa9a5fb58a3002681384c6e311", func := "loop.example/flatarrays/laws.FnExactLayoutValid", spec := "fnExactLayoutValid", apart := false }
def FnExactLayoutValidSaid : Prop := fnExactLayoutValidRow.holds Try.pinned (OpenSpec.ofChange fnExactLayoutValidSpec)

/-- ITS FALSE NEIGHBOUR: 'it returns false'. Refute it at one input. -/
def fnExactLayoutValidWrong : ChangeSpec := { name := "fnExactLayoutValid", fn := fun _ => fun
  | [d] => { results := [.lit (.bool false)], args := [d] }
  | _ => none }
def FnExactLayoutValidWrongFalsely : Prop := fnExactLayoutValidRow.holds Try.pinned (OpenSpec.ofChange fnExactLayoutValidWrong)

/-- 'laws.FnExactWhatIsWrong': WHATEVER THE INPUT: true; the input reads as it did. -/
def fnExactWhatIsWrongSpec : ChangeSpec := { name := "fnExactWhatIsWrong", fn := fun _ => fun
  | [d] => { results := [.lit (.bool true)], args := [d] }
  | _ => none }
def fnExactWhatIsWrongRow : OpenClaim := { program := "ytbideeajdhejoaa", sum := "af73a55ed72c321dfcf54cafeddab6511e250efa9a5fb58a3002681384c6e311", func := "loop.example/flatarrays/laws.FnExactWhatIsWrong", spec := "fnExactWhatIsWrong", apart := false }
def FnExactWhatIsWrongSaid : Prop := fnExactWhatIsWrongRow.holds Try.pinned (OpenSpec.ofChange fnExactWhatIsWrongSpec)

/-- ITS FALSE NEIGHBOUR: 'it returns false'. Refute it at one input. -/
def fnExactWhatIsWrongWrong : ChangeSpec := { name := "fnExactWhatIsWrong", fn := fun _ => fun
  | [d] => { results := [.lit (.bool false)], args := [d] }
  | _ => none }
def FnExactWhatIsWrongWrongFalsely : Prop := fnExactWhatIsWrongRow.holds Try.pinned (OpenSpec.ofChange fnExactWhatIsWrongWrong)

/-- 'laws.FnExactPlaceOf': WHATEVER THE INPUT: true; the input reads as it did. -/
def fnExactPlaceOfSpec : ChangeSpec := { name := "fnExactPlaceOf", fn := fun _ => fun
  | [d1, d2] => { results := [.lit (.bool true)], args := [d1, d2] }
  | _ => none }
def fnExactPlaceOfRow : OpenClaim := { program := "ytbideeajdhejoaa", sum := "af73a55ed72c321dfcf54cafeddab6511e250efa9a5fb58a3002681384c6e311", func := "loop.example/flatarrays/laws.FnExactPlaceOf", spec := "fnExactPlaceOf", apart := false }
def FnExactPlaceOfSaid : Prop := fnExactPlaceOfRow.holds Try.pinned (OpenSpec.ofChange fnExactPlaceOfSpec)

/-- ITS FALSE NEIGHBOUR: 'it returns false'. Refute it at one input. -/
def fnExactPlaceOfWrong : ChangeSpec := { name := "fnExactPlaceOf", fn := fun _ => fun
  | [d1, d2] => { results := [.lit (.bool false)], args := [d1, d2] }
  | _ => none }
def FnExactPlaceOfWrongFalsely : Prop := fnExactPlaceOfRow.holds Try.pinned (OpenSpec.ofChange fnExactPlaceOfWrong)

/-- 'laws.FnExactVectorValid': WHATEVER THE INPUT: true; the input reads as it did. -/
def fnExactVectorValidSpec : ChangeSpec := { name := "fnExactVectorValid", fn := fun _ => fun
  | [d] => { results := [.lit (.bool true)], args := [d] }
  | _ => none }
def fnExactVectorValidRow : OpenClaim := { program := "ytbideeajdhejoaa", sum := "af73a55ed72c321dfcf54cafeddab6511e250efa9a5fb58a3002681384c6e311", func := "loop.example/flatarrays/laws.FnExactVectorValid", spec := "fnExactVectorValid", apart := false }
def FnExactVectorValidSaid : Prop := fnExactVectorValidRow.holds Try.pinned (OpenSpec.ofChange fnExactVectorValidSpec)

/-- ITS FALSE NEIGHBOUR: 'it returns false'. Refute it at one input. -/
def fnExactVectorValidWrong : ChangeSpec := { name := "fnExactVectorValid", fn := fun _ => fun
  | [d] => { results := [.lit (.bool false)], args := [d] }
  | _ => none }
def FnExactVectorValidWrongFalsely : Prop := fnExactVectorValidRow.holds Try.pinned (OpenSpec.ofChange fnExactVectorValidWrong)

/-- 'laws.FnExactPickVector': WHATEVER THE INPUT: true; the input reads as it did. -/
def fnExactPickVectorSpec : ChangeSpec := { name := "fnExactPickVector", fn := fun _ => fun
  | [d1, d2] => { results := [.lit (.bool true)], args := [d1, d2] }
  | _ => none }
def fnExactPickVectorRow : OpenClaim := { program := "ytbideeajdhejoaa", sum := "af73a55ed72c321dfcf54cafeddab6511e250efa9a5fb58a3002681384c6e311", func := "loop.example/flatarrays/laws.FnExactPickVector", spec := "fnExactPickVector", recurses := true, apart := false }
def FnExactPickVectorSaid : Prop := fnExactPickVectorRow.holds Try.pinned (OpenSpec.ofChange fnExactPickVectorSpec)

/-- ITS FALSE NEIGHBOUR: 'it returns false'. Refute it at one input. -/
def fnExactPickVectorWrong : ChangeSpec := { name := "fnExactPickVector", fn := fun _ => fun
  | [d1, d2] => { results := [.lit (.bool false)], args := [d1, d2] }
  | _ => none }
def FnExactPickVectorWrongFalsely : Prop := fnExactPickVectorRow.holds Try.pinned (OpenSpec.ofChange fnExactPickVectorWrong)

/-- 'laws.FnExactInnerOf': WHATEVER THE INPUT: true; the input reads as it did. -/
def fnExactInnerOfSpec : ChangeSpec := { name := "fnExactInnerOf", fn := fun _ => fun
  | [d] => { results := [.lit (.bool true)], args := [d] }
  | _ => none }
def fnExactInnerOfRow : OpenClaim := { program := "ytbideeajdhejoaa", sum := "af73a55ed72c321dfcf54cafeddab6511e250efa9a5fb58a3002681384c6e311", func := "loop.example/flatarrays/laws.FnExactInnerOf", spec := "fnExactInnerOf", recurses := true, apart := false }
def FnExactInnerOfSaid : Prop := fnExactInnerOfRow.holds Try.pinned (OpenSpec.ofChange fnExactInnerOfSpec)

/-- ITS FALSE NEIGHBOUR: 'it returns false'. Refute it at one input. -/
def fnExactInnerOfWrong : ChangeSpec := { name := "fnExactInnerOf", fn := fun _ => fun
  | [d] => { results := [.lit (.bool false)], args := [d] }
  | _ => none }
def FnExactInnerOfWrongFalsely : Prop := fnExactInnerOfRow.holds Try.pinned (OpenSpec.ofChange fnExactInnerOfWrong)

/-- 'laws.FnInner': WHATEVER THE INPUT: true; the input reads as it did. -/
def fnInnerSpec : ChangeSpec := { name := "fnInner", fn := fun _ => fun
  | [d1, d2] => { results := [.lit (.bool true)], args := [d1, d2] }
  | _ => none }
def fnInnerRow : OpenClaim := { program := "ytbideeajdhejoaa", sum := "af73a55ed72c321dfcf54cafeddab6511e250efa9a5fb58a3002681384c6e311", func := "loop.example/flatarrays/laws.FnInner", spec := "fnInner", recurses := true, apart := false }
def FnInnerSaid : Prop := fnInnerRow.holds Try.pinned (OpenSpec.ofChange fnInnerSpec)

/-- ITS FALSE NEIGHBOUR: 'it returns false'. Refute it at one input. -/
def fnInnerWrong : ChangeSpec := { name := "fnInner", fn := fun _ => fun
  | [d1, d2] => { results := [.lit (.bool false)], args := [d1, d2] }
  | _ => none }
def FnInnerWrongFalsely : Prop := fnInnerRow.holds Try.pinned (OpenSpec.ofChange fnInnerWrong)

/-- 'laws.FnExactSpreadValues': WHATEVER THE INPUT: true; the input reads as it did. -/
def fnExactSpreadValuesSpec : ChangeSpec := { name := "fnExactSpreadValues", fn := fun _ => fun
  | [d1, d2] => { results := [.lit (.bool true)], args := [d1, d2] }
  | _ => none }
def fnExactSpreadValuesRow : OpenClaim := { program := "ytbideeajdhejoaa", sum := "af73a55ed72c321dfcf54cafeddab6511e250efa9a5fb58a3002681384c6e311", func := "loop.example/flatarrays/laws.FnExactSpreadValues", spec := "fnExactSpreadValues", apart := false }
def FnExactSpreadValuesSaid : Prop := fnExactSpreadValuesRow.holds Try.pinned (OpenSpec.ofChange fnExactSpreadValuesSpec)

/-- ITS FALSE NEIGHBOUR: 'it returns false'. Refute it at one input. -/
def fnExactSpreadValuesWrong : ChangeSpec := { name := "fnExactSpreadValues", fn := fun _ => fun
  | [d1, d2] => { results := [.lit (.bool false)], args := [d1, d2] }
  | _ => none }
def FnExactSpreadValuesWrongFalsely : Prop := fnExactSpreadValuesRow.holds Try.pinned (OpenSpec.ofChange fnExactSpreadValuesWrong)

/-- 'laws.FnSpread': WHATEVER THE INPUT: true; the input reads as it did. -/
def fnSpreadSpec : ChangeSpec := { name := "fnSpread", fn := fun _ => fun
  | [d] => { results := [.lit (.bool true)], args := [d] }
  | _ => none }
def fnSpreadRow : OpenClaim := { program := "ytbideeajdhejoaa", sum := "af73a55ed72c321dfcf54cafeddab6511e250efa9a5fb58a3002681384c6e311", func := "loop.example/flatarrays/laws.FnSpread", spec := "fnSpread", unfollowed := true, recurses := true, apart := false }
def FnSpreadSaid : Prop := fnSpreadRow.holds Try.pinned (OpenSpec.ofChange fnSpreadSpec)

/-- ITS FALSE NEIGHBOUR: 'it returns false'. Refute it at one input. -/
def fnSpreadWrong : ChangeSpec := { name := "fnSpread", fn := fun _ => fun
  | [d] => { results := [.lit (.bool false)], args := [d] }
  | _ => none }
def FnSpreadWrongFalsely : Prop := fnSpreadRow.holds Try.pinned (OpenSpec.ofChange fnSpreadWrong)

/-- 'laws.FnExactLayOut': WHATEVER THE INPUT: true; the input reads as it did. -/
def fnExactLayOutSpec : ChangeSpec := { name := "fnExactLayOut", fn := fun _ => fun
  | [d1, d2] => { results := [.lit (.bool true)], args := [d1, d2] }
  | _ => none }
def fnExactLayOutRow : OpenClaim := { program := "ytbideeajdhejoaa", sum := "af73a55ed72c321dfcf54cafeddab6511e250efa9a5fb58a3002681384c6e311", func := "loop.example/flatarrays/laws.FnExactLayOut", spec := "fnExactLayOut", unfollowed := true, recurses := true, apart := false }
def FnExactLayOutSaid : Prop := fnExactLayOutRow.holds Try.pinned (OpenSpec.ofChange fnExactLayOutSpec)

/-- ITS FALSE NEIGHBOUR: 'it returns false'. Refute it at one input. -/
def fnExactLayOutWrong : ChangeSpec := { name := "fnExactLayOut", fn := fun _ => fun
  | [d1, d2] => { results := [.lit (.bool false)], args := [d1, d2] }
  | _ => none }
def FnExactLayOutWrongFalsely : Prop := fnExactLayOutRow.holds Try.pinned (OpenSpec.ofChange fnExactLayOutWrong)

/-- 'laws.FnExactPackVector': WHATEVER THE INPUT: true; the input reads as it did. -/
def fnExactPackVectorSpec : ChangeSpec := { name := "fnExactPackVector", fn := fun _ => fun
  | [d1, d2] => { results := [.lit (.bool true)], args := [d1, d2] }
  | _ => none }
def fnExactPackVectorRow : OpenClaim := { program := "ytbideeajdhejoaa", sum := "af73a55ed72c321dfcf54cafeddab6511e250efa9a5fb58a3002681384c6e311", func := "loop.example/flatarrays/laws.FnExactPackVector", spec := "fnExactPackVector", unfollowed := true, recurses := true, apart := false }
def FnExactPackVectorSaid : Prop := fnExactPackVectorRow.holds Try.pinned (OpenSpec.ofChange fnExactPackVectorSpec)

/-- ITS FALSE NEIGHBOUR: 'it returns false'. Refute it at one input. -/
def fnExactPackVectorWrong : ChangeSpec := { name := "fnExactPackVector", fn := fun _ => fun
  | [d1, d2] => { results := [.lit (.bool false)], args := [d1, d2] }
  | _ => none }
def FnExactPackVectorWrongFalsely : Prop := fnExactPackVectorRow.holds Try.pinned (OpenSpec.ofChange fnExactPackVectorWrong)

/- THE SECOND FORM. 'bulk': how many values and letters a reading holds, each counted each time it is reached (what is shared counts as often as it is met; a slice's spare places count too). A statement '..UptoSaid' is the law's where the arguments, and the package variables that the reading takes, are together of bulk at most 1048576: NARROWER than '..Said'. Prove '..Said' where nothing that the law and all that it calls make is longer than what came in: it says more and counts as full. Else prove '..UptoSaid'. A law counts once. -/
mutual
def uptoBulk {H : Type} : DataW H → Nat
  | .lit (.string bytes) => bytes.length + 1
  | .lit _ => 1
  | .nil => 1
  | .ptr d => uptoBulk d + 1
  | .slice elems spare => uptoBulkAll elems + uptoBulkAll spare + 1
  | .agg parts => uptoBulkAll parts + 1
  | .iface _ d => uptoBulk d + 1
  | .map entries => uptoBulkEntries entries + 1
  | .held _ => 1
def uptoBulkAll {H : Type} : List (DataW H) → Nat
  | [] => 0
  | d :: r => uptoBulk d + uptoBulkAll r
def uptoBulkEntries {H : Type} : List (Lit × DataW H) → Nat
  | [] => 0
  | x :: r => uptoBulkEntry x + uptoBulkEntries r
def uptoBulkEntry {H : Type} : Lit × DataW H → Nat
  | (.string bytes, d) => bytes.length + uptoBulk d + 1
  | (_, d) => uptoBulk d + 1
 end
def uptoSmall : (H : Type) → List (DataW H) → Bool := fun _ ds => decide (uptoBulkAll ds ≤ 1048576)
def OpenSpec.upto (s : _root_.Go.ChangeSpec) : _root_.Go.OpenSpec := { _root_.Go.OpenSpec.ofChange s with cond := some uptoSmall }

/-- 'laws.FnExactLayoutValid', WHERE WHAT IT READS IS OF BULK AT MOST 1048576: true; the input reads as it did. -/
def fnExactLayoutValidUptoRow : OpenClaim := { program := "ytbideeajdhejoaa", sum := "af73a55ed72c321dfcf54cafeddab6511e250efa9a5fb58a3002681384c6e311", func := "loop.example/flatarrays/laws.FnExactLayoutValid", spec := "fnExactLayoutValid", apart := false, narrowed := true }
def FnExactLayoutValidUptoSaid : Prop := fnExactLayoutValidUptoRow.holds Try.pinned (OpenSpec.upto fnExactLayoutValidSpec)

/-- 'laws.FnExactWhatIsWrong', WHERE WHAT IT READS IS OF BULK AT MOST 1048576: true; the input reads as it did. -/
def fnExactWhatIsWrongUptoRow : OpenClaim := { program := "ytbideeajdhejoaa", sum := "af73a55ed72c321dfcf54cafeddab6511e250efa9a5fb58a3002681384c6e311", func := "loop.example/flatarrays/laws.FnExactWhatIsWrong", spec := "fnExactWhatIsWrong", apart := false, narrowed := true }
def FnExactWhatIsWrongUptoSaid : Prop := fnExactWhatIsWrongUptoRow.holds Try.pinned (OpenSpec.upto fnExactWhatIsWrongSpec)

/-- 'laws.FnExactPlaceOf', WHERE WHAT IT READS IS OF BULK AT MOST 1048576: true; the input reads as it did. -/
def fnExactPlaceOfUptoRow : OpenClaim := { program := "ytbideeajdhejoaa", sum := "af73a55ed72c321dfcf54cafeddab6511e250efa9a5fb58a3002681384c6e311", func := "loop.example/flatarrays/laws.FnExactPlaceOf", spec := "fnExactPlaceOf", apart := false, narrowed := true }
def FnExactPlaceOfUptoSaid : Prop := fnExactPlaceOfUptoRow.holds Try.pinned (OpenSpec.upto fnExactPlaceOfSpec)

/-- 'laws.FnExactVectorValid', WHERE WHAT IT READS IS OF BULK AT MOST 1048576: true; the input reads as it did. -/
def fnExactVectorValidUptoRow : OpenClaim := { program := "ytbideeajdhejoaa", sum := "af73a55ed72c321dfcf54cafeddab6511e250efa9a5fb58a3002681384c6e311", func := "loop.example/flatarrays/laws.FnExactVectorValid", spec := "fnExactVectorValid", apart := false, narrowed := true }
def FnExactVectorValidUptoSaid : Prop := fnExactVectorValidUptoRow.holds Try.pinned (OpenSpec.upto fnExactVectorValidSpec)

/-- 'laws.FnExactPickVector', WHERE WHAT IT READS IS OF BULK AT MOST 1048576: true; the input reads as it did. -/
def fnExactPickVectorUptoRow : OpenClaim := { program := "ytbideeajdhejoaa", sum := "af73a55ed72c321dfcf54cafeddab6511e250efa9a5fb58a3002681384c6e311", func := "loop.example/flatarrays/laws.FnExactPickVector", spec := "fnExactPickVector", recurses := true, apart := false, narrowed := true }
def FnExactPickVectorUptoSaid : Prop := fnExactPickVectorUptoRow.holds Try.pinned (OpenSpec.upto fnExactPickVectorSpec)

/-- 'laws.FnExactInnerOf', WHERE WHAT IT READS IS OF BULK AT MOST 1048576: true; the input reads as it did. -/
def fnExactInnerOfUptoRow : OpenClaim := { program := "ytbideeajdhejoaa", sum := "af73a55ed72c321dfcf54cafeddab6511e250efa9a5fb58a3002681384c6e311", func := "loop.example/flatarrays/laws.FnExactInnerOf", spec := "fnExactInnerOf", recurses := true, apart := false, narrowed := true }
def FnExactInnerOfUptoSaid : Prop := fnExactInnerOfUptoRow.holds Try.pinned (OpenSpec.upto fnExactInnerOfSpec)

/-- 'laws.FnInner', WHERE WHAT IT READS IS OF BULK AT MOST 1048576: true; the input reads as it did. -/
def fnInnerUptoRow : OpenClaim := { program := "ytbideeajdhejoaa", sum := "af73a55ed72c321dfcf54cafeddab6511e250efa9a5fb58a3002681384c6e311", func := "loop.example/flatarrays/laws.FnInner", spec := "fnInner", recurses := true, apart := false, narrowed := true }
def FnInnerUptoSaid : Prop := fnInnerUptoRow.holds Try.pinned (OpenSpec.upto fnInnerSpec)

/-- 'laws.FnExactSpreadValues', WHERE WHAT IT READS IS OF BULK AT MOST 1048576: true; the input reads as it did. -/
def fnExactSpreadValuesUptoRow : OpenClaim := { program := "ytbideeajdhejoaa", sum := "af73a55ed72c321dfcf54cafeddab6511e250efa9a5fb58a3002681384c6e311", func := "loop.example/flatarrays/laws.FnExactSpreadValues", spec := "fnExactSpreadValues", apart := false, narrowed := true }
def FnExactSpreadValuesUptoSaid : Prop := fnExactSpreadValuesUptoRow.holds Try.pinned (OpenSpec.upto fnExactSpreadValuesSpec)

/-- 'laws.FnSpread', WHERE WHAT IT READS IS OF BULK AT MOST 1048576: true; the input reads as it did. -/
def fnSpreadUptoRow : OpenClaim := { program := "ytbideeajdhejoaa", sum := "af73a55ed72c321dfcf54cafeddab6511e250efa9a5fb58a3002681384c6e311", func := "loop.example/flatarrays/laws.FnSpread", spec := "fnSpread", unfollowed := true, recurses := true, apart := false, narrowed := true }
def FnSpreadUptoSaid : Prop := fnSpreadUptoRow.holds Try.pinned (OpenSpec.upto fnSpreadSpec)

/-- 'laws.FnExactLayOut', WHERE WHAT IT READS IS OF BULK AT MOST 1048576: true; the input reads as it did. -/
def fnExactLayOutUptoRow : OpenClaim := { program := "ytbideeajdhejoaa", sum := "af73a55ed72c321dfcf54cafeddab6511e250efa9a5fb58a3002681384c6e311", func := "loop.example/flatarrays/laws.FnExactLayOut", spec := "fnExactLayOut", unfollowed := true, recurses := true, apart := false, narrowed := true }
def FnExactLayOutUptoSaid : Prop := fnExactLayOutUptoRow.holds Try.pinned (OpenSpec.upto fnExactLayOutSpec)

/-- 'laws.FnExactPackVector', WHERE WHAT IT READS IS OF BULK AT MOST 1048576: true; the input reads as it did. -/
def fnExactPackVectorUptoRow : OpenClaim := { program := "ytbideeajdhejoaa", sum := "af73a55ed72c321dfcf54cafeddab6511e250efa9a5fb58a3002681384c6e311", func := "loop.example/flatarrays/laws.FnExactPackVector", spec := "fnExactPackVector", unfollowed := true, recurses := true, apart := false, narrowed := true }
def FnExactPackVectorUptoSaid : Prop := fnExactPackVectorUptoRow.holds Try.pinned (OpenSpec.upto fnExactPackVectorSpec)

end Rows
end Go.Proofs.Ytbideeajdhejoaa
