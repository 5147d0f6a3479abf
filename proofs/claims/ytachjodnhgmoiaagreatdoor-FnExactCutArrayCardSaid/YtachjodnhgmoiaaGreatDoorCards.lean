/-
  DERIVED. GIVEN WITH THE SEED: THE CARDS: each row of YtachjodnhgmoiaaGreatDoorRows.lean that lists a variable, with what it lists TIED to the program's text (the seventh form; the later family's looks); each row that meets fmt, with fmt's text TOLD by the authors' own Lean function (tested against real Go, not proved from fmt's source: count such statements apart). THE CARD IS WHAT COUNTS. Prove the row's statement (the work); the ties are given (YtachjodnhgmoiaaGreatDoorTie.lean); close each card by the builder's one call (the guide's Derived/Test/ToyasCard.lean, 'card_holds'). Laid BY PROGRAM, IN A SANDBOX (cutbox-door.mjs). By AI agents, Wed Nov 11 2026. No macro, syntax, notation, axiom, sorry.
-/
import Derived.Test.YtachjodnhgmoiaaGreatDoorRows
import GoSem.ClaimSeven
namespace Go.Proofs.YtachjodnhgmoiaaGreatDoor
namespace Rows

/-- THE TIED CARD OF 'laws.FnExactTransposeArray'. -/
def fnExactTransposeArrayCard : Claim7 := { stood := { row := fnExactTransposeArrayRow, standIns := [], harness := (true, "e687b6d062c924fd9494f2cceddeff613f8f3ecf222e85c2f509bef3a10512ce"), looks := true }, kinds := [], alts := [], goes := true, laidByText := true, laidKinds := [.data, .data, .data], laidTests := true, laidLooks := .later }
def FnExactTransposeArrayCardSaid : Prop := Claim7.holds Tryz.pinned (.plain (OpenSpec.ofChange fnExactTransposeArraySpec)) fnExactTransposeArrayCard

/-- THE TIED CARD OF 'laws.FnExactCutArray'. -/
def fnExactCutArrayCard : Claim7 := { stood := { row := fnExactCutArrayRow, standIns := [], harness := (true, "e687b6d062c924fd9494f2cceddeff613f8f3ecf222e85c2f509bef3a10512ce"), looks := true }, kinds := [], alts := [], goes := true, laidByText := true, laidKinds := [.data, .data, .data], laidTests := true, laidLooks := .later }
def FnExactCutArrayCardSaid : Prop := Claim7.holds Tryz.pinned (.plain (OpenSpec.ofChange fnExactCutArraySpec)) fnExactCutArrayCard

/-- THE TIED CARD OF 'laws.FnExactMultiplyArrays'. -/
def fnExactMultiplyArraysCard : Claim7 := { stood := { row := fnExactMultiplyArraysRow, standIns := [], harness := (true, "e687b6d062c924fd9494f2cceddeff613f8f3ecf222e85c2f509bef3a10512ce"), looks := true }, kinds := [], alts := [], goes := true, laidByText := true, laidKinds := [.data, .data, .data], laidTests := true, laidLooks := .later }
def FnExactMultiplyArraysCardSaid : Prop := Claim7.holds Tryz.pinned (.plain (OpenSpec.ofChange fnExactMultiplyArraysSpec)) fnExactMultiplyArraysCard

/-- THE SECOND FORM's CARD OF 'laws.FnExactTransposeArray'. -/
def fnExactTransposeArrayUptoCard : Claim7 := { stood := { row := fnExactTransposeArrayUptoRow, standIns := [], harness := (true, "e687b6d062c924fd9494f2cceddeff613f8f3ecf222e85c2f509bef3a10512ce"), looks := true }, kinds := [], alts := [], goes := true, laidByText := true, laidKinds := [.data, .data, .data], laidTests := true, laidLooks := .later }
def FnExactTransposeArrayUptoCardSaid : Prop := Claim7.holds Tryz.pinned (.plain (OpenSpec.upto fnExactTransposeArraySpec)) fnExactTransposeArrayUptoCard

/-- THE SECOND FORM's CARD OF 'laws.FnExactCutArray'. -/
def fnExactCutArrayUptoCard : Claim7 := { stood := { row := fnExactCutArrayUptoRow, standIns := [], harness := (true, "e687b6d062c924fd9494f2cceddeff613f8f3ecf222e85c2f509bef3a10512ce"), looks := true }, kinds := [], alts := [], goes := true, laidByText := true, laidKinds := [.data, .data, .data], laidTests := true, laidLooks := .later }
def FnExactCutArrayUptoCardSaid : Prop := Claim7.holds Tryz.pinned (.plain (OpenSpec.upto fnExactCutArraySpec)) fnExactCutArrayUptoCard

/-- THE SECOND FORM's CARD OF 'laws.FnExactMultiplyArrays'. -/
def fnExactMultiplyArraysUptoCard : Claim7 := { stood := { row := fnExactMultiplyArraysUptoRow, standIns := [], harness := (true, "e687b6d062c924fd9494f2cceddeff613f8f3ecf222e85c2f509bef3a10512ce"), looks := true }, kinds := [], alts := [], goes := true, laidByText := true, laidKinds := [.data, .data, .data], laidTests := true, laidLooks := .later }
def FnExactMultiplyArraysUptoCardSaid : Prop := Claim7.holds Tryz.pinned (.plain (OpenSpec.upto fnExactMultiplyArraysSpec)) fnExactMultiplyArraysUptoCard
end Rows
end Go.Proofs.YtachjodnhgmoiaaGreatDoor
