/-
  DERIVED. GIVEN WITH THE SEED: THE CARDS: each row of YtdfanconjiiceabDoorRows.lean that lists a variable, with what it lists TIED to the program's text (the seventh form; the later family's looks); each row that meets fmt, with fmt's text TOLD by the authors' own Lean function (tested against real Go, not proved from fmt's source: count such statements apart). THE CARD IS WHAT COUNTS. Prove the row's statement (the work); the ties are given (YtdfanconjiiceabDoorTie.lean); close each card by the builder's one call (the guide's Derived/Test/ToyasCard.lean, 'card_holds'). Laid BY PROGRAM, IN A SANDBOX (cutbox-door.mjs). By AI agents, Wed Nov 11 2026. No macro, syntax, notation, axiom, sorry.
-/
import Derived.Test.YtdfanconjiiceabDoorRows
import GoSem.ClaimSeven
namespace Go.Proofs.YtdfanconjiiceabDoor
namespace Rows

/-- THE TIED CARD OF 'laws.FnExactFoldUp'. -/
def fnExactFoldUpCard : Claim7 := { stood := { row := fnExactFoldUpRow, standIns := [], harness := (true, "e4c131f8e0be2f551910049f8c1a74ae708d6cb432420b0932ce20b57810c390"), looks := true }, kinds := [], alts := [], laidByText := true, laidKinds := [.data, .data, .data], laidTests := true, laidLooks := .later }
def FnExactFoldUpCardSaid : Prop := Claim7.holds Tryd.pinned (.plain (OpenSpec.ofChange fnExactFoldUpSpec)) fnExactFoldUpCard

/-- THE TIED CARD OF 'laws.FnExactUnpackVector'. -/
def fnExactUnpackVectorCard : Claim7 := { stood := { row := fnExactUnpackVectorRow, standIns := [], harness := (true, "e4c131f8e0be2f551910049f8c1a74ae708d6cb432420b0932ce20b57810c390"), looks := true }, kinds := [], alts := [], laidByText := true, laidKinds := [.data, .data, .data], laidTests := true, laidLooks := .later }
def FnExactUnpackVectorCardSaid : Prop := Claim7.holds Tryd.pinned (.plain (OpenSpec.ofChange fnExactUnpackVectorSpec)) fnExactUnpackVectorCard

/-- THE TIED CARD OF 'laws.FnPickVector'. -/
def fnPickVectorCard : Claim7 := { stood := { row := fnPickVectorRow, standIns := [], harness := (true, "e4c131f8e0be2f551910049f8c1a74ae708d6cb432420b0932ce20b57810c390"), looks := true }, kinds := [], alts := [], laidByText := true, laidKinds := [.data, .data, .data], laidTests := true, laidLooks := .later }
def FnPickVectorCardSaid : Prop := Claim7.holds Tryd.pinned (.plain (OpenSpec.ofChange fnPickVectorSpec)) fnPickVectorCard

/-- THE TIED CARD OF 'laws.FnExactParseLayout'. -/
def fnExactParseLayoutCard : Claim7 := { stood := { row := fnExactParseLayoutRow, standIns := [], harness := (true, "e4c131f8e0be2f551910049f8c1a74ae708d6cb432420b0932ce20b57810c390"), looks := true }, kinds := [], alts := [], laidByText := true, laidKinds := [.data, .data, .data, .data, .sentinel, .sentinel, .pinned], laidTests := true, laidLooks := .later }
def FnExactParseLayoutCardSaid : Prop := Claim7.holds Tryd.pinned (.plain (OpenSpec.ofChange fnExactParseLayoutSpec)) fnExactParseLayoutCard

/-- THE TIED CARD OF 'laws.FnLayoutText'. -/
def fnLayoutTextCard : Claim7 := { stood := { row := fnLayoutTextRow, standIns := [], harness := (true, "e4c131f8e0be2f551910049f8c1a74ae708d6cb432420b0932ce20b57810c390"), looks := true }, kinds := [], alts := [], laidByText := true, laidKinds := [.data, .data, .data, .data, .sentinel, .sentinel, .pinned], laidTests := true, laidLooks := .later }
def FnLayoutTextCardSaid : Prop := Claim7.holds Tryd.pinned (.plain (OpenSpec.ofChange fnLayoutTextSpec)) fnLayoutTextCard

/-- THE SECOND FORM's CARD OF 'laws.FnExactFoldUp'. -/
def fnExactFoldUpUptoCard : Claim7 := { stood := { row := fnExactFoldUpUptoRow, standIns := [], harness := (true, "e4c131f8e0be2f551910049f8c1a74ae708d6cb432420b0932ce20b57810c390"), looks := true }, kinds := [], alts := [], laidByText := true, laidKinds := [.data, .data, .data], laidTests := true, laidLooks := .later }
def FnExactFoldUpUptoCardSaid : Prop := Claim7.holds Tryd.pinned (.plain (OpenSpec.upto fnExactFoldUpSpec)) fnExactFoldUpUptoCard

/-- THE SECOND FORM's CARD OF 'laws.FnExactUnpackVector'. -/
def fnExactUnpackVectorUptoCard : Claim7 := { stood := { row := fnExactUnpackVectorUptoRow, standIns := [], harness := (true, "e4c131f8e0be2f551910049f8c1a74ae708d6cb432420b0932ce20b57810c390"), looks := true }, kinds := [], alts := [], laidByText := true, laidKinds := [.data, .data, .data], laidTests := true, laidLooks := .later }
def FnExactUnpackVectorUptoCardSaid : Prop := Claim7.holds Tryd.pinned (.plain (OpenSpec.upto fnExactUnpackVectorSpec)) fnExactUnpackVectorUptoCard

/-- THE SECOND FORM's CARD OF 'laws.FnPickVector'. -/
def fnPickVectorUptoCard : Claim7 := { stood := { row := fnPickVectorUptoRow, standIns := [], harness := (true, "e4c131f8e0be2f551910049f8c1a74ae708d6cb432420b0932ce20b57810c390"), looks := true }, kinds := [], alts := [], laidByText := true, laidKinds := [.data, .data, .data], laidTests := true, laidLooks := .later }
def FnPickVectorUptoCardSaid : Prop := Claim7.holds Tryd.pinned (.plain (OpenSpec.upto fnPickVectorSpec)) fnPickVectorUptoCard

/-- THE SECOND FORM's CARD OF 'laws.FnExactParseLayout'. -/
def fnExactParseLayoutUptoCard : Claim7 := { stood := { row := fnExactParseLayoutUptoRow, standIns := [], harness := (true, "e4c131f8e0be2f551910049f8c1a74ae708d6cb432420b0932ce20b57810c390"), looks := true }, kinds := [], alts := [], laidByText := true, laidKinds := [.data, .data, .data, .data, .sentinel, .sentinel, .pinned], laidTests := true, laidLooks := .later }
def FnExactParseLayoutUptoCardSaid : Prop := Claim7.holds Tryd.pinned (.plain (OpenSpec.upto fnExactParseLayoutSpec)) fnExactParseLayoutUptoCard

/-- THE SECOND FORM's CARD OF 'laws.FnLayoutText'. -/
def fnLayoutTextUptoCard : Claim7 := { stood := { row := fnLayoutTextUptoRow, standIns := [], harness := (true, "e4c131f8e0be2f551910049f8c1a74ae708d6cb432420b0932ce20b57810c390"), looks := true }, kinds := [], alts := [], laidByText := true, laidKinds := [.data, .data, .data, .data, .sentinel, .sentinel, .pinned], laidTests := true, laidLooks := .later }
def FnLayoutTextUptoCardSaid : Prop := Claim7.holds Tryd.pinned (.plain (OpenSpec.upto fnLayoutTextSpec)) fnLayoutTextUptoCard
end Rows
end Go.Proofs.YtdfanconjiiceabDoor
