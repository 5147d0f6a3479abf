/-
  DERIVED. GIVEN WITH THE SEED: THE CARDS: each row of YtppkchcoaolhhaaDoorRows.lean that lists a variable, with what it lists TIED to the program's text (the seventh form; the later family's looks); each row that meets fmt, with fmt's text TOLD by the authors' own Lean function (tested against real Go, not proved from fmt's source: count such statements apart). THE CARD IS WHAT COUNTS. Prove the row's statement (the work); the ties are given (YtppkchcoaolhhaaDoorTie.lean); close each card by the builder's one call (the guide's Derived/Test/ToyasCard.lean, 'card_holds'). Laid BY PROGRAM, IN A SANDBOX (cutbox-door.mjs). By AI agents, Wed Nov 11 2026. No macro, syntax, notation, axiom, sorry.
-/
import Derived.Test.YtppkchcoaolhhaaDoorRows
import GoSem.ClaimSeven
namespace Go.Proofs.YtppkchcoaolhhaaDoor
namespace Rows

/-- THE TIED CARD OF 'laws.FnLayOut'. -/
def fnLayOutCard : Claim7 := { stood := { row := fnLayOutRow, standIns := [], harness := (true, "cc57a1af3b062b84019f4993c62a1cd282e51aa212fdd79a81a6b66bdd7624c4"), looks := true }, kinds := [], alts := [], laidByText := true, laidKinds := [.data, .data, .data], laidTests := true, laidLooks := .later }
def FnLayOutCardSaid : Prop := Claim7.holds Tryd.pinned (.plain (OpenSpec.ofChange fnLayOutSpec)) fnLayOutCard

/-- THE TIED CARD OF 'laws.FnFoldUp'. -/
def fnFoldUpCard : Claim7 := { stood := { row := fnFoldUpRow, standIns := [], harness := (true, "cc57a1af3b062b84019f4993c62a1cd282e51aa212fdd79a81a6b66bdd7624c4"), looks := true }, kinds := [], alts := [], laidByText := true, laidKinds := [.data, .data, .data], laidTests := true, laidLooks := .later }
def FnFoldUpCardSaid : Prop := Claim7.holds Tryd.pinned (.plain (OpenSpec.ofChange fnFoldUpSpec)) fnFoldUpCard

/-- THE TIED CARD OF 'laws.FnLayoutText'. -/
def fnLayoutTextCard : Claim7 := { stood := { row := fnLayoutTextRow, standIns := [], harness := (true, "cc57a1af3b062b84019f4993c62a1cd282e51aa212fdd79a81a6b66bdd7624c4"), looks := true }, kinds := [], alts := [], laidByText := true, laidKinds := [.data, .data, .data, .data, .sentinel, .sentinel, .pinned], laidTests := true, laidLooks := .later }
def FnLayoutTextCardSaid : Prop := Claim7.holds Tryd.pinned (.plain (OpenSpec.ofChange fnLayoutTextSpec)) fnLayoutTextCard

/-- THE TIED CARD OF 'laws.FnExactFoldUp'. -/
def fnExactFoldUpCard : Claim7 := { stood := { row := fnExactFoldUpRow, standIns := [], harness := (true, "cc57a1af3b062b84019f4993c62a1cd282e51aa212fdd79a81a6b66bdd7624c4"), looks := true }, kinds := [], alts := [], laidByText := true, laidKinds := [.data, .data, .data], laidTests := true, laidLooks := .later }
def FnExactFoldUpCardSaid : Prop := Claim7.holds Tryd.pinned (.plain (OpenSpec.ofChange fnExactFoldUpSpec)) fnExactFoldUpCard

/-- THE TIED CARD OF 'laws.FnExactFormatLayout'. -/
def fnExactFormatLayoutCard : Claim7 := { stood := { row := fnExactFormatLayoutRow, standIns := [], harness := (true, "cc57a1af3b062b84019f4993c62a1cd282e51aa212fdd79a81a6b66bdd7624c4"), looks := true }, kinds := [], alts := [], laidByText := true, laidKinds := [.data, .data, .data], laidTests := true, laidLooks := .later }
def FnExactFormatLayoutCardSaid : Prop := Claim7.holds Tryd.pinned (.plain (OpenSpec.ofChange fnExactFormatLayoutSpec)) fnExactFormatLayoutCard

/-- THE TIED CARD OF 'laws.FnExactParseLayout'. -/
def fnExactParseLayoutCard : Claim7 := { stood := { row := fnExactParseLayoutRow, standIns := [], harness := (true, "cc57a1af3b062b84019f4993c62a1cd282e51aa212fdd79a81a6b66bdd7624c4"), looks := true }, kinds := [], alts := [], laidByText := true, laidKinds := [.data, .data, .data, .data, .sentinel, .sentinel, .pinned], laidTests := true, laidLooks := .later }
def FnExactParseLayoutCardSaid : Prop := Claim7.holds Tryd.pinned (.plain (OpenSpec.ofChange fnExactParseLayoutSpec)) fnExactParseLayoutCard

/-- THE SECOND FORM's CARD OF 'laws.FnLayOut'. -/
def fnLayOutUptoCard : Claim7 := { stood := { row := fnLayOutUptoRow, standIns := [], harness := (true, "cc57a1af3b062b84019f4993c62a1cd282e51aa212fdd79a81a6b66bdd7624c4"), looks := true }, kinds := [], alts := [], laidByText := true, laidKinds := [.data, .data, .data], laidTests := true, laidLooks := .later }
def FnLayOutUptoCardSaid : Prop := Claim7.holds Tryd.pinned (.plain (OpenSpec.upto fnLayOutSpec)) fnLayOutUptoCard

/-- THE SECOND FORM's CARD OF 'laws.FnFoldUp'. -/
def fnFoldUpUptoCard : Claim7 := { stood := { row := fnFoldUpUptoRow, standIns := [], harness := (true, "cc57a1af3b062b84019f4993c62a1cd282e51aa212fdd79a81a6b66bdd7624c4"), looks := true }, kinds := [], alts := [], laidByText := true, laidKinds := [.data, .data, .data], laidTests := true, laidLooks := .later }
def FnFoldUpUptoCardSaid : Prop := Claim7.holds Tryd.pinned (.plain (OpenSpec.upto fnFoldUpSpec)) fnFoldUpUptoCard

/-- THE SECOND FORM's CARD OF 'laws.FnLayoutText'. -/
def fnLayoutTextUptoCard : Claim7 := { stood := { row := fnLayoutTextUptoRow, standIns := [], harness := (true, "cc57a1af3b062b84019f4993c62a1cd282e51aa212fdd79a81a6b66bdd7624c4"), looks := true }, kinds := [], alts := [], laidByText := true, laidKinds := [.data, .data, .data, .data, .sentinel, .sentinel, .pinned], laidTests := true, laidLooks := .later }
def FnLayoutTextUptoCardSaid : Prop := Claim7.holds Tryd.pinned (.plain (OpenSpec.upto fnLayoutTextSpec)) fnLayoutTextUptoCard

/-- THE SECOND FORM's CARD OF 'laws.FnExactFoldUp'. -/
def fnExactFoldUpUptoCard : Claim7 := { stood := { row := fnExactFoldUpUptoRow, standIns := [], harness := (true, "cc57a1af3b062b84019f4993c62a1cd282e51aa212fdd79a81a6b66bdd7624c4"), looks := true }, kinds := [], alts := [], laidByText := true, laidKinds := [.data, .data, .data], laidTests := true, laidLooks := .later }
def FnExactFoldUpUptoCardSaid : Prop := Claim7.holds Tryd.pinned (.plain (OpenSpec.upto fnExactFoldUpSpec)) fnExactFoldUpUptoCard

/-- THE SECOND FORM's CARD OF 'laws.FnExactFormatLayout'. -/
def fnExactFormatLayoutUptoCard : Claim7 := { stood := { row := fnExactFormatLayoutUptoRow, standIns := [], harness := (true, "cc57a1af3b062b84019f4993c62a1cd282e51aa212fdd79a81a6b66bdd7624c4"), looks := true }, kinds := [], alts := [], laidByText := true, laidKinds := [.data, .data, .data], laidTests := true, laidLooks := .later }
def FnExactFormatLayoutUptoCardSaid : Prop := Claim7.holds Tryd.pinned (.plain (OpenSpec.upto fnExactFormatLayoutSpec)) fnExactFormatLayoutUptoCard

/-- THE SECOND FORM's CARD OF 'laws.FnExactParseLayout'. -/
def fnExactParseLayoutUptoCard : Claim7 := { stood := { row := fnExactParseLayoutUptoRow, standIns := [], harness := (true, "cc57a1af3b062b84019f4993c62a1cd282e51aa212fdd79a81a6b66bdd7624c4"), looks := true }, kinds := [], alts := [], laidByText := true, laidKinds := [.data, .data, .data, .data, .sentinel, .sentinel, .pinned], laidTests := true, laidLooks := .later }
def FnExactParseLayoutUptoCardSaid : Prop := Claim7.holds Tryd.pinned (.plain (OpenSpec.upto fnExactParseLayoutSpec)) fnExactParseLayoutUptoCard
end Rows
end Go.Proofs.YtppkchcoaolhhaaDoor
