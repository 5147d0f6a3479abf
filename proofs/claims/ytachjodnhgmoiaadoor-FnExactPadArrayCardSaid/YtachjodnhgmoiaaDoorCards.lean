/-
  DERIVED. GIVEN WITH THE SEED: THE CARDS: each row of YtachjodnhgmoiaaDoorRows.lean that lists a variable, with what it lists TIED to the program's text (the seventh form; the later family's looks); each row that meets fmt, with fmt's text TOLD by the authors' own Lean function (tested against real Go, not proved from fmt's source: count such statements apart). THE CARD IS WHAT COUNTS. Prove the row's statement (the work); the ties are given (YtachjodnhgmoiaaDoorTie.lean); close each card by the builder's one call (the guide's Derived/Test/ToyasCard.lean, 'card_holds'). Laid BY PROGRAM, IN A SANDBOX (cutbox-door.mjs). By AI agents, Wed Nov 11 2026. No macro, syntax, notation, axiom, sorry.
-/
import Derived.Test.YtachjodnhgmoiaaDoorRows
import GoSem.ClaimSeven
namespace Go.Proofs.YtachjodnhgmoiaaDoor
namespace Rows

/-- THE TIED CARD OF 'laws.FnExactFillShape'. -/
def fnExactFillShapeCard : Claim7 := { stood := { row := fnExactFillShapeRow, standIns := [], harness := (true, "fec2c6006f76103cc5ef256cee5b1e115a21903d3e14752a11cfbec660d7657b"), looks := true }, kinds := [], alts := [], laidByText := true, laidKinds := [.data, .data, .data], laidTests := true, laidLooks := .later }
def FnExactFillShapeCardSaid : Prop := Claim7.holds Tryd.pinned (.plain (OpenSpec.ofChange fnExactFillShapeSpec)) fnExactFillShapeCard

/-- THE TIED CARD OF 'laws.FnExactReshapeArray'. -/
def fnExactReshapeArrayCard : Claim7 := { stood := { row := fnExactReshapeArrayRow, standIns := [], harness := (true, "fec2c6006f76103cc5ef256cee5b1e115a21903d3e14752a11cfbec660d7657b"), looks := true }, kinds := [], alts := [], laidByText := true, laidKinds := [.data, .data, .data], laidTests := true, laidLooks := .later }
def FnExactReshapeArrayCardSaid : Prop := Claim7.holds Tryd.pinned (.plain (OpenSpec.ofChange fnExactReshapeArraySpec)) fnExactReshapeArrayCard

/-- THE TIED CARD OF 'laws.FnExactPadArray'. -/
def fnExactPadArrayCard : Claim7 := { stood := { row := fnExactPadArrayRow, standIns := [], harness := (true, "fec2c6006f76103cc5ef256cee5b1e115a21903d3e14752a11cfbec660d7657b"), looks := true }, kinds := [], alts := [], laidByText := true, laidKinds := [.data, .data, .data], laidTests := true, laidLooks := .later }
def FnExactPadArrayCardSaid : Prop := Claim7.holds Tryd.pinned (.plain (OpenSpec.ofChange fnExactPadArraySpec)) fnExactPadArrayCard

/-- THE TIED CARD OF 'laws.FnExactUnpackVector'. -/
def fnExactUnpackVectorCard : Claim7 := { stood := { row := fnExactUnpackVectorRow, standIns := [], harness := (true, "fec2c6006f76103cc5ef256cee5b1e115a21903d3e14752a11cfbec660d7657b"), looks := true }, kinds := [], alts := [], laidByText := true, laidKinds := [.data, .data, .data], laidTests := true, laidLooks := .later }
def FnExactUnpackVectorCardSaid : Prop := Claim7.holds Tryd.pinned (.plain (OpenSpec.ofChange fnExactUnpackVectorSpec)) fnExactUnpackVectorCard

/-- THE TIED CARD OF 'laws.FnPickVector'. -/
def fnPickVectorCard : Claim7 := { stood := { row := fnPickVectorRow, standIns := [], harness := (true, "fec2c6006f76103cc5ef256cee5b1e115a21903d3e14752a11cfbec660d7657b"), looks := true }, kinds := [], alts := [], laidByText := true, laidKinds := [.data, .data, .data], laidTests := true, laidLooks := .later }
def FnPickVectorCardSaid : Prop := Claim7.holds Tryd.pinned (.plain (OpenSpec.ofChange fnPickVectorSpec)) fnPickVectorCard

/-- THE SECOND FORM's CARD OF 'laws.FnExactFillShape'. -/
def fnExactFillShapeUptoCard : Claim7 := { stood := { row := fnExactFillShapeUptoRow, standIns := [], harness := (true, "fec2c6006f76103cc5ef256cee5b1e115a21903d3e14752a11cfbec660d7657b"), looks := true }, kinds := [], alts := [], laidByText := true, laidKinds := [.data, .data, .data], laidTests := true, laidLooks := .later }
def FnExactFillShapeUptoCardSaid : Prop := Claim7.holds Tryd.pinned (.plain (OpenSpec.upto fnExactFillShapeSpec)) fnExactFillShapeUptoCard

/-- THE SECOND FORM's CARD OF 'laws.FnExactReshapeArray'. -/
def fnExactReshapeArrayUptoCard : Claim7 := { stood := { row := fnExactReshapeArrayUptoRow, standIns := [], harness := (true, "fec2c6006f76103cc5ef256cee5b1e115a21903d3e14752a11cfbec660d7657b"), looks := true }, kinds := [], alts := [], laidByText := true, laidKinds := [.data, .data, .data], laidTests := true, laidLooks := .later }
def FnExactReshapeArrayUptoCardSaid : Prop := Claim7.holds Tryd.pinned (.plain (OpenSpec.upto fnExactReshapeArraySpec)) fnExactReshapeArrayUptoCard

/-- THE SECOND FORM's CARD OF 'laws.FnExactPadArray'. -/
def fnExactPadArrayUptoCard : Claim7 := { stood := { row := fnExactPadArrayUptoRow, standIns := [], harness := (true, "fec2c6006f76103cc5ef256cee5b1e115a21903d3e14752a11cfbec660d7657b"), looks := true }, kinds := [], alts := [], laidByText := true, laidKinds := [.data, .data, .data], laidTests := true, laidLooks := .later }
def FnExactPadArrayUptoCardSaid : Prop := Claim7.holds Tryd.pinned (.plain (OpenSpec.upto fnExactPadArraySpec)) fnExactPadArrayUptoCard

/-- THE SECOND FORM's CARD OF 'laws.FnExactUnpackVector'. -/
def fnExactUnpackVectorUptoCard : Claim7 := { stood := { row := fnExactUnpackVectorUptoRow, standIns := [], harness := (true, "fec2c6006f76103cc5ef256cee5b1e115a21903d3e14752a11cfbec660d7657b"), looks := true }, kinds := [], alts := [], laidByText := true, laidKinds := [.data, .data, .data], laidTests := true, laidLooks := .later }
def FnExactUnpackVectorUptoCardSaid : Prop := Claim7.holds Tryd.pinned (.plain (OpenSpec.upto fnExactUnpackVectorSpec)) fnExactUnpackVectorUptoCard

/-- THE SECOND FORM's CARD OF 'laws.FnPickVector'. -/
def fnPickVectorUptoCard : Claim7 := { stood := { row := fnPickVectorUptoRow, standIns := [], harness := (true, "fec2c6006f76103cc5ef256cee5b1e115a21903d3e14752a11cfbec660d7657b"), looks := true }, kinds := [], alts := [], laidByText := true, laidKinds := [.data, .data, .data], laidTests := true, laidLooks := .later }
def FnPickVectorUptoCardSaid : Prop := Claim7.holds Tryd.pinned (.plain (OpenSpec.upto fnPickVectorSpec)) fnPickVectorUptoCard
end Rows
end Go.Proofs.YtachjodnhgmoiaaDoor
