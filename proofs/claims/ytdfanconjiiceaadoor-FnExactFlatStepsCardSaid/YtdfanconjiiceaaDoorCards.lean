/-
  DERIVED. GIVEN WITH THE SEED: THE CARDS: each row of YtdfanconjiiceaaDoorRows.lean that lists a variable, with what it lists TIED to the program's text (the seventh form; the later family's looks); each row that meets fmt, with fmt's text TOLD by the authors' own Lean function (tested against real Go, not proved from fmt's source: count such statements apart). THE CARD IS WHAT COUNTS. Prove the row's statement (the work); the ties are given (YtdfanconjiiceaaDoorTie.lean); close each card by the builder's one call (the guide's Derived/Test/ToyasCard.lean, 'card_holds'). Laid BY PROGRAM, IN A SANDBOX (cutbox-door.mjs). By AI agents, Wed Nov 11 2026. No macro, syntax, notation, axiom, sorry.
-/
import Derived.Test.YtdfanconjiiceaaDoorRows
import GoSem.ClaimSeven
namespace Go.Proofs.YtdfanconjiiceaaDoor
namespace Rows

/-- THE TIED CARD OF 'laws.FnExactFlatSteps'. -/
def fnExactFlatStepsCard : Claim7 := { stood := { row := fnExactFlatStepsRow, standIns := [], harness := (true, "baf438592740b85c295a4c1c60d8b019bee1646aedb0de7c796731c82d6d8de3"), looks := true }, kinds := [], alts := [], laidByText := true, laidKinds := [.data, .pinned], laidTests := true, laidLooks := .later }
def FnExactFlatStepsCardSaid : Prop := Claim7.holds Tryd.pinned (.plain (OpenSpec.ofChange fnExactFlatStepsSpec)) fnExactFlatStepsCard

/-- THE SECOND FORM's CARD OF 'laws.FnExactFlatSteps'. -/
def fnExactFlatStepsUptoCard : Claim7 := { stood := { row := fnExactFlatStepsUptoRow, standIns := [], harness := (true, "baf438592740b85c295a4c1c60d8b019bee1646aedb0de7c796731c82d6d8de3"), looks := true }, kinds := [], alts := [], laidByText := true, laidKinds := [.data, .pinned], laidTests := true, laidLooks := .later }
def FnExactFlatStepsUptoCardSaid : Prop := Claim7.holds Tryd.pinned (.plain (OpenSpec.upto fnExactFlatStepsSpec)) fnExactFlatStepsUptoCard
end Rows
end Go.Proofs.YtdfanconjiiceaaDoor
