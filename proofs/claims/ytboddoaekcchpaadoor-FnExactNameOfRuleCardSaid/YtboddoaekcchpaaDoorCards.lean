/-
  DERIVED. GIVEN WITH THE SEED: THE CARDS: each row of YtboddoaekcchpaaDoorRows.lean that lists a variable, with what it lists TIED to the program's text (the seventh form; the later family's looks); each row that meets fmt, with fmt's text TOLD by the authors' own Lean function (tested against real Go, not proved from fmt's source: count such statements apart). THE CARD IS WHAT COUNTS. Prove the row's statement (the work); the ties are given (YtboddoaekcchpaaDoorTie.lean); close each card by the builder's one call (the guide's Derived/Test/ToyasCard.lean, 'card_holds'). Laid BY PROGRAM, IN A SANDBOX (cutbox-door.mjs). By AI agents, Wed Nov 11 2026. No macro, syntax, notation, axiom, sorry.
-/
import Derived.Test.YtboddoaekcchpaaDoorRows
import GoSem.ClaimSeven
namespace Go.Proofs.YtboddoaekcchpaaDoor
namespace Rows

/-- THE TIED CARD OF 'laws.FnExactNameOfRule'. -/
def fnExactNameOfRuleCard : Claim7 := { stood := { row := fnExactNameOfRuleRow, standIns := [], harness := (true, "137b161a404b4ecf8396c58c51f44552e63b540bf8488e6895800581e0fb5d0a"), looks := false }, kinds := [], alts := [], laidByText := true, laidKinds := [.data], laidTests := true, laidLooks := .later }
def FnExactNameOfRuleCardSaid : Prop := Claim7.holds Tryd.pinned (.plain (OpenSpec.ofChange fnExactNameOfRuleSpec)) fnExactNameOfRuleCard

/-- THE SECOND FORM's CARD OF 'laws.FnExactNameOfRule'. -/
def fnExactNameOfRuleUptoCard : Claim7 := { stood := { row := fnExactNameOfRuleUptoRow, standIns := [], harness := (true, "137b161a404b4ecf8396c58c51f44552e63b540bf8488e6895800581e0fb5d0a"), looks := false }, kinds := [], alts := [], laidByText := true, laidKinds := [.data], laidTests := true, laidLooks := .later }
def FnExactNameOfRuleUptoCardSaid : Prop := Claim7.holds Tryd.pinned (.plain (OpenSpec.upto fnExactNameOfRuleSpec)) fnExactNameOfRuleUptoCard
end Rows
end Go.Proofs.YtboddoaekcchpaaDoor
