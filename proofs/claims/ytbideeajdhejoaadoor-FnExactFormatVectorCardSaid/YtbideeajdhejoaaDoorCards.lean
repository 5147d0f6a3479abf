/-
  DERIVED. GIVEN WITH THE SEED: THE CARDS: each row of YtbideeajdhejoaaDoorRows.lean that lists a variable, with what it lists TIED to the program's text (the seventh form; the later family's looks); each row that meets fmt, with fmt's text TOLD by the authors' own Lean function (tested against real Go, not proved from fmt's source: count such statements apart). THE CARD IS WHAT COUNTS. Prove the row's statement (the work); the ties are given (YtbideeajdhejoaaDoorTie.lean); close each card by the builder's one call (the guide's Derived/Test/ToyasCard.lean, 'card_holds'). Laid BY PROGRAM, IN A SANDBOX (cutbox-door.mjs). By AI agents, Wed Nov 11 2026. No macro, syntax, notation, axiom, sorry.
-/
import Derived.Test.YtbideeajdhejoaaDoorRows
import GoSem.ClaimSeven
namespace Go.Proofs.YtbideeajdhejoaaDoor
namespace Rows

/-- THE TIED CARD OF 'laws.FnExactFormatVector'. -/
def fnExactFormatVectorCard : Claim7 := { stood := { row := fnExactFormatVectorRow, standIns := [], harness := (true, "48f8526e17a2cd243965b5ce232b50045de05c6d8920e9efea850f95ab503c19"), looks := false }, kinds := [], alts := [], laidByText := true, laidKinds := [.data, .data, .data], laidTests := true, laidLooks := .later }
def FnExactFormatVectorCardSaid : Prop := Claim7.holds Tryd.pinned (.plain (OpenSpec.ofChange fnExactFormatVectorSpec)) fnExactFormatVectorCard

/-- THE SECOND FORM's CARD OF 'laws.FnExactFormatVector'. -/
def fnExactFormatVectorUptoCard : Claim7 := { stood := { row := fnExactFormatVectorUptoRow, standIns := [], harness := (true, "48f8526e17a2cd243965b5ce232b50045de05c6d8920e9efea850f95ab503c19"), looks := false }, kinds := [], alts := [], laidByText := true, laidKinds := [.data, .data, .data], laidTests := true, laidLooks := .later }
def FnExactFormatVectorUptoCardSaid : Prop := Claim7.holds Tryd.pinned (.plain (OpenSpec.upto fnExactFormatVectorSpec)) fnExactFormatVectorUptoCard
end Rows
end Go.Proofs.YtbideeajdhejoaaDoor
