/-
  DERIVED. GIVEN WITH THE SEED: THE CARDS: each row of YtkgoiemnhhdlbaaDoorRows.lean that lists a variable, with what it lists TIED to the program's text (the seventh form; the later family's looks); each row that meets fmt, with fmt's text TOLD by the authors' own Lean function (tested against real Go, not proved from fmt's source: count such statements apart). THE CARD IS WHAT COUNTS. Prove the row's statement (the work); the ties are given (YtkgoiemnhhdlbaaDoorTie.lean); close each card by the builder's one call (the guide's Derived/Test/ToyasCard.lean, 'card_holds'). Laid BY PROGRAM, IN A SANDBOX (cutbox-door.mjs). By AI agents, Wed Nov 11 2026. No macro, syntax, notation, axiom, sorry.
-/
import Derived.Test.YtkgoiemnhhdlbaaDoorRows
import GoSem.ClaimSeven
namespace Go.Proofs.YtkgoiemnhhdlbaaDoor
namespace Rows

/-- THE TIED CARD OF 'annalslaw13.RecordOpened'. -/
def recordOpenedCard : Claim7 := { stood := { row := recordOpenedRow, standIns := [], harness := (true, "096f467224f6418f162559f772fed5b2f5b82e56b45e6da95abf708525dd2451"), looks := false }, kinds := [], alts := [], laidByText := true, laidKinds := [.data, .data], laidTests := true, laidLooks := .later }
def RecordOpenedCardSaid : Prop := Claim7.holds Tryd.pinned (.plain (OpenSpec.ofChange recordOpenedSpec)) recordOpenedCard

/-- THE SECOND FORM's CARD OF 'annalslaw13.RecordOpened'. -/
def recordOpenedUptoCard : Claim7 := { stood := { row := recordOpenedUptoRow, standIns := [], harness := (true, "096f467224f6418f162559f772fed5b2f5b82e56b45e6da95abf708525dd2451"), looks := false }, kinds := [], alts := [], laidByText := true, laidKinds := [.data, .data], laidTests := true, laidLooks := .later }
def RecordOpenedUptoCardSaid : Prop := Claim7.holds Tryd.pinned (.plain (OpenSpec.upto recordOpenedSpec)) recordOpenedUptoCard
end Rows
end Go.Proofs.YtkgoiemnhhdlbaaDoor
