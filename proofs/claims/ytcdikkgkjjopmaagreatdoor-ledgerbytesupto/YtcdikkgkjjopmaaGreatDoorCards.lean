/-
  DERIVED. GIVEN WITH THE SEED: THE CARDS: each row of YtcdikkgkjjopmaaGreatDoorRows.lean that lists a variable, with what it lists TIED to the program's text (the seventh form; the later family's looks); each row that meets fmt, with fmt's text TOLD by the authors' own Lean function (tested against real Go, not proved from fmt's source: count such statements apart). THE CARD IS WHAT COUNTS. Prove the row's statement (the work); the ties are given (YtcdikkgkjjopmaaGreatDoorTie.lean); close each card by the builder's one call (the guide's Derived/Test/ToyasCard.lean, 'card_holds'). Laid BY PROGRAM, IN A SANDBOX (cutbox-door.mjs). By AI agents, Wed Nov 11 2026. No macro, syntax, notation, axiom, sorry.
-/
import Derived.Test.YtcdikkgkjjopmaaGreatDoorRows
import GoSem.ClaimSeven
namespace Go.Proofs.YtcdikkgkjjopmaaGreatDoor
namespace Rows

/-- THE TIED CARD OF 'annalslaw23.LedgerBytes'. -/
def ledgerBytesCard : Claim7 := { stood := { row := ledgerBytesRow, standIns := [], harness := (true, "6d332b79ea3a8a4854d32265ebbbda7ab711273ef70ee08c1c7ee6f4af15264f"), looks := false }, kinds := [], alts := [], laidByText := true, laidKinds := [.data, .data], laidTests := true, laidLooks := .later }
def LedgerBytesCardSaid : Prop := Claim7.holds Tryz.pinned (.plain (OpenSpec.ofChange ledgerBytesSpec)) ledgerBytesCard

/-- THE SECOND FORM's CARD OF 'annalslaw23.LedgerBytes'. -/
def ledgerBytesUptoCard : Claim7 := { stood := { row := ledgerBytesUptoRow, standIns := [], harness := (true, "6d332b79ea3a8a4854d32265ebbbda7ab711273ef70ee08c1c7ee6f4af15264f"), looks := false }, kinds := [], alts := [], laidByText := true, laidKinds := [.data, .data], laidTests := true, laidLooks := .later }
def LedgerBytesUptoCardSaid : Prop := Claim7.holds Tryz.pinned (.plain (OpenSpec.upto ledgerBytesSpec)) ledgerBytesUptoCard
end Rows
end Go.Proofs.YtcdikkgkjjopmaaGreatDoor
