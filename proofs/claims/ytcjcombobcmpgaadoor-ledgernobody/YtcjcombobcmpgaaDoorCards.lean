/-
  DERIVED. GIVEN WITH THE SEED: THE CARDS: each row of YtcjcombobcmpgaaDoorRows.lean that lists a variable, with what it lists TIED to the program's text (the seventh form; the later family's looks); each row that meets fmt, with fmt's text TOLD by the authors' own Lean function (tested against real Go, not proved from fmt's source: count such statements apart). THE CARD IS WHAT COUNTS. Prove the row's statement (the work); the ties are given (YtcjcombobcmpgaaDoorTie.lean); close each card by the builder's one call (the guide's Derived/Test/ToyasCard.lean, 'card_holds'). Laid BY PROGRAM, IN A SANDBOX (cutbox-door.mjs). By AI agents, Wed Nov 11 2026. No macro, syntax, notation, axiom, sorry.
-/
import Derived.Test.YtcjcombobcmpgaaDoorRows
import GoSem.ClaimSeven
namespace Go.Proofs.YtcjcombobcmpgaaDoor
namespace Rows

/-- THE TIED CARD OF 'annalslaw23.LedgerNobody'. -/
def ledgerNobodyCard : Claim7 := { stood := { row := ledgerNobodyRow, standIns := [], harness := (true, "28fdc261f845b62304a3381df7c3703a99d68b41a1d31fd92b361aa4b45d99d3"), looks := false }, kinds := [], alts := [], laidByText := true, laidKinds := [.data, .data], laidTests := true, laidLooks := .later }
def LedgerNobodyCardSaid : Prop := Claim7.holds Tryd.pinned (.plain (OpenSpec.ofChange ledgerNobodySpec)) ledgerNobodyCard

/-- THE SECOND FORM's CARD OF 'annalslaw23.LedgerNobody'. -/
def ledgerNobodyUptoCard : Claim7 := { stood := { row := ledgerNobodyUptoRow, standIns := [], harness := (true, "28fdc261f845b62304a3381df7c3703a99d68b41a1d31fd92b361aa4b45d99d3"), looks := false }, kinds := [], alts := [], laidByText := true, laidKinds := [.data, .data], laidTests := true, laidLooks := .later }
def LedgerNobodyUptoCardSaid : Prop := Claim7.holds Tryd.pinned (.plain (OpenSpec.upto ledgerNobodySpec)) ledgerNobodyUptoCard
end Rows
end Go.Proofs.YtcjcombobcmpgaaDoor
