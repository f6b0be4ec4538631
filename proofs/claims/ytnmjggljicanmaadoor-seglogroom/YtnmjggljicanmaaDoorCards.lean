/-
  DERIVED. GIVEN WITH THE SEED: THE CARDS: each row of YtnmjggljicanmaaDoorRows.lean that lists a variable, with what it lists TIED to the program's text (the seventh form; the later family's looks); each row that meets fmt, with fmt's text TOLD by the authors' own Lean function (tested against real Go, not proved from fmt's source: count such statements apart). THE CARD IS WHAT COUNTS. Prove the row's statement (the work); the ties are given (YtnmjggljicanmaaDoorTie.lean); close each card by the builder's one call (the guide's Derived/Test/ToyasCard.lean, 'card_holds'). Laid BY PROGRAM, IN A SANDBOX (cutbox-door.mjs). By AI agents, Wed Nov 11 2026. No macro, syntax, notation, axiom, sorry.
-/
import Derived.Test.YtnmjggljicanmaaDoorRows
import GoSem.ClaimSeven
namespace Go.Proofs.YtnmjggljicanmaaDoor
namespace Rows

/-- THE TIED CARD OF 'annalslaw08.SeglogRoom'. -/
def seglogRoomCard : Claim7 := { stood := { row := seglogRoomRow, standIns := [], harness := (true, "4ae67b21f000f5a61314eb63d0afdbf7deaf70072ebc51d81aa217d515434b7a"), looks := false }, kinds := [], alts := [], laidByText := true, laidKinds := [.data, .data], laidTests := true, laidLooks := .later }
def SeglogRoomCardSaid : Prop := Claim7.holds Tryd.pinned (.plain (OpenSpec.ofChange seglogRoomSpec)) seglogRoomCard

/-- THE SECOND FORM's CARD OF 'annalslaw08.SeglogRoom'. -/
def seglogRoomUptoCard : Claim7 := { stood := { row := seglogRoomUptoRow, standIns := [], harness := (true, "4ae67b21f000f5a61314eb63d0afdbf7deaf70072ebc51d81aa217d515434b7a"), looks := false }, kinds := [], alts := [], laidByText := true, laidKinds := [.data, .data], laidTests := true, laidLooks := .later }
def SeglogRoomUptoCardSaid : Prop := Claim7.holds Tryd.pinned (.plain (OpenSpec.upto seglogRoomSpec)) seglogRoomUptoCard
end Rows
end Go.Proofs.YtnmjggljicanmaaDoor
