/-
  DERIVED. GIVEN WITH THE SEED: THE CARDS: each row of YtjnnjggcanodhaaGreatDoorRows.lean that lists a variable, with what it lists TIED to the program's text (the seventh form; the later family's looks); each row that meets fmt, with fmt's text TOLD by the authors' own Lean function (tested against real Go, not proved from fmt's source: count such statements apart). THE CARD IS WHAT COUNTS. Prove the row's statement (the work); the ties are given (YtjnnjggcanodhaaGreatDoorTie.lean); close each card by the builder's one call (the guide's Derived/Test/ToyasCard.lean, 'card_holds'). Laid BY PROGRAM, IN A SANDBOX (cutbox-door.mjs). By AI agents, Wed Nov 11 2026. No macro, syntax, notation, axiom, sorry.
-/
import Derived.Test.YtjnnjggcanodhaaGreatDoorRows
import GoSem.ClaimSeven
namespace Go.Proofs.YtjnnjggcanodhaaGreatDoor
namespace Rows

/-- THE TIED CARD OF 'annalslaw22.SnapsNew'. -/
def snapsNewCard : Claim7 := { stood := { row := snapsNewRow, standIns := [], harness := (true, "366915e3085c73568e3a98b2031cc7d66e3c148cd93e64ada6164bd8a213ff69"), looks := true }, kinds := [], alts := [], laidByText := true, laidKinds := [.data, .data], laidTests := true, laidLooks := .later }
def SnapsNewCardSaid : Prop := Claim7.holds Tryz.pinned (.plain (OpenSpec.ofChange snapsNewSpec)) snapsNewCard

/-- THE TIED CARD OF 'annalslaw22.SnapsNobody'. -/
def snapsNobodyCard : Claim7 := { stood := { row := snapsNobodyRow, standIns := [], harness := (true, "366915e3085c73568e3a98b2031cc7d66e3c148cd93e64ada6164bd8a213ff69"), looks := true }, kinds := [], alts := [], laidByText := true, laidKinds := [.data, .data], laidTests := true, laidLooks := .later }
def SnapsNobodyCardSaid : Prop := Claim7.holds Tryz.pinned (.plain (OpenSpec.ofChange snapsNobodySpec)) snapsNobodyCard

/-- THE SECOND FORM's CARD OF 'annalslaw22.SnapsNew'. -/
def snapsNewUptoCard : Claim7 := { stood := { row := snapsNewUptoRow, standIns := [], harness := (true, "366915e3085c73568e3a98b2031cc7d66e3c148cd93e64ada6164bd8a213ff69"), looks := true }, kinds := [], alts := [], laidByText := true, laidKinds := [.data, .data], laidTests := true, laidLooks := .later }
def SnapsNewUptoCardSaid : Prop := Claim7.holds Tryz.pinned (.plain (OpenSpec.upto snapsNewSpec)) snapsNewUptoCard

/-- THE SECOND FORM's CARD OF 'annalslaw22.SnapsNobody'. -/
def snapsNobodyUptoCard : Claim7 := { stood := { row := snapsNobodyUptoRow, standIns := [], harness := (true, "366915e3085c73568e3a98b2031cc7d66e3c148cd93e64ada6164bd8a213ff69"), looks := true }, kinds := [], alts := [], laidByText := true, laidKinds := [.data, .data], laidTests := true, laidLooks := .later }
def SnapsNobodyUptoCardSaid : Prop := Claim7.holds Tryz.pinned (.plain (OpenSpec.upto snapsNobodySpec)) snapsNobodyUptoCard
end Rows
end Go.Proofs.YtjnnjggcanodhaaGreatDoor
