/-
  DERIVED. GIVEN WITH THE SEED: THE CARDS: each row of YtahfjemllkbpgaaGreatDoorRows.lean that lists a variable, with what it lists TIED to the program's text (the seventh form; the later family's looks); each row that meets fmt, with fmt's text TOLD by the authors' own Lean function (tested against real Go, not proved from fmt's source: count such statements apart). THE CARD IS WHAT COUNTS. Prove the row's statement (the work); the ties are given (YtahfjemllkbpgaaGreatDoorTie.lean); close each card by the builder's one call (the guide's Derived/Test/ToyasCard.lean, 'card_holds'). Laid BY PROGRAM, IN A SANDBOX (cutbox-door.mjs). By AI agents, Wed Nov 11 2026. No macro, syntax, notation, axiom, sorry.
-/
import Derived.Test.YtahfjemllkbpgaaGreatDoorRows
import GoSem.ClaimSeven
namespace Go.Proofs.YtahfjemllkbpgaaGreatDoor
namespace Rows

/-- THE TIED CARD OF 'annalslaw17.PathAny'. -/
def pathAnyCard : Claim7 := { stood := { row := pathAnyRow, standIns := [], harness := (true, "9b6d9d43be90934e0eda1069b894eb2c9cb2df729e316168be064b1b5a1a5984"), looks := true }, kinds := [], alts := [], laidByText := true, laidKinds := [.data, .data], laidTests := true, laidLooks := .later }
def PathAnyCardSaid : Prop := Claim7.holds Tryz.pinned (.plain (OpenSpec.ofChange pathAnySpec)) pathAnyCard

/-- THE TIED CARD OF 'annalslaw17.PathOne'. -/
def pathOneCard : Claim7 := { stood := { row := pathOneRow, standIns := [], harness := (true, "9b6d9d43be90934e0eda1069b894eb2c9cb2df729e316168be064b1b5a1a5984"), looks := true }, kinds := [], alts := [], laidByText := true, laidKinds := [.data, .data], laidTests := true, laidLooks := .later }
def PathOneCardSaid : Prop := Claim7.holds Tryz.pinned (.plain (OpenSpec.ofChange pathOneSpec)) pathOneCard

/-- THE SECOND FORM's CARD OF 'annalslaw17.PathAny'. -/
def pathAnyUptoCard : Claim7 := { stood := { row := pathAnyUptoRow, standIns := [], harness := (true, "9b6d9d43be90934e0eda1069b894eb2c9cb2df729e316168be064b1b5a1a5984"), looks := true }, kinds := [], alts := [], laidByText := true, laidKinds := [.data, .data], laidTests := true, laidLooks := .later }
def PathAnyUptoCardSaid : Prop := Claim7.holds Tryz.pinned (.plain (OpenSpec.upto pathAnySpec)) pathAnyUptoCard

/-- THE SECOND FORM's CARD OF 'annalslaw17.PathOne'. -/
def pathOneUptoCard : Claim7 := { stood := { row := pathOneUptoRow, standIns := [], harness := (true, "9b6d9d43be90934e0eda1069b894eb2c9cb2df729e316168be064b1b5a1a5984"), looks := true }, kinds := [], alts := [], laidByText := true, laidKinds := [.data, .data], laidTests := true, laidLooks := .later }
def PathOneUptoCardSaid : Prop := Claim7.holds Tryz.pinned (.plain (OpenSpec.upto pathOneSpec)) pathOneUptoCard
end Rows
end Go.Proofs.YtahfjemllkbpgaaGreatDoor
