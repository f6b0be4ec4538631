/-
  DERIVED. GIVEN WITH THE SEED: THE CARDS: each row of YtgfddabccjfhiabDoorRows.lean that lists a variable, with what it lists TIED to the program's text (the seventh form; the later family's looks); each row that meets fmt, with fmt's text TOLD by the authors' own Lean function (tested against real Go, not proved from fmt's source: count such statements apart). THE CARD IS WHAT COUNTS. Prove the row's statement (the work); the ties are given (YtgfddabccjfhiabDoorTie.lean); close each card by the builder's one call (the guide's Derived/Test/ToyasCard.lean, 'card_holds'). Laid BY PROGRAM, IN A SANDBOX (cutbox-door.mjs). By AI agents, Wed Nov 11 2026. No macro, syntax, notation, axiom, sorry.
-/
import Derived.Test.YtgfddabccjfhiabDoorRows
import GoSem.ClaimSeven
namespace Go.Proofs.YtgfddabccjfhiabDoor
namespace Rows

/-- THE TIED CARD OF 'annalslaw14.SkipShort'. -/
def skipShortCard : Claim7 := { stood := { row := skipShortRow, standIns := [], harness := (true, "fb9e82f0aa909230f1b90fa1a2fb4b60b1e93b8c25cf4c45cc545ea3fe790134"), looks := false }, kinds := [], alts := [], laidByText := true, laidKinds := [.data, .data], laidTests := true, laidLooks := .later }
def SkipShortCardSaid : Prop := Claim7.holds Tryd.pinned (.plain (OpenSpec.ofChange skipShortSpec)) skipShortCard

/-- THE TIED CARD OF 'annalslaw14.SkipOne'. -/
def skipOneCard : Claim7 := { stood := { row := skipOneRow, standIns := [], harness := (true, "fb9e82f0aa909230f1b90fa1a2fb4b60b1e93b8c25cf4c45cc545ea3fe790134"), looks := false }, kinds := [], alts := [], laidByText := true, laidKinds := [.data, .data, .data, .data], laidTests := true, laidLooks := .later }
def SkipOneCardSaid : Prop := Claim7.holds Tryd.pinned (.plain (OpenSpec.ofChange skipOneSpec)) skipOneCard

/-- THE SECOND FORM's CARD OF 'annalslaw14.SkipShort'. -/
def skipShortUptoCard : Claim7 := { stood := { row := skipShortUptoRow, standIns := [], harness := (true, "fb9e82f0aa909230f1b90fa1a2fb4b60b1e93b8c25cf4c45cc545ea3fe790134"), looks := false }, kinds := [], alts := [], laidByText := true, laidKinds := [.data, .data], laidTests := true, laidLooks := .later }
def SkipShortUptoCardSaid : Prop := Claim7.holds Tryd.pinned (.plain (OpenSpec.upto skipShortSpec)) skipShortUptoCard

/-- THE SECOND FORM's CARD OF 'annalslaw14.SkipOne'. -/
def skipOneUptoCard : Claim7 := { stood := { row := skipOneUptoRow, standIns := [], harness := (true, "fb9e82f0aa909230f1b90fa1a2fb4b60b1e93b8c25cf4c45cc545ea3fe790134"), looks := false }, kinds := [], alts := [], laidByText := true, laidKinds := [.data, .data, .data, .data], laidTests := true, laidLooks := .later }
def SkipOneUptoCardSaid : Prop := Claim7.holds Tryd.pinned (.plain (OpenSpec.upto skipOneSpec)) skipOneUptoCard
end Rows
end Go.Proofs.YtgfddabccjfhiabDoor
