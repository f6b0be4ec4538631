/-
  DERIVED. GIVEN WITH THE SEED: THE CARDS: each row of YtdjaemobfbbkoaaDoorRows.lean that lists a variable, with what it lists TIED to the program's text (the seventh form; the later family's looks); each row that meets fmt, with fmt's text TOLD by the authors' own Lean function (tested against real Go, not proved from fmt's source: count such statements apart). THE CARD IS WHAT COUNTS. Prove the row's statement (the work); the ties are given (YtdjaemobfbbkoaaDoorTie.lean); close each card by the builder's one call (the guide's Derived/Test/ToyasCard.lean, 'card_holds'). Laid BY PROGRAM, IN A SANDBOX (cutbox-door.mjs). By AI agents, Wed Nov 11 2026. No macro, syntax, notation, axiom, sorry.
-/
import Derived.Test.YtdjaemobfbbkoaaDoorRows
import GoSem.ClaimSeven
namespace Go.Proofs.YtdjaemobfbbkoaaDoor
namespace Rows

/-- THE TIED CARD OF 'annalslaw06.MtsKeys'. -/
def mtsKeysCard : Claim7 := { stood := { row := mtsKeysRow, standIns := [], harness := (true, "e92bf5547b3338d490d54a6d7f1a6f349a12f8cb7ded03baf18125257c92276e"), looks := false }, kinds := [], alts := [], laidByText := true, laidKinds := [.data, .data], laidTests := true, laidLooks := .later }
def MtsKeysCardSaid : Prop := Claim7.holds Tryd.pinned (.plain (OpenSpec.ofChange mtsKeysSpec)) mtsKeysCard

/-- THE TIED CARD OF 'annalslaw06.MtsBack'. -/
def mtsBackCard : Claim7 := { stood := { row := mtsBackRow, standIns := [], harness := (true, "e92bf5547b3338d490d54a6d7f1a6f349a12f8cb7ded03baf18125257c92276e"), looks := false }, kinds := [], alts := [], laidByText := true, laidKinds := [.data, .data], laidTests := true, laidLooks := .later }
def MtsBackCardSaid : Prop := Claim7.holds Tryd.pinned (.plain (OpenSpec.ofChange mtsBackSpec)) mtsBackCard

/-- THE TIED CARD OF 'annalslaw06.MtsBytes'. -/
def mtsBytesCard : Claim7 := { stood := { row := mtsBytesRow, standIns := [], harness := (true, "e92bf5547b3338d490d54a6d7f1a6f349a12f8cb7ded03baf18125257c92276e"), looks := false }, kinds := [], alts := [], laidByText := true, laidKinds := [.data, .data], laidTests := true, laidLooks := .later }
def MtsBytesCardSaid : Prop := Claim7.holds Tryd.pinned (.plain (OpenSpec.ofChange mtsBytesSpec)) mtsBytesCard

/-- THE SECOND FORM's CARD OF 'annalslaw06.MtsKeys'. -/
def mtsKeysUptoCard : Claim7 := { stood := { row := mtsKeysUptoRow, standIns := [], harness := (true, "e92bf5547b3338d490d54a6d7f1a6f349a12f8cb7ded03baf18125257c92276e"), looks := false }, kinds := [], alts := [], laidByText := true, laidKinds := [.data, .data], laidTests := true, laidLooks := .later }
def MtsKeysUptoCardSaid : Prop := Claim7.holds Tryd.pinned (.plain (OpenSpec.upto mtsKeysSpec)) mtsKeysUptoCard

/-- THE SECOND FORM's CARD OF 'annalslaw06.MtsBack'. -/
def mtsBackUptoCard : Claim7 := { stood := { row := mtsBackUptoRow, standIns := [], harness := (true, "e92bf5547b3338d490d54a6d7f1a6f349a12f8cb7ded03baf18125257c92276e"), looks := false }, kinds := [], alts := [], laidByText := true, laidKinds := [.data, .data], laidTests := true, laidLooks := .later }
def MtsBackUptoCardSaid : Prop := Claim7.holds Tryd.pinned (.plain (OpenSpec.upto mtsBackSpec)) mtsBackUptoCard

/-- THE SECOND FORM's CARD OF 'annalslaw06.MtsBytes'. -/
def mtsBytesUptoCard : Claim7 := { stood := { row := mtsBytesUptoRow, standIns := [], harness := (true, "e92bf5547b3338d490d54a6d7f1a6f349a12f8cb7ded03baf18125257c92276e"), looks := false }, kinds := [], alts := [], laidByText := true, laidKinds := [.data, .data], laidTests := true, laidLooks := .later }
def MtsBytesUptoCardSaid : Prop := Claim7.holds Tryd.pinned (.plain (OpenSpec.upto mtsBytesSpec)) mtsBytesUptoCard
end Rows
end Go.Proofs.YtdjaemobfbbkoaaDoor
