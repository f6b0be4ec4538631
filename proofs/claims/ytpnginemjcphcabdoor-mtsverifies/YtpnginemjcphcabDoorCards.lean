/-
  DERIVED. GIVEN WITH THE SEED: THE CARDS: each row of YtpnginemjcphcabDoorRows.lean that lists a variable, with what it lists TIED to the program's text (the seventh form; the later family's looks); each row that meets fmt, with fmt's text TOLD by the authors' own Lean function (tested against real Go, not proved from fmt's source: count such statements apart). THE CARD IS WHAT COUNTS. Prove the row's statement (the work); the ties are given (YtpnginemjcphcabDoorTie.lean); close each card by the builder's one call (the guide's Derived/Test/ToyasCard.lean, 'card_holds'). Laid BY PROGRAM, IN A SANDBOX (cutbox-door.mjs). By AI agents, Wed Nov 11 2026. No macro, syntax, notation, axiom, sorry.
-/
import Derived.Test.YtpnginemjcphcabDoorRows
import GoSem.ClaimSeven
namespace Go.Proofs.YtpnginemjcphcabDoor
namespace Rows

/-- THE TIED CARD OF 'annalslaw06.MtsKeys'. -/
def mtsKeysCard : Claim7 := { stood := { row := mtsKeysRow, standIns := [], harness := (true, "93a179c9e0cd13d0f5a6a41c606e4ec9220727daf2b1243a7b2249c1d354fea1"), looks := false }, kinds := [], alts := [], laidByText := true, laidKinds := [.data, .data], laidTests := true, laidLooks := .later }
def MtsKeysCardSaid : Prop := Claim7.holds Tryd.pinned (.plain (OpenSpec.ofChange mtsKeysSpec)) mtsKeysCard

/-- THE TIED CARD OF 'annalslaw06.MtsNew'. -/
def mtsNewCard : Claim7 := { stood := { row := mtsNewRow, standIns := [], harness := (true, "93a179c9e0cd13d0f5a6a41c606e4ec9220727daf2b1243a7b2249c1d354fea1"), looks := false }, kinds := [], alts := [], laidByText := true, laidKinds := [.data, .data], laidTests := true, laidLooks := .later }
def MtsNewCardSaid : Prop := Claim7.holds Tryd.pinned (.plain (OpenSpec.ofChange mtsNewSpec)) mtsNewCard

/-- THE TIED CARD OF 'annalslaw06.MtsVerifies'. -/
def mtsVerifiesCard : Claim7 := { stood := { row := mtsVerifiesRow, standIns := [], harness := (true, "93a179c9e0cd13d0f5a6a41c606e4ec9220727daf2b1243a7b2249c1d354fea1"), looks := false }, kinds := [], alts := [], laidByText := true, laidKinds := [.data, .data], laidTests := true, laidLooks := .later }
def MtsVerifiesCardSaid : Prop := Claim7.holds Tryd.pinned (.plain (OpenSpec.ofChange mtsVerifiesSpec)) mtsVerifiesCard

/-- THE TIED CARD OF 'annalslaw06.MtsBack'. -/
def mtsBackCard : Claim7 := { stood := { row := mtsBackRow, standIns := [], harness := (true, "93a179c9e0cd13d0f5a6a41c606e4ec9220727daf2b1243a7b2249c1d354fea1"), looks := false }, kinds := [], alts := [], laidByText := true, laidKinds := [.data, .data], laidTests := true, laidLooks := .later }
def MtsBackCardSaid : Prop := Claim7.holds Tryd.pinned (.plain (OpenSpec.ofChange mtsBackSpec)) mtsBackCard

/-- THE TIED CARD OF 'annalslaw06.MtsBytes'. -/
def mtsBytesCard : Claim7 := { stood := { row := mtsBytesRow, standIns := [], harness := (true, "93a179c9e0cd13d0f5a6a41c606e4ec9220727daf2b1243a7b2249c1d354fea1"), looks := false }, kinds := [], alts := [], laidByText := true, laidKinds := [.data, .data], laidTests := true, laidLooks := .later }
def MtsBytesCardSaid : Prop := Claim7.holds Tryd.pinned (.plain (OpenSpec.ofChange mtsBytesSpec)) mtsBytesCard

/-- THE TIED CARD OF 'annalslaw06.MtsNobody'. -/
def mtsNobodyCard : Claim7 := { stood := { row := mtsNobodyRow, standIns := [], harness := (true, "93a179c9e0cd13d0f5a6a41c606e4ec9220727daf2b1243a7b2249c1d354fea1"), looks := false }, kinds := [], alts := [], laidByText := true, laidKinds := [.data, .data], laidTests := true, laidLooks := .later }
def MtsNobodyCardSaid : Prop := Claim7.holds Tryd.pinned (.plain (OpenSpec.ofChange mtsNobodySpec)) mtsNobodyCard

/-- THE SECOND FORM's CARD OF 'annalslaw06.MtsKeys'. -/
def mtsKeysUptoCard : Claim7 := { stood := { row := mtsKeysUptoRow, standIns := [], harness := (true, "93a179c9e0cd13d0f5a6a41c606e4ec9220727daf2b1243a7b2249c1d354fea1"), looks := false }, kinds := [], alts := [], laidByText := true, laidKinds := [.data, .data], laidTests := true, laidLooks := .later }
def MtsKeysUptoCardSaid : Prop := Claim7.holds Tryd.pinned (.plain (OpenSpec.upto mtsKeysSpec)) mtsKeysUptoCard

/-- THE SECOND FORM's CARD OF 'annalslaw06.MtsNew'. -/
def mtsNewUptoCard : Claim7 := { stood := { row := mtsNewUptoRow, standIns := [], harness := (true, "93a179c9e0cd13d0f5a6a41c606e4ec9220727daf2b1243a7b2249c1d354fea1"), looks := false }, kinds := [], alts := [], laidByText := true, laidKinds := [.data, .data], laidTests := true, laidLooks := .later }
def MtsNewUptoCardSaid : Prop := Claim7.holds Tryd.pinned (.plain (OpenSpec.upto mtsNewSpec)) mtsNewUptoCard

/-- THE SECOND FORM's CARD OF 'annalslaw06.MtsVerifies'. -/
def mtsVerifiesUptoCard : Claim7 := { stood := { row := mtsVerifiesUptoRow, standIns := [], harness := (true, "93a179c9e0cd13d0f5a6a41c606e4ec9220727daf2b1243a7b2249c1d354fea1"), looks := false }, kinds := [], alts := [], laidByText := true, laidKinds := [.data, .data], laidTests := true, laidLooks := .later }
def MtsVerifiesUptoCardSaid : Prop := Claim7.holds Tryd.pinned (.plain (OpenSpec.upto mtsVerifiesSpec)) mtsVerifiesUptoCard

/-- THE SECOND FORM's CARD OF 'annalslaw06.MtsBack'. -/
def mtsBackUptoCard : Claim7 := { stood := { row := mtsBackUptoRow, standIns := [], harness := (true, "93a179c9e0cd13d0f5a6a41c606e4ec9220727daf2b1243a7b2249c1d354fea1"), looks := false }, kinds := [], alts := [], laidByText := true, laidKinds := [.data, .data], laidTests := true, laidLooks := .later }
def MtsBackUptoCardSaid : Prop := Claim7.holds Tryd.pinned (.plain (OpenSpec.upto mtsBackSpec)) mtsBackUptoCard

/-- THE SECOND FORM's CARD OF 'annalslaw06.MtsBytes'. -/
def mtsBytesUptoCard : Claim7 := { stood := { row := mtsBytesUptoRow, standIns := [], harness := (true, "93a179c9e0cd13d0f5a6a41c606e4ec9220727daf2b1243a7b2249c1d354fea1"), looks := false }, kinds := [], alts := [], laidByText := true, laidKinds := [.data, .data], laidTests := true, laidLooks := .later }
def MtsBytesUptoCardSaid : Prop := Claim7.holds Tryd.pinned (.plain (OpenSpec.upto mtsBytesSpec)) mtsBytesUptoCard

/-- THE SECOND FORM's CARD OF 'annalslaw06.MtsNobody'. -/
def mtsNobodyUptoCard : Claim7 := { stood := { row := mtsNobodyUptoRow, standIns := [], harness := (true, "93a179c9e0cd13d0f5a6a41c606e4ec9220727daf2b1243a7b2249c1d354fea1"), looks := false }, kinds := [], alts := [], laidByText := true, laidKinds := [.data, .data], laidTests := true, laidLooks := .later }
def MtsNobodyUptoCardSaid : Prop := Claim7.holds Tryd.pinned (.plain (OpenSpec.upto mtsNobodySpec)) mtsNobodyUptoCard
end Rows
end Go.Proofs.YtpnginemjcphcabDoor
