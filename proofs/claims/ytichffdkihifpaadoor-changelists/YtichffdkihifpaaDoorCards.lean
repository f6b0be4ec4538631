/-
  DERIVED. GIVEN WITH THE SEED: THE CARDS: each row of YtichffdkihifpaaDoorRows.lean that lists a variable, with what it lists TIED to the program's text (the seventh form; the later family's looks); each row that meets fmt, with fmt's text TOLD by the authors' own Lean function (tested against real Go, not proved from fmt's source: count such statements apart). THE CARD IS WHAT COUNTS. Prove the row's statement (the work); the ties are given (YtichffdkihifpaaDoorTie.lean); close each card by the builder's one call (the guide's Derived/Test/ToyasCard.lean, 'card_holds'). Laid BY PROGRAM, IN A SANDBOX (cutbox-door.mjs). By AI agents, Wed Nov 11 2026. No macro, syntax, notation, axiom, sorry.
-/
import Derived.Test.YtichffdkihifpaaDoorRows
import GoSem.ClaimSeven
namespace Go.Proofs.YtichffdkihifpaaDoor
namespace Rows

/-- THE TIED CARD OF 'annalslaw11.MerkleRoots'. -/
def merkleRootsCard : Claim7 := { stood := { row := merkleRootsRow, standIns := [], harness := (true, "1c3e754dc4afcc087c5440940b63ec303cf923d7e5f426553062cccc9e2d0f73"), looks := false }, kinds := [], alts := [], laidByText := true, laidKinds := [.data, .data], laidTests := true, laidLooks := .later }
def MerkleRootsCardSaid : Prop := Claim7.holds Tryd.pinned (.plain (OpenSpec.ofChange merkleRootsSpec)) merkleRootsCard

/-- THE TIED CARD OF 'annalslaw11.MerkleFolds'. -/
def merkleFoldsCard : Claim7 := { stood := { row := merkleFoldsRow, standIns := [], harness := (true, "1c3e754dc4afcc087c5440940b63ec303cf923d7e5f426553062cccc9e2d0f73"), looks := false }, kinds := [], alts := [], laidByText := true, laidKinds := [.data, .data], laidTests := true, laidLooks := .later }
def MerkleFoldsCardSaid : Prop := Claim7.holds Tryd.pinned (.plain (OpenSpec.ofChange merkleFoldsSpec)) merkleFoldsCard

/-- THE TIED CARD OF 'annalslaw11.MerkleBack'. -/
def merkleBackCard : Claim7 := { stood := { row := merkleBackRow, standIns := [], harness := (true, "1c3e754dc4afcc087c5440940b63ec303cf923d7e5f426553062cccc9e2d0f73"), looks := false }, kinds := [], alts := [], laidByText := true, laidKinds := [.data, .data], laidTests := true, laidLooks := .later }
def MerkleBackCardSaid : Prop := Claim7.holds Tryd.pinned (.plain (OpenSpec.ofChange merkleBackSpec)) merkleBackCard

/-- THE TIED CARD OF 'annalslaw11.MerkleFew'. -/
def merkleFewCard : Claim7 := { stood := { row := merkleFewRow, standIns := [], harness := (true, "1c3e754dc4afcc087c5440940b63ec303cf923d7e5f426553062cccc9e2d0f73"), looks := false }, kinds := [], alts := [], laidByText := true, laidKinds := [.data, .data], laidTests := true, laidLooks := .later }
def MerkleFewCardSaid : Prop := Claim7.holds Tryd.pinned (.plain (OpenSpec.ofChange merkleFewSpec)) merkleFewCard

/-- THE TIED CARD OF 'annalslaw12.ChangeLists'. -/
def changeListsCard : Claim7 := { stood := { row := changeListsRow, standIns := [], harness := (true, "1c3e754dc4afcc087c5440940b63ec303cf923d7e5f426553062cccc9e2d0f73"), looks := false }, kinds := [], alts := [], laidByText := true, laidKinds := [.data, .data], laidTests := true, laidLooks := .later }
def ChangeListsCardSaid : Prop := Claim7.holds Tryd.pinned (.plain (OpenSpec.ofChange changeListsSpec)) changeListsCard

/-- THE SECOND FORM's CARD OF 'annalslaw11.MerkleRoots'. -/
def merkleRootsUptoCard : Claim7 := { stood := { row := merkleRootsUptoRow, standIns := [], harness := (true, "1c3e754dc4afcc087c5440940b63ec303cf923d7e5f426553062cccc9e2d0f73"), looks := false }, kinds := [], alts := [], laidByText := true, laidKinds := [.data, .data], laidTests := true, laidLooks := .later }
def MerkleRootsUptoCardSaid : Prop := Claim7.holds Tryd.pinned (.plain (OpenSpec.upto merkleRootsSpec)) merkleRootsUptoCard

/-- THE SECOND FORM's CARD OF 'annalslaw11.MerkleFolds'. -/
def merkleFoldsUptoCard : Claim7 := { stood := { row := merkleFoldsUptoRow, standIns := [], harness := (true, "1c3e754dc4afcc087c5440940b63ec303cf923d7e5f426553062cccc9e2d0f73"), looks := false }, kinds := [], alts := [], laidByText := true, laidKinds := [.data, .data], laidTests := true, laidLooks := .later }
def MerkleFoldsUptoCardSaid : Prop := Claim7.holds Tryd.pinned (.plain (OpenSpec.upto merkleFoldsSpec)) merkleFoldsUptoCard

/-- THE SECOND FORM's CARD OF 'annalslaw11.MerkleBack'. -/
def merkleBackUptoCard : Claim7 := { stood := { row := merkleBackUptoRow, standIns := [], harness := (true, "1c3e754dc4afcc087c5440940b63ec303cf923d7e5f426553062cccc9e2d0f73"), looks := false }, kinds := [], alts := [], laidByText := true, laidKinds := [.data, .data], laidTests := true, laidLooks := .later }
def MerkleBackUptoCardSaid : Prop := Claim7.holds Tryd.pinned (.plain (OpenSpec.upto merkleBackSpec)) merkleBackUptoCard

/-- THE SECOND FORM's CARD OF 'annalslaw11.MerkleFew'. -/
def merkleFewUptoCard : Claim7 := { stood := { row := merkleFewUptoRow, standIns := [], harness := (true, "1c3e754dc4afcc087c5440940b63ec303cf923d7e5f426553062cccc9e2d0f73"), looks := false }, kinds := [], alts := [], laidByText := true, laidKinds := [.data, .data], laidTests := true, laidLooks := .later }
def MerkleFewUptoCardSaid : Prop := Claim7.holds Tryd.pinned (.plain (OpenSpec.upto merkleFewSpec)) merkleFewUptoCard

/-- THE SECOND FORM's CARD OF 'annalslaw12.ChangeLists'. -/
def changeListsUptoCard : Claim7 := { stood := { row := changeListsUptoRow, standIns := [], harness := (true, "1c3e754dc4afcc087c5440940b63ec303cf923d7e5f426553062cccc9e2d0f73"), looks := false }, kinds := [], alts := [], laidByText := true, laidKinds := [.data, .data], laidTests := true, laidLooks := .later }
def ChangeListsUptoCardSaid : Prop := Claim7.holds Tryd.pinned (.plain (OpenSpec.upto changeListsSpec)) changeListsUptoCard
end Rows
end Go.Proofs.YtichffdkihifpaaDoor
