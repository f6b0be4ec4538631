/-
  DERIVED. GIVEN WITH THE SEED: THE CARDS: each row of YtgfddabccjfhiaaDoorRows.lean that lists a variable, with what it lists TIED to the program's text (the seventh form; the later family's looks); each row that meets fmt, with fmt's text TOLD by the authors' own Lean function (tested against real Go, not proved from fmt's source: count such statements apart). THE CARD IS WHAT COUNTS. Prove the row's statement (the work); the ties are given (YtgfddabccjfhiaaDoorTie.lean); close each card by the builder's one call (the guide's Derived/Test/ToyasCard.lean, 'card_holds'). Laid BY PROGRAM, IN A SANDBOX (cutbox-door.mjs). By AI agents, Wed Nov 11 2026. No macro, syntax, notation, axiom, sorry.
-/
import Derived.Test.YtgfddabccjfhiaaDoorRows
import GoSem.ClaimSeven
namespace Go.Proofs.YtgfddabccjfhiaaDoor
namespace Rows

/-- THE TIED CARD OF 'annalslaw13.RecordBytes'. -/
def recordBytesCard : Claim7 := { stood := { row := recordBytesRow, standIns := [], harness := (true, "995f53dabc4ec52e863f2dbf692b83df4b91d8b4ef2d5d6f39269b511fc7da3a"), looks := false }, kinds := [], alts := [], laidByText := true, laidKinds := [.data, .data, .data, .data], laidTests := true, laidLooks := .later }
def RecordBytesCardSaid : Prop := Claim7.holds Tryd.pinned (.plain (OpenSpec.ofChange recordBytesSpec)) recordBytesCard

/-- THE TIED CARD OF 'annalslaw13.RecordBack'. -/
def recordBackCard : Claim7 := { stood := { row := recordBackRow, standIns := [], harness := (true, "995f53dabc4ec52e863f2dbf692b83df4b91d8b4ef2d5d6f39269b511fc7da3a"), looks := false }, kinds := [], alts := [], laidByText := true, laidKinds := [.data, .data], laidTests := true, laidLooks := .later }
def RecordBackCardSaid : Prop := Claim7.holds Tryd.pinned (.plain (OpenSpec.ofChange recordBackSpec)) recordBackCard

/-- THE TIED CARD OF 'annalslaw13.RecordOpened'. -/
def recordOpenedCard : Claim7 := { stood := { row := recordOpenedRow, standIns := [], harness := (true, "995f53dabc4ec52e863f2dbf692b83df4b91d8b4ef2d5d6f39269b511fc7da3a"), looks := false }, kinds := [], alts := [], laidByText := true, laidKinds := [.data, .data], laidTests := true, laidLooks := .later }
def RecordOpenedCardSaid : Prop := Claim7.holds Tryd.pinned (.plain (OpenSpec.ofChange recordOpenedSpec)) recordOpenedCard

/-- THE TIED CARD OF 'annalslaw14.SkipWays'. -/
def skipWaysCard : Claim7 := { stood := { row := skipWaysRow, standIns := [], harness := (true, "995f53dabc4ec52e863f2dbf692b83df4b91d8b4ef2d5d6f39269b511fc7da3a"), looks := false }, kinds := [], alts := [], laidByText := true, laidKinds := [.data, .data], laidTests := true, laidLooks := .later }
def SkipWaysCardSaid : Prop := Claim7.holds Tryd.pinned (.plain (OpenSpec.ofChange skipWaysSpec)) skipWaysCard

/-- THE TIED CARD OF 'annalslaw14.SkipFollows'. -/
def skipFollowsCard : Claim7 := { stood := { row := skipFollowsRow, standIns := [], harness := (true, "995f53dabc4ec52e863f2dbf692b83df4b91d8b4ef2d5d6f39269b511fc7da3a"), looks := false }, kinds := [], alts := [], laidByText := true, laidKinds := [.data, .data, .data, .data], laidTests := true, laidLooks := .later }
def SkipFollowsCardSaid : Prop := Claim7.holds Tryd.pinned (.plain (OpenSpec.ofChange skipFollowsSpec)) skipFollowsCard

/-- THE SECOND FORM's CARD OF 'annalslaw13.RecordBytes'. -/
def recordBytesUptoCard : Claim7 := { stood := { row := recordBytesUptoRow, standIns := [], harness := (true, "995f53dabc4ec52e863f2dbf692b83df4b91d8b4ef2d5d6f39269b511fc7da3a"), looks := false }, kinds := [], alts := [], laidByText := true, laidKinds := [.data, .data, .data, .data], laidTests := true, laidLooks := .later }
def RecordBytesUptoCardSaid : Prop := Claim7.holds Tryd.pinned (.plain (OpenSpec.upto recordBytesSpec)) recordBytesUptoCard

/-- THE SECOND FORM's CARD OF 'annalslaw13.RecordBack'. -/
def recordBackUptoCard : Claim7 := { stood := { row := recordBackUptoRow, standIns := [], harness := (true, "995f53dabc4ec52e863f2dbf692b83df4b91d8b4ef2d5d6f39269b511fc7da3a"), looks := false }, kinds := [], alts := [], laidByText := true, laidKinds := [.data, .data], laidTests := true, laidLooks := .later }
def RecordBackUptoCardSaid : Prop := Claim7.holds Tryd.pinned (.plain (OpenSpec.upto recordBackSpec)) recordBackUptoCard

/-- THE SECOND FORM's CARD OF 'annalslaw13.RecordOpened'. -/
def recordOpenedUptoCard : Claim7 := { stood := { row := recordOpenedUptoRow, standIns := [], harness := (true, "995f53dabc4ec52e863f2dbf692b83df4b91d8b4ef2d5d6f39269b511fc7da3a"), looks := false }, kinds := [], alts := [], laidByText := true, laidKinds := [.data, .data], laidTests := true, laidLooks := .later }
def RecordOpenedUptoCardSaid : Prop := Claim7.holds Tryd.pinned (.plain (OpenSpec.upto recordOpenedSpec)) recordOpenedUptoCard

/-- THE SECOND FORM's CARD OF 'annalslaw14.SkipWays'. -/
def skipWaysUptoCard : Claim7 := { stood := { row := skipWaysUptoRow, standIns := [], harness := (true, "995f53dabc4ec52e863f2dbf692b83df4b91d8b4ef2d5d6f39269b511fc7da3a"), looks := false }, kinds := [], alts := [], laidByText := true, laidKinds := [.data, .data], laidTests := true, laidLooks := .later }
def SkipWaysUptoCardSaid : Prop := Claim7.holds Tryd.pinned (.plain (OpenSpec.upto skipWaysSpec)) skipWaysUptoCard

/-- THE SECOND FORM's CARD OF 'annalslaw14.SkipFollows'. -/
def skipFollowsUptoCard : Claim7 := { stood := { row := skipFollowsUptoRow, standIns := [], harness := (true, "995f53dabc4ec52e863f2dbf692b83df4b91d8b4ef2d5d6f39269b511fc7da3a"), looks := false }, kinds := [], alts := [], laidByText := true, laidKinds := [.data, .data, .data, .data], laidTests := true, laidLooks := .later }
def SkipFollowsUptoCardSaid : Prop := Claim7.holds Tryd.pinned (.plain (OpenSpec.upto skipFollowsSpec)) skipFollowsUptoCard
end Rows
end Go.Proofs.YtgfddabccjfhiaaDoor
