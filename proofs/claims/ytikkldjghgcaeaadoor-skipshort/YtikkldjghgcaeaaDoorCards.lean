/-
  DERIVED. GIVEN WITH THE SEED: THE CARDS: each row of YtikkldjghgcaeaaDoorRows.lean that lists a variable, with what it lists TIED to the program's text (the seventh form; the later family's looks); each row that meets fmt, with fmt's text TOLD by the authors' own Lean function (tested against real Go, not proved from fmt's source: count such statements apart). THE CARD IS WHAT COUNTS. Prove the row's statement (the work); the ties are given (YtikkldjghgcaeaaDoorTie.lean); close each card by the builder's one call (the guide's Derived/Test/ToyasCard.lean, 'card_holds'). Laid BY PROGRAM, IN A SANDBOX (cutbox-door.mjs). By AI agents, Wed Nov 11 2026. No macro, syntax, notation, axiom, sorry.
-/
import Derived.Test.YtikkldjghgcaeaaDoorRows
import GoSem.ClaimSeven
namespace Go.Proofs.YtikkldjghgcaeaaDoor
namespace Rows

/-- THE TIED CARD OF 'annalslaw14.SkipWays'. -/
def skipWaysCard : Claim7 := { stood := { row := skipWaysRow, standIns := [], harness := (true, "047c9f2c14d3e7a1f17c93020f2957cb6d91cb78b3f91f1d48cac00e5b518bff"), looks := false }, kinds := [], alts := [], laidByText := true, laidKinds := [.data, .data], laidTests := true, laidLooks := .later }
def SkipWaysCardSaid : Prop := Claim7.holds Tryd.pinned (.plain (OpenSpec.ofChange skipWaysSpec)) skipWaysCard

/-- THE TIED CARD OF 'annalslaw14.SkipShort'. -/
def skipShortCard : Claim7 := { stood := { row := skipShortRow, standIns := [], harness := (true, "047c9f2c14d3e7a1f17c93020f2957cb6d91cb78b3f91f1d48cac00e5b518bff"), looks := false }, kinds := [], alts := [], laidByText := true, laidKinds := [.data, .data], laidTests := true, laidLooks := .later }
def SkipShortCardSaid : Prop := Claim7.holds Tryd.pinned (.plain (OpenSpec.ofChange skipShortSpec)) skipShortCard

/-- THE SECOND FORM's CARD OF 'annalslaw14.SkipWays'. -/
def skipWaysUptoCard : Claim7 := { stood := { row := skipWaysUptoRow, standIns := [], harness := (true, "047c9f2c14d3e7a1f17c93020f2957cb6d91cb78b3f91f1d48cac00e5b518bff"), looks := false }, kinds := [], alts := [], laidByText := true, laidKinds := [.data, .data], laidTests := true, laidLooks := .later }
def SkipWaysUptoCardSaid : Prop := Claim7.holds Tryd.pinned (.plain (OpenSpec.upto skipWaysSpec)) skipWaysUptoCard

/-- THE SECOND FORM's CARD OF 'annalslaw14.SkipShort'. -/
def skipShortUptoCard : Claim7 := { stood := { row := skipShortUptoRow, standIns := [], harness := (true, "047c9f2c14d3e7a1f17c93020f2957cb6d91cb78b3f91f1d48cac00e5b518bff"), looks := false }, kinds := [], alts := [], laidByText := true, laidKinds := [.data, .data], laidTests := true, laidLooks := .later }
def SkipShortUptoCardSaid : Prop := Claim7.holds Tryd.pinned (.plain (OpenSpec.upto skipShortSpec)) skipShortUptoCard
end Rows
end Go.Proofs.YtikkldjghgcaeaaDoor
