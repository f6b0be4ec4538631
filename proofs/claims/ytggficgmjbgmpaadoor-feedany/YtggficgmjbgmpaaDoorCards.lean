/-
  DERIVED. GIVEN WITH THE SEED: THE CARDS: each row of YtggficgmjbgmpaaDoorRows.lean that lists a variable, with what it lists TIED to the program's text (the seventh form; the later family's looks); each row that meets fmt, with fmt's text TOLD by the authors' own Lean function (tested against real Go, not proved from fmt's source: count such statements apart). THE CARD IS WHAT COUNTS. Prove the row's statement (the work); the ties are given (YtggficgmjbgmpaaDoorTie.lean); close each card by the builder's one call (the guide's Derived/Test/ToyasCard.lean, 'card_holds'). Laid BY PROGRAM, IN A SANDBOX (cutbox-door.mjs). By AI agents, Wed Nov 11 2026. No macro, syntax, notation, axiom, sorry.
-/
import Derived.Test.YtggficgmjbgmpaaDoorRows
import GoSem.ClaimSeven
namespace Go.Proofs.YtggficgmjbgmpaaDoor
namespace Rows

/-- THE TIED CARD OF 'annalslaw19.FeedCuts'. -/
def feedCutsCard : Claim7 := { stood := { row := feedCutsRow, standIns := [], harness := (true, "42ebb4e9c2ebd6b5a2e2c5a80504c40fd0bb57068349fd125c6d1785cf5a1aca"), looks := false }, kinds := [], alts := [], laidByText := true, laidKinds := [.data, .data], laidTests := true, laidLooks := .later }
def FeedCutsCardSaid : Prop := Claim7.holds Tryd.pinned (.plain (OpenSpec.ofChange feedCutsSpec)) feedCutsCard

/-- THE TIED CARD OF 'annalslaw19.FeedAny'. -/
def feedAnyCard : Claim7 := { stood := { row := feedAnyRow, standIns := [], harness := (true, "42ebb4e9c2ebd6b5a2e2c5a80504c40fd0bb57068349fd125c6d1785cf5a1aca"), looks := false }, kinds := [], alts := [], laidByText := true, laidKinds := [.data, .data], laidTests := true, laidLooks := .later }
def FeedAnyCardSaid : Prop := Claim7.holds Tryd.pinned (.plain (OpenSpec.ofChange feedAnySpec)) feedAnyCard

/-- THE TIED CARD OF 'annalslaw19.FeedShows'. -/
def feedShowsCard : Claim7 := { stood := { row := feedShowsRow, standIns := [], harness := (true, "42ebb4e9c2ebd6b5a2e2c5a80504c40fd0bb57068349fd125c6d1785cf5a1aca"), looks := false }, kinds := [], alts := [], laidByText := true, laidKinds := [.data, .data], laidTests := true, laidLooks := .later }
def FeedShowsCardSaid : Prop := Claim7.holds Tryd.pinned (.plain (OpenSpec.ofChange feedShowsSpec)) feedShowsCard

/-- THE SECOND FORM's CARD OF 'annalslaw19.FeedCuts'. -/
def feedCutsUptoCard : Claim7 := { stood := { row := feedCutsUptoRow, standIns := [], harness := (true, "42ebb4e9c2ebd6b5a2e2c5a80504c40fd0bb57068349fd125c6d1785cf5a1aca"), looks := false }, kinds := [], alts := [], laidByText := true, laidKinds := [.data, .data], laidTests := true, laidLooks := .later }
def FeedCutsUptoCardSaid : Prop := Claim7.holds Tryd.pinned (.plain (OpenSpec.upto feedCutsSpec)) feedCutsUptoCard

/-- THE SECOND FORM's CARD OF 'annalslaw19.FeedAny'. -/
def feedAnyUptoCard : Claim7 := { stood := { row := feedAnyUptoRow, standIns := [], harness := (true, "42ebb4e9c2ebd6b5a2e2c5a80504c40fd0bb57068349fd125c6d1785cf5a1aca"), looks := false }, kinds := [], alts := [], laidByText := true, laidKinds := [.data, .data], laidTests := true, laidLooks := .later }
def FeedAnyUptoCardSaid : Prop := Claim7.holds Tryd.pinned (.plain (OpenSpec.upto feedAnySpec)) feedAnyUptoCard

/-- THE SECOND FORM's CARD OF 'annalslaw19.FeedShows'. -/
def feedShowsUptoCard : Claim7 := { stood := { row := feedShowsUptoRow, standIns := [], harness := (true, "42ebb4e9c2ebd6b5a2e2c5a80504c40fd0bb57068349fd125c6d1785cf5a1aca"), looks := false }, kinds := [], alts := [], laidByText := true, laidKinds := [.data, .data], laidTests := true, laidLooks := .later }
def FeedShowsUptoCardSaid : Prop := Claim7.holds Tryd.pinned (.plain (OpenSpec.upto feedShowsSpec)) feedShowsUptoCard
end Rows
end Go.Proofs.YtggficgmjbgmpaaDoor
