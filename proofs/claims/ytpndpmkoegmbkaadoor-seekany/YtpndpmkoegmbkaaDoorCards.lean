/-
  DERIVED. GIVEN WITH THE SEED: THE CARDS: each row of YtpndpmkoegmbkaaDoorRows.lean that lists a variable, with what it lists TIED to the program's text (the seventh form; the later family's looks); each row that meets fmt, with fmt's text TOLD by the authors' own Lean function (tested against real Go, not proved from fmt's source: count such statements apart). THE CARD IS WHAT COUNTS. Prove the row's statement (the work); the ties are given (YtpndpmkoegmbkaaDoorTie.lean); close each card by the builder's one call (the guide's Derived/Test/ToyasCard.lean, 'card_holds'). Laid BY PROGRAM, IN A SANDBOX (cutbox-door.mjs). By AI agents, Wed Nov 11 2026. No macro, syntax, notation, axiom, sorry.
-/
import Derived.Test.YtpndpmkoegmbkaaDoorRows
import GoSem.ClaimSeven
namespace Go.Proofs.YtpndpmkoegmbkaaDoor
namespace Rows

/-- THE TIED CARD OF 'annalslaw14.SkipFollows'. -/
def skipFollowsCard : Claim7 := { stood := { row := skipFollowsRow, standIns := [], harness := (true, "f458dad916573180ceb245536bc1d684609978faaaa27c8b9deb0c26ba643608"), looks := false }, kinds := [], alts := [], laidByText := true, laidKinds := [.data, .data, .data, .data], laidTests := true, laidLooks := .later }
def SkipFollowsCardSaid : Prop := Claim7.holds Tryd.pinned (.plain (OpenSpec.ofChange skipFollowsSpec)) skipFollowsCard

/-- THE TIED CARD OF 'annalslaw14.SkipOne'. -/
def skipOneCard : Claim7 := { stood := { row := skipOneRow, standIns := [], harness := (true, "f458dad916573180ceb245536bc1d684609978faaaa27c8b9deb0c26ba643608"), looks := false }, kinds := [], alts := [], laidByText := true, laidKinds := [.data, .data, .data, .data], laidTests := true, laidLooks := .later }
def SkipOneCardSaid : Prop := Claim7.holds Tryd.pinned (.plain (OpenSpec.ofChange skipOneSpec)) skipOneCard

/-- THE TIED CARD OF 'annalslaw20.SeekAny'. -/
def seekAnyCard : Claim7 := { stood := { row := seekAnyRow, standIns := [], harness := (true, "f458dad916573180ceb245536bc1d684609978faaaa27c8b9deb0c26ba643608"), looks := false }, kinds := [], alts := [], laidByText := true, laidKinds := [.data, .data, .data, .data], laidTests := true, laidLooks := .later }
def SeekAnyCardSaid : Prop := Claim7.holds Tryd.pinned (.plain (OpenSpec.ofChange seekAnySpec)) seekAnyCard

/-- THE TIED CARD OF 'annalslaw20.SeekOne'. -/
def seekOneCard : Claim7 := { stood := { row := seekOneRow, standIns := [], harness := (true, "f458dad916573180ceb245536bc1d684609978faaaa27c8b9deb0c26ba643608"), looks := false }, kinds := [], alts := [], laidByText := true, laidKinds := [.data, .data, .data, .data], laidTests := true, laidLooks := .later }
def SeekOneCardSaid : Prop := Claim7.holds Tryd.pinned (.plain (OpenSpec.ofChange seekOneSpec)) seekOneCard

/-- THE SECOND FORM's CARD OF 'annalslaw14.SkipFollows'. -/
def skipFollowsUptoCard : Claim7 := { stood := { row := skipFollowsUptoRow, standIns := [], harness := (true, "f458dad916573180ceb245536bc1d684609978faaaa27c8b9deb0c26ba643608"), looks := false }, kinds := [], alts := [], laidByText := true, laidKinds := [.data, .data, .data, .data], laidTests := true, laidLooks := .later }
def SkipFollowsUptoCardSaid : Prop := Claim7.holds Tryd.pinned (.plain (OpenSpec.upto skipFollowsSpec)) skipFollowsUptoCard

/-- THE SECOND FORM's CARD OF 'annalslaw14.SkipOne'. -/
def skipOneUptoCard : Claim7 := { stood := { row := skipOneUptoRow, standIns := [], harness := (true, "f458dad916573180ceb245536bc1d684609978faaaa27c8b9deb0c26ba643608"), looks := false }, kinds := [], alts := [], laidByText := true, laidKinds := [.data, .data, .data, .data], laidTests := true, laidLooks := .later }
def SkipOneUptoCardSaid : Prop := Claim7.holds Tryd.pinned (.plain (OpenSpec.upto skipOneSpec)) skipOneUptoCard

/-- THE SECOND FORM's CARD OF 'annalslaw20.SeekAny'. -/
def seekAnyUptoCard : Claim7 := { stood := { row := seekAnyUptoRow, standIns := [], harness := (true, "f458dad916573180ceb245536bc1d684609978faaaa27c8b9deb0c26ba643608"), looks := false }, kinds := [], alts := [], laidByText := true, laidKinds := [.data, .data, .data, .data], laidTests := true, laidLooks := .later }
def SeekAnyUptoCardSaid : Prop := Claim7.holds Tryd.pinned (.plain (OpenSpec.upto seekAnySpec)) seekAnyUptoCard

/-- THE SECOND FORM's CARD OF 'annalslaw20.SeekOne'. -/
def seekOneUptoCard : Claim7 := { stood := { row := seekOneUptoRow, standIns := [], harness := (true, "f458dad916573180ceb245536bc1d684609978faaaa27c8b9deb0c26ba643608"), looks := false }, kinds := [], alts := [], laidByText := true, laidKinds := [.data, .data, .data, .data], laidTests := true, laidLooks := .later }
def SeekOneUptoCardSaid : Prop := Claim7.holds Tryd.pinned (.plain (OpenSpec.upto seekOneSpec)) seekOneUptoCard
end Rows
end Go.Proofs.YtpndpmkoegmbkaaDoor
