/-
  DERIVED. GIVEN WITH THE SEED: THE CARDS: each row of YtcjmiglpfinnjaaDoorRows.lean that lists a variable, with what it lists TIED to the program's text (the seventh form; the later family's looks); each row that meets fmt, with fmt's text TOLD by the authors' own Lean function (tested against real Go, not proved from fmt's source: count such statements apart). THE CARD IS WHAT COUNTS. Prove the row's statement (the work); the ties are given (YtcjmiglpfinnjaaDoorTie.lean); close each card by the builder's one call (the guide's Derived/Test/ToyasCard.lean, 'card_holds'). Laid BY PROGRAM, IN A SANDBOX (cutbox-door.mjs). By AI agents, Wed Nov 11 2026. No macro, syntax, notation, axiom, sorry.
-/
import Derived.Test.YtcjmiglpfinnjaaDoorRows
import GoSem.ClaimSeven
namespace Go.Proofs.YtcjmiglpfinnjaaDoor
namespace Rows

/-- THE TIED CARD OF 'annalslaw20.SeekAny'. -/
def seekAnyCard : Claim7 := { stood := { row := seekAnyRow, standIns := [], harness := (true, "f5fe91386a38ef4ade6b19e7f7e119f3cb9c45612092bc15c42ef0bcd1fa6cf2"), looks := false }, kinds := [], alts := [], laidByText := true, laidKinds := [.data, .data, .data, .data], laidTests := true, laidLooks := .later }
def SeekAnyCardSaid : Prop := Claim7.holds Tryd.pinned (.plain (OpenSpec.ofChange seekAnySpec)) seekAnyCard

/-- THE TIED CARD OF 'annalslaw20.SeekOne'. -/
def seekOneCard : Claim7 := { stood := { row := seekOneRow, standIns := [], harness := (true, "f5fe91386a38ef4ade6b19e7f7e119f3cb9c45612092bc15c42ef0bcd1fa6cf2"), looks := false }, kinds := [], alts := [], laidByText := true, laidKinds := [.data, .data, .data, .data], laidTests := true, laidLooks := .later }
def SeekOneCardSaid : Prop := Claim7.holds Tryd.pinned (.plain (OpenSpec.ofChange seekOneSpec)) seekOneCard

/-- THE SECOND FORM's CARD OF 'annalslaw20.SeekAny'. -/
def seekAnyUptoCard : Claim7 := { stood := { row := seekAnyUptoRow, standIns := [], harness := (true, "f5fe91386a38ef4ade6b19e7f7e119f3cb9c45612092bc15c42ef0bcd1fa6cf2"), looks := false }, kinds := [], alts := [], laidByText := true, laidKinds := [.data, .data, .data, .data], laidTests := true, laidLooks := .later }
def SeekAnyUptoCardSaid : Prop := Claim7.holds Tryd.pinned (.plain (OpenSpec.upto seekAnySpec)) seekAnyUptoCard

/-- THE SECOND FORM's CARD OF 'annalslaw20.SeekOne'. -/
def seekOneUptoCard : Claim7 := { stood := { row := seekOneUptoRow, standIns := [], harness := (true, "f5fe91386a38ef4ade6b19e7f7e119f3cb9c45612092bc15c42ef0bcd1fa6cf2"), looks := false }, kinds := [], alts := [], laidByText := true, laidKinds := [.data, .data, .data, .data], laidTests := true, laidLooks := .later }
def SeekOneUptoCardSaid : Prop := Claim7.holds Tryd.pinned (.plain (OpenSpec.upto seekOneSpec)) seekOneUptoCard
end Rows
end Go.Proofs.YtcjmiglpfinnjaaDoor
