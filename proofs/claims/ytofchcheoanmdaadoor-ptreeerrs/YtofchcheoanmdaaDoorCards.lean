/-
  DERIVED. GIVEN WITH THE SEED: THE CARDS: each row of YtofchcheoanmdaaDoorRows.lean that lists a variable, with what it lists TIED to the program's text (the seventh form; the later family's looks); each row that meets fmt, with fmt's text TOLD by the authors' own Lean function (tested against real Go, not proved from fmt's source: count such statements apart). THE CARD IS WHAT COUNTS. Prove the row's statement (the work); the ties are given (YtofchcheoanmdaaDoorTie.lean); close each card by the builder's one call (the guide's Derived/Test/ToyasCard.lean, 'card_holds'). Laid BY PROGRAM, IN A SANDBOX (cutbox-door.mjs). By AI agents, Wed Nov 11 2026. No macro, syntax, notation, axiom, sorry.
-/
import Derived.Test.YtofchcheoanmdaaDoorRows
import GoSem.ClaimSeven
namespace Go.Proofs.YtofchcheoanmdaaDoor
namespace Rows

/-- THE TIED CARD OF 'annalslaw09.ArenaLives'. -/
def arenaLivesCard : Claim7 := { stood := { row := arenaLivesRow, standIns := [], harness := (true, "5576bb0ad22d9fd14028fec5ada91aee65ea71905977c23ad143d6dd1f2da402"), looks := true }, kinds := [], alts := [], laidByText := true, laidKinds := [.data, .data], laidTests := true, laidLooks := .later }
def ArenaLivesCardSaid : Prop := Claim7.holds Tryd.pinned (.plain (OpenSpec.ofChange arenaLivesSpec)) arenaLivesCard

/-- THE TIED CARD OF 'annalslaw09.ArenaHashes'. -/
def arenaHashesCard : Claim7 := { stood := { row := arenaHashesRow, standIns := [], harness := (true, "5576bb0ad22d9fd14028fec5ada91aee65ea71905977c23ad143d6dd1f2da402"), looks := true }, kinds := [], alts := [], laidByText := true, laidKinds := [.data, .data], laidTests := true, laidLooks := .later }
def ArenaHashesCardSaid : Prop := Claim7.holds Tryd.pinned (.plain (OpenSpec.ofChange arenaHashesSpec)) arenaHashesCard

/-- THE TIED CARD OF 'annalslaw09.ArenaSwept'. -/
def arenaSweptCard : Claim7 := { stood := { row := arenaSweptRow, standIns := [], harness := (true, "5576bb0ad22d9fd14028fec5ada91aee65ea71905977c23ad143d6dd1f2da402"), looks := true }, kinds := [], alts := [], laidByText := true, laidKinds := [.data, .data], laidTests := true, laidLooks := .later }
def ArenaSweptCardSaid : Prop := Claim7.holds Tryd.pinned (.plain (OpenSpec.ofChange arenaSweptSpec)) arenaSweptCard

/-- THE TIED CARD OF 'annalslaw09.ArenaNobody'. -/
def arenaNobodyCard : Claim7 := { stood := { row := arenaNobodyRow, standIns := [], harness := (true, "5576bb0ad22d9fd14028fec5ada91aee65ea71905977c23ad143d6dd1f2da402"), looks := true }, kinds := [], alts := [], laidByText := true, laidKinds := [.data, .data], laidTests := true, laidLooks := .later }
def ArenaNobodyCardSaid : Prop := Claim7.holds Tryd.pinned (.plain (OpenSpec.ofChange arenaNobodySpec)) arenaNobodyCard

/-- THE TIED CARD OF 'annalslaw10.PtreeLives'. -/
def ptreeLivesCard : Claim7 := { stood := { row := ptreeLivesRow, standIns := [], harness := (true, "5576bb0ad22d9fd14028fec5ada91aee65ea71905977c23ad143d6dd1f2da402"), looks := true }, kinds := [], alts := [], laidByText := true, laidKinds := [.data, .data], laidTests := true, laidLooks := .later }
def PtreeLivesCardSaid : Prop := Claim7.holds Tryd.pinned (.plain (OpenSpec.ofChange ptreeLivesSpec)) ptreeLivesCard

/-- THE TIED CARD OF 'annalslaw10.PtreeErrs'. -/
def ptreeErrsCard : Claim7 := { stood := { row := ptreeErrsRow, standIns := [], harness := (true, "5576bb0ad22d9fd14028fec5ada91aee65ea71905977c23ad143d6dd1f2da402"), looks := true }, kinds := [], alts := [], laidByText := true, laidKinds := [.data, .data], laidTests := true, laidLooks := .later }
def PtreeErrsCardSaid : Prop := Claim7.holds Tryd.pinned (.plain (OpenSpec.ofChange ptreeErrsSpec)) ptreeErrsCard

/-- THE SECOND FORM's CARD OF 'annalslaw09.ArenaLives'. -/
def arenaLivesUptoCard : Claim7 := { stood := { row := arenaLivesUptoRow, standIns := [], harness := (true, "5576bb0ad22d9fd14028fec5ada91aee65ea71905977c23ad143d6dd1f2da402"), looks := true }, kinds := [], alts := [], laidByText := true, laidKinds := [.data, .data], laidTests := true, laidLooks := .later }
def ArenaLivesUptoCardSaid : Prop := Claim7.holds Tryd.pinned (.plain (OpenSpec.upto arenaLivesSpec)) arenaLivesUptoCard

/-- THE SECOND FORM's CARD OF 'annalslaw09.ArenaHashes'. -/
def arenaHashesUptoCard : Claim7 := { stood := { row := arenaHashesUptoRow, standIns := [], harness := (true, "5576bb0ad22d9fd14028fec5ada91aee65ea71905977c23ad143d6dd1f2da402"), looks := true }, kinds := [], alts := [], laidByText := true, laidKinds := [.data, .data], laidTests := true, laidLooks := .later }
def ArenaHashesUptoCardSaid : Prop := Claim7.holds Tryd.pinned (.plain (OpenSpec.upto arenaHashesSpec)) arenaHashesUptoCard

/-- THE SECOND FORM's CARD OF 'annalslaw09.ArenaSwept'. -/
def arenaSweptUptoCard : Claim7 := { stood := { row := arenaSweptUptoRow, standIns := [], harness := (true, "5576bb0ad22d9fd14028fec5ada91aee65ea71905977c23ad143d6dd1f2da402"), looks := true }, kinds := [], alts := [], laidByText := true, laidKinds := [.data, .data], laidTests := true, laidLooks := .later }
def ArenaSweptUptoCardSaid : Prop := Claim7.holds Tryd.pinned (.plain (OpenSpec.upto arenaSweptSpec)) arenaSweptUptoCard

/-- THE SECOND FORM's CARD OF 'annalslaw09.ArenaNobody'. -/
def arenaNobodyUptoCard : Claim7 := { stood := { row := arenaNobodyUptoRow, standIns := [], harness := (true, "5576bb0ad22d9fd14028fec5ada91aee65ea71905977c23ad143d6dd1f2da402"), looks := true }, kinds := [], alts := [], laidByText := true, laidKinds := [.data, .data], laidTests := true, laidLooks := .later }
def ArenaNobodyUptoCardSaid : Prop := Claim7.holds Tryd.pinned (.plain (OpenSpec.upto arenaNobodySpec)) arenaNobodyUptoCard

/-- THE SECOND FORM's CARD OF 'annalslaw10.PtreeLives'. -/
def ptreeLivesUptoCard : Claim7 := { stood := { row := ptreeLivesUptoRow, standIns := [], harness := (true, "5576bb0ad22d9fd14028fec5ada91aee65ea71905977c23ad143d6dd1f2da402"), looks := true }, kinds := [], alts := [], laidByText := true, laidKinds := [.data, .data], laidTests := true, laidLooks := .later }
def PtreeLivesUptoCardSaid : Prop := Claim7.holds Tryd.pinned (.plain (OpenSpec.upto ptreeLivesSpec)) ptreeLivesUptoCard

/-- THE SECOND FORM's CARD OF 'annalslaw10.PtreeErrs'. -/
def ptreeErrsUptoCard : Claim7 := { stood := { row := ptreeErrsUptoRow, standIns := [], harness := (true, "5576bb0ad22d9fd14028fec5ada91aee65ea71905977c23ad143d6dd1f2da402"), looks := true }, kinds := [], alts := [], laidByText := true, laidKinds := [.data, .data], laidTests := true, laidLooks := .later }
def PtreeErrsUptoCardSaid : Prop := Claim7.holds Tryd.pinned (.plain (OpenSpec.upto ptreeErrsSpec)) ptreeErrsUptoCard
end Rows
end Go.Proofs.YtofchcheoanmdaaDoor
