/-
  DERIVED. GIVEN WITH THE SEED: THE CARDS: each row of YtgannhmgnbbpfaaDoorRows.lean that lists a variable, with what it lists TIED to the program's text (the seventh form; the later family's looks); each row that meets fmt, with fmt's text TOLD by the authors' own Lean function (tested against real Go, not proved from fmt's source: count such statements apart). THE CARD IS WHAT COUNTS. Prove the row's statement (the work); the ties are given (YtgannhmgnbbpfaaDoorTie.lean); close each card by the builder's one call (the guide's Derived/Test/ToyasCard.lean, 'card_holds'). Laid BY PROGRAM, IN A SANDBOX (cutbox-door.mjs). By AI agents, Wed Nov 11 2026. No macro, syntax, notation, axiom, sorry.
-/
import Derived.Test.YtgannhmgnbbpfaaDoorRows
import GoSem.ClaimSeven
namespace Go.Proofs.YtgannhmgnbbpfaaDoor
namespace Rows

/-- THE TIED CARD OF 'annalslaw08.SeglogCrashes'. -/
def seglogCrashesCard : Claim7 := { stood := { row := seglogCrashesRow, standIns := [], harness := (true, "f07fe2370731e45596fba3de3e4dbe7265e09a473b3f2e91826bb587061d2907"), looks := false }, kinds := [], alts := [], laidByText := true, laidKinds := [.data, .data], laidTests := true, laidLooks := .later }
def SeglogCrashesCardSaid : Prop := Claim7.holds Tryd.pinned (.plain (OpenSpec.ofChange seglogCrashesSpec)) seglogCrashesCard

/-- THE TIED CARD OF 'annalslaw08.SeglogRoom'. -/
def seglogRoomCard : Claim7 := { stood := { row := seglogRoomRow, standIns := [], harness := (true, "f07fe2370731e45596fba3de3e4dbe7265e09a473b3f2e91826bb587061d2907"), looks := false }, kinds := [], alts := [], laidByText := true, laidKinds := [.data, .data], laidTests := true, laidLooks := .later }
def SeglogRoomCardSaid : Prop := Claim7.holds Tryd.pinned (.plain (OpenSpec.ofChange seglogRoomSpec)) seglogRoomCard

/-- THE TIED CARD OF 'annalslaw08.SeglogNobody'. -/
def seglogNobodyCard : Claim7 := { stood := { row := seglogNobodyRow, standIns := [], harness := (true, "f07fe2370731e45596fba3de3e4dbe7265e09a473b3f2e91826bb587061d2907"), looks := false }, kinds := [], alts := [], laidByText := true, laidKinds := [.data, .data], laidTests := true, laidLooks := .later }
def SeglogNobodyCardSaid : Prop := Claim7.holds Tryd.pinned (.plain (OpenSpec.ofChange seglogNobodySpec)) seglogNobodyCard

/-- THE SECOND FORM's CARD OF 'annalslaw08.SeglogCrashes'. -/
def seglogCrashesUptoCard : Claim7 := { stood := { row := seglogCrashesUptoRow, standIns := [], harness := (true, "f07fe2370731e45596fba3de3e4dbe7265e09a473b3f2e91826bb587061d2907"), looks := false }, kinds := [], alts := [], laidByText := true, laidKinds := [.data, .data], laidTests := true, laidLooks := .later }
def SeglogCrashesUptoCardSaid : Prop := Claim7.holds Tryd.pinned (.plain (OpenSpec.upto seglogCrashesSpec)) seglogCrashesUptoCard

/-- THE SECOND FORM's CARD OF 'annalslaw08.SeglogRoom'. -/
def seglogRoomUptoCard : Claim7 := { stood := { row := seglogRoomUptoRow, standIns := [], harness := (true, "f07fe2370731e45596fba3de3e4dbe7265e09a473b3f2e91826bb587061d2907"), looks := false }, kinds := [], alts := [], laidByText := true, laidKinds := [.data, .data], laidTests := true, laidLooks := .later }
def SeglogRoomUptoCardSaid : Prop := Claim7.holds Tryd.pinned (.plain (OpenSpec.upto seglogRoomSpec)) seglogRoomUptoCard

/-- THE SECOND FORM's CARD OF 'annalslaw08.SeglogNobody'. -/
def seglogNobodyUptoCard : Claim7 := { stood := { row := seglogNobodyUptoRow, standIns := [], harness := (true, "f07fe2370731e45596fba3de3e4dbe7265e09a473b3f2e91826bb587061d2907"), looks := false }, kinds := [], alts := [], laidByText := true, laidKinds := [.data, .data], laidTests := true, laidLooks := .later }
def SeglogNobodyUptoCardSaid : Prop := Claim7.holds Tryd.pinned (.plain (OpenSpec.upto seglogNobodySpec)) seglogNobodyUptoCard
end Rows
end Go.Proofs.YtgannhmgnbbpfaaDoor
