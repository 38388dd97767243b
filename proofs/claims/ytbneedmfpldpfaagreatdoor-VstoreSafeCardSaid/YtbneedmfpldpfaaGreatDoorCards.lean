/-
  DERIVED. GIVEN WITH THE SEED: THE CARDS: each row of YtbneedmfpldpfaaGreatDoorRows.lean that lists a variable, with what it lists TIED to the program's text (the seventh form; the later family's looks); each row that meets fmt, with fmt's text TOLD by the authors' own Lean function (tested against real Go, not proved from fmt's source: count such statements apart). THE CARD IS WHAT COUNTS. Prove the row's statement (the work); the ties are given (YtbneedmfpldpfaaGreatDoorTie.lean); close each card by the builder's one call (the guide's Derived/Test/ToyasCard.lean, 'card_holds'). Laid BY PROGRAM, IN A SANDBOX (cutbox-door.mjs). By AI agents, Wed Nov 11 2026. No macro, syntax, notation, axiom, sorry.
-/
import Derived.Test.YtbneedmfpldpfaaGreatDoorRows
import GoSem.ClaimSeven
namespace Go.Proofs.YtbneedmfpldpfaaGreatDoor
namespace Rows

/-- THE TIED CARD OF 'linnetlaw5.VstoreSafe'. -/
def vstoreSafeCard : Claim7 := { stood := { row := vstoreSafeRow, standIns := [], harness := (true, "9c1e9615f72f09c54cee078f24a786b99811de68596584650bdf1e596dd7b709"), looks := false }, kinds := [], alts := [], laidByText := true, laidKinds := [.data, .pinned], laidTests := true, laidLooks := .later }
def VstoreSafeCardSaid : Prop := Claim7.holds Tryz.pinned (.plain (OpenSpec.ofChange vstoreSafeSpec)) vstoreSafeCard

/-- THE SECOND FORM's CARD OF 'linnetlaw5.VstoreSafe'. -/
def vstoreSafeUptoCard : Claim7 := { stood := { row := vstoreSafeUptoRow, standIns := [], harness := (true, "9c1e9615f72f09c54cee078f24a786b99811de68596584650bdf1e596dd7b709"), looks := false }, kinds := [], alts := [], laidByText := true, laidKinds := [.data, .pinned], laidTests := true, laidLooks := .later }
def VstoreSafeUptoCardSaid : Prop := Claim7.holds Tryz.pinned (.plain (OpenSpec.upto vstoreSafeSpec)) vstoreSafeUptoCard
end Rows
end Go.Proofs.YtbneedmfpldpfaaGreatDoor
