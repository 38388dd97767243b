/-
  DERIVED. GIVEN WITH THE SEED: THE CARDS: each row of YtbneedmfpldpfaaDoorRows.lean that lists a variable, with what it lists TIED to the program's text (the seventh form; the later family's looks); each row that meets fmt, with fmt's text TOLD by the authors' own Lean function (tested against real Go, not proved from fmt's source: count such statements apart). THE CARD IS WHAT COUNTS. Prove the row's statement (the work); the ties are given (YtbneedmfpldpfaaDoorTie.lean); close each card by the builder's one call (the guide's Derived/Test/ToyasCard.lean, 'card_holds'). Laid BY PROGRAM, IN A SANDBOX (cutbox-door.mjs). By AI agents, Wed Nov 11 2026. No macro, syntax, notation, axiom, sorry.
-/
import Derived.Test.YtbneedmfpldpfaaDoorRows
import GoSem.ClaimSeven
namespace Go.Proofs.YtbneedmfpldpfaaDoor
namespace Rows

/-- THE TIED CARD OF 'linnetlaw5.VstoreNothing'. -/
def vstoreNothingCard : Claim7 := { stood := { row := vstoreNothingRow, standIns := [], harness := (true, "a1257b0d4e2bef7278918456dbdc6938b7b00ea08851dcb3d74455cdf3a094dc"), looks := false }, kinds := [], alts := [], laidByText := true, laidKinds := [.data, .pinned], laidTests := true, laidLooks := .later }
def VstoreNothingCardSaid : Prop := Claim7.holds Tryd.pinned (.plain (OpenSpec.ofChange vstoreNothingSpec)) vstoreNothingCard

/-- THE TIED CARD OF 'linnetlaw5.VstoreSectors'. -/
def vstoreSectorsCard : Claim7 := { stood := { row := vstoreSectorsRow, standIns := [], harness := (true, "a1257b0d4e2bef7278918456dbdc6938b7b00ea08851dcb3d74455cdf3a094dc"), looks := false }, kinds := [], alts := [], laidByText := true, laidKinds := [.data, .pinned], laidTests := true, laidLooks := .later }
def VstoreSectorsCardSaid : Prop := Claim7.holds Tryd.pinned (.plain (OpenSpec.ofChange vstoreSectorsSpec)) vstoreSectorsCard

/-- THE TIED CARD OF 'linnetlaw5.VstoreMoves'. -/
def vstoreMovesCard : Claim7 := { stood := { row := vstoreMovesRow, standIns := [], harness := (true, "a1257b0d4e2bef7278918456dbdc6938b7b00ea08851dcb3d74455cdf3a094dc"), looks := false }, kinds := [], alts := [], laidByText := true, laidKinds := [.data, .pinned], laidTests := true, laidLooks := .later }
def VstoreMovesCardSaid : Prop := Claim7.holds Tryd.pinned (.plain (OpenSpec.ofChange vstoreMovesSpec)) vstoreMovesCard

/-- THE SECOND FORM's CARD OF 'linnetlaw5.VstoreNothing'. -/
def vstoreNothingUptoCard : Claim7 := { stood := { row := vstoreNothingUptoRow, standIns := [], harness := (true, "a1257b0d4e2bef7278918456dbdc6938b7b00ea08851dcb3d74455cdf3a094dc"), looks := false }, kinds := [], alts := [], laidByText := true, laidKinds := [.data, .pinned], laidTests := true, laidLooks := .later }
def VstoreNothingUptoCardSaid : Prop := Claim7.holds Tryd.pinned (.plain (OpenSpec.upto vstoreNothingSpec)) vstoreNothingUptoCard

/-- THE SECOND FORM's CARD OF 'linnetlaw5.VstoreSectors'. -/
def vstoreSectorsUptoCard : Claim7 := { stood := { row := vstoreSectorsUptoRow, standIns := [], harness := (true, "a1257b0d4e2bef7278918456dbdc6938b7b00ea08851dcb3d74455cdf3a094dc"), looks := false }, kinds := [], alts := [], laidByText := true, laidKinds := [.data, .pinned], laidTests := true, laidLooks := .later }
def VstoreSectorsUptoCardSaid : Prop := Claim7.holds Tryd.pinned (.plain (OpenSpec.upto vstoreSectorsSpec)) vstoreSectorsUptoCard

/-- THE SECOND FORM's CARD OF 'linnetlaw5.VstoreMoves'. -/
def vstoreMovesUptoCard : Claim7 := { stood := { row := vstoreMovesUptoRow, standIns := [], harness := (true, "a1257b0d4e2bef7278918456dbdc6938b7b00ea08851dcb3d74455cdf3a094dc"), looks := false }, kinds := [], alts := [], laidByText := true, laidKinds := [.data, .pinned], laidTests := true, laidLooks := .later }
def VstoreMovesUptoCardSaid : Prop := Claim7.holds Tryd.pinned (.plain (OpenSpec.upto vstoreMovesSpec)) vstoreMovesUptoCard
end Rows
end Go.Proofs.YtbneedmfpldpfaaDoor
