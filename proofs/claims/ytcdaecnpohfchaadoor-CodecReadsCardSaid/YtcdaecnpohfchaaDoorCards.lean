/-
  DERIVED. GIVEN WITH THE SEED: THE CARDS: each row of YtcdaecnpohfchaaDoorRows.lean that lists a variable, with what it lists TIED to the program's text (the seventh form; the later family's looks); each row that meets fmt, with fmt's text TOLD by the authors' own Lean function (tested against real Go, not proved from fmt's source: count such statements apart). THE CARD IS WHAT COUNTS. Prove the row's statement (the work); the ties are given (YtcdaecnpohfchaaDoorTie.lean); close each card by the builder's one call (the guide's Derived/Test/ToyasCard.lean, 'card_holds'). Laid BY PROGRAM, IN A SANDBOX (cutbox-door.mjs). By AI agents, Wed Nov 11 2026. No macro, syntax, notation, axiom, sorry.
-/
import Derived.Test.YtcdaecnpohfchaaDoorRows
import GoSem.ClaimSeven
namespace Go.Proofs.YtcdaecnpohfchaaDoor
namespace Rows

/-- THE TIED CARD OF 'linnetlaw3.CodecWrites'. -/
def codecWritesCard : Claim7 := { stood := { row := codecWritesRow, standIns := [], harness := (true, "9621ea9a8262a62a4c3a57f9b679850ba44f7f1c29c5bc046a44c6178501acba"), looks := false }, kinds := [], alts := [], laidByText := true, laidKinds := [.data], laidTests := true, laidLooks := .later }
def CodecWritesCardSaid : Prop := Claim7.holds Tryd.pinned (.plain (OpenSpec.ofChange codecWritesSpec)) codecWritesCard

/-- THE TIED CARD OF 'linnetlaw3.CodecReads'. -/
def codecReadsCard : Claim7 := { stood := { row := codecReadsRow, standIns := [], harness := (true, "9621ea9a8262a62a4c3a57f9b679850ba44f7f1c29c5bc046a44c6178501acba"), looks := false }, kinds := [], alts := [], laidByText := true, laidKinds := [.data], laidTests := true, laidLooks := .later }
def CodecReadsCardSaid : Prop := Claim7.holds Tryd.pinned (.plain (OpenSpec.ofChange codecReadsSpec)) codecReadsCard

/-- THE TIED CARD OF 'linnetlaw3.CodecBack'. -/
def codecBackCard : Claim7 := { stood := { row := codecBackRow, standIns := [], harness := (true, "9621ea9a8262a62a4c3a57f9b679850ba44f7f1c29c5bc046a44c6178501acba"), looks := false }, kinds := [], alts := [], laidByText := true, laidKinds := [.data], laidTests := true, laidLooks := .later }
def CodecBackCardSaid : Prop := Claim7.holds Tryd.pinned (.plain (OpenSpec.ofChange codecBackSpec)) codecBackCard

/-- THE TIED CARD OF 'linnetlaw3.CodecLimits'. -/
def codecLimitsCard : Claim7 := { stood := { row := codecLimitsRow, standIns := [], harness := (true, "9621ea9a8262a62a4c3a57f9b679850ba44f7f1c29c5bc046a44c6178501acba"), looks := false }, kinds := [], alts := [], laidByText := true, laidKinds := [.data], laidTests := true, laidLooks := .later }
def CodecLimitsCardSaid : Prop := Claim7.holds Tryd.pinned (.plain (OpenSpec.ofChange codecLimitsSpec)) codecLimitsCard

/-- THE SECOND FORM's CARD OF 'linnetlaw3.CodecWrites'. -/
def codecWritesUptoCard : Claim7 := { stood := { row := codecWritesUptoRow, standIns := [], harness := (true, "9621ea9a8262a62a4c3a57f9b679850ba44f7f1c29c5bc046a44c6178501acba"), looks := false }, kinds := [], alts := [], laidByText := true, laidKinds := [.data], laidTests := true, laidLooks := .later }
def CodecWritesUptoCardSaid : Prop := Claim7.holds Tryd.pinned (.plain (OpenSpec.upto codecWritesSpec)) codecWritesUptoCard

/-- THE SECOND FORM's CARD OF 'linnetlaw3.CodecReads'. -/
def codecReadsUptoCard : Claim7 := { stood := { row := codecReadsUptoRow, standIns := [], harness := (true, "9621ea9a8262a62a4c3a57f9b679850ba44f7f1c29c5bc046a44c6178501acba"), looks := false }, kinds := [], alts := [], laidByText := true, laidKinds := [.data], laidTests := true, laidLooks := .later }
def CodecReadsUptoCardSaid : Prop := Claim7.holds Tryd.pinned (.plain (OpenSpec.upto codecReadsSpec)) codecReadsUptoCard

/-- THE SECOND FORM's CARD OF 'linnetlaw3.CodecBack'. -/
def codecBackUptoCard : Claim7 := { stood := { row := codecBackUptoRow, standIns := [], harness := (true, "9621ea9a8262a62a4c3a57f9b679850ba44f7f1c29c5bc046a44c6178501acba"), looks := false }, kinds := [], alts := [], laidByText := true, laidKinds := [.data], laidTests := true, laidLooks := .later }
def CodecBackUptoCardSaid : Prop := Claim7.holds Tryd.pinned (.plain (OpenSpec.upto codecBackSpec)) codecBackUptoCard

/-- THE SECOND FORM's CARD OF 'linnetlaw3.CodecLimits'. -/
def codecLimitsUptoCard : Claim7 := { stood := { row := codecLimitsUptoRow, standIns := [], harness := (true, "9621ea9a8262a62a4c3a57f9b679850ba44f7f1c29c5bc046a44c6178501acba"), looks := false }, kinds := [], alts := [], laidByText := true, laidKinds := [.data], laidTests := true, laidLooks := .later }
def CodecLimitsUptoCardSaid : Prop := Claim7.holds Tryd.pinned (.plain (OpenSpec.upto codecLimitsSpec)) codecLimitsUptoCard
end Rows
end Go.Proofs.YtcdaecnpohfchaaDoor
