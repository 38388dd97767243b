/-
  DERIVED. GIVEN WITH THE SEED: THE CARDS: each row of YtblhipdcgdhmiaaDoorRows.lean that lists a variable, with what it lists TIED to the program's text (the seventh form; the later family's looks); each row that meets fmt, with fmt's text TOLD by the authors' own Lean function (tested against real Go, not proved from fmt's source: count such statements apart). THE CARD IS WHAT COUNTS. Prove the row's statement (the work); the ties are given (YtblhipdcgdhmiaaDoorTie.lean); close each card by the builder's one call (the guide's Derived/Test/ToyasCard.lean, 'card_holds'). Laid BY PROGRAM, IN A SANDBOX (cutbox-door.mjs). By AI agents, Wed Nov 11 2026. No macro, syntax, notation, axiom, sorry.
-/
import Derived.Test.YtblhipdcgdhmiaaDoorRows
import GoSem.ClaimSeven
namespace Go.Proofs.YtblhipdcgdhmiaaDoor
namespace Rows

/-- THE TIED CARD OF 'linnetlaw9.VoteForms'. -/
def voteFormsCard : Claim7 := { stood := { row := voteFormsRow, standIns := [], harness := (true, "71c2baa88182f0111843f5ca3c58e217d8396fa7d7ba9511b99c063775ab4c79"), looks := false }, kinds := [], alts := [], laidByText := true, laidKinds := [.data], laidTests := true, laidLooks := .later }
def VoteFormsCardSaid : Prop := Claim7.holds Tryd.pinned (.plain (OpenSpec.ofChange voteFormsSpec)) voteFormsCard

/-- THE TIED CARD OF 'linnetlaw9.VoteAsks'. -/
def voteAsksCard : Claim7 := { stood := { row := voteAsksRow, standIns := [], harness := (true, "71c2baa88182f0111843f5ca3c58e217d8396fa7d7ba9511b99c063775ab4c79"), looks := false }, kinds := [], alts := [], laidByText := true, laidKinds := [.data], laidTests := true, laidLooks := .later }
def VoteAsksCardSaid : Prop := Claim7.holds Tryd.pinned (.plain (OpenSpec.ofChange voteAsksSpec)) voteAsksCard

/-- THE TIED CARD OF 'linnetlaw9.VoteOne'. -/
def voteOneCard : Claim7 := { stood := { row := voteOneRow, standIns := [], harness := (true, "71c2baa88182f0111843f5ca3c58e217d8396fa7d7ba9511b99c063775ab4c79"), looks := false }, kinds := [], alts := [], laidByText := true, laidKinds := [.data], laidTests := true, laidLooks := .later }
def VoteOneCardSaid : Prop := Claim7.holds Tryd.pinned (.plain (OpenSpec.ofChange voteOneSpec)) voteOneCard

/-- THE TIED CARD OF 'linnetlaw9.VoteSteps'. -/
def voteStepsCard : Claim7 := { stood := { row := voteStepsRow, standIns := [], harness := (true, "71c2baa88182f0111843f5ca3c58e217d8396fa7d7ba9511b99c063775ab4c79"), looks := false }, kinds := [], alts := [], laidByText := true, laidKinds := [.data], laidTests := true, laidLooks := .later }
def VoteStepsCardSaid : Prop := Claim7.holds Tryd.pinned (.plain (OpenSpec.ofChange voteStepsSpec)) voteStepsCard

/-- THE SECOND FORM's CARD OF 'linnetlaw9.VoteForms'. -/
def voteFormsUptoCard : Claim7 := { stood := { row := voteFormsUptoRow, standIns := [], harness := (true, "71c2baa88182f0111843f5ca3c58e217d8396fa7d7ba9511b99c063775ab4c79"), looks := false }, kinds := [], alts := [], laidByText := true, laidKinds := [.data], laidTests := true, laidLooks := .later }
def VoteFormsUptoCardSaid : Prop := Claim7.holds Tryd.pinned (.plain (OpenSpec.upto voteFormsSpec)) voteFormsUptoCard

/-- THE SECOND FORM's CARD OF 'linnetlaw9.VoteAsks'. -/
def voteAsksUptoCard : Claim7 := { stood := { row := voteAsksUptoRow, standIns := [], harness := (true, "71c2baa88182f0111843f5ca3c58e217d8396fa7d7ba9511b99c063775ab4c79"), looks := false }, kinds := [], alts := [], laidByText := true, laidKinds := [.data], laidTests := true, laidLooks := .later }
def VoteAsksUptoCardSaid : Prop := Claim7.holds Tryd.pinned (.plain (OpenSpec.upto voteAsksSpec)) voteAsksUptoCard

/-- THE SECOND FORM's CARD OF 'linnetlaw9.VoteOne'. -/
def voteOneUptoCard : Claim7 := { stood := { row := voteOneUptoRow, standIns := [], harness := (true, "71c2baa88182f0111843f5ca3c58e217d8396fa7d7ba9511b99c063775ab4c79"), looks := false }, kinds := [], alts := [], laidByText := true, laidKinds := [.data], laidTests := true, laidLooks := .later }
def VoteOneUptoCardSaid : Prop := Claim7.holds Tryd.pinned (.plain (OpenSpec.upto voteOneSpec)) voteOneUptoCard

/-- THE SECOND FORM's CARD OF 'linnetlaw9.VoteSteps'. -/
def voteStepsUptoCard : Claim7 := { stood := { row := voteStepsUptoRow, standIns := [], harness := (true, "71c2baa88182f0111843f5ca3c58e217d8396fa7d7ba9511b99c063775ab4c79"), looks := false }, kinds := [], alts := [], laidByText := true, laidKinds := [.data], laidTests := true, laidLooks := .later }
def VoteStepsUptoCardSaid : Prop := Claim7.holds Tryd.pinned (.plain (OpenSpec.upto voteStepsSpec)) voteStepsUptoCard
end Rows
end Go.Proofs.YtblhipdcgdhmiaaDoor
