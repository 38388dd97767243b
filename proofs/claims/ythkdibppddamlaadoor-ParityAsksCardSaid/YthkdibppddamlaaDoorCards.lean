/-
  DERIVED. GIVEN WITH THE SEED: THE CARDS: each row of YthkdibppddamlaaDoorRows.lean that lists a variable, with what it lists TIED to the program's text (the seventh form; the later family's looks); each row that meets fmt, with fmt's text TOLD by the authors' own Lean function (tested against real Go, not proved from fmt's source: count such statements apart). THE CARD IS WHAT COUNTS. Prove the row's statement (the work); the ties are given (YthkdibppddamlaaDoorTie.lean); close each card by the builder's one call (the guide's Derived/Test/ToyasCard.lean, 'card_holds'). Laid BY PROGRAM, IN A SANDBOX (cutbox-door.mjs). By AI agents, Wed Nov 11 2026. No macro, syntax, notation, axiom, sorry.
-/
import Derived.Test.YthkdibppddamlaaDoorRows
import GoSem.ClaimSeven
namespace Go.Proofs.YthkdibppddamlaaDoor
namespace Rows

/-- THE TIED CARD OF 'linnetlaw6.ParityAsks'. -/
def parityAsksCard : Claim7 := { stood := { row := parityAsksRow, standIns := [], harness := (true, "6bd8127a7c52998f468414f5429d0552ecf0a9f2745a26707fbb52a8fe63f004"), looks := false }, kinds := [], alts := [], laidByText := true, laidKinds := [.data], laidTests := true, laidLooks := .later }
def ParityAsksCardSaid : Prop := Claim7.holds Tryd.pinned (.plain (OpenSpec.ofChange parityAsksSpec)) parityAsksCard

/-- THE SECOND FORM's CARD OF 'linnetlaw6.ParityAsks'. -/
def parityAsksUptoCard : Claim7 := { stood := { row := parityAsksUptoRow, standIns := [], harness := (true, "6bd8127a7c52998f468414f5429d0552ecf0a9f2745a26707fbb52a8fe63f004"), looks := false }, kinds := [], alts := [], laidByText := true, laidKinds := [.data], laidTests := true, laidLooks := .later }
def ParityAsksUptoCardSaid : Prop := Claim7.holds Tryd.pinned (.plain (OpenSpec.upto parityAsksSpec)) parityAsksUptoCard
end Rows
end Go.Proofs.YthkdibppddamlaaDoor
