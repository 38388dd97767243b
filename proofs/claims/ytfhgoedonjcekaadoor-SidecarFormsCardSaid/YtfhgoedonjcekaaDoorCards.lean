/-
  DERIVED. GIVEN WITH THE SEED: THE CARDS: each row of YtfhgoedonjcekaaDoorRows.lean that lists a variable, with what it lists TIED to the program's text (the seventh form; the later family's looks); each row that meets fmt, with fmt's text TOLD by the authors' own Lean function (tested against real Go, not proved from fmt's source: count such statements apart). THE CARD IS WHAT COUNTS. Prove the row's statement (the work); the ties are given (YtfhgoedonjcekaaDoorTie.lean); close each card by the builder's one call (the guide's Derived/Test/ToyasCard.lean, 'card_holds'). Laid BY PROGRAM, IN A SANDBOX (cutbox-door.mjs). By AI agents, Wed Nov 11 2026. No macro, syntax, notation, axiom, sorry.
-/
import Derived.Test.YtfhgoedonjcekaaDoorRows
import GoSem.ClaimSeven
namespace Go.Proofs.YtfhgoedonjcekaaDoor
namespace Rows

/-- THE TIED CARD OF 'linnetlaw7.SidecarMakes'. -/
def sidecarMakesCard : Claim7 := { stood := { row := sidecarMakesRow, standIns := [], harness := (true, "bfffb6356c9cec5d49ab41a68dea3c5bd7e8e6e2d5be42313ddd712ab4db8942"), looks := false }, kinds := [], alts := [], laidByText := true, laidKinds := [.data], laidTests := true, laidLooks := .later }
def SidecarMakesCardSaid : Prop := Claim7.holds Tryd.pinned (.plain (OpenSpec.ofChange sidecarMakesSpec)) sidecarMakesCard

/-- THE TIED CARD OF 'linnetlaw7.SidecarForms'. -/
def sidecarFormsCard : Claim7 := { stood := { row := sidecarFormsRow, standIns := [], harness := (true, "bfffb6356c9cec5d49ab41a68dea3c5bd7e8e6e2d5be42313ddd712ab4db8942"), looks := false }, kinds := [], alts := [], laidByText := true, laidKinds := [.data], laidTests := true, laidLooks := .later }
def SidecarFormsCardSaid : Prop := Claim7.holds Tryd.pinned (.plain (OpenSpec.ofChange sidecarFormsSpec)) sidecarFormsCard

/-- THE TIED CARD OF 'linnetlaw7.SidecarChecks'. -/
def sidecarChecksCard : Claim7 := { stood := { row := sidecarChecksRow, standIns := [], harness := (true, "bfffb6356c9cec5d49ab41a68dea3c5bd7e8e6e2d5be42313ddd712ab4db8942"), looks := false }, kinds := [], alts := [], laidByText := true, laidKinds := [.data], laidTests := true, laidLooks := .later }
def SidecarChecksCardSaid : Prop := Claim7.holds Tryd.pinned (.plain (OpenSpec.ofChange sidecarChecksSpec)) sidecarChecksCard

/-- THE SECOND FORM's CARD OF 'linnetlaw7.SidecarMakes'. -/
def sidecarMakesUptoCard : Claim7 := { stood := { row := sidecarMakesUptoRow, standIns := [], harness := (true, "bfffb6356c9cec5d49ab41a68dea3c5bd7e8e6e2d5be42313ddd712ab4db8942"), looks := false }, kinds := [], alts := [], laidByText := true, laidKinds := [.data], laidTests := true, laidLooks := .later }
def SidecarMakesUptoCardSaid : Prop := Claim7.holds Tryd.pinned (.plain (OpenSpec.upto sidecarMakesSpec)) sidecarMakesUptoCard

/-- THE SECOND FORM's CARD OF 'linnetlaw7.SidecarForms'. -/
def sidecarFormsUptoCard : Claim7 := { stood := { row := sidecarFormsUptoRow, standIns := [], harness := (true, "bfffb6356c9cec5d49ab41a68dea3c5bd7e8e6e2d5be42313ddd712ab4db8942"), looks := false }, kinds := [], alts := [], laidByText := true, laidKinds := [.data], laidTests := true, laidLooks := .later }
def SidecarFormsUptoCardSaid : Prop := Claim7.holds Tryd.pinned (.plain (OpenSpec.upto sidecarFormsSpec)) sidecarFormsUptoCard

/-- THE SECOND FORM's CARD OF 'linnetlaw7.SidecarChecks'. -/
def sidecarChecksUptoCard : Claim7 := { stood := { row := sidecarChecksUptoRow, standIns := [], harness := (true, "bfffb6356c9cec5d49ab41a68dea3c5bd7e8e6e2d5be42313ddd712ab4db8942"), looks := false }, kinds := [], alts := [], laidByText := true, laidKinds := [.data], laidTests := true, laidLooks := .later }
def SidecarChecksUptoCardSaid : Prop := Claim7.holds Tryd.pinned (.plain (OpenSpec.upto sidecarChecksSpec)) sidecarChecksUptoCard
end Rows
end Go.Proofs.YtfhgoedonjcekaaDoor
