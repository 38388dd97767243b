/-
  DERIVED. GIVEN WITH THE SEED: THE CARDS: each row of YtpbhccejcjichaaDoorRows.lean that lists a variable, with what it lists TIED to the program's text (the seventh form; the later family's looks); each row that meets fmt, with fmt's text TOLD by the authors' own Lean function (tested against real Go, not proved from fmt's source: count such statements apart). THE CARD IS WHAT COUNTS. Prove the row's statement (the work); the ties are given (YtpbhccejcjichaaDoorTie.lean); close each card by the builder's one call (the guide's Derived/Test/ToyasCard.lean, 'card_holds'). Laid BY PROGRAM, IN A SANDBOX (cutbox-door.mjs). By AI agents, Wed Nov 11 2026. No macro, syntax, notation, axiom, sorry.
-/
import Derived.Test.YtpbhccejcjichaaDoorRows
import GoSem.ClaimSeven
namespace Go.Proofs.YtpbhccejcjichaaDoor
namespace Rows

/-- THE TIED CARD OF 'linnetlaw1.DigestSums'. -/
def digestSumsCard : Claim7 := { stood := { row := digestSumsRow, standIns := [], harness := (true, "09c24720f475d48185c8903140ad14465ebdb848e59cc4ab30b705be4840af18"), looks := false }, kinds := [], alts := [], laidByText := true, laidKinds := [.data], laidTests := true, laidLooks := .later }
def DigestSumsCardSaid : Prop := Claim7.holds Tryd.pinned (.plain (OpenSpec.ofChange digestSumsSpec)) digestSumsCard

/-- THE TIED CARD OF 'linnetlaw1.DigestGoes'. -/
def digestGoesCard : Claim7 := { stood := { row := digestGoesRow, standIns := [], harness := (true, "09c24720f475d48185c8903140ad14465ebdb848e59cc4ab30b705be4840af18"), looks := false }, kinds := [], alts := [], laidByText := true, laidKinds := [.data], laidTests := true, laidLooks := .later }
def DigestGoesCardSaid : Prop := Claim7.holds Tryd.pinned (.plain (OpenSpec.ofChange digestGoesSpec)) digestGoesCard

/-- THE TIED CARD OF 'linnetlaw1.DigestEdges'. -/
def digestEdgesCard : Claim7 := { stood := { row := digestEdgesRow, standIns := [], harness := (true, "09c24720f475d48185c8903140ad14465ebdb848e59cc4ab30b705be4840af18"), looks := false }, kinds := [], alts := [], laidByText := true, laidKinds := [.data], laidTests := true, laidLooks := .later }
def DigestEdgesCardSaid : Prop := Claim7.holds Tryd.pinned (.plain (OpenSpec.ofChange digestEdgesSpec)) digestEdgesCard

/-- THE SECOND FORM's CARD OF 'linnetlaw1.DigestSums'. -/
def digestSumsUptoCard : Claim7 := { stood := { row := digestSumsUptoRow, standIns := [], harness := (true, "09c24720f475d48185c8903140ad14465ebdb848e59cc4ab30b705be4840af18"), looks := false }, kinds := [], alts := [], laidByText := true, laidKinds := [.data], laidTests := true, laidLooks := .later }
def DigestSumsUptoCardSaid : Prop := Claim7.holds Tryd.pinned (.plain (OpenSpec.upto digestSumsSpec)) digestSumsUptoCard

/-- THE SECOND FORM's CARD OF 'linnetlaw1.DigestGoes'. -/
def digestGoesUptoCard : Claim7 := { stood := { row := digestGoesUptoRow, standIns := [], harness := (true, "09c24720f475d48185c8903140ad14465ebdb848e59cc4ab30b705be4840af18"), looks := false }, kinds := [], alts := [], laidByText := true, laidKinds := [.data], laidTests := true, laidLooks := .later }
def DigestGoesUptoCardSaid : Prop := Claim7.holds Tryd.pinned (.plain (OpenSpec.upto digestGoesSpec)) digestGoesUptoCard

/-- THE SECOND FORM's CARD OF 'linnetlaw1.DigestEdges'. -/
def digestEdgesUptoCard : Claim7 := { stood := { row := digestEdgesUptoRow, standIns := [], harness := (true, "09c24720f475d48185c8903140ad14465ebdb848e59cc4ab30b705be4840af18"), looks := false }, kinds := [], alts := [], laidByText := true, laidKinds := [.data], laidTests := true, laidLooks := .later }
def DigestEdgesUptoCardSaid : Prop := Claim7.holds Tryd.pinned (.plain (OpenSpec.upto digestEdgesSpec)) digestEdgesUptoCard
end Rows
end Go.Proofs.YtpbhccejcjichaaDoor
