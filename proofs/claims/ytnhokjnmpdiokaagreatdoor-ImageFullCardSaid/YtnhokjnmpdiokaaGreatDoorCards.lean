/-
  DERIVED. GIVEN WITH THE SEED: THE CARDS: each row of YtnhokjnmpdiokaaGreatDoorRows.lean that lists a variable, with what it lists TIED to the program's text (the seventh form; the later family's looks); each row that meets fmt, with fmt's text TOLD by the authors' own Lean function (tested against real Go, not proved from fmt's source: count such statements apart). THE CARD IS WHAT COUNTS. Prove the row's statement (the work); the ties are given (YtnhokjnmpdiokaaGreatDoorTie.lean); close each card by the builder's one call (the guide's Derived/Test/ToyasCard.lean, 'card_holds'). Laid BY PROGRAM, IN A SANDBOX (cutbox-door.mjs). By AI agents, Wed Nov 11 2026. No macro, syntax, notation, axiom, sorry.
-/
import Derived.Test.YtnhokjnmpdiokaaGreatDoorRows
import GoSem.ClaimSeven
namespace Go.Proofs.YtnhokjnmpdiokaaGreatDoor
namespace Rows

/-- THE TIED CARD OF 'linnetlaw10.ImageMay'. -/
def imageMayCard : Claim7 := { stood := { row := imageMayRow, standIns := [], harness := (true, "36f21cd25a2c3e47bbb3a14d9171bab0813f6ba311bbcecc31392be9565d43d0"), looks := false }, kinds := [], alts := [], laidByText := true, laidKinds := [.data, .data, .pinned], laidTests := true, laidLooks := .later }
def ImageMayCardSaid : Prop := Claim7.holds Tryz.pinned (.plain (OpenSpec.ofChange imageMaySpec)) imageMayCard

/-- THE TIED CARD OF 'linnetlaw10.ImagePlays'. -/
def imagePlaysCard : Claim7 := { stood := { row := imagePlaysRow, standIns := [], harness := (true, "36f21cd25a2c3e47bbb3a14d9171bab0813f6ba311bbcecc31392be9565d43d0"), looks := false }, kinds := [], alts := [], laidByText := true, laidKinds := [.data, .data, .pinned], laidTests := true, laidLooks := .later }
def ImagePlaysCardSaid : Prop := Claim7.holds Tryz.pinned (.plain (OpenSpec.ofChange imagePlaysSpec)) imagePlaysCard

/-- THE TIED CARD OF 'linnetlaw10.ImageFull'. -/
def imageFullCard : Claim7 := { stood := { row := imageFullRow, standIns := [], harness := (true, "36f21cd25a2c3e47bbb3a14d9171bab0813f6ba311bbcecc31392be9565d43d0"), looks := false }, kinds := [], alts := [], laidByText := true, laidKinds := [.data, .data, .pinned], laidTests := true, laidLooks := .later }
def ImageFullCardSaid : Prop := Claim7.holds Tryz.pinned (.plain (OpenSpec.ofChange imageFullSpec)) imageFullCard

/-- THE TIED CARD OF 'linnetlaw10.ImageGens'. -/
def imageGensCard : Claim7 := { stood := { row := imageGensRow, standIns := [], harness := (true, "36f21cd25a2c3e47bbb3a14d9171bab0813f6ba311bbcecc31392be9565d43d0"), looks := false }, kinds := [], alts := [], laidByText := true, laidKinds := [.data, .data, .pinned], laidTests := true, laidLooks := .later }
def ImageGensCardSaid : Prop := Claim7.holds Tryz.pinned (.plain (OpenSpec.ofChange imageGensSpec)) imageGensCard

/-- THE SECOND FORM's CARD OF 'linnetlaw10.ImageMay'. -/
def imageMayUptoCard : Claim7 := { stood := { row := imageMayUptoRow, standIns := [], harness := (true, "36f21cd25a2c3e47bbb3a14d9171bab0813f6ba311bbcecc31392be9565d43d0"), looks := false }, kinds := [], alts := [], laidByText := true, laidKinds := [.data, .data, .pinned], laidTests := true, laidLooks := .later }
def ImageMayUptoCardSaid : Prop := Claim7.holds Tryz.pinned (.plain (OpenSpec.upto imageMaySpec)) imageMayUptoCard

/-- THE SECOND FORM's CARD OF 'linnetlaw10.ImagePlays'. -/
def imagePlaysUptoCard : Claim7 := { stood := { row := imagePlaysUptoRow, standIns := [], harness := (true, "36f21cd25a2c3e47bbb3a14d9171bab0813f6ba311bbcecc31392be9565d43d0"), looks := false }, kinds := [], alts := [], laidByText := true, laidKinds := [.data, .data, .pinned], laidTests := true, laidLooks := .later }
def ImagePlaysUptoCardSaid : Prop := Claim7.holds Tryz.pinned (.plain (OpenSpec.upto imagePlaysSpec)) imagePlaysUptoCard

/-- THE SECOND FORM's CARD OF 'linnetlaw10.ImageFull'. -/
def imageFullUptoCard : Claim7 := { stood := { row := imageFullUptoRow, standIns := [], harness := (true, "36f21cd25a2c3e47bbb3a14d9171bab0813f6ba311bbcecc31392be9565d43d0"), looks := false }, kinds := [], alts := [], laidByText := true, laidKinds := [.data, .data, .pinned], laidTests := true, laidLooks := .later }
def ImageFullUptoCardSaid : Prop := Claim7.holds Tryz.pinned (.plain (OpenSpec.upto imageFullSpec)) imageFullUptoCard

/-- THE SECOND FORM's CARD OF 'linnetlaw10.ImageGens'. -/
def imageGensUptoCard : Claim7 := { stood := { row := imageGensUptoRow, standIns := [], harness := (true, "36f21cd25a2c3e47bbb3a14d9171bab0813f6ba311bbcecc31392be9565d43d0"), looks := false }, kinds := [], alts := [], laidByText := true, laidKinds := [.data, .data, .pinned], laidTests := true, laidLooks := .later }
def ImageGensUptoCardSaid : Prop := Claim7.holds Tryz.pinned (.plain (OpenSpec.upto imageGensSpec)) imageGensUptoCard
end Rows
end Go.Proofs.YtnhokjnmpdiokaaGreatDoor
