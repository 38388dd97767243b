/-
  DERIVED. GIVEN WITH THE SEED: THE CARDS: each row of YtmplnlcmdcogmaaDoorRows.lean that lists a variable, with what it lists TIED to the program's text (the seventh form; the later family's looks); each row that meets fmt, with fmt's text TOLD by the authors' own Lean function (tested against real Go, not proved from fmt's source: count such statements apart). THE CARD IS WHAT COUNTS. Prove the row's statement (the work); the ties are given (YtmplnlcmdcogmaaDoorTie.lean); close each card by the builder's one call (the guide's Derived/Test/ToyasCard.lean, 'card_holds'). Laid BY PROGRAM, IN A SANDBOX (cutbox-door.mjs). By AI agents, Wed Nov 11 2026. No macro, syntax, notation, axiom, sorry.
-/
import Derived.Test.YtmplnlcmdcogmaaDoorRows
import GoSem.ClaimSeven
namespace Go.Proofs.YtmplnlcmdcogmaaDoor
namespace Rows

/-- THE TIED CARD OF 'linnetlaw2.MerkleAsks'. -/
def merkleAsksCard : Claim7 := { stood := { row := merkleAsksRow, standIns := [], harness := (true, "45c1be1f0b612e8678cb093e1a8f4004752cf061b9c0a726b1d0f8e39ed1147c"), looks := false }, kinds := [], alts := [], laidByText := true, laidKinds := [.data], laidTests := true, laidLooks := .later }
def MerkleAsksCardSaid : Prop := Claim7.holds Tryd.pinned (.plain (OpenSpec.ofChange merkleAsksSpec)) merkleAsksCard

/-- THE TIED CARD OF 'linnetlaw2.MerkleTrees'. -/
def merkleTreesCard : Claim7 := { stood := { row := merkleTreesRow, standIns := [], harness := (true, "45c1be1f0b612e8678cb093e1a8f4004752cf061b9c0a726b1d0f8e39ed1147c"), looks := false }, kinds := [], alts := [], laidByText := true, laidKinds := [.data], laidTests := true, laidLooks := .later }
def MerkleTreesCardSaid : Prop := Claim7.holds Tryd.pinned (.plain (OpenSpec.ofChange merkleTreesSpec)) merkleTreesCard

/-- THE TIED CARD OF 'linnetlaw2.MerkleLevels'. -/
def merkleLevelsCard : Claim7 := { stood := { row := merkleLevelsRow, standIns := [], harness := (true, "45c1be1f0b612e8678cb093e1a8f4004752cf061b9c0a726b1d0f8e39ed1147c"), looks := false }, kinds := [], alts := [], laidByText := true, laidKinds := [.data], laidTests := true, laidLooks := .later }
def MerkleLevelsCardSaid : Prop := Claim7.holds Tryd.pinned (.plain (OpenSpec.ofChange merkleLevelsSpec)) merkleLevelsCard

/-- THE SECOND FORM's CARD OF 'linnetlaw2.MerkleAsks'. -/
def merkleAsksUptoCard : Claim7 := { stood := { row := merkleAsksUptoRow, standIns := [], harness := (true, "45c1be1f0b612e8678cb093e1a8f4004752cf061b9c0a726b1d0f8e39ed1147c"), looks := false }, kinds := [], alts := [], laidByText := true, laidKinds := [.data], laidTests := true, laidLooks := .later }
def MerkleAsksUptoCardSaid : Prop := Claim7.holds Tryd.pinned (.plain (OpenSpec.upto merkleAsksSpec)) merkleAsksUptoCard

/-- THE SECOND FORM's CARD OF 'linnetlaw2.MerkleTrees'. -/
def merkleTreesUptoCard : Claim7 := { stood := { row := merkleTreesUptoRow, standIns := [], harness := (true, "45c1be1f0b612e8678cb093e1a8f4004752cf061b9c0a726b1d0f8e39ed1147c"), looks := false }, kinds := [], alts := [], laidByText := true, laidKinds := [.data], laidTests := true, laidLooks := .later }
def MerkleTreesUptoCardSaid : Prop := Claim7.holds Tryd.pinned (.plain (OpenSpec.upto merkleTreesSpec)) merkleTreesUptoCard

/-- THE SECOND FORM's CARD OF 'linnetlaw2.MerkleLevels'. -/
def merkleLevelsUptoCard : Claim7 := { stood := { row := merkleLevelsUptoRow, standIns := [], harness := (true, "45c1be1f0b612e8678cb093e1a8f4004752cf061b9c0a726b1d0f8e39ed1147c"), looks := false }, kinds := [], alts := [], laidByText := true, laidKinds := [.data], laidTests := true, laidLooks := .later }
def MerkleLevelsUptoCardSaid : Prop := Claim7.holds Tryd.pinned (.plain (OpenSpec.upto merkleLevelsSpec)) merkleLevelsUptoCard
end Rows
end Go.Proofs.YtmplnlcmdcogmaaDoor
