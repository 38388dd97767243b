/- An argument that is a slice of Refs, opened. No conditions: lemmas. -/
import Derived.Test.YtnhokjnmpdiokaaGreatDoorJaM
import Derived.Test.YtnhokjnmpdiokaaGreatDoorRw
import Derived.Deep.Slices
import Derived.ChangeSlices
import Derived.ChangeSame
namespace Go.Proofs.YtnhokjnmpdiokaaGreatDoor
open Go.ChangeShapes Go.WideShapes Go.ChangeAt Go.RowKit Go.Sha
set_option linter.unusedVariables false

section
variable {H : Type} {enc : TypeId × Value → H} {w : World} {base : Nat} {held : Bool}
end
end Go.Proofs.YtnhokjnmpdiokaaGreatDoor
