/- What the arguments give the walks: slices of bytes, and of slices of bytes, as lists. No conditions: lemmas. -/
import Derived.Test.YtnhokjnmpdiokaaGreatDoorRows
import Derived.Test.YtnhokjnmpdiokaaGreatDoorSpM
import Derived.ProofKit
import Derived.LaidMore
import Derived.OpenShut
import Derived.ShutString
import Derived.ChangeOld
import Derived.Below
import Derived.Stop.Joined
import Derived.Lib.LaidTab
import Derived.SevenTiedAt
import Derived.Deep.Matrix
namespace Go.Proofs.YtnhokjnmpdiokaaGreatDoor
open Go.ChangeShapes Go.WideShapes Go.ChangeAt Go.RowKit Go.Sha

theorem own : ownKnob Tryz.prog.godebug = none := by kernel_rfl
theorem laidOut : laidOutB Tryz.prog = true := by kernel_rfl

def IsRow (k : IntKind) (w : World) (a : Option Addr) (len cap : Nat) (zs : List Int) : Prop :=
  (a = none ∧ len = 0 ∧ cap = 0 ∧ zs = []) ∨
  ∃ x, a = some x ∧ len ≤ cap ∧ cap ≤ maxLen ∧ zs.length = cap ∧ (∀ i, i < zs.length → w.cell? (x.add i) = some (.int k (zs.getD i 0))) ∧ ∀ n ∈ zs, (Lit.int k n).wf = true

theorem plain_of_cell {w : World} {x : Addr} {v : Value} (c0 : w.cell? (x.add 0) = some v) : x = ⟨x.block, x.off, none⟩ := by
  obtain ⟨xb, xo, sp⟩ := x
  cases sp with
  | none => rfl
  | some s =>
    exfalso
    have : (⟨xb, xo, some s⟩ : Addr).add 0 = ⟨xb, xo, some s⟩ := rfl
    rw [this] at c0
    unfold World.cell? at c0
    simp at c0
    split at c0 <;> simp_all

end Go.Proofs.YtnhokjnmpdiokaaGreatDoor
