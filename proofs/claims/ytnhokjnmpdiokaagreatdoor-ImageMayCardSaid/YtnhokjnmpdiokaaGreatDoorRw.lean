/- What the arguments give the walks: slices of bytes, and of slices of bytes, as lists. No conditions: lemmas. -/
import Derived.Test.YtnhokjnmpdiokaaGreatDoorRows
import Derived.Test.YtnhokjnmpdiokaaGreatDoorSpM
import Derived.ProofKit
import Derived.LaidMore
import Derived.OpenShut
import Derived.ShutString
import Derived.ChangeOld
import Derived.Below
import Derived.Stop.Joined
import Derived.Lib.LaidTab
import Derived.SevenTiedAt
import Derived.Deep.Matrix
namespace Go.Proofs.YtnhokjnmpdiokaaGreatDoor
open Go.ChangeShapes Go.WideShapes Go.ChangeAt Go.RowKit Go.Sha

theorem own : ownKnob Tryz.prog.godebug = none := by kernel_rfl
theorem laidOut : laidOutB Tryz.prog = true := by kernel_rfl

/-- A slice of integers that came in. -/
def IsRow (k : IntKind) (w : World) (a : Option Addr) (len cap : Nat) (zs : List Int) : Prop :=
  (a = none ∧ len = 0 ∧ cap = 0 ∧ zs = []) ∨
  ∃ x, a = some x ∧ len ≤ cap ∧ cap ≤ maxLen ∧ zs.length = cap ∧ (∀ i, i < zs.length → w.cell? (x.add i) = some (.int k (zs.getD i 0))) ∧ ∀ n ∈ zs, (Lit.int k n).wf = true

theorem src_of_row {w : World} {a : Option Addr} {len cap : Nat} {zs : List Int} (h : IsRow .u8 w a len cap zs) : Src w (.slice a len cap) (zs.take len) w.heap.size ∧ (zs.take len).length = len ∧ len ≤ maxLen := by
  rcases h with ⟨rfl, rfl, rfl, rfl⟩ | ⟨x, rfl, hl, hm, hz, hc, _⟩
  · exact ⟨⟨none, 0, w.heap.size + 1, 0, rfl, by simp, fun h => by simp at h, by omega, fun j hj => by simp at hj, fun _ => rfl⟩, rfl, by unfold maxLen; omega⟩
  · have hlen : (zs.take len).length = len := by rw [List.length_take]; omega
    refine ⟨?_, hlen, by omega⟩
    by_cases h0 : 0 < len
    · have c0 := hc 0 (by omega)
      have e : x = ⟨x.block, x.off, none⟩ := by
        obtain ⟨xb, xo, sp⟩ := x
        cases sp with
        | none => rfl
        | some s =>
          exfalso
          have : (⟨xb, xo, some s⟩ : Addr).add 0 = ⟨xb, xo, some s⟩ := rfl
          rw [this] at c0
          unfold World.cell? at c0
          simp at c0
          split at c0 <;> simp_all
      have hb : x.block < w.heap.size := by
        have := World.block_lt_of_cell? w _ c0
        rw [show x.add 0 = x from rfl] at this
        exact this
      refine ⟨some x, cap, x.block, x.off, by rw [hlen], by omega, fun _ => by rw [← e], by omega, fun j hj => ?_, fun h => by cases h⟩
      rw [hlen] at hj
      have cj := hc j (by omega)
      rw [e, Addr.add_mid] at cj
      rw [cj, List.getElem?_take_of_lt hj]; rfl
    · exact ⟨some x, cap, w.heap.size + 1, 0, by rw [hlen], by omega, fun h => by omega, by omega, fun j hj => by omega, fun h => by cases h⟩
theorem byt_of_row {w : World} {a : Option Addr} {len cap : Nat} {zs : List Int} (h : IsRow .u8 w a len cap zs) : Byt (zs.take len) := by
  rcases h with ⟨rfl, rfl, rfl, rfl⟩ | ⟨x, rfl, hl, hm, hz, hc, hw⟩
  · intro y hy
    simp at hy
  · intro y hy
    have := hw y (List.mem_of_mem_take hy)
    simp [Lit.wf, IntKind.min, IntKind.max, IntKind.signed, IntKind.bits] at this
    omega
theorem plain_of_cell {w : World} {x : Addr} {v : Value} (c0 : w.cell? (x.add 0) = some v) : x = ⟨x.block, x.off, none⟩ := by
  obtain ⟨xb, xo, sp⟩ := x
  cases sp with
  | none => rfl
  | some s =>
    exfalso
    have : (⟨xb, xo, some s⟩ : Addr).add 0 = ⟨xb, xo, some s⟩ := rfl
    rw [this] at c0
    unfold World.cell? at c0
    simp at c0
    split at c0 <;> simp_all

end Go.Proofs.YtnhokjnmpdiokaaGreatDoor
