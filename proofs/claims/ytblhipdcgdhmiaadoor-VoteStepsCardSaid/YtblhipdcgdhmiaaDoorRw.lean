/- What the arguments give the walks: slices of bytes, and of slices of bytes, as lists. No conditions: lemmas. -/
import Derived.Test.YtblhipdcgdhmiaaDoorRows
import Derived.Test.YtblhipdcgdhmiaaDoorPu
import Derived.ProofKit
import Derived.LaidMore
import Derived.OpenShut
import Derived.ShutString
import Derived.ChangeOld
import Derived.Below
import Derived.Stop.Joined
import Derived.Lib.LaidTab
import Derived.SevenTiedAt
import Derived.Deep.Matrix
namespace Go.Proofs.YtblhipdcgdhmiaaDoor
open Go.ChangeShapes Go.WideShapes Go.ChangeAt Go.RowKit Go.Sha

theorem own : ownKnob Tryd.prog.godebug = none := by kernel_rfl
theorem laidOut : laidOutB Tryd.prog = true := by kernel_rfl

/-- A slice of integers that came in. -/
def IsRow (k : IntKind) (w : World) (a : Option Addr) (len cap : Nat) (zs : List Int) : Prop :=
  (a = none ∧ len = 0 ∧ cap = 0 ∧ zs = []) ∨
  ∃ x, a = some x ∧ len ≤ cap ∧ cap ≤ maxLen ∧ zs.length = cap ∧ (∀ i, i < zs.length → w.cell? (x.add i) = some (.int k (zs.getD i 0))) ∧ ∀ n ∈ zs, (Lit.int k n).wf = true

theorem src_of_row {w : World} {a : Option Addr} {len cap : Nat} {zs : List Int} (h : IsRow .u8 w a len cap zs) : Src w (.slice a len cap) (zs.take len) w.heap.size ∧ (zs.take len).length = len ∧ len ≤ maxLen := by
  rcases h with ⟨rfl, rfl, rfl, rfl⟩ | ⟨x, rfl, hl, hm, hz, hc, _⟩
  · exact ⟨⟨none, 0, w.heap.size + 1, 0, rfl, by simp, fun h => by simp at h, by omega, fun j hj => by simp at hj, fun _ => rfl⟩, rfl, by unfold maxLen; omega⟩
  · have hlen : (zs.take len).length = len := by rw [List.length_take]; omega
    refine ⟨?_, hlen, by omega⟩
    by_cases h0 : 0 < len
    · have c0 := hc 0 (by omega)
      have e : x = ⟨x.block, x.off, none⟩ := by
        obtain ⟨xb, xo, sp⟩ := x
        cases sp with
        | none => rfl
        | some s =>
          exfalso
          have : (⟨xb, xo, some s⟩ : Addr).add 0 = ⟨xb, xo, some s⟩ := rfl
          rw [this] at c0
          unfold World.cell? at c0
          simp at c0
          split at c0 <;> simp_all
      have hb : x.block < w.heap.size := by
        have := World.block_lt_of_cell? w _ c0
        rw [show x.add 0 = x from rfl] at this
        exact this
      refine ⟨some x, cap, x.block, x.off, by rw [hlen], by omega, fun _ => by rw [← e], by omega, fun j hj => ?_, fun h => by cases h⟩
      rw [hlen] at hj
      have cj := hc j (by omega)
      rw [e, Addr.add_mid] at cj
      rw [cj, List.getElem?_take_of_lt hj]; rfl
    · exact ⟨some x, cap, w.heap.size + 1, 0, by rw [hlen], by omega, fun h => by omega, by omega, fun j hj => by omega, fun h => by cases h⟩
theorem byt_of_row {w : World} {a : Option Addr} {len cap : Nat} {zs : List Int} (h : IsRow .u8 w a len cap zs) : Byt (zs.take len) := by
  rcases h with ⟨rfl, rfl, rfl, rfl⟩ | ⟨x, rfl, hl, hm, hz, hc, hw⟩
  · intro y hy
    simp at hy
  · intro y hy
    have := hw y (List.mem_of_mem_take hy)
    simp [Lit.wf, IntKind.min, IntKind.max, IntKind.signed, IntKind.bits] at this
    omega
theorem srcs_none (w : World) : Srcs w (.slice none 0 0) [] := ⟨none, 0, 0, 0, rfl, fun h => absurd h (by simp), fun j x hx => by simp at hx⟩
theorem plain_of_cell {w : World} {x : Addr} {v : Value} (c0 : w.cell? (x.add 0) = some v) : x = ⟨x.block, x.off, none⟩ := by
  obtain ⟨xb, xo, sp⟩ := x
  cases sp with
  | none => rfl
  | some s =>
    exfalso
    have : (⟨xb, xo, some s⟩ : Addr).add 0 = ⟨xb, xo, some s⟩ := rfl
    rw [this] at c0
    unfold World.cell? at c0
    simp at c0
    split at c0 <;> simp_all

/-- The rows of a slice of slices of bytes, as the walk holds them. -/
def rowsOf (len : Nat) (A : Nat → Option Addr) (L C : Nat → Nat) (Z : Nat → List Int) : List (Value × List Int) := (List.range len).map fun r => (Value.slice (A r) (L r) (C r), (Z r).take (L r))
theorem rowsOf_length (len : Nat) (A : Nat → Option Addr) (L C : Nat → Nat) (Z : Nat → List Int) : (rowsOf len A L C Z).length = len := by simp [rowsOf]

theorem srcs_of_rows {w : World} {a : Addr} {len cap : Nat} {A : Nat → Option Addr} {L C : Nat → Nat} {Z : Nat → List Int} (hl : len ≤ cap)
    (hrows : ∀ r, r < cap → w.cell? (a.add r) = some (.slice (A r) (L r) (C r)) ∧ IsRow .u8 w (A r) (L r) (C r) (Z r)) :
    Srcs w (.slice (some a) len cap) (rowsOf len A L C Z) ∧ ∀ x ∈ rowsOf len A L C Z, x.2.length ≤ 9223372036854775807 := by
  refine ⟨⟨some a, cap, a.block, a.off, by rw [rowsOf_length], fun h => ?_, fun j x hx => ?_⟩, fun x hx => ?_⟩
  · rw [rowsOf_length] at h
    rw [← plain_of_cell (hrows 0 (by omega)).1]
  · have hj : j < len := by
      have := (List.getElem?_eq_some_iff.1 hx).1
      rwa [rowsOf_length] at this
    have ex : x = (Value.slice (A j) (L j) (C j), (Z j).take (L j)) := by
      unfold rowsOf at hx
      rw [List.getElem?_map, List.getElem?_range hj] at hx
      simpa using hx.symm
    subst ex
    obtain ⟨hc, hr⟩ := hrows j (by omega)
    refine ⟨?_, (src_of_row hr).1⟩
    rw [plain_of_cell (hrows 0 (by omega)).1, Addr.add_mid] at hc
    exact hc
  · unfold rowsOf at hx
    obtain ⟨r, hr, rfl⟩ := List.mem_map.1 hx
    have hr' := List.mem_range.1 hr
    obtain ⟨_, h2, h3⟩ := src_of_row (hrows r (by omega)).2
    show ((Z r).take (L r)).length ≤ _
    rw [h2]
    unfold maxLen at h3
    omega

/-- A slice of slices of bytes that came in. -/
def Arg (w : World) (v : Value) (ps : List (Value × List Int)) : Prop := Srcs w v ps ∧ ps.length ≤ 9223372036854775807 ∧ (∀ x ∈ ps, x.2.length ≤ 9223372036854775807) ∧ ∀ x ∈ ps, Byt x.2
theorem arg_none (w : World) : Arg w (.slice none 0 0) [] := ⟨srcs_none w, by simp, by simp, by simp⟩
theorem arg_of_rows {w : World} {a : Addr} {len cap : Nat} {A : Nat → Option Addr} {L C : Nat → Nat} {Z : Nat → List Int} (hl : len ≤ cap) (hm : cap ≤ maxLen)
    (hrows : ∀ r, r < cap → w.cell? (a.add r) = some (.slice (A r) (L r) (C r)) ∧ IsRow .u8 w (A r) (L r) (C r) (Z r)) : Arg w (.slice (some a) len cap) (rowsOf len A L C Z) := by
  obtain ⟨q1, q2⟩ := srcs_of_rows hl hrows
  refine ⟨q1, by rw [rowsOf_length]; unfold maxLen at hm; omega, q2, fun x hx => ?_⟩
  unfold rowsOf at hx
  obtain ⟨r, hr, rfl⟩ := List.mem_map.1 hx
  exact byt_of_row (hrows r (by have := List.mem_range.1 hr; omega)).2
end Go.Proofs.YtblhipdcgdhmiaaDoor
