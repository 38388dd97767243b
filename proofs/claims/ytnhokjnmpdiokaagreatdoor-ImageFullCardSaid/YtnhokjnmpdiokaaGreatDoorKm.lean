/- Arguments []int and [][]int, opened. No conditions: lemmas. -/
import Derived.Test.YtnhokjnmpdiokaaGreatDoorJi
import Derived.Test.YtnhokjnmpdiokaaGreatDoorHgM
namespace Go.Proofs.YtnhokjnmpdiokaaGreatDoor
open Go.ChangeShapes Go.WideShapes Go.ChangeAt Go.RowKit Go.Sha
set_option linter.unusedVariables false

def B64 (l : List Int) : Prop := ∀ a ∈ l, -9223372036854775808 ≤ a ∧ a ≤ 9223372036854775807
theorem ir_of_row {w : World} {a : Option Addr} {len cap : Nat} {zs : List Int} (h : IsRow .i64 w a len cap zs) : IR w (.slice a len cap) (zs.take len) ∧ (zs.take len).length = len ∧ len ≤ 9223372036854775807 ∧ B64 (zs.take len) := by
  rcases h with ⟨rfl, rfl, rfl, rfl⟩ | ⟨x, rfl, hl, hm, hz, hc, hw⟩
  · exact ⟨⟨none, 0, 0, 0, rfl, fun h => by simp at h, fun j a h => by simp at h⟩, rfl, by omega, fun y hy => by simp at hy⟩
  · have hlen : (zs.take len).length = len := by rw [List.length_take]; omega
    have ep : 0 < len → x = ⟨x.block, x.off, none⟩ := fun h0 => by
      have := hc 0 (by omega)
      rw [show x.add 0 = x.add (0 * 1 + 0) from rfl] at this
      exact plain_of_cell (by simpa using this)
    refine ⟨⟨some x, cap, x.block, x.off, by rw [hlen], fun h0 => by rw [hlen] at h0; rw [← ep h0], fun j y hj => ?_⟩, hlen, by unfold maxLen at hm; omega, fun y hy => ?_⟩
    · have hjl : j < len := by have := (List.getElem?_eq_some_iff.1 hj).1; omega
      have := hc j (by omega)
      rw [ep (by omega), Addr.add_mid] at this
      rw [List.getElem?_take_of_lt hjl] at hj
      rw [this, List.getD_eq_getElem?_getD, hj]
      rfl
    · have := hw y (List.mem_of_mem_take hy)
      simp [Lit.wf, IntKind.min, IntKind.max, IntKind.signed, IntKind.bits] at this
      omega
def IRR (w : World) (v : Value) (ls : List (List Int)) : Prop := ∃ ad cap b o, v = .slice ad ls.length cap ∧ (0 < ls.length → ad = some ⟨b, o, none⟩) ∧ ∀ (j : Nat) (m : List Int), ls[j]? = some m → ∃ u, w.cell? ⟨b, o + j, none⟩ = some u ∧ IR w u m ∧ m.length ≤ 9223372036854775807 ∧ B64 m
theorem IRR.ext {w w' : World} {v : Value} {ls : List (List Int)} (h : IRR w v ls) (e : Ext w w') : IRR w' v ls := by
  obtain ⟨ad, cap, b, o, h1, h2, h3⟩ := h
  refine ⟨ad, cap, b, o, h1, h2, fun j m hj => ?_⟩
  obtain ⟨u, hu, hi, hl⟩ := h3 j m hj
  exact ⟨u, ext_cell e hu, ir_ext hi e, hl⟩
theorem cells_rowI : Tryz.prog.cellsOf 34 = 1 := by kernel_rfl
section
variable {H : Type} {enc : TypeId × Value → H} {w : World} {base : Nat} {held : Bool}
theorem open_nums {fuel : Nat} {v : Value} {x : DataW H × List MemPlace} (h : DataW.trod enc Tryz.prog w base (fun _ => true) held fuel 34 [v] = some x) : ∃ l : List Int, IR w v l ∧ l.length ≤ 9223372036854775807 ∧ B64 l := by
  rcases open_ints Tryz.underlying34 Tryz.underlying3 (by kernel_rfl) h with ⟨hcs, _⟩ | ⟨x, l, c, zs, hcs, _, hl, hm, hz, _, hcell, hwz⟩
  · injection hcs with hcs
    subst hcs
    exact ⟨[], ir_nil w, by simp, fun y hy => by cases hy⟩
  · injection hcs with hcs
    subst hcs
    obtain ⟨h1, h2, h3, h4⟩ := ir_of_row (w := w) (a := some x) (len := l) (cap := c) (zs := zs) (.inr ⟨_, rfl, hl, hm, by simpa using hz, hcell, hwz⟩)
    exact ⟨_, h1, by rw [h2]; exact h3, h4⟩
set_option maxRecDepth 100000 in
theorem open_rows {fuel : Nat} {v : Value} {x : DataW H × List MemPlace} (h : DataW.trod enc Tryz.prog w 0 (fun _ => true) held fuel 33 [v] = some x) : ∃ ls : List (List Int), IRR w v ls ∧ ls.length ≤ 9223372036854775807 := by
  rcases Deep.open_slice Tryz.underlying33 h with ⟨hcs, _⟩ | ⟨a, len, cap, m, n, D, Pl, hcs, _, hl, hm, hmm, _, hi⟩
  · injection hcs with hcs
    subst hcs
    exact ⟨[], ⟨none, 0, 0, 0, rfl, fun h => by simp at h, fun j m h => by simp at h⟩, by simp⟩
  · injection hcs with hcs
    subst hcs
    simp at hmm
    subst hmm
    have key : ∀ i, i < len → ∃ (r : List Int) (u : Value), w.cell? (a.add i) = some u ∧ IR w u r ∧ r.length ≤ 9223372036854775807 ∧ B64 r := fun i hlt => by
      obtain ⟨cs', hc, ht⟩ := hi i (by omega)
      rw [cells_rowI] at hc
      obtain ⟨_, hlen, hat⟩ := World.cells?_some hc
      match cs', hlen with
      | [u], _ =>
        obtain ⟨r, h1, h2, h3⟩ := open_nums ht
        have := hat 0 (by omega)
        rw [Deep.add_add] at this
        exact ⟨r, u, by simpa using this, h1, h2, h3⟩
    classical
    let f : Nat → List Int := fun i => if h : i < len then Classical.choose (key i h) else []
    have hf : ∀ i, i < len → ∃ u : Value, w.cell? (a.add i) = some u ∧ IR w u (f i) ∧ (f i).length ≤ 9223372036854775807 ∧ B64 (f i) := fun i h => by
      have := Classical.choose_spec (key i h)
      simp only [f, dif_pos h]
      exact this
    generalize f = g at hf
    have ep : 0 < len → a = ⟨a.block, a.off, none⟩ := fun h0 => by
      obtain ⟨u, hu, _⟩ := hf 0 h0
      exact plain_of_cell hu
    refine ⟨(List.range len).map g, ⟨some a, m, a.block, a.off, by simp, fun h0 => by rw [← ep (by simpa using h0)], fun j y hj => ?_⟩, by simp; unfold maxLen at hm; omega⟩
    have hjl : j < len := by have := (List.getElem?_eq_some_iff.1 hj).1; simpa using this
    have e : y = g j := by rw [List.getElem?_map, List.getElem?_range hjl] at hj; simpa using hj.symm
    subst e
    obtain ⟨u, hu, r⟩ := hf j hjl
    rw [ep (by omega), Addr.add_mid] at hu
    exact ⟨u, hu, r⟩
end
end Go.Proofs.YtnhokjnmpdiokaaGreatDoor
