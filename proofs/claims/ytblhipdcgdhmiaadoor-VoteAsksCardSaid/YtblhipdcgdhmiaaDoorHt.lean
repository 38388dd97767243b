/- An argument that is three slices of bytes, opened. No conditions: lemmas. -/
import Derived.Test.YtblhipdcgdhmiaaDoorRw
import Derived.Deep.Slices
import Derived.ChangeSame
import Derived.Laws.IdiomArrays
namespace Go.Proofs.YtblhipdcgdhmiaaDoor
open Go.ChangeShapes Go.WideShapes Go.ChangeAt Go.RowKit Go.Sha

theorem cellsA3 : Tryd.prog.cellsOf 38 = 3 := by kernel_rfl
theorem cellsB1 : Tryd.prog.cellsOf 22 = 1 := by kernel_rfl
theorem okWide_array {P : Program} {w : World} {r : Reach} {base : Nat} {t e : TypeId} {n : Nat} {v : Value} (ht : P.underlying t = some (.array n e)) (h : Value.okWide P w r base t v) : ∃ cs, v = .agg cs ∧ cs.size = P.cellsOf t := by
  simp only [Value.okWide, ht] at h
  obtain ⟨cs, h1, h2, _⟩ := h
  exact ⟨cs, h1, h2⟩
section
variable {H : Type} {enc : TypeId × Value → H} {W : World}
theorem open_bytes3 {fuel : Nat} {v : Value} {x : DataW H × List MemPlace} (h : DataW.trod enc Tryd.prog W 0 (fun _ => true) true fuel 22 [v] = some x) :
    ∃ a len cap zs, v = .slice a len cap ∧ IsRow .u8 W a len cap zs := by
  rcases open_ints Tryd.underlying22 Tryd.underlying5 (by kernel_rfl) h with ⟨hcs, _⟩ | ⟨x, l, c, zs, hcs, _, hl, hm, hz, _, hcell, hwz⟩
  · injection hcs with hcs
    exact ⟨_, _, _, [], hcs, .inl ⟨rfl, rfl, rfl, rfl⟩⟩
  · injection hcs with hcs
    exact ⟨_, _, _, zs, hcs, .inr ⟨_, rfl, hl, hm, by simpa using hz, hcell, hwz⟩⟩
/-- A slice of bytes that came in. -/
def ArgB (W : World) (v : Value) (m : List Int) : Prop := Src W v m W.heap.size ∧ Byt m ∧ m.length ≤ 9223372036854775807
theorem argB_of_row {v : Value} {a : Option Addr} {len cap : Nat} {zs : List Int} (hv : v = .slice a len cap) (g : IsRow .u8 W a len cap zs) : ArgB W v (zs.take len) := by
  subst hv
  obtain ⟨s1, s2, s3⟩ := src_of_row g
  exact ⟨s1, byt_of_row g, by rw [s2]; unfold maxLen at s3; omega⟩
set_option maxRecDepth 100000 in
theorem open_array3 {fuel : Nat} {cs : List Value} {x : DataW H × List MemPlace} (hl : cs.length = 3) (h : DataW.trod enc Tryd.prog W 0 (fun _ => true) true fuel 38 cs = some x) :
    ∃ (v0 v1 v2 : Value) (a b c : List Int), cs = [v0, v1, v2] ∧ ArgB W v0 a ∧ ArgB W v1 b ∧ ArgB W v2 c := by
  match cs, hl with
  | [v0, v1, v2], _ =>
    obtain ⟨y0, y1, y2, n, _, h0, h1, h2⟩ := trod_array3 Tryd.underlying38 cellsB1 h
    obtain ⟨_, _, _, _, e0, g0⟩ := open_bytes3 h0
    obtain ⟨_, _, _, _, e1, g1⟩ := open_bytes3 h1
    obtain ⟨_, _, _, _, e2, g2⟩ := open_bytes3 h2
    exact ⟨v0, v1, v2, _, _, _, rfl, argB_of_row e0 g0, argB_of_row e1 g1, argB_of_row e2 g2⟩
end
end Go.Proofs.YtblhipdcgdhmiaaDoor
