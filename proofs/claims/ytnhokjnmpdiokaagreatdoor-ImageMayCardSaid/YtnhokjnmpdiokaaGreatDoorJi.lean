/- An argument that is a slice of Refs, opened. No conditions: lemmas. -/
import Derived.Test.YtnhokjnmpdiokaaGreatDoorJaM
import Derived.Test.YtnhokjnmpdiokaaGreatDoorRw
import Derived.Deep.Slices
import Derived.ChangeSlices
import Derived.ChangeSame
namespace Go.Proofs.YtnhokjnmpdiokaaGreatDoor
open Go.ChangeShapes Go.WideShapes Go.ChangeAt Go.RowKit Go.Sha
set_option linter.unusedVariables false

theorem cells_ref : Tryz.prog.cellsOf 52 = 6 := by kernel_rfl
theorem cells_i1 : Tryz.prog.cellsOf 3 = 1 := by kernel_rfl
theorem cells_s1 : Tryz.prog.cellsOf 9 = 1 := by kernel_rfl
theorem cells_u1 : Tryz.prog.cellsOf 38 = 1 := by kernel_rfl
theorem cells_b1 : Tryz.prog.cellsOf 50 = 1 := by kernel_rfl
/-- What is known of a Ref handed in. -/
def RefOk (w : World) (y : RV) : Prop := (y.p.size ≤ 9223372036854775807 ∧ y.r.length ≤ 9223372036854775807) ∧ Sha.Src w y.v y.r w.heap.size ∧ Byt y.r
section
variable {H : Type} {enc : TypeId × Value → H} {w : World} {base : Nat} {held : Bool}
set_option maxRecDepth 100000 in
/-- One Ref. -/
theorem open_ref {fuel : Nat} {cs : List Value} {x : DataW H × List MemPlace} (h : DataW.trod enc Tryz.prog w base (fun _ => true) held fuel 52 cs = some x) :
    ∃ y : RV, cs = rcs y ∧ RefOk w y := by
  obtain ⟨xs, n, _, _, hl, hlx, hf⟩ := DataW.trod_struct Tryz.underlying52 h
  rw [cells_ref] at hl
  match cs, hl with
  | [v0, v1, v2, v3, v4, v5], _ =>
    have f0 : DataW.trod enc Tryz.prog w base (fun _ => true) held n 9 (([v0, v1, v2, v3, v4, v5].drop 0).take (Tryz.prog.cellsOf 9)) = xs[0]? := hf 0 _ rfl
    have f1 : DataW.trod enc Tryz.prog w base (fun _ => true) held n 3 (([v0, v1, v2, v3, v4, v5].drop 1).take (Tryz.prog.cellsOf 3)) = xs[1]? := hf 1 _ rfl
    have f2 : DataW.trod enc Tryz.prog w base (fun _ => true) held n 3 (([v0, v1, v2, v3, v4, v5].drop 2).take (Tryz.prog.cellsOf 3)) = xs[2]? := hf 2 _ rfl
    have f3 : DataW.trod enc Tryz.prog w base (fun _ => true) held n 3 (([v0, v1, v2, v3, v4, v5].drop 3).take (Tryz.prog.cellsOf 3)) = xs[3]? := hf 3 _ rfl
    have f4 : DataW.trod enc Tryz.prog w base (fun _ => true) held n 38 (([v0, v1, v2, v3, v4, v5].drop 4).take (Tryz.prog.cellsOf 38)) = xs[4]? := hf 4 _ rfl
    have f5 : DataW.trod enc Tryz.prog w base (fun _ => true) held n 50 (([v0, v1, v2, v3, v4, v5].drop 5).take (Tryz.prog.cellsOf 50)) = xs[5]? := hf 5 _ rfl
    simp only [cells_i1, cells_s1, cells_u1, cells_b1, List.drop_zero, List.drop_succ_cons, List.take_succ_cons, List.take_zero] at f0 f1 f2 f3 f4 f5
    have hx : ∀ i, i < 6 → ∃ y, xs[i]? = some y := fun i hi => ⟨_, List.getElem?_eq_getElem (by have : xs.length = 6 := hlx; omega)⟩
    obtain ⟨y0, e0⟩ := hx 0 (by omega)
    obtain ⟨y1, e1⟩ := hx 1 (by omega)
    obtain ⟨y2, e2⟩ := hx 2 (by omega)
    obtain ⟨y3, e3⟩ := hx 3 (by omega)
    obtain ⟨y4, e4⟩ := hx 4 (by omega)
    obtain ⟨y5, e5⟩ := hx 5 (by omega)
    obtain ⟨a0, q0, _, wf0⟩ := DataW.trod_string Tryz.underlying9 (f0.trans e0)
    obtain ⟨a1, q1, _, _⟩ := DataW.trod_int Tryz.underlying3 (f1.trans e1)
    obtain ⟨a2, q2, _, _⟩ := DataW.trod_int Tryz.underlying3 (f2.trans e2)
    obtain ⟨a3, q3, _, _⟩ := DataW.trod_int Tryz.underlying3 (f3.trans e3)
    obtain ⟨a4, q4, _, _⟩ := DataW.trod_int Tryz.underlying38 (f4.trans e4)
    obtain ⟨ad, len, cap, zs, q5, g5⟩ : ∃ (ad : Option Addr) (len cap : Nat) (zs : List Int), v5 = .slice ad len cap ∧ IsRow .u8 w ad len cap zs := by
      rcases open_ints Tryz.underlying50 Tryz.underlying5 (by kernel_rfl) (f5.trans e5) with ⟨hcs, _⟩ | ⟨x, l, c, zs, hcs, _, hl, hm, hz, _, hcell, hwz⟩
      · injection hcs with hcs
        exact ⟨_, _, _, [], hcs, .inl ⟨rfl, rfl, rfl, rfl⟩⟩
      · injection hcs with hcs
        exact ⟨_, _, _, zs, hcs, .inr ⟨_, rfl, hl, hm, by simpa using hz, hcell, hwz⟩⟩
    injection q0 with q0; injection q1 with q1; injection q2 with q2; injection q3 with q3; injection q4 with q4
    subst q0 q1 q2 q3 q4 q5
    obtain ⟨s1, s2, s3⟩ := src_of_row g5
    exact ⟨⟨a0, a1, a2, a3, a4, .slice ad len cap, zs.take len⟩, rfl, ⟨by unfold maxLen at wf0; simp only; omega, by simp only; rw [s2]; unfold maxLen at s3; omega⟩, s1, byt_of_row g5⟩
/-- Refs handed in. -/
theorem open_refs {fuel : Nat} {v : Value} {x : DataW H × List MemPlace} (h : DataW.trod enc Tryz.prog w 0 (fun _ => true) held fuel 22 [v] = some x) :
    ∃ l : List RV, RR (fun i => w.heap.size ≤ i) w v l ∧ l.length ≤ 9223372036854775807 ∧ ∀ s ∈ l, RefOk w s := by
  rcases Deep.open_slice Tryz.underlying22 h with ⟨hcs, _⟩ | ⟨a, len, cap, m, n, D, Pl, hcs, _, hl, hm, hmm, _, hi⟩
  · injection hcs with hcs
    subst hcs
    exact ⟨[], RR.nil _ _, by simp, fun s hs => by cases hs⟩
  · injection hcs with hcs
    subst hcs
    simp at hmm
    subst hmm
    have key : ∀ i, i < len → ∃ s : RV, (∀ c u, (rcs s)[c]? = some u → w.cell? (a.add (i * 6 + c)) = some u) ∧ RefOk w s := fun i hlt => by
      obtain ⟨cs', hc, ht⟩ := hi i (by omega)
      obtain ⟨s, e, r⟩ := open_ref ht
      rw [cells_ref] at hc
      obtain ⟨_, _, hat⟩ := World.cells?_some hc
      subst e
      refine ⟨s, fun c u hu => ?_, r⟩
      have hc6 : c < 6 := by have := (List.getElem?_eq_some_iff.1 hu).1; simpa [rcs] using this
      have := hat c (by omega)
      rw [Deep.add_add] at this
      rw [this]
      exact hu
    classical
    let f : Nat → RV := fun i => if h : i < len then Classical.choose (key i h) else ⟨⟨#[]⟩, 0, 0, 0, 0, .slice none 0 0, []⟩
    have hf : ∀ i, i < len → (∀ c u, (rcs (f i))[c]? = some u → w.cell? (a.add (i * 6 + c)) = some u) ∧ RefOk w (f i) := fun i h => by
      have := Classical.choose_spec (key i h)
      simp only [f, dif_pos h]
      exact this
    generalize f = g at hf
    have ep : 0 < len → a = ⟨a.block, a.off, none⟩ := fun h0 => by
      have := (hf 0 h0).1 0 _ rfl
      rw [show 0 * 6 + 0 = 0 from rfl] at this
      exact plain_of_cell this
    refine ⟨(List.range len).map g, ⟨some a, m, a.block, a.off, by simp, by simpa using hl, fun h0 => ?_, fun h0 => ?_, fun j y hj c u hu => ?_, fun y hy => ?_⟩, ?_, fun s hs => ?_⟩
    · rw [← ep (by simpa using h0)]
    · have h0' : 0 < len := by simpa using h0
      have := (hf 0 h0').1 0 _ rfl
      rw [ep h0', Addr.add_mid] at this
      have lt := World.block_lt_of_cell? _ _ this
      simp only at lt
      exact ⟨by omega, lt⟩
    · have hjl : j < len := by have := (List.getElem?_eq_some_iff.1 hj).1; simpa using this
      have e : y = g j := by rw [List.getElem?_map, List.getElem?_range hjl] at hj; simpa using hj.symm
      subst e
      have := (hf j hjl).1 c u hu
      rw [ep (by omega), Addr.add_mid] at this
      rw [Nat.add_assoc]
      exact this
    · obtain ⟨i, hi', rfl⟩ := List.mem_map.1 hy
      have r := (hf i (by simpa using hi')).2
      exact fun bh hb => r.2.1.other (by rcases hb with h | h <;> exact h)
    · simp; unfold maxLen at hm; omega
    · obtain ⟨i, hi', rfl⟩ := List.mem_map.1 hs
      exact (hf i (by simpa using hi')).2
end
end Go.Proofs.YtnhokjnmpdiokaaGreatDoor
