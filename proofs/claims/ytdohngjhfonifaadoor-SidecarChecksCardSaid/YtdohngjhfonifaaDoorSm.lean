/- An argument that is a sidecar, opened to what the walks hold of it. No conditions: lemmas. -/
import Derived.Test.YtdohngjhfonifaaDoorSl
import Derived.Deep.Slices
import Derived.ChangeSame
namespace Go.Proofs.YtdohngjhfonifaaDoor
open Go.ChangeShapes Go.WideShapes Go.ChangeAt Go.RowKit Go.Sha

theorem cellsS : Tryd.prog.cellsOf 30 = 6 := by kernel_rfl
theorem cellsI : Tryd.prog.cellsOf 3 = 1 := by kernel_rfl
theorem cellsB : Tryd.prog.cellsOf 22 = 1 := by kernel_rfl
theorem cellsR : Tryd.prog.cellsOf 24 = 1 := by kernel_rfl
section
variable {H : Type} {enc : TypeId × Value → H} {W : World}
theorem open_bytes {fuel : Nat} {v : Value} {x : DataW H × List MemPlace} (h : DataW.trod enc Tryd.prog W 0 (fun _ => true) true fuel 22 [v] = some x) :
    ∃ a len cap zs, v = .slice a len cap ∧ IsRow .u8 W a len cap zs := by
  rcases open_ints Tryd.underlying22 Tryd.underlying5 (by kernel_rfl) h with ⟨hcs, _⟩ | ⟨x, l, c, zs, hcs, _, hl, hm, hz, _, hcell, hwz⟩
  · injection hcs with hcs
    exact ⟨_, _, _, [], hcs, .inl ⟨rfl, rfl, rfl, rfl⟩⟩
  · injection hcs with hcs
    exact ⟨_, _, _, zs, hcs, .inr ⟨_, rfl, hl, hm, by simpa using hz, hcell, hwz⟩⟩
theorem open_lists {fuel : Nat} {v : Value} {x : DataW H × List MemPlace} (h : DataW.trod enc Tryd.prog W 0 (fun _ => true) true fuel 24 [v] = some x) :
    ∃ ps, Arg W v ps := by
  rcases Deep.open_int_rows Tryd.underlying24 Tryd.underlying22 Tryd.underlying5 (by kernel_rfl) (by kernel_rfl) h with ⟨hcs, _⟩ | ⟨a, len, cap, A, L, C, Z, hcs, _, hl, hm, _, hrows⟩
  · injection hcs with hcs
    subst hcs
    exact ⟨[], arg_none W⟩
  · injection hcs with hcs
    subst hcs
    refine ⟨_, arg_of_rows (A := A) (L := L) (C := C) (Z := Z) hl hm fun r hr => ?_⟩
    obtain ⟨h1, h2, h3, h4, h5, h6, h7⟩ := hrows r hr
    refine ⟨h1, ?_⟩
    cases hA : A r with
    | none =>
      have c := h6 hA
      exact .inl ⟨rfl, by omega, c, List.eq_nil_of_length_eq_zero (by omega)⟩
    | some a' => exact .inr ⟨a', rfl, h2, h3, h4, fun i hi => (h7 a' hA).2 i (by omega), h5⟩
set_option maxRecDepth 100000 in
theorem open_side {fuel : Nat} {cs : List Value} {x : DataW H × List MemPlace} (h : DataW.trod enc Tryd.prog W 0 (fun _ => true) true fuel 30 cs = some x) :
    ∃ (z b k : Int) (vr vl vp : Value) (rt : List Int) (pl pp : List (Value × List Int)), cs = [.int .i64 z, .int .i64 b, .int .i64 k, vr, vl, vp] ∧ ArgS W rt pl pp vr vl vp := by
  obtain ⟨xs, n, _, _, hl, hlx, hf⟩ := DataW.trod_struct Tryd.underlying30 h
  rw [cellsS] at hl
  match cs, hl with
  | [v0, v1, v2, v3, v4, v5], _ =>
    have f0 : DataW.trod enc Tryd.prog W 0 (fun _ => true) true n 3 (([v0, v1, v2, v3, v4, v5].drop 0).take (Tryd.prog.cellsOf 3)) = xs[0]? := hf 0 _ rfl
    have f1 : DataW.trod enc Tryd.prog W 0 (fun _ => true) true n 3 (([v0, v1, v2, v3, v4, v5].drop 1).take (Tryd.prog.cellsOf 3)) = xs[1]? := hf 1 _ rfl
    have f2 : DataW.trod enc Tryd.prog W 0 (fun _ => true) true n 3 (([v0, v1, v2, v3, v4, v5].drop 2).take (Tryd.prog.cellsOf 3)) = xs[2]? := hf 2 _ rfl
    have f3 : DataW.trod enc Tryd.prog W 0 (fun _ => true) true n 22 (([v0, v1, v2, v3, v4, v5].drop 3).take (Tryd.prog.cellsOf 22)) = xs[3]? := hf 3 _ rfl
    have f4 : DataW.trod enc Tryd.prog W 0 (fun _ => true) true n 24 (([v0, v1, v2, v3, v4, v5].drop 4).take (Tryd.prog.cellsOf 24)) = xs[4]? := hf 4 _ rfl
    have f5 : DataW.trod enc Tryd.prog W 0 (fun _ => true) true n 24 (([v0, v1, v2, v3, v4, v5].drop 5).take (Tryd.prog.cellsOf 24)) = xs[5]? := hf 5 _ rfl
    simp only [cellsI, cellsB, cellsR, List.drop_zero, List.drop_succ_cons, List.take_succ_cons, List.take_zero] at f0 f1 f2 f3 f4 f5
    have hx : ∀ i, i < 6 → ∃ y, xs[i]? = some y := fun i hi => ⟨_, List.getElem?_eq_getElem (by have : xs.length = 6 := hlx; omega)⟩
    obtain ⟨y0, e0⟩ := hx 0 (by omega)
    obtain ⟨y1, e1⟩ := hx 1 (by omega)
    obtain ⟨y2, e2⟩ := hx 2 (by omega)
    obtain ⟨y3, e3⟩ := hx 3 (by omega)
    obtain ⟨y4, e4⟩ := hx 4 (by omega)
    obtain ⟨y5, e5⟩ := hx 5 (by omega)
    obtain ⟨a0, q0, _, _⟩ := DataW.trod_int Tryd.underlying3 (f0.trans e0)
    obtain ⟨a1, q1, _, _⟩ := DataW.trod_int Tryd.underlying3 (f1.trans e1)
    obtain ⟨a2, q2, _, _⟩ := DataW.trod_int Tryd.underlying3 (f2.trans e2)
    injection q0 with q0; injection q1 with q1; injection q2 with q2
    subst q0 q1 q2
    obtain ⟨a, len, cap, zs, rfl, g3⟩ := open_bytes (f3.trans e3)
    obtain ⟨pl, g4⟩ := open_lists (f4.trans e4)
    obtain ⟨pp, g5⟩ := open_lists (f5.trans e5)
    obtain ⟨s1, s2, s3⟩ := src_of_row g3
    exact ⟨a0, a1, a2, _, _, _, zs.take len, pl, pp, rfl, s1, byt_of_row g3, by rw [s2]; unfold maxLen at s3; omega, g4, g5⟩
end
theorem checks_all (vr vl vp v : Value) (z b k : Int) (rt : List Int) (pl pp : List (Value × List Int)) (m : List Int) (w : World) (hK : KAt w) (h : ArgS w rt pl pp vr vl vp) (hs : Src w v m w.heap.size) (_ : Byt m) (_ : m.length ≤ 9223372036854775807) :
    Calls Tryd.prog 5 #[.agg #[.int .i64 z, .int .i64 b, .int .i64 k, vr, vl, vp], v] w fun e w' => e = .returned (.bool true) ∧ Ext w w' := checks_any z b k rt pl pp vr vl vp v m w hK h hs
end Go.Proofs.YtdohngjhfonifaaDoor
