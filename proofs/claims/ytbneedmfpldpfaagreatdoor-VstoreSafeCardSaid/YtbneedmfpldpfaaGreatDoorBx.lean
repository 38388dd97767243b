/- Arguments of VstoreSafe opened: bytes, steps, numbers. No conditions but those named: lemmas. -/
import Derived.Test.YtbneedmfpldpfaaGreatDoorBt
import Derived.Test.YtbneedmfpldpfaaGreatDoorShM
import Derived.Test.YtbneedmfpldpfaaGreatDoorRows
import Derived.ProofKit
import Derived.OpenShut
import Derived.ShutString
import Derived.Deep.Slices
import Derived.ChangeSlices
import Derived.ChangeSame
namespace Go.Proofs.YtbneedmfpldpfaaGreatDoor
open Go.ChangeShapes Go.WideShapes Go.ChangeAt Go.RowKit Go.Pth

theorem plain_at {w : World} {x : Addr} {v : Value} (c0 : w.cell? (x.add 0) = some v) : x = ⟨x.block, x.off, none⟩ := by
  obtain ⟨xb, xo, sp⟩ := x
  cases sp with
  | none => rfl
  | some s =>
    exfalso
    have : (⟨xb, xo, some s⟩ : Addr).add 0 = ⟨xb, xo, some s⟩ := rfl
    rw [this] at c0
    unfold World.cell? at c0
    simp at c0
    split at c0 <;> simp_all
/-- Bytes handed in. -/
theorem bin_in {w : World} {a : Option Addr} {len cap : Nat} {zs : List Int} (h : (a = none ∧ len = 0 ∧ cap = 0 ∧ zs = []) ∨ ∃ x, a = some x ∧ len ≤ cap ∧ cap ≤ maxLen ∧ zs.length = cap ∧ (∀ i, i < zs.length → w.cell? (x.add i) = some (.int .u8 (zs.getD i 0))) ∧ ∀ n ∈ zs, (Lit.int .u8 n).wf = true) :
    ∃ m bb o, m.length = len ∧ Bin w (.slice a len cap) m a cap bb o ∧ (∀ y ∈ m, 0 ≤ y ∧ y < 256) ∧ len ≤ maxLen := by
  rcases h with ⟨rfl, rfl, rfl, rfl⟩ | ⟨x, rfl, hl, hm, hz, hc, hw⟩
  · exact ⟨[], 0, 0, rfl, ⟨rfl, fun h => by simp at h, fun j u hu => by simp [bts] at hu⟩, fun y hy => by simp at hy, Nat.zero_le _⟩
  · have hlen : (zs.take len).length = len := by rw [List.length_take]; omega
    refine ⟨zs.take len, x.block, x.off, hlen, ⟨by rw [hlen], fun h0 => ?_, fun j u hu => ?_⟩, fun y hy => ?_, by omega⟩
    · rw [hlen] at h0
      rw [← plain_at (hc 0 (by omega))]
    · have hj := (List.getElem?_eq_some_iff.1 hu).1
      rw [bts_len, hlen] at hj
      have cj := hc j (by omega)
      rw [plain_at (hc 0 (by omega)), Addr.add_lit] at cj
      rw [cj, ← hu, bts, List.getElem?_map, List.getElem?_take_of_lt hj, List.getElem?_eq_getElem (by omega)]
      simp [List.getD_eq_getElem?_getD, List.getElem?_eq_getElem (show j < zs.length by omega)]
    · have := hw y (List.mem_of_mem_take hy)
      simp [Lit.wf, IntKind.min, IntKind.max, IntKind.signed, IntKind.bits] at this
      omega
/-- Numbers handed in. -/
theorem ints_in {w : World} {a : Option Addr} {len cap : Nat} {zs : List Int} (h : (a = none ∧ len = 0 ∧ cap = 0 ∧ zs = []) ∨ ∃ x, a = some x ∧ len ≤ cap ∧ cap ≤ maxLen ∧ zs.length = cap ∧ (∀ i, i < zs.length → w.cell? (x.add i) = some (.int .i64 (zs.getD i 0))) ∧ ∀ n ∈ zs, (Lit.int .i64 n).wf = true) :
    ∃ m, m.length = len ∧ IntsIn w (.slice a len cap) m ∧ (∀ y ∈ m, -9223372036854775808 ≤ y ∧ y ≤ 9223372036854775807) := by
  rcases h with ⟨rfl, rfl, rfl, rfl⟩ | ⟨x, rfl, hl, hm, hz, hc, hw⟩
  · exact ⟨[], rfl, ⟨none, 0, 0, 0, rfl, by simp, fun h => by simp at h, fun j h => by simp at h⟩, fun y hy => by simp at hy⟩
  · have hlen : (zs.take len).length = len := by rw [List.length_take]; omega
    refine ⟨zs.take len, hlen, ⟨some x, cap, x.block, x.off, by rw [hlen], ⟨by omega, by unfold maxLen at hm; omega⟩, fun h0 => ?_, fun j hj => ?_⟩, fun y hy => ?_⟩
    · rw [hlen] at h0
      rw [← plain_at (hc 0 (by omega))]
    · rw [hlen] at hj
      have cj := hc j (by omega)
      rw [plain_at (hc 0 (by omega)), Addr.add_lit] at cj
      rw [cj]
      simp [List.getD_eq_getElem?_getD, List.getElem?_eq_getElem (show j < zs.length by omega)]
    · have := hw y (List.mem_of_mem_take hy)
      simp [Lit.wf, IntKind.min, IntKind.max, IntKind.signed, IntKind.bits] at this
      omega
theorem cells_step : Tryz.prog.cellsOf 44 = 6 := by kernel_rfl
theorem cells_one3 : Tryz.prog.cellsOf 3 = 1 := by kernel_rfl
theorem cells_one5 : Tryz.prog.cellsOf 5 = 1 := by kernel_rfl
theorem cells_one9 : Tryz.prog.cellsOf 9 = 1 := by kernel_rfl
theorem cells_oneB : Tryz.prog.cellsOf 22 = 1 := by kernel_rfl
/-- What is known of a step handed in. -/
def StOk (w : World) (s : StV) : Prop := (s.p.size ≤ 9223372036854775807 ∧ s.t.size ≤ 9223372036854775807 ∧ s.x.length ≤ 9223372036854775807) ∧ Bin w (.slice s.ad s.x.length s.cap) s.x s.ad s.cap s.bx s.ox ∧ (∀ z ∈ s.x, 0 ≤ z ∧ z < 256) ∧ 0 ≤ s.y ∧ s.y < 256
section
variable {H : Type} {enc : TypeId × Value → H} {w : World} {base : Nat} {held : Bool}
set_option maxRecDepth 100000 in
/-- One step. -/
theorem open_step {fuel : Nat} {cs : List Value} {x : DataW H × List MemPlace} (h : DataW.trod enc Tryz.prog w base (fun _ => true) held fuel 44 cs = some x) :
    ∃ s : StV, cs = [.int .i64 s.kd, .string s.p, .string s.t, .slice s.ad s.x.length s.cap, .int .i64 s.m, .int .u8 s.y] ∧ StOk w s := by
  obtain ⟨xs, n, _, _, hl, hlx, hf⟩ := DataW.trod_struct Tryz.underlying44 h
  rw [cells_step] at hl
  match cs, hl with
  | [v0, v1, v2, v3, v4, v5], _ =>
    have f0 : DataW.trod enc Tryz.prog w base (fun _ => true) held n 3 (([v0, v1, v2, v3, v4, v5].drop 0).take (Tryz.prog.cellsOf 3)) = xs[0]? := hf 0 _ rfl
    have f1 : DataW.trod enc Tryz.prog w base (fun _ => true) held n 9 (([v0, v1, v2, v3, v4, v5].drop 1).take (Tryz.prog.cellsOf 9)) = xs[1]? := hf 1 _ rfl
    have f2 : DataW.trod enc Tryz.prog w base (fun _ => true) held n 9 (([v0, v1, v2, v3, v4, v5].drop 2).take (Tryz.prog.cellsOf 9)) = xs[2]? := hf 2 _ rfl
    have f3 : DataW.trod enc Tryz.prog w base (fun _ => true) held n 22 (([v0, v1, v2, v3, v4, v5].drop 3).take (Tryz.prog.cellsOf 22)) = xs[3]? := hf 3 _ rfl
    have f4 : DataW.trod enc Tryz.prog w base (fun _ => true) held n 3 (([v0, v1, v2, v3, v4, v5].drop 4).take (Tryz.prog.cellsOf 3)) = xs[4]? := hf 4 _ rfl
    have f5 : DataW.trod enc Tryz.prog w base (fun _ => true) held n 5 (([v0, v1, v2, v3, v4, v5].drop 5).take (Tryz.prog.cellsOf 5)) = xs[5]? := hf 5 _ rfl
    simp only [cells_one3, cells_one5, cells_one9, cells_oneB, List.drop_zero, List.drop_succ_cons, List.take_succ_cons, List.take_zero] at f0 f1 f2 f3 f4 f5
    have hx : ∀ i, i < 6 → ∃ y, xs[i]? = some y := fun i hi => ⟨_, List.getElem?_eq_getElem (by have : xs.length = 6 := hlx; omega)⟩
    obtain ⟨y0, e0⟩ := hx 0 (by omega)
    obtain ⟨y1, e1⟩ := hx 1 (by omega)
    obtain ⟨y2, e2⟩ := hx 2 (by omega)
    obtain ⟨y3, e3⟩ := hx 3 (by omega)
    obtain ⟨y4, e4⟩ := hx 4 (by omega)
    obtain ⟨y5, e5⟩ := hx 5 (by omega)
    obtain ⟨a0, q0, _, _⟩ := DataW.trod_int Tryz.underlying3 (f0.trans e0)
    obtain ⟨a1, q1, _, wf1⟩ := DataW.trod_string Tryz.underlying9 (f1.trans e1)
    obtain ⟨a2, q2, _, wf2⟩ := DataW.trod_string Tryz.underlying9 (f2.trans e2)
    obtain ⟨a4, q4, _, _⟩ := DataW.trod_int Tryz.underlying3 (f4.trans e4)
    obtain ⟨a5, q5, _, wf5⟩ := DataW.trod_int Tryz.underlying5 (f5.trans e5)
    obtain ⟨ad, len, cap, m, bb, o, q3, hm, hB, hy, hml⟩ : ∃ (ad : Option Addr) (len cap : Nat) (m : List Int) (bb o : Nat), v3 = .slice ad len cap ∧ m.length = len ∧ Bin w (.slice ad len cap) m ad cap bb o ∧ (∀ y ∈ m, 0 ≤ y ∧ y < 256) ∧ len ≤ maxLen := by
      rcases open_ints Tryz.underlying22 Tryz.underlying5 cells_one5 (f3.trans e3) with ⟨hcs, _⟩ | ⟨x, l, c, zs, hcs, _, hl, hm, hz, _, hcell, hwz⟩
      · injection hcs with hcs
        obtain ⟨m, bb, o, h⟩ := bin_in (w := w) (a := none) (len := 0) (cap := 0) (zs := []) (.inl ⟨rfl, rfl, rfl, rfl⟩)
        exact ⟨_, _, _, m, bb, o, hcs, h⟩
      · injection hcs with hcs
        obtain ⟨m, bb, o, h⟩ := bin_in (.inr ⟨_, rfl, hl, hm, by simpa using hz, hcell, hwz⟩)
        exact ⟨_, _, _, m, bb, o, hcs, h⟩
    injection q0 with q0; injection q1 with q1; injection q2 with q2; injection q4 with q4; injection q5 with q5
    subst q0 q1 q2 q3 q4 q5 hm
    have hw5 : 0 ≤ a5 ∧ a5 < 256 := by
      simp [Lit.wf, IntKind.min, IntKind.max, IntKind.signed, IntKind.bits] at wf5
      omega
    exact ⟨⟨a0, a1, a2, m, ad, cap, bb, o, a4, a5⟩, rfl, ⟨by unfold maxLen at wf1; simp only; omega, by unfold maxLen at wf2; simp only; omega, by unfold maxLen at hml; simp only; omega⟩, hB, hy, hw5.1, hw5.2⟩
/-- Steps handed in. -/
theorem open_steps {fuel : Nat} {v : Value} {x : DataW H × List MemPlace} (h : DataW.trod enc Tryz.prog w 0 (fun _ => true) held fuel 23 [v] = some x) :
    ∃ (l : List StV) (ad : Option Addr) (cap b o : Nat), v = .slice ad l.length cap ∧ (0 < l.length → ad = some ⟨b, o, none⟩) ∧ (∀ j (h : j < l.length), StAt w b (o + j * 6) l[j]) ∧ l.length ≤ 9223372036854775807 ∧ ∀ s ∈ l, StOk w s := by
  rcases Deep.open_slice Tryz.underlying23 h with ⟨hcs, _⟩ | ⟨a, len, cap, m, n, D, Pl, hcs, _, hl, hm, hmm, _, hi⟩
  · injection hcs with hcs
    subst hcs
    exact ⟨[], none, 0, 0, 0, rfl, fun h => by simp at h, fun j h => by simp at h, by simp, fun s hs => by cases hs⟩
  · injection hcs with hcs
    subst hcs
    simp at hmm
    subst hmm
    have key : ∀ i, i < len → ∃ s : StV, (w.cell? (a.add (i * 6)) = some (.int .i64 s.kd) ∧ w.cell? (a.add (i * 6 + 1)) = some (.string s.p) ∧ w.cell? (a.add (i * 6 + 2)) = some (.string s.t) ∧ w.cell? (a.add (i * 6 + 3)) = some (.slice s.ad s.x.length s.cap) ∧ w.cell? (a.add (i * 6 + 4)) = some (.int .i64 s.m) ∧ w.cell? (a.add (i * 6 + 5)) = some (.int .u8 s.y)) ∧ StOk w s := fun i hlt => by
      obtain ⟨cs', hc, ht⟩ := hi i (by omega)
      obtain ⟨s, e, r⟩ := open_step ht
      rw [cells_step] at hc
      obtain ⟨_, _, hat⟩ := World.cells?_some hc
      subst e
      refine ⟨s, ⟨?_, ?_, ?_, ?_, ?_, ?_⟩, r⟩
      · have := hat 0 (by omega); rw [Deep.add_add] at this; exact this
      · have := hat 1 (by omega); rw [Deep.add_add] at this; exact this
      · have := hat 2 (by omega); rw [Deep.add_add] at this; exact this
      · have := hat 3 (by omega); rw [Deep.add_add] at this; exact this
      · have := hat 4 (by omega); rw [Deep.add_add] at this; exact this
      · have := hat 5 (by omega); rw [Deep.add_add] at this; exact this
    classical
    let f : Nat → StV := fun i => if h : i < len then Classical.choose (key i h) else ⟨0, ⟨#[]⟩, ⟨#[]⟩, [], none, 0, 0, 0, 0, 0⟩
    have hf : ∀ i, i < len → (w.cell? (a.add (i * 6)) = some (.int .i64 (f i).kd) ∧ w.cell? (a.add (i * 6 + 1)) = some (.string (f i).p) ∧ w.cell? (a.add (i * 6 + 2)) = some (.string (f i).t) ∧ w.cell? (a.add (i * 6 + 3)) = some (.slice (f i).ad (f i).x.length (f i).cap) ∧ w.cell? (a.add (i * 6 + 4)) = some (.int .i64 (f i).m) ∧ w.cell? (a.add (i * 6 + 5)) = some (.int .u8 (f i).y)) ∧ StOk w (f i) := fun i h => by
      have := Classical.choose_spec (key i h)
      simp only [f, dif_pos h]
      exact this
    generalize f = g at hf
    refine ⟨(List.range len).map g, some a, m, a.block, a.off, by simp, fun h0 => ?_, fun j hj => ?_, ?_, fun s hs => ?_⟩
    · have := (hf 0 (by simpa using h0)).1.1
      rw [Nat.zero_mul] at this
      rw [← plain_at this]
    · have hjl : j < len := by simpa using hj
      have h0 := (hf 0 (by omega)).1.1
      rw [Nat.zero_mul] at h0
      have ep := plain_at h0
      obtain ⟨⟨q0, q1, q2, q3, q4, q5⟩, r⟩ := hf j hjl
      rw [ep, Addr.add_mid] at q0 q1 q2 q3 q4 q5
      rw [List.getElem_map, List.getElem_range]
      exact ⟨q0, by rw [Nat.add_assoc]; exact q1, by rw [Nat.add_assoc]; exact q2, by rw [Nat.add_assoc]; exact q3, by rw [Nat.add_assoc]; exact q4, by rw [Nat.add_assoc]; exact q5⟩
    · simp; unfold maxLen at hm; omega
    · obtain ⟨i, hi', rfl⟩ := List.mem_map.1 hs
      exact (hf i (by simpa using hi')).2
end
end Go.Proofs.YtbneedmfpldpfaaGreatDoor
