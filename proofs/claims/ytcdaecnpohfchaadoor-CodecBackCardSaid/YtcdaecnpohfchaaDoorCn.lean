/- An argument that is a slice of items, opened to what the walks hold of it. No conditions: lemmas. -/
import Derived.Test.YtcdaecnpohfchaaDoorCm
import Derived.Test.YtcdaecnpohfchaaDoorLaid
import Derived.Deep.Slices
import Derived.ChangeSame
namespace Go.Proofs.YtcdaecnpohfchaaDoor
open Go.ChangeShapes Go.WideShapes Go.ChangeAt Go.RowKit Go.Sha

theorem plain_of_cell {w : World} {x : Addr} {v : Value} (c0 : w.cell? (x.add 0) = some v) : x = ⟨x.block, x.off, none⟩ := by
  obtain ⟨xb, xo, sp⟩ := x
  cases sp with
  | none => rfl
  | some s =>
    exfalso
    have : (⟨xb, xo, some s⟩ : Addr).add 0 = ⟨xb, xo, some s⟩ := rfl
    rw [this] at c0
    unfold World.cell? at c0
    simp at c0
    split at c0 <;> simp_all
theorem cells48 : Tryd.prog.cellsOf 48 = 4 := by kernel_rfl
theorem cells3 : Tryd.prog.cellsOf 3 = 1 := by kernel_rfl
theorem cells37 : Tryd.prog.cellsOf 37 = 1 := by kernel_rfl
theorem cells9 : Tryd.prog.cellsOf 9 = 1 := by kernel_rfl
section
variable {H : Type} {enc : TypeId × Value → H} {w : World} {base : Nat} {sp : Nat → Bool} {held : Bool}
/-- One item. -/
theorem open_item {fuel : Nat} {cs : List Value} {x : DataW H × List MemPlace} (h : DataW.trod enc Tryd.prog w base sp held fuel 48 cs = some x) :
    ∃ t : Itm, cs = [.int .i64 t.kind, .int .i64 t.n, .int .u64 t.wd, .string t.s] ∧ 0 ≤ t.wd ∧ t.wd < 18446744073709551616 ∧ t.s.size ≤ 9223372036854775807 := by
  obtain ⟨xs, n, _, _, hl, _, hf⟩ := DataW.trod_struct Tryd.underlying48 h
  rw [cells48] at hl
  match cs, hl with
  | [v0, v1, v2, v3], _ =>
    have f0 : DataW.trod enc Tryd.prog w base sp held n 3 (([v0, v1, v2, v3].drop 0).take (Tryd.prog.cellsOf 3)) = xs[0]? := hf 0 _ rfl
    have f1 : DataW.trod enc Tryd.prog w base sp held n 3 (([v0, v1, v2, v3].drop 1).take (Tryd.prog.cellsOf 3)) = xs[1]? := hf 1 _ rfl
    have f2 : DataW.trod enc Tryd.prog w base sp held n 37 (([v0, v1, v2, v3].drop 2).take (Tryd.prog.cellsOf 37)) = xs[2]? := hf 2 _ rfl
    have f3 : DataW.trod enc Tryd.prog w base sp held n 9 (([v0, v1, v2, v3].drop 3).take (Tryd.prog.cellsOf 9)) = xs[3]? := hf 3 _ rfl
    simp only [cells3, cells37, cells9, List.drop_zero, List.drop_succ_cons, List.take_succ_cons, List.take_zero] at f0 f1 f2 f3
    have hx : ∀ i, i < 4 → ∃ y, xs[i]? = some y := fun i hi => ⟨_, List.getElem?_eq_getElem (by rename_i hlx _; have : xs.length = 4 := hlx; omega)⟩
    obtain ⟨y0, e0⟩ := hx 0 (by omega)
    obtain ⟨y1, e1⟩ := hx 1 (by omega)
    obtain ⟨y2, e2⟩ := hx 2 (by omega)
    obtain ⟨y3, e3⟩ := hx 3 (by omega)
    obtain ⟨a0, q0, _, _⟩ := DataW.trod_int Tryd.underlying3 (f0.trans e0)
    obtain ⟨a1, q1, _, _⟩ := DataW.trod_int Tryd.underlying3 (f1.trans e1)
    obtain ⟨a2, q2, _, wf2⟩ := DataW.trod_int Tryd.underlying37 (f2.trans e2)
    obtain ⟨a3, q3, _, wf3⟩ := DataW.trod_string Tryd.underlying9 (f3.trans e3)
    injection q0 with q0; injection q1 with q1; injection q2 with q2; injection q3 with q3
    subst q0 q1 q2 q3
    have hw : 0 ≤ a2 ∧ a2 < 18446744073709551616 := by
      simp [Lit.wf, IntKind.min, IntKind.max, IntKind.signed, IntKind.bits] at wf2
      omega
    exact ⟨⟨a0, a1, a2, a3⟩, rfl, hw.1, hw.2, by unfold maxLen at wf3; simp only; omega⟩
theorem iat_of_trod {fuel : Nat} {v : Value} {x : DataW H × List MemPlace} {w : World} (h : DataW.trod enc Tryd.prog w 0 (fun _ => true) true fuel 22 [v] = some x) :
    ∃ l : List Itm, IAt w v l ∧ l.length ≤ 9223372036854775807 := by
  rcases Deep.open_slice Tryd.underlying22 h with ⟨hcs, _⟩ | ⟨a, len, cap, m, n, D, Pl, hcs, _, hl, hm, hmm, _, hi⟩
  · injection hcs with hcs
    subst hcs
    exact ⟨[], ⟨none, 0, 0, 0, rfl, fun h => by simp at h, fun j x hj => by simp at hj⟩, by simp⟩
  · injection hcs with hcs
    subst hcs
    simp at hmm
    subst hmm
    have key : ∀ i, i < len → ∃ t : Itm, (w.cell? (a.add (i * 4)) = some (.int .i64 t.kind) ∧ w.cell? (a.add (i * 4 + 1)) = some (.int .i64 t.n) ∧ w.cell? (a.add (i * 4 + 2)) = some (.int .u64 t.wd) ∧ w.cell? (a.add (i * 4 + 3)) = some (.string t.s)) ∧ 0 ≤ t.wd ∧ t.wd < 18446744073709551616 ∧ t.s.size ≤ 9223372036854775807 := fun i hlt => by
      obtain ⟨cs', hc, ht⟩ := hi i (by omega)
      obtain ⟨t, e, r⟩ := open_item ht
      rw [cells48] at hc
      obtain ⟨_, _, hat⟩ := World.cells?_some hc
      subst e
      refine ⟨t, ⟨?_, ?_, ?_, ?_⟩, r⟩
      · have := hat 0 (by omega); rw [Deep.add_add] at this; exact this
      · have := hat 1 (by omega); rw [Deep.add_add] at this; exact this
      · have := hat 2 (by omega); rw [Deep.add_add] at this; exact this
      · have := hat 3 (by omega); rw [Deep.add_add] at this; exact this
    classical
    let f : Nat → Itm := fun i => if h : i < len then Classical.choose (key i h) else ⟨0, 0, 0, ⟨#[]⟩⟩
    have hf : ∀ i, i < len → (w.cell? (a.add (i * 4)) = some (.int .i64 (f i).kind) ∧ w.cell? (a.add (i * 4 + 1)) = some (.int .i64 (f i).n) ∧ w.cell? (a.add (i * 4 + 2)) = some (.int .u64 (f i).wd) ∧ w.cell? (a.add (i * 4 + 3)) = some (.string (f i).s)) ∧ 0 ≤ (f i).wd ∧ (f i).wd < 18446744073709551616 ∧ (f i).s.size ≤ 9223372036854775807 := fun i h => by
      have := Classical.choose_spec (key i h)
      simp only [f, dif_pos h]
      exact this
    generalize f = g at hf
    refine ⟨(List.range len).map g, ⟨some a, m, a.block, a.off, by simp, fun h0 => ?_, fun j x hj => ?_⟩, ?_⟩
    · have := (hf 0 (by simpa using h0)).1.1
      rw [Nat.zero_mul] at this
      rw [← plain_of_cell this]
    · have hjl : j < len := by simpa using (List.getElem?_eq_some_iff.1 hj).1
      rw [List.getElem?_map, List.getElem?_range hjl] at hj
      injection hj with hj
      subst hj
      have h0 := (hf 0 (by omega)).1.1
      rw [Nat.zero_mul] at h0
      have ep := plain_of_cell h0
      obtain ⟨⟨q0, q1, q2, q3⟩, r⟩ := hf j hjl
      rw [ep, Addr.add_mid] at q0 q1 q2 q3
      exact ⟨q0, by rw [Nat.add_assoc]; exact q1, by rw [Nat.add_assoc]; exact q2, by rw [Nat.add_assoc]; exact q3, r⟩
    · simp; unfold maxLen at hm; omega
end
end Go.Proofs.YtcdaecnpohfchaaDoor
