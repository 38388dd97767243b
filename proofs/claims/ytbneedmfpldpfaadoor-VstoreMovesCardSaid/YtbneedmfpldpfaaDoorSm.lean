/- A store of one name: what it answers. No conditions: lemmas. -/
import Derived.Test.YtbneedmfpldpfaaDoorSj
namespace Go.Proofs.YtbneedmfpldpfaaDoor
open Go.RowKit Go.Pth

theorem look_one (p : B) (a : Nat) : look [(p, a)] p = some a := by
  have h : place [(p, a)] p = 0 := by simp [place, List.takeWhile, less_irr]
  unfold look
  simp [h]
theorem look_other (p q : B) (a : Nat) (h : q ≠ p) : look [(p, a)] q = none := by
  cases hl : look [(p, a)] q with
  | none => rfl
  | some n =>
    have := look_mem _ _ _ hl
    simp at this
    exact absurd this.1 h
theorem look_nil (q : B) : look [] q = none := rfl
theorem new_power (room : Int) : (SV.new room).beg.power = 0 := by simp [SV.new, SV.beg, SV.spend]
theorem beg_power0 {S : SV} (h : S.power = 0) : S.beg.power = 0 := by unfold SV.beg SV.spend; simp [h]
theorem beg_left {S : SV} (h : S.power = 0) : S.beg.left = S.left := by unfold SV.beg SV.spend; simp [h]
theorem beg_ops {S : SV} (h : S.power = 0) : S.beg.ops = S.ops + 1 := by unfold SV.beg SV.spend; simp [h]
theorem begE_ok {S : SV} (h : S.power = 0) (p : B) (hp : valid p = true) : S.begE [p] = 0 := by
  unfold SV.begE; rw [beg_power0 h]; simp [hp]
theorem va : valid [97] = true := by decide
theorem vx : valid [120] = true := by decide
theorem vab : valid [97, 47, 98] = true := by decide
theorem pa : parent [97] = [] := by decide
theorem px : parent [120] = [] := by decide
theorem pab : parent [97, 47, 98] = [97] := by decide
/-- Bytes written into an empty file. -/
theorem write_new (k st : Int) (x : List Int) (hx : x ≠ []) : (newN k st).write 0 x = ⟨k, 0, st, x, List.replicate x.length 0, List.replicate (secs x.length) true⟩ := by
  have hl : 0 < x.length := List.length_pos_iff.2 hx
  unfold NV.write
  rw [if_neg (by simp [newN]; omega)]
  simp only [newN, NV.resize, fitL, List.length_nil, Nat.zero_add, Nat.max_zero]
  rw [if_neg (by omega), if_neg (by unfold secs; omega)]
  simp only [List.nil_append, Nat.sub_zero, splice, List.take_zero, Nat.zero_add, List.drop_replicate, Nat.sub_self, List.replicate_zero, List.append_nil, Nat.zero_min, Nat.zero_div]
  congr 1
  apply List.ext_getElem
  · simp [mark]
  · intro i h1 h2
    simp [mark] at h1 ⊢
    exact h1
theorem any_true (n : Nat) (h : 0 < n) : (List.replicate n true).any id = true := by
  cases n with
  | zero => omega
  | succ n => rfl
theorem crash_a (st : Int) : (⟨1, 0, st, [120], [0], [true]⟩ : NV).crash 0 = ⟨1, 0, st, [0], [0], [false]⟩ := by
  unfold NV.crash
  rw [show (crun [120] [0] [true] 0 [true].length).1 = [0] by decide]
  rfl

/-- Memory of the call's own. -/
theorem own_step {w w1 w2 : World} {L L' : Nat → Option Role} (h : Ext w w1) (hl : ∀ i, L i ≠ none → w.heap.size ≤ i) (t : StTo w1 w2 L L') : Ext w w2 ∧ ∀ i, L' i ≠ none → w.heap.size ≤ i := by
  refine ⟨((Chg.of_ext (X := fun _ => False) h).trans t.chg (fun i hi e => by have := hl i e; omega)).ext, fun i hi => ?_⟩
  rcases t.lab i hi with h1 | h1
  · exact hl i h1
  · exact Nat.le_trans h.size h1
theorem none_step {w1 w2 : World} {L L' : Nat → Option Role} (t : StTo w1 w2 L L') {i : Nat} (h : L i = none) (hi : i < w1.heap.size) : L' i = none := by
  cases hc : L' i with
  | none => rfl
  | some r =>
    rcases t.lab i (by rw [hc]; simp) with h1 | h1
    · exact absurd h h1
    · omega
theorem none_new {w : World} {b : Nat} {S : SV} {V : SW} {L : Nat → Option Role} (h : Rep w b S V L) : L w.heap.size = none := by
  cases hc : L w.heap.size with
  | none => rfl
  | some r => have := h.lt w.heap.size (by rw [hc]; simp); omega
/-- The store with one empty file. -/
theorem made_file {S : SV} (a : Nat) (p : B) (hn : S.names = []) : (S.beg.made a p 1).file p = (some a, 0) := by
  have bs := beg_same S
  unfold SV.file SV.made
  simp only [bs.1, hn, List.nil_append]
  rw [look_one]
  simp [upd_same, newN]
theorem one_place (p : B) : place [] p = ([] : List Nm).length := rfl
theorem new_takes (room : Int) (p : B) (hp : parent p = []) : takes (SV.new room).names (kinds (SV.new room)) p = 0 := by
  unfold takes
  simp [SV.new, look_nil, hp]
theorem new_fit (room : Int) : (SV.new room).Fit := ⟨by simp [SV.new], by simp [SV.new], by simp [SV.new], by simp [SV.new], by simp [SV.new]⟩
end Go.Proofs.YtbneedmfpldpfaaDoor
