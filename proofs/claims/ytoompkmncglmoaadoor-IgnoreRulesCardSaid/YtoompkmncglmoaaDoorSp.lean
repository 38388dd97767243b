/- Worlds that only grow, and slices of texts in memory. No conditions: definitions and lemmas. -/
import Derived.Test.YtoompkmncglmoaaDoorShelf
import Derived.WalkKit
import Derived.WalkSpells
import Derived.Deep.WholeRow
import Derived.Deep.QuietTactic
import Derived.BigQuiet
import Derived.Lib.Hide
import Derived.Laws.AppendOwnNone
import Derived.OwnWalk
import Derived.OrdersHeld
namespace Go.Proofs
open Go.RowKit Go.Pth

/-- All that lies in w lies in w' as it did. -/
def Ext (w w' : World) : Prop := Below w.heap.size w w'
theorem Ext.refl (w : World) : Ext w w := Below.refl _ _
theorem Ext.trans {a b c : World} (h : Ext a b) (k : Ext b c) : Ext a c := Below.trans h (Below.mono k h.size)
theorem Ext.alloc (w : World) (o : Obj) : Ext w (w.alloc o) := (Below.refl _ _).alloc (Nat.le_refl _) o
theorem Ext.drew (w : World) : Ext w w.drew := ⟨rfl, rfl, rfl, Nat.le_refl _, fun _ _ => rfl⟩
theorem Ext.drewN (w : World) (n : Nat) : Ext w (w.drewN n) := ⟨rfl, rfl, rfl, Nat.le_refl _, fun _ _ => rfl⟩
theorem Ext.cell {w w' : World} (h : Ext w w') {p : Addr} {v : Value} (hp : w.cell? p = some v) : w'.cell? p = some v := by
  rw [← hp]; exact Below.cell h (World.block_lt_of_cell? w _ hp)

/-- A text as a value. -/
def tx (l : B) : ByteArray := ⟨l.toArray⟩
theorem tx_list (l : B) : (tx l).toList = l := ByteArray.toList_mk l
theorem list_tx (s : ByteArray) : tx s.toList = s := by rw [ByteArray.toList_eq]; exact ba_list s
theorem tx_size (l : B) : (tx l).size = l.length := rfl
theorem size_list (s : ByteArray) : s.size = s.toList.length := by rw [ByteArray.toList_eq]; rfl
theorem tx_inj {a b : ByteArray} (h : a.toList = b.toList) : a = b := by rw [← list_tx a, h, list_tx]
theorem tx_app (a b : ByteArray) : (a ++ b).toList = a.toList ++ b.toList := by rw [ByteArray.toList_eq, ByteArray.toList_eq, ByteArray.toList_eq]; simp [ByteArray.data_append]
theorem tx_cut (s : ByteArray) (a b : Nat) : (s.extract a b).toList = (s.toList.drop a).take (b - a) := by rw [ByteArray.toList_eq, ByteArray.toList_eq]; simp [ByteArray.data_extract]
theorem tx_get (s : ByteArray) (k : Nat) (h : k < s.size) : s.toList[k]? = some s[k] := by
  rw [ByteArray.toList_eq]
  have : s.data.toList.length = s.size := rfl
  rw [List.getElem?_eq_getElem (by omega)]
  rfl
theorem strs_size (l : List B) : (strs l).size = l.length := by simp [strs]
theorem strs_get (l : List B) (j : Nat) (h : j < l.length) : (strs l)[j]? = some (.string (tx (l[j]?.getD []))) := by
  simp [strs, h, tx]

/-- A slice of texts in memory. -/
def Txt (w : World) (v : Value) (l : List B) : Prop :=
  ∃ ad cap b, v = .slice ad l.length cap ∧ (0 < l.length → ad = some ⟨b, 0, none⟩) ∧ ∀ j, j < l.length → w.cell? ⟨b, j, none⟩ = some (.string (tx (l[j]?.getD [])))
theorem Txt.ext {w w' : World} {v : Value} {l : List B} (h : Txt w v l) (he : Ext w w') : Txt w' v l := by
  obtain ⟨ad, cap, b, h1, h2, h3⟩ := h
  exact ⟨ad, cap, b, h1, h2, fun j hj => he.cell (h3 j hj)⟩
theorem Txt.nil (w : World) : Txt w (.slice none 0 0) [] := ⟨none, 0, 0, rfl, fun h => by simp at h, fun j h => by simp at h⟩
theorem Txt.new (w : World) (l : List B) : Txt (w.alloc (.cells (strs l) 9)) (.slice (some ⟨w.heap.size, 0, none⟩) l.length l.length) l :=
  ⟨_, _, w.heap.size, rfl, fun _ => rfl, fun j hj => by
    have : (w.alloc (.cells (strs l) 9)).heap[w.heap.size]? = some (.cells (strs l) 9 (0, 0)) := heap_alloc_last w _
    simp only [World.cell?, this]
    exact strs_get l j hj⟩
/-- A row of the call's own. -/
def Own (w : World) (base : Nat) (v : Value) (l : List B) : Prop := w.ownsRow base 9 1 v l.length (l.map fun x => Value.string (tx x))
theorem Own.nil (w : World) (base : Nat) : Own w base (.slice none 0 0) [] := ⟨rfl, Or.inl ⟨rfl, rfl⟩⟩
theorem Own.txt {w : World} {base : Nat} {v : Value} {l : List B} (h : Own w base v l) : Txt w v l := by
  obtain ⟨_, ⟨rfl, h0⟩ | ⟨g, cap, cur, rfl, hg, hw, hn, _, _, hx⟩⟩ := h
  · have : l = [] := List.length_eq_zero_iff.1 h0
    subst this
    exact Txt.nil w
  · refine ⟨_, cap, g, rfl, fun _ => rfl, fun j hj => ?_⟩
    have hw' : w.heap[g]? = some (.cells cur 9 (0, 0)) := hw
    have e : cur.toList[j]? = (l.map fun x => Value.string (tx x))[j]? := by rw [← hx, List.getElem?_take_of_lt (by omega)]
    simp only [World.cell?, hw']
    rw [← Array.getElem?_toList, e, List.getElem?_map, List.getElem?_eq_getElem hj]; rfl
theorem Own.ext {w w' : World} {base : Nat} {v : Value} {l : List B} (h : Own w base v l) (he : Ext w w') : Own w' base v l := by
  obtain ⟨h1, ⟨h2, h0⟩ | ⟨g, cap, cur, hv, hg, hw, r⟩⟩ := h
  · exact ⟨h1, Or.inl ⟨h2, h0⟩⟩
  · refine ⟨h1, Or.inr ⟨g, cap, cur, hv, hg, ?_, r⟩⟩
    have hw' : w.heap[g]? = some (.cells cur 9 (0, 0)) := hw
    show w'.heap[g]? = some (.cells cur 9 (0, 0))
    rw [he.block g (Array.getElem?_eq_some_iff.1 hw').1]; exact hw'
theorem Own.grown {w w' : World} {base : Nat} {v : Value} {l : List B} (h : Own w base v l) (hg : w.grownBy w' v.ownBlock) (hb : base ≤ w.heap.size) : Below base w w' := by
  refine ⟨hg.os, hg.tape, hg.output, hg.size, fun k hk => hg.block k (by omega) fun e => ?_⟩
  obtain ⟨_, ⟨rfl, _⟩ | ⟨g, cap, cur, rfl, hgb, _⟩⟩ := h
  · cases e
  · injection e with e
    simp at e
    omega
/-- append of one text to a row of the call's own. -/
theorem list_append_txt {P : Program} {w : World} {ops : Array Oper} {rest : List Oper} {o : Oper} {a : Act} {Q : Exit → Act → World → Prop} (hgd : o.guard = none) (s x : Operand) (t : TypeId)
    (ho : o.op = .call { callee := .builtin .append, args := #[s, x], argTypes := #[t, t] }) (ht : P.underlying t = some (.slice 9)) (hi : (P.info? 9).map (fun i => (i.zero, i.size, i.bytes)) = some (some (.string ByteArray.empty), 1, 16))
    (base : Nat) (v : Value) (l : List B) (hs : a.eval s = v) (hown : Own w base v l) (g cap : Nat) (y : ByteArray) (hx : a.eval x = .slice (some ⟨g, 0, none⟩) 1 cap) (hz : w.cell? ⟨g, 0, none⟩ = some (.string y)) (hl : l.length ≤ 1000) (hbase : base ≤ w.heap.size)
    (h : ∀ v' w', Own w' base v' (l ++ [y.toList]) → Below base w w' → wpList P ops Q rest (a.put o.dst v') w') : wpList P ops Q (o :: rest) a w := by
  obtain ⟨i, hi', hzz⟩ := Option.map_eq_some_iff.1 hi
  simp only [Prod.mk.injEq] at hzz
  obtain ⟨hz1, hz2, hz3⟩ := hzz
  refine wpList_append_own w hgd s x t ho base 9 i (.string ByteArray.empty) 1 16 ht hi' hz1 hz2 hz3 rfl (by omega) v l.length (l.map fun x => Value.string (tx x)) hs hown ⟨g, 0, none⟩ 1 cap [.string y] hx (by simp) ?_ (by simp [Value.oneCell']) (by unfold maxLen; omega) (by omega) hbase ?_
  · intro j u hu
    match j, hu with
    | 0, hu => simp at hu; subst hu; exact hz
  · intro v' w' h7 h8 _
    refine h v' w' ?_ (hown.grown h8 hbase)
    unfold Own
    simpa [list_tx] using h7
end Go.Proofs
