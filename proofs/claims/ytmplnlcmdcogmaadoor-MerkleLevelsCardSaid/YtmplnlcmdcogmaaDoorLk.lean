/- A cell that holds a slice, loaded and stored in a region that draws; the list that two stores leave. -/
import Derived.Test.YtmplnlcmdcogmaaDoorLi
namespace Go.Proofs.YtmplnlcmdcogmaaDoor
open Go.RowKit Go.Sha

theorem at_load1 {op : Oper} {a : Act} {w : World} {K : Act → World → Prop} {Q : Exit → Act → World → Prop} (d : Option Tmp) (hd : op.dst = d) (x : Operand) (ho : op.op = .load 22 x) (g j : Nat) (hx : a.eval x = .pointer (some ⟨g, j, none⟩)) (ad : Option Addr) (n c : Nat) (hc : w.cell? ⟨g, j, none⟩ = some (.slice ad n c))
    (h : K (a.put d (.slice ad n c)) w) : op.wp Tryd.prog a w K Q := by
  subst hd
  have hr : (execOp a.eval op).run Tryd.prog w = .ok (.value (.slice ad n c)) w := by
    unfold execOp
    simp only [ho, hx]
    go_simp
  unfold Oper.wp
  rw [hr]
  exact h
theorem at_store1 {op : Oper} {a : Act} {w : World} {K : Act → World → Prop} {Q : Exit → Act → World → Prop} (hd : op.dst = none) (x y : Operand) (ho : op.op = .store 22 x y) (g j : Nat) (hx : a.eval x = .pointer (some ⟨g, j, none⟩)) (ad : Option Addr) (n c : Nat) (hy : a.eval y = .slice ad n c) (u : Value) (hc : w.cell? ⟨g, j, none⟩ = some u) (hf : w.frozen? ⟨g, j, none⟩ = false)
    (h : K a (w.setCell ⟨g, j, none⟩ (.slice ad n c))) : op.wp Tryd.prog a w K Q := by
  have hr : (execOp a.eval op).run Tryd.prog w = .ok .skip (w.setCell ⟨g, j, none⟩ (.slice ad n c)) := by
    unfold execOp
    simp only [ho, hx, hy]
    go_simp
  unfold Oper.wp
  rw [hr]
  show K (a.put op.dst undef) _
  rw [hd]
  exact h
/-- What is read of a row whose cells are known. -/
theorem lr_cells {w0 w' : World} {g c n : Nat} {ls : List (List Int)} (he : Ext w0 w') (hn : ls.length = n) (hg : g < w'.heap.size) (hc : ∀ j m, ls[j]? = some m → ∃ x, w'.cell? ⟨g, j, none⟩ = some x ∧ Src w0 x m w0.heap.size) : LR w' (.slice (some ⟨g, 0, none⟩) n c) ls w'.heap.size := by
  subst hn
  refine ⟨_, c, g, 0, rfl, fun _ => rfl, by omega, fun j m hj => ?_⟩
  obtain ⟨x, h1, h2⟩ := hc j m hj
  exact ⟨x, by rw [Nat.zero_add]; exact h1, h2.now he⟩
theorem lr_cells2 {w' : World} {g c n : Nat} {ls : List (List Int)} (hn : ls.length = n) (hg : g < w'.heap.size) (hc : ∀ j m, ls[j]? = some m → ∃ x, w'.cell? ⟨g, j, none⟩ = some x ∧ Src w' x m w'.heap.size) : LR w' (.slice (some ⟨g, 0, none⟩) n c) ls w'.heap.size := by
  subst hn
  refine ⟨_, c, g, 0, rfl, fun _ => rfl, by omega, fun j m hj => ?_⟩
  obtain ⟨x, h1, h2⟩ := hc j m hj
  exact ⟨x, by rw [Nat.zero_add]; exact h1, h2⟩
/-- Two places set anew. -/
theorem cells_swap {w0 W : World} {g n a b : Nat} {ls : List (List Int)} {xa xb : Value} {ma mb : List Int} (hn : ls.length = n)
    (hc : ∀ j m, ls[j]? = some m → ∃ x, W.cell? ⟨g, j, none⟩ = some x ∧ Src w0 x m w0.heap.size) (sa : Src w0 xa ma w0.heap.size) (sb : Src w0 xb mb w0.heap.size) :
    ∀ j m, ((ls.set a mb).set b ma)[j]? = some m → ∃ x, ((W.setCell ⟨g, a, none⟩ xb).setCell ⟨g, b, none⟩ xa).cell? ⟨g, j, none⟩ = some x ∧ Src w0 x m w0.heap.size := by
  intro j m hj
  have hjn : j < n := by have := (List.getElem?_eq_some_iff.1 hj).1; simpa [hn] using this
  obtain ⟨y, hy, sy⟩ := hc j _ (List.getElem?_eq_getElem (by omega))
  rw [List.getElem?_set, List.getElem?_set] at hj
  have key : ∀ (V : World) (i : Nat) (u v : Value), V.cell? ⟨g, j, none⟩ = some u → ((V.setCell ⟨g, i, none⟩ v).cell? ⟨g, j, none⟩ = some (if i = j then v else u)) := fun V i u v hu => by
    by_cases e : i = j
    · subst e; rw [if_pos rfl]; exact World.cell?_setCell_same _ _ _ hu
    · rw [if_neg e, World.cell?_setCell_other _ _ _ _ (by intro h; injection h with _ h2; exact e h2)]; exact hu
  refine ⟨_, key _ b _ xa (key W a y xb hy), ?_⟩
  by_cases h1 : b = j
  · rw [if_pos h1] at hj ⊢
    rw [if_pos (by simp; omega)] at hj
    injection hj with hj
    subst hj
    exact sa
  · rw [if_neg h1] at hj ⊢
    by_cases h2 : a = j
    · rw [if_pos h2] at hj ⊢
      rw [if_pos (by omega)] at hj
      injection hj with hj
      subst hj
      exact sb
    · rw [if_neg h2] at hj ⊢
      rw [List.getElem?_eq_getElem (by omega)] at hj
      injection hj with hj
      rw [← hj]; exact sy
theorem cell_after (W : World) (g a b : Nat) (v u : Value) (h : W.cell? ⟨g, b, none⟩ = some u) : ∃ z, (W.setCell ⟨g, a, none⟩ v).cell? ⟨g, b, none⟩ = some z := by
  by_cases e : a = b
  · subst e; exact ⟨v, World.cell?_setCell_same _ _ _ h⟩
  · exact ⟨u, by rw [World.cell?_setCell_other _ _ _ _ (by intro h'; injection h' with _ h2; exact e h2)]; exact h⟩
def otherB : List Int := [111, 116, 104, 101, 114]
theorem other_src (w : World) (fr : Nat × Nat) : Src (w.alloc (.cells #[.int .u8 111, .int .u8 116, .int .u8 104, .int .u8 101, .int .u8 114] 5 fr)) (.slice (some ⟨w.heap.size, 0, none⟩) 5 5) otherB (w.alloc (.cells #[.int .u8 111, .int .u8 116, .int .u8 104, .int .u8 101, .int .u8 114] 5 fr)).heap.size := by
  refine ⟨_, 5, w.heap.size, 0, rfl, by simp [otherB], fun _ => rfl, by simp, fun j hj => ?_, fun h => by cases h⟩
  rw [World.cell?_alloc_mark w _ 5 fr]
  have : j = 0 ∨ j = 1 ∨ j = 2 ∨ j = 3 ∨ j = 4 := by simp [otherB] at hj; omega
  rcases this with rfl | rfl | rfl | rfl | rfl <;> rfl
def InvC1 (w : World) (n : Nat) (i : Value) (wr : World) : Prop := ∃ k : Nat, 1 ≤ k ∧ k ≤ n ∧ i = .int .i64 k ∧ Ext w wr
end Go.Proofs.YtmplnlcmdcogmaaDoor
