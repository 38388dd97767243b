/- The contract of the document's own Update, where it fits. -/
import Derived.Test.YtdohngjhfonifaaDoorQf
namespace Go.Proofs.YtdohngjhfonifaaDoor
open Go.RowKit Go.Sha
set_option linter.unusedSimpArgs false

def InvRg (w : World) (B0 g : Nat) (R : List Int) (b : Nat) (i : Value) (wr : World) : Prop := ∃ j : Nat, j ≤ b ∧ i = .int .i64 j ∧ Ext w wr ∧ B0 ≤ wr.heap.size ∧ Buf wr g (fillN R b j)
/-- A row's row's byte. -/
theorem lr_cell {w w' : World} {v : Value} {ls : List (List Int)} {bh : Nat} {ad : Option Addr} {n cap : Nat} (h : LR w v ls bh) (hv : v = .slice ad n cap) (he : Ext w w') (k : Nat) (m : List Int) (hk : ls[k]? = some m) : ∃ pb po, ad = some ⟨pb, po, none⟩ ∧ ∃ x, w'.cell? ⟨pb, po + k, none⟩ = some x ∧ Src w x m bh := by
  have h0 : 0 < ls.length := by have := (List.getElem?_eq_some_iff.1 hk).1; omega
  obtain ⟨cap1, pb, po, ev, _, hc⟩ := lr_at h h0
  subst hv
  injection ev with e1 _ _
  obtain ⟨x, cx, sx⟩ := hc k m hk
  exact ⟨pb, po, e1, x, by rw [Below.cell (p := ⟨pb, po + k, none⟩) he (World.block_lt_of_cell? w _ cx)]; exact cx, sx⟩
theorem src_cell {w w' : World} {v : Value} {m : List Int} {bh : Nat} (h : Src w v m bh) (he : Ext w w') (hm : 0 < m.length) : ∃ sb so cap, v = .slice (some ⟨sb, so, none⟩) m.length cap ∧ ∀ j, j < m.length → w'.cell? ⟨sb, so + j, none⟩ = some (.int .u8 (m[j]?.getD 0)) := by
  obtain ⟨ad, cap, sb, so, rfl, _, h3, _, h5, _⟩ := h
  obtain rfl := h3 hm
  exact ⟨sb, so, cap, rfl, fun j hj => by rw [Below.cell (p := ⟨sb, so + j, none⟩) he (World.block_lt_of_cell? w _ (h5 j hj))]; exact h5 j hj⟩

theorem lr_row {w : World} {v : Value} {ls : List (List Int)} {bh : Nat} {ad : Option Addr} {n cap : Nat} (h : LR w v ls bh) (hv : v = .slice ad n cap) (k : Nat) (m : List Int) (hk : ls[k]? = some m) (hm : 0 < m.length) : ∃ pb po sb so capx, ad = some ⟨pb, po, none⟩ ∧ (∀ w', Ext w w' → w'.cell? ⟨pb, po + k, none⟩ = some (.slice (some ⟨sb, so, none⟩) m.length capx)) ∧ ∀ w', Ext w w' → ∀ j, j < m.length → w'.cell? ⟨sb, so + j, none⟩ = some (.int .u8 (m[j]?.getD 0)) := by
  have h0 : 0 < ls.length := by have := (List.getElem?_eq_some_iff.1 hk).1; omega
  obtain ⟨cap1, pb, po, ev, _, hc⟩ := lr_at h h0
  subst hv
  injection ev with e1 _ _
  obtain ⟨x, cx, sx⟩ := hc k m hk
  obtain ⟨adx, capx, sb, so, rfl, _, h3, _, h5, _⟩ := sx
  obtain rfl := h3 hm
  exact ⟨pb, po, sb, so, capx, e1, fun w' he => by rw [Below.cell (p := ⟨pb, po + k, none⟩) he (World.block_lt_of_cell? w _ cx)]; exact cx, fun w' he j hj => by rw [Below.cell (p := ⟨sb, so + j, none⟩) he (World.block_lt_of_cell? w _ (h5 j hj))]; exact h5 j hj⟩

end Go.Proofs.YtdohngjhfonifaaDoor
