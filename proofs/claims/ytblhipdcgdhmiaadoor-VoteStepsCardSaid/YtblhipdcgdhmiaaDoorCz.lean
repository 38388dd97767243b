/- Small facts on bytes in memory that several layers share. No conditions: lemmas. -/
import Derived.Test.YtblhipdcgdhmiaaDoorPu
namespace Go.Sha
open Go.RowKit
/-- s[:n] -/
theorem src_front {w : World} {ad : Option Addr} {l : List Int} {cap b n : Nat} (h : Src w (.slice ad l.length cap) l b) (hn : n ≤ l.length) : Src w (.slice ad n cap) (l.take n) b := by
  obtain ⟨ad', cap', sb, so, e, x2, x3, x4, x5, x6⟩ := h
  injection e with e1 _ e3
  subst e1 e3
  have hl : (l.take n).length = n := by rw [List.length_take]; omega
  exact ⟨ad, cap, sb, so, by rw [hl], by omega, fun h => x3 (by omega), x4, fun j hj => by rw [x5 j (by omega), List.getElem?_take_of_lt (by omega)], x6⟩
end Go.Sha
namespace Go.Proofs.YtblhipdcgdhmiaaDoor
open Go.RowKit Go.Sha
theorem put_zero (E : Nat) (t suf : List Int) : (List.replicate (E + t.length) (0 : Int) ++ suf).take E ++ t ++ (List.replicate (E + t.length) (0 : Int) ++ suf).drop (E + t.length) = List.replicate E 0 ++ (t ++ suf) := by
  rw [List.drop_append_of_le_length (by simp), List.drop_of_length_le (by simp), List.take_append_of_le_length (by simp), List.take_replicate]
  simp
theorem At.put_new {w : World} {g E : Nat} {t suf : List Int} (h : At w g (bs (List.replicate (E + t.length) 0 ++ suf)) 5) : At (w.setCells g E (t.map (Value.int .u8))) g (bs (List.replicate E 0 ++ (t ++ suf))) 5 := by
  have := h.put_bs E t (by simp)
  rwa [put_zero] at this
theorem ext_cells {w w' : World} (h : Ext w w') {g : Nat} (hg : w.heap.size ≤ g) (vs : List Value) (o : Nat) : Ext w (w'.setCells g o vs) := below_setCells vs o w' h hg
theorem ext_drew {w w' : World} (h : Ext w w') : Ext w w'.drew := Below.drew h
end Go.Proofs.YtblhipdcgdhmiaaDoor
