/- The contracts of path's alike, lessParts, Under, Less. -/
import Derived.Test.YtoompkmncglmoaaDoorWc
namespace Go.Proofs.YtoompkmncglmoaaDoor
open Go.RowKit Go.Pth

theorem reti {a b : Int} (h : a = b) : Ending.returned (Value.int .i64 a) = Ending.returned (Value.int .i64 b) := by rw [h]
theorem tx_beq (a b : B) : ((tx a).toList == (tx b).toList) = (a == b) := by rw [tx_list, tx_list]
def InvK (x y : List B) (n i : Value) : Prop := ∃ k : Nat, k ≤ com x y ∧ n = .int .i64 k ∧ i = .int .i64 k
theorem ltP_at (x y : List B) (n : Nat) (hn : n = com x y) (h1 : n ≠ y.length) (h2 : n ≠ x.length) : ltP x y = ltB (x[n]?.getD []) (y[n]?.getD []) := by
  subst hn
  unfold ltP
  rw [lex_com, if_neg h1, if_neg h2]
  have := com_le x y
  rw [List.getElem?_eq_getElem (by omega), List.getElem?_eq_getElem (by omega)]
  rfl
theorem ltP_end (x y : List B) (n : Nat) (hn : n = com x y) : (n = y.length → ltP x y = false) ∧ (n ≠ y.length → n = x.length → ltP x y = true) := by
  subst hn
  unfold ltP
  exact ⟨fun h => by rw [lex_com, if_pos h], fun h h2 => by rw [lex_com, if_neg h, if_pos h2]⟩
theorem tx_less (a b : B) : Op.bytesLess (tx a).toList (tx b).toList = ltB a b := by rw [tx_list, tx_list, bytesLess_ltB]
end Go.Proofs.YtoompkmncglmoaaDoor
