/- The contracts of path's cutLast, Parent, Name. -/
import Derived.Test.YtoompkmncglmoaaDoorWb
namespace Go.Proofs.YtoompkmncglmoaaDoor
open Go.RowKit Go.Pth

theorem bang_list (s : ByteArray) (j : Nat) (h : j < s.size) : s.toList[j]? = some (s.data[j]!) := by
  rw [tx_get s j h, getElem!_pos s.data j (by simpa using h)]; rfl
theorem byte_eq (c : UInt8) (h : (c.toNat : Int) = 47) : c = 47 := UInt8.toNat_inj.1 (by simp; omega)
/-- Where the last slash stands. -/
theorem last_cases (s : ByteArray) : (Lib.lastIndexByte s 47 = -1 ∧ (47 : UInt8) ∉ s.toList) ∨
    (∃ i : Nat, i < s.size ∧ Lib.lastIndexByte s 47 = i ∧ s.toList = s.toList.take i ++ 47 :: s.toList.drop (i + 1) ∧ (47 : UInt8) ∉ s.toList.drop (i + 1)) := by
  have hsz := size_list s
  rcases Lib.lastIndexByte_spec s 47 with ⟨h, hn⟩ | ⟨i, hi, h, h1, h2⟩
  · refine Or.inl ⟨h, fun hm => ?_⟩
    obtain ⟨j, hj⟩ := List.mem_iff_getElem?.1 hm
    have hl : j < s.size := by rw [hsz]; exact (List.getElem?_eq_some_iff.1 hj).1
    rw [bang_list s j hl] at hj
    injection hj with hj
    exact hn j hl (by rw [hj]; rfl)
  · refine Or.inr ⟨i, hi, h, ?_, fun hm => ?_⟩
    · have e := bang_list s i hi
      rw [byte_eq _ h1] at e
      have hl : i < s.toList.length := by rw [← hsz]; exact hi
      rw [List.getElem?_eq_getElem hl] at e
      injection e with e
      rw [← e, ← List.drop_eq_getElem_cons hl, List.take_append_drop]
    · obtain ⟨j, hj⟩ := List.mem_iff_getElem?.1 hm
      rw [List.getElem?_drop] at hj
      have hl : i + 1 + j < s.size := by rw [hsz]; exact (List.getElem?_eq_some_iff.1 hj).1
      rw [bang_list s _ hl] at hj
      injection hj with hj
      exact h2 (i + 1 + j) (by omega) hl (by rw [hj]; rfl)
theorem last_names (l : B) (i : Nat) (hv : valid l = true) (e : l = l.take i ++ 47 :: l.drop (i + 1)) (hb : (47 : UInt8) ∉ l.drop (i + 1)) : parent l = l.take i ∧ name l = l.drop (i + 1) := by
  have hv' : valid (l.take i ++ 47 :: l.drop (i + 1)) = true := by rw [← e]; exact hv
  have h := parent_app hv' hb
  rw [← e] at h
  exact h

set_option maxHeartbeats 1000000 in
theorem cutLast_any (s : ByteArray) (w : World) : Calls Tryd.prog 40 #[.string s] w fun e w' => e = .returned (.tuple #[.string (tx (parent s.toList)), .string (tx (name s.toList))]) ∧ Ext w w' := by
  have hsz := Lib.hid (size_list s)
  go_enter Tryd.func40, Tryd.ntmps40
  go_wp2_with fail
  refine (valid_any s w).mono ?_
  rintro e w1 ⟨rfl, e1⟩
  cases hv : valid s.toList with
  | false =>
    have R := Lib.hid (show parent s.toList = [] ∧ name s.toList = [] by unfold parent name; rw [hv]; exact ⟨rfl, rfl⟩)
    go_wp2
    go_ret2
    exact ⟨by rw [R.out.1, R.out.2]; rfl, e1⟩
  | true =>
    have hl := valid_len hv
    rw [← hsz.out] at hl
    go_wp2_with fail
    refine (lastIndex_slash s (by omega) w1).mono ?_
    rintro e w2 ⟨rfl, rfl⟩
    rcases last_cases s with ⟨h, hn⟩ | ⟨i, hi, h, he, hb⟩
    · have R := Lib.hid (parent_one hv hn)
      rw [h]
      clear h hn
      go_wp2_with fail
      go_region
      go_wp2
      go_ret2
      refine ⟨?_, e1.trans (Ext.drew _)⟩
      rw [R.out.1, R.out.2, list_tx]
      have : s.extract 0 (max (-1 : Int) 0).toNat = tx [] := by
        rw [show (max (-1 : Int) 0).toNat = 0 from rfl, ← list_tx (s.extract 0 0), tx_cut]; simp
      rw [this]; rfl
    · have R := Lib.hid (last_names s.toList i hv he hb)
      rw [h]
      clear h he hb
      have m0 : max (i : Int) 0 = (i : Int) := by omega
      have j0 : (0 : Int) ≤ (i : Int) := by omega
      have j1 : (i : Int) ≤ (s.size : Int) := by omega
      have j2 : (0 : Int) ≤ (i : Int) + 1 := by omega
      have j3 : (i : Int) + 1 ≤ (s.size : Int) := by omega
      go_wp2_with fail
      go_region
      go_wp2
      go_ret2
      refine ⟨?_, e1.trans (Ext.drew _)⟩
      rw [R.out.1, R.out.2]
      have x1 : s.extract 0 i = tx (List.take i s.toList) := by rw [← list_tx (s.extract 0 i), tx_cut]; simp
      have x2 : s.extract (i + 1) s.size = tx (List.drop (i + 1) s.toList) := by
        rw [← list_tx (s.extract (i + 1) s.size), tx_cut, List.take_of_length_le (by rw [List.length_drop, ← hsz.out]; omega)]
      rw [x1, x2]; rfl
set_option maxHeartbeats 1000000 in
theorem parent_any (s : ByteArray) (w : World) : Calls Tryd.prog 29 #[.string s] w fun e w' => e = .returned (.string (tx (parent s.toList))) ∧ Ext w w' := by
  go_enter Tryd.func29, Tryd.ntmps29
  go_wp2_with fail
  refine (cutLast_any s w).mono ?_
  rintro e w1 ⟨rfl, e1⟩
  go_wp2
  go_ret
  exact ⟨rfl, e1⟩
end Go.Proofs.YtoompkmncglmoaaDoor
