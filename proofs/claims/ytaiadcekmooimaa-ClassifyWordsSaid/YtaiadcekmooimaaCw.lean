/- The walk of ClassifyWords. -/
import Derived.Test.YtaiadcekmooimaaCn
namespace Go.Proofs.Ytaiadcekmooimaa
open Go.RowKit Go.Sha
set_option linter.unusedSimpArgs false
set_option linter.unusedVariables false

theorem seven (a : Int) (h1 : 1 ≤ a) (h2 : a ≤ 7) : a = 1 ∨ a = 2 ∨ a = 3 ∨ a = 4 ∨ a = 5 ∨ a = 6 ∨ a = 7 := by omega
theorem word_out (a : Int) (h : ¬ (1 ≤ a ∧ a ≤ 7)) : wordL a = ⟨#[]⟩ := by
  unfold wordL
  rw [if_neg (by omega), if_neg (by omega), if_neg (by omega), if_neg (by omega), if_neg (by omega), if_neg (by omega), if_neg (by omega)]
theorem word_in (a : Int) (h1 : 1 ≤ a) (h2 : a ≤ 7) : wordL a ≠ ⟨#[]⟩ := by
  rcases seven a h1 h2 with rfl | rfl | rfl | rfl | rfl | rfl | rfl <;> decide
theorem word_inj (a b : Int) (h1 : 1 ≤ a) (h2 : a ≤ 7) (h : wordL a = wordL b) : a = b := by
  by_cases hb : 1 ≤ b ∧ b ≤ 7
  · rcases seven a h1 h2 with rfl | rfl | rfl | rfl | rfl | rfl | rfl <;> rcases seven b hb.1 hb.2 with rfl | rfl | rfl | rfl | rfl | rfl | rfl <;> first | rfl | exact absurd h (by decide)
  · rw [word_out b hb] at h
    exact absurd h (word_in a h1 h2)
theorem list_inj {a b : ByteArray} (h : a.toList = b.toList) : a = b := by
  rw [ByteArray.toList_eq, ByteArray.toList_eq] at h
  exact ByteArray.ext (Array.toList_inj.1 h)
theorem word_empty (a : Int) (h1 : 1 ≤ a) (h2 : a ≤ 7) : (wordL a).toList.isEmpty = false := by
  rw [Bool.eq_false_iff]
  intro h
  rw [List.isEmpty_iff] at h
  exact word_in a h1 h2 (list_inj (h.trans (by rw [ByteArray.toList_eq])))
theorem word_same (a b : Int) (h1 : 1 ≤ a) (h2 : a ≤ 7) : ((wordL a).toList == (wordL b).toList) = (a == b) := by
  rw [Bool.eq_iff_iff, beq_iff_eq, beq_iff_eq]
  exact ⟨fun h => word_inj a b h1 h2 (list_inj h), fun h => by rw [h]⟩

set_option maxHeartbeats 4000000 in
set_option maxRecDepth 100000 in
theorem words_in (a b : Int) (w : World) (d1 : decide (1 ≤ a) = true) (d2 : decide (a ≤ 7) = true) (F E : Bool) (hF : (a == 6) = F) (hE : (a == b) = E) (q1 : (wordL a).toList.isEmpty = false) (q2 : ((wordL a).toList == (wordL b).toList) = E) :
    Calls Try.prog 4 #[.int .i64 a, .int .i64 b] w fun e w' => e = .returned (.bool true) ∧ Ext w w' := by
  have A := word_any a w
  have B := word_any b w
  have C := rotten_any a w
  rw [hF] at C
  generalize wordL a = x at *
  generalize wordL b = y at *
  go_enter Try.func4, Try.ntmps4
  go_wp2_with fail
  refine A.mono ?_
  rintro e w' ⟨rfl, rfl⟩
  go_wp2_with fail
  refine B.mono ?_
  rintro e w' ⟨rfl, rfl⟩
  go_wp2_with fail
  refine C.mono ?_
  rintro e w' ⟨rfl, rfl⟩
  go_wp2_with fail
  refine (word_1 w).mono ?_
  rintro e w' ⟨rfl, rfl⟩
  go_wp2_with fail
  refine (word_2 w).mono ?_
  rintro e w' ⟨rfl, rfl⟩
  go_wp2_with fail
  refine (word_3 w).mono ?_
  rintro e w' ⟨rfl, rfl⟩
  go_wp2_with fail
  refine (word_4 w).mono ?_
  rintro e w' ⟨rfl, rfl⟩
  go_wp2_with fail
  refine (word_5 w).mono ?_
  rintro e w' ⟨rfl, rfl⟩
  go_wp2_with fail
  refine (word_7 w).mono ?_
  rintro e w' ⟨rfl, rfl⟩
  go_wp2_with fail
  refine (awake_any w).mono ?_
  rintro e w' ⟨rfl, ex⟩
  go_wp2
  go_ret
  exact ⟨rfl, ex⟩
set_option maxHeartbeats 4000000 in
set_option maxRecDepth 100000 in
theorem words_big (a b : Int) (w : World) (d1 : decide (1 ≤ a) = true) (d2 : decide (a ≤ 7) = false) (F : Bool) (hF : (a == 6) = F) (hx : wordL a = ⟨#[]⟩) :
    Calls Try.prog 4 #[.int .i64 a, .int .i64 b] w fun e w' => e = .returned (.bool true) ∧ Ext w w' := by
  have A := word_any a w
  have B := word_any b w
  have C := rotten_any a w
  rw [hF] at C
  rw [hx] at A
  generalize wordL b = y at *
  go_enter Try.func4, Try.ntmps4
  go_wp2_with fail
  refine A.mono ?_
  rintro e w' ⟨rfl, rfl⟩
  go_wp2_with fail
  refine B.mono ?_
  rintro e w' ⟨rfl, rfl⟩
  go_wp2_with fail
  refine C.mono ?_
  rintro e w' ⟨rfl, rfl⟩
  go_wp2_with fail
  refine (word_1 w).mono ?_
  rintro e w' ⟨rfl, rfl⟩
  go_wp2_with fail
  refine (word_2 w).mono ?_
  rintro e w' ⟨rfl, rfl⟩
  go_wp2_with fail
  refine (word_3 w).mono ?_
  rintro e w' ⟨rfl, rfl⟩
  go_wp2_with fail
  refine (word_4 w).mono ?_
  rintro e w' ⟨rfl, rfl⟩
  go_wp2_with fail
  refine (word_5 w).mono ?_
  rintro e w' ⟨rfl, rfl⟩
  go_wp2_with fail
  refine (word_7 w).mono ?_
  rintro e w' ⟨rfl, rfl⟩
  go_wp2_with fail
  refine (awake_any w).mono ?_
  rintro e w' ⟨rfl, ex⟩
  go_wp2
  go_ret
  exact ⟨rfl, ex⟩
set_option maxHeartbeats 4000000 in
set_option maxRecDepth 100000 in
theorem words_small (a b : Int) (w : World) (d1 : decide (1 ≤ a) = false) (F : Bool) (hF : (a == 6) = F) (hx : wordL a = ⟨#[]⟩) :
    Calls Try.prog 4 #[.int .i64 a, .int .i64 b] w fun e w' => e = .returned (.bool true) ∧ Ext w w' := by
  have A := word_any a w
  have B := word_any b w
  have C := rotten_any a w
  rw [hF] at C
  rw [hx] at A
  generalize wordL b = y at *
  go_enter Try.func4, Try.ntmps4
  go_wp2_with fail
  refine A.mono ?_
  rintro e w' ⟨rfl, rfl⟩
  go_wp2_with fail
  refine B.mono ?_
  rintro e w' ⟨rfl, rfl⟩
  go_wp2_with fail
  refine C.mono ?_
  rintro e w' ⟨rfl, rfl⟩
  go_wp2_with fail
  refine (word_1 w).mono ?_
  rintro e w' ⟨rfl, rfl⟩
  go_wp2_with fail
  refine (word_2 w).mono ?_
  rintro e w' ⟨rfl, rfl⟩
  go_wp2_with fail
  refine (word_3 w).mono ?_
  rintro e w' ⟨rfl, rfl⟩
  go_wp2_with fail
  refine (word_4 w).mono ?_
  rintro e w' ⟨rfl, rfl⟩
  go_wp2_with fail
  refine (word_5 w).mono ?_
  rintro e w' ⟨rfl, rfl⟩
  go_wp2_with fail
  refine (word_7 w).mono ?_
  rintro e w' ⟨rfl, rfl⟩
  go_wp2_with fail
  refine (awake_any w).mono ?_
  rintro e w' ⟨rfl, ex⟩
  go_wp2
  go_ret
  exact ⟨rfl, ex⟩
theorem words_any (a b : Int) (w : World) : Calls Try.prog 4 #[.int .i64 a, .int .i64 b] w fun e w' => e = .returned (.bool true) ∧ Ext w w' := by
  by_cases h1 : 1 ≤ a
  · by_cases h2 : a ≤ 7
    · exact words_in a b w (by simpa using h1) (by simpa using h2) _ _ rfl rfl (word_empty a h1 h2) (word_same a b h1 h2)
    · exact words_big a b w (by simpa using h1) (by simpa using h2) _ rfl (word_out a (fun h => h2 h.2))
  · exact words_small a b w (by simpa using h1) _ rfl (word_out a (fun h => h1 h.1))
theorem words_all (a b : Int) (w : World) (_ : -9223372036854775808 ≤ a ∧ a ≤ 9223372036854775807) (_ : -9223372036854775808 ≤ b ∧ b ≤ 9223372036854775807) : Calls Try.prog 4 #[.int .i64 a, .int .i64 b] w fun e w' => e = .returned (.bool true) ∧ Ext w w' := words_any a b w
end Go.Proofs.Ytaiadcekmooimaa
