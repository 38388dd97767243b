/- The contracts of the law's awake, and of Sum. -/
import Derived.Test.YtibhbobdofmafaaDoorWe
import Derived.Handy
namespace Go.Proofs.YtibhbobdofmafaaDoor
open Go.RowKit Go.Pth

theorem k1 : valid (ByteArray.mk #[97, 47, 98, 46, 99]).toList = true := by rw [show (ByteArray.mk #[97, 47, 98, 46, 99]).toList = [97, 47, 98, 46, 99] from ByteArray.toList_mk _]; decide
theorem k2 : valid (ByteArray.mk #[97, 47, 47, 98]).toList = false := by rw [show (ByteArray.mk #[97, 47, 47, 98]).toList = [97, 47, 47, 98] from ByteArray.toList_mk _]; decide
theorem k3 : valid (ByteArray.mk #[46, 46]).toList = false := by rw [show (ByteArray.mk #[46, 46]).toList = [46, 46] from ByteArray.toList_mk _]; decide
theorem k4 : hidden (ByteArray.mk #[46, 120]).toList = true := by rw [show (ByteArray.mk #[46, 120]).toList = [46, 120] from ByteArray.toList_mk _]; decide
theorem k5 : tx (parent (ByteArray.mk #[97, 47, 98]).toList) = ⟨#[97]⟩ := by rw [show (ByteArray.mk #[97, 47, 98]).toList = [97, 47, 98] from ByteArray.toList_mk _]; exact congrArg tx (by decide : parent [97, 47, 98] = [97])
theorem k6 : tx (name (ByteArray.mk #[97, 47, 98]).toList) = ⟨#[98]⟩ := by rw [show (ByteArray.mk #[97, 47, 98]).toList = [97, 47, 98] from ByteArray.toList_mk _]; exact congrArg tx (by decide : name [97, 47, 98] = [98])
theorem k7 : less (ByteArray.mk #[97, 47, 98]).toList (ByteArray.mk #[97, 46, 98]).toList = true := by rw [show (ByteArray.mk #[97, 47, 98]).toList = [97, 47, 98] from ByteArray.toList_mk _, show (ByteArray.mk #[97, 46, 98]).toList = [97, 46, 98] from ByteArray.toList_mk _]; decide
theorem k8 : under (ByteArray.mk #[97, 47, 98]).toList (ByteArray.mk #[97]).toList = true := by rw [show (ByteArray.mk #[97, 47, 98]).toList = [97, 47, 98] from ByteArray.toList_mk _, show (ByteArray.mk #[97]).toList = [97] from ByteArray.toList_mk _]; decide
theorem k9 : tx (join (ByteArray.mk #[97]).toList (ByteArray.mk #[98]).toList) = ⟨#[97, 47, 98]⟩ := by rw [show (ByteArray.mk #[97]).toList = [97] from ByteArray.toList_mk _, show (ByteArray.mk #[98]).toList = [98] from ByteArray.toList_mk _]; exact congrArg tx (by decide : join [97] [98] = [97, 47, 98])

set_option maxHeartbeats 1000000 in
theorem awake_any (w : World) : Calls Tryd.prog 9 #[] w fun e w' => e = .returned (.bool true) ∧ Ext w w' := by
  go_enter Tryd.func9, Tryd.ntmps9
  go_wp2_with fail
  refine (valid_any _ w).mono ?_
  rintro e w1 ⟨rfl, e1⟩
  rw [k1]
  go_wp2_with fail
  refine (valid_any _ w1).mono ?_
  rintro e w2 ⟨rfl, e2⟩
  rw [k2]
  go_wp2_with fail
  refine (valid_any _ w2).mono ?_
  rintro e w3 ⟨rfl, e3⟩
  rw [k3]
  go_wp2_with fail
  refine (hidden_any _ w3).mono ?_
  rintro e w4 ⟨rfl, e4⟩
  rw [k4]
  go_wp2_with fail
  refine (parent_any _ w4).mono ?_
  rintro e w5 ⟨rfl, e5⟩
  rw [k5]
  go_wp2_with fail
  refine (name_any _ w5).mono ?_
  rintro e w6 ⟨rfl, e6⟩
  rw [k6]
  go_wp2_with fail
  refine (less_any _ _ w6).mono ?_
  rintro e w7 ⟨rfl, e7⟩
  rw [k7]
  go_wp2_with fail
  refine (under_any _ _ w7).mono ?_
  rintro e w8 ⟨rfl, e8⟩
  rw [k8]
  go_wp2_with fail
  refine (join_any _ _ (by decide) (by decide) w8).mono ?_
  rintro e w9 ⟨rfl, e9⟩
  rw [k9]
  go_wp2
  go_ret
  exact ⟨rfl, (((((((e1.trans e2).trans e3).trans e4).trans e5).trans e6).trans e7).trans e8).trans e9⟩

set_option maxHeartbeats 1000000 in
/-- n and one more. -/
theorem sum2 (a s : Nat) (g : Nat) (w : World) (ha : a ≤ 9223372036854775807) (hs : s ≤ 9223372036854775807) (h0 : w.cell? ⟨g, 0, none⟩ = some (.int .i64 s)) :
    Calls Tryd.prog 8 #[.int .i64 a, .slice (some ⟨g, 0, none⟩) 1 1] w fun e w' => (∃ R : Nat, e = .returned (.int .i64 (R : Int)) ∧ (R ≤ 500 → R = a + s)) ∧ w = w' := by
  by_cases ha1 : (1099511627776 : Int) < (a : Int)
  · have d1 : decide ((1099511627776 : Int) < (a : Int)) = true := decide_eq_true ha1
    clear ha1
    go_enter Tryd.func8, Tryd.ntmps8
    go_wp2
    go_rounds 1
    go_ret
    exact ⟨⟨1099511627776, rfl, fun h => by omega⟩, rfl⟩
  have d1 : decide ((1099511627776 : Int) < (a : Int)) = false := decide_eq_false ha1
  have ha2 : (a : Int) ≤ 1099511627776 := by omega
  clear ha1
  by_cases hb : (1099511627776 : Int) - a < s
  · have d2 : decide ((1099511627776 : Int) - (a : Int) < (s : Int)) = true := decide_eq_true hb
    go_enter Tryd.func8, Tryd.ntmps8
    go_wp2
    go_rounds 1
    go_ret
    exact ⟨⟨1099511627776, rfl, fun h => by omega⟩, rfl⟩
  · have d2 : decide ((1099511627776 : Int) - (a : Int) < (s : Int)) = false := decide_eq_false hb
    go_enter Tryd.func8, Tryd.ntmps8
    go_wp2
    go_rounds 2
    go_ret
    exact ⟨⟨a + s, by push_cast; rfl, fun h => by omega⟩, rfl⟩
set_option maxHeartbeats 1000000 in
/-- n and two more. -/
theorem sum3 (a s t : Nat) (g : Nat) (w : World) (ha : a ≤ 9223372036854775807) (hs : s ≤ 9223372036854775807) (ht : t ≤ 9223372036854775807) (h0 : w.cell? ⟨g, 0, none⟩ = some (.int .i64 s)) (h1 : w.cell? ⟨g, 1, none⟩ = some (.int .i64 t)) :
    Calls Tryd.prog 8 #[.int .i64 a, .slice (some ⟨g, 0, none⟩) 2 2] w fun e w' => (∃ R : Nat, e = .returned (.int .i64 (R : Int)) ∧ (R ≤ 500 → R = a + s + t)) ∧ w = w' := by
  by_cases ha1 : (1099511627776 : Int) < (a : Int)
  · have d1 : decide ((1099511627776 : Int) < (a : Int)) = true := decide_eq_true ha1
    clear ha1
    go_enter Tryd.func8, Tryd.ntmps8
    go_wp2
    go_rounds 1
    go_ret
    exact ⟨⟨1099511627776, rfl, fun h => by omega⟩, rfl⟩
  have d1 : decide ((1099511627776 : Int) < (a : Int)) = false := decide_eq_false ha1
  have ha2 : (a : Int) ≤ 1099511627776 := by omega
  clear ha1
  by_cases hb : (1099511627776 : Int) - a < s
  · have d2 : decide ((1099511627776 : Int) - (a : Int) < (s : Int)) = true := decide_eq_true hb
    go_enter Tryd.func8, Tryd.ntmps8
    go_wp2
    go_rounds 1
    go_ret
    exact ⟨⟨1099511627776, rfl, fun h => by omega⟩, rfl⟩
  · have d2 : decide ((1099511627776 : Int) - (a : Int) < (s : Int)) = false := decide_eq_false hb
    have d3 : decide ((1099511627776 : Int) < (a : Int) + (s : Int)) = false := decide_eq_false (by omega)
    by_cases hc : (1099511627776 : Int) - (a + s) < t
    · have d4 : decide ((1099511627776 : Int) - ((a : Int) + (s : Int)) < (t : Int)) = true := decide_eq_true hc
      go_enter Tryd.func8, Tryd.ntmps8
      go_wp2
      go_rounds 2
      go_ret
      exact ⟨⟨1099511627776, rfl, fun h => by omega⟩, rfl⟩
    · have d4 : decide ((1099511627776 : Int) - ((a : Int) + (s : Int)) < (t : Int)) = false := decide_eq_false hc
      go_enter Tryd.func8, Tryd.ntmps8
      go_wp2
      go_rounds 3
      go_ret
      exact ⟨⟨a + s + t, by push_cast; rfl, fun h => by omega⟩, rfl⟩
end Go.Proofs.YtibhbobdofmafaaDoor
