/- The contracts of the laws' own sum. -/
import Derived.Test.YtoompkmncglmoaaDoorSp
import Derived.Handy
namespace Go.Proofs.YtoompkmncglmoaaDoor
open Go.RowKit

set_option maxHeartbeats 1000000 in
/-- n and one more. -/
theorem sum2 (a s : Nat) (g : Nat) (w : World) (ha : a ≤ 9223372036854775807) (hs : s ≤ 9223372036854775807) (h0 : w.cell? ⟨g, 0, none⟩ = some (.int .i64 s)) :
    Calls Tryd.prog 22 #[.int .i64 a, .slice (some ⟨g, 0, none⟩) 1 1] w fun e w' => (∃ R : Nat, e = .returned (.int .i64 (R : Int)) ∧ (R ≤ 1000000 → R = a + s)) ∧ w = w' := by
  by_cases ha1 : (1099511627776 : Int) < (a : Int)
  · have d1 : decide ((1099511627776 : Int) < (a : Int)) = true := decide_eq_true ha1
    clear ha1
    go_enter Tryd.func22, Tryd.ntmps22
    go_wp2
    go_rounds 1
    go_ret
    exact ⟨⟨1099511627776, rfl, fun h => by omega⟩, rfl⟩
  have d1 : decide ((1099511627776 : Int) < (a : Int)) = false := decide_eq_false ha1
  have ha2 : (a : Int) ≤ 1099511627776 := by omega
  clear ha1
  by_cases hb : (1099511627776 : Int) - a < s
  · have d2 : decide ((1099511627776 : Int) - (a : Int) < (s : Int)) = true := decide_eq_true hb
    go_enter Tryd.func22, Tryd.ntmps22
    go_wp2
    go_rounds 1
    go_ret
    exact ⟨⟨1099511627776, rfl, fun h => by omega⟩, rfl⟩
  · have d2 : decide ((1099511627776 : Int) - (a : Int) < (s : Int)) = false := decide_eq_false hb
    go_enter Tryd.func22, Tryd.ntmps22
    go_wp2
    go_rounds 2
    go_ret
    exact ⟨⟨a + s, by push_cast; rfl, fun h => by omega⟩, rfl⟩
set_option maxHeartbeats 1000000 in
/-- n and two more. -/
theorem sum3 (a s t : Nat) (g : Nat) (w : World) (ha : a ≤ 9223372036854775807) (hs : s ≤ 9223372036854775807) (ht : t ≤ 9223372036854775807) (h0 : w.cell? ⟨g, 0, none⟩ = some (.int .i64 s)) (h1 : w.cell? ⟨g, 1, none⟩ = some (.int .i64 t)) :
    Calls Tryd.prog 22 #[.int .i64 a, .slice (some ⟨g, 0, none⟩) 2 2] w fun e w' => (∃ R : Nat, e = .returned (.int .i64 (R : Int)) ∧ (R ≤ 1000000 → R = a + s + t)) ∧ w = w' := by
  by_cases ha1 : (1099511627776 : Int) < (a : Int)
  · have d1 : decide ((1099511627776 : Int) < (a : Int)) = true := decide_eq_true ha1
    clear ha1
    go_enter Tryd.func22, Tryd.ntmps22
    go_wp2
    go_rounds 1
    go_ret
    exact ⟨⟨1099511627776, rfl, fun h => by omega⟩, rfl⟩
  have d1 : decide ((1099511627776 : Int) < (a : Int)) = false := decide_eq_false ha1
  have ha2 : (a : Int) ≤ 1099511627776 := by omega
  clear ha1
  by_cases hb : (1099511627776 : Int) - a < s
  · have d2 : decide ((1099511627776 : Int) - (a : Int) < (s : Int)) = true := decide_eq_true hb
    go_enter Tryd.func22, Tryd.ntmps22
    go_wp2
    go_rounds 1
    go_ret
    exact ⟨⟨1099511627776, rfl, fun h => by omega⟩, rfl⟩
  · have d2 : decide ((1099511627776 : Int) - (a : Int) < (s : Int)) = false := decide_eq_false hb
    have d3 : decide ((1099511627776 : Int) < (a : Int) + (s : Int)) = false := decide_eq_false (by omega)
    by_cases hc : (1099511627776 : Int) - (a + s) < t
    · have d4 : decide ((1099511627776 : Int) - ((a : Int) + (s : Int)) < (t : Int)) = true := decide_eq_true hc
      go_enter Tryd.func22, Tryd.ntmps22
      go_wp2
      go_rounds 2
      go_ret
      exact ⟨⟨1099511627776, rfl, fun h => by omega⟩, rfl⟩
    · have d4 : decide ((1099511627776 : Int) - ((a : Int) + (s : Int)) < (t : Int)) = false := decide_eq_false hc
      go_enter Tryd.func22, Tryd.ntmps22
      go_wp2
      go_rounds 3
      go_ret
      exact ⟨⟨a + s + t, by push_cast; rfl, fun h => by omega⟩, rfl⟩
end Go.Proofs.YtoompkmncglmoaaDoor
