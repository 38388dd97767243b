/- The walk of PathLimits, whatever the numbers. -/
import Derived.Test.YtibhbobdofmafaaDoorWi
namespace Go.Proofs.YtibhbobdofmafaaDoor
open Go.RowKit Go.Pth

set_option maxHeartbeats 4000000 in
theorem limits_any (a b c : Int) (w : World) (hc : 0 ≤ c ∧ c ≤ 255) :
    Calls Tryd.prog 7 #[.int .i64 a, .int .i64 b, .int .u8 c] w fun e w' => e = .returned (.bool true) ∧ Ext w w' := by
  by_cases h1 : a < 1
  · have d1 : decide (a < 1) = true := decide_eq_true h1
    go_enter Tryd.func7, Tryd.ntmps7
    go_wp2_with fail
    refine (awake_any w).mono ?_
    rintro e w1 ⟨rfl, e1⟩
    go_wp2
    go_ret
    exact ⟨rfl, e1⟩
  have d1 : decide (a < 1) = false := decide_eq_false h1
  by_cases h2 : 30 < a
  · have d2 : decide (30 < a) = true := decide_eq_true h2
    go_enter Tryd.func7, Tryd.ntmps7
    go_wp2_with fail
    refine (awake_any w).mono ?_
    rintro e w1 ⟨rfl, e1⟩
    go_wp2
    go_ret
    exact ⟨rfl, e1⟩
  have d2 : decide (30 < a) = false := decide_eq_false h2
  by_cases h3 : b < 1
  · have d3 : decide (b < 1) = true := decide_eq_true h3
    go_enter Tryd.func7, Tryd.ntmps7
    go_wp2_with fail
    refine (awake_any w).mono ?_
    rintro e w1 ⟨rfl, e1⟩
    go_wp2
    go_ret
    exact ⟨rfl, e1⟩
  have d3 : decide (b < 1) = false := decide_eq_false h3
  by_cases h4 : 40 < b
  · have d4 : decide (40 < b) = true := decide_eq_true h4
    go_enter Tryd.func7, Tryd.ntmps7
    go_wp2_with fail
    refine (awake_any w).mono ?_
    rintro e w1 ⟨rfl, e1⟩
    go_wp2
    go_ret
    exact ⟨rfl, e1⟩
  obtain ⟨N, rfl⟩ : ∃ N : Nat, a = N := ⟨a.toNat, by omega⟩
  obtain ⟨P, rfl⟩ : ∃ P : Nat, b = P := ⟨b.toNat, by omega⟩
  obtain ⟨C, rfl⟩ : ∃ C : Nat, c = C := ⟨c.toNat, by omega⟩
  exact limits_in N P C w (by omega) (by omega) (by omega) (by omega) (by omega)
end Go.Proofs.YtibhbobdofmafaaDoor
