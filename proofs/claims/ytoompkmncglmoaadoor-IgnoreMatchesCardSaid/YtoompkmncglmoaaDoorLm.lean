/- The walk of IgnoreMatches. -/
import Derived.Test.YtoompkmncglmoaaDoorIk
import Derived.Test.YtoompkmncglmoaaDoorIf
namespace Go.Proofs.YtoompkmncglmoaaDoor
open Go.RowKit Go.Pth

set_option maxRecDepth 100000 in
set_option maxHeartbeats 4000000 in
theorem matches_law (p s : ByteArray) (w : World) (hp : p.size ≤ 9223372036854775807) (hs : s.size ≤ 9223372036854775807) : Calls Tryd.prog 3 #[.string p, .string s] w fun e w' => e = .returned (.bool true) ∧ Ext w w' := by
  by_cases h1 : 250 < p.size
  · have d1 : decide ((250 : Int) < (p.size : Int)) = true := decide_eq_true (by omega)
    go_enter Tryd.func3, Tryd.ntmps3
    go_wp2_with fail
    refine (awake_any w).mono ?_
    rintro e w1 ⟨rfl, e1⟩
    go_wp2_with fail
    go_ret
    exact ⟨rfl, e1⟩
  have d1 : decide ((250 : Int) < (p.size : Int)) = false := decide_eq_false (by omega)
  by_cases h2 : 250 < s.size
  · have d2 : decide ((250 : Int) < (s.size : Int)) = true := decide_eq_true (by omega)
    go_enter Tryd.func3, Tryd.ntmps3
    go_wp2_with fail
    refine (awake_any w).mono ?_
    rintro e w1 ⟨rfl, e1⟩
    go_wp2_with fail
    go_ret
    exact ⟨rfl, e1⟩
  have d2 : decide ((250 : Int) < (s.size : Int)) = false := decide_eq_false (by omega)
  obtain ⟨M, hM⟩ : ∃ M, M = p.size * s.size := ⟨_, rfl⟩
  have hMl : M ≤ 250 * 250 := by rw [hM]; exact Nat.mul_le_mul (by omega) (by omega)
  have hMi : (p.size : Int) * (s.size : Int) = (M : Int) := by rw [hM]; push_cast; rfl
  clear hM
  by_cases h3 : 20000 < M
  · have d3 : decide ((20000 : Int) < (M : Int)) = true := decide_eq_true (by omega)
    go_enter Tryd.func3, Tryd.ntmps3
    go_wp2_with fail
    refine (awake_any w).mono ?_
    rintro e w1 ⟨rfl, e1⟩
    go_wp2_with fail
    go_ret
    exact ⟨rfl, e1⟩
  have d3 : decide ((20000 : Int) < (M : Int)) = false := decide_eq_false (by omega)
  go_enter Tryd.func3, Tryd.ntmps3
  go_wp2_with fail
  refine (match_any p s w).mono ?_
  rintro e w1 ⟨rfl, e1⟩
  go_wp2_with fail
  refine (rmatch_any p s w1).mono ?_
  rintro e w2 ⟨rfl, e2⟩
  have E2 := Lib.hid (e1.trans e2)
  clear e1 e2
  go_wp2_with fail
  refine (awake_any w2).mono ?_
  rintro e w3 ⟨rfl, e3⟩
  have E3 := Lib.hid (E2.out.trans e3)
  clear e3
  go_wp2_with fail
  go_ret
  exact ⟨rfl, E3.out⟩
end Go.Proofs.YtoompkmncglmoaaDoor
