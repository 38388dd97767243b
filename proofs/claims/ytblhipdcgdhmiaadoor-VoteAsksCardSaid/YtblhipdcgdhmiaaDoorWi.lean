/- The contract of the sum of lengths ('linnetalike.Sum' of three). -/
import Derived.Test.YtblhipdcgdhmiaaDoorWg
import Derived.Handy
namespace Go.Proofs.YtblhipdcgdhmiaaDoor
open Go.RowKit Go.Sha

def Big (M : Nat) (w : World) (e : Ending) (w' : World) : Prop := ∃ n : Int, (M : Int) < n ∧ e = .returned (.int .i64 n) ∧ w = w'

set_option maxHeartbeats 1000000 in
theorem sum3_small (a b c : Nat) (g : Nat) (w : World) (M : Nat) (hM : M ≤ 1000000) (h : a + b + c ≤ M) (h0 : w.cell? ⟨g, 0, none⟩ = some (.int .i64 b)) (h1 : w.cell? ⟨g, 1, none⟩ = some (.int .i64 c)) :
    Calls Tryd.prog 13 #[.int .i64 a, .slice (some ⟨g, 0, none⟩) 2 2] w fun e w' => e = .returned (.int .i64 ((a : Int) + b + c)) ∧ w = w' := by
  have d1 : decide ((1099511627776 : Int) < (a : Int)) = false := by simp; omega
  have d2 : decide ((1099511627776 : Int) - (a : Int) < (b : Int)) = false := by simp; omega
  have d3 : decide ((1099511627776 : Int) < (a : Int) + (b : Int)) = false := by simp; omega
  have d4 : decide ((1099511627776 : Int) - ((a : Int) + (b : Int)) < (c : Int)) = false := by simp; omega
  go_enter Tryd.func13, Tryd.ntmps13
  go_wp2
  go_rounds 3
  go_ret
  exact ⟨rfl, rfl⟩

set_option maxHeartbeats 1000000 in
theorem sum3_big (a b c : Nat) (g : Nat) (w : World) (M : Nat) (hM : M ≤ 1000000) (h : M < a + b + c) (ha : a ≤ 9223372036854775807) (hb : b ≤ 9223372036854775807) (h0 : w.cell? ⟨g, 0, none⟩ = some (.int .i64 b)) (h1 : w.cell? ⟨g, 1, none⟩ = some (.int .i64 c)) :
    Calls Tryd.prog 13 #[.int .i64 a, .slice (some ⟨g, 0, none⟩) 2 2] w (Big M w) := by
  by_cases p1 : a + b ≤ 1099511627776
  · have d1 : decide ((1099511627776 : Int) < (a : Int)) = false := by simp; omega
    have d2 : decide ((1099511627776 : Int) - (a : Int) < (b : Int)) = false := by simp; omega
    have d3 : decide ((1099511627776 : Int) < (a : Int) + (b : Int)) = false := by simp; omega
    by_cases p2 : a + b + c ≤ 1099511627776
    · have d4 : decide ((1099511627776 : Int) - ((a : Int) + (b : Int)) < (c : Int)) = false := by simp; omega
      go_enter Tryd.func13, Tryd.ntmps13
      go_wp2
      go_rounds 3
      go_ret
      exact ⟨_, by omega, rfl, rfl⟩
    · have d4 : decide ((1099511627776 : Int) - ((a : Int) + (b : Int)) < (c : Int)) = true := by simp; omega
      go_enter Tryd.func13, Tryd.ntmps13
      go_wp2
      go_rounds 3
      go_ret
      exact ⟨_, by omega, rfl, rfl⟩
  · by_cases p2 : a ≤ 1099511627776
    · have d1 : decide ((1099511627776 : Int) < (a : Int)) = false := by simp; omega
      have d2 : decide ((1099511627776 : Int) - (a : Int) < (b : Int)) = true := by simp; omega
      go_enter Tryd.func13, Tryd.ntmps13
      go_wp2
      go_rounds 3
      go_ret
      exact ⟨1099511627776, by omega, rfl, rfl⟩
    · have d1 : decide ((1099511627776 : Int) < (a : Int)) = true := by simp; omega
      go_enter Tryd.func13, Tryd.ntmps13
      go_wp2
      go_rounds 3
      go_ret
      exact ⟨1099511627776, by omega, rfl, rfl⟩

end Go.Proofs.YtblhipdcgdhmiaaDoor
