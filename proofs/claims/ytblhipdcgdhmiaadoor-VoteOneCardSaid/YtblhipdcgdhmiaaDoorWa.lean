/- The contracts of the small functions: a word turned round, the words of a block. -/
import Derived.Test.YtblhipdcgdhmiaaDoorRows
import Derived.Test.YtblhipdcgdhmiaaDoorSpec
namespace Go.Proofs.YtblhipdcgdhmiaaDoor
open Go.RowKit Go.Sha

theorem ret_u32 {a b : Int} (h : a = b) : Ending.returned (.int .u32 a) = .returned (.int .u32 b) := by rw [h]

set_option maxHeartbeats 400000 in
theorem rotl (x : Int) (k : Int) (n : Nat) (w : World) (hn : n ≤ 32) (hk : bits .and .u64 (IntKind.u64.wrap k) 31 = ((32 - n : Nat) : Int)) :
    Calls Tryd.prog 65 #[.int .u32 x, .int .i64 k] w fun e w' => e = .returned (.int .u32 (rotr x n)) ∧ w = w' := by
  have h1 : (0 : Int) ≤ ((32 - n : Nat) : Int) := by omega
  have h2 : IntKind.u64.wrap (32 - ((32 - n : Nat) : Int)) = (n : Int) := by rw [IntWalk.u64_in] <;> omega
  go_enter Tryd.func65, Tryd.ntmps65
  go_wp2
  go_ret
  exact ⟨ret_u32 (rotr_left x n), rfl⟩

theorem rotl2 (x : Int) (w : World) : Calls Tryd.prog 65 #[.int .u32 x, .int .i64 (-2)] w fun e w' => e = .returned (.int .u32 (rotr x 2)) ∧ w = w' := rotl x (-2) 2 w (by omega) (by decide +kernel)
theorem rotl6 (x : Int) (w : World) : Calls Tryd.prog 65 #[.int .u32 x, .int .i64 (-6)] w fun e w' => e = .returned (.int .u32 (rotr x 6)) ∧ w = w' := rotl x (-6) 6 w (by omega) (by decide +kernel)
theorem rotl7 (x : Int) (w : World) : Calls Tryd.prog 65 #[.int .u32 x, .int .i64 (-7)] w fun e w' => e = .returned (.int .u32 (rotr x 7)) ∧ w = w' := rotl x (-7) 7 w (by omega) (by decide +kernel)
theorem rotl11 (x : Int) (w : World) : Calls Tryd.prog 65 #[.int .u32 x, .int .i64 (-11)] w fun e w' => e = .returned (.int .u32 (rotr x 11)) ∧ w = w' := rotl x (-11) 11 w (by omega) (by decide +kernel)
theorem rotl13 (x : Int) (w : World) : Calls Tryd.prog 65 #[.int .u32 x, .int .i64 (-13)] w fun e w' => e = .returned (.int .u32 (rotr x 13)) ∧ w = w' := rotl x (-13) 13 w (by omega) (by decide +kernel)
theorem rotl17 (x : Int) (w : World) : Calls Tryd.prog 65 #[.int .u32 x, .int .i64 (-17)] w fun e w' => e = .returned (.int .u32 (rotr x 17)) ∧ w = w' := rotl x (-17) 17 w (by omega) (by decide +kernel)
theorem rotl18 (x : Int) (w : World) : Calls Tryd.prog 65 #[.int .u32 x, .int .i64 (-18)] w fun e w' => e = .returned (.int .u32 (rotr x 18)) ∧ w = w' := rotl x (-18) 18 w (by omega) (by decide +kernel)
theorem rotl19 (x : Int) (w : World) : Calls Tryd.prog 65 #[.int .u32 x, .int .i64 (-19)] w fun e w' => e = .returned (.int .u32 (rotr x 19)) ∧ w = w' := rotl x (-19) 19 w (by omega) (by decide +kernel)
theorem rotl22 (x : Int) (w : World) : Calls Tryd.prog 65 #[.int .u32 x, .int .i64 (-22)] w fun e w' => e = .returned (.int .u32 (rotr x 22)) ∧ w = w' := rotl x (-22) 22 w (by omega) (by decide +kernel)
theorem rotl25 (x : Int) (w : World) : Calls Tryd.prog 65 #[.int .u32 x, .int .i64 (-25)] w fun e w' => e = .returned (.int .u32 (rotr x 25)) ∧ w = w' := rotl x (-25) 25 w (by omega) (by decide +kernel)

set_option maxHeartbeats 400000 in
theorem rot (x : Int) (n : Nat) (w : World) (hn : n ≤ 32) :
    Calls Tryd.prog 57 #[.int .u32 x, .int .i64 n] w fun e w' => e = .returned (.int .u32 (rotr x n)) ∧ ∃ k, w' = w.drewN k := by
  have h1 : (0 : Int) ≤ (n : Int) := by omega
  have h2 : IntKind.i64.wrap (32 - (n : Int)) = ((32 - n : Nat) : Int) := by rw [IntWalk.i64_in] <;> omega
  have h3 : (0 : Int) ≤ ((32 - n : Nat) : Int) := by omega
  go_enter Tryd.func57, Tryd.ntmps57
  go_wp2
  go_quiet (fail)
  go_wp2
  go_ret
  exact ⟨rfl, _, rfl⟩
end Go.Proofs.YtblhipdcgdhmiaaDoor
