/- The contract of a pattern's byte held against a text's. -/
import Derived.Test.YtoompkmncglmoaaDoorMa
import Derived.Test.YtoompkmncglmoaaDoorIa
import Derived.Deep.LoopGhost
namespace Go.Proofs.YtoompkmncglmoaaDoor
open Go.RowKit Go.Pth

theorem retbb {a b : Bool} (h : a = b) : Ending.returned (Value.bool a) = Ending.returned (Value.bool b) := by rw [h]
def chB (m n : Nat) : Bool := if m = 63 then !(n == 47) else m == n
theorem chB_iff (c x : UInt8) : chB c.toNat x.toNat = true ↔ Ch c x := by
  have e : ∀ a b : UInt8, a.toNat = b.toNat ↔ a = b := fun a b => ⟨fun h => UInt8.toNat_inj.mp h, fun h => by rw [h]⟩
  unfold chB Ch
  have h1 : (c.toNat = 63) ↔ c = 63 := e c 63
  have h2 : (x.toNat = 47) ↔ x = 47 := e x 47
  by_cases h : c = 63
  · rw [if_pos h, if_pos (h1.mpr h)]; simp only [Bool.not_eq_true', beq_eq_false_iff_ne, ne_eq, h2]
  · rw [if_neg h, if_neg (fun k => h (h1.mp k))]; simp only [beq_iff_eq, e]

set_option maxHeartbeats 1000000 in
theorem standsFor_any (m n : Nat) (w : World) : Calls Tryd.prog 24 #[.int .u8 (m : Int), .int .u8 (n : Int)] w fun e w' => e = .returned (.bool (chB m n)) ∧ w' = w := by
  go_enter Tryd.func24, Tryd.ntmps24
  go_wp2
  all_goals
    go_ret
    refine ⟨retbb ?_, rfl⟩
    unfold chB
  · have h : m = 63 := by
      have : ((m : Int) == 63) = true := by assumption
      have := of_decide_eq_true this; omega
    rw [if_pos h, bne]
    congr 1
    rw [Bool.eq_iff_iff, beq_iff_eq, beq_iff_eq]; omega
  · have h : ¬ m = 63 := by
      have h1 : ((m : Int) == 63) = false := by assumption
      intro h2; subst h2; cases h1
    rw [if_neg h, Bool.eq_iff_iff, beq_iff_eq, beq_iff_eq]; omega
end Go.Proofs.YtoompkmncglmoaaDoor
