/- The walk of PathLimits. -/
import Derived.Test.YtibhbobdofmafaaDoorWh
import Derived.Laws.BytesArg
import Derived.Deep.CutRange
namespace Go.Proofs.YtibhbobdofmafaaDoor
open Go.RowKit Go.Pth

theorem one_list (C : Nat) : (strOfNums [(C : Int)]).toList = [UInt8.ofNat C] := by rw [ByteArray.toList_eq, strOfNums_data]; simp
theorem one_conv (C : Nat) (w : World) : (convert 32 9 (.slice (some ⟨w.heap.size, 0, none⟩) 1 1)).run Tryd.prog (w.alloc (.cells #[.int .u8 (C : Int)] 5)) = .ok (.string (strOfNums [(C : Int)])) (w.alloc (.cells #[.int .u8 (C : Int)] 5)) := by
  refine run_convert_bytes_arg _ 32 5 Tryd.underlying32 Tryd.underlying5 w.heap.size 0 1 1 [(C : Int)] rfl (fun i hi => ?_) 9 Tryd.underlying9
  obtain rfl : i = 0 := by omega
  have : (w.alloc (.cells #[.int .u8 (C : Int)] 5)).heap[w.heap.size]? = some (.cells #[.int .u8 (C : Int)] 5 (0, 0)) := heap_alloc_last w _
  simp only [World.cell?, this]; rfl

def InvO (N P : Nat) (s i : Value) : Prop := ∃ (k : Nat) (z : ByteArray), k ≤ P ∧ i = .int .i64 k ∧ s = .string z ∧ z.size ≤ 31 * k ∧ z.toList = rep N k
def InvI (N j : Nat) (pre : B) (s i : Value) : Prop := ∃ (k : Nat) (z : ByteArray), k ≤ N ∧ i = .int .i64 k ∧ s = .string z ∧ z.size ≤ 31 * j + 1 + k ∧ z.toList = pre ++ List.replicate k 120

set_option maxHeartbeats 4000000 in
theorem limits_in (N P C : Nat) (w : World) (hN : 1 ≤ N) (hN2 : N ≤ 30) (hP : 1 ≤ P) (hP2 : P ≤ 40) (hC : C < 256) :
    Calls Tryd.prog 7 #[.int .i64 (N : Int), .int .i64 (P : Int), .int .u8 (C : Int)] w fun e w' => e = .returned (.bool true) ∧ Ext w w' := by
  have a1 : decide ((N : Int) < 1) = false := decide_eq_false (by omega)
  have a2 : decide ((30 : Int) < (N : Int)) = false := decide_eq_false (by omega)
  have a3 : decide ((P : Int) < 1) = false := decide_eq_false (by omega)
  have a4 : decide ((40 : Int) < (P : Int)) = false := decide_eq_false (by omega)
  go_enter Tryd.func7, Tryd.ntmps7
  go_wp2
  go_loop [7, 8] (fun s i => InvO N P s i) (fun _ i => P - (intOf i).toNat)
  case atStart => exact ⟨0, ByteArray.empty, by omega, rfl, rfl, by simp, by rw [ByteArray.toList_eq]; rfl⟩
  case round =>
    obtain ⟨j, z, hj, rfl, rfl, hz, hl⟩ := hrel
    have HL := Lib.hid hl; clear hl
    by_cases hlt : j < P
    · have i1 : (j : Int) < (P : Int) := by omega
      by_cases hj0 : j = 0
      · have d0 : decide ((0 : Int) < (j : Int)) = false := decide_eq_false (by omega)
        have d0' : decide (0 < j) = false := decide_eq_false (by omega)
        have HJ := Lib.hid hj0
        clear hj0
        go_wp2
        go_loop [7, 9] (fun s i => InvI N j [] s i) (fun _ i => N - (intOf i).toNat)
        case atStart => exact ⟨0, z, by omega, rfl, rfl, by omega, by rw [HL.out, HJ.out]; rfl⟩
        case round =>
          obtain ⟨k, y, hk, rfl, rfl, hy, hyl⟩ := hrel
          have HY := Lib.hid hyl; clear hyl
          by_cases hkl : k < N
          · have i2 : (k : Int) < (N : Int) := by omega
            have n1 : ¬ (9223372036854775807 < y.size + 1) := by omega
            go_wp2
            refine ⟨⟨k + 1, y ++ ⟨#[120]⟩, by omega, rfl, rfl, by rw [ByteArray.size_append]; show y.size + 1 ≤ _; omega, ?_⟩, by simp [intOf]; omega⟩
            rw [tx_app, HY.out, show (⟨#[120]⟩ : ByteArray).toList = [120] from ByteArray.toList_mk [120], List.replicate_succ', List.append_assoc]
          · obtain rfl : k = N := by omega
            clear hkl
            go_wp2
            refine ⟨⟨j + 1, y, by omega, rfl, rfl, by omega, ?_⟩, by simp [intOf]; omega⟩
            rw [HY.out, rep_succ, if_pos HJ.out]; rfl
      · have d0 : (0 : Int) < (j : Int) := by omega
        have n0 : ¬ (9223372036854775807 < z.size + 1) := by omega
        go_wp2
        go_loop [7, 9] (fun s i => InvI N j (rep N j ++ [47]) s i) (fun _ i => N - (intOf i).toNat)
        case atStart => exact ⟨0, z ++ ⟨#[47]⟩, by omega, rfl, rfl, by rw [ByteArray.size_append]; show z.size + 1 ≤ _; omega, by rw [tx_app, HL.out, show (⟨#[47]⟩ : ByteArray).toList = [47] from ByteArray.toList_mk [47]]; simp⟩
        case round =>
          obtain ⟨k, y, hk, rfl, rfl, hy, hyl⟩ := hrel
          have HY := Lib.hid hyl; clear hyl
          by_cases hkl : k < N
          · have i2 : (k : Int) < (N : Int) := by omega
            have n1 : ¬ (9223372036854775807 < y.size + 1) := by omega
            go_wp2
            refine ⟨⟨k + 1, y ++ ⟨#[120]⟩, by omega, rfl, rfl, by rw [ByteArray.size_append]; show y.size + 1 ≤ _; omega, ?_⟩, by simp [intOf]; omega⟩
            rw [tx_app, HY.out, show (⟨#[120]⟩ : ByteArray).toList = [120] from ByteArray.toList_mk [120], List.replicate_succ', List.append_assoc]
          · obtain rfl : k = N := by omega
            clear hkl
            go_wp2
            refine ⟨⟨j + 1, y, by omega, rfl, rfl, by omega, ?_⟩, by simp [intOf]; omega⟩
            rw [HY.out, rep_succ, if_neg hj0]; simp
    · obtain rfl : j = P := by omega
      clear hlt
      go_upto_region 13 with fail
      go_cut [10] from 43 to 68 (fun s10 wx => s10 = .bool (okN C) ∧ w = wx)
      case first =>
        cases e46 : ((C : Int) == 46) <;> cases e45 : ((C : Int) == 45)
        all_goals
          go_wp2
          all_goals
            go_meet
            refine ⟨congrArg Value.bool ?_, rfl⟩
            rw [Bool.eq_iff_iff]
            simp only [beq_iff_eq, beq_eq_false_iff_ne, ne_eq] at e46 e45
            simp only [okN, Bool.or_eq_true, Bool.and_eq_true, decide_eq_true_eq, beq_iff_eq, true_iff]
            omega
      case rest =>
        obtain ⟨rfl, rfl⟩ := hcut
        have cv := one_conv C w
        have hE := Ext.alloc w (.cells #[.int .u8 (C : Int)] 5)
        obtain ⟨O, hO⟩ : ∃ O, O = strOfNums [(C : Int)] := ⟨_, rfl⟩
        have OL := one_list C
        have OS := strOfNums_size [(C : Int)]
        rw [← hO] at cv OL OS
        have os : O.size = 1 := OS
        have u : (UInt8.ofNat C).toNat = C := by simp; omega
        have v1 : valid z.toList = (decide (N ≤ 20) && decide (j * (N + 1) - 1 ≤ 60)) := by rw [HL.out]; exact rep_valid N j hN hP
        have v2 : valid O.toList = (okN C && C != 46) := by rw [OL, valid_byte, okByte_n, u]
        have v3 : valid (⟨#[97]⟩ ++ O ++ ⟨#[98]⟩ : ByteArray).toList = (okN C || C == 47) := by
          rw [tx_app, tx_app, OL, show (⟨#[97]⟩ : ByteArray).toList = [97] from ByteArray.toList_mk [97], show (⟨#[98]⟩ : ByteArray).toList = [98] from ByteArray.toList_mk [98]]
          show valid [97, UInt8.ofNat C, 98] = _
          rw [valid_mid, okByte_n, u]
        have v4 : valid (z ++ ⟨#[47]⟩ : ByteArray).toList = false := by rw [tx_app, show (⟨#[47]⟩ : ByteArray).toList = [47] from ByteArray.toList_mk [47]]; exact valid_end _
        have v5 : valid (⟨#[47]⟩ ++ z : ByteArray).toList = false := by rw [tx_app, show (⟨#[47]⟩ : ByteArray).toList = [47] from ByteArray.toList_mk [47]]; exact valid_front _
        have m1 : ¬ (9223372036854775807 < z.size + 1) := by omega
        have m2 : ¬ (9223372036854775807 < 1 + z.size) := by omega
        have q0 : (0 : Int) ≤ (j : Int) * ((N : Int) + 1) := Int.mul_nonneg (by omega) (by omega)
        have q1 : (j : Int) * ((N : Int) + 1) ≤ 1240 := by
          have : j * (N + 1) ≤ 40 * 31 := Nat.mul_le_mul hP2 (by omega)
          have h2 : ((j * (N + 1) : Nat) : Int) = (j : Int) * ((N : Int) + 1) := by push_cast; rfl
          omega
        have q2 : decide (j * (N + 1) - 1 ≤ 60) = decide ((j : Int) * ((N : Int) + 1) - 1 ≤ 60) := by
          have h2 : ((j * (N + 1) : Nat) : Int) = (j : Int) * ((N : Int) + 1) := by push_cast; rfl
          have h3 : 1 ≤ j * (N + 1) := Nat.mul_pos (by omega) (by omega)
          rw [Bool.eq_iff_iff]
          simp only [decide_eq_true_eq]
          omega
        have q3 : decide (N ≤ 20) = decide ((N : Int) ≤ 20) := by rw [Bool.eq_iff_iff]; simp only [decide_eq_true_eq]; omega
        have q4 : (C != 46) = ((C : Int) != 46) := by rw [Bool.eq_iff_iff]; simp only [bne_iff_ne, ne_eq]; omega
        have q5 : (C == 47) = ((C : Int) == 47) := by rw [Bool.eq_iff_iff]; simp only [beq_iff_eq]; omega
        rw [q2, q3] at v1
        rw [q4] at v2
        rw [q5] at v3
        clear q2 q3 q4 q5 OL OS u hO HL hz
        generalize okN C = I at *
        clear hP hP2 hC a1 a2 a3 a4 hj
        cases n20 : decide ((N : Int) ≤ 20) with
        | false =>
          rw [n20] at v1
          cases I
          all_goals
            go_wp2_with (first | (go_at_call 10; refine (valid_acc _ hE).mono ?_; rintro e w' ⟨rfl, hE⟩; simp only [v1, v2, v3, v4, v5]) | (go_at_call 9; refine (awake_acc hE).mono ?_; rintro e w' ⟨rfl, hE⟩))
            go_ret
            exact ⟨rfl, hE⟩
        | true =>
          cases pr : decide ((j : Int) * ((N : Int) + 1) - 1 ≤ 60)
          all_goals
            rw [n20, pr] at v1
            cases I
            all_goals
              go_wp2_with (first | (go_at_call 10; refine (valid_acc _ hE).mono ?_; rintro e w' ⟨rfl, hE⟩; simp only [v1, v2, v3, v4, v5]) | (go_at_call 9; refine (awake_acc hE).mono ?_; rintro e w' ⟨rfl, hE⟩))
              go_ret
              exact ⟨rfl, hE⟩
end Go.Proofs.YtibhbobdofmafaaDoor
