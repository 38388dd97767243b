/- The contracts of path's validByte, validPart, Valid, Parts. -/
import Derived.Test.YtoompkmncglmoaaDoorSp
namespace Go.Proofs.YtoompkmncglmoaaDoor
open Go.RowKit Go.Pth

def okN (n : Nat) : Bool := (decide (97 ≤ n) && decide (n ≤ 122)) || (decide (48 ≤ n) && decide (n ≤ 57)) || n == 46 || n == 45 || n == 95
theorem okByte_n (b : UInt8) : okByte b = okN b.toNat := rfl
theorem retb {a b : Bool} (h : a = b) : Ending.returned (Value.bool a) = Ending.returned (Value.bool b) := by rw [h]

set_option maxHeartbeats 1000000 in
theorem validByte_n (n : Nat) (w : World) : Calls Tryd.prog 47 #[.int .u8 (n : Int)] w fun e w' => e = .returned (.bool (okN n)) ∧ w = w' := by
  go_enter Tryd.func47, Tryd.ntmps47
  go_wp2
  all_goals
    go_ret
    refine ⟨retb ?_, rfl⟩
    rw [Bool.eq_iff_iff]
    simp only [okN, Bool.or_eq_true, Bool.and_eq_true, decide_eq_true_eq, beq_iff_eq, true_iff]
    omega

/-- The bytes of a part, as far as they were looked at. -/
theorem all_take (p : B) (k : Nat) (h : k < p.length) : (p.take (k + 1)).all okByte = ((p.take k).all okByte && okByte (p[k]?.getD 0)) := by
  rw [List.take_succ_eq_append_getElem h, List.all_append, List.getElem?_eq_getElem h]; simp
theorem all_not (p : B) (k : Nat) (h : k < p.length) (h2 : okByte (p[k]?.getD 0) = false) : p.all okByte = false := by
  rw [← Bool.not_eq_true, List.all_eq_true]
  intro ha
  have := ha p[k] (List.getElem_mem h)
  rw [List.getElem?_eq_getElem h] at h2
  simp only [Option.getD_some] at h2
  rw [h2] at this; cases this

def InvP (s : ByteArray) (i : Value) : Prop := ∃ k : Nat, k ≤ s.size ∧ i = .int .i64 k ∧ (s.toList.take k).all okByte = true
set_option maxHeartbeats 1000000 in
theorem validPart_any (s : ByteArray) (w : World) : Calls Tryd.prog 39 #[.string s] w fun e w' => e = .returned (.bool (okPart s.toList)) ∧ w = w' := by
  have hsz := Lib.hid (size_list s)
  by_cases h0 : s.size = 0
  · have c0 : ((s.size : Int) == 0) = true := by simp [h0]
    have r : okPart s.toList = false := by unfold okPart; rw [decide_eq_false (by rw [← hsz.out]; omega)]; rfl
    clear h0
    go_enter Tryd.func39, Tryd.ntmps39
    go_wp2
    go_ret
    exact ⟨retb r.symm, rfl⟩
  have c0 : ((s.size : Int) == 0) = false := by simpa using h0
  by_cases h1 : 20 < s.size
  · have c1 : decide ((20 : Int) < (s.size : Int)) = true := decide_eq_true (by omega)
    have r : okPart s.toList = false := by unfold okPart; rw [decide_eq_false (p := s.toList.length ≤ 20) (by rw [← hsz.out]; omega)]; simp
    clear h0 h1
    go_enter Tryd.func39, Tryd.ntmps39
    go_wp2
    go_ret
    exact ⟨retb r.symm, rfl⟩
  have c1 : decide ((20 : Int) < (s.size : Int)) = false := decide_eq_false (by omega)
  cases c2 : s.toList == [46] with
  | true =>
    have r : okPart s.toList = false := by unfold okPart; rw [c2]; simp
    clear h0 h1
    go_enter Tryd.func39, Tryd.ntmps39
    go_wp2
    go_ret
    exact ⟨retb r.symm, rfl⟩
  | false =>
    cases c3 : s.toList == [46, 46] with
    | true =>
      have r : okPart s.toList = false := by unfold okPart; rw [c3]; simp
      clear h0 h1
      go_enter Tryd.func39, Tryd.ntmps39
      go_wp2
      go_ret
      exact ⟨retb r.symm, rfl⟩
    | false =>
      have R : Hid (okPart s.toList = s.toList.all okByte) := Lib.hid (by
        unfold okPart; rw [c2, c3, decide_eq_true (by rw [← hsz.out]; omega), decide_eq_true (p := s.toList.length ≤ 20) (by rw [← hsz.out]; omega)]; rfl)
      have hb : s.size ≤ 20 := by omega
      clear h0 h1
      go_enter Tryd.func39, Tryd.ntmps39
      go_wp2
      go_loop [22] (fun i => InvP s i) (fun i => s.size - (intOf i).toNat)
      case atStart => exact ⟨0, by omega, rfl, rfl⟩
      case round =>
        obtain ⟨k, hk, rfl, hall⟩ := hrel
        have Hall := Lib.hid hall; clear hall
        by_cases hlt : k < s.size
        · have i0 : (0 : Int) ≤ (k : Int) := by omega
          have i1 : (k : Int) < (s.size : Int) := by omega
          have Hg := Lib.hid (tx_get s k hlt)
          go_wp2_with fail
          refine (validByte_n _ w).mono ?_
          rintro e w' ⟨rfl, rfl⟩
          have hl : k < s.toList.length := by rw [← hsz.out]; exact hlt
          have st := all_take s.toList k hl
          rw [Hall.out, Hg.out] at st
          have St := Lib.hid st; clear st
          have Hn := Lib.hid (all_not s.toList k hl)
          rw [Hg.out] at Hn
          cases ho : okN (s[k]).toNat with
          | false =>
            clear St hl
            go_wp2
            go_ret
            exact ⟨retb (by rw [R.out]; exact (Hn.out ho).symm), rfl⟩
          | true =>
            clear hl
            go_wp2
            refine ⟨⟨k + 1, by omega, rfl, ?_⟩, by simp [intOf]; omega⟩
            rw [St.out]; exact ho
        · obtain rfl : k = s.size := by omega
          clear hlt
          go_wp2
          go_ret
          refine ⟨retb ?_, rfl⟩
          rw [R.out, ← Hall.out, hsz.out, List.take_length]
end Go.Proofs.YtoompkmncglmoaaDoor
