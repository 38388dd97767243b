/- The walk of IgnoreStars. -/
import Derived.Test.YtoompkmncglmoaaDoorIk
import Derived.Test.YtoompkmncglmoaaDoorPl
import Derived.Test.YtoompkmncglmoaaDoorSo
namespace Go.Proofs.YtoompkmncglmoaaDoor
open Go.RowKit Go.Pth

/-- the bytes that were looked at hold a slash, or none. -/
def InvD (a : ByteArray) (y i : Value) : Prop := ∃ k : Nat, k ≤ a.size ∧ i = .int .i64 k ∧ y = .bool ((a.toList.take k).contains 47)
def plainB (l : B) : Bool := l.all fun c => (c != 42) && (c != 63)
theorem plainB_iff {l : B} (h : plainB l = true) : Plain l := fun c hc => by
  have := List.all_eq_true.1 h c hc
  simpa using this
def InvPl (q : ByteArray) (y i : Value) : Prop := ∃ k : Nat, k ≤ q.size ∧ i = .int .i64 k ∧ y = .bool (plainB (q.toList.take k))
theorem byte_nat (c : UInt8) (n : Nat) (h : n < 256) : ((c.toNat : Int) == (n : Int)) = (c == UInt8.ofNat n) := by
  rw [Bool.eq_iff_iff, beq_iff_eq, beq_iff_eq, ← UInt8.toNat_inj]
  simp
  omega
theorem take_has (a : ByteArray) (k : Nat) (h : k < a.size) : (a.toList.take (k + 1)).contains 47 = ((a.toList.take k).contains 47 || ((a[k].toNat : Int) == 47)) := by
  have hl : k < a.toList.length := by rw [← size_list]; exact h
  have e : a.toList[k] = a[k] := by
    have := tx_get a k h
    rw [List.getElem?_eq_getElem hl] at this
    injection this
  rw [List.take_succ_eq_append_getElem hl, e]
  have b := byte_nat a[k] 47 (by omega)
  rw [show ((47 : Nat) : Int) = 47 from rfl] at b
  rw [b]
  rw [Bool.eq_iff_iff]
  simp only [List.contains_eq_mem, Bool.or_eq_true, decide_eq_true_eq, List.mem_append, List.mem_singleton, beq_iff_eq]
  constructor
  · rintro (h | h)
    · exact Or.inl h
    · exact Or.inr h.symm
  · rintro (h | h)
    · exact Or.inl h
    · exact Or.inr h.symm
theorem take_plain (a : ByteArray) (k : Nat) (h : k < a.size) : plainB (a.toList.take (k + 1)) = (plainB (a.toList.take k) && ((a[k].toNat : Int) != 42) && ((a[k].toNat : Int) != 63)) := by
  have hl : k < a.toList.length := by rw [← size_list]; exact h
  have e : a.toList[k] = a[k] := by
    have := tx_get a k h
    rw [List.getElem?_eq_getElem hl] at this
    injection this
  unfold plainB
  rw [List.take_succ_eq_append_getElem hl, e, List.all_append]
  have b := byte_nat a[k] 42 (by omega)
  have b2 := byte_nat a[k] 63 (by omega)
  rw [show ((42 : Nat) : Int) = 42 from rfl] at b
  rw [show ((63 : Nat) : Int) = 63 from rfl] at b2
  simp only [bne, b, b2, List.all_cons, List.all_nil, Bool.and_true, Bool.and_assoc]
  rfl

set_option maxRecDepth 100000 in
set_option maxHeartbeats 8000000 in
theorem stars_law (a b c : ByteArray) (w : World) (ha : a.size ≤ 9223372036854775807) (hb : b.size ≤ 9223372036854775807) (hc : c.size ≤ 9223372036854775807) : Calls Tryd.prog 7 #[.string a, .string b, .string c] w fun e w' => e = .returned (.bool true) ∧ Ext w w' := by
  have AW := Lib.hid (fun (w' : World) (e : Ext w w') => awake_acc e)
  have SU := Lib.hid (sum3 a.size b.size c.size w.heap.size (w.alloc (.cells #[.int .i64 b.size, .int .i64 c.size] 3)) ha hb hc (by rw [(At.new w _ _).cell]; rfl) (by rw [(At.new w _ _).cell]; rfl))
  have E0 := Lib.hid (Ext.alloc w (.cells #[.int .i64 b.size, .int .i64 c.size] 3))
  go_enter Tryd.func7, Tryd.ntmps7
  go_wp2_with fail
  refine (SU.out).mono ?_
  rintro e w1 ⟨⟨R, rfl, hR⟩, rfl⟩
  generalize w.alloc (.cells #[.int .i64 b.size, .int .i64 c.size] 3) = w1 at *
  clear SU
  by_cases h100 : 100 < R
  · have d0 : decide ((100 : Int) < (R : Int)) = true := decide_eq_true (by omega)
    clear hR
    go_wp2_with fail
    refine (AW.out w1 E0.out).mono ?_
    rintro e w2 ⟨rfl, e2⟩
    go_wp2_with fail
    go_ret
    exact ⟨rfl, e2⟩
  have d0 : decide ((100 : Int) < (R : Int)) = false := decide_eq_false (by omega)
  have hsum : a.size + b.size + c.size ≤ 100 := by have := hR (by omega); omega
  clear hR ha hb hc
  by_cases hz : a.size = 0
  · have z0 : ((a.size : Int) == 0) = true := by rw [beq_iff_eq]; omega
    have z1 : (a.size == 0) = true := by rw [beq_iff_eq]; omega
    go_wp2_with fail
    refine (AW.out w1 E0.out).mono ?_
    rintro e w2 ⟨rfl, e2⟩
    go_wp2_with fail
    go_ret
    exact ⟨rfl, e2⟩
  have z0 : ((a.size : Int) == 0) = false := by rw [beq_eq_false_iff_ne]; omega
  have z1 : (a.size == 0) = false := by rw [beq_eq_false_iff_ne]; omega
  go_wp2_with fail
  go_loopw [7, 8] (fun y i wr => InvD a y i ∧ wr = w1) (fun _ i _ => a.size - (intOf i).toNat)
  case atStart => exact ⟨⟨0, by omega, rfl, rfl⟩, rfl⟩
  case round =>
    obtain ⟨⟨k, hk, rfl, rfl⟩, rfl⟩ := hrel
    by_cases hlt : k < a.size
    · have i0 : (0 : Int) ≤ (k : Int) := by omega
      have i1 : (k : Int) < (a.size : Int) := by omega
      have T := Lib.hid (take_has a k hlt)
      cases hd : (a.toList.take k).contains 47 with
      | true =>
        rw [hd] at T
        go_wp2_with fail
        exact ⟨⟨⟨k + 1, by omega, rfl, by rw [T.out]; rfl⟩, by first | rfl | trivial⟩, by simp [intOf]; omega⟩
      | false =>
        rw [hd] at T
        go_wp2_with fail
        exact ⟨⟨⟨k + 1, by omega, rfl, by rw [T.out]; rfl⟩, by first | rfl | trivial⟩, by simp [intOf]; omega⟩
    · obtain rfl : k = a.size := by omega
      have hD : a.toList.take a.size = a.toList := by rw [size_list, List.take_length]
      rw [hD]
      clear hD
      generalize hDD : a.toList.contains 47 = D at *
      go_wp2_with fail
      go_loopw [9, 10] (fun y i w2 => InvPl (b ++ c) y i ∧ w2 = wr) (fun _ i _ => b.size + c.size - (intOf i).toNat)
      case atStart => exact ⟨⟨0, by omega, rfl, rfl⟩, rfl⟩
      case round =>
        obtain ⟨⟨k, hk, rfl, rfl⟩, rfl⟩ := hrel
        have hbc : (b ++ c).size = b.size + c.size := ByteArray.size_append
        by_cases hlt : k < (b ++ c).size
        · have i0 : (0 : Int) ≤ (k : Int) := by omega
          have i1 : (k : Int) < ((b ++ c).size : Int) := by omega
          have i2 : (k : Int) < (b.size : Int) + (c.size : Int) := by omega
          have T := Lib.hid (take_plain (b ++ c) k hlt)
          cases hd : plainB ((b ++ c).toList.take k) with
          | false =>
            rw [hd] at T
            go_wp2_with fail
            exact ⟨⟨⟨k + 1, by omega, rfl, by rw [T.out]; rfl⟩, by first | rfl | trivial⟩, by simp [intOf]; omega⟩
          | true =>
            rw [hd] at T
            cases q42 : ((b ++ c)[k].toNat : Int) != 42 with
            | false =>
              rw [q42] at T
              go_wp2_with fail
              exact ⟨⟨⟨k + 1, by omega, rfl, by rw [T.out]; rfl⟩, by first | rfl | trivial⟩, by simp [intOf]; omega⟩
            | true =>
              rw [q42] at T
              go_wp2_with fail
              exact ⟨⟨⟨k + 1, by omega, rfl, by rw [T.out]; rfl⟩, by first | rfl | trivial⟩, by simp [intOf]; omega⟩
        · obtain rfl : k = (b ++ c).size := by omega
          have hP : (b ++ c).toList.take (b ++ c).size = (b ++ c).toList := by rw [size_list, List.take_length]
          rw [hP]
          clear hP
          cases hPL : plainB (b ++ c).toList with
          | false =>
            go_wp2_with fail
            refine (AW.out wr E0.out).mono ?_
            rintro e w2 ⟨rfl, e2⟩
            go_wp2_with fail
            go_ret
            exact ⟨rfl, e2⟩
          | true =>
            have pl : Plain (b.toList ++ c.toList) := by rw [← tx_app]; exact plainB_iff hPL
            have pb : Plain b.toList := fun x hx => pl x (by simp [hx])
            have pc : Plain c.toList := fun x hx => pl x (by simp [hx])
            have la := size_list a; have lb := size_list b; have lc := size_list c
            have t42 : ∀ l : B, (⟨l.toArray⟩ : ByteArray).toList = l := tl
            have f1 : mB [42, 42] (b ++ a ++ c).toList = true := by
              rw [mB_small (by simp) (by rw [tx_app, tx_app]; simp; omega)]; exact mat_twos _
            have f2 : mB (b ++ ⟨#[42, 42]⟩ ++ c).toList (b ++ a ++ c).toList = true := by
              rw [tx_app, tx_app, tx_app, tx_app, show (⟨#[42, 42]⟩ : ByteArray).toList = [42, 42] from tl [42, 42], mB_small (by simp; omega) (by simp; omega)]
              exact mat_two _ _ _ pb pc
            have f3 : mB [42] a.toList = !D := by
              rw [mB_small (by simp) (by omega), mat_star, hDD]
            have f4 : D = false → mB (b ++ ⟨#[42]⟩ ++ c).toList (b ++ a ++ c).toList = true := by
              intro h
              rw [tx_app, tx_app, tx_app, tx_app, show (⟨#[42]⟩ : ByteArray).toList = [42] from tl [42], mB_small (by simp; omega) (by simp; omega)]
              refine mat_one _ _ _ pb pc fun hm => ?_
              rw [h, ← Bool.not_eq_true] at hDD
              exact hDD (List.elem_iff.2 hm)
            have f5 : mB [63] a.toList = ((a.size : Int) == 1 && !D) := by
              rw [mB_small (by simp) (by omega), mat_quest, hDD, ← la]
              congr 1
              rw [Bool.eq_iff_iff, beq_iff_eq, beq_iff_eq]; omega
            have f6 : mB (b ++ c).toList (b ++ c).toList = true := by
              rw [mB_plain (by rw [tx_app]; exact pl) (by rw [tx_app]; simp; omega) (by rw [tx_app]; simp; omega)]; simp
            have f7 : mB (b ++ c).toList (b ++ a ++ c).toList = false := by
              rw [mB_plain (by rw [tx_app]; exact pl) (by rw [tx_app]; simp; omega) (by rw [tx_app, tx_app]; simp; omega), beq_eq_false_iff_ne]
              intro h
              have := congrArg List.length h
              rw [tx_app, tx_app, tx_app] at this
              simp only [List.length_append] at this; omega
            have F1 := Lib.hid (fun w' : World => match_any ⟨#[42, 42]⟩ (b ++ a ++ c) w')
            have F2 := Lib.hid (fun w' : World => match_any (b ++ ⟨#[42, 42]⟩ ++ c) (b ++ a ++ c) w')
            have F3 := Lib.hid (fun w' : World => match_any ⟨#[42]⟩ a w')
            have F4 := Lib.hid (fun w' : World => match_any (b ++ ⟨#[42]⟩ ++ c) (b ++ a ++ c) w')
            have F5 := Lib.hid (fun w' : World => match_any ⟨#[63]⟩ a w')
            have F6 := Lib.hid (fun w' : World => match_any (b ++ c) (b ++ c) w')
            have F7 := Lib.hid (fun w' : World => match_any (b ++ c) (b ++ a ++ c) w')
            rw [show (⟨#[42, 42]⟩ : ByteArray).toList = [42, 42] from tl [42, 42], f1] at F1
            rw [f2] at F2
            rw [show (⟨#[42]⟩ : ByteArray).toList = [42] from tl [42], f3] at F3
            have hY : mB (b ++ ⟨#[42]⟩ ++ c).toList (b ++ a ++ c).toList = false → D = true := by
              intro h
              cases hd : D with
              | true => rfl
              | false => rw [f4 hd] at h; cases h
            generalize mB (b ++ ⟨#[42]⟩ ++ c).toList (b ++ a ++ c).toList = Y at F4 hY
            have HY := Lib.hid hY
            rw [show (⟨#[63]⟩ : ByteArray).toList = [63] from tl [63], f5] at F5
            rw [f6] at F6
            rw [f7] at F7
            clear f1 f2 f3 f4 f5 f6 f7 hY pl pb pc la lb lc t42 hPL hDD
            have q0 : (a.size == 1) = ((a.size : Int) == 1) := by rw [Bool.eq_iff_iff, beq_iff_eq, beq_iff_eq]; omega
            go_wp2_with fail
            refine (F1.out _).mono ?_
            rintro e v1 ⟨rfl, e1⟩
            have E1 := Lib.hid (E0.out.trans e1)
            clear e1
            go_wp2_with fail
            refine (F2.out _).mono ?_
            rintro e v2 ⟨rfl, e2⟩
            have E2 := Lib.hid (E1.out.trans e2)
            clear e2
            go_wp2_with fail
            refine (F3.out _).mono ?_
            rintro e v3 ⟨rfl, e3⟩
            have E3 := Lib.hid (E2.out.trans e3)
            clear e3
            go_wp2_with fail
            refine (F4.out _).mono ?_
            rintro e v4 ⟨rfl, e4⟩
            have E4 := Lib.hid (E3.out.trans e4)
            clear e4
            cases Y with
            | true =>
              cases h1 : ((a.size : Int) == 1) with
              | true =>
                rw [h1] at F5 q0
                go_wp2_with fail
                refine (F5.out _).mono ?_
                rintro e v5 ⟨rfl, e5⟩
                have E5 := Lib.hid (E4.out.trans e5)
                clear e5
                go_wp2_with fail
                refine (F6.out _).mono ?_
                rintro e v6 ⟨rfl, e6⟩
                have E6 := Lib.hid (E5.out.trans e6)
                clear e6
                go_wp2_with fail
                refine (F7.out _).mono ?_
                rintro e v7 ⟨rfl, e7⟩
                have E7 := Lib.hid (E6.out.trans e7)
                clear e7
                go_wp2_with fail
                refine (AW.out v7 E7.out).mono ?_
                rintro e v9 ⟨rfl, e9⟩
                have E9 := Lib.hid e9
                clear e9
                go_wp2_with fail
                go_ret
                exact ⟨rfl, E9.out⟩
              | false =>
                rw [h1] at F5 q0
                go_wp2_with fail
                refine (F5.out _).mono ?_
                rintro e v5 ⟨rfl, e5⟩
                have E5 := Lib.hid (E4.out.trans e5)
                clear e5
                go_wp2_with fail
                refine (F6.out _).mono ?_
                rintro e v6 ⟨rfl, e6⟩
                have E6 := Lib.hid (E5.out.trans e6)
                clear e6
                go_wp2_with fail
                refine (F7.out _).mono ?_
                rintro e v7 ⟨rfl, e7⟩
                have E7 := Lib.hid (E6.out.trans e7)
                clear e7
                go_wp2_with fail
                refine (AW.out v7 E7.out).mono ?_
                rintro e v9 ⟨rfl, e9⟩
                have E9 := Lib.hid e9
                clear e9
                go_wp2_with fail
                go_ret
                exact ⟨rfl, E9.out⟩
            | false =>
              have hD := HY.out rfl
              subst hD
              cases h1 : ((a.size : Int) == 1) with
              | true =>
                rw [h1] at F5 q0
                go_wp2_with fail
                refine (F5.out _).mono ?_
                rintro e v5 ⟨rfl, e5⟩
                have E5 := Lib.hid (E4.out.trans e5)
                clear e5
                go_wp2_with fail
                refine (F6.out _).mono ?_
                rintro e v6 ⟨rfl, e6⟩
                have E6 := Lib.hid (E5.out.trans e6)
                clear e6
                go_wp2_with fail
                refine (F7.out _).mono ?_
                rintro e v7 ⟨rfl, e7⟩
                have E7 := Lib.hid (E6.out.trans e7)
                clear e7
                go_wp2_with fail
                refine (AW.out v7 E7.out).mono ?_
                rintro e v9 ⟨rfl, e9⟩
                have E9 := Lib.hid e9
                clear e9
                go_wp2_with fail
                go_ret
                exact ⟨rfl, E9.out⟩
              | false =>
                rw [h1] at F5 q0
                go_wp2_with fail
                refine (F5.out _).mono ?_
                rintro e v5 ⟨rfl, e5⟩
                have E5 := Lib.hid (E4.out.trans e5)
                clear e5
                go_wp2_with fail
                refine (F6.out _).mono ?_
                rintro e v6 ⟨rfl, e6⟩
                have E6 := Lib.hid (E5.out.trans e6)
                clear e6
                go_wp2_with fail
                refine (F7.out _).mono ?_
                rintro e v7 ⟨rfl, e7⟩
                have E7 := Lib.hid (E6.out.trans e7)
                clear e7
                go_wp2_with fail
                refine (AW.out v7 E7.out).mono ?_
                rintro e v9 ⟨rfl, e9⟩
                have E9 := Lib.hid e9
                clear e9
                go_wp2_with fail
                go_ret
                exact ⟨rfl, E9.out⟩
end Go.Proofs.YtoompkmncglmoaaDoor
