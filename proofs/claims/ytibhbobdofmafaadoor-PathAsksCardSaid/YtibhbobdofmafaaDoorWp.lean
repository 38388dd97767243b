/- The walk of PathAsks. -/
import Derived.Test.YtibhbobdofmafaaDoorWo
namespace Go.Proofs.YtibhbobdofmafaaDoor
open Go.RowKit Go.Pth

set_option maxHeartbeats 4000000 in
theorem asks_any (a b : ByteArray) (w : World) (ha : a.size ≤ 9223372036854775807) (hb : b.size ≤ 9223372036854775807) :
    Calls Tryd.prog 3 #[.string a, .string b] w fun e w' => e = .returned (.bool true) ∧ Ext w w' := by
  have C := Lib.hid (cells1 w (.int .i64 (b.size : Int)))
  have hE := Ext.alloc w (.cells #[.int .i64 (b.size : Int)] 3)
  go_enter Tryd.func3, Tryd.ntmps3
  go_wp2_with fail
  refine (sum2 a.size b.size w.heap.size _ ha hb C.out).mono ?_
  rintro e w1 ⟨⟨R, rfl, hS⟩, rfl⟩
  clear C
  by_cases hR : 500 < R
  · have d : decide ((500 : Int) < (R : Int)) = true := decide_eq_true (by omega)
    clear hS
    go_wp2_with fail
    refine (awake_acc hE).mono ?_
    rintro e w2 ⟨rfl, hE⟩
    go_wp2
    go_ret
    exact ⟨rfl, hE⟩
  have d : decide ((500 : Int) < (R : Int)) = false := decide_eq_false (by omega)
  have hs := hS (by omega)
  have sa := Lib.hid (show a.size ≤ 1000000 by omega)
  have sb := Lib.hid (show b.size ≤ 1000000 by omega)
  clear hS hR hs
  go_wp2_with fail
  refine (valid_any a _).mono ?_
  rintro e x2 ⟨rfl, f2⟩
  have hE := hE.trans f2
  go_wp2_with fail
  refine (rvalid_any a _).mono ?_
  rintro e x3 ⟨rfl, f3⟩
  have hE := hE.trans f3
  generalize valid a.toList = z1
  have q3 : (z1 == z1) = true := by simp
  go_wp2_with fail
  refine (hidden_any a _).mono ?_
  rintro e x4 ⟨rfl, f4⟩
  have hE := hE.trans f4
  go_wp2_with fail
  refine (rhidden_any a _).mono ?_
  rintro e x5 ⟨rfl, f5⟩
  have hE := hE.trans f5
  generalize hidden a.toList = z2
  have q5 : (z2 == z2) = true := by simp
  go_wp2_with fail
  refine (parent_any a _).mono ?_
  rintro e x6 ⟨rfl, f6⟩
  have hE := hE.trans f6
  go_wp2_with fail
  refine (rparent_any a _).mono ?_
  rintro e x7 ⟨rfl, f7⟩
  have hE := hE.trans f7
  generalize tx (parent a.toList) = z3
  have q7 : (z3.toList == z3.toList) = true := by simp
  go_wp2_with fail
  refine (name_any a _).mono ?_
  rintro e x8 ⟨rfl, f8⟩
  have hE := hE.trans f8
  go_wp2_with fail
  refine (rname_any a _).mono ?_
  rintro e x9 ⟨rfl, f9⟩
  have hE := hE.trans f9
  generalize tx (name a.toList) = z4
  have q9 : (z4.toList == z4.toList) = true := by simp
  go_wp2_with fail
  refine (parts_any a _).mono ?_
  rintro e y1 ⟨va, rfl, ta, g1⟩
  have hE := hE.trans g1
  have TA := Lib.hid ta; clear ta
  go_wp2_with fail
  refine (rparts2_any a _).mono ?_
  rintro e y2 ⟨vb, rfl, tb, g2⟩
  have hE := hE.trans g2
  have TB := Lib.hid tb; clear tb
  have TA2 := Lib.hid (TA.out.ext g2)
  clear TA
  go_wp2_with fail
  refine (texts_same va vb _ _ TA2.out TB.out (Nat.le_trans (parts_len _) (by omega))).mono ?_
  rintro e y3 ⟨rfl, g3⟩
  have hE := hE.trans g3
  clear TA2 TB
  go_wp2_with fail
  refine (under_any a b _).mono ?_
  rintro e x10 ⟨rfl, f10⟩
  have hE := hE.trans f10
  go_wp2_with fail
  refine (runder_any a b _).mono ?_
  rintro e x11 ⟨rfl, f11⟩
  have hE := hE.trans f11
  generalize under a.toList b.toList = z5
  have q11 : (z5 == z5) = true := by simp
  go_wp2_with fail
  refine (less_any a b _).mono ?_
  rintro e x12 ⟨rfl, f12⟩
  have hE := hE.trans f12
  go_wp2_with fail
  refine (rless_any a b _).mono ?_
  rintro e x13 ⟨rfl, f13⟩
  have hE := hE.trans f13
  generalize less a.toList b.toList = z6
  have q13 : (z6 == z6) = true := by simp
  go_wp2_with fail
  refine (join_any a b sa.out sb.out _).mono ?_
  rintro e x14 ⟨rfl, f14⟩
  have hE := hE.trans f14
  go_wp2_with fail
  refine (rjoin_any a b sa.out sb.out _).mono ?_
  rintro e x15 ⟨rfl, f15⟩
  have hE := hE.trans f15
  generalize tx (join a.toList b.toList) = z7
  have q15 : (z7.toList == z7.toList) = true := by simp
  go_wp2_with fail
  refine (awake_acc hE).mono ?_
  rintro e w9 ⟨rfl, hE⟩
  go_wp2
  go_ret
  exact ⟨rfl, hE⟩
end Go.Proofs.YtibhbobdofmafaaDoor
