/- The contracts of path's Under, Less. -/
import Derived.Test.YtbneedmfpldpfaaDoorWd
namespace Go.Proofs.YtbneedmfpldpfaaDoor
open Go.RowKit Go.Pth

theorem parts_len (l : B) : (parts l).length ≤ 61 := by
  unfold parts
  split
  · rename_i h
    have h1 := valid_len h
    have h2 := cut_len l
    omega
  · simp
set_option maxHeartbeats 1000000 in
theorem under_any (s d : ByteArray) (w : World) : Calls Tryd.prog 41 #[.string s, .string d] w fun e w' => e = .returned (.bool (under s.toList d.toList)) ∧ Ext w w' := by
  cases hc : d.toList == [] with
  | true =>
    have R := Lib.hid (show under s.toList d.toList = valid s.toList by rw [eq_of_beq hc]; exact under_root _)
    go_enter Tryd.func41, Tryd.ntmps41
    go_wp2_with fail
    refine (valid_any s w).mono ?_
    rintro e w1 ⟨rfl, e1⟩
    go_wp2
    go_ret
    exact ⟨retb R.out.symm, e1⟩
  | false =>
    have hd : d.toList ≠ [] := by simpa using hc
    have R := Lib.hid (under_parts s.toList d.toList hd)
    clear hd
    go_enter Tryd.func41, Tryd.ntmps41
    go_wp2_with fail
    refine (parts_any s w).mono ?_
    rintro e w1 ⟨va, rfl, ta, e1⟩
    have TA := Lib.hid ta; clear ta
    go_wp2_with fail
    refine (parts_any d w1).mono ?_
    rintro e w2 ⟨vb, rfl, tb, e2⟩
    have TB := Lib.hid tb; clear tb
    have TA2 := Lib.hid (TA.out.ext e2)
    have al := Lib.hid (alike_any va vb _ _ w2 TA2.out TB.out (Nat.le_trans (parts_len _) (by omega)) (Nat.le_trans (parts_len _) (by omega)))
    have l1 := parts_len s.toList
    have l2 := parts_len d.toList
    clear TA
    obtain ⟨ada, capa, ba, ea, _⟩ := TA2.out
    obtain ⟨adb, capb, bb, eb, _⟩ := TB.out
    subst ea eb
    generalize parts s.toList = x at *
    generalize parts d.toList = y at *
    clear TA2 TB
    obtain ⟨L, hL⟩ : ∃ L, L = x.length := ⟨_, rfl⟩
    obtain ⟨M, hM⟩ : ∃ M, M = y.length := ⟨_, rfl⟩
    rw [← hL] at R al l1 ⊢
    rw [← hM] at R al l2 ⊢
    clear hL hM
    by_cases h0 : 0 < M
    · have r0 : decide (0 < M) = true := decide_eq_true h0
      by_cases h1 : M < L
      · have r1 : decide (M < L) = true := decide_eq_true h1
        rw [r0, r1] at R
        have t0 : (0 : Int) < (M : Int) := by omega
        have t1 : (M : Int) < (L : Int) := by omega
        go_wp2_with fail
        refine (al.out).mono ?_
        rintro e w3 ⟨rfl, rfl⟩
        generalize com x y = N at *
        clear al
        go_wp2
        go_ret
        refine ⟨retb ?_, e1.trans e2⟩
        rw [R.out, Bool.eq_iff_iff]
        simp
        try omega
      · have r1 : decide (M < L) = false := decide_eq_false h1
        have t0 : (0 : Int) < (M : Int) := by omega
        have r : under s.toList d.toList = false := by rw [R.out, r1]; simp
        have RR := Lib.hid r
        clear R r al
        have t1 : decide ((M : Int) < (L : Int)) = false := decide_eq_false (by omega)
        clear h1
        go_wp2
        go_ret
        exact ⟨retb RR.out.symm, e1.trans e2⟩
    · obtain rfl : M = 0 := by omega
      have r : under s.toList d.toList = false := by rw [R.out]; simp
      have RR := Lib.hid r
      clear R r al h0
      go_wp2
      go_ret
      exact ⟨retb RR.out.symm, e1.trans e2⟩
set_option maxHeartbeats 1000000 in
theorem less_any (a b : ByteArray) (w : World) : Calls Tryd.prog 69 #[.string a, .string b] w fun e w' => e = .returned (.bool (less a.toList b.toList)) ∧ Ext w w' := by
  go_enter Tryd.func69, Tryd.ntmps69
  go_wp2_with fail
  refine (valid_any a w).mono ?_
  rintro e w1 ⟨rfl, e1⟩
  go_wp2_with fail
  refine (valid_any b w1).mono ?_
  rintro e w2 ⟨rfl, e2⟩
  have ra : valid a.toList = true → parts a.toList = cut a.toList := fun h => by unfold parts; rw [h]; rfl
  have rb : valid b.toList = true → parts b.toList = cut b.toList := fun h => by unfold parts; rw [h]; rfl
  have RA := Lib.hid ra; have RB := Lib.hid rb
  have R := Lib.hid (show less a.toList b.toList = if valid a.toList != valid b.toList then valid a.toList else if valid a.toList then ltP (cut a.toList) (cut b.toList) else ltB a.toList b.toList from rfl)
  have q := bytesLess_ltB a.toList b.toList
  clear ra rb
  cases ha : valid a.toList with
  | false =>
    rw [ha] at R RA
    cases hb : valid b.toList with
    | false =>
      rw [hb] at R RB
      go_wp2
      go_ret
      exact ⟨retb R.out.symm, e1.trans e2⟩
    | true =>
      rw [hb] at R RB
      go_wp2
      go_ret
      exact ⟨retb R.out.symm, e1.trans e2⟩
  | true =>
    rw [ha] at R RA
    cases hb : valid b.toList with
    | false =>
      rw [hb] at R RB
      go_wp2
      go_ret
      exact ⟨retb R.out.symm, e1.trans e2⟩
    | true =>
      rw [hb] at R RB
      go_wp2_with fail
      refine (parts_any a w2).mono ?_
      rintro e w3 ⟨va, rfl, ta, e3⟩
      have TA := Lib.hid ta; clear ta
      go_wp2_with fail
      refine (parts_any b w3).mono ?_
      rintro e w4 ⟨vb, rfl, tb, e4⟩
      have TB := Lib.hid tb; clear tb
      have TA2 := Lib.hid (TA.out.ext e4)
      go_wp2_with fail
      refine (lessParts_any va vb _ _ w4 TA2.out TB.out (Nat.le_trans (parts_len _) (by omega)) (Nat.le_trans (parts_len _) (by omega))).mono ?_
      rintro e w5 ⟨rfl, e5⟩
      go_wp2
      go_ret
      refine ⟨retb ?_, (((e1.trans e2).trans e3).trans e4).trans e5⟩
      rw [RA.out trivial, RB.out trivial]; exact R.out.symm
end Go.Proofs.YtbneedmfpldpfaaDoor
