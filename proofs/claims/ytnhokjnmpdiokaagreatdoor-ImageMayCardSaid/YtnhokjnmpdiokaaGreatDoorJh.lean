/- The law ImageMay. No conditions: a contract. -/
import Derived.Test.YtnhokjnmpdiokaaGreatDoorJkM
import Derived.Test.YtnhokjnmpdiokaaGreatDoorIh
import Derived.Test.YtnhokjnmpdiokaaGreatDoorJg
import Derived.Test.YtnhokjnmpdiokaaGreatDoorJi
namespace Go.Proofs.YtnhokjnmpdiokaaGreatDoor
open Go.RowKit Go.Sha Go.Pth
set_option linter.unusedSimpArgs false
set_option linter.unusedVariables false

set_option maxRecDepth 100000 in
set_option maxHeartbeats 8000000 in
theorem commit_not (ab : Nat) (X : Nat → Prop) (v : Value) (l : List RV) (w : World) (h : RR X w v l) (hl : l.length ≤ 9223372036854775807) (hi : imageL (l.map RV.d) = false) :
    Calls Tryz.prog 12 #[V.ptr ab, v] w fun e w' => e = .returned (.int .i64 1) ∧ Ext w w' := by
  have MY := Lib.hid (may_any X v l w h hl)
  rw [hi] at MY
  obtain ⟨_, _, _, _, hrr⟩ := h
  obtain ⟨adu, capu, eu⟩ : ∃ ad cap, v = .slice ad l.length cap := ⟨_, _, hrr.val⟩
  obtain ⟨NU, hNU⟩ : ∃ n, n = l.length := ⟨_, rfl⟩
  rw [← hNU] at eu
  clear hi hrr hNU hl
  subst eu
  unfold V.ptr
  go_enter Tryz.func12, Tryz.ntmps12
  go_wp2_with fail
  refine (MY.out).mono ?_
  rintro e w1 ⟨rfl, e1⟩
  have F := Lib.hid e1
  clear MY e1
  go_wp2
  go_ret
  exact ⟨rfl, F.out⟩
set_option maxRecDepth 100000 in
set_option maxHeartbeats 16000000 in
theorem law_any (v : Value) (l : List RV) (w : World) (hK : KAt w) (h : RR (fun i => w.heap.size ≤ i) w v l) (hl : l.length ≤ 9223372036854775807) (hpr : ∀ x ∈ l, x.p.size ≤ 9223372036854775807 ∧ x.r.length ≤ 9223372036854775807) (hb : BytR (l.map RV.d)) :
    Calls Tryz.prog 3 #[v] w fun e w' => e = .returned (.bool true) ∧ Ext w w' := by
  have HR := Lib.hid h
  have HK := Lib.hid hK
  have HB := Lib.hid hb
  have HL := Lib.hid hl
  have AR := Lib.hid (arefs_any _ v l w h hl hpr)
  obtain ⟨_, _, _, _, hrr⟩ := h
  obtain ⟨adu, capu, eu⟩ : ∃ ad cap, v = .slice ad l.length cap := ⟨_, _, hrr.val⟩
  obtain ⟨NU, hNU⟩ : ∃ n, n = l.length := ⟨_, rfl⟩
  rw [← hNU] at eu
  clear hrr hNU hl hK hpr hb
  subst eu
  go_enter Tryz.func3, Tryz.ntmps3
  go_wp2_with fail
  refine (AR.out).mono ?_
  rintro e w1 ⟨⟨n, rfl⟩, e1⟩
  have E1 := Lib.hid e1
  clear AR e1
  by_cases h5 : 5000 < n
  · have d5 : decide (5000 < n) = true := decide_eq_true h5
    have AW := Lib.hid (awake_any w1 (HK.out.below E1.out HK.out.lt))
    clear h5
    go_wp2_with fail
    refine (AW.out).mono ?_
    rintro e w2 ⟨rfl, e2⟩
    have F := Lib.hid (E1.out.trans e2)
    clear AW e2
    go_wp2
    go_ret
    exact ⟨rfl, F.out⟩
  · have d5 : decide (5000 < n) = false := decide_eq_false h5
    have RI := Lib.hid (rimage_any _ _ l w1 (HR.out.ext E1.out) HL.out)
    clear h5
    go_wp2_with fail
    refine (RI.out).mono ?_
    rintro e w2 ⟨rfl, e2⟩
    have E2 := Lib.hid (E1.out.trans e2)
    clear RI e2
    have FR := Lib.hid (fresh_any 1048576 w2 (HK.out.below E2.out HK.out.lt) (by omega) (by omega))
    unfold V.ptr at FR
    go_wp2_with fail
    refine (FR.out).mono ?_
    rintro e w3 ⟨sb, ab, rfl, fr⟩
    obtain ⟨d, lv⟩ := Lv.fresh fr
    have L3 := Lib.hid lv
    have E3 := Lib.hid (E2.out.trans lv.e)
    clear FR fr lv
    have MY := Lib.hid (may_any _ _ l w3 (HR.out.ext E3.out) HL.out)
    go_wp2_with fail
    refine (MY.out).mono ?_
    rintro e w4 ⟨rfl, e4⟩
    have L4 := Lib.hid (L3.out.ext e4)
    have E4 := Lib.hid (E3.out.trans e4)
    clear MY e4 L3
    have HK2 := Lib.hid (HK.out.below E2.out HK.out.lt)
    by_cases hi : imageL (l.map RV.d) = true
    · have CM := Lib.hid (L4.out.commit (Or.inr rfl) (by omega) HK2.out ((HR.out.ext E4.out).mono fun i hi => Or.inl (Nat.le_trans E2.out.size hi)) hi HB.out (by omega))
      have HI := Lib.hid hi
      unfold V.ptr at CM
      rw [HI.out]
      clear hi
      go_wp2_with fail
      refine (CM.out).mono ?_
      rintro e w5 ⟨rfl, lv⟩
      have L5 := Lib.hid lv
      have E5 := Lib.hid (E2.out.trans lv.e)
      clear CM lv L4
      have SH := Lib.hid (L5.out.shows HI.out (HR.out.ext E5.out) rfl)
      unfold V.ptr at SH
      go_wp2_with fail
      refine (SH.out).mono ?_
      rintro e w6 ⟨rfl, e6⟩
      have E6 := Lib.hid (E5.out.trans e6)
      have AW := Lib.hid (awake_any w6 (HK.out.below E6.out HK.out.lt))
      clear SH e6
      go_wp2_with fail
      refine (AW.out).mono ?_
      rintro e w7 ⟨rfl, e7⟩
      have F := Lib.hid (E6.out.trans e7)
      clear AW e7
      go_wp2
      go_ret
      exact ⟨rfl, F.out⟩
    · have hi : imageL (l.map RV.d) = false := by simpa using hi
      have CM := Lib.hid (commit_not ab _ _ l w4 (HR.out.ext E4.out) HL.out hi)
      unfold V.ptr at CM
      rw [hi]
      clear hi
      go_wp2_with fail
      refine (CM.out).mono ?_
      rintro e w5 ⟨rfl, e5⟩
      have L5 := Lib.hid (L4.out.ext e5)
      have E5 := Lib.hid (E4.out.trans e5)
      clear CM L4 e5
      have SH := Lib.hid (L5.out.shows (lu := []) (by rfl) (RR.nil (fun _ => False) w5) rfl)
      unfold V.ptr at SH
      go_wp2_with fail
      refine (SH.out).mono ?_
      rintro e w6 ⟨rfl, e6⟩
      have E6 := Lib.hid (E5.out.trans e6)
      have AW := Lib.hid (awake_any w6 (HK.out.below E6.out HK.out.lt))
      clear SH e6
      go_wp2_with fail
      refine (AW.out).mono ?_
      rintro e w7 ⟨rfl, e7⟩
      have F := Lib.hid (E6.out.trans e7)
      clear AW e7
      go_wp2
      go_ret
      exact ⟨rfl, F.out⟩
end Go.Proofs.YtnhokjnmpdiokaaGreatDoor
