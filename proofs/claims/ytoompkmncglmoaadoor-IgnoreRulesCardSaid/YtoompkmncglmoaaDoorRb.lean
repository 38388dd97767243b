/- The contract of the document's own Valid. -/
import Derived.Test.YtoompkmncglmoaaDoorRa
import Derived.Deep.CutRange
namespace Go.Proofs.YtoompkmncglmoaaDoor
open Go.RowKit Go.Pth

set_option maxHeartbeats 4000000 in
theorem rvalid_any (s : ByteArray) (w : World) : Calls Tryd.prog 21 #[.string s] w fun e w' => e = .returned (.bool (valid s.toList)) ∧ Ext w w' := by
  have hsz := Lib.hid (size_list s)
  by_cases h0 : s.size < 1
  · have c0 : decide ((s.size : Int) < 1) = true := decide_eq_true (by omega)
    have r : valid s.toList = false := by
      have : s.toList = [] := List.length_eq_zero_iff.1 (by rw [← hsz.out]; omega)
      rw [this]; exact valid_nil
    have R := Lib.hid r
    clear h0 r
    go_enter Tryd.func21, Tryd.ntmps21
    go_wp2
    go_ret
    exact ⟨retb R.out.symm, Ext.refl w⟩
  have c0 : decide ((s.size : Int) < 1) = false := decide_eq_false (by omega)
  by_cases h1 : 60 < s.size
  · have c1 : decide ((60 : Int) < (s.size : Int)) = true := decide_eq_true (by omega)
    have R := Lib.hid (show valid s.toList = false by unfold valid; rw [decide_eq_false (by rw [← hsz.out]; omega)]; rfl)
    clear h0 h1
    go_enter Tryd.func21, Tryd.ntmps21
    go_wp2
    go_ret
    exact ⟨retb R.out.symm, Ext.refl w⟩
  have c1 : decide ((60 : Int) < (s.size : Int)) = false := decide_eq_false (by omega)
  have R := Lib.hid (show valid s.toList = (cut s.toList).all okPart by unfold valid; rw [decide_eq_true (by rw [← hsz.out]; omega)]; rfl)
  have hn := cut_len s.toList
  rw [← hsz.out] at hn
  have hs60 : s.size ≤ 60 := by omega
  clear h0 h1
  go_enter Tryd.func21, Tryd.ntmps21
  go_wp2_with fail
  refine (rparts_any s hs60 w).mono ?_
  rintro e w1 ⟨v, rfl, tv, e1⟩
  obtain ⟨ad, cap, b, rfl, x2, x3⟩ := tv
  generalize cut s.toList = c at *
  obtain ⟨n, hN⟩ : ∃ n, n = c.length := ⟨_, rfl⟩
  rw [← hN] at hn x2 x3 ⊢
  have HN := Lib.hid hN
  have X2 := Lib.hid x2; have X3 := Lib.hid x3
  have n61 : n ≤ 61 := by omega
  have EE := Lib.hid e1
  clear hN x2 x3 hn e1 c0 c1
  go_wp2
  go_loop [4] (fun i => InvV c n i) (fun i => n - (intOf i).toNat)
  case atStart => exact ⟨0, by omega, rfl, rfl⟩
  case round =>
    obtain ⟨k, hk, rfl, hall⟩ := hrel
    have Hall := Lib.hid hall; clear hall
    by_cases hlt : k < n
    · have i0 : (0 : Int) ≤ (k : Int) := by omega
      have i1 : (k : Int) < (n : Int) := by omega
      have e2 := X2.out (by omega)
      subst e2
      have cl := X3.out k hlt
      have hl : k < c.length := by rw [← HN.out]; exact hlt
      have st := allp_take c k hl
      rw [Hall.out] at st
      have St := Lib.hid st; clear st
      have Hn := Lib.hid (allp_not c k hl)
      have TL := tx_list (c[k]?.getD [])
      have TS := Lib.hid (size_list (tx (c[k]?.getD [])))
      generalize hp : tx (c[k]?.getD []) = p at *
      rw [← TL] at St Hn
      clear hl hp TL Hall
      by_cases h0 : p.size < 1
      · have d0 : decide ((p.size : Int) < 1) = true := decide_eq_true (by omega)
        have ok : okPart p.toList = false := by unfold okPart; rw [decide_eq_false (by rw [← TS.out]; omega)]; rfl
        have RR := Lib.hid (Hn.out ok)
        clear h0 ok St Hn
        go_wp2
        go_ret
        exact ⟨retb (by rw [R.out, RR.out]), EE.out⟩
      have d0 : decide ((p.size : Int) < 1) = false := decide_eq_false (by omega)
      by_cases h1 : 20 < p.size
      · have d1 : decide ((20 : Int) < (p.size : Int)) = true := decide_eq_true (by omega)
        have ok : okPart p.toList = false := by unfold okPart; rw [decide_eq_false (p := p.toList.length ≤ 20) (by rw [← TS.out]; omega)]; simp
        have RR := Lib.hid (Hn.out ok)
        clear h0 h1 ok St Hn
        go_wp2
        go_ret
        exact ⟨retb (by rw [R.out, RR.out]), EE.out⟩
      have d1 : decide ((20 : Int) < (p.size : Int)) = false := decide_eq_false (by omega)
      cases d2 : p.toList == [46] with
      | true =>
        have ok : okPart p.toList = false := by unfold okPart; rw [d2]; simp
        have RR := Lib.hid (Hn.out ok)
        clear h0 h1 ok St Hn
        go_wp2
        go_ret
        exact ⟨retb (by rw [R.out, RR.out]), EE.out⟩
      | false =>
        cases d3 : p.toList == [46, 46] with
        | true =>
          have ok : okPart p.toList = false := by unfold okPart; rw [d3]; simp
          have RR := Lib.hid (Hn.out ok)
          clear h0 h1 ok St Hn
          go_wp2
          go_ret
          exact ⟨retb (by rw [R.out, RR.out]), EE.out⟩
        | false =>
          have OK := Lib.hid (show okPart p.toList = p.toList.all okByte by
            unfold okPart; rw [d2, d3, decide_eq_true (by rw [← TS.out]; omega), decide_eq_true (p := p.toList.length ≤ 20) (by rw [← TS.out]; omega)]; rfl)
          have hb : p.size ≤ 20 := by omega
          clear h0 h1
          go_wp2
          go_loop [6] (fun i => InvP p i) (fun i => p.size - (intOf i).toNat)
          case atStart => exact ⟨0, by omega, rfl, rfl⟩
          case round =>
            obtain ⟨m, hm, rfl, hma⟩ := hrel
            have Hma := Lib.hid hma; clear hma
            by_cases hml : m < p.size
            · have j0 : (0 : Int) ≤ (m : Int) := by omega
              have j1 : (m : Int) < (p.size : Int) := by omega
              have Hg := Lib.hid (tx_get p m hml)
              have hl : m < p.toList.length := by rw [← TS.out]; exact hml
              have st2 := all_take p.toList m hl
              rw [Hma.out, Hg.out] at st2
              have St2 := Lib.hid st2; clear st2
              have Hn2 := Lib.hid (all_not p.toList m hl)
              rw [Hg.out] at Hn2
              clear hl
              go_upto_region 14 with fail
              go_cut [78] from 44 to 78 (fun s78 wx => s78 = .bool (!okN (p[m]).toNat) ∧ w1 = wx)
              case first =>
                clear St2 Hn2 Hg St Hn X3 cl
                by_cases h46 : (p[m]).toNat = 46
                · have e46 : (((p[m]).toNat : Int) == 46) = true := by simp; omega
                  have f46 : (((p[m]).toNat : Int) != 46) = false := by simp; omega
                  have r := Lib.hid (show okN (p[m]).toNat = true by rw [h46]; rfl)
                  have a1 : decide (((p[m]).toNat : Int) < 97) = true := decide_eq_true (by omega)
                  have a2 : decide (((p[m]).toNat : Int) < 48) = true := decide_eq_true (by omega)
                  clear h46
                  go_wp2
                  go_meet
                  exact ⟨by rw [r.out]; rfl, rfl⟩
                · have e46 : (((p[m]).toNat : Int) == 46) = false := by simp; omega
                  have f46 : (((p[m]).toNat : Int) != 46) = true := by simp; omega
                  by_cases h45 : (p[m]).toNat = 45
                  · have e45 : (((p[m]).toNat : Int) == 45) = true := by simp; omega
                    have f45 : (((p[m]).toNat : Int) != 45) = false := by simp; omega
                    have r := Lib.hid (show okN (p[m]).toNat = true by rw [h45]; rfl)
                    have a1 : decide (((p[m]).toNat : Int) < 97) = true := decide_eq_true (by omega)
                    have a2 : decide (((p[m]).toNat : Int) < 48) = true := decide_eq_true (by omega)
                    clear h46 h45
                    go_wp2
                    go_meet
                    exact ⟨by rw [r.out]; rfl, rfl⟩
                  · have e45 : (((p[m]).toNat : Int) == 45) = false := by simp; omega
                    have f45 : (((p[m]).toNat : Int) != 45) = true := by simp; omega
                    have r := Lib.hid (show okN (p[m]).toNat = ((decide (97 ≤ (p[m]).toNat) && decide ((p[m]).toNat ≤ 122)) || (decide (48 ≤ (p[m]).toNat) && decide ((p[m]).toNat ≤ 57)) || (p[m]).toNat == 95) by
                      unfold okN
                      have x1 : ((p[m]).toNat == 46) = false := by simpa using h46
                      have x2 : ((p[m]).toNat == 45) = false := by simpa using h45
                      rw [x1, x2]; simp)
                    clear h46 h45
                    go_wp2
                    all_goals
                      go_meet
                      refine ⟨congrArg Value.bool ?_, rfl⟩
                      rw [r.out, Bool.eq_iff_iff]
                      simp only [Bool.or_eq_true, Bool.and_eq_true, Bool.not_eq_true', Bool.or_eq_false_iff, Bool.and_eq_false_iff, decide_eq_true_eq, decide_eq_false_iff_not, beq_eq_false_iff_ne, bne_iff_ne, ne_eq, false_iff, Bool.false_eq_true]
                      omega
              case rest =>
                obtain ⟨rfl, rfl⟩ := hcut
                cases ho : okN (p[m]).toNat with
                | false =>
                  have RR := Lib.hid (Hn.out (by rw [OK.out]; exact Hn2.out ho))
                  clear St2 Hn2 Hn St
                  go_wp2
                  go_ret
                  exact ⟨retb (by rw [R.out, RR.out]), EE.out⟩
                | true =>
                  go_wp2
                  refine ⟨⟨m + 1, by omega, rfl, ?_⟩, by simp [intOf]; omega⟩
                  rw [St2.out]; exact ho
            · obtain rfl : m = p.size := by omega
              clear hml
              have hfull : okPart p.toList = true := by rw [OK.out, ← Hma.out, TS.out, List.take_length]
              have HF := Lib.hid hfull
              clear hfull
              go_wp2
              refine ⟨⟨k + 1, by omega, rfl, ?_⟩, by simp [intOf]; omega⟩
              rw [St.out, HF.out]; rfl
    · obtain rfl : k = n := by omega
      clear hlt
      go_wp2
      go_ret
      refine ⟨retb ?_, EE.out⟩
      rw [R.out, ← Hall.out, HN.out, List.take_length]
end Go.Proofs.YtoompkmncglmoaaDoor
