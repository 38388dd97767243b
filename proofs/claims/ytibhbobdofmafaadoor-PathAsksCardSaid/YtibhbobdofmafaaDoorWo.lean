/- The contracts of Texts, and of the document's own Less. -/
import Derived.Test.YtibhbobdofmafaaDoorWn
namespace Go.Proofs.YtibhbobdofmafaaDoor
open Go.RowKit Go.Pth

def InvX (x y : List B) (w : World) (i : Value) (wr : World) : Prop := ∃ k : Nat, k ≤ com x y ∧ i = .int .i64 k ∧ Ext w wr
theorem com_eq (x y : List B) (h : x.length = y.length) (hc : com x y = x.length) : x = y := by
  rw [h] at hc
  exact ((com_all x y).1 hc).eq_of_length (by rw [h]) |>.symm
set_option maxHeartbeats 1000000 in
/-- Two alike lists. -/
theorem texts_same (va vb : Value) (x : List B) (w : World) (hx : Txt w va x) (hy : Txt w vb x) (lx : x.length ≤ 100) :
    Calls Tryd.prog 18 #[va, vb] w fun e w' => e = .returned (.bool true) ∧ Ext w w' := by
  obtain ⟨ada, capa, ba, rfl, xa, xc⟩ := hx
  obtain ⟨adb, capb, bb, rfl, ya, yc⟩ := hy
  obtain ⟨L, hL⟩ : ∃ L, L = x.length := ⟨_, rfl⟩
  rw [← hL] at xa xc ya yc lx ⊢
  have XA := Lib.hid xa; have XC := Lib.hid xc; have YA := Lib.hid ya; have YC := Lib.hid yc
  clear xa xc ya yc hL
  go_enter Tryd.func18, Tryd.ntmps18
  go_wp2
  go_loopw [5] (fun i wr => ∃ k : Nat, k ≤ L ∧ i = .int .i64 k ∧ Ext w wr) (fun i _ => L - (intOf i).toNat)
  case atStart => exact ⟨0, by omega, rfl, Ext.refl _⟩
  case round =>
    obtain ⟨k, hk, rfl, he⟩ := hrel
    by_cases hlt : k < L
    · have i0 : (0 : Int) ≤ (k : Int) := by omega
      have i1 : (k : Int) < (L : Int) := by omega
      have e1 := XA.out (by omega)
      subst e1
      have e2 := YA.out (by omega)
      subst e2
      have c1 := he.cell (XC.out k hlt)
      have c2 := he.cell (YC.out k hlt)
      generalize tx (x[k]?.getD []) = z at c1 c2
      have q : (z.toList == z.toList) = true := by simp
      have HE := Lib.hid he
      clear he
      go_wp2_with fail
      go_quiet (fail)
      go_wp2
      refine ⟨⟨k + 1, by omega, rfl, HE.out.trans ?_⟩, by simp [intOf]; omega⟩
      first | exact Ext.refl _ | exact Ext.drew _ | exact Ext.drewN _ _
    · obtain rfl : k = L := by omega
      clear hlt
      go_wp2
      go_ret
      exact ⟨rfl, he⟩

theorem ltP_min (x y : List B) (k : Nat) (h : k ≤ com x y) (hk : k = x.length ∨ k = y.length) : ltP x y = decide (x.length < y.length) := by
  have hc := com_le x y
  have hn : com x y = k := by omega
  have he := ltP_end x y (com x y) rfl
  by_cases h1 : com x y = y.length
  · rw [he.1 h1]
    exact (decide_eq_false (by omega)).symm
  · rw [he.2 h1 (by omega)]
    exact (decide_eq_true (by omega)).symm
set_option maxHeartbeats 4000000 in
theorem rless_any (a b : ByteArray) (w : World) : Calls Tryd.prog 24 #[.string a, .string b] w fun e w' => e = .returned (.bool (less a.toList b.toList)) ∧ Ext w w' := by
  have hsa := Lib.hid (size_list a)
  have hsb := Lib.hid (size_list b)
  go_enter Tryd.func24, Tryd.ntmps24
  go_wp2_with fail
  refine (rvalid_any a w).mono ?_
  rintro e w1 ⟨rfl, e1⟩
  go_wp2_with fail
  refine (rvalid_any b w1).mono ?_
  rintro e w2 ⟨rfl, e2⟩
  have R := Lib.hid (show less a.toList b.toList = if valid a.toList != valid b.toList then valid a.toList else if valid a.toList then ltP (cut a.toList) (cut b.toList) else ltB a.toList b.toList from rfl)
  have q := bytesLess_ltB a.toList b.toList
  have E2 := Lib.hid (e1.trans e2)
  clear e1 e2
  cases ha : valid a.toList with
  | false =>
    rw [ha] at R
    cases hb : valid b.toList with
    | false =>
      rw [hb] at R
      go_wp2_with fail
      refine (rvalid_any a w2).mono ?_
      rintro e w3 ⟨rfl, e3⟩
      rw [ha]
      go_wp2
      go_ret
      exact ⟨retb R.out.symm, E2.out.trans e3⟩
    | true =>
      rw [hb] at R
      go_wp2_with fail
      refine (rvalid_any a w2).mono ?_
      rintro e w3 ⟨rfl, e3⟩
      rw [ha]
      go_wp2
      go_ret
      exact ⟨retb R.out.symm, E2.out.trans e3⟩
  | true =>
    rw [ha] at R
    have la := valid_len ha
    rw [← hsa.out] at la
    cases hb : valid b.toList with
    | false =>
      rw [hb] at R
      go_wp2_with fail
      refine (rvalid_any a w2).mono ?_
      rintro e w3 ⟨rfl, e3⟩
      rw [ha]
      go_wp2
      go_ret
      exact ⟨retb R.out.symm, E2.out.trans e3⟩
    | true =>
      rw [hb] at R
      have lb := valid_len hb
      rw [← hsb.out] at lb
      have RR := Lib.hid (show less a.toList b.toList = ltP (cut a.toList) (cut b.toList) from R.out)
      go_wp2_with fail
      refine (rvalid_any a w2).mono ?_
      rintro e w3 ⟨rfl, e3⟩
      rw [ha]
      go_wp2_with fail
      refine (rparts_any a la w3).mono ?_
      rintro e w4 ⟨va, rfl, ta, e4⟩
      have TA := Lib.hid ta; clear ta
      go_wp2_with fail
      refine (rparts_any b lb w4).mono ?_
      rintro e w5 ⟨vb, rfl, tb, e5⟩
      have TA2 := TA.out.ext e5
      have E5 := Lib.hid (((E2.out.trans e3).trans e4).trans e5)
      have l1 := cut_len a.toList
      have l2 := cut_len b.toList
      rw [← hsa.out] at l1
      rw [← hsb.out] at l2
      clear TA e3 e4 e5 E2 R
      obtain ⟨ada, capa, ba, rfl, xa, xc⟩ := TA2
      obtain ⟨adb, capb, bb, rfl, ya, yc⟩ := tb
      generalize cut a.toList = x at *
      generalize cut b.toList = y at *
      have PM := Lib.hid (ltP_min x y)
      have PA := Lib.hid (ltP_at x y)
      have CS := Lib.hid (com_step x y)
      have cle := Lib.hid (com_le x y)
      obtain ⟨L, hL⟩ : ∃ L, L = x.length := ⟨_, rfl⟩
      obtain ⟨M, hM⟩ : ∃ M, M = y.length := ⟨_, rfl⟩
      have HL := Lib.hid hL; have HM := Lib.hid hM
      rw [← hL] at xa xc l1 PM PA cle ⊢
      rw [← hM] at ya yc l2 PM PA cle ⊢
      have XA := Lib.hid xa; have XC := Lib.hid xc; have YA := Lib.hid ya; have YC := Lib.hid yc
      have l61 : L ≤ 61 := by omega
      have m61 : M ≤ 61 := by omega
      clear xa xc ya yc hL hM l1 l2 la lb q
      go_wp2
      go_loopw [7] (fun i wr => InvX x y w5 i wr) (fun i _ => L - (intOf i).toNat)
      case atStart => exact ⟨0, by omega, rfl, Ext.refl _⟩
      case round =>
        obtain ⟨k, hk, rfl, he⟩ := hrel
        have Hk := Lib.hid hk
        have hkl : k ≤ L := by have := cle.out; omega
        have hkm : k ≤ M := by have := cle.out; omega
        have HE := Lib.hid he
        clear hk
        by_cases hlt : k < L
        · have t1 : (k : Int) < (L : Int) := by omega
          have i0 : (0 : Int) ≤ (k : Int) := by omega
          by_cases hmt : k < M
          · have t2 : (k : Int) < (M : Int) := by omega
            have e1 := XA.out (by omega)
            subst e1
            have e2 := YA.out (by omega)
            subst e2
            have c1 := he.cell (XC.out k hlt)
            have c2 := he.cell (YC.out k hmt)
            have gx : x[k]? = some (x[k]?.getD []) := by rw [List.getElem?_eq_getElem (by rw [← HL.out]; exact hlt)]; rfl
            have gy : y[k]? = some (y[k]?.getD []) := by rw [List.getElem?_eq_getElem (by rw [← HM.out]; exact hmt)]; rfl
            have GX := Lib.hid gx; have GY := Lib.hid gy
            have q := tx_beq (x[k]?.getD []) (y[k]?.getD [])
            have q2 := Lib.hid (tx_less (x[k]?.getD []) (y[k]?.getD []))
            clear gx gy he
            cases hq : (x[k]?.getD []) == (y[k]?.getD []) with
            | true =>
              have HC := Lib.hid ((CS.out k Hk.out).2 ⟨_, GX.out, by rw [eq_of_beq hq]; exact GY.out⟩)
              rw [hq] at q
              clear hq GX GY PA PM CS
              generalize tx (x[k]?.getD []) = zx at *
              generalize tx (y[k]?.getD []) = zy at *
              go_wp2_with fail
              go_quiet (fail)
              go_wp2
              refine ⟨⟨k + 1, HC.out, rfl, HE.out.trans ?_⟩, by simp [intOf]; omega⟩
              first | exact Ext.refl _ | exact Ext.drew _ | exact Ext.drewN _ _
            | false =>
              have hc : com x y = k := by
                have : ¬ k < com x y := fun h => by
                  obtain ⟨z, h1, h2⟩ := (CS.out k Hk.out).1 h
                  rw [h1, h2] at hq
                  simp at hq
                have := Hk.out
                omega
              have HR := Lib.hid (PA.out k hc.symm (by omega) (by omega))
              rw [hq] at q
              rw [← q2.out] at HR
              clear hq GX GY PA PM CS hc q2
              generalize tx (x[k]?.getD []) = zx at *
              generalize tx (y[k]?.getD []) = zy at *
              go_wp2_with fail
              go_quiet (fail)
              go_wp2_with fail
              go_quiet (fail)
              go_wp2
              go_ret
              refine ⟨retb ?_, (E5.out.trans HE.out).trans ?_⟩
              · rw [RR.out, HR.out]
              · first | exact Ext.refl _ | exact Ext.drew _ | exact Ext.drewN _ _ | exact (Ext.drewN _ _).trans (Ext.drewN _ _) | exact (Ext.drew _).trans (Ext.drew _)
          · have t2 : decide (k < M) = false := decide_eq_false hmt
            have t3 : decide ((k : Int) < (M : Int)) = false := decide_eq_false (by omega)
            have HR := Lib.hid (PM.out k Hk.out (Or.inr (by omega)))
            clear hmt PA PM CS
            go_wp2
            go_ret
            refine ⟨retb ?_, E5.out.trans he⟩
            rw [RR.out, HR.out]
        · have t2 : decide (k < L) = false := decide_eq_false hlt
          have t3 : decide ((k : Int) < (L : Int)) = false := decide_eq_false (by omega)
          have HR := Lib.hid (PM.out k Hk.out (Or.inl (by omega)))
          clear hlt PA PM CS
          go_wp2
          go_ret
          refine ⟨retb ?_, E5.out.trans he⟩
          rw [RR.out, HR.out]
end Go.Proofs.YtibhbobdofmafaaDoor
