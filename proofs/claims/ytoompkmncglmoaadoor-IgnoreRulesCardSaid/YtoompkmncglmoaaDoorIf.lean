/- The contract of the document's own Match: the walk by sets of places. -/
import Derived.Test.YtoompkmncglmoaaDoorIe
namespace Go.Proofs.YtoompkmncglmoaaDoor
open Go.RowKit Go.Pth

/-- truth values as cells: what is told of the first j, and then none. -/
def bls (F : Nat → Bool) (j n : Nat) : Array Value := ((List.range n).map fun k => Value.bool (decide (k < j) && F k)).toArray
theorem bls_get (F : Nat → Bool) (j n k : Nat) (hk : k < n) : (bls F j n)[k]? = some (.bool (decide (k < j) && F k)) := by
  unfold bls; simp [hk]
theorem bls_ext {F G : Nat → Bool} {i j n : Nat} (h : ∀ k, k < n → (decide (k < i) && F k) = (decide (k < j) && G k)) : bls F i n = bls G j n := by
  unfold bls
  congr 1
  apply List.map_congr_left
  intro k hk
  rw [h k (List.mem_range.mp hk)]
theorem bls_set (F : Nat → Bool) (j n : Nat) : (bls F j n).setIfInBounds j (.bool (F j)) = bls F (j + 1) n := by
  apply Array.ext_getElem?
  intro k
  rw [Array.getElem?_setIfInBounds]
  by_cases hk : k < n
  · by_cases hj : j = k
    · subst hj
      rw [if_pos rfl, if_pos (by unfold bls; simpa using hk), bls_get F (j + 1) n j hk]; simp
    · rw [if_neg hj, bls_get F j n k hk, bls_get F (j + 1) n k hk]
      congr 2
      rw [Bool.eq_iff_iff]; simp only [Bool.and_eq_true, decide_eq_true_eq]
      constructor
      · rintro ⟨h1, h2⟩; exact ⟨by omega, h2⟩
      · rintro ⟨h1, h2⟩; exact ⟨by omega, h2⟩
  · have e : ∀ m, (bls F m n)[k]? = none := fun m => by unfold bls; simp; omega
    rw [e, e]
    split
    · rw [if_neg (by unfold bls; simp; omega)]
    · rfl
theorem bls_made (F : Nat → Bool) (n : Nat) : madeCells #[Value.bool false] n = bls F 0 n := by
  apply Array.ext'
  rw [toList_madeCells_one]
  unfold bls
  simp only [Nat.not_lt_zero, decide_false, Bool.false_and]
  rw [List.map_const', List.length_range]
theorem bool_info : (Tryd.prog.info? 4).map (fun i => (i.zero, i.size, i.bytes)) = some (some (.bool false), 1, 1) := by kernel_rfl
theorem make_bools (F : Nat → Bool) (n : Nat) (hn : n ≤ 1048576) : ∀ w, (Instr.makeSlice 50 (.int .i64 ((n : Int) + 1)) (.int .i64 ((n : Int) + 1))).run Tryd.prog w = .ok (.slice (some ⟨w.heap.size, 0, none⟩) (n + 1) (n + 1)) (w.alloc (.cells (bls F 0 (n + 1)) 4)) := fun w => by
  have := run_make_row' (P := Tryd.prog) 50 4 (.bool false) 1 Tryd.underlying50 bool_info rfl .i64 .i64 (n + 1) (by omega) (by omega) w
  rw [bls_made F] at this
  exact this

def InvTr (p s : ByteArray) (w : World) (g : Nat) (s5 s6 : Value) (wr : World) : Prop :=
  ∃ (i b : Nat) (F : Nat → Bool), s5 = .slice (some ⟨b, 0, none⟩) (s.size + 1) (s.size + 1) ∧ s6 = .int .i64 i ∧ i ≤ p.size ∧ RI p.toList s.toList i F ∧ At wr b (bls F (s.size + 1) (s.size + 1)) 4 ∧ Ext w wr ∧ g + i = p.size

/-- what the star's walk carries along, ahead of place k. -/
def onP (G : Nat → Bool) : Nat → Bool
  | 0 => false
  | m + 1 => G m
def InvO (s : ByteArray) (F : Nat → Bool) (deep : Bool) (wo : World) (g : Nat) (s10 s11 : Value) (wr : World) : Prop :=
  ∃ k : Nat, s11 = .int .i64 k ∧ k ≤ s.size + 1 ∧ s10 = .bool (onP (onS s.toList F deep) k) ∧ At wr wo.heap.size (bls (onS s.toList F deep) k (s.size + 1)) 4 ∧ Ext wo wr ∧ g + k = s.size + 1
def InvL12 (s : ByteArray) (F : Nat → Bool) (c : UInt8) (wo : World) (g : Nat) (s12 : Value) (wr : World) : Prop :=
  ∃ k : Nat, s12 = .int .i64 k ∧ k ≤ s.size ∧ At wr wo.heap.size (bls (litS s.toList F c) (k + 1) (s.size + 1)) 4 ∧ Ext wo wr ∧ g + k = s.size
set_option maxRecDepth 100000 in
set_option maxHeartbeats 40000000 in
theorem rmatch_any (p s : ByteArray) (w : World) : Calls Tryd.prog 10 #[.string p, .string s] w fun e w' => e = .returned (.bool (mB p.toList s.toList)) ∧ Ext w w' := by
  have hp := Lib.hid (size_list p)
  have hs := Lib.hid (size_list s)
  by_cases h0 : 200 < p.size ∨ 200 < s.size
  · have r : mB p.toList s.toList = false := by
      unfold mB
      rw [← hp.out, ← hs.out]
      rcases h0 with h0 | h0
      · rw [decide_eq_true h0]; rfl
      · rw [decide_eq_true (p := 200 < s.size) h0, Bool.or_true]; rfl
    by_cases h1 : 200 < p.size
    · have c0 : decide ((200 : Int) < (p.size : Int)) = true := decide_eq_true (by omega)
      clear h0 h1
      go_enter Tryd.func10, Tryd.ntmps10
      go_wp2
      go_ret
      exact ⟨retbb r.symm, Ext.refl w⟩
    · have c0 : decide ((200 : Int) < (p.size : Int)) = false := decide_eq_false (by omega)
      have c1 : decide ((200 : Int) < (s.size : Int)) = true := decide_eq_true (by omega)
      clear h0 h1
      go_enter Tryd.func10, Tryd.ntmps10
      go_wp2
      go_ret
      exact ⟨retbb r.symm, Ext.refl w⟩
  · have c0 : decide ((200 : Int) < (p.size : Int)) = false := decide_eq_false (by omega)
    have c1 : decide ((200 : Int) < (s.size : Int)) = false := decide_eq_false (by omega)
    have hpl : p.size ≤ 200 := by omega
    have hsl : s.size ≤ 200 := by omega
    have R : Hid (mB p.toList s.toList = mat p.toList s.toList) := Lib.hid (by
      unfold mB; rw [← hp.out, ← hs.out, decide_eq_false (by omega), decide_eq_false (p := 200 < s.size) (by omega)]; rfl)
    have mk := make_bools (fun k => k == 0) s.size (by omega)
    have f0 : ∀ k, (w.alloc (.cells (bls (fun k => k == 0) 0 (s.size + 1)) 4)).frozen? ⟨w.heap.size, k, none⟩ = false := fun k => (At.new w _ _).frozen k
    have x0 : ∃ v, (w.alloc (.cells (bls (fun k => k == 0) 0 (s.size + 1)) 4)).cell? ⟨w.heap.size, 0, none⟩ = some v := ⟨_, by rw [(At.new w _ _).cell]; exact bls_get _ _ _ 0 (by omega)⟩
    obtain ⟨v0, x0⟩ := x0
    have y0 := f0 0
    clear h0 f0
    go_enter Tryd.func10, Tryd.ntmps10
    go_wp2_with fail
    clear x0 y0 v0 mk
    go_loopg [5, 6] (p.size) (fun g s5 s6 wr => InvTr p s w g s5 s6 wr)
    case atStart =>
      refine ⟨0, w.heap.size, fun k => k == 0, rfl, rfl, Nat.zero_le _, RI.start _ _ _ rfl (fun k hk => by simp; omega), ?_, Ext.alloc _ _, by omega⟩
      have h1 := bls_set (fun k => k == 0) 0 (s.size + 1)
      have h2 : bls (fun k => k == 0) (0 + 1) (s.size + 1) = bls (fun k => k == 0) (s.size + 1) (s.size + 1) := bls_ext (fun k hk => by
        rw [Bool.eq_iff_iff]; simp only [Bool.and_eq_true, decide_eq_true_eq, beq_iff_eq]; omega)
      rw [← h2, ← h1]
      exact At.new w _ _
    case round =>
      obtain ⟨i, b, F, rfl, rfl, hi, hri, hat, he, hg⟩ := hrel
      obtain ⟨wo, rfl⟩ : ∃ wo, wo = wr := ⟨wr, rfl⟩
      have HRI := Lib.hid hri
      have HAT := Lib.hid hat
      have HE := Lib.hid he
      have HG := Lib.hid hg
      clear hri hat he hg
      by_cases hil : i < p.size
      · have i0 : (0 : Int) ≤ (i : Int) := by omega
        have i1 : (i : Int) < (p.size : Int) := by omega
        have cl : decide ((i : Int) < (p.size : Int)) = true := decide_eq_true i1
        have hpi := Lib.hid (tx_get p i hil)
        cases h42 : ((p[i].toNat : Int) == 42) with
        | true =>
          have P42 : Hid (p.toList[i]? = some 42) := Lib.hid (by
            rw [hpi.out]; congr 1
            have h5 : (p[i].toNat : Int) = 42 := beq_iff_eq.mp h42
            exact UInt8.toNat_inj.mp (show p[i].toNat = 42 from by omega))
          by_cases hil2 : i + 1 < p.size
          · have i2 : (0 : Int) ≤ (i : Int) + 1 := by omega
            have i3 : (i : Int) + 1 < (p.size : Int) := by omega
            have cl2 : decide ((i : Int) + 1 < (p.size : Int)) = true := decide_eq_true i3
            have hpi2 := Lib.hid (tx_get p (i + 1) hil2)
            cases h43 : ((p[i + 1].toNat : Int) == 42) with
            | true =>
              have NEXT := Lib.hid (HRI.out.two P42.out (by
                rw [hpi2.out]; congr 1
                have h5 : (p[i + 1].toNat : Int) = 42 := beq_iff_eq.mp h43
                exact UInt8.toNat_inj.mp (show p[i + 1].toNat = 42 from by omega)))
              have mk := make_bools (onS s.toList F true) s.size (by omega)
              have M1 := At.new wo (bls (onS s.toList F true) 0 (s.size + 1)) 4
              have E1 := Ext.alloc wo (.cells (bls (onS s.toList F true) 0 (s.size + 1)) 4)
              generalize hW1 : wo.alloc (.cells (bls (onS s.toList F true) 0 (s.size + 1)) 4) = W1 at *
              have HM1 := Lib.hid M1
              have HE1 := Lib.hid E1
              clear M1 E1
              go_wp2_with fail
              clear hW1 mk
              go_loopg [10, 11] (s.size + 1) (fun g s10 s11 wr => InvO s F true wo g s10 s11 wr)
              case atStart => exact ⟨0, rfl, by omega, rfl, HM1.out, HE1.out, by omega⟩
              case round =>
                obtain ⟨k, rfl, hk, rfl, ha, he, hg⟩ := hrel
                by_cases hkl : k < s.size + 1
                · have k0 : decide ((k : Int) ≤ (s.size : Int)) = true := decide_eq_true (by omega)
                  have k1 : (0 : Int) ≤ (k : Int) := by omega
                  have k2 : (k : Int) < (s.size : Int) + 1 := by omega
                  have hb := (HAT.out.ext he).cell k
                  rw [bls_get F _ _ k hkl, decide_eq_true hkl, Bool.true_and] at hb
                  have hn := ha.cell k
                  rw [bls_get _ _ _ k hkl] at hn
                  have hz := ha.frozen k
                  have HS := Lib.hid (bls_set (onS s.toList F true) k (s.size + 1))
                  have HA := Lib.hid ha
                  have HEW := Lib.hid he
                  have HGG := Lib.hid hg
                  have HK := Lib.hid hkl
                  clear ha he hg hkl hk
                  rcases k with _ | m
                  · have HV := Lib.hid (show onS s.toList F true 0 = F 0 from rfl)
                    cases hF : F 0 with
                    | true =>
                      rw [hF] at hb
                      have HFF := Lib.hid hF
                      clear hF
                      simp only [onP] at *
                      go_wp2_with fail
                      have ha2 := HA.out.set 0 (.bool true)
                      rw [show (Value.bool true) = Value.bool (onS s.toList F true 0) from by rw [HV.out, HFF.out], HS.out] at ha2
                      go_roundg s.size
                      case measure => have := HGG.out; omega
                      case rel => exact ⟨1, rfl, by omega, by rw [onP, HV.out, HFF.out], by rw [HV.out, HFF.out] at ha2; exact ha2, ext_set HEW.out _ _ (Nat.le_refl _) _, by omega⟩
                    | false =>
                      rw [hF] at hb
                      have HFF := Lib.hid hF
                      clear hF
                      simp only [onP] at *
                      go_wp2_with fail
                      have ha2 := HA.out.set 0 (.bool false)
                      rw [show (Value.bool false) = Value.bool (onS s.toList F true 0) from by rw [HV.out, HFF.out], HS.out] at ha2
                      go_roundg s.size
                      case measure => have := HGG.out; omega
                      case rel => exact ⟨1, rfl, by omega, by rw [onP, HV.out, HFF.out], by rw [HV.out, HFF.out] at ha2; exact ha2, ext_set HEW.out _ _ (Nat.le_refl _) _, by omega⟩
                  · have hm : m < s.size := by have := HK.out; omega
                    have m0 : (0 : Int) ≤ (m : Int) := by omega
                    have m1 : (m : Int) < (s.size : Int) := by omega
                    have hsm := Lib.hid (tx_get s m hm)
                    have kp : decide ((0 : Int) < (m : Int) + 1) = true := decide_eq_true (by omega)
                    have HV := Lib.hid (show onS s.toList F true (m + 1) = (((true || !(s.toList[m]? == some 47)) && onS s.toList F true m) || F (m + 1)) from rfl)
                    simp only [onP] at *
                    cases h47 : ((s[m].toNat : Int) == 47) with
                    | true =>
                      have HSL : Hid ((s.toList[m]? == some 47) = true) := Lib.hid (by
                        rw [hsm.out]
                        have h5 : (s[m].toNat : Int) = 47 := beq_iff_eq.mp h47
                        have h6 : s[m] = 47 := UInt8.toNat_inj.mp (show s[m].toNat = 47 from by omega)
                        rw [h6]; rfl)
                      cases hG : onS s.toList F true m with
                      | true =>
                        have HGM := Lib.hid hG
                        clear hG
                        cases hF : F (m + 1) with
                        | true =>
                          rw [hF] at hb
                          have HFF := Lib.hid hF
                          have HV2 : Hid (onS s.toList F true (m + 1) = true) := Lib.hid (by rw [HV.out, HSL.out, HGM.out, hF]; rfl)
                          clear hF
                          go_wp2_with fail
                          have ha2 := HA.out.set (m + 1) (.bool true)
                          rw [show (Value.bool true) = Value.bool (onS s.toList F true (m + 1)) from by rw [HV2.out], HS.out] at ha2
                          go_roundg (s.size - (m + 1))
                          case measure => have := HGG.out; omega
                          case rel => exact ⟨m + 2, by first | rfl | (congr 1; omega), by omega, by rw [onP, HV2.out], by rw [HV2.out] at ha2; exact ha2, ext_set HEW.out _ _ (Nat.le_refl _) _, by omega⟩
                        | false =>
                          rw [hF] at hb
                          have HFF := Lib.hid hF
                          have HV2 : Hid (onS s.toList F true (m + 1) = true) := Lib.hid (by rw [HV.out, HSL.out, HGM.out, hF]; rfl)
                          clear hF
                          go_wp2_with fail
                          have ha2 := HA.out.set (m + 1) (.bool true)
                          rw [show (Value.bool true) = Value.bool (onS s.toList F true (m + 1)) from by rw [HV2.out], HS.out] at ha2
                          go_roundg (s.size - (m + 1))
                          case measure => have := HGG.out; omega
                          case rel => exact ⟨m + 2, by first | rfl | (congr 1; omega), by omega, by rw [onP, HV2.out], by rw [HV2.out] at ha2; exact ha2, ext_set HEW.out _ _ (Nat.le_refl _) _, by omega⟩
                      | false =>
                        have HGM := Lib.hid hG
                        clear hG
                        cases hF : F (m + 1) with
                        | true =>
                          rw [hF] at hb
                          have HFF := Lib.hid hF
                          have HV2 : Hid (onS s.toList F true (m + 1) = true) := Lib.hid (by rw [HV.out, HSL.out, HGM.out, hF]; rfl)
                          clear hF
                          go_wp2_with fail
                          have ha2 := HA.out.set (m + 1) (.bool true)
                          rw [show (Value.bool true) = Value.bool (onS s.toList F true (m + 1)) from by rw [HV2.out], HS.out] at ha2
                          go_roundg (s.size - (m + 1))
                          case measure => have := HGG.out; omega
                          case rel => exact ⟨m + 2, by first | rfl | (congr 1; omega), by omega, by rw [onP, HV2.out], by rw [HV2.out] at ha2; exact ha2, ext_set HEW.out _ _ (Nat.le_refl _) _, by omega⟩
                        | false =>
                          rw [hF] at hb
                          have HFF := Lib.hid hF
                          have HV2 : Hid (onS s.toList F true (m + 1) = false) := Lib.hid (by rw [HV.out, HSL.out, HGM.out, hF]; rfl)
                          clear hF
                          go_wp2_with fail
                          have ha2 := HA.out.set (m + 1) (.bool false)
                          rw [show (Value.bool false) = Value.bool (onS s.toList F true (m + 1)) from by rw [HV2.out], HS.out] at ha2
                          go_roundg (s.size - (m + 1))
                          case measure => have := HGG.out; omega
                          case rel => exact ⟨m + 2, by first | rfl | (congr 1; omega), by omega, by rw [onP, HV2.out], by rw [HV2.out] at ha2; exact ha2, ext_set HEW.out _ _ (Nat.le_refl _) _, by omega⟩
                    | false =>
                      have HSL : Hid ((s.toList[m]? == some 47) = false) := Lib.hid (by
                        rw [hsm.out]
                        rw [beq_eq_false_iff_ne]; intro h5
                        injection h5 with h5
                        rw [h5] at h47; cases h47)
                      cases hG : onS s.toList F true m with
                      | true =>
                        have HGM := Lib.hid hG
                        clear hG
                        cases hF : F (m + 1) with
                        | true =>
                          rw [hF] at hb
                          have HFF := Lib.hid hF
                          have HV2 : Hid (onS s.toList F true (m + 1) = true) := Lib.hid (by rw [HV.out, HSL.out, HGM.out, hF]; rfl)
                          clear hF
                          go_wp2_with fail
                          have ha2 := HA.out.set (m + 1) (.bool true)
                          rw [show (Value.bool true) = Value.bool (onS s.toList F true (m + 1)) from by rw [HV2.out], HS.out] at ha2
                          go_roundg (s.size - (m + 1))
                          case measure => have := HGG.out; omega
                          case rel => exact ⟨m + 2, by first | rfl | (congr 1; omega), by omega, by rw [onP, HV2.out], by rw [HV2.out] at ha2; exact ha2, ext_set HEW.out _ _ (Nat.le_refl _) _, by omega⟩
                        | false =>
                          rw [hF] at hb
                          have HFF := Lib.hid hF
                          have HV2 : Hid (onS s.toList F true (m + 1) = true) := Lib.hid (by rw [HV.out, HSL.out, HGM.out, hF]; rfl)
                          clear hF
                          go_wp2_with fail
                          have ha2 := HA.out.set (m + 1) (.bool true)
                          rw [show (Value.bool true) = Value.bool (onS s.toList F true (m + 1)) from by rw [HV2.out], HS.out] at ha2
                          go_roundg (s.size - (m + 1))
                          case measure => have := HGG.out; omega
                          case rel => exact ⟨m + 2, by first | rfl | (congr 1; omega), by omega, by rw [onP, HV2.out], by rw [HV2.out] at ha2; exact ha2, ext_set HEW.out _ _ (Nat.le_refl _) _, by omega⟩
                      | false =>
                        have HGM := Lib.hid hG
                        clear hG
                        cases hF : F (m + 1) with
                        | true =>
                          rw [hF] at hb
                          have HFF := Lib.hid hF
                          have HV2 : Hid (onS s.toList F true (m + 1) = true) := Lib.hid (by rw [HV.out, HSL.out, HGM.out, hF]; rfl)
                          clear hF
                          go_wp2_with fail
                          have ha2 := HA.out.set (m + 1) (.bool true)
                          rw [show (Value.bool true) = Value.bool (onS s.toList F true (m + 1)) from by rw [HV2.out], HS.out] at ha2
                          go_roundg (s.size - (m + 1))
                          case measure => have := HGG.out; omega
                          case rel => exact ⟨m + 2, by first | rfl | (congr 1; omega), by omega, by rw [onP, HV2.out], by rw [HV2.out] at ha2; exact ha2, ext_set HEW.out _ _ (Nat.le_refl _) _, by omega⟩
                        | false =>
                          rw [hF] at hb
                          have HFF := Lib.hid hF
                          have HV2 : Hid (onS s.toList F true (m + 1) = false) := Lib.hid (by rw [HV.out, HSL.out, HGM.out, hF]; rfl)
                          clear hF
                          go_wp2_with fail
                          have ha2 := HA.out.set (m + 1) (.bool false)
                          rw [show (Value.bool false) = Value.bool (onS s.toList F true (m + 1)) from by rw [HV2.out], HS.out] at ha2
                          go_roundg (s.size - (m + 1))
                          case measure => have := HGG.out; omega
                          case rel => exact ⟨m + 2, by first | rfl | (congr 1; omega), by omega, by rw [onP, HV2.out], by rw [HV2.out] at ha2; exact ha2, ext_set HEW.out _ _ (Nat.le_refl _) _, by omega⟩
                · obtain rfl : k = s.size + 1 := by omega
                  have k0 : decide (((s.size + 1 : Nat) : Int) ≤ (s.size : Int)) = false := decide_eq_false (by omega)
                  have k0' : decide ((s.size : Int) + 1 ≤ (s.size : Int)) = false := decide_eq_false (by omega)
                  have HA := Lib.hid ha
                  have HEW := Lib.hid he
                  clear ha he hg hkl hk
                  go_wp2_with fail
                  go_roundg (p.size - (i + 2))
                  case measure => have := HG.out; omega
                  case rel => exact ⟨i + 2, wo.heap.size, onS s.toList F true, rfl, by first | rfl | (congr 1; omega), by omega, NEXT.out, HA.out, HE.out.trans HEW.out, by omega⟩
            | false =>
              have NEXT := Lib.hid (HRI.out.one P42.out (by
                rw [hpi2.out]; intro h5
                injection h5 with h5
                rw [h5] at h43; cases h43))
              have mk := make_bools (onS s.toList F false) s.size (by omega)
              have M1 := At.new wo (bls (onS s.toList F false) 0 (s.size + 1)) 4
              have E1 := Ext.alloc wo (.cells (bls (onS s.toList F false) 0 (s.size + 1)) 4)
              generalize hW1 : wo.alloc (.cells (bls (onS s.toList F false) 0 (s.size + 1)) 4) = W1 at *
              have HM1 := Lib.hid M1
              have HE1 := Lib.hid E1
              clear M1 E1
              go_wp2_with fail
              clear hW1 mk
              go_loopg [10, 11] (s.size + 1) (fun g s10 s11 wr => InvO s F false wo g s10 s11 wr)
              case atStart => exact ⟨0, rfl, by omega, rfl, HM1.out, HE1.out, by omega⟩
              case round =>
                obtain ⟨k, rfl, hk, rfl, ha, he, hg⟩ := hrel
                by_cases hkl : k < s.size + 1
                · have k0 : decide ((k : Int) ≤ (s.size : Int)) = true := decide_eq_true (by omega)
                  have k1 : (0 : Int) ≤ (k : Int) := by omega
                  have k2 : (k : Int) < (s.size : Int) + 1 := by omega
                  have hb := (HAT.out.ext he).cell k
                  rw [bls_get F _ _ k hkl, decide_eq_true hkl, Bool.true_and] at hb
                  have hn := ha.cell k
                  rw [bls_get _ _ _ k hkl] at hn
                  have hz := ha.frozen k
                  have HS := Lib.hid (bls_set (onS s.toList F false) k (s.size + 1))
                  have HA := Lib.hid ha
                  have HEW := Lib.hid he
                  have HGG := Lib.hid hg
                  have HK := Lib.hid hkl
                  clear ha he hg hkl hk
                  rcases k with _ | m
                  · have HV := Lib.hid (show onS s.toList F false 0 = F 0 from rfl)
                    cases hF : F 0 with
                    | true =>
                      rw [hF] at hb
                      have HFF := Lib.hid hF
                      clear hF
                      simp only [onP] at *
                      go_wp2_with fail
                      have ha2 := HA.out.set 0 (.bool true)
                      rw [show (Value.bool true) = Value.bool (onS s.toList F false 0) from by rw [HV.out, HFF.out], HS.out] at ha2
                      go_roundg s.size
                      case measure => have := HGG.out; omega
                      case rel => exact ⟨1, rfl, by omega, by rw [onP, HV.out, HFF.out], by rw [HV.out, HFF.out] at ha2; exact ha2, ext_set HEW.out _ _ (Nat.le_refl _) _, by omega⟩
                    | false =>
                      rw [hF] at hb
                      have HFF := Lib.hid hF
                      clear hF
                      simp only [onP] at *
                      go_wp2_with fail
                      have ha2 := HA.out.set 0 (.bool false)
                      rw [show (Value.bool false) = Value.bool (onS s.toList F false 0) from by rw [HV.out, HFF.out], HS.out] at ha2
                      go_roundg s.size
                      case measure => have := HGG.out; omega
                      case rel => exact ⟨1, rfl, by omega, by rw [onP, HV.out, HFF.out], by rw [HV.out, HFF.out] at ha2; exact ha2, ext_set HEW.out _ _ (Nat.le_refl _) _, by omega⟩
                  · have hm : m < s.size := by have := HK.out; omega
                    have m0 : (0 : Int) ≤ (m : Int) := by omega
                    have m1 : (m : Int) < (s.size : Int) := by omega
                    have hsm := Lib.hid (tx_get s m hm)
                    have kp : decide ((0 : Int) < (m : Int) + 1) = true := decide_eq_true (by omega)
                    have HV := Lib.hid (show onS s.toList F false (m + 1) = (((false || !(s.toList[m]? == some 47)) && onS s.toList F false m) || F (m + 1)) from rfl)
                    simp only [onP] at *
                    cases h47 : ((s[m].toNat : Int) == 47) with
                    | true =>
                      have HSL : Hid ((s.toList[m]? == some 47) = true) := Lib.hid (by
                        rw [hsm.out]
                        have h5 : (s[m].toNat : Int) = 47 := beq_iff_eq.mp h47
                        have h6 : s[m] = 47 := UInt8.toNat_inj.mp (show s[m].toNat = 47 from by omega)
                        rw [h6]; rfl)
                      cases hG : onS s.toList F false m with
                      | true =>
                        have HGM := Lib.hid hG
                        clear hG
                        cases hF : F (m + 1) with
                        | true =>
                          rw [hF] at hb
                          have HFF := Lib.hid hF
                          have HV2 : Hid (onS s.toList F false (m + 1) = true) := Lib.hid (by rw [HV.out, HSL.out, HGM.out, hF]; rfl)
                          clear hF
                          go_wp2_with fail
                          have ha2 := HA.out.set (m + 1) (.bool true)
                          rw [show (Value.bool true) = Value.bool (onS s.toList F false (m + 1)) from by rw [HV2.out], HS.out] at ha2
                          go_roundg (s.size - (m + 1))
                          case measure => have := HGG.out; omega
                          case rel => exact ⟨m + 2, by first | rfl | (congr 1; omega), by omega, by rw [onP, HV2.out], by rw [HV2.out] at ha2; exact ha2, ext_set HEW.out _ _ (Nat.le_refl _) _, by omega⟩
                        | false =>
                          rw [hF] at hb
                          have HFF := Lib.hid hF
                          have HV2 : Hid (onS s.toList F false (m + 1) = false) := Lib.hid (by rw [HV.out, HSL.out, HGM.out, hF]; rfl)
                          clear hF
                          go_wp2_with fail
                          have ha2 := HA.out.set (m + 1) (.bool false)
                          rw [show (Value.bool false) = Value.bool (onS s.toList F false (m + 1)) from by rw [HV2.out], HS.out] at ha2
                          go_roundg (s.size - (m + 1))
                          case measure => have := HGG.out; omega
                          case rel => exact ⟨m + 2, by first | rfl | (congr 1; omega), by omega, by rw [onP, HV2.out], by rw [HV2.out] at ha2; exact ha2, ext_set HEW.out _ _ (Nat.le_refl _) _, by omega⟩
                      | false =>
                        have HGM := Lib.hid hG
                        clear hG
                        cases hF : F (m + 1) with
                        | true =>
                          rw [hF] at hb
                          have HFF := Lib.hid hF
                          have HV2 : Hid (onS s.toList F false (m + 1) = true) := Lib.hid (by rw [HV.out, HSL.out, HGM.out, hF]; rfl)
                          clear hF
                          go_wp2_with fail
                          have ha2 := HA.out.set (m + 1) (.bool true)
                          rw [show (Value.bool true) = Value.bool (onS s.toList F false (m + 1)) from by rw [HV2.out], HS.out] at ha2
                          go_roundg (s.size - (m + 1))
                          case measure => have := HGG.out; omega
                          case rel => exact ⟨m + 2, by first | rfl | (congr 1; omega), by omega, by rw [onP, HV2.out], by rw [HV2.out] at ha2; exact ha2, ext_set HEW.out _ _ (Nat.le_refl _) _, by omega⟩
                        | false =>
                          rw [hF] at hb
                          have HFF := Lib.hid hF
                          have HV2 : Hid (onS s.toList F false (m + 1) = false) := Lib.hid (by rw [HV.out, HSL.out, HGM.out, hF]; rfl)
                          clear hF
                          go_wp2_with fail
                          have ha2 := HA.out.set (m + 1) (.bool false)
                          rw [show (Value.bool false) = Value.bool (onS s.toList F false (m + 1)) from by rw [HV2.out], HS.out] at ha2
                          go_roundg (s.size - (m + 1))
                          case measure => have := HGG.out; omega
                          case rel => exact ⟨m + 2, by first | rfl | (congr 1; omega), by omega, by rw [onP, HV2.out], by rw [HV2.out] at ha2; exact ha2, ext_set HEW.out _ _ (Nat.le_refl _) _, by omega⟩
                    | false =>
                      have HSL : Hid ((s.toList[m]? == some 47) = false) := Lib.hid (by
                        rw [hsm.out]
                        rw [beq_eq_false_iff_ne]; intro h5
                        injection h5 with h5
                        rw [h5] at h47; cases h47)
                      cases hG : onS s.toList F false m with
                      | true =>
                        have HGM := Lib.hid hG
                        clear hG
                        cases hF : F (m + 1) with
                        | true =>
                          rw [hF] at hb
                          have HFF := Lib.hid hF
                          have HV2 : Hid (onS s.toList F false (m + 1) = true) := Lib.hid (by rw [HV.out, HSL.out, HGM.out, hF]; rfl)
                          clear hF
                          go_wp2_with fail
                          have ha2 := HA.out.set (m + 1) (.bool true)
                          rw [show (Value.bool true) = Value.bool (onS s.toList F false (m + 1)) from by rw [HV2.out], HS.out] at ha2
                          go_roundg (s.size - (m + 1))
                          case measure => have := HGG.out; omega
                          case rel => exact ⟨m + 2, by first | rfl | (congr 1; omega), by omega, by rw [onP, HV2.out], by rw [HV2.out] at ha2; exact ha2, ext_set HEW.out _ _ (Nat.le_refl _) _, by omega⟩
                        | false =>
                          rw [hF] at hb
                          have HFF := Lib.hid hF
                          have HV2 : Hid (onS s.toList F false (m + 1) = true) := Lib.hid (by rw [HV.out, HSL.out, HGM.out, hF]; rfl)
                          clear hF
                          go_wp2_with fail
                          have ha2 := HA.out.set (m + 1) (.bool true)
                          rw [show (Value.bool true) = Value.bool (onS s.toList F false (m + 1)) from by rw [HV2.out], HS.out] at ha2
                          go_roundg (s.size - (m + 1))
                          case measure => have := HGG.out; omega
                          case rel => exact ⟨m + 2, by first | rfl | (congr 1; omega), by omega, by rw [onP, HV2.out], by rw [HV2.out] at ha2; exact ha2, ext_set HEW.out _ _ (Nat.le_refl _) _, by omega⟩
                      | false =>
                        have HGM := Lib.hid hG
                        clear hG
                        cases hF : F (m + 1) with
                        | true =>
                          rw [hF] at hb
                          have HFF := Lib.hid hF
                          have HV2 : Hid (onS s.toList F false (m + 1) = true) := Lib.hid (by rw [HV.out, HSL.out, HGM.out, hF]; rfl)
                          clear hF
                          go_wp2_with fail
                          have ha2 := HA.out.set (m + 1) (.bool true)
                          rw [show (Value.bool true) = Value.bool (onS s.toList F false (m + 1)) from by rw [HV2.out], HS.out] at ha2
                          go_roundg (s.size - (m + 1))
                          case measure => have := HGG.out; omega
                          case rel => exact ⟨m + 2, by first | rfl | (congr 1; omega), by omega, by rw [onP, HV2.out], by rw [HV2.out] at ha2; exact ha2, ext_set HEW.out _ _ (Nat.le_refl _) _, by omega⟩
                        | false =>
                          rw [hF] at hb
                          have HFF := Lib.hid hF
                          have HV2 : Hid (onS s.toList F false (m + 1) = false) := Lib.hid (by rw [HV.out, HSL.out, HGM.out, hF]; rfl)
                          clear hF
                          go_wp2_with fail
                          have ha2 := HA.out.set (m + 1) (.bool false)
                          rw [show (Value.bool false) = Value.bool (onS s.toList F false (m + 1)) from by rw [HV2.out], HS.out] at ha2
                          go_roundg (s.size - (m + 1))
                          case measure => have := HGG.out; omega
                          case rel => exact ⟨m + 2, by first | rfl | (congr 1; omega), by omega, by rw [onP, HV2.out], by rw [HV2.out] at ha2; exact ha2, ext_set HEW.out _ _ (Nat.le_refl _) _, by omega⟩
                · obtain rfl : k = s.size + 1 := by omega
                  have k0 : decide (((s.size + 1 : Nat) : Int) ≤ (s.size : Int)) = false := decide_eq_false (by omega)
                  have k0' : decide ((s.size : Int) + 1 ≤ (s.size : Int)) = false := decide_eq_false (by omega)
                  have HA := Lib.hid ha
                  have HEW := Lib.hid he
                  clear ha he hg hkl hk
                  go_wp2_with fail
                  go_roundg (p.size - (i + 1))
                  case measure => have := HG.out; omega
                  case rel => exact ⟨i + 1, wo.heap.size, onS s.toList F false, rfl, by first | rfl | (congr 1; omega), by omega, NEXT.out, HA.out, HE.out.trans HEW.out, by omega⟩
          · have cl2 : decide ((i : Int) + 1 < (p.size : Int)) = false := decide_eq_false (by omega)
            have NEXT := Lib.hid (HRI.out.one P42.out (by
              rw [List.getElem?_eq_none (by rw [← hp.out]; omega)]; simp))
            have mk := make_bools (onS s.toList F false) s.size (by omega)
            have M1 := At.new wo (bls (onS s.toList F false) 0 (s.size + 1)) 4
            have E1 := Ext.alloc wo (.cells (bls (onS s.toList F false) 0 (s.size + 1)) 4)
            generalize hW1 : wo.alloc (.cells (bls (onS s.toList F false) 0 (s.size + 1)) 4) = W1 at *
            have HM1 := Lib.hid M1
            have HE1 := Lib.hid E1
            clear M1 E1
            go_wp2_with fail
            clear hW1 mk
            go_loopg [10, 11] (s.size + 1) (fun g s10 s11 wr => InvO s F false wo g s10 s11 wr)
            case atStart => exact ⟨0, rfl, by omega, rfl, HM1.out, HE1.out, by omega⟩
            case round =>
              obtain ⟨k, rfl, hk, rfl, ha, he, hg⟩ := hrel
              by_cases hkl : k < s.size + 1
              · have k0 : decide ((k : Int) ≤ (s.size : Int)) = true := decide_eq_true (by omega)
                have k1 : (0 : Int) ≤ (k : Int) := by omega
                have k2 : (k : Int) < (s.size : Int) + 1 := by omega
                have hb := (HAT.out.ext he).cell k
                rw [bls_get F _ _ k hkl, decide_eq_true hkl, Bool.true_and] at hb
                have hn := ha.cell k
                rw [bls_get _ _ _ k hkl] at hn
                have hz := ha.frozen k
                have HS := Lib.hid (bls_set (onS s.toList F false) k (s.size + 1))
                have HA := Lib.hid ha
                have HEW := Lib.hid he
                have HGG := Lib.hid hg
                have HK := Lib.hid hkl
                clear ha he hg hkl hk
                rcases k with _ | m
                · have HV := Lib.hid (show onS s.toList F false 0 = F 0 from rfl)
                  cases hF : F 0 with
                  | true =>
                    rw [hF] at hb
                    have HFF := Lib.hid hF
                    clear hF
                    simp only [onP] at *
                    go_wp2_with fail
                    have ha2 := HA.out.set 0 (.bool true)
                    rw [show (Value.bool true) = Value.bool (onS s.toList F false 0) from by rw [HV.out, HFF.out], HS.out] at ha2
                    go_roundg s.size
                    case measure => have := HGG.out; omega
                    case rel => exact ⟨1, rfl, by omega, by rw [onP, HV.out, HFF.out], by rw [HV.out, HFF.out] at ha2; exact ha2, ext_set HEW.out _ _ (Nat.le_refl _) _, by omega⟩
                  | false =>
                    rw [hF] at hb
                    have HFF := Lib.hid hF
                    clear hF
                    simp only [onP] at *
                    go_wp2_with fail
                    have ha2 := HA.out.set 0 (.bool false)
                    rw [show (Value.bool false) = Value.bool (onS s.toList F false 0) from by rw [HV.out, HFF.out], HS.out] at ha2
                    go_roundg s.size
                    case measure => have := HGG.out; omega
                    case rel => exact ⟨1, rfl, by omega, by rw [onP, HV.out, HFF.out], by rw [HV.out, HFF.out] at ha2; exact ha2, ext_set HEW.out _ _ (Nat.le_refl _) _, by omega⟩
                · have hm : m < s.size := by have := HK.out; omega
                  have m0 : (0 : Int) ≤ (m : Int) := by omega
                  have m1 : (m : Int) < (s.size : Int) := by omega
                  have hsm := Lib.hid (tx_get s m hm)
                  have kp : decide ((0 : Int) < (m : Int) + 1) = true := decide_eq_true (by omega)
                  have HV := Lib.hid (show onS s.toList F false (m + 1) = (((false || !(s.toList[m]? == some 47)) && onS s.toList F false m) || F (m + 1)) from rfl)
                  simp only [onP] at *
                  cases h47 : ((s[m].toNat : Int) == 47) with
                  | true =>
                    have HSL : Hid ((s.toList[m]? == some 47) = true) := Lib.hid (by
                      rw [hsm.out]
                      have h5 : (s[m].toNat : Int) = 47 := beq_iff_eq.mp h47
                      have h6 : s[m] = 47 := UInt8.toNat_inj.mp (show s[m].toNat = 47 from by omega)
                      rw [h6]; rfl)
                    cases hG : onS s.toList F false m with
                    | true =>
                      have HGM := Lib.hid hG
                      clear hG
                      cases hF : F (m + 1) with
                      | true =>
                        rw [hF] at hb
                        have HFF := Lib.hid hF
                        have HV2 : Hid (onS s.toList F false (m + 1) = true) := Lib.hid (by rw [HV.out, HSL.out, HGM.out, hF]; rfl)
                        clear hF
                        go_wp2_with fail
                        have ha2 := HA.out.set (m + 1) (.bool true)
                        rw [show (Value.bool true) = Value.bool (onS s.toList F false (m + 1)) from by rw [HV2.out], HS.out] at ha2
                        go_roundg (s.size - (m + 1))
                        case measure => have := HGG.out; omega
                        case rel => exact ⟨m + 2, by first | rfl | (congr 1; omega), by omega, by rw [onP, HV2.out], by rw [HV2.out] at ha2; exact ha2, ext_set HEW.out _ _ (Nat.le_refl _) _, by omega⟩
                      | false =>
                        rw [hF] at hb
                        have HFF := Lib.hid hF
                        have HV2 : Hid (onS s.toList F false (m + 1) = false) := Lib.hid (by rw [HV.out, HSL.out, HGM.out, hF]; rfl)
                        clear hF
                        go_wp2_with fail
                        have ha2 := HA.out.set (m + 1) (.bool false)
                        rw [show (Value.bool false) = Value.bool (onS s.toList F false (m + 1)) from by rw [HV2.out], HS.out] at ha2
                        go_roundg (s.size - (m + 1))
                        case measure => have := HGG.out; omega
                        case rel => exact ⟨m + 2, by first | rfl | (congr 1; omega), by omega, by rw [onP, HV2.out], by rw [HV2.out] at ha2; exact ha2, ext_set HEW.out _ _ (Nat.le_refl _) _, by omega⟩
                    | false =>
                      have HGM := Lib.hid hG
                      clear hG
                      cases hF : F (m + 1) with
                      | true =>
                        rw [hF] at hb
                        have HFF := Lib.hid hF
                        have HV2 : Hid (onS s.toList F false (m + 1) = true) := Lib.hid (by rw [HV.out, HSL.out, HGM.out, hF]; rfl)
                        clear hF
                        go_wp2_with fail
                        have ha2 := HA.out.set (m + 1) (.bool true)
                        rw [show (Value.bool true) = Value.bool (onS s.toList F false (m + 1)) from by rw [HV2.out], HS.out] at ha2
                        go_roundg (s.size - (m + 1))
                        case measure => have := HGG.out; omega
                        case rel => exact ⟨m + 2, by first | rfl | (congr 1; omega), by omega, by rw [onP, HV2.out], by rw [HV2.out] at ha2; exact ha2, ext_set HEW.out _ _ (Nat.le_refl _) _, by omega⟩
                      | false =>
                        rw [hF] at hb
                        have HFF := Lib.hid hF
                        have HV2 : Hid (onS s.toList F false (m + 1) = false) := Lib.hid (by rw [HV.out, HSL.out, HGM.out, hF]; rfl)
                        clear hF
                        go_wp2_with fail
                        have ha2 := HA.out.set (m + 1) (.bool false)
                        rw [show (Value.bool false) = Value.bool (onS s.toList F false (m + 1)) from by rw [HV2.out], HS.out] at ha2
                        go_roundg (s.size - (m + 1))
                        case measure => have := HGG.out; omega
                        case rel => exact ⟨m + 2, by first | rfl | (congr 1; omega), by omega, by rw [onP, HV2.out], by rw [HV2.out] at ha2; exact ha2, ext_set HEW.out _ _ (Nat.le_refl _) _, by omega⟩
                  | false =>
                    have HSL : Hid ((s.toList[m]? == some 47) = false) := Lib.hid (by
                      rw [hsm.out]
                      rw [beq_eq_false_iff_ne]; intro h5
                      injection h5 with h5
                      rw [h5] at h47; cases h47)
                    cases hG : onS s.toList F false m with
                    | true =>
                      have HGM := Lib.hid hG
                      clear hG
                      cases hF : F (m + 1) with
                      | true =>
                        rw [hF] at hb
                        have HFF := Lib.hid hF
                        have HV2 : Hid (onS s.toList F false (m + 1) = true) := Lib.hid (by rw [HV.out, HSL.out, HGM.out, hF]; rfl)
                        clear hF
                        go_wp2_with fail
                        have ha2 := HA.out.set (m + 1) (.bool true)
                        rw [show (Value.bool true) = Value.bool (onS s.toList F false (m + 1)) from by rw [HV2.out], HS.out] at ha2
                        go_roundg (s.size - (m + 1))
                        case measure => have := HGG.out; omega
                        case rel => exact ⟨m + 2, by first | rfl | (congr 1; omega), by omega, by rw [onP, HV2.out], by rw [HV2.out] at ha2; exact ha2, ext_set HEW.out _ _ (Nat.le_refl _) _, by omega⟩
                      | false =>
                        rw [hF] at hb
                        have HFF := Lib.hid hF
                        have HV2 : Hid (onS s.toList F false (m + 1) = true) := Lib.hid (by rw [HV.out, HSL.out, HGM.out, hF]; rfl)
                        clear hF
                        go_wp2_with fail
                        have ha2 := HA.out.set (m + 1) (.bool true)
                        rw [show (Value.bool true) = Value.bool (onS s.toList F false (m + 1)) from by rw [HV2.out], HS.out] at ha2
                        go_roundg (s.size - (m + 1))
                        case measure => have := HGG.out; omega
                        case rel => exact ⟨m + 2, by first | rfl | (congr 1; omega), by omega, by rw [onP, HV2.out], by rw [HV2.out] at ha2; exact ha2, ext_set HEW.out _ _ (Nat.le_refl _) _, by omega⟩
                    | false =>
                      have HGM := Lib.hid hG
                      clear hG
                      cases hF : F (m + 1) with
                      | true =>
                        rw [hF] at hb
                        have HFF := Lib.hid hF
                        have HV2 : Hid (onS s.toList F false (m + 1) = true) := Lib.hid (by rw [HV.out, HSL.out, HGM.out, hF]; rfl)
                        clear hF
                        go_wp2_with fail
                        have ha2 := HA.out.set (m + 1) (.bool true)
                        rw [show (Value.bool true) = Value.bool (onS s.toList F false (m + 1)) from by rw [HV2.out], HS.out] at ha2
                        go_roundg (s.size - (m + 1))
                        case measure => have := HGG.out; omega
                        case rel => exact ⟨m + 2, by first | rfl | (congr 1; omega), by omega, by rw [onP, HV2.out], by rw [HV2.out] at ha2; exact ha2, ext_set HEW.out _ _ (Nat.le_refl _) _, by omega⟩
                      | false =>
                        rw [hF] at hb
                        have HFF := Lib.hid hF
                        have HV2 : Hid (onS s.toList F false (m + 1) = false) := Lib.hid (by rw [HV.out, HSL.out, HGM.out, hF]; rfl)
                        clear hF
                        go_wp2_with fail
                        have ha2 := HA.out.set (m + 1) (.bool false)
                        rw [show (Value.bool false) = Value.bool (onS s.toList F false (m + 1)) from by rw [HV2.out], HS.out] at ha2
                        go_roundg (s.size - (m + 1))
                        case measure => have := HGG.out; omega
                        case rel => exact ⟨m + 2, by first | rfl | (congr 1; omega), by omega, by rw [onP, HV2.out], by rw [HV2.out] at ha2; exact ha2, ext_set HEW.out _ _ (Nat.le_refl _) _, by omega⟩
              · obtain rfl : k = s.size + 1 := by omega
                have k0 : decide (((s.size + 1 : Nat) : Int) ≤ (s.size : Int)) = false := decide_eq_false (by omega)
                have k0' : decide ((s.size : Int) + 1 ≤ (s.size : Int)) = false := decide_eq_false (by omega)
                have HA := Lib.hid ha
                have HEW := Lib.hid he
                clear ha he hg hkl hk
                go_wp2_with fail
                go_roundg (p.size - (i + 1))
                case measure => have := HG.out; omega
                case rel => exact ⟨i + 1, wo.heap.size, onS s.toList F false, rfl, by first | rfl | (congr 1; omega), by omega, NEXT.out, HA.out, HE.out.trans HEW.out, by omega⟩
        | false =>
          have NEXT := Lib.hid (HRI.out.lit hpi.out (by
            intro h5
            rw [h5] at h42; cases h42))
          have mk := make_bools (litS s.toList F p[i]) s.size (by omega)
          have M1 := At.new wo (bls (litS s.toList F p[i]) 0 (s.size + 1)) 4
          have E1 := Ext.alloc wo (.cells (bls (litS s.toList F p[i]) 0 (s.size + 1)) 4)
          generalize hW1 : wo.alloc (.cells (bls (litS s.toList F p[i]) 0 (s.size + 1)) 4) = W1 at *
          have HM1 := Lib.hid M1
          have HE1 := Lib.hid E1
          clear M1 E1
          go_wp2_with fail
          clear hW1 mk
          go_loopg [12] s.size (fun g s12 wr => InvL12 s F p[i] wo g s12 wr)
          case atStart =>
            refine ⟨0, rfl, by omega, ?_, HE1.out, by omega⟩
            have e := bls_set (litS s.toList F p[i]) 0 (s.size + 1)
            rw [← bls_ext (F := litS s.toList F p[i]) (i := 0) (fun k hk => by
              rw [Bool.eq_iff_iff]; simp only [Bool.and_eq_true, decide_eq_true_eq]
              constructor
              · rintro ⟨h, _⟩; omega
              · rintro ⟨h1, h2⟩; rw [show k = 0 from by omega] at h2; cases h2)]
            exact HM1.out
          case round =>
            obtain ⟨k, rfl, hk, ha, he, hg⟩ := hrel
            by_cases hkl : k < s.size
            · have k0 : decide ((k : Int) < (s.size : Int)) = true := decide_eq_true (by omega)
              have k1 : (0 : Int) ≤ (k : Int) := by omega
              have k2 : (k : Int) < (s.size : Int) := by omega
              have k3 : (k : Int) < (s.size : Int) + 1 := by omega
              have k4 : (k : Int) + 1 < (s.size : Int) + 1 := by omega
              have hsk := Lib.hid (tx_get s k hkl)
              have hb := (HAT.out.ext he).cell k
              rw [bls_get F _ _ k (by omega), decide_eq_true (p := k < s.size + 1) (by omega), Bool.true_and] at hb
              have hn := ha.cell (k + 1)
              rw [bls_get _ _ _ (k + 1) (by omega)] at hn
              have hz := ha.frozen (k + 1)
              have HS := Lib.hid (bls_set (litS s.toList F p[i]) (k + 1) (s.size + 1))
              have HA := Lib.hid ha
              have HEW := Lib.hid he
              have HGG := Lib.hid hg
              have HV : Hid (litS s.toList F p[i] (k + 1) = (F k && ((p[i] == 63 && !(s[k] == 47)) || (p[i] == s[k] && !(p[i] == 63))))) := Lib.hid (by rw [litS, hsk.out])
              clear ha he hg hk
              have q1 : Hid ((p[i] == 63) = ((p[i].toNat : Int) == 63)) := Lib.hid (by
                rw [Bool.eq_iff_iff, beq_iff_eq, beq_iff_eq]
                constructor
                · intro h; rw [h]; rfl
                · intro h; exact UInt8.toNat_inj.mp (show p[i].toNat = 63 from by omega))
              have q2 : Hid ((s[k] == 47) = ((s[k].toNat : Int) == 47)) := Lib.hid (by
                rw [Bool.eq_iff_iff, beq_iff_eq, beq_iff_eq]
                constructor
                · intro h; rw [h]; rfl
                · intro h; exact UInt8.toNat_inj.mp (show s[k].toNat = 47 from by omega))
              have q3 : Hid ((p[i] == s[k]) = ((p[i].toNat : Int) == (s[k].toNat : Int))) := Lib.hid (by
                rw [Bool.eq_iff_iff, beq_iff_eq, beq_iff_eq]
                constructor
                · intro h; rw [h]
                · intro h; exact UInt8.toNat_inj.mp (by omega))
              cases hF : F k with
              | false =>
                have HV2 : Hid (litS s.toList F p[i] (k + 1) = false) := Lib.hid (by rw [HV.out, hF]; rfl)
                rw [hF] at hb
                clear hF
                go_wp2_with fail
                go_roundg (s.size - (k + 1))
                case measure => have := HGG.out; omega
                case rel =>
                  refine ⟨k + 1, by first | rfl | (congr 1; omega), by omega, ?_, HEW.out, by omega⟩
                  rw [← bls_ext (F := litS s.toList F p[i]) (i := k + 1) (fun q hq => by
                    rw [Bool.eq_iff_iff]; simp only [Bool.and_eq_true, decide_eq_true_eq]
                    constructor
                    · rintro ⟨h1, h2⟩; exact ⟨by omega, h2⟩
                    · rintro ⟨h1, h2⟩
                      refine ⟨?_, h2⟩
                      by_cases hqk : q = k + 1
                      · rw [hqk, HV2.out] at h2; cases h2
                      · omega)]
                  exact HA.out
              | true =>
                rw [hF] at hb
                have HFF := Lib.hid hF
                clear hF
                cases h63 : ((p[i].toNat : Int) == 63) with
                | true =>
                  have n63 : ((p[i].toNat : Int) != 63) = false := by rw [bne, h63]; rfl
                  have eqs : ((p[i].toNat : Int) == (s[k].toNat : Int)) = true ∨ ((p[i].toNat : Int) == (s[k].toNat : Int)) = false := by cases ((p[i].toNat : Int) == (s[k].toNat : Int)) <;> simp
                  cases h47 : ((s[k].toNat : Int) == 47) with
                  | true =>
                    have n47 : ((s[k].toNat : Int) != 47) = false := by rw [bne, h47]; rfl
                    have HV2 : Hid (litS s.toList F p[i] (k + 1) = false) := Lib.hid (by rw [HV.out, HFF.out, q1.out, q2.out, h63, h47]; simp)
                    rcases eqs with eqs | eqs
                    · go_wp2_with fail
                      go_roundg (s.size - (k + 1))
                      case measure => have := HGG.out; omega
                      case rel =>
                        refine ⟨k + 1, by first | rfl | (congr 1; omega), by omega, ?_, HEW.out, by omega⟩
                        rw [← bls_ext (F := litS s.toList F p[i]) (i := k + 1) (fun q hq => by
                          rw [Bool.eq_iff_iff]; simp only [Bool.and_eq_true, decide_eq_true_eq]
                          constructor
                          · rintro ⟨h1, h2⟩; exact ⟨by omega, h2⟩
                          · rintro ⟨h1, h2⟩
                            refine ⟨?_, h2⟩
                            by_cases hqk : q = k + 1
                            · rw [hqk, HV2.out] at h2; cases h2
                            · omega)]
                        exact HA.out
                    · go_wp2_with fail
                      go_roundg (s.size - (k + 1))
                      case measure => have := HGG.out; omega
                      case rel =>
                        refine ⟨k + 1, by first | rfl | (congr 1; omega), by omega, ?_, HEW.out, by omega⟩
                        rw [← bls_ext (F := litS s.toList F p[i]) (i := k + 1) (fun q hq => by
                          rw [Bool.eq_iff_iff]; simp only [Bool.and_eq_true, decide_eq_true_eq]
                          constructor
                          · rintro ⟨h1, h2⟩; exact ⟨by omega, h2⟩
                          · rintro ⟨h1, h2⟩
                            refine ⟨?_, h2⟩
                            by_cases hqk : q = k + 1
                            · rw [hqk, HV2.out] at h2; cases h2
                            · omega)]
                        exact HA.out
                  | false =>
                    have n47 : ((s[k].toNat : Int) != 47) = true := by rw [bne, h47]; rfl
                    have HV2 : Hid (litS s.toList F p[i] (k + 1) = true) := Lib.hid (by rw [HV.out, HFF.out, q1.out, q2.out, h63, h47]; rfl)
                    clear eqs
                    go_wp2_with fail
                    have ha2 := HA.out.set (k + 1) (.bool true)
                    rw [show (Value.bool true) = Value.bool (litS s.toList F p[i] (k + 1)) from by rw [HV2.out], HS.out] at ha2
                    go_roundg (s.size - (k + 1))
                    case measure => have := HGG.out; omega
                    case rel => exact ⟨k + 1, by first | rfl | (congr 1; omega), by omega, by rw [HV2.out] at ha2; exact ha2, ext_set HEW.out _ _ (Nat.le_refl _) _, by omega⟩
                | false =>
                  have n63 : ((p[i].toNat : Int) != 63) = true := by rw [bne, h63]; rfl
                  cases hq : ((p[i].toNat : Int) == (s[k].toNat : Int)) with
                  | true =>
                    have HV2 : Hid (litS s.toList F p[i] (k + 1) = true) := Lib.hid (by rw [HV.out, HFF.out, q1.out, q3.out, h63, hq]; rfl)
                    go_wp2_with fail
                    have ha2 := HA.out.set (k + 1) (.bool true)
                    rw [show (Value.bool true) = Value.bool (litS s.toList F p[i] (k + 1)) from by rw [HV2.out], HS.out] at ha2
                    go_roundg (s.size - (k + 1))
                    case measure => have := HGG.out; omega
                    case rel => exact ⟨k + 1, by first | rfl | (congr 1; omega), by omega, by rw [HV2.out] at ha2; exact ha2, ext_set HEW.out _ _ (Nat.le_refl _) _, by omega⟩
                  | false =>
                    have HV2 : Hid (litS s.toList F p[i] (k + 1) = false) := Lib.hid (by rw [HV.out, HFF.out, q1.out, q3.out, h63, hq]; rfl)
                    go_wp2_with fail
                    go_roundg (s.size - (k + 1))
                    case measure => have := HGG.out; omega
                    case rel =>
                      refine ⟨k + 1, by first | rfl | (congr 1; omega), by omega, ?_, HEW.out, by omega⟩
                      rw [← bls_ext (F := litS s.toList F p[i]) (i := k + 1) (fun q hq => by
                        rw [Bool.eq_iff_iff]; simp only [Bool.and_eq_true, decide_eq_true_eq]
                        constructor
                        · rintro ⟨h1, h2⟩; exact ⟨by omega, h2⟩
                        · rintro ⟨h1, h2⟩
                          refine ⟨?_, h2⟩
                          by_cases hqk : q = k + 1
                          · rw [hqk, HV2.out] at h2; cases h2
                          · omega)]
                      exact HA.out
            · obtain rfl : k = s.size := by omega
              have k0 : decide (((s.size : Nat) : Int) < (s.size : Int)) = false := decide_eq_false (by omega)
              have HA := Lib.hid ha
              have HEW := Lib.hid he
              clear ha he hg hkl hk
              go_wp2_with fail
              go_roundg (p.size - (i + 1))
              case measure => have := HG.out; omega
              case rel => exact ⟨i + 1, wo.heap.size, litS s.toList F p[i], rfl, by first | rfl | (congr 1; omega), by omega, NEXT.out, HA.out, HE.out.trans HEW.out, by omega⟩
      · obtain rfl : i = p.size := by omega
        have cl : decide ((p.size : Int) < (p.size : Int)) = false := decide_eq_false (by omega)
        have hv := HAT.out.cell s.size
        rw [bls_get F _ _ s.size (by omega), decide_eq_true (p := s.size < s.size + 1) (by omega), Bool.true_and] at hv
        have k2 : (s.size : Int) < (s.size : Int) + 1 := by omega
        go_wp2_with fail
        go_ret
        refine ⟨retbb ?_, HE.out⟩
        have hri := HRI.out
        rw [hp.out] at hri
        rw [R.out, Bool.eq_iff_iff, mat_iff, ← hri.fin, ← hs.out]
end Go.Proofs.YtoompkmncglmoaaDoor
