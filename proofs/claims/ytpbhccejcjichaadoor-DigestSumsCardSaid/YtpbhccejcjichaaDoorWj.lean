/- The walk of the law DigestGoes. -/
import Derived.Test.YtpbhccejcjichaaDoorWi
import Derived.Test.YtpbhccejcjichaaDoorSpec3
import Derived.Deep.DeepCutAuto
namespace Go.Proofs.YtpbhccejcjichaaDoor
open Go.RowKit Go.Sha

theorem grown_only {w w' : World} {v : Value} {g c : Nat} {o : Option Nat} {n : Nat} (hv : v = .slice (some ⟨g, 0, o⟩) n c) (h : w.grownBy w' v.ownBlock) : Only g w w' := by
  subst hv
  exact ⟨h.os, h.tape, h.output, h.size, fun k hk hg => h.block k hk (fun e => hg (by injection e))⟩

theorem dsumH (v : Value) (ps : List (Value × List Int)) (l : List Int) (w : World) (hK : KAt w) (hs : Srcs w v ps) (hl : flat ps = l) (hlen : l.length < 2305843009213693952) (hpl : ps.length < 9223372036854775807) :
    Calls Tryd.prog 10 #[v] w fun e w' => ∃ v', e = .returned v' ∧ Ext w w' ∧ ∃ g, v' = .slice (some ⟨g, 0, none⟩) 32 32 ∧ At w' g (bs (shaL l)) 5 := by
  subst hl
  exact (dsum_any v ps w hK hs hlen hpl).mono fun _ _ ⟨g, he, _, hb, ha⟩ => ⟨_, he, hb, g, rfl, ha⟩
theorem hsumH (bh : Nat) (l : List Int) (w : World) (hK : KAt w) (hr : Rep w bh l) (hlen : l.length < 2305843009213693952) :
    Calls Tryd.prog 11 #[.pointer (some ⟨bh, 0, none⟩)] w fun e w' => ∃ v', e = .returned v' ∧ Ext w w' ∧ ∃ g, v' = .slice (some ⟨g, 0, none⟩) 32 32 ∧ At w' g (bs (shaL l)) 5 :=
  (hsum_any bh l w hK hr hlen).mono fun _ _ ⟨g, he, _, hb, ha⟩ => ⟨_, he, hb, g, rfl, ha⟩
theorem srcs1 (w : World) (b : Nat) (v : Value) (z : List Int) (ha : At w b #[v] 25) (hs : Src w v z w.heap.size) : Srcs w (.slice (some ⟨b, 0, none⟩) 1 1) [(v, z)] := by
  refine ⟨_, 1, b, 0, rfl, fun _ => rfl, fun j x hx => ?_⟩
  have hj : j = 0 := by have := (List.getElem?_eq_some_iff.1 hx).1; simp at this; exact this
  subst hj
  simp at hx
  subst hx
  exact ⟨by rw [ha.cell]; rfl, hs⟩
theorem srcs2 (w : World) (b : Nat) (v v' : Value) (z z' : List Int) (ha : At w b #[v, v'] 25) (hs : Src w v z w.heap.size) (hs' : Src w v' z' w.heap.size) : Srcs w (.slice (some ⟨b, 0, none⟩) 2 2) [(v, z), (v', z')] := by
  refine ⟨_, 2, b, 0, rfl, fun _ => rfl, fun j x hx => ?_⟩
  have hj : j = 0 ∨ j = 1 := by have := (List.getElem?_eq_some_iff.1 hx).1; simp at this; omega
  rcases hj with rfl | rfl
  · simp at hx
    subst hx
    exact ⟨by rw [ha.cell]; rfl, hs⟩
  · simp at hx
    subst hx
    exact ⟨by rw [ha.cell]; rfl, hs'⟩
theorem flat_one (v : Value) (z : List Int) : flat [(v, z)] = z := by simp [flat]
theorem flat_two (v v' : Value) (z z' : List Int) : flat [(v, z), (v', z')] = z ++ z' := by simp [flat]

set_option maxHeartbeats 2000000 in
set_option maxRecDepth 100000 in
theorem goes_small (va vb vc : Value) (za zb zc : List Int) (w : World) (hK : KAt w) (sa : Src w va za w.heap.size) (sb : Src w vb zb w.heap.size) (sc : Src w vc zc w.heap.size) (hs : za.length + zb.length + zc.length ≤ 2000) :
    Calls Tryd.prog 4 #[va, vb, vc] w fun e w' => e = .returned (.bool true) ∧ Below w.heap.size w w' := by
  obtain ⟨ada, capa, xa, ya, ea, la⟩ := sa
  obtain ⟨adb, capb, xb, yb, eb, lb⟩ := sb
  obtain ⟨adc, capc, xc, yc, ec, lc⟩ := sc
  have sa : Src w va za w.heap.size := ⟨ada, capa, xa, ya, ea, la⟩
  have sb : Src w vb zb w.heap.size := ⟨adb, capb, xb, yb, eb, lb⟩
  have sc : Src w vc zc w.heap.size := ⟨adc, capc, xc, yc, ec, lc⟩
  clear la lb lc
  have hz := z32
  have HA := Lib.hid ea; have HB := Lib.hid eb; have HC := Lib.hid ec
  rw [ea, eb, ec]
  clear ea eb ec
  go_enter Tryd.func4, Tryd.ntmps4
  go_wp2_with fail
  have h0 := At.new w #[.int .i64 (zb.length : Int), .int .i64 (zc.length : Int)] 3
  refine (sum3_small za.length zb.length zc.length w.heap.size _ hs (by rw [h0.cell]; rfl) (by rw [h0.cell]; rfl)).mono ?_
  rintro e w' ⟨rfl, rfl⟩
  have e1 : Ext w (w.alloc (.cells #[.int .i64 (zb.length : Int), .int .i64 (zc.length : Int)] 3)) := Ext.alloc w _
  have z1 : (w.alloc (.cells #[.int .i64 (zb.length : Int), .int .i64 (zc.length : Int)] 3)).heap.size = w.heap.size + 1 := by simp
  clear h0
  have d1 : decide ((2000 : Int) < (za.length : Int) + (zb.length : Int) + (zc.length : Int)) = false := by simp; omega
  generalize w.alloc (.cells #[.int .i64 (zb.length : Int), .int .i64 (zc.length : Int)] 3) = w1 at *
  have Z1 := Lib.hid z1; clear z1
  go_upto_region 4 with (fail)
  have r2 := rep_zero w1
  have e2 : Ext w (w1.alloc (.cells zeroH.toArray 32)) := e1.trans (Ext.alloc _ _)
  have z2 : (w1.alloc (.cells zeroH.toArray 32)).heap.size = w1.heap.size + 1 := by simp
  have hH : w.heap.size < w1.heap.size := by have := Z1.out; omega
  clear Z1 e1
  obtain ⟨H, hHH⟩ : ∃ H, H = w1.heap.size := ⟨_, rfl⟩
  rw [← hHH] at r2 z2 hH ⊢
  clear hHH
  generalize w1.alloc (.cells zeroH.toArray 32) = w2 at *
  have hown : OwnB (w2.alloc (.cells #[] 5)) w2.heap.size (.slice (some ⟨w2.heap.size, 0, none⟩) 0 0) [] :=
    ⟨rfl, Or.inr ⟨w2.heap.size, 0, #[], rfl, Nat.le_refl _, At.new w2 #[] 5, Nat.le_refl _, by unfold maxLen; omega, rfl, rfl⟩⟩
  have sa3 : Src (w2.alloc (.cells #[] 5)) (.slice ada za.length capa) za H := by rw [← HA.out]; exact sa.of_below (e2.trans (Ext.alloc _ _)) (by omega)
  have Z2 := Lib.hid z2; clear z2
  go_upto_region 5 with (refine list_append_bytes rfl (.tmp 23) (.tmp 24) 25 rfl Tryd.underlying25 u8zero w2.heap.size (.slice (some ⟨w2.heap.size, 0, none⟩) 0 0) [] rfl hown _ za H rfl sa3 (by have : ([] : List Int).length = 0 := rfl; omega) (by simp) ?_; intro vx w4 ox gx)
  rw [List.nil_append] at ox
  have o4 := grown_only rfl gx
  have z4 : w2.heap.size + 1 ≤ w4.heap.size := by have := o4.size; simp at this; omega
  have e4 : Ext w w4 := o4.below (e2.trans (Ext.alloc _ _)) (by have := Z2.out; omega) (by have := Z2.out; simp; omega)
  have r4 : Rep w4 H [] := (r2.below (Ext.alloc _ _)).only o4 (by have := Z2.out; omega)
  have hHB : H < w2.heap.size := by have := Z2.out; omega
  have hH0 : H ≠ 0 := by omega
  clear hown sa3 gx o4 r2 e2 Z2
  generalize w2.heap.size = B at *
  have k4 := hK.below e4 hK.lt
  go_wp2_with fail
  refine (add_src H [] za vx w4 k4 hH0 r4 (by have : ([] : List Int).length = 0 := rfl; omega) (ox.src H hHB)).mono ?_
  rintro e w5 ⟨rfl, o5, r5⟩
  rw [List.nil_append] at r5
  have ox5 := ox.only o5 hHB
  have e5 : Ext w w5 := o5.below e4 (by omega) e4.size
  have rowX := ox5.row
  have z5 : B + 1 ≤ w5.heap.size := by have := o5.size; omega
  clear ox o5 ox5 e4 r4 k4 z4
  obtain ⟨adx, cx, hvx, hrx⟩ := rowX
  subst hvx
  have hnl : (za.length : Int) ≤ 2000 := by omega
  go_wp2_with fail
  go_loopw [9] (fun i wr => InvX w5 (.slice adx za.length cx) za.length B i wr) (fun i _ => za.length - (intOf i).toNat)
  case atStart => exact ⟨0, by omega, rfl, Below.refl _ _, adx, cx, rfl, hrx⟩
  case round =>
    obtain ⟨k, hk, rfl, hB, ad', cx', hv', hrow⟩ := hrel
    obtain ⟨rfl, rfl⟩ : ad' = adx ∧ cx' = cx := by injection hv' with h1 _ h3; exact ⟨h1.symm, h3.symm⟩
    clear hv'
    by_cases hlt : k < za.length
    · obtain ⟨g, rfl, hg, hcell⟩ := hrow (by omega)
      obtain ⟨⟨x, hx⟩, hf⟩ := hcell k hlt
      have Hc := Lib.hid hcell; clear hcell
      have Hr := Lib.hid hrow; clear hrow
      have i0 : (k : Int) < (za.length : Int) := by omega
      have i1 : (0 : Int) ≤ (k : Int) := by omega
      go_wp2
      exact ⟨invX_step w5 wr za.length B k g _ _ hlt hB hg Hc.out, by simp [intOf]; omega⟩
    · clear hrow hrx
      have r6 := r5.belowB hB hHB
      have e6 : Ext w wr := Below.trans e5 (hB.mono (by omega))
      have k6 := hK.below e6 hK.lt
      have z6 : B + 1 ≤ wr.heap.size := by have := hB.size; omega
      clear hB r5 e5
      go_wp2_with fail
      refine (copy_any H za wr r6).mono ?_
      rintro e w7 ⟨rfl, b7, q7⟩
      have r7 := r6.below b7
      have e7 : Ext w w7 := e6.trans b7
      have k7 := hK.below e7 hK.lt
      have z7 : wr.heap.size < w7.heap.size := q7.lt
      have hKb : H < wr.heap.size := by omega
      clear r6 e6 k6 b7
      generalize wr.heap.size = C at *
      go_wp2_with fail
      refine (hsum_any H za w7 k7 r7 (by omega)).mono ?_
      rintro e w8 ⟨g1, rfl, hg1, b8, a8⟩
      have r8 := r7.below b8
      have q8 := q7.below b8
      have e8 : Ext w w8 := e7.trans b8
      have k8 := hK.below e8 hK.lt
      clear r7 q7 e7 k7
      have hb8 : Src w8 (.slice adb zb.length capb) zb H := by rw [← HB.out]; exact sb.of_below e8 (by omega)
      go_wp2_with fail
      refine (add_src H za zb _ w8 k8 hH0 r8 (by omega) hb8).mono ?_
      rintro e w9 ⟨rfl, o9, r9⟩
      have q9 := q8.only o9 (by omega)
      have a9 := o9.at a8 (by omega)
      have e9 : Ext w w9 := o9.below e8 (by omega) e8.size
      have k9 := hK.below e9 hK.lt
      have hc9 : Src w9 (.slice adc zc.length capc) zc C := by rw [← HC.out]; exact sc.of_below e9 (by omega)
      clear r8 q8 a8 e8 k8 hb8 b8
      go_wp2_with fail
      refine (add_src C za zc _ w9 k9 (by omega) q9 (by omega) hc9).mono ?_
      rintro e w10 ⟨rfl, o10, q10⟩
      have r10 := r9.only o10 (by omega)
      have a10 := o10.at a9 (by omega)
      have e10 : Ext w w10 := o10.below e9 (by omega) e9.size
      have k10 := hK.below e10 hK.lt
      have z10 := a10.lt
      clear r9 q9 a9 e9 k9 hc9 o9 o10
      go_upto_region 16 with (fail)
      go_cut [76] (fun s76 wx => s76 = .bool false ∧ Ext w10 wx)
      case first =>
        refine wp_region_held (S := Ext w10.drew) (by kernel_rfl) ?_
        change wpAnyH _ _ _ _ _ _ _ _ w10.drew
        have x0 : Ext w10 w10.drew := (Below.refl _ _).drew
        have q0 := q10.below x0
        have r0 := r10.below x0
        have a0 := a10.below x0 a10.lt
        have k0 := k10.below x0 k10.lt
        have sa0 : Src w10.drew (Value.slice ada za.length capa) za H := by rw [← HA.out]; exact sa.of_below (e10.trans x0) (by omega)
        have sb0 : Src w10.drew (Value.slice adb zb.length capb) zb H := by rw [← HB.out]; exact sb.of_below (e10.trans x0) (by omega)
        have sc0 : Src w10.drew (Value.slice adc zc.length capc) zc H := by rw [← HC.out]; exact sc.of_below (e10.trans x0) (by omega)
        clear q10 r10 a10 k10
        generalize w10.drew = W at *
        refine takeH 0 (some 49) (.slice (some ⟨g1, 0, none⟩) 32 32) rfl rfl (by kernel_rfl) (by kernel_rfl) (by kernel_rfl) (fun _ _ _ h => h) rfl (fun w' hw' => by go_simp) ?_
        simp only [Act.put, List.setIfInBounds_toArray, List.set_cons_zero, List.set_cons_succ]
        refine takeH 1 (some 50) (.string (strOfNums (shaL (za)))) rfl rfl (by kernel_rfl) (by kernel_rfl) (by kernel_rfl) (fun _ _ _ h => h) rfl (fun w' hw' => by have := conv_at 25 9 5 Tryd.underlying25 Tryd.underlying5 Tryd.underlying9 w' g1 (shaL (za)) 5 32 32 (shaL_length _) (a0.below hw' a0.lt); go_simp) ?_
        simp only [Act.put, List.setIfInBounds_toArray, List.set_cons_zero, List.set_cons_succ]
        refine takeH 2 (some 51) (Value.slice ada za.length capa) rfl rfl (by kernel_rfl) (by kernel_rfl) (by kernel_rfl) (fun _ _ _ h => h) rfl (fun w' hw' => by go_simp) ?_
        simp only [Act.put, List.setIfInBounds_toArray, List.set_cons_zero, List.set_cons_succ]
        refine nextH 3 rfl (by kernel_rfl) rfl (makeH (some 52) rfl (.slice (some ⟨W.heap.size, 0, none⟩) 1 1) (w1 := W.alloc (.cells #[Value.slice ada za.length capa] 25)) (by go_simp) (Ext.alloc _ _) ?_)
        simp only [Act.put, List.setIfInBounds_toArray, List.set_cons_zero, List.set_cons_succ]
        have x1 : Ext W (W.alloc (.cells #[(Value.slice ada za.length capa)] 25)) := Ext.alloc _ _
        refine nextH 4 rfl (by kernel_rfl) rfl (callH (some 53) rfl 10 #[.slice (some ⟨W.heap.size, 0, none⟩) 1 1] (by go_simp) (fun v w' => ∃ g, v = .slice (some ⟨g, 0, none⟩) 32 32 ∧ At w' g (bs (shaL za)) 5) (dsumH _ [((Value.slice ada za.length capa), za)] za _ (k0.below x1 k0.lt) (srcs1 _ W.heap.size _ za (At.new _ _ _) ((sa0.below x1).other (Nat.le_refl _))) (flat_one _ _) (by omega) (by simp)) ?_)
        rintro v W2 x2 ⟨g2, rfl, a2⟩
        simp only [Act.put, List.setIfInBounds_toArray, List.set_cons_zero, List.set_cons_succ]
        replace x2 := x1.trans x2
        replace q0 := q0.below x2
        replace r0 := r0.below x2
        replace k0 := k0.below x2 k0.lt
        replace sa0 := sa0.below x2
        replace sb0 := sb0.below x2
        replace sc0 := sc0.below x2
        replace x0 := x0.trans x2
        clear a0 x1 x2
        refine takeH 5 (some 54) (.string (strOfNums (shaL (za)))) rfl rfl (by kernel_rfl) (by kernel_rfl) (by kernel_rfl) (fun _ _ _ h => h) rfl (fun w' hw' => by have := conv_at 25 9 5 Tryd.underlying25 Tryd.underlying5 Tryd.underlying9 w' g2 (shaL (za)) 5 32 32 (shaL_length _) (a2.below hw' a2.lt); go_simp) ?_
        simp only [Act.put, List.setIfInBounds_toArray, List.set_cons_zero, List.set_cons_succ]
        refine takeH 6 (some 55) (.bool false) rfl rfl (by kernel_rfl) (by kernel_rfl) (by kernel_rfl) (fun _ _ _ h => h) rfl (fun w' hw' => by go_simp) ?_
        simp only [Act.put, List.setIfInBounds_toArray, List.set_cons_zero, List.set_cons_succ]
        refine takeH 7 (some 56) (.bool false) rfl rfl (by kernel_rfl) (by kernel_rfl) (by kernel_rfl) (fun _ _ _ h => h) rfl (fun w' hw' => by go_simp) ?_
        simp only [Act.put, List.setIfInBounds_toArray, List.set_cons_zero, List.set_cons_succ]
        refine takeH 10 (some 59) (Value.slice ada za.length capa) rfl rfl (by kernel_rfl) (by kernel_rfl) (by kernel_rfl) (fun _ _ _ h => h) rfl (fun w' hw' => by go_simp) ?_
        simp only [Act.put, List.setIfInBounds_toArray, List.set_cons_zero, List.set_cons_succ]
        refine takeH 11 (some 60) (Value.slice adb zb.length capb) rfl rfl (by kernel_rfl) (by kernel_rfl) (by kernel_rfl) (fun _ _ _ h => h) rfl (fun w' hw' => by go_simp) ?_
        simp only [Act.put, List.setIfInBounds_toArray, List.set_cons_zero, List.set_cons_succ]
        clear a2
        refine nextH_two 8 12 rfl rfl (by kernel_rfl) rfl rfl ?oA ?oB
        case' oA =>
          refine callH (some 57) rfl 11 #[.pointer (some ⟨H, 0, none⟩)] (by go_simp) (fun v w' => ∃ g, v = .slice (some ⟨g, 0, none⟩) 32 32 ∧ At w' g (bs (shaL (za ++ zb))) 5) (hsumH H (za ++ zb) W2 k0 r0 (by simp only [List.length_append]; omega)) ?_
          rintro v W3a xa1 ⟨g3, rfl, a3⟩
          simp only [Act.put, List.setIfInBounds_toArray, List.set_cons_zero, List.set_cons_succ]
          replace q0 := q0.below xa1
          replace r0 := r0.below xa1
          replace k0 := k0.below xa1 k0.lt
          replace sa0 := sa0.below xa1
          replace sb0 := sb0.below xa1
          replace sc0 := sc0.below xa1
          replace x0 := x0.trans xa1
          refine takeH 9 (some 58) (.string (strOfNums (shaL (za ++ zb)))) rfl rfl (by kernel_rfl) (by kernel_rfl) (by kernel_rfl) (fun _ _ _ h => h) rfl (fun w' hw' => by have := conv_at 25 9 5 Tryd.underlying25 Tryd.underlying5 Tryd.underlying9 w' g3 (shaL (za ++ zb)) 5 32 32 (shaL_length _) (a3.below hw' a3.lt); go_simp) ?_
          simp only [Act.put, List.setIfInBounds_toArray, List.set_cons_zero, List.set_cons_succ]
          refine nextH 12 rfl (by kernel_rfl) rfl (makeH (some 61) rfl (.slice (some ⟨W3a.heap.size, 0, none⟩) 2 2) (w1 := W3a.alloc (.cells #[Value.slice ada za.length capa, Value.slice adb zb.length capb] 25)) (by go_simp) (Ext.alloc _ _) ?_)
          simp only [Act.put, List.setIfInBounds_toArray, List.set_cons_zero, List.set_cons_succ]
          have xb1 : Ext W3a (W3a.alloc (.cells #[Value.slice ada za.length capa, Value.slice adb zb.length capb] 25)) := Ext.alloc _ _
          replace a3 := a3.below xb1 a3.lt
          have bk := At.new W3a #[Value.slice ada za.length capa, Value.slice adb zb.length capb] 25
          replace q0 := q0.below xb1
          replace r0 := r0.below xb1
          replace k0 := k0.below xb1 k0.lt
          replace sa0 := sa0.below xb1
          replace sb0 := sb0.below xb1
          replace sc0 := sc0.below xb1
          replace x0 := x0.trans xb1
          clear xa1 xb1
          generalize W3a.alloc (.cells #[Value.slice ada za.length capa, Value.slice adb zb.length capb] 25) = W3 at *
          generalize W3a.heap.size = BkW3 at *
        case' oB =>
          refine makeH (some 61) rfl (.slice (some ⟨W2.heap.size, 0, none⟩) 2 2) (w1 := W2.alloc (.cells #[Value.slice ada za.length capa, Value.slice adb zb.length capb] 25)) (by go_simp) (Ext.alloc _ _) ?_
          simp only [Act.put, List.setIfInBounds_toArray, List.set_cons_zero, List.set_cons_succ]
          have xb1 : Ext W2 (W2.alloc (.cells #[Value.slice ada za.length capa, Value.slice adb zb.length capb] 25)) := Ext.alloc _ _
          have bk := At.new W2 #[Value.slice ada za.length capa, Value.slice adb zb.length capb] 25
          replace q0 := q0.below xb1
          replace r0 := r0.below xb1
          replace k0 := k0.below xb1 k0.lt
          replace sa0 := sa0.below xb1
          replace sb0 := sb0.below xb1
          replace sc0 := sc0.below xb1
          replace x0 := x0.trans xb1
          clear xb1
          generalize hBk : W2.heap.size = BkW3 at *
          generalize W2.alloc (.cells #[Value.slice ada za.length capa, Value.slice adb zb.length capb] 25) = W3a at *
          clear hBk
          refine nextH 8 rfl (by kernel_rfl) rfl (callH (some 57) rfl 11 #[.pointer (some ⟨H, 0, none⟩)] (by go_simp) (fun v w' => ∃ g, v = .slice (some ⟨g, 0, none⟩) 32 32 ∧ At w' g (bs (shaL (za ++ zb))) 5) (hsumH H (za ++ zb) W3a k0 r0 (by simp only [List.length_append]; omega)) ?_)
          rintro v W3 xa1 ⟨g3, rfl, a3⟩
          simp only [Act.put, List.setIfInBounds_toArray, List.set_cons_zero, List.set_cons_succ]
          replace q0 := q0.below xa1
          replace r0 := r0.below xa1
          replace k0 := k0.below xa1 k0.lt
          replace sa0 := sa0.below xa1
          replace sb0 := sb0.below xa1
          replace sc0 := sc0.below xa1
          replace x0 := x0.trans xa1
          replace bk := bk.below xa1 bk.lt
          clear xa1
          refine takeH 9 (some 58) (.string (strOfNums (shaL (za ++ zb)))) rfl rfl (by kernel_rfl) (by kernel_rfl) (by kernel_rfl) (fun _ _ _ h => h) rfl (fun w' hw' => by have := conv_at 25 9 5 Tryd.underlying25 Tryd.underlying5 Tryd.underlying9 w' g3 (shaL (za ++ zb)) 5 32 32 (shaL_length _) (a3.below hw' a3.lt); go_simp) ?_
          simp only [Act.put, List.setIfInBounds_toArray, List.set_cons_zero, List.set_cons_succ]
        all_goals
          refine nextH 13 rfl (by kernel_rfl) rfl (callH (some 62) rfl 10 #[.slice (some ⟨BkW3, 0, none⟩) 2 2] (by go_simp) (fun v w' => ∃ g, v = .slice (some ⟨g, 0, none⟩) 32 32 ∧ At w' g (bs (shaL (za ++ zb))) 5) (dsumH _ [((Value.slice ada za.length capa), za), ((Value.slice adb zb.length capb), zb)] (za ++ zb) W3 k0 (srcs2 _ BkW3 _ _ za zb bk (sa0.other (Nat.le_refl _)) (sb0.other (Nat.le_refl _))) (flat_two _ _ _ _) (by simp only [List.length_append]; omega) (by simp)) ?_)
          rintro v W4 x2 ⟨g4, rfl, a4⟩
          simp only [Act.put, List.setIfInBounds_toArray, List.set_cons_zero, List.set_cons_succ]
          replace q0 := q0.below x2
          replace r0 := r0.below x2
          replace k0 := k0.below x2 k0.lt
          replace sa0 := sa0.below x2
          replace sb0 := sb0.below x2
          replace sc0 := sc0.below x2
          replace x0 := x0.trans x2
          clear bk x2
          refine takeH 14 (some 63) (.string (strOfNums (shaL (za ++ zb)))) rfl rfl (by kernel_rfl) (by kernel_rfl) (by kernel_rfl) (fun _ _ _ h => h) rfl (fun w' hw' => by have := conv_at 25 9 5 Tryd.underlying25 Tryd.underlying5 Tryd.underlying9 w' g4 (shaL (za ++ zb)) 5 32 32 (shaL_length _) (a4.below hw' a4.lt); go_simp) ?_
          simp only [Act.put, List.setIfInBounds_toArray, List.set_cons_zero, List.set_cons_succ]
          refine takeH 15 (some 64) (.bool false) rfl rfl (by kernel_rfl) (by kernel_rfl) (by kernel_rfl) (fun _ _ _ h => h) rfl (fun w' hw' => by go_simp) ?_
          simp only [Act.put, List.setIfInBounds_toArray, List.set_cons_zero, List.set_cons_succ]
          refine takeH 16 (some 65) (.bool false) rfl rfl (by kernel_rfl) (by kernel_rfl) (by kernel_rfl) (fun _ _ _ h => h) rfl (fun w' hw' => by go_simp) ?_
          simp only [Act.put, List.setIfInBounds_toArray, List.set_cons_zero, List.set_cons_succ]
          refine takeH 17 (some 66) (.bool false) rfl rfl (by kernel_rfl) (by kernel_rfl) (by kernel_rfl) (fun _ _ _ h => h) rfl (fun w' hw' => by go_simp) ?_
          simp only [Act.put, List.setIfInBounds_toArray, List.set_cons_zero, List.set_cons_succ]
          clear a3 a4
          refine takeH 18 (some 67) (.pointer (some ⟨C, 0, none⟩)) rfl rfl (by kernel_rfl) (by kernel_rfl) (by kernel_rfl) (fun _ _ _ h => h) rfl (fun w' hw' => by go_simp) ?_
          simp only [Act.put, List.setIfInBounds_toArray, List.set_cons_zero, List.set_cons_succ]
          refine takeH 21 (some 70) (Value.slice ada za.length capa) rfl rfl (by kernel_rfl) (by kernel_rfl) (by kernel_rfl) (fun _ _ _ h => h) rfl (fun w' hw' => by go_simp) ?_
          simp only [Act.put, List.setIfInBounds_toArray, List.set_cons_zero, List.set_cons_succ]
          refine takeH 22 (some 71) (Value.slice adc zc.length capc) rfl rfl (by kernel_rfl) (by kernel_rfl) (by kernel_rfl) (fun _ _ _ h => h) rfl (fun w' hw' => by go_simp) ?_
          simp only [Act.put, List.setIfInBounds_toArray, List.set_cons_zero, List.set_cons_succ]
          refine nextH_two 19 23 rfl rfl (by kernel_rfl) rfl rfl ?_ ?_
          · refine callH (some 68) rfl 11 #[.pointer (some ⟨C, 0, none⟩)] (by go_simp) (fun v w' => ∃ g, v = .slice (some ⟨g, 0, none⟩) 32 32 ∧ At w' g (bs (shaL (za ++ zc))) 5) (hsumH C (za ++ zc) W4 k0 q0 (by simp only [List.length_append]; omega)) ?_
            rintro v W5a xa1 ⟨g5, rfl, a5⟩
            simp only [Act.put, List.setIfInBounds_toArray, List.set_cons_zero, List.set_cons_succ]
            replace q0 := q0.below xa1
            replace r0 := r0.below xa1
            replace k0 := k0.below xa1 k0.lt
            replace sa0 := sa0.below xa1
            replace sb0 := sb0.below xa1
            replace sc0 := sc0.below xa1
            replace x0 := x0.trans xa1
            refine takeH 20 (some 69) (.string (strOfNums (shaL (za ++ zc)))) rfl rfl (by kernel_rfl) (by kernel_rfl) (by kernel_rfl) (fun _ _ _ h => h) rfl (fun w' hw' => by have := conv_at 25 9 5 Tryd.underlying25 Tryd.underlying5 Tryd.underlying9 w' g5 (shaL (za ++ zc)) 5 32 32 (shaL_length _) (a5.below hw' a5.lt); go_simp) ?_
            simp only [Act.put, List.setIfInBounds_toArray, List.set_cons_zero, List.set_cons_succ]
            refine nextH 23 rfl (by kernel_rfl) rfl (makeH (some 72) rfl (.slice (some ⟨W5a.heap.size, 0, none⟩) 2 2) (w1 := W5a.alloc (.cells #[Value.slice ada za.length capa, Value.slice adc zc.length capc] 25)) (by go_simp) (Ext.alloc _ _) ?_)
            simp only [Act.put, List.setIfInBounds_toArray, List.set_cons_zero, List.set_cons_succ]
            have xb1 : Ext W5a (W5a.alloc (.cells #[Value.slice ada za.length capa, Value.slice adc zc.length capc] 25)) := Ext.alloc _ _
            replace a5 := a5.below xb1 a5.lt
            have bk := At.new W5a #[Value.slice ada za.length capa, Value.slice adc zc.length capc] 25
            replace q0 := q0.below xb1
            replace r0 := r0.below xb1
            replace k0 := k0.below xb1 k0.lt
            replace sa0 := sa0.below xb1
            replace sb0 := sb0.below xb1
            replace sc0 := sc0.below xb1
            replace x0 := x0.trans xb1
            clear xa1 xb1
            generalize W5a.alloc (.cells #[Value.slice ada za.length capa, Value.slice adc zc.length capc] 25) = W5 at *
            generalize W5a.heap.size = BkW5 at *
            refine nextH 24 rfl (by kernel_rfl) rfl (callH (some 73) rfl 10 #[.slice (some ⟨BkW5, 0, none⟩) 2 2] (by go_simp) (fun v w' => ∃ g, v = .slice (some ⟨g, 0, none⟩) 32 32 ∧ At w' g (bs (shaL (za ++ zc))) 5) (dsumH _ [((Value.slice ada za.length capa), za), ((Value.slice adc zc.length capc), zc)] (za ++ zc) W5 k0 (srcs2 _ BkW5 _ _ za zc bk (sa0.other (Nat.le_refl _)) (sc0.other (Nat.le_refl _))) (flat_two _ _ _ _) (by simp only [List.length_append]; omega) (by simp)) ?_)
            rintro v W6 x2 ⟨g6, rfl, a6⟩
            simp only [Act.put, List.setIfInBounds_toArray, List.set_cons_zero, List.set_cons_succ]
            replace q0 := q0.below x2
            replace r0 := r0.below x2
            replace k0 := k0.below x2 k0.lt
            replace sa0 := sa0.below x2
            replace sb0 := sb0.below x2
            replace sc0 := sc0.below x2
            replace x0 := x0.trans x2
            clear bk x2
            refine takeH 25 (some 74) (.string (strOfNums (shaL (za ++ zc)))) rfl rfl (by kernel_rfl) (by kernel_rfl) (by kernel_rfl) (fun _ _ _ h => h) rfl (fun w' hw' => by have := conv_at 25 9 5 Tryd.underlying25 Tryd.underlying5 Tryd.underlying9 w' g6 (shaL (za ++ zc)) 5 32 32 (shaL_length _) (a6.below hw' a6.lt); go_simp) ?_
            simp only [Act.put, List.setIfInBounds_toArray, List.set_cons_zero, List.set_cons_succ]
            refine takeH 26 (some 75) (.bool false) rfl rfl (by kernel_rfl) (by kernel_rfl) (by kernel_rfl) (fun _ _ _ h => h) rfl (fun w' hw' => by go_simp) ?_
            simp only [Act.put, List.setIfInBounds_toArray, List.set_cons_zero, List.set_cons_succ]
            refine takeH 27 (some 76) (.bool false) rfl rfl (by kernel_rfl) (by kernel_rfl) (by kernel_rfl) (fun _ _ _ h => h) rfl (fun w' hw' => by go_simp) ?_
            simp only [Act.put, List.setIfInBounds_toArray, List.set_cons_zero, List.set_cons_succ]
            refine wpAnyH_done (by kernel_rfl) ?_ _
            go_wp2_with fail
            go_meet
            exact ⟨rfl, x0⟩
          · refine makeH (some 72) rfl (.slice (some ⟨W4.heap.size, 0, none⟩) 2 2) (w1 := W4.alloc (.cells #[Value.slice ada za.length capa, Value.slice adc zc.length capc] 25)) (by go_simp) (Ext.alloc _ _) ?_
            simp only [Act.put, List.setIfInBounds_toArray, List.set_cons_zero, List.set_cons_succ]
            have xb1 : Ext W4 (W4.alloc (.cells #[Value.slice ada za.length capa, Value.slice adc zc.length capc] 25)) := Ext.alloc _ _
            have bk := At.new W4 #[Value.slice ada za.length capa, Value.slice adc zc.length capc] 25
            replace q0 := q0.below xb1
            replace r0 := r0.below xb1
            replace k0 := k0.below xb1 k0.lt
            replace sa0 := sa0.below xb1
            replace sb0 := sb0.below xb1
            replace sc0 := sc0.below xb1
            replace x0 := x0.trans xb1
            clear xb1
            generalize hBk : W4.heap.size = BkW5 at *
            generalize W4.alloc (.cells #[Value.slice ada za.length capa, Value.slice adc zc.length capc] 25) = W5a at *
            clear hBk
            refine nextH 19 rfl (by kernel_rfl) rfl (callH (some 68) rfl 11 #[.pointer (some ⟨C, 0, none⟩)] (by go_simp) (fun v w' => ∃ g, v = .slice (some ⟨g, 0, none⟩) 32 32 ∧ At w' g (bs (shaL (za ++ zc))) 5) (hsumH C (za ++ zc) W5a k0 q0 (by simp only [List.length_append]; omega)) ?_)
            rintro v W5 xa1 ⟨g5, rfl, a5⟩
            simp only [Act.put, List.setIfInBounds_toArray, List.set_cons_zero, List.set_cons_succ]
            replace q0 := q0.below xa1
            replace r0 := r0.below xa1
            replace k0 := k0.below xa1 k0.lt
            replace sa0 := sa0.below xa1
            replace sb0 := sb0.below xa1
            replace sc0 := sc0.below xa1
            replace x0 := x0.trans xa1
            replace bk := bk.below xa1 bk.lt
            clear xa1
            refine takeH 20 (some 69) (.string (strOfNums (shaL (za ++ zc)))) rfl rfl (by kernel_rfl) (by kernel_rfl) (by kernel_rfl) (fun _ _ _ h => h) rfl (fun w' hw' => by have := conv_at 25 9 5 Tryd.underlying25 Tryd.underlying5 Tryd.underlying9 w' g5 (shaL (za ++ zc)) 5 32 32 (shaL_length _) (a5.below hw' a5.lt); go_simp) ?_
            simp only [Act.put, List.setIfInBounds_toArray, List.set_cons_zero, List.set_cons_succ]
            refine nextH 24 rfl (by kernel_rfl) rfl (callH (some 73) rfl 10 #[.slice (some ⟨BkW5, 0, none⟩) 2 2] (by go_simp) (fun v w' => ∃ g, v = .slice (some ⟨g, 0, none⟩) 32 32 ∧ At w' g (bs (shaL (za ++ zc))) 5) (dsumH _ [((Value.slice ada za.length capa), za), ((Value.slice adc zc.length capc), zc)] (za ++ zc) W5 k0 (srcs2 _ BkW5 _ _ za zc bk (sa0.other (Nat.le_refl _)) (sc0.other (Nat.le_refl _))) (flat_two _ _ _ _) (by simp only [List.length_append]; omega) (by simp)) ?_)
            rintro v W6 x2 ⟨g6, rfl, a6⟩
            simp only [Act.put, List.setIfInBounds_toArray, List.set_cons_zero, List.set_cons_succ]
            replace q0 := q0.below x2
            replace r0 := r0.below x2
            replace k0 := k0.below x2 k0.lt
            replace sa0 := sa0.below x2
            replace sb0 := sb0.below x2
            replace sc0 := sc0.below x2
            replace x0 := x0.trans x2
            clear bk x2
            refine takeH 25 (some 74) (.string (strOfNums (shaL (za ++ zc)))) rfl rfl (by kernel_rfl) (by kernel_rfl) (by kernel_rfl) (fun _ _ _ h => h) rfl (fun w' hw' => by have := conv_at 25 9 5 Tryd.underlying25 Tryd.underlying5 Tryd.underlying9 w' g6 (shaL (za ++ zc)) 5 32 32 (shaL_length _) (a6.below hw' a6.lt); go_simp) ?_
            simp only [Act.put, List.setIfInBounds_toArray, List.set_cons_zero, List.set_cons_succ]
            refine takeH 26 (some 75) (.bool false) rfl rfl (by kernel_rfl) (by kernel_rfl) (by kernel_rfl) (fun _ _ _ h => h) rfl (fun w' hw' => by go_simp) ?_
            simp only [Act.put, List.setIfInBounds_toArray, List.set_cons_zero, List.set_cons_succ]
            refine takeH 27 (some 76) (.bool false) rfl rfl (by kernel_rfl) (by kernel_rfl) (by kernel_rfl) (fun _ _ _ h => h) rfl (fun w' hw' => by go_simp) ?_
            simp only [Act.put, List.setIfInBounds_toArray, List.set_cons_zero, List.set_cons_succ]
            refine wpAnyH_done (by kernel_rfl) ?_ _
            go_wp2_with fail
            go_meet
            exact ⟨rfl, x0⟩
      case rest =>
        obtain ⟨rfl, ex⟩ := hcut
        have r11 := r10.below ex
        have a11 := a10.below ex a10.lt
        have e11 : Ext w wc := e10.trans ex
        have hgH : H < g1 := by omega
        have hg0 : w.heap.size ≤ g1 := by omega
        have row := a11.rowB 32 32 (shaL_length _)
        have z11 := a11.lt
        clear r10 q10 a10 e10 k10 ex a11
        obtain ⟨adx, cx, hvx, hrx⟩ := row
        obtain ⟨rfl, rfl⟩ : adx = some ⟨g1, 0, none⟩ ∧ cx = 32 := by injection hvx with h1 _ h3; exact ⟨h1.symm, h3.symm⟩
        clear hvx
        go_wp2_with fail
        go_loopw [12] (fun i wr => InvX wc (.slice (some ⟨g1, 0, none⟩) 32 32) 32 g1 i wr) (fun i _ => 32 - (intOf i).toNat)
        case atStart => exact ⟨0, by omega, rfl, Below.refl _ _, _, _, rfl, hrx⟩
        case round =>
          obtain ⟨k2, hk2, rfl, hB, ad2, cx2, hv2, hrow⟩ := hrel
          obtain ⟨rfl, rfl⟩ : ad2 = some ⟨g1, 0, none⟩ ∧ cx2 = 32 := by injection hv2 with h1 _ h3; exact ⟨h1.symm, h3.symm⟩
          clear hv2
          by_cases hlt2 : k2 < 32
          · obtain ⟨g, hgg, hg, hcell⟩ := hrow (by omega)
            obtain rfl : g1 = g := by injection hgg with h1; injection h1
            obtain ⟨⟨x, hx⟩, hf⟩ := hcell k2 hlt2
            have Hc := Lib.hid hcell; clear hcell
            have Hr := Lib.hid hrow; clear hrow hgg
            have i0 : (k2 : Int) < 32 := by omega
            have i1 : (0 : Int) ≤ (k2 : Int) := by omega
            go_wp2
            exact ⟨invX_step wc wr 32 g1 k2 g1 _ _ hlt2 hB hg Hc.out, by simp [intOf]; omega⟩
          · clear hrow hrx
            have r12 := r11.belowB hB hgH
            have e12 : Ext w wr := Below.trans e11 (hB.mono hg0)
            have k12 := hK.below e12 hK.lt
            clear hB r11 e11
            go_wp2_with fail
            refine wp_region_held (S := Ext wr.drew) (by kernel_rfl) ?_
            change wpAnyH _ _ _ _ _ _ _ _ wr.drew
            have x0 : Ext w wr.drew := e12.drew
            have r0 := r12.below ((Below.refl _ _).drew : Below wr.heap.size wr wr.drew)
            have k0 := hK.below x0 hK.lt
            have sa0 : Src wr.drew (Value.slice ada za.length capa) za H := by rw [← HA.out]; exact sa.of_below x0 (by omega)
            have sb0 : Src wr.drew (Value.slice adb zb.length capb) zb H := by rw [← HB.out]; exact sb.of_below x0 (by omega)
            clear r12 k12 e12
            generalize wr.drew = W at *
            refine takeH 2 (some 91) (Value.slice ada za.length capa) rfl rfl (by kernel_rfl) (by kernel_rfl) (by kernel_rfl) (fun _ _ _ h => h) rfl (fun w' hw' => by go_simp) ?_
            simp only [Act.put, List.setIfInBounds_toArray, List.set_cons_zero, List.set_cons_succ]
            refine takeH 3 (some 92) (Value.slice adb zb.length capb) rfl rfl (by kernel_rfl) (by kernel_rfl) (by kernel_rfl) (fun _ _ _ h => h) rfl (fun w' hw' => by go_simp) ?_
            simp only [Act.put, List.setIfInBounds_toArray, List.set_cons_zero, List.set_cons_succ]
            refine nextH_two 0 4 rfl rfl (by kernel_rfl) rfl rfl ?_ ?_
            · refine callH (some 89) rfl 11 #[.pointer (some ⟨H, 0, none⟩)] (by go_simp) (fun v w' => ∃ g, v = .slice (some ⟨g, 0, none⟩) 32 32 ∧ At w' g (bs (shaL (za ++ zb))) 5) (hsumH H (za ++ zb) W k0 r0 (by simp only [List.length_append]; omega)) ?_
              rintro v W3a xa1 ⟨g3, rfl, a3⟩
              simp only [Act.put, List.setIfInBounds_toArray, List.set_cons_zero, List.set_cons_succ]
              replace r0 := r0.below xa1
              replace k0 := k0.below xa1 k0.lt
              replace sa0 := sa0.below xa1
              replace sb0 := sb0.below xa1
              replace x0 := x0.trans xa1
              refine takeH 1 (some 90) (.string (strOfNums (shaL (za ++ zb)))) rfl rfl (by kernel_rfl) (by kernel_rfl) (by kernel_rfl) (fun _ _ _ h => h) rfl (fun w' hw' => by have := conv_at 25 9 5 Tryd.underlying25 Tryd.underlying5 Tryd.underlying9 w' g3 (shaL (za ++ zb)) 5 32 32 (shaL_length _) (a3.below hw' a3.lt); go_simp) ?_
              simp only [Act.put, List.setIfInBounds_toArray, List.set_cons_zero, List.set_cons_succ]
              refine nextH 4 rfl (by kernel_rfl) rfl (makeH (some 93) rfl (.slice (some ⟨W3a.heap.size, 0, none⟩) 2 2) (w1 := W3a.alloc (.cells #[Value.slice ada za.length capa, Value.slice adb zb.length capb] 25)) (by go_simp) (Ext.alloc _ _) ?_)
              simp only [Act.put, List.setIfInBounds_toArray, List.set_cons_zero, List.set_cons_succ]
              have xb1 : Ext W3a (W3a.alloc (.cells #[Value.slice ada za.length capa, Value.slice adb zb.length capb] 25)) := Ext.alloc _ _
              have bk := At.new W3a #[Value.slice ada za.length capa, Value.slice adb zb.length capb] 25
              replace r0 := r0.below xb1
              replace k0 := k0.below xb1 k0.lt
              replace sa0 := sa0.below xb1
              replace sb0 := sb0.below xb1
              replace x0 := x0.trans xb1
              clear xa1 xb1
              generalize W3a.alloc (.cells #[Value.slice ada za.length capa, Value.slice adb zb.length capb] 25) = W3 at *
              generalize W3a.heap.size = Bk at *
              refine nextH 5 rfl (by kernel_rfl) rfl (callH (some 94) rfl 10 #[.slice (some ⟨Bk, 0, none⟩) 2 2] (by go_simp) (fun v w' => ∃ g, v = .slice (some ⟨g, 0, none⟩) 32 32 ∧ At w' g (bs (shaL (za ++ zb))) 5) (dsumH _ [((Value.slice ada za.length capa), za), ((Value.slice adb zb.length capb), zb)] (za ++ zb) W3 k0 (srcs2 _ Bk _ _ za zb bk (sa0.other (Nat.le_refl _)) (sb0.other (Nat.le_refl _))) (flat_two _ _ _ _) (by simp only [List.length_append]; omega) (by simp)) ?_)
              rintro v W4 x2 ⟨g4, rfl, a4⟩
              simp only [Act.put, List.setIfInBounds_toArray, List.set_cons_zero, List.set_cons_succ]
              replace r0 := r0.below x2
              replace k0 := k0.below x2 k0.lt
              replace sa0 := sa0.below x2
              replace sb0 := sb0.below x2
              replace x0 := x0.trans x2
              refine takeH 6 (some 95) (.string (strOfNums (shaL (za ++ zb)))) rfl rfl (by kernel_rfl) (by kernel_rfl) (by kernel_rfl) (fun _ _ _ h => h) rfl (fun w' hw' => by have := conv_at 25 9 5 Tryd.underlying25 Tryd.underlying5 Tryd.underlying9 w' g4 (shaL (za ++ zb)) 5 32 32 (shaL_length _) (a4.below hw' a4.lt); go_simp) ?_
              simp only [Act.put, List.setIfInBounds_toArray, List.set_cons_zero, List.set_cons_succ]
              refine takeH 7 (some 96) (.bool true) rfl rfl (by kernel_rfl) (by kernel_rfl) (by kernel_rfl) (fun _ _ _ h => h) rfl (fun w' hw' => by go_simp) ?_
              simp only [Act.put, List.setIfInBounds_toArray, List.set_cons_zero, List.set_cons_succ]
              refine takeH 8 (some 97) (.bool true) rfl rfl (by kernel_rfl) (by kernel_rfl) (by kernel_rfl) (fun _ _ _ h => h) rfl (fun w' hw' => by go_simp) ?_
              simp only [Act.put, List.setIfInBounds_toArray, List.set_cons_zero, List.set_cons_succ]
              refine nextH 9 rfl (by kernel_rfl) rfl (callH (some 98) rfl 7 #[] (by go_simp) (fun v w' => v = .bool true) ((awake_any W4 k0).mono fun _ _ he => ⟨_, he.1, he.2, rfl⟩) ?_)
              rintro v W5 x5 rfl
              simp only [Act.put, List.setIfInBounds_toArray, List.set_cons_zero, List.set_cons_succ]
              replace x0 := x0.trans x5
              refine takeH 10 (some 99) (.bool true) rfl rfl (by kernel_rfl) (by kernel_rfl) (by kernel_rfl) (fun _ _ _ h => h) rfl (fun w' hw' => by go_simp) ?_
              simp only [Act.put, List.setIfInBounds_toArray, List.set_cons_zero, List.set_cons_succ]
              refine takeH 11 (some 6) (.bool true) rfl rfl (by kernel_rfl) (by kernel_rfl) (by kernel_rfl) (fun _ _ _ h => h) rfl (fun w' hw' => by go_simp) ?_
              simp only [Act.put, List.setIfInBounds_toArray, List.set_cons_zero, List.set_cons_succ]
              refine wpAnyH_done (by kernel_rfl) ?_ _
              go_wp2
              go_ret
              exact ⟨rfl, x0⟩
            · refine makeH (some 93) rfl (.slice (some ⟨W.heap.size, 0, none⟩) 2 2) (w1 := W.alloc (.cells #[Value.slice ada za.length capa, Value.slice adb zb.length capb] 25)) (by go_simp) (Ext.alloc _ _) ?_
              simp only [Act.put, List.setIfInBounds_toArray, List.set_cons_zero, List.set_cons_succ]
              have xb1 : Ext W (W.alloc (.cells #[Value.slice ada za.length capa, Value.slice adb zb.length capb] 25)) := Ext.alloc _ _
              have bk := At.new W #[Value.slice ada za.length capa, Value.slice adb zb.length capb] 25
              replace r0 := r0.below xb1
              replace k0 := k0.below xb1 k0.lt
              replace sa0 := sa0.below xb1
              replace sb0 := sb0.below xb1
              replace x0 := x0.trans xb1
              clear xb1
              generalize hBk : W.heap.size = Bk at *
              generalize W.alloc (.cells #[Value.slice ada za.length capa, Value.slice adb zb.length capb] 25) = W3a at *
              clear hBk
              refine nextH 0 rfl (by kernel_rfl) rfl (callH (some 89) rfl 11 #[.pointer (some ⟨H, 0, none⟩)] (by go_simp) (fun v w' => ∃ g, v = .slice (some ⟨g, 0, none⟩) 32 32 ∧ At w' g (bs (shaL (za ++ zb))) 5) (hsumH H (za ++ zb) W3a k0 r0 (by simp only [List.length_append]; omega)) ?_)
              rintro v W3 xa1 ⟨g3, rfl, a3⟩
              simp only [Act.put, List.setIfInBounds_toArray, List.set_cons_zero, List.set_cons_succ]
              replace r0 := r0.below xa1
              replace k0 := k0.below xa1 k0.lt
              replace sa0 := sa0.below xa1
              replace sb0 := sb0.below xa1
              replace x0 := x0.trans xa1
              replace bk := bk.below xa1 bk.lt
              clear xa1
              refine takeH 1 (some 90) (.string (strOfNums (shaL (za ++ zb)))) rfl rfl (by kernel_rfl) (by kernel_rfl) (by kernel_rfl) (fun _ _ _ h => h) rfl (fun w' hw' => by have := conv_at 25 9 5 Tryd.underlying25 Tryd.underlying5 Tryd.underlying9 w' g3 (shaL (za ++ zb)) 5 32 32 (shaL_length _) (a3.below hw' a3.lt); go_simp) ?_
              simp only [Act.put, List.setIfInBounds_toArray, List.set_cons_zero, List.set_cons_succ]
              refine nextH 5 rfl (by kernel_rfl) rfl (callH (some 94) rfl 10 #[.slice (some ⟨Bk, 0, none⟩) 2 2] (by go_simp) (fun v w' => ∃ g, v = .slice (some ⟨g, 0, none⟩) 32 32 ∧ At w' g (bs (shaL (za ++ zb))) 5) (dsumH _ [((Value.slice ada za.length capa), za), ((Value.slice adb zb.length capb), zb)] (za ++ zb) W3 k0 (srcs2 _ Bk _ _ za zb bk (sa0.other (Nat.le_refl _)) (sb0.other (Nat.le_refl _))) (flat_two _ _ _ _) (by simp only [List.length_append]; omega) (by simp)) ?_)
              rintro v W4 x2 ⟨g4, rfl, a4⟩
              simp only [Act.put, List.setIfInBounds_toArray, List.set_cons_zero, List.set_cons_succ]
              replace r0 := r0.below x2
              replace k0 := k0.below x2 k0.lt
              replace sa0 := sa0.below x2
              replace sb0 := sb0.below x2
              replace x0 := x0.trans x2
              refine takeH 6 (some 95) (.string (strOfNums (shaL (za ++ zb)))) rfl rfl (by kernel_rfl) (by kernel_rfl) (by kernel_rfl) (fun _ _ _ h => h) rfl (fun w' hw' => by have := conv_at 25 9 5 Tryd.underlying25 Tryd.underlying5 Tryd.underlying9 w' g4 (shaL (za ++ zb)) 5 32 32 (shaL_length _) (a4.below hw' a4.lt); go_simp) ?_
              simp only [Act.put, List.setIfInBounds_toArray, List.set_cons_zero, List.set_cons_succ]
              refine takeH 7 (some 96) (.bool true) rfl rfl (by kernel_rfl) (by kernel_rfl) (by kernel_rfl) (fun _ _ _ h => h) rfl (fun w' hw' => by go_simp) ?_
              simp only [Act.put, List.setIfInBounds_toArray, List.set_cons_zero, List.set_cons_succ]
              refine takeH 8 (some 97) (.bool true) rfl rfl (by kernel_rfl) (by kernel_rfl) (by kernel_rfl) (fun _ _ _ h => h) rfl (fun w' hw' => by go_simp) ?_
              simp only [Act.put, List.setIfInBounds_toArray, List.set_cons_zero, List.set_cons_succ]
              refine nextH 9 rfl (by kernel_rfl) rfl (callH (some 98) rfl 7 #[] (by go_simp) (fun v w' => v = .bool true) ((awake_any W4 k0).mono fun _ _ he => ⟨_, he.1, he.2, rfl⟩) ?_)
              rintro v W5 x5 rfl
              simp only [Act.put, List.setIfInBounds_toArray, List.set_cons_zero, List.set_cons_succ]
              replace x0 := x0.trans x5
              refine takeH 10 (some 99) (.bool true) rfl rfl (by kernel_rfl) (by kernel_rfl) (by kernel_rfl) (fun _ _ _ h => h) rfl (fun w' hw' => by go_simp) ?_
              simp only [Act.put, List.setIfInBounds_toArray, List.set_cons_zero, List.set_cons_succ]
              refine takeH 11 (some 6) (.bool true) rfl rfl (by kernel_rfl) (by kernel_rfl) (by kernel_rfl) (fun _ _ _ h => h) rfl (fun w' hw' => by go_simp) ?_
              simp only [Act.put, List.setIfInBounds_toArray, List.set_cons_zero, List.set_cons_succ]
              refine wpAnyH_done (by kernel_rfl) ?_ _
              go_wp2
              go_ret
              exact ⟨rfl, x0⟩

set_option maxHeartbeats 1000000 in
theorem goes_big (va vb vc : Value) (za zb zc : List Int) (w : World) (hK : KAt w) (sa : Src w va za w.heap.size) (sb : Src w vb zb w.heap.size) (sc : Src w vc zc w.heap.size) (hs : 2000 < za.length + zb.length + zc.length)
    (ha : za.length ≤ 9223372036854775807) (hb : zb.length ≤ 9223372036854775807) :
    Calls Tryd.prog 4 #[va, vb, vc] w fun e w' => e = .returned (.bool true) ∧ Below w.heap.size w w' := by
  obtain ⟨ada, capa, xa, ya, rfl, _⟩ := sa
  obtain ⟨adb, capb, xb, yb, rfl, _⟩ := sb
  obtain ⟨adc, capc, xc, yc, rfl, _⟩ := sc
  go_enter Tryd.func4, Tryd.ntmps4
  go_wp2_with fail
  have h0 := At.new w #[.int .i64 (zb.length : Int), .int .i64 (zc.length : Int)] 3
  refine (sum3_big za.length zb.length zc.length w.heap.size _ hs ha hb (by rw [h0.cell]; rfl) (by rw [h0.cell]; rfl)).mono ?_
  rintro e w' ⟨n, hn, rfl, rfl⟩
  have e1 : Ext w (w.alloc (.cells #[.int .i64 (zb.length : Int), .int .i64 (zc.length : Int)] 3)) := Ext.alloc w _
  clear h0
  have d1 : decide ((2000 : Int) < n) = true := by simpa using hn
  generalize w.alloc (.cells #[.int .i64 (zb.length : Int), .int .i64 (zc.length : Int)] 3) = w1 at *
  have k1 := hK.below e1 hK.lt
  go_wp2_with fail
  refine (awake_any w1 k1).mono ?_
  rintro e w2 ⟨rfl, b2⟩
  go_wp2
  go_ret
  exact ⟨rfl, e1.trans b2⟩

theorem goes_any (va vb vc : Value) (za zb zc : List Int) (w : World) (hK : KAt w) (sa : Src w va za w.heap.size) (sb : Src w vb zb w.heap.size) (sc : Src w vc zc w.heap.size)
    (ha : za.length ≤ 9223372036854775807) (hb : zb.length ≤ 9223372036854775807) :
    Calls Tryd.prog 4 #[va, vb, vc] w fun e w' => e = .returned (.bool true) ∧ Below w.heap.size w w' := by
  by_cases hs : za.length + zb.length + zc.length ≤ 2000
  · exact goes_small va vb vc za zb zc w hK sa sb sc hs
  · exact goes_big va vb vc za zb zc w hK sa sb sc (by omega) ha hb

end Go.Proofs.YtpbhccejcjichaaDoor
