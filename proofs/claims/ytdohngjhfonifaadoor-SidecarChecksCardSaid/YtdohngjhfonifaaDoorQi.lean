/- The contract of the document's own Fix. -/
import Derived.Test.YtdohngjhfonifaaDoorQh
import Derived.Test.YtdohngjhfonifaaDoorQc
import Derived.BigRegion
namespace Go.Proofs.YtdohngjhfonifaaDoor
open Go.RowKit Go.Sha
set_option linter.unusedSimpArgs false

def InvSk (w : World) (l : List Nat) (c g : Nat) (one n i : Value) (wr : World) : Prop :=
  ∃ t : Nat, t ≤ l.length ∧ i = .int .i64 t ∧ n = .int .i64 ((seekN l c g t).length : Int) ∧ one = .int .i64 (lastN (seekN l c g t) : Int) ∧ w = wr
def InvBt (w : World) (G : Nat) (p m : List Int) (b c k one : Nat) (i : Value) (wr : World) : Prop :=
  ∃ j : Nat, j ≤ c ∧ i = .int .i64 ((k * c + j : Nat) : Int) ∧ Ext w wr ∧ Buf wr G (butN p m b c k one j)
def InvBx (w wb : World) (G : Nat) (S O : List Int) (i : Value) (wr : World) : Prop :=
  ∃ t : Nat, t ≤ O.length ∧ i = .int .i64 t ∧ Ext w wr ∧ Only G wb wr ∧ Buf wr G (xorL S (O.take t))

/-- The list of bad places, apart from what is healed. -/
def IK (adf adb : Option Addr) (l : List Nat) (w : World) : Prop := ∃ ib io, (0 < l.length → adb = some ⟨ib, io, none⟩) ∧ (∀ o, adf ≠ some ⟨ib, o, none⟩) ∧ ∀ (j y : Nat), l[j]? = some y → w.cell? ⟨ib, io + j, none⟩ = some (.int .i64 (y : Int))
theorem IK.ext {adf adb : Option Addr} {l : List Nat} {w w' : World} (h : IK adf adb l w) (he : Ext w w') : IK adf adb l w' := by
  obtain ⟨ib, io, h1, h2, h3⟩ := h
  exact ⟨ib, io, h1, h2, fun j y hj => by rw [Below.cell (p := ⟨ib, io + j, none⟩) he (World.block_lt_of_cell? w _ (h3 j y hj))]; exact h3 j y hj⟩
theorem IK.only {adb : Option Addr} {l : List Nat} {w w' : World} {g : Nat} (h : IK (some ⟨g, 0, none⟩) adb l w) (ho : Only g w w') : IK (some ⟨g, 0, none⟩) adb l w' := by
  obtain ⟨ib, io, h1, h2, h3⟩ := h
  have hne : ib ≠ g := fun e => h2 0 (by rw [e])
  exact ⟨ib, io, h1, h2, fun j y hj => by rw [← h3 j y hj]; exact World.cell?_of_block (ho.block ib (World.block_lt_of_cell? w _ (h3 j y hj)) hne)⟩

set_option maxHeartbeats 16000000 in
set_option maxRecDepth 100000 in
theorem rfix_any (vd vl vp : Value) (m : List Int) (b c : Nat) (leaves par : List (List Int)) (w : World) (hs : Src w vd m w.heap.size) (hl : LR w vl leaves w.heap.size) (hp : LR w vp par w.heap.size)
    (hm : m.length ≤ 20000) (hll : leaves.length ≤ 1000000000) (hpl : par.length ≤ 1000000000) (hb1 : 1 ≤ b) (hb2 : b ≤ 4096) (hc1 : 1 ≤ c) (hc2 : c ≤ 8) :
    Calls Tryd.prog 61 #[vd, .int .i64 b, .int .i64 c, vl, vp] w (FPost w (fixL m b c leaves par) (badL (fixL m b c leaves par) b leaves)) := by
  obtain ⟨ad, cap, ev⟩ := hs.len
  subst ev
  obtain ⟨adl, capl, ev⟩ := hl.len
  subst ev
  obtain ⟨adp, capp, ev⟩ := hp.len
  subst ev
  obtain ⟨C, hC⟩ : ∃ n : Nat, cntL m.length b = n := Int.eq_ofNat_of_zero_le (cntL_nonneg _ _)
  obtain ⟨G, hG⟩ : ∃ n : Nat, grpsN m.length b c = n := Int.eq_ofNat_of_zero_le (grpsN_nonneg _ _ _)
  have hCb : C ≤ 1048576 := by have := cntL_le m.length b; omega
  have hGb : G ≤ 1048584 := by have := grpsN_le m.length b c; omega
  obtain ⟨P, hP⟩ : ∃ P, P = par.length := ⟨_, rfl⟩
  have HP := Lib.hid hP
  obtain ⟨n, hn⟩ : ∃ n, n = min G P := ⟨_, rfl⟩
  have hfx : fixL m b c leaves par = healN m b c leaves par n := by
    unfold fixL healC
    rw [hG, ← hP, Int.toNat_natCast, Int.toNat_natCast, hn]
  rw [hfx]
  clear hfx
  rw [← hP] at hp hpl ⊢
  clear hP
  have Hnn := Lib.hid hn; clear hn
  have HC := Lib.hid hC; clear hC
  have HG := Lib.hid hG; clear hG
  have HPr := Lib.hid hp; clear hp
  have HLv := Lib.hid hl; clear hl
  obtain ⟨N, hN⟩ : ∃ N, N = leaves.length := ⟨_, rfl⟩
  have HN := Lib.hid hN
  rw [← hN] at HLv hll ⊢
  clear hN
  obtain ⟨L, hL⟩ : ∃ L, L = m.length := ⟨_, rfl⟩
  have HL := Lib.hid hL
  rw [← hL] at hs hm ⊢
  clear hL
  have HS := Lib.hid hs; clear hs
  have CG := Lib.hid (fun w => rgroups_any L b c w)
  rw [HL.out, HG.out, ← HL.out] at CG
  have x1 : Ext w (w.alloc (.cells #[] 5)) := Ext.alloc w _
  have hown := OwnB.made w
  have hB0 : w.heap.size ≤ (w.alloc (.cells #[] 5)).heap.size := by simp
  have s1 : Src (w.alloc (.cells #[] 5)) (.slice ad L cap) m (w.alloc (.cells #[] 5)).heap.size := HS.out.now x1
  go_enter Tryd.func61, Tryd.ntmps61
  go_wp2_with (refine list_append_bytes rfl (.tmp 22) (.tmp 23) 22 rfl Tryd.underlying22 u8zero w.heap.size (.slice (some ⟨w.heap.size, 0, none⟩) 0 0) [] rfl hown _ m _ rfl s1 (by rw [List.length_nil, ← HL.out]; omega) hB0 ?_; intro vf w4 ox gx; have b4 := hown.grown gx hB0; rw [List.nil_append] at ox; have x4 : Ext w w4 := Below.trans x1 b4)
  refine (rbad_any2 _ m b _ leaves w4 (HS.out.now x4) (HLv.out.now x4) (by rw [← HL.out]; exact hm) (by rw [← HN.out]; exact hll)).mono ?_
  rintro e w5 ⟨vb, rfl, e5, ib⟩
  have e1 : Ext w w5 := x4.trans e5
  have f1 : Fx w5 w.heap.size vf (healN m b c leaves par 0) := (Fx.of_own ox).ext e5
  rw [badA_cast] at ib
  obtain ⟨adb, capb, ibb, iob, evb, ib1, ib2, ib3⟩ := ib
  subst evb
  have hfb : ∀ g o, vf = .slice (some ⟨g, o, none⟩) (sliceLen vf) (match vf with | .slice _ _ c => c | _ => 0) → g < w4.heap.size := fun g o h => ((show w4.ownsRow _ _ _ _ _ _ from ox).lt g (by rw [h]; rfl)).2
  obtain ⟨BL, hBL⟩ : ∃ l, l = badA m b leaves := ⟨_, rfl⟩
  have hBg : ∀ g, BL.filter (fun x => x / c == g) = gbad m b leaves c g := fun g => by rw [hBL]; exact badA_group m b leaves c g hc1
  have hBc : ∀ x ∈ BL, x < C := fun x hx => by
    rw [hBL] at hx
    unfold badA at hx
    have := List.mem_range.1 (List.mem_filter.1 hx).1
    rw [HC.out] at this
    simpa using this
  have hBn : BL.length ≤ C := by
    rw [hBL]
    unfold badA
    refine Nat.le_trans (List.length_filter_le _ _) ?_
    rw [List.length_range, HC.out]; simp
  rw [← hBL] at ib1 ib3 ⊢
  rw [List.length_map] at ib1 ⊢
  have HBg := Lib.hid hBg
  have HBc := Lib.hid hBc
  obtain ⟨Q, hQ⟩ : ∃ Q, Q = BL.length := ⟨_, rfl⟩
  have HQ := Lib.hid hQ
  rw [← hQ] at hBn ⊢
  obtain ⟨adf, capf, ef⟩ := f1.src.len
  subst ef
  have ik0 : IK adf adb BL w5 := ⟨ibb, iob, ib1, fun o h => by subst h; have := hfb ibb o rfl; omega, fun j y hj => ib3 j y (by rw [List.getElem?_map, hj]; rfl)⟩
  clear ox gx b4 x4 e5 hown hB0 s1 x1 hBg hBc hBL ib1 ib2 ib3 hQ hfb
  rw [healN_length, ← HL.out] at f1 ⊢
  go_wp2
  go_loopw [14] (fun i wr => InvFx w m b c leaves par n (.slice adf L capf) i wr ∧ IK adf adb BL wr) (fun i _ => n - (intOf i).toNat)
  case atStart => exact ⟨⟨0, by omega, rfl, e1, f1⟩, ik0⟩
  case round =>
    obtain ⟨⟨k, hk, rfl, ex, fx⟩, ex5⟩ := hrel
    obtain ⟨wa, rfl⟩ : ∃ wa, wa = wr := ⟨wr, rfl⟩
    go_wp2_with fail
    refine (CG.out wa).mono ?_
    rintro e w' ⟨rfl, rfl⟩
    by_cases hlt : k < n
    · have hkG : k < G := by have := Hnn.out; omega
      have hkP : k < P := by have := Hnn.out; omega
      have i0 : (k : Int) < (G : Int) := by omega
      have i1 : (k : Int) < (P : Int) := by omega
      have dG : decide (k < G) = true := by simpa using hkG
      have dP : decide (k < P) = true := by simpa using hkP
      have hkc : k * c ≤ 8388672 := Nat.le_trans (Nat.mul_le_mul (show k ≤ 1048584 by omega) hc2) (by omega)
      obtain ⟨T, hT⟩ : ∃ T, T = k * c := ⟨_, rfl⟩
      have hT1 : (k : Int) * (c : Int) = (T : Int) := by rw [hT]; push_cast; rfl
      have hT2 : ((k : Int) + 1) * (c : Int) = (T : Int) + (c : Int) := by rw [Int.add_mul, hT1]; omega
      rw [← hT] at hkc
      have HT := Lib.hid hT; clear hT
      obtain ⟨p, hp⟩ : ∃ p, par[k]? = some p := ⟨_, List.getElem?_eq_getElem (by rw [← HP.out]; omega)⟩
      have hl' := HPr.out
      rw [HP.out] at hl'
      obtain ⟨cap1, pb, po, ev1, _, hc1'⟩ := lr_at hl' (by rw [← HP.out]; omega)
      injection ev1 with q1 _ q2
      subst q1 q2
      obtain ⟨x, cx, sx⟩ := hc1' k p hp
      obtain ⟨adx, capx, exx⟩ := sx.len
      subst exx
      have cx' : ∀ w', Ext w w' → w'.cell? ⟨pb, po + k, none⟩ = some (.slice adx p.length capx) := fun w' h => by rw [Below.cell (p := ⟨pb, po + k, none⟩) h (World.block_lt_of_cell? w _ cx)]; exact cx
      have HCX := Lib.hid cx'
      have cxa := cx' wa ex
      have Hp := Lib.hid hp
      have HSx := Lib.hid sx
      clear cx cx' hl' hc1' hp sx
      have Hsucc := Lib.hid (healN_succ m b c leaves par k)
      have hci : ¬ ((c : Int) = 0) := by omega
      go_wp2
      go_loopw [15, 16, 17] (fun one n i wr => InvSk wa BL c k one n i wr) (fun _ _ i _ => Q - (intOf i).toNat)
      case atStart => exact ⟨0, by omega, rfl, by simp [seekN], by simp [seekN, lastN], rfl⟩
      case round =>
        obtain ⟨t, ht, rfl, rfl, rfl, rfl⟩ := hrel
        rw [← HQ.out] at ht
        by_cases hltt : t < Q
        · have k0 : (t : Int) < (Q : Int) := by omega
          obtain ⟨y, hy⟩ : ∃ y, BL[t]? = some y := ⟨_, List.getElem?_eq_getElem (by rw [← HQ.out]; exact hltt)⟩
          have hyC := HBc.out y (List.mem_of_getElem? hy)
          obtain ⟨ib, io, gi, _, hci2⟩ := ex5
          have gi' := gi (by rw [← HQ.out]; omega)
          subst gi'
          have cy' := hci2 t y hy
          have hsk := seekN_succ BL c k t y hy
          have hsl := seekN_len BL c k t
          obtain ⟨Z, hZ⟩ : ∃ Z, Z = y / c := ⟨_, rfl⟩
          have z0 : ((y : Int)).tdiv (c : Int) = (Z : Int) := by rw [Int.tdiv_eq_ediv_of_nonneg (by omega), hZ]; rfl
          have z1 : Z ≤ y := by rw [hZ]; exact Nat.div_le_self _ _
          rw [← hZ] at hsk
          clear hZ hci2 gi hy
          obtain ⟨S, hS⟩ : ∃ S, S = seekN BL c k t := ⟨_, rfl⟩
          rw [← hS] at hsk hsl ⊢
          have HSk := Lib.hid hsk
          have HSS := Lib.hid hS
          clear hsk hS
          obtain ⟨q, hq⟩ : ∃ q, q = S.length := ⟨_, rfl⟩
          have Hq := Lib.hid hq
          rw [← hq] at hsl ⊢
          clear hq
          by_cases hzk : Z = k
          · have t0 : ((Z : Int) == (k : Int)) = true := by simp [hzk]
            have hs2 : seekN BL c k (t + 1) = S ++ [y] := by rw [HSk.out, hzk]; simp
            have Hs2 := Lib.hid hs2; clear hs2
            have HZ := Lib.hid hzk; clear hzk
            go_wp2
            exact ⟨⟨t + 1, by rw [← HQ.out]; omega, by go_num, by rw [Hs2.out]; simp [Hq.out], by rw [Hs2.out, lastN_snoc], rfl⟩, by simp [intOf]; omega⟩
          · have t0 : ((Z : Int) == (k : Int)) = false := by simp; omega
            have hs2 : seekN BL c k (t + 1) = S := by rw [HSk.out]; simp [hzk]
            have Hs2 := Lib.hid hs2; clear hs2 hzk
            go_wp2
            exact ⟨⟨t + 1, by rw [← HQ.out]; omega, by go_num, by rw [Hs2.out, Hq.out], by rw [Hs2.out], rfl⟩, by simp [intOf]; omega⟩
        · obtain rfl : t = Q := by omega
          have k0 : ¬ ((t : Int) < (t : Int)) := by omega
          have hfull : seekN BL c k t = gbad m b leaves c k := by rw [HQ.out, seekN_full, HBg.out]
          rw [hfull]
          by_cases hg1 : (gbad m b leaves c k).length = 1
          · obtain ⟨z, hz⟩ := List.length_eq_one_iff.1 hg1
            obtain ⟨j1, hj1, hx, hxC, _⟩ := gbad_mem m b leaves c k z (by rw [hz]; simp)
            rw [← HT.out] at hx
            subst hx
            rw [hz]
            have hlast : lastN [T + j1] = T + j1 := rfl
            rw [hlast]
            clear hlast hg1 hfull
            by_cases hpl2 : p.length = b
            · have HPL := Lib.hid hpl2
              rw [hpl2] at cxa HCX HSx
              clear hpl2
              have hone := heal_one m b c leaves par (healN m b c leaves par k) k (T + j1) p Hp.out (by rw [HPL.out]) hz
              rw [Int.toNat_natCast] at hone
              have Hone := Lib.hid hone; clear hone hz
              have t3 : ((b : Int) != (b : Int)) = false := by simp
              have t4 : (((([T + j1] : List Nat).length : Nat) : Int) != 1) = false := by simp
              by_cases hzN : T + j1 < N
              · have d5 : decide (N ≤ T + j1) = false := by simp; omega
                have n6 : T + j1 < N := hzN
                have i6 : ((T : Int) + (j1 : Int)) < (N : Int) := by omega
                obtain ⟨_, _, hin, hlb, hl0⟩ := block_in m b (T + j1) hxC
                have hml := madeL_length p m b c k (T + j1) (by rw [HPL.out]; exact hlb)
                obtain ⟨X, hX⟩ : ∃ X, X = (blockT m b ((T + j1 : Nat) : Int)).length := ⟨_, rfl⟩
                have HXb := Lib.hid hX
                rw [← hX] at hin hlb hl0 hml
                clear hX
                obtain ⟨M, hM⟩ : ∃ M, M = madeL p m b c k (T + j1) := ⟨_, rfl⟩
                rw [← hM] at hml Hone
                have hMd : M = (butN p m b c k (T + j1) c).take X := by rw [hM, HXb.out]; rfl
                have HMd := Lib.hid hMd
                have HMl := Lib.hid hml
                clear hM hMd hml
                obtain ⟨ml, hmk⟩ : ∃ x, leaves[T + j1]? = some x := ⟨_, List.getElem?_eq_getElem (by rw [← HN.out]; exact hzN)⟩
                have hlv := HLv.out
                rw [HN.out] at hlv
                obtain ⟨cap9, lb, lo, ev9, _, hc9⟩ := lr_at hlv (by rw [← HN.out]; omega)
                injection ev9 with q1 q3 q2
                clear q3
                subst q1 q2
                obtain ⟨xl, cxl, sxl⟩ := hc9 (T + j1) ml hmk
                have hxl : ∀ w', Ext w w' → w'.cell? ⟨lb, lo + (T + j1), none⟩ = some xl := fun w' h => by rw [Below.cell (p := ⟨lb, lo + (T + j1), none⟩) h (World.block_lt_of_cell? w _ cxl)]; exact cxl
                have hxv : ∀ w', Ext w w' → (convert 22 9 xl).run Tryd.prog w' = .ok (.string (strOfNums ml)) w' := fun w' h => convB (sxl.ext h)
                have hgd : goodL M (T + j1) leaves = eqS (leafL M) ml := by
                  unfold goodL
                  rw [hmk, ← HN.out]
                  simp [hzN]
                rw [hgd] at Hone
                obtain ⟨E, hE⟩ : ∃ E, E = eqS (leafL M) ml := ⟨_, rfl⟩
                rw [← hE] at Hone
                unfold eqS at hE
                obtain ⟨Bs, hBs⟩ : ∃ x, x = strOfNums ml := ⟨_, rfl⟩
                obtain ⟨As, hAs⟩ : ∃ x, x = strOfNums (leafL M) := ⟨_, rfl⟩
                rw [← hBs] at hxv hE
                rw [← hAs] at hE
                have HAs := Lib.hid hAs
                have HXL := Lib.hid hxl
                have HXV := Lib.hid hxv
                have HEE := Lib.hid (show (As.toList == Bs.toList) = E from hE.symm)
                clear hxl hxv hgd hE hBs hAs hmk hlv hc9 cxl sxl
                have x1 : Ext wa (wa.alloc (.cells #[] 5)) := Ext.alloc wa _
                have hown := OwnB.made wa
                have hB0 : wa.heap.size ≤ (wa.alloc (.cells #[] 5)).heap.size := by simp
                have s1 : Src (wa.alloc (.cells #[] 5)) (.slice adx b capx) p (wa.alloc (.cells #[] 5)).heap.size := HSx.out.now (ex.trans x1)
                have cxa2 := HCX.out _ (ex.trans x1)
                clear hzN hxC
                go_wp2_with (refine list_append_bytes rfl (.tmp 81) (.tmp 85) 22 rfl Tryd.underlying22 u8zero wa.heap.size (.slice (some ⟨wa.heap.size, 0, none⟩) 0 0) [] rfl hown _ p _ rfl s1 (by rw [List.length_nil, HPL.out]; omega) hB0 ?_; intro vg w6 oy gy; have b6 := hown.grown gy hB0; rw [List.nil_append] at oy; have e6 : Ext wa w6 := Below.trans x1 b6)
                obtain ⟨pg, capq, evq, hpg, hcapq, bp⟩ := OwnB.buf oy (by rw [HPL.out]; omega)
                subst evq
                rw [HPL.out] at hcapq ⊢
                clear oy gy b6 hown hB0 s1 x1 cxa2 cxa
                go_loopw [19] (fun i wr => InvBt wa pg p m b c k (T + j1) i wr) (fun i _ => T + c - (intOf i).toNat)
                case atStart => exact ⟨0, by omega, by rw [← HT.out]; rfl, e6, bp⟩
                case round =>
                  obtain ⟨j, hj, rfl, e7, b7⟩ := hrel
                  obtain ⟨wb, rfl⟩ : ∃ wb, wb = wr := ⟨wr, rfl⟩
                  rw [← HT.out]
                  have exb := ex.trans e7
                  have hsb : Src wb (.slice ad L cap) m wb.heap.size := HS.out.now exb
                  by_cases hjc : j < c
                  · have k1 : ((T + j : Nat) : Int) < (T : Int) + (c : Int) := by omega
                    have hbl := blockT_length m (b : Int) ((T + j : Nat) : Int)
                    rw [Int.toNat_natCast] at hbl
                    have hsp : Src wb (.slice ad L cap) m pg := (HS.out.other (Nat.le_trans ex.size hpg)).ext exb
                    have R := Lib.hid (rblock_any (.slice ad L cap) m b ((T + j : Nat) : Int) wb _ hsb (by rw [← HL.out]; omega))
                    have Hbs := Lib.hid (butN_succ p m b c k (T + j1) j)
                    rw [← HT.out] at Hbs
                    obtain ⟨S, hS⟩ : ∃ S, S = butN p m b c k (T + j1) j := ⟨_, rfl⟩
                    have hlen : S.length = b := by rw [hS, butN_length]; exact HPL.out
                    rw [← hS] at b7 Hbs
                    clear hS
                    by_cases hji : j = j1
                    · subst hji
                      have hb2' : butN p m b c k (T + j) (j + 1) = S := by rw [Hbs.out, if_pos rfl]
                      have HB2 := Lib.hid hb2'; clear hb2'
                      go_wp2_with fail
                      refine R.out.mono ?_
                      rintro e w3 ⟨rfl, v3, rfl, hv3⟩
                      obtain ⟨ado, capo, evo⟩ := (hv3 _ hsb).len
                      subst evo
                      obtain ⟨Lo, hLo⟩ : ∃ L, L = (blockT m b ((T + j : Nat) : Int)).length := ⟨_, rfl⟩
                      rw [← hLo]
                      rw [← hLo] at hbl
                      have B7 := Lib.hid b7
                      clear hLo hv3 R hsp b7
                      go_wp2
                      go_loopw [21] (fun i w3 => i = .int .i64 0 ∧ wb = w3) (fun _ _ => 0)
                      case atStart => exact ⟨rfl, rfl⟩
                      case round =>
                        obtain ⟨rfl, rfl⟩ := hrel
                        by_cases hLp : 0 < Lo
                        · have l0 : (0 : Int) < (Lo : Int) := by omega
                          have l1 : decide (0 < Lo) = true := by simpa using hLp
                          clear hLp
                          go_wp2
                          exact ⟨⟨j + 1, by omega, by rw [← HT.out]; go_num, e7, by rw [HB2.out]; exact B7.out⟩, by simp [intOf]; omega⟩
                        · have l0 : ¬ ((0 : Int) < (Lo : Int)) := by omega
                          have l1 : decide (0 < Lo) = false := by simpa using hLp
                          clear hLp
                          go_wp2
                          exact ⟨⟨j + 1, by omega, by rw [← HT.out]; go_num, e7, by rw [HB2.out]; exact B7.out⟩, by simp [intOf]; omega⟩
                    · have hb2' : butN p m b c k (T + j1) (j + 1) = xorL S (blockT m b ((T + j : Nat) : Int)) := by rw [Hbs.out, if_neg (by omega)]
                      have HB2 := Lib.hid hb2'; clear hb2'
                      have tn : (((T : Int) + (j : Int)) != ((T : Int) + (j1 : Int))) = true := by simp; omega
                      go_wp2_with fail
                      refine R.out.mono ?_
                      rintro e w3 ⟨rfl, v3, rfl, hv3⟩
                      have s3 : Src wb v3 (blockT m b ((T + j : Nat) : Int)) pg := hv3 _ hsp
                      obtain ⟨O, hO⟩ : ∃ O, O = blockT m b ((T + j : Nat) : Int) := ⟨_, rfl⟩
                      rw [← hO] at hbl s3 HB2
                      clear hO
                      obtain ⟨ado, capo, sb, so, rfl, x2, x3, x4, x5, x6⟩ := s3
                      have X3 := Lib.hid x3; clear x3
                      have X5 := Lib.hid x5; clear x5
                      obtain ⟨Lo, hLo⟩ : ∃ L, L = O.length := ⟨_, rfl⟩
                      have HLo := Lib.hid hLo
                      rw [← hLo] at hbl x2 ⊢
                      clear hLo x6 hv3 R hsp hji
                      go_wp2
                      go_loopw [21] (fun i w3 => InvBx wa wb pg S O i w3) (fun i _ => Lo - (intOf i).toNat)
                      case atStart => exact ⟨0, by omega, rfl, e7, Only.refl _ _, by simpa [xorL_nil] using b7⟩
                      case round =>
                        obtain ⟨i, hi, rfl, e8, o8, b8⟩ := hrel
                        rw [← HLo.out] at hi
                        by_cases hi2 : i < Lo
                        · have e := X3.out (by rw [← HLo.out]; omega)
                          subst e
                          have c0 := X5.out i (by rw [← HLo.out]; omega)
                          have c1 : wr.cell? ⟨sb, so + i, none⟩ = some (.int .u8 (O[i]?.getD 0)) := by rw [← c0]; exact World.cell?_of_block (o8.block sb (World.block_lt_of_cell? wb _ c0) x4)
                          obtain ⟨t1, t2⟩ := xorL_take S O i (by rw [← HLo.out]; omega) (by rw [← HLo.out, hlen]; omega)
                          have hjl : i < (xorL S (O.take i)).length := by rw [xorL_length, hlen]; omega
                          have c2 : wr.cell? ⟨pg, i, none⟩ = some (.int .u8 (S[i]?.getD 0)) := by rw [← t1]; exact b8.cell i hjl
                          have c3 := b8.frozen i
                          have b9 := b8.set i (xb (S[i]?.getD 0) (O[i]?.getD 0)) hjl
                          rw [t2] at b9
                          have o9 := o8.trans (Only.set pg i wr (.int .u8 (xb (S[i]?.getD 0) (O[i]?.getD 0))))
                          have B9 := Lib.hid b9; clear b9 t1 t2 b8 c0 hjl
                          unfold xb at B9 o9
                          generalize O[i]?.getD 0 = y at *
                          generalize S[i]?.getD 0 = x at *
                          have l0 : (i : Int) < (Lo : Int) := by omega
                          have l2 : (i : Int) < (b : Int) := by omega
                          have l1 : decide (i < Lo) = true := by simpa using hi2
                          go_wp2
                          go_region
                          go_wp2
                          have b10 : Buf (wr.setCell ⟨pg, i, none⟩ (.int .u8 (bits .xor .u8 x y))).drew pg (xorL S (O.take (i + 1))) := B9.out
                          exact ⟨⟨i + 1, by rw [← HLo.out]; omega, by go_num, (Below.setCell (p := ⟨pg, i, none⟩) e8 hpg _).drew, o9.drew, b10⟩, by simp [intOf]; omega⟩
                        · obtain rfl : i = Lo := by omega
                          have b9 : Buf wr pg (xorL S O) := by rw [List.take_of_length_le (by rw [← HLo.out]; omega)] at b8; exact b8
                          clear b8
                          have l0 : ¬ ((i : Int) < (i : Int)) := by omega
                          go_wp2
                          exact ⟨⟨j + 1, by omega, by rw [← HT.out]; go_num, e8, by rw [HB2.out]; exact b9⟩, by simp [intOf]; omega⟩
                  · obtain rfl : j = c := by omega
                    have k1 : ¬ (((T + j : Nat) : Int) < (T : Int) + (j : Int)) := by omega
                    have R := Lib.hid (rblock_any (.slice ad L cap) m b ((T + j1 : Nat) : Int) wb _ hsb (by rw [← HL.out]; omega))
                    have hlen : (butN p m b j k (T + j1) j).length = b := by rw [butN_length]; exact HPL.out
                    have sm : Src wb (.slice (some ⟨pg, 0, none⟩) X capq) M wb.heap.size := by
                      have := b7.src wb.heap.size (by have := b7.lt; omega) b capq hlen (by omega)
                      obtain ⟨_, _, sb, so, ev, y2, y3, y4, y5, y6⟩ := this
                      injection ev with q1 _ q2
                      subst q1 q2
                      have y3' := y3 (by omega)
                      refine ⟨_, capq, sb, so, by rw [HMl.out], by rw [HMl.out]; omega, fun _ => y3', y4, fun t ht => ?_, fun h => by cases h⟩
                      rw [HMl.out] at ht
                      rw [y5 t (by omega), HMd.out, List.getElem?_take_of_lt (by omega)]
                    have SM := Lib.hid sm; clear sm
                    have fxb := fx.ext e7
                    have ex5b := ex5.ext e7
                    have xc : X ≤ capq := by omega
                    clear b7 hlen e7 fx
                    go_wp2_with fail
                    refine R.out.mono ?_
                    rintro e w3 ⟨rfl, v3, rfl, hv3⟩
                    obtain ⟨ado, capo, evo⟩ := (hv3 _ hsb).len
                    subst evo
                    rw [← HXb.out]
                    clear R hv3
                    go_wp2
                    refine wp_region_held (S := Ext w) (by kernel_rfl) ?_
                    change wpAnyH _ _ _ _ _ _ _ _ wb.drew
                    have S0 : Ext w wb.drew := Below.drew exb
                    have e8 : Ext wb wb.drew := Below.drew (Below.refl _ _)
                    have sV := SM.out.now e8
                    have fx8 := fxb.ext e8
                    have ex58 := ex5b.ext e8
                    clear fxb ex5b exb SM hsb e8
                    generalize wb.drew = W at *
                    have i7 : (0 : Int) ≤ (T : Int) + (j1 : Int) := by omega
                    have hTN : ((T : Int) + (j1 : Int)).toNat = T + j1 := by omega
                    refine takeS 0 (some 132) (.slice (some ⟨pg, 0, none⟩) X capq) rfl rfl (by kernel_rfl) (by kernel_rfl) (by kernel_rfl) (fun _ _ _ h => h) rfl S0 (fun w' hw' => by go_simp) ?_
                    simp only [Act.put, List.setIfInBounds_toArray, List.set_cons_zero, List.set_cons_succ]
                    refine takeS 3 (some 135) (.slice (some ⟨lb, lo, none⟩) N capl) rfl rfl (by kernel_rfl) (by kernel_rfl) (by kernel_rfl) (fun _ _ _ h => h) rfl S0 (fun w' hw' => by go_simp) ?_
                    simp only [Act.put, List.setIfInBounds_toArray, List.set_cons_zero, List.set_cons_succ]
                    refine takeS 4 (some 136) (.int .i64 ((T : Int) + (j1 : Int))) rfl rfl (by kernel_rfl) (by kernel_rfl) (by kernel_rfl) (fun _ _ _ h => h) rfl S0 (fun w' hw' => by go_simp) ?_
                    simp only [Act.put, List.setIfInBounds_toArray, List.set_cons_zero, List.set_cons_succ]
                    refine takeS 5 (some 137) (.pointer (some ⟨lb, lo + (T + j1), none⟩)) rfl rfl (by kernel_rfl) (by kernel_rfl) (by kernel_rfl) (fun _ _ _ h => h) rfl S0 (fun w' hw' => by go_simp) ?_
                    simp only [Act.put, List.setIfInBounds_toArray, List.set_cons_zero, List.set_cons_succ]
                    refine takeS 6 (some 138) (xl) rfl rfl (by kernel_rfl) (by kernel_rfl) (by kernel_rfl) (fun _ _ _ h => h) rfl S0 (fun w' hw' => by have cc := HXL.out w' hw'; go_simp) ?_
                    simp only [Act.put, List.setIfInBounds_toArray, List.set_cons_zero, List.set_cons_succ]
                    refine takeS 7 (some 139) (.string Bs) rfl rfl (by kernel_rfl) (by kernel_rfl) (by kernel_rfl) (fun _ _ _ h => h) rfl S0 (fun w' hw' => by have cc := HXV.out w' hw'; go_simp) ?_
                    simp only [Act.put, List.setIfInBounds_toArray, List.set_cons_zero, List.set_cons_succ]
                    refine nextS 1 rfl (by kernel_rfl) rfl (callS (some 133) rfl 56 #[.slice (some ⟨pg, 0, none⟩) X capq] (by go_simp) (fun v w' => Ext W w' ∧ OwnB w' W.heap.size v (leafL M)) ((rleaf_any _ M W sV (by rw [HMl.out]; have := HL.out; omega)).mono fun _ _ he => he) ?_)
                    rintro v2 W2 ⟨e9, o9⟩
                    simp only [Act.put, List.setIfInBounds_toArray, List.set_cons_zero, List.set_cons_succ]
                    have S2 : Ext w W2 := S0.trans e9
                    refine ⟨S2, ?_⟩
                    have c2 : (convert 22 9 v2).run Tryd.prog W2 = .ok (.string As) W2 := by rw [HAs.out]; exact convB (o9.srcs W2.heap.size (Or.inr (Nat.le_refl _)))
                    refine nextS 2 rfl (by kernel_rfl) rfl (makeS (some 134) rfl (.string As) (w1 := W2) (by go_simp) ?_)
                    simp only [Act.put, List.setIfInBounds_toArray, List.set_cons_zero, List.set_cons_succ]
                    refine ⟨S2, ?_⟩
                    have hEE := HEE.out
                    refine takeS 8 (some 140) (.bool E) rfl rfl (by kernel_rfl) (by kernel_rfl) (by kernel_rfl) (fun _ _ _ h => h) rfl S2 (fun w' hw' => by go_simp) ?_
                    simp only [Act.put, List.setIfInBounds_toArray, List.set_cons_zero, List.set_cons_succ]
                    refine wpAnyH_done (by kernel_rfl) ?_ _
                    have fx5 := fx8.ext e9
                    have ex6 := ex58.ext e9
                    have s5 := sV.now e9
                    clear c2 o9 e9 sV hEE fx8 ex58 S0
                    cases E with
                    | false =>
                      have Hh : heal m b j leaves par (healN m b j leaves par k) k = healN m b j leaves par k := by rw [Hone.out]; rfl
                      have HH := Lib.hid Hh; clear Hh
                      go_wp2
                      exact ⟨⟨⟨k + 1, by omega, by go_num, S2, by rw [Hsucc.out, HH.out]; exact fx5⟩, ex6⟩, by simp [intOf]; omega⟩
                    | true =>
                      have Hh : heal m b j leaves par (healN m b j leaves par k) k = putAt (healN m b j leaves par k) ((T + j1) * b) M := by rw [Hone.out]; rfl
                      have hfl := healN_length m b j leaves par k
                      rcases fx5 with ⟨h0, _⟩ | ⟨g, capg, ev, hgw, hcapg, bf⟩
                      · rw [h0] at hfl
                        simp at hfl
                        omega
                      · rw [hfl, ← HL.out] at ev hcapg
                        injection ev with q1 _ q2
                        subst q1 q2
                        obtain ⟨adv, capv, sb, so, ev2, y2, y3, y4, y5, y6⟩ := s5
                        injection ev2 with q1 q3 q2
                        clear q3
                        subst q2
                        have y3' := y3 (by rw [HMl.out]; exact hl0)
                        rw [y3'] at q1
                        injection q1 with q1
                        injection q1 with q4 q5
                        subst q4 q5
                        obtain ⟨O, hO⟩ : ∃ O, O = (T + j1) * b := ⟨_, rfl⟩
                        have hO2 : ((T : Int) + (j1 : Int)) * (b : Int) = (O : Int) := by rw [hO]; push_cast; rfl
                        rw [← hO] at Hh hin
                        rw [← HL.out] at hin
                        obtain ⟨bp2, op⟩ := bf.put O M (by rw [hfl, ← HL.out, HMl.out]; exact hin)
                        have HH := Lib.hid Hh
                        have hsrc : ∀ t u, (M.map (Value.int .u8))[t]? = some u → W2.cell? ((⟨pg, 0, none⟩ : Addr).add t) = some u := by
                          intro t u hu
                          have ht : t < M.length := by simpa using (List.getElem?_eq_some_iff.1 hu).1
                          rw [Addr.add_mid, y5 t ht, ← hu, List.getElem?_map, List.getElem?_eq_getElem ht]; rfl
                        have hth : W2.there g O X := fun t ht => ⟨by rw [bf.cell (O + t) (by rw [hfl, ← HL.out]; omega)]; rfl, bf.frozen (O + t)⟩
                        have SS := Lib.hid hsrc
                        have Th := Lib.hid hth
                        have z3 := S2.size
                        clear hsrc hth y3 y4 y5 y6 y3' Hh hO bf
                        have c1 : O ≤ L := by omega
                        have c2 : ¬ (capf = O) := by omega
                        have c3 : O ≤ capf := by omega
                        go_wp2_with (refine list_copy rfl (.tmp 145) (.tmp 146) 22 22 rfl 5 Tryd.underlying22 sz5b g O (L - O) (capf - O) ⟨pg, 0, none⟩ X capq rfl rfl (M.map (Value.int .u8)) X (by rw [List.length_map]; exact HMl.out) (by show X = min X (L - O); omega) SS.out Th.out (by simp [Value.oneCell']) ?_)
                        have e10 : Ext w _ := op.below S2 hgw z3
                        have hpt : (putAt (healN m b j leaves par k) O M).length = L := by rw [putAt_length _ _ _ (by rw [hfl, ← HL.out, HMl.out]; exact hin), hfl, HL.out]
                        exact ⟨⟨⟨k + 1, by omega, by go_num, e10, by rw [Hsucc.out, HH.out]; exact Or.inr ⟨g, capf, by rw [hpt], hgw, by rw [hpt]; exact hcapg, bp2⟩⟩, ex6.only op⟩, by simp [intOf]; omega⟩
              · have hgd : goodL (madeL p m b c k (T + j1)) (T + j1) leaves = false := by
                  unfold goodL
                  rw [← HN.out]
                  simp [hzN]
                have hh : heal m b c leaves par (healN m b c leaves par k) k = healN m b c leaves par k := by rw [Hone.out, hgd]; rfl
                have Hh := Lib.hid hh; clear hh hgd
                have d5 : decide (N ≤ T + j1) = true := by simp; omega
                have d6 : ((N : Int) ≤ ((T + j1 : Nat) : Int)) := by omega
                have n6 : N ≤ T + j1 := by omega
                clear hzN
                go_wp2
                exact ⟨⟨⟨k + 1, by omega, by go_num, ex, by rw [Hsucc.out, Hh.out]; exact fx⟩, ex5⟩, by simp [intOf]; omega⟩
            · have t3 : ((p.length : Int) != (b : Int)) = true := by simp; omega
              have hh := heal_len m b c leaves par (healN m b c leaves par k) k p Hp.out (by omega)
              have Hh := Lib.hid hh; clear hh hpl2
              go_wp2
              exact ⟨⟨⟨k + 1, by omega, by go_num, ex, by rw [Hsucc.out, Hh.out]; exact fx⟩, ex5⟩, by simp [intOf]; omega⟩
          · have hh := heal_none m b c leaves par (healN m b c leaves par k) k hg1
            have Hh := Lib.hid hh; clear hh
            obtain ⟨y, hy⟩ : ∃ y, y = (gbad m b leaves c k).length := ⟨_, rfl⟩
            rw [← hy] at hg1 ⊢
            have t0 : ((y : Int) != 1) = true := by simp; omega
            clear hg1 hy
            go_wp2
            exact ⟨⟨⟨k + 1, by omega, by go_num, ex, by rw [Hsucc.out, Hh.out]; exact fx⟩, ex5⟩, by simp [intOf]; omega⟩
    · obtain rfl : k = n := by omega
      have sf := fx.src
      have hlv : LR wa (.slice adl N capl) leaves wa.heap.size := HLv.out.now ex
      have hfl := healN_length m b c leaves par k
      have B := Lib.hid (rbad_any (.slice adf L capf) (healN m b c leaves par k) b _ leaves wa sf hlv (by rw [hfl, ← HL.out]; exact hm) (by rw [← HN.out]; exact hll))
      by_cases hkG : k < G
      · have i0 : (k : Int) < (G : Int) := by omega
        have dG : decide (k < G) = true := by simpa using hkG
        have n1 : ¬ (k < P) := by have := Hnn.out; omega
        have i1 : ¬ ((k : Int) < (P : Int)) := by omega
        have dP : decide (k < P) = false := by simpa using n1
        clear n1 hkG hlt
        go_wp2_with fail
        refine B.out.mono ?_
        rintro e w2 ⟨u, rfl, e2, ir⟩
        have s2 := sf.now e2
        have e3 := ex.trans e2
        clear B
        go_wp2
        go_ret2
        exact ⟨_, _, rfl, e3, s2, ir⟩
      · have i0 : ¬ ((k : Int) < (G : Int)) := by omega
        have dG : decide (k < G) = false := by simpa using hkG
        clear hkG hlt
        go_wp2_with fail
        refine B.out.mono ?_
        rintro e w2 ⟨u, rfl, e2, ir⟩
        have s2 := sf.now e2
        have e3 := ex.trans e2
        clear B
        go_wp2
        go_ret2
        exact ⟨_, _, rfl, e3, s2, ir⟩
end Go.Proofs.YtdohngjhfonifaaDoor
