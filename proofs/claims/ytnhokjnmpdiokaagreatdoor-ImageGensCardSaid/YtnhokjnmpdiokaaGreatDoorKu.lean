/- The walk of ImageGens. No conditions: a contract. -/
import Derived.Test.YtnhokjnmpdiokaaGreatDoorKhM
namespace Go.Proofs.YtnhokjnmpdiokaaGreatDoor
open Go.RowKit Go.Sha Go.Pth
set_option linter.unusedSimpArgs false
set_option linter.unusedVariables false

def InvX (B T : Nat) (w6 : World) (gx NX : Nat) (vs : List Value) (M : Nat) (i : Value) (wr : World) : Prop := ∃ k : Nat, k ≤ M ∧ i = .int .i64 k ∧ Ovr (fun b => B ≤ b ∧ b < T) wr gx NX vs ∧ V.Chg (fun b => B ≤ b ∧ b < T) w6 wr
def InvY (w7 : World) (gy NY : Nat) (i : Value) (wr : World) : Prop := ∃ k : Nat, k ≤ NY ∧ i = .int .i64 k ∧ (0 < NY → ∃ cur, At wr gy cur 52 ∧ ∀ q, q < NY → ∃ m, cur[q * 6 + 3]? = some (.int .i64 m)) ∧ V.Chg (fun b => b = gy) w7 wr
def InvG (w : World) (sb ab N : Nat) (ds : List RD) (i : Value) (wr : World) : Prop := ∃ g : Nat, g ≤ N ∧ i = .int .i64 ((g + 1 : Nat) : Int) ∧ BG w sb ab g ds wr
set_option maxRecDepth 100000 in
set_option maxHeartbeats 32000000 in
theorem gens_any (v0 : Value) (ms : List Int) (n : Int) (w : World) (hK : KAt w) (h0 : IR w v0 ms) (hl : ms.length ≤ 9223372036854775807) (hb : B64 ms) :
    Calls Tryz.prog 6 #[v0, .int .i64 n] w fun e w' => e = .returned (.bool true) ∧ Ext w w' := by
  have HK := Lib.hid hK
  have HB := Lib.hid hb
  have IM := Lib.hid h0
  have HL := Lib.hid hl
  obtain ⟨ad0, cap0, b0, o0, ev0, ha0, hc0⟩ := h0
  have FR := Lib.hid (fresh_any 4194304 w hK (by omega) (by omega))
  have AW := Lib.hid (fun (wr : World) (e : Ext w wr) => (awake_any wr (hK.below e hK.lt)).mono (R' := fun e w' => e = .returned (.bool true) ∧ Ext w w') fun _ _ q => ⟨q.1, e.trans q.2⟩)
  obtain ⟨M, hM⟩ : ∃ n, n = ms.length := ⟨_, rfl⟩
  rw [← hM] at ev0 hl
  clear hK hb ha0 hc0 hM
  subst ev0
  unfold V.ptr at FR
  by_cases hbad : M = 0 ∨ 20 < M ∨ n < 1 ∨ 8 < n
  · have A1 := Lib.hid (AW.out w (Ext.refl w))
    by_cases m0 : M = 0
    · subst m0
      go_enter Tryz.func6, Tryz.ntmps6
      go_wp2_with fail
      refine (A1.out).mono ?_
      rintro e w2 ⟨rfl, e2⟩
      have F := Lib.hid e2
      clear e2 A1 FR
      go_wp2
      go_ret
      exact ⟨rfl, F.out⟩
    · have t1 : ((M : Int) == 0) = false := by simp; omega
      by_cases m1 : 20 < M
      · have t2 : decide ((20 : Int) < (M : Int)) = true := by simp; omega
        clear hbad m0 m1
        go_enter Tryz.func6, Tryz.ntmps6
        go_wp2_with fail
        refine (A1.out).mono ?_
        rintro e w2 ⟨rfl, e2⟩
        have F := Lib.hid e2
        clear e2 A1 FR
        go_wp2
        go_ret
        exact ⟨rfl, F.out⟩
      · have t2 : decide ((20 : Int) < (M : Int)) = false := by simp; omega
        by_cases m2 : n < 1
        · have t3 : decide (n < 1) = true := decide_eq_true m2
          clear hbad m0 m1 m2
          go_enter Tryz.func6, Tryz.ntmps6
          go_wp2_with fail
          refine (A1.out).mono ?_
          rintro e w2 ⟨rfl, e2⟩
          have F := Lib.hid e2
          clear e2 A1 FR
          go_wp2
          go_ret
          exact ⟨rfl, F.out⟩
        · have t3 : decide (n < 1) = false := decide_eq_false m2
          have t4 : decide (8 < n) = true := decide_eq_true (by omega)
          clear hbad m0 m1 m2
          go_enter Tryz.func6, Tryz.ntmps6
          go_wp2_with fail
          refine (A1.out).mono ?_
          rintro e w2 ⟨rfl, e2⟩
          have F := Lib.hid e2
          clear e2 A1 FR
          go_wp2
          go_ret
          exact ⟨rfl, F.out⟩
  · obtain ⟨N, rfl⟩ : ∃ N : Nat, n = (N : Int) := ⟨n.toNat, by omega⟩
    have t1 : ((M : Int) == 0) = false := by simp; omega
    have t2 : decide ((20 : Int) < (M : Int)) = false := by simp; omega
    have t3 : decide ((N : Int) < 1) = false := by simp; omega
    have t4 : decide ((8 : Int) < (N : Int)) = false := by simp; omega
    have hN8 : N ≤ 8 := by omega
    have hN1 : 1 ≤ N := by omega
    clear hbad
    go_enter Tryz.func6, Tryz.ntmps6
    go_wp2_with fail
    refine (FR.out).mono ?_
    rintro e w1 ⟨sb, ab, rfl, fr⟩
    obtain ⟨d, lw⟩ := Lw.fresh fr
    have BT := Lib.hid (show BG w sb ab 0 (refsK ms 20) w1 from Or.inl ⟨rfl, d, lw.lv⟩)
    clear FR fr lw t1 t2 t3 t4
    go_wp2
    go_loopw [8] (fun i wr => InvG w sb ab N (refsK ms 20) i wr) (fun i _ => N + 1 - (intOf i).toNat)
    case atStart => exact ⟨0, by omega, rfl, BT.out⟩
    case round =>
      obtain ⟨g, hg, rfl, bg⟩ := hrel
      have BGH := Lib.hid bg
      clear bg BT
      by_cases hlt : g < N
      · have i0 : decide (((g + 1 : Nat) : Int) ≤ (N : Int)) = true := by simp; omega
        have RF := Lib.hid (refs_w _ ms wr (ir_ext IM.out BGH.out.e) HB.out HL.out)
        go_wp2_with fail
        refine (RF.out).mono ?_
        rintro e w2 ⟨u2, l2, rfl, e2, o2, hd2⟩
        have hi2 : imageL (l2.map RV.d) = true := by rw [hd2]; exact refsK_image ms
        have hx20 := (small_image hi2).1
        obtain ⟨gx, capx, adx, eu, hax, wx⟩ := wx_of o2 (small_image hi2).2
        have CM := Lib.hid (BGH.out.commit (k := g + 1) rfl (by omega) HK.out e2 o2.1 hd2 (refsK_image ms) (refsK_byt ms))
        have HBB := Lib.hid (BGH.out.e.size)
        obtain ⟨NX, hNX⟩ : ∃ n, n = l2.length := ⟨_, rfl⟩
        obtain ⟨vs, hvs⟩ : ∃ vs, vs = l2.map RV.v := ⟨_, rfl⟩
        obtain ⟨B, hB⟩ : ∃ n, n = wr.heap.size := ⟨_, rfl⟩
        obtain ⟨T, hT⟩ : ∃ n, n = w2.heap.size := ⟨_, rfl⟩
        rw [← hB, ← hT] at CM
        rw [← hB] at HBB
        rw [← hNX] at eu hax hx20
        rw [← hNX, ← hvs, ← hB, ← hT] at wx
        have HX := Lib.hid wx
        have HAX := Lib.hid hax
        clear wx hax hNX hvs hB hT o2 hd2 e2 RF hi2
        subst eu
        unfold V.ptr at CM
        go_wp2_with fail
        refine (CM.out).mono ?_
        rintro e w4 ⟨rfl, ⟨n4, d4, hn4, lx4⟩, hk4⟩
        have LX4 := Lib.hid lx4
        have WX4 := Lib.hid (HX.out.keep hk4)
        have GE := Lib.hid (gen_any w4 ab (g + 1) lx4.cell)
        unfold V.ptr at GE
        clear lx4 hk4 CM HX
        go_wp2_with fail
        refine (GE.out).mono ?_
        rintro e w4' ⟨rfl, rfl⟩
        have CN := Lib.hid (refuse_any ab _ _ _ _ (bad_row w4) (by simp) bad_image)
        unfold V.ptr at CN
        clear GE
        go_wp2_with fail
        refine (CN.out).mono ?_
        rintro e w5 ⟨rfl, e5⟩
        have E5 := (Ext.alloc w4 (.cells #[.string ⟨#[46, 46]⟩, .int .i64 1, .int .i64 0, .int .i64 0, .int .u64 0, .slice none 0 0] 52)).trans e5
        have LX5 := Lib.hid (LX4.out.ext E5)
        have WX5 := Lib.hid (WX4.out.ext E5)
        have GE := Lib.hid (gen_any w5 ab (g + 1) LX5.out.cell)
        unfold V.ptr at GE
        clear e5 E5 CN LX4 WX4
        go_wp2_with fail
        refine (GE.out).mono ?_
        rintro e w5' ⟨rfl, rfl⟩
        clear GE
        go_wp2
        go_loopw [10] (fun i wr => InvX B T w5 gx NX vs NX i wr) (fun i _ => NX - (intOf i).toNat)
        case atStart => exact ⟨0, by omega, rfl, WX5.out, V.Chg.refl _ _⟩
        case round =>
          obtain ⟨k, hk, rfl, wx, cg⟩ := hrel
          by_cases hlt2 : k < NX
          · have ea := HAX.out (by omega)
            subst ea
            have k0 : (k : Int) < (NX : Int) := by omega
            have k1 : (0 : Int) ≤ (k : Int) := by omega
            obtain ⟨hy, cur, ha, hc⟩ := wx.row (by omega)
            obtain ⟨⟨p, h0⟩, h5⟩ := hc k hlt2
            have z0 := (ha.cell (k * 6)).trans h0
            have y0 := ha.frozen (k * 6)
            obtain ⟨vk, hvk⟩ : ∃ v, vs[k]? = some v := ⟨_, List.getElem?_eq_getElem (by rw [wx.len]; exact hlt2)⟩
            have HVK := Lib.hid hvk
            have WX6 := Lib.hid (wx.setp k hlt2 ⟨#[122, 122]⟩)
            have CG6 := Lib.hid (chg_set cg hy (k * 6) (.string ⟨#[122, 122]⟩))
            obtain ⟨adr, nr, capr, evk, hnr⟩ : ∃ adr nr capr, vk = .slice adr nr capr ∧ nr ≤ 1000000 := by
              rcases wx.root vk (List.mem_of_getElem? hvk) with h | ⟨g, n, cap, _, h, hb, _⟩
              · exact ⟨_, _, _, h, by omega⟩
              · exact ⟨_, _, _, h, hb⟩
            subst evk
            clear wx cg ha hc h5 h0 hvk
            go_upto_region 16 with fail
            clear z0 y0
            generalize wr.setCell ⟨gx, k * 6, none⟩ (.string ⟨#[122, 122]⟩) = w6 at *
            go_wp2
            go_loopw [11] (fun i wr => InvX B T w5 gx NX vs nr i wr) (fun i _ => nr - (intOf i).toNat)
            case atStart => exact ⟨0, by omega, rfl, WX6.out, CG6.out⟩
            case round =>
              obtain ⟨j, hj, rfl, wx3, cg3⟩ := hrel
              obtain ⟨hy3, cur3, ha3, hc3⟩ := wx3.row (by omega)
              have z5 := (ha3.cell (k * 6 + 5)).trans ((hc3 k hlt2).2.trans HVK.out)
              by_cases hlt3 : j < nr
              · have j0 : (j : Int) < (nr : Int) := by omega
                have j1 : (0 : Int) ≤ (j : Int) := by omega
                obtain h | ⟨gr, n', cap', cur', e1, _, hyr, har, hcr⟩ := wx3.root _ (List.mem_of_getElem? HVK.out)
                · injection h with _ h _
                  omega
                · injection e1 with e1 e2 _
                  subst e1 e2
                  obtain ⟨c, hcj⟩ := hcr j hlt3
                  have zj := (har.cell j).trans hcj
                  have yj := har.frozen j
                  have WX7 := Lib.hid (fun c : Int => wx3.setb (List.mem_of_getElem? HVK.out) j c)
                  have CG7 := Lib.hid (fun c : Int => chg_set cg3 hyr j (.int .u8 c))
                  clear wx3 cg3 ha3 hc3 har hcr hcj hyr hy3
                  go_wp2
                  exact ⟨⟨j + 1, by omega, by go_num, WX7.out _, CG7.out _⟩, by simp [intOf]; omega⟩
              · have j0 : decide ((j : Int) < (nr : Int)) = false := by simp; omega
                have WX7 := Lib.hid wx3
                have CG7 := Lib.hid cg3
                clear wx3 cg3 ha3 hc3 hy3
                go_wp2
                exact ⟨⟨k + 1, by omega, by go_num, WX7.out, CG7.out⟩, by simp [intOf]; omega⟩
          · have k0 : decide ((k : Int) < (NX : Int)) = false := by simp; omega
            have LV6 := Lib.hid (LX5.out.chg cg fun i hi => Nat.le_trans HBB.out hi.1)
            have AL := Lib.hid (LV6.out.all (refsK_image ms))
            unfold V.ptr at AL
            clear wx cg
            go_wp2_with fail
            refine (AL.out).mono ?_
            rintro e w7 ⟨u7, l7, rfl, e7, o7, hd7⟩
            obtain ⟨gy, capy, ady, ey, hgy, hay, hcy⟩ := meta_row o7
            have hy20 := (small_image (show imageL (l7.map RV.d) = true by rw [hd7]; exact refsK_image ms)).1
            have LX7 := Lib.hid (LvX.of (Y := fun b => b = gy) LV6.out (fun i hi => by rw [hi]; exact hgy) e7)
            have HGY := Lib.hid (Nat.le_trans LV6.out.e.size hgy)
            obtain ⟨NY, hNY⟩ : ∃ n, n = l7.length := ⟨_, rfl⟩
            rw [← hNY] at ey hay hcy hy20
            have HAY := Lib.hid hay
            have HCY := Lib.hid hcy
            clear e7 o7 hd7 hay hcy hgy hNY AL
            subst ey
            go_wp2
            go_loopw [13] (fun i wr => InvY w7 gy NY i wr) (fun i _ => NY - (intOf i).toNat)
            case atStart => exact ⟨0, by omega, rfl, HCY.out, V.Chg.refl _ _⟩
            case round =>
              obtain ⟨q, hq, rfl, hcq, cgq⟩ := hrel
              by_cases hlt4 : q < NY
              · have ea := HAY.out (by omega)
                subst ea
                have q0 : (q : Int) < (NY : Int) := by omega
                have q1 : (0 : Int) ≤ (q : Int) := by omega
                obtain ⟨cur, ha, hc⟩ := hcq (by omega)
                obtain ⟨m, hm⟩ := hc q hlt4
                have z3 := (ha.cell (q * 6 + 3)).trans hm
                have y3 := ha.frozen (q * 6 + 3)
                have CG8 := Lib.hid (fun c : Int => chg_set cgq rfl (q * 6 + 3) (.int .i64 c))
                have AT8 := Lib.hid (fun c : Int => (ha.set (q * 6 + 3) (.int .i64 c)))
                have HC8 := Lib.hid hc
                clear hcq cgq ha hc hm
                go_wp2
                refine ⟨⟨q + 1, by omega, by go_num, fun _ => ⟨_, AT8.out _, fun q' hq' => ?_⟩, CG8.out _⟩, by simp [intOf]; omega⟩
                obtain ⟨m', hm'⟩ := HC8.out q' hq'
                rw [set_get hm']
                split
                · exact ⟨_, rfl⟩
                · exact ⟨_, rfl⟩
              · have q0 : decide ((q : Int) < (NY : Int)) = false := by simp; omega
                have F := Lib.hid (show BG w sb ab (g + 1) (refsK ms 20) wr from Or.inr ⟨by omega, d4, (LX7.out.chg cgq fun i hi => by rw [hi]; exact HGY.out).up hn4⟩)
                clear hcq cgq
                go_wp2
                exact ⟨⟨g + 1, by omega, by go_num, F.out⟩, by simp [intOf]; omega⟩
      · have i0 : decide (((g + 1 : Nat) : Int) ≤ (N : Int)) = false := by simp; omega
        obtain rfl : g = N := by omega
        obtain ⟨_, d2, lv⟩ := BGH.out.resolve_left (by rintro ⟨q, _⟩; omega)
        have OP := Lib.hid (lv.open2 (by omega) HK.out (refsK_image ms) (refsK_byt ms) (refsK_tim ms HB.out) ⟨by omega, by omega⟩)
        unfold V.ptr at OP
        clear lv hlt
        go_wp2_with fail
        refine (OP.out).mono ?_
        rintro e w2 ⟨ab2, rfl, e2, sh⟩
        have SH := Lib.hid sh
        have RF := Lib.hid (refs_any _ ms w2 (ir_ext IM.out e2) HB.out HL.out)
        have E2 := Lib.hid e2
        clear sh e2 OP
        go_wp2_with fail
        refine (RF.out).mono ?_
        rintro e w3 ⟨u3, l3, rfl, e3, o3, hd3⟩
        have SA := Lib.hid (SH.out w3 e3 (fun _ => False) u3 l3 (o3.rr fun _ k => k.elim) hd3).1
        obtain ⟨ad3, cap3, ev3⟩ := o3.len
        obtain ⟨N3, hN3⟩ : ∃ n, n = l3.length := ⟨_, rfl⟩
        rw [← hN3] at ev3
        have E3 := Lib.hid e3
        clear e3 o3 hd3 hN3 RF
        subst ev3
        go_wp2_with fail
        refine (SA.out).mono ?_
        rintro e w4 ⟨rfl, e4⟩
        have E4 := Lib.hid (E3.out.trans e4)
        have RF := Lib.hid (refs_any _ ms w4 (ir_ext IM.out (E2.out.trans E4.out)) HB.out HL.out)
        clear e4 SA E3
        go_wp2_with fail
        refine (RF.out).mono ?_
        rintro e w5 ⟨u5, l5, rfl, e5, o5, hd5⟩
        have SB := Lib.hid (SH.out w5 (E4.out.trans e5) (fun _ => False) u5 l5 (o5.rr fun _ k => k.elim) hd5).2
        obtain ⟨ad5, cap5, ev5⟩ := o5.len
        obtain ⟨N5, hN5⟩ : ∃ n, n = l5.length := ⟨_, rfl⟩
        rw [← hN5] at ev5
        have E5 := Lib.hid (E4.out.trans e5)
        clear e5 o5 hd5 hN5 RF
        subst ev5
        go_wp2_with fail
        refine (SB.out).mono ?_
        rintro e w6 ⟨rfl, e6⟩
        have A1 := Lib.hid (AW.out w6 (E2.out.trans (E5.out.trans e6)))
        clear e6 SB
        go_wp2_with fail
        refine (A1.out).mono ?_
        rintro e w7 ⟨rfl, e7⟩
        have F := Lib.hid e7
        clear e7 A1
        go_wp2
        go_ret
        exact ⟨rfl, F.out⟩
end Go.Proofs.YtnhokjnmpdiokaaGreatDoor
