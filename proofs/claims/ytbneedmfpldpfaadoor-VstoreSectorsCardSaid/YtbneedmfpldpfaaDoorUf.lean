/- The walk of VstoreSectors. -/
import Derived.Test.YtbneedmfpldpfaaDoorUe
import Derived.Laws.Small
set_option linter.unusedSimpArgs false
namespace Go.Proofs.YtbneedmfpldpfaaDoor
open Go.RowKit Go.Pth

def InvS2 (w : World) (A U : Nat) (i : Value) (wr : World) : Prop := ∃ t : Nat, A ≤ t ∧ t ≤ U ∧ i = .int .i64 t ∧ w = wr
/-- How many sectors were touched ahead. -/
def cntT (F T : Nat) : Nat → Nat
  | 0 => 0
  | k + 1 => cntT F T k + (if touched F T k then 1 else 0)
def InvS1 (w : World) (F T C : Nat) (n k : Value) (wr : World) : Prop := ∃ q : Nat, q ≤ C ∧ k = .int .i64 q ∧ n = .int .i64 (cntT F T q : Int) ∧ w = wr
set_option maxRecDepth 100000 in
set_option maxHeartbeats 32000000 in
theorem sectors_law (old x : List Int) (off pick : Int) (ad0 ad1 : Option Addr) (cap0 cap1 bb0 o0 bb1 o1 : Nat) (w : World) (hb0 : Bin w (.slice ad0 old.length cap0) old ad0 cap0 bb0 o0) (hy0 : ∀ y ∈ old, 0 ≤ y ∧ y < 256) (hb1 : Bin w (.slice ad1 x.length cap1) x ad1 cap1 bb1 o1) (hy1 : ∀ y ∈ x, 0 ≤ y ∧ y < 256)
    (hp : -9223372036854775808 ≤ pick ∧ pick ≤ 9223372036854775807) :
    Calls Tryd.prog 4 #[.slice ad0 old.length cap0, .int .i64 off, .slice ad1 x.length cap1, .int .i64 pick] w fun e w' => e = .returned (.bool true) ∧ Ext w w' := by
  obtain ⟨n0, hn0⟩ : ∃ n, n = old.length := ⟨_, rfl⟩
  obtain ⟨n1, hn1⟩ : ∃ n, n = x.length := ⟨_, rfl⟩
  have HN0 := Lib.hid hn0
  have HN1 := Lib.hid hn1
  have HB0 := Lib.hid hb0
  have HB1 := Lib.hid hb1
  have HY0 := Lib.hid hy0
  have HY1 := Lib.hid hy1
  rw [← hn0] at HB0 ⊢
  rw [← hn1] at HB1 ⊢
  clear hn0 hn1 hb0 hb1 hy0 hy1
  by_cases h0 : 200 < n0
  · have d0 : decide ((200 : Int) < (n0 : Int)) = true := decide_eq_true (by omega)
    clear h0
    have hE := Ext.refl w
    go_enter Tryd.func4, Tryd.ntmps4
    go_wp2_with (go_at_call 6; refine (awake_acc hE).mono ?_; rintro e w' ⟨rfl, hE⟩)
    go_ret
    exact ⟨rfl, hE⟩
  have d0 : decide ((200 : Int) < (n0 : Int)) = false := decide_eq_false (by omega)
  by_cases h1 : 200 < n1
  · have d1 : decide ((200 : Int) < (n1 : Int)) = true := decide_eq_true (by omega)
    clear h1
    have hE := Ext.refl w
    go_enter Tryd.func4, Tryd.ntmps4
    go_wp2_with (go_at_call 6; refine (awake_acc hE).mono ?_; rintro e w' ⟨rfl, hE⟩)
    go_ret
    exact ⟨rfl, hE⟩
  have d1 : decide ((200 : Int) < (n1 : Int)) = false := decide_eq_false (by omega)
  by_cases h2 : off < 0
  · have d2 : decide (off < 0) = true := decide_eq_true (by omega)
    clear h2
    have hE := Ext.refl w
    go_enter Tryd.func4, Tryd.ntmps4
    go_wp2_with (go_at_call 6; refine (awake_acc hE).mono ?_; rintro e w' ⟨rfl, hE⟩)
    go_ret
    exact ⟨rfl, hE⟩
  have d2 : decide (off < 0) = false := decide_eq_false (by omega)
  by_cases h3 : 200 < off
  · have d3 : decide (200 < off) = true := decide_eq_true (by omega)
    clear h3
    have hE := Ext.refl w
    go_enter Tryd.func4, Tryd.ntmps4
    go_wp2_with (go_at_call 6; refine (awake_acc hE).mono ?_; rintro e w' ⟨rfl, hE⟩)
    go_ret
    exact ⟨rfl, hE⟩
  have d3 : decide (200 < off) = false := decide_eq_false (by omega)
  obtain ⟨O, rfl⟩ := Int.eq_ofNat_of_zero_le (show 0 ≤ off by omega)
  have k0 : n0 ≤ 200 := by omega
  have k1 : n1 ≤ 200 := by omega
  have k2 : O ≤ 200 := by omega
  clear h0 h1 h2 h3
  have NW := Lib.hid (new_ok 1048576 w (by omega) (by omega))
  have W := wr_facts 2 old O x
  go_enter Tryd.func4, Tryd.ntmps4
  go_wp2_with fail
  refine (NW.out).mono ?_
  rintro e w1 ⟨rfl, e1, V1, L1, r1, l1⟩
  obtain ⟨b, hbb⟩ : ∃ b, b = w.heap.size := ⟨_, rfl⟩
  rw [← hbb] at r1 ⊢
  clear hbb NW
  have CA := Lib.hid (create_of b ⟨#[102]⟩ 0 w1 (add_ok b (SV.new 1048576) V1 L1 ⟨#[102]⟩ 1 w1 r1 (new_fit 1048576) (by rw [tl102]; exact begE_ok rfl _ vf) (by rw [tl102]; exact new_takes 1048576 _ pf) rfl))
  simp only [tl102] at CA
  have HW := Lib.hid W
  clear W r1
  unfold ptr at *
  go_wp2_with fail
  refine (CA.out).mono ?_
  rintro e w2 ⟨rfl, a, V2, L2, na, r2, t2⟩
  rw [sf_made] at r2
  obtain ⟨E2, O2⟩ := own_step e1 l1 t2
  obtain ⟨c0, p0, B0, m0⟩ := bin_apart HB0.out E2 r2 O2
  have WA := Lib.hid (write_ok b _ V2 L2 ⟨#[102]⟩ 0 old (.slice ad0 n0 cap0) ad0 cap0 c0 p0 a w2 r2 (sf_fit _ _ _ _ _ _ (by omega) (by omega) (by simp)) (by rw [tl102]; exact sf_begE _ _ _ _ _ _) (by rw [tl102]; exact sf_file _ _ _ _ _ _ rfl) B0 m0 HY0.out (by rw [← HN0.out]; omega) (by rw [sf_used, sf_nd, ← HN0.out]; simp only [newN, List.length_nil, SF]; omega))
  rw [show ((0 : Nat) : Int) = 0 from rfl, sf_beg, sf_wrote] at WA
  unfold ptr at WA
  clear r2 t2 na CA e1 l1 B0 m0
  go_wp2_with fail
  refine (WA.out).mono ?_
  rintro e w3 ⟨rfl, V3, L3, r3, t3⟩
  obtain ⟨E3, O3⟩ := own_step E2 O2 t3
  have hk3 : ({ (newN 1 1).write 0 old with stamp := 1 + 1 } : NV).kind = 1 := by unfold NV.write; split <;> rfl
  have SA := Lib.hid (sync_ok b _ V3 L3 ⟨#[102]⟩ a w3 r3 (sf_fit _ _ _ _ _ _ (by omega) (by omega) (by simp)) (by rw [tl102]; exact sf_begE _ _ _ _ _ _) (by rw [tl102]; exact sf_file _ _ _ _ _ _ hk3))
  rw [sf_beg, sf_sync, show (1 : Int) + 1 = 2 from rfl, nb_sync] at SA
  unfold ptr at SA
  clear r3 t3 WA E2 O2 hk3
  go_wp2_with fail
  refine (SA.out).mono ?_
  rintro e w4 ⟨rfl, V4, L4, r4, t4⟩
  obtain ⟨E4, O4⟩ := own_step E3 O3 t4
  have DA := Lib.hid (syncdir_one b _ V4 L4 ff a w4 r4 (sf_fit _ _ _ _ _ _ (by omega) (by omega) (by simp)) rfl rfl rfl (by simp [SF]))
  rw [sf_beg, sf_dir] at DA
  unfold ptr at DA
  clear r4 t4 SA E3 O3
  go_wp2_with fail
  refine (DA.out).mono ?_
  rintro e w5 ⟨rfl, V5, L5, r5, t5⟩
  obtain ⟨E5, O5⟩ := own_step E4 O4 t5
  obtain ⟨c1, p1, B1, m1⟩ := bin_apart HB1.out E5 r5 O5
  have WB := Lib.hid (write_ok b _ V5 L5 ⟨#[102]⟩ O x (.slice ad1 n1 cap1) ad1 cap1 c1 p1 a w5 r5 (sf_fit _ _ _ _ _ _ (by omega) (by omega) (by simp)) (by rw [tl102]; exact sf_begE _ _ _ _ _ _) (by rw [tl102]; exact sf_file _ _ _ _ _ _ rfl) B1 m1 HY1.out (by rw [← HN1.out]; omega) (by rw [sf_used, sf_nd, ← HN1.out]; have := HN0.out; simp only [NB, SF]; omega))
  rw [sf_beg, sf_wrote] at WB
  unfold ptr at WB
  obtain ⟨N, hN⟩ : ∃ N, N = (NB 2 old).write O x := ⟨_, rfl⟩
  rw [← hN] at WB HW
  clear r5 t5 DA E4 O4 B1 m1 hN
  go_wp2_with fail
  refine (WB.out).mono ?_
  rintro e w6 ⟨rfl, V6, L6, r6, t6⟩
  obtain ⟨E6, O6⟩ := own_step E5 O5 t6
  have RD := Lib.hid (read_ok b _ V6 L6 ⟨#[102]⟩ a w6 r6 (by simp [SF]) (by rw [tl102]; exact sf_file _ _ _ _ _ _ HW.out.2.2.1))
  rw [sf_nd] at RD
  unfold ptr at RD
  have R6 := Lib.hid r6
  clear r6 t6 WB E5 O5 O6
  go_wp2_with fail
  refine (RD.out).mono ?_
  rintro e w7 ⟨v7, rfl, r7, e7, f7⟩
  have r7' : Row w7 5 1 v7 N.now.length (bts N.now) := r7
  have E7 := E6.trans e7
  have R7 := Lib.hid (R6.out.ext e7)
  have ea := Ext.alloc w7 (.cells #[.int .i64 0, .int .i64 pick] 3)
  have R8 := R7.out.ext ea
  have CR := Lib.hid (crash_any b _ V6 L6 (.slice (some ⟨w7.heap.size, 0, none⟩) 2 2) 0 pick ff a _ R8 (ints_two w7 0 pick) (by simp [SF]) hp (fun w' he => held_none b _ V6 L6 0 w' (R8.ext he) rfl (by simp [SF])))
  rw [sf_nd] at CR
  unfold ptr at CR
  clear r7 f7 R6 R7 R8 RD E6
  obtain ⟨ad7, k7, hv7, -⟩ := r7'.shape
  subst hv7
  have RW7 := Lib.hid r7'
  clear r7'
  go_wp2_with fail
  refine (CR.out).mono ?_
  rintro e w9 ⟨b9, a9, V9, L9, rfl, e9, r9⟩
  have E9 := (E7.trans ea).trans e9
  have RW9 := Lib.hid (RW7.out.ext (ea.trans e9))
  have RD2 := Lib.hid (read_ok b9 _ V9 L9 ⟨#[102]⟩ a9 w9 r9 (by simp [SV.left1]) (by rw [tl102]; exact left_file _ _ _ _ HW.out.2.2.1))
  unfold ptr at RD2
  clear CR r9 RW7 e7 ea e9 E7
  simp only [SV.left1, upd_same] at RD2
  go_wp2_with fail
  refine (RD2.out).mono ?_
  rintro e w10 ⟨v10, rfl, r10, e10, f10⟩
  obtain ⟨LW, hLW⟩ : ∃ n, n = N.now.length := ⟨_, rfl⟩
  have HLW := Lib.hid hLW
  have hcl := crun_len (pick := pick) HW.out.1 HW.out.2.1 N.loose.length (Nat.le_refl _)
  obtain ⟨X, hX⟩ : ∃ X, X = (crun N.now N.kept N.loose pick N.loose.length).1 := ⟨_, rfl⟩
  have hXl : X.length = LW := by rw [hX, hcl.1, hLW]
  replace r10 : Row w10 5 1 v10 X.length (bts X) := by rw [hX]; exact r10
  rw [hXl] at r10
  obtain ⟨F, hF⟩ : ∃ F, F = min O n0 := ⟨_, rfl⟩
  obtain ⟨T, hT⟩ : ∃ T, T = O + n1 := ⟨_, rfl⟩
  have hLWb : LW ≤ 400 := by have := HW.out.2.2.2.2.2.2; rw [← hLW, ← HN0.out, ← HN1.out] at this; omega
  have hcnt : ∀ k, k ≤ secs LW → cntl N.loose k = cntT F T k := by
    intro k
    induction k with
    | zero => intro _; rfl
    | succ k ih =>
      intro hk
      unfold cntl cntT
      rw [ih (by omega), HW.out.2.2.2.2.1 k (by rw [← hLW]; omega), ← HN0.out, ← HN1.out, ← hF, ← hT]
  have hXi : ∀ i, i < LW → X[i]?.getD 0 = if touched F T (i / 16) = true then (if digit pick (cntT F T (i / 16)) = true then N.now[i]?.getD 0 else old[i]?.getD 0) else N.now[i]?.getD 0 := fun i hi => by
    have hsec : i / 16 < secs LW := by unfold secs; omega
    have h1 := crun_get pick HW.out.1 HW.out.2.1 N.loose.length (by rw [HW.out.2.1]; exact Nat.le_refl _) i (by rw [← hLW]; exact hi)
    rw [← hX, HW.out.2.2.2.1 i, HW.out.2.2.2.2.1 (i / 16) (by rw [← hLW]; exact hsec), hcnt _ (by omega), ← HN0.out, ← HN1.out, ← hF, ← hT, HW.out.2.1, ← hLW] at h1
    rw [h1]
    have h16 : i < 16 * secs LW := by unfold secs; omega
    by_cases ht : touched F T (i / 16) = true
    · rw [if_pos ht]
      by_cases hd : digit pick (cntT F T (i / 16)) = true
      · rw [if_pos ⟨h16, ht, hd⟩, if_pos hd]
      · rw [if_neg (fun e => hd e.2.2), if_neg hd]
    · rw [if_neg (fun e => ht e.2.1), if_neg ht]
      exact (HW.out.2.2.2.2.2.1 i (by rw [← hLW]; exact hi) (by rw [← HN0.out, ← HN1.out, ← hF, ← hT]; simpa using ht)).symm
  have HXi := Lib.hid hXi
  have E10 := Lib.hid (E9.trans e10)
  have rw7 := RW9.out.ext e10
  rw [← hLW] at rw7 ⊢
  obtain ⟨ad10, k10, hv10, -⟩ := r10.shape
  subst hv10
  have CW0 := Lib.hid (fun g (hg : ad7 = some ⟨g, 0, none⟩) i (hi : i < LW) => (by subst hg; rw [(Row.cell rw7 i hi).1, bts, List.getElem?_map, List.getElem?_eq_getElem (by rw [← hLW]; exact hi)]; rfl : w10.cell? ⟨g, i, none⟩ = some (.int .u8 (N.now[i]?.getD 0))))
  have CX0 := Lib.hid (fun g (hg : ad10 = some ⟨g, 0, none⟩) i (hi : i < LW) => (by subst hg; rw [(Row.cell r10 i hi).1, bts, List.getElem?_map, List.getElem?_eq_getElem (by rw [hXl]; exact hi)]; rfl : w10.cell? ⟨g, i, none⟩ = some (.int .u8 (X[i]?.getD 0))))
  have CO := Lib.hid (fun i (hi : i < n0) => ((HB0.out.ext E10.out).cell i (.int .u8 (old[i]?.getD 0)) (by rw [bts, List.getElem?_map, List.getElem?_eq_getElem (by rw [← HN0.out]; exact hi)]; rfl)))
  have OW := Lib.hid (fun (h : 0 < LW) => Row.own rw7 h)
  have OX := Lib.hid (fun (h : 0 < LW) => Row.own r10 h)
  have hmin : ∀ w, (Builtin.min_ #[3, 3] 3 #[.int .i64 (O : Int), .int .i64 (n0 : Int)]).run Tryd.prog w = .ok (.int .i64 (F : Int)) w := fun w => by
    rw [run_min_int2]
    have : (if (n0 : Int) < (O : Int) then (n0 : Int) else (O : Int)) = (F : Int) := by split <;> omega
    rw [this]
  have hTi : (O : Int) + (n1 : Int) = (T : Int) := by omega
  obtain ⟨C, hC⟩ : ∃ C, C = secs LW := ⟨_, rfl⟩
  have hCb : C ≤ 30 := by rw [hC]; unfold secs; omega
  have HC := Lib.hid hC
  have HF := Lib.hid hF
  have HTn := Lib.hid hT
  have cnl : ∀ k, cntT F T k ≤ k := by
    intro k
    induction k with
    | zero => exact Nat.le_refl _
    | succ k ih => unfold cntT; split <;> omega
  have CNL := Lib.hid cnl
  have t9 : ((LW : Int) != (LW : Int)) = false := by simp
  clear r10 rw7 RW9 e10 E9 hX hXl hcl hXi hcnt hLW hC hF hT RD2 f10 cnl
  go_wp2
  go_loopw [16, 18] (fun n k wr => InvS1 w10 F T C n k wr) (fun _ k _ => C - (intOf k).toNat)
  case atStart => exact ⟨0, by omega, rfl, rfl, rfl⟩
  case round =>
    obtain ⟨q, hq, rfl, rfl, rfl⟩ := hrel
    obtain ⟨A, hA⟩ : ∃ A, A = 16 * q := ⟨_, rfl⟩
    have hAi : (q : Int) * 16 = (A : Int) := by omega
    have HA := Lib.hid hA
    by_cases hlt : q < C
    · have hAL : A < LW := by have := HC.out; unfold secs at this; omega
      have i0 : (A : Int) < (LW : Int) := by omega
      have dA : decide (A < LW) = true := decide_eq_true hAL
      obtain ⟨A2, hA2⟩ : ∃ A2, A2 = 16 * (q + 1) := ⟨_, rfl⟩
      have hA2i : ((q : Int) + 1) * 16 = (A2 : Int) := by omega
      have HA2 := Lib.hid hA2
      obtain ⟨U, hU⟩ : ∃ U, U = min A2 LW := ⟨_, rfl⟩
      have hmin2 : ∀ w, (Builtin.min_ #[3, 3] 3 #[.int .i64 (A2 : Int), .int .i64 (LW : Int)]).run Tryd.prog w = .ok (.int .i64 (U : Int)) w := fun w => by
        rw [run_min_int2]
        have : (if (LW : Int) < (A2 : Int) then (LW : Int) else (A2 : Int)) = (U : Int) := by split <;> omega
        rw [this]
      have hAU : A ≤ U := by omega
      have hU1 : U ≤ LW := by omega
      have hU2 : U ≤ A2 := by omega
      have htc : touched F T q = (decide (F < T) && (decide (A < T) && decide (F < A2))) := by unfold touched; rw [hA, hA2]
      have hcs : cntT F T (q + 1) = cntT F T q + (if touched F T q then 1 else 0) := rfl
      have hcn := CNL.out q
      have HTC := Lib.hid htc
      have HCS := Lib.hid hcs
      obtain ⟨gw, kw, hvw, hw1, hw2⟩ := OW.out (by omega)
      obtain ⟨gx, kx, hvx, hx1, hx2⟩ := OX.out (by omega)
      injection hvw with q1 _ q2
      injection hvx with q3 _ q4
      subst q1 q2 q3 q4
      have CW := Lib.hid (CW0.out gw rfl)
      have CX := Lib.hid (CX0.out gx rfl)
      simp only [maxLen] at hw2 hx2
      clear hA hA2 hU htc hcs
      generalize hcc : cntT F T q = cc at *
      have HCC := Lib.hid hcc
      clear hcc
      go_upto_region 18 with fail
      go_cut [19] from 114 to 135 (fun s19 wx => s19 = .bool (touched F T q) ∧ w10 = wx)
      case first =>
        cases d1 : decide (F < T) with
        | false =>
          rw [d1] at HTC
          go_wp2
          go_meet
          exact ⟨by rw [HTC.out]; rfl, rfl⟩
        | true =>
          cases d2 : decide (A < T) with
          | false =>
            rw [d1, d2] at HTC
            go_wp2
            go_meet
            exact ⟨by rw [HTC.out]; rfl, rfl⟩
          | true =>
            cases d3 : decide (F < A2) with
            | false =>
              rw [d1, d2, d3] at HTC
              go_wp2
              go_meet
              exact ⟨by rw [HTC.out]; rfl, rfl⟩
            | true =>
              rw [d1, d2, d3] at HTC
              go_wp2
              go_meet
              exact ⟨by rw [HTC.out]; rfl, rfl⟩
      case rest =>
        obtain ⟨rfl, rfl⟩ := hcut
        clear HTC
        cases ht : touched F T q with
        | false =>
          rw [ht] at HCS
          have HT0 := Lib.hid ht
          clear ht
          go_wp2
          go_loopw [21] (fun i wr => InvS2 w10 A U i wr) (fun i _ => U - (intOf i).toNat)
          case atStart => exact ⟨A, Nat.le_refl _, by omega, rfl, rfl⟩
          case round =>
            obtain ⟨t, ht0, ht1, rfl, rfl⟩ := hrel
            by_cases htt : t < U
            · have htL : t < LW := by omega
              have htq : t / 16 = q := by have := HA.out; have := HA2.out; omega
              have cw := (CW.out t htL)
              have cx := (CX.out t htL)
              have jl : (t : Int) < (LW : Int) := by omega
              have ju : (t : Int) < (U : Int) := by omega
              have du : decide (t < U) = true := decide_eq_true htt
              have hv := HXi.out t htL
              rw [htq, HT0.out, if_neg (by simp)] at hv
              rw [hv] at cx
              clear hv htt
              generalize N.now[t]?.getD 0 = y at *
              go_wp2
              exact ⟨⟨t + 1, by omega, by omega, by go_num, rfl⟩, by simp [intOf]; omega⟩
            · have ju : ¬ ((t : Int) < (U : Int)) := by omega
              have du : decide (t < U) = false := decide_eq_false htt
              clear htt
              go_wp2
              exact ⟨⟨q + 1, by omega, by go_num, by rw [HCS.out]; rfl, rfl⟩, by simp [intOf]; omega⟩
        | true =>
          rw [ht] at HCS
          have HT0 := Lib.hid ht
          clear ht
          cases hd : digit pick cc with
          | true =>
            have HD := Lib.hid hd
            unfold digit at hd
            go_wp2
            go_loopw [21] (fun i wr => InvS2 w10 A U i wr) (fun i _ => U - (intOf i).toNat)
            case atStart => exact ⟨A, Nat.le_refl _, by omega, rfl, rfl⟩
            case round =>
              obtain ⟨t, ht0, ht1, rfl, rfl⟩ := hrel
              by_cases htt : t < U
              · have htL : t < LW := by omega
                have htq : t / 16 = q := by have := HA.out; have := HA2.out; omega
                have cw := (CW.out t htL)
                have cx := (CX.out t htL)
                have jl : (t : Int) < (LW : Int) := by omega
                have ju : (t : Int) < (U : Int) := by omega
                have du : decide (t < U) = true := decide_eq_true htt
                have hv := HXi.out t htL
                rw [htq, HT0.out, if_pos rfl, HCC.out, HD.out, if_pos rfl] at hv
                rw [hv] at cx
                clear hv htt
                generalize N.now[t]?.getD 0 = y at *
                go_wp2
                exact ⟨⟨t + 1, by omega, by omega, by go_num, rfl⟩, by simp [intOf]; omega⟩
              · have ju : ¬ ((t : Int) < (U : Int)) := by omega
                have du : decide (t < U) = false := decide_eq_false htt
                clear htt
                go_wp2
                exact ⟨⟨q + 1, by omega, by go_num, by rw [HCS.out]; rfl, rfl⟩, by simp [intOf]; omega⟩
          | false =>
            have HD := Lib.hid hd
            unfold digit at hd
            go_wp2
            go_loopw [21] (fun i wr => InvS2 w10 A U i wr) (fun i _ => U - (intOf i).toNat)
            case atStart => exact ⟨A, Nat.le_refl _, by omega, rfl, rfl⟩
            case round =>
              obtain ⟨t, ht0, ht1, rfl, rfl⟩ := hrel
              by_cases htt : t < U
              · have htL : t < LW := by omega
                have htq : t / 16 = q := by have := HA.out; have := HA2.out; omega
                have cw := (CW.out t htL)
                have cx := (CX.out t htL)
                have jl : (t : Int) < (LW : Int) := by omega
                have ju : (t : Int) < (U : Int) := by omega
                have du : decide (t < U) = true := decide_eq_true htt
                have hv := HXi.out t htL
                rw [htq, HT0.out, if_pos rfl, HCC.out, HD.out, if_neg (by simp)] at hv
                rw [hv] at cx
                clear hv htt
                by_cases hto : t < n0
                · have co := CO.out t hto
                  have jo : (t : Int) < (n0 : Int) := by omega
                  have dO : decide (t < n0) = true := decide_eq_true hto
                  have had := HB0.out.adr (by rw [← HN0.out]; omega)
                  subst had
                  clear hto
                  generalize old[t]?.getD 0 = y at *
                  go_wp2
                  exact ⟨⟨t + 1, by omega, by omega, by go_num, rfl⟩, by simp [intOf]; omega⟩
                · have hz : old[t]?.getD 0 = 0 := by rw [List.getElem?_eq_none_iff.2 (by rw [← HN0.out]; omega)]; rfl
                  rw [hz] at cx
                  have jo : ¬ ((t : Int) < (n0 : Int)) := by omega
                  have dO : decide (t < n0) = false := decide_eq_false hto
                  clear hto hz
                  go_wp2
                  exact ⟨⟨t + 1, by omega, by omega, by go_num, rfl⟩, by simp [intOf]; omega⟩
              · have ju : ¬ ((t : Int) < (U : Int)) := by omega
                have du : decide (t < U) = false := decide_eq_false htt
                clear htt
                go_wp2
                exact ⟨⟨q + 1, by omega, by go_num, by rw [HCS.out]; rfl, rfl⟩, by simp [intOf]; omega⟩
    · obtain rfl : q = C := by omega
      have hAL : ¬ (A < LW) := by have := HC.out; have := HA.out; unfold secs at *; omega
      have i0 : ¬ ((A : Int) < (LW : Int)) := by omega
      have dA : decide (A < LW) = false := decide_eq_false hAL
      have hE := E10.out
      clear hAL hlt
      go_wp2_with (go_at_call 6; refine (awake_acc hE).mono ?_; rintro e w' ⟨rfl, hE⟩)
      go_ret
      exact ⟨rfl, hE⟩
end Go.Proofs.YtbneedmfpldpfaaDoor
