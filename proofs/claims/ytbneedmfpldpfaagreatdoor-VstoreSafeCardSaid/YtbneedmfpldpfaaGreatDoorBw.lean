/- The walk of VstoreSafe. -/
import Derived.Test.YtbneedmfpldpfaaGreatDoorSoM
import Derived.Test.YtbneedmfpldpfaaGreatDoorBs
import Derived.Test.YtbneedmfpldpfaaGreatDoorBt
import Derived.Laws.Small
set_option linter.unusedSimpArgs false
set_option linter.unusedVariables false
namespace Go.Proofs.YtbneedmfpldpfaaGreatDoor
open Go.RowKit Go.Pth

/-- The steps while they are done. -/
def InvSf (w : World) (n n0 b g a pp : Nat) (old : List Int) (s15 : Value) (wr : World) : Prop := ∃ j k : Nat, j ≤ n ∧ k ≤ 10 + j ∧ s15 = .int .i64 j ∧ Two wr b g k sq a (NB 2 old) w.heap.size pp ∧ Ext w wr ∧ At wr pp #[.string (tx sq), .int .i64 1, .int .i64 n0, .int .i64 0, .int .u64 2] 39
set_option maxRecDepth 100000 in
set_option maxHeartbeats 32000000 in
theorem safe_law (old : List Int) (ad0 : Option Addr) (cap0 bb0 o0 : Nat) (l : List StV) (adl : Option Addr) (capl bl ol : Nat) (cut : Int) (adp : Option Addr) (capp : Nat) (xs : List Int) (w : World)
    (hb0 : Bin w (.slice ad0 old.length cap0) old ad0 cap0 bb0 o0) (hy0 : ∀ y ∈ old, 0 ≤ y ∧ y < 256)
    (hal : 0 < l.length → adl = some ⟨bl, ol, none⟩) (hcl : ∀ j (h : j < l.length), StAt w bl (ol + j * 6) l[j]) (hln : l.length ≤ 9223372036854775807) (hsz : ∀ s ∈ l, s.p.size ≤ 9223372036854775807 ∧ s.t.size ≤ 9223372036854775807 ∧ s.x.length ≤ 9223372036854775807)
    (hxb : ∀ s ∈ l, Bin w (.slice s.ad s.x.length s.cap) s.x s.ad s.cap s.bx s.ox ∧ (∀ z ∈ s.x, 0 ≤ z ∧ z < 256) ∧ 0 ≤ s.y ∧ s.y < 256)
    (hcut : cut ≤ 9223372036854775807) (hp : IntsIn w (.slice adp xs.length capp) xs) (hpx : ∀ x ∈ xs, -9223372036854775808 ≤ x ∧ x ≤ 9223372036854775807) :
    Calls Tryz.prog 3 #[.slice ad0 old.length cap0, .slice adl l.length capl, .int .i64 cut, .slice adp xs.length capp] w fun e w' => e = .returned (.bool true) ∧ Ext w w' := by
  have SM := Lib.hid (small_any l adl capl bl ol w hal hcl hln hsz)
  have HCL := Lib.hid (fun (wr : World) (e : Ext w wr) j (h : j < l.length) => (hcl j h).ext e)
  have HLT := Lib.hid (fun j (h : j < l.length) => World.block_lt_of_cell? _ _ (hcl j h).c0)
  obtain ⟨n0, hn0⟩ : ∃ n, n = old.length := ⟨_, rfl⟩
  obtain ⟨n, hn⟩ : ∃ n, n = l.length := ⟨_, rfl⟩
  obtain ⟨np, hnp⟩ : ∃ n, n = xs.length := ⟨_, rfl⟩
  have HN0 := Lib.hid hn0
  have HN := Lib.hid hn
  have HB0 := Lib.hid hb0
  have HY0 := Lib.hid hy0
  have HAL := Lib.hid hal
  have HXB := Lib.hid hxb
  have HP := Lib.hid hp
  have HPX := Lib.hid hpx
  rw [← hn0] at HB0 ⊢
  rw [← hn] at SM HAL ⊢
  rw [← hnp] at HP ⊢
  clear hn0 hn hnp hb0 hy0 hal hcl hln hsz hxb hp hpx
  go_enter Tryz.func3, Tryz.ntmps3
  go_wp2_with fail
  refine (SM.out).mono ?_
  rintro e w1 ⟨r, rfl, hE, hr⟩
  cases r with
  | false =>
    clear hr
    go_wp2_with (go_at_call 5; refine (awake_on hE).mono ?_; rintro e w' ⟨rfl, hE⟩)
    go_ret
    exact ⟨rfl, hE⟩
  | true =>
  by_cases h1 : 300 < n0
  · have d1 : decide ((300 : Int) < (n0 : Int)) = true := decide_eq_true (by omega)
    have d2 : decide (300 < n0) = true := decide_eq_true h1
    clear h1 hr
    go_wp2_with (go_at_call 5; refine (awake_on hE).mono ?_; rintro e w' ⟨rfl, hE⟩)
    go_ret
    exact ⟨rfl, hE⟩
  have d1 : decide ((300 : Int) < (n0 : Int)) = false := decide_eq_false (by omega)
  have d1' : decide (300 < n0) = false := decide_eq_false h1
  by_cases h2 : 60 < np
  · have d3 : decide ((60 : Int) < (np : Int)) = true := decide_eq_true (by omega)
    have d3' : decide (60 < np) = true := decide_eq_true h2
    clear h2 hr
    go_wp2_with (go_at_call 5; refine (awake_on hE).mono ?_; rintro e w' ⟨rfl, hE⟩)
    go_ret
    exact ⟨rfl, hE⟩
  have d2 : decide ((60 : Int) < (np : Int)) = false := decide_eq_false (by omega)
  have d2' : decide (60 < np) = false := decide_eq_false h2
  by_cases h3 : cut < 0
  · have d3 : decide (cut < 0) = true := decide_eq_true h3
    clear h3 hr
    go_wp2_with (go_at_call 5; refine (awake_on hE).mono ?_; rintro e w' ⟨rfl, hE⟩)
    go_ret
    exact ⟨rfl, hE⟩
  have d3 : decide (cut < 0) = false := decide_eq_false h3
  have k0 : n0 ≤ 300 := by omega
  have HSM := Lib.hid (hr rfl)
  have hn60 : n ≤ 60 := by rw [HN.out]; exact (hr rfl).1
  have NW := Lib.hid (new_ok 1048576 w1 (by omega) (by omega))
  clear h1 h2 h3 hr SM
  go_wp2_with fail
  refine (NW.out).mono ?_
  rintro e w2 ⟨rfl, e2, V1, L1, r1, l1⟩
  obtain ⟨b, hbb⟩ : ∃ b, b = w1.heap.size := ⟨_, rfl⟩
  rw [← hbb] at r1 ⊢
  have RN := Lib.hid (rnew_big w2)
  have AP := r0_rep w2
  obtain ⟨w3, hw3⟩ : ∃ w3, w3 = w2.alloc (.cells (rsc R0) 62) := ⟨_, rfl⟩
  obtain ⟨g, hg⟩ : ∃ g, g = w2.heap.size := ⟨_, rfl⟩
  rw [← hw3] at RN AP
  rw [← hg] at RN AP
  have e3 : Ext w2 w3 := by rw [hw3]; exact Ext.alloc _ _
  have A3 : Ap w w3 g L1 := ⟨(hE.trans e2).trans e3, fun i hi => Nat.le_trans hE.size (l1 i hi), by rw [hg]; exact none_new r1, by rw [hg]; exact (hE.trans e2).size, AP⟩
  have R3 := Lib.hid (r1.ext e3)
  have HA3 := Lib.hid A3
  clear hbb NW AP hw3 hg e3 A3 r1 l1 e2 hE
  unfold ptr at *
  go_wp2_with fail
  refine (RN.out).mono ?_
  rintro e w3' ⟨rfl, rfl⟩
  have CA := Lib.hid (create_of b ⟨#[115, 97, 102, 101]⟩ 0 w3' (add_ok b (SV.new 1048576) V1 L1 ⟨#[115, 97, 102, 101]⟩ 1 w3' R3.out (new_fit 1048576) (by rw [tlsq]; exact begE_ok rfl _ vsq) (by rw [tlsq]; exact new_takes 1048576 _ psq) rfl))
  simp only [tlsq] at CA
  unfold ptr at CA
  clear RN
  go_wp2_with fail
  refine (CA.out).mono ?_
  rintro e w4 ⟨rfl, a, V2, L2, na, r4, t4⟩
  rw [sg_made] at r4
  have HA4 := Lib.hid (HA3.out.step t4)
  obtain ⟨c0, p0, B0, m0⟩ := bin_off HB0.out HA4.out.ext r4 HA4.out.lab
  have WA := Lib.hid (write_ok b _ V2 L2 ⟨#[115, 97, 102, 101]⟩ 0 old (.slice ad0 n0 cap0) ad0 cap0 c0 p0 a w4 r4 (sg_fit _ _ _ _ _ _ (by omega) (by omega) (by simp)) (by rw [tlsq]; exact sg_begE _ _ _ _ _ _) (by rw [tlsq]; exact sg_file _ _ _ _ _ _ rfl) B0 m0 HY0.out (by rw [← HN0.out]; omega) (by rw [sg_used, sg_nd, ← HN0.out]; simp only [newN, List.length_nil, SG]; omega))
  rw [show ((0 : Nat) : Int) = 0 from rfl, sg_beg, sg_wrote] at WA
  unfold ptr at WA
  clear r4 t4 na CA B0 m0 HA3 R3
  go_wp2_with fail
  refine (WA.out).mono ?_
  rintro e w5 ⟨rfl, V3, L3, r5, t5⟩
  have HA5 := Lib.hid (HA4.out.step t5)
  have hk3 : ({ (newN 1 1).write 0 old with stamp := 1 + 1 } : NV).kind = 1 := by unfold NV.write; split <;> rfl
  have SA := Lib.hid (sync_ok b _ V3 L3 ⟨#[115, 97, 102, 101]⟩ a w5 r5 (sg_fit _ _ _ _ _ _ (by omega) (by omega) (by simp)) (by rw [tlsq]; exact sg_begE _ _ _ _ _ _) (by rw [tlsq]; exact sg_file _ _ _ _ _ _ hk3))
  rw [sg_beg, sg_sync, show (1 : Int) + 1 = 2 from rfl, nb_sync] at SA
  unfold ptr at SA
  clear r5 t5 WA HA4 hk3
  go_wp2_with fail
  refine (SA.out).mono ?_
  rintro e w6 ⟨rfl, V4, L4, r6, t6⟩
  have HA6 := Lib.hid (HA5.out.step t6)
  have DA := Lib.hid (syncdir_one b _ V4 L4 sq a w6 r6 (sg_fit _ _ _ _ _ _ (by omega) (by omega) (by simp)) rfl rfl rfl (by simp [SG]))
  rw [sg_beg, sg_dir, show (2 : Int) + 1 + 1 = 4 from rfl] at DA
  unfold ptr at DA
  clear r6 t6 SA HA5
  go_wp2_with fail
  refine (DA.out).mono ?_
  rintro e w7 ⟨rfl, V5, L5, r7, t7⟩
  have HA7 := Lib.hid (HA6.out.step t7)
  have R7 := Lib.hid r7
  have ST := Lib.hid (stat_some b _ V5 L5 ⟨#[115, 97, 102, 101]⟩ a w7 r7 (by simp [SG]) (by rw [tlsq]; exact look_one _ _))
  rw [tlsq, sg_stat a old n0 HN0.out] at ST
  unfold ptr at ST
  clear r7 t7 DA HA6
  obtain ⟨nm, hnm⟩ : ∃ nm, nm = tx sq := ⟨_, rfl⟩
  rw [← hnm] at ST
  have HNM := Lib.hid hnm
  clear hnm
  go_wp2_with fail
  refine (ST.out).mono ?_
  rintro e w8 ⟨rfl, e8⟩
  obtain ⟨w9, hw9⟩ : ∃ w9, w9 = w8.alloc (.cells #[.string nm, .int .i64 1, .int .i64 n0, .int .i64 0, .int .u64 2] 39) := ⟨_, rfl⟩
  obtain ⟨pp, hpp⟩ : ∃ pp, pp = w8.heap.size := ⟨_, rfl⟩
  have e9 : Ext w8 w9 := by rw [hw9]; exact Ext.alloc _ _
  have a9 : At w9 pp #[.string nm, .int .i64 1, .int .i64 n0, .int .i64 0, .int .u64 2] 39 := by rw [hw9, hpp]; exact At.new _ _ _
  have R8 := R7.out.ext e8
  have n9 : L5 pp = none := by rw [hpp]; exact none_new R8
  have g9 : g ≠ pp := by have := HA7.out.rr.cell.lt; have := e8.size; omega
  have CU := Lib.hid (cut_any b _ V5 L5 cut w9 (R8.ext e9))
  have HA9 := Lib.hid (HA7.out.up (e8.trans e9))
  have HW9 := Lib.hid (And.intro hw9 hpp)
  have H9 := Lib.hid (And.intro a9 (And.intro n9 g9))
  unfold ptr at CU
  clear hw9 hpp e9 a9 R8 n9 g9 ST R7 HA7 e8
  go_wp2_with fail
  rw [← HW9.out.1]
  refine (CU.out).mono ?_
  rintro e w10 ⟨rfl, r10, t10⟩
  have HA10 := HA9.out.step t10
  have a10 := t10.chg.at H9.out.1 (by rw [H9.out.2.1]; simp)
  have INI := Lib.hid (show InvSf w n n0 b g a pp old (.int .i64 0) w10 from ⟨0, 10, by omega, by omega, rfl, HA10.two r10 hcut H9.out.2.1 H9.out.2.2 a10.lt, HA10.ext, by rw [← HNM.out]; exact a10⟩)
  rw [← HW9.out.2]
  clear r10 t10 HA10 a10 CU HA9 H9 HW9
  go_wp2
  go_loopw [15] (fun s15 wr => InvSf w n n0 b g a pp old s15 wr) (fun s15 _ => n - (intOf s15).toNat)
  case atStart => exact INI.out
  case round =>
    clear INI
    obtain ⟨j, k, hj, hk, rfl, two, he, at0⟩ := hrel
    have HE := Lib.hid he
    have HTW := Lib.hid two
    have HAT := Lib.hid at0
    clear two at0
    by_cases hlt : j < n
    · have hjl : j < l.length := by rw [← HN.out]; exact hlt
      have SA := HCL.out wr he j hjl
      have hbl := HLT.out j hjl
      have hz := HSM.out.2 _ (List.getElem_mem hjl)
      have hx := HXB.out _ (List.getElem_mem hjl)
      have ha := HAL.out (by omega)
      subst ha
      generalize l[j] = X at *
      obtain ⟨kd, p, t, x, adx, capx, bx, ox, m, y⟩ := X
      obtain ⟨c0, c1, c2, c3, c4, c5⟩ := SA
      obtain ⟨hz1, hz2, hz3⟩ := hz
      obtain ⟨hx1, hx2, hx3, hx4⟩ := hx
      simp only at c0 c1 c2 c3 c4 c5 hz1 hz2 hz3 hx1 hx2 hx3 hx4 hbl
      obtain ⟨bx, ox, hx1, hx5⟩ := bin_low hx1 (by omega)
      obtain ⟨nx, hnx⟩ : ∃ nx, nx = x.length := ⟨_, rfl⟩
      have HNX := Lib.hid hnx
      rw [← hnx] at c3
      have i0 : (0 : Int) ≤ (j : Int) := by omega
      have i1 : (j : Int) < (n : Int) := by omega
      obtain ⟨w4, hw4⟩ : ∃ w4, w4 = wr.alloc (.cells #[.int .i64 kd, .string p, .string t, .slice adx nx capx, .int .i64 m, .int .u8 y] 44) := ⟨_, rfl⟩
      have HW4 := Lib.hid hw4
      have e4 : Ext wr w4 := by rw [hw4]; exact Ext.alloc _ _
      have HE4 := Lib.hid (he.trans e4)
      have HT4 := Lib.hid (HTW.out.ext e4)
      have HA4 := Lib.hid (HAT.out.ext e4)
      have HX1 := Lib.hid (And.intro (hx1.ext (he.trans e4)) (And.intro hx5 (And.intro hx2 (And.intro hx3 hx4))))
      have a4 : At w4 wr.heap.size #[.int .i64 kd, .string p, .string t, .slice adx nx capx, .int .i64 m, .int .u8 y] 44 := by rw [hw4]; exact At.new _ _ _
      have SKIP := Lib.hid (show InvSf w n n0 b g a pp old (.int .i64 ((j : Int) + 1)) w4 from ⟨j + 1, k, by omega, by omega, by rw [Int.natCast_add]; rfl, HT4.out, HE4.out, HA4.out⟩)
      have x0 := a4.cell 0
      have x1 := a4.cell 1
      have x2 := a4.cell 2
      have x3 := a4.cell 3
      have x4 := a4.cell 4
      have x5 := a4.cell 5
      clear hnx hx1 hx2 hx3 hx4 hx5 e4 a4 hw4 hbl he
      by_cases hps : p = ⟨#[115, 97, 102, 101]⟩
      · subst hps
        go_wp2
        rw [← HW4.out]
        exact ⟨SKIP.out, by (try simp [intOf]); omega⟩
      · have q2 : ¬ p.toList = [115, 97, 102, 101] := fun e => hps (by have h_ := list_tx p; rw [show p.toList = sq from e] at h_; exact h_.symm.trans rfl)
        by_cases hts : t = ⟨#[115, 97, 102, 101]⟩
        · subst hts
          clear hps
          go_wp2
          rw [← HW4.out]
          exact ⟨SKIP.out, by (try simp [intOf]); omega⟩
        · have q3 : ¬ t.toList = [115, 97, 102, 101] := fun e => hts (by have h_ := list_tx t; rw [show t.toList = sq from e] at h_; exact h_.symm.trans rfl)
          by_cases h10 : kd = 10
          · subst h10
            clear hps hts
            go_wp2
            rw [← HW4.out]
            exact ⟨SKIP.out, by (try simp [intOf]); omega⟩
          · have q4 : (kd == 10) = false := by simpa using h10
            have q5 : (p.toList == [115, 97, 102, 101]) = false := beq_eq_false_iff_ne.2 q2
            have q6 : (t.toList == [115, 97, 102, 101]) = false := beq_eq_false_iff_ne.2 q3
            have DO := Lib.hid (does_any b g k sq a (NB 2 old) w.heap.size pp w4 p t m y x adx nx capx bx ox HT4.out (by omega) nsq q2 (by omega) ⟨HX1.out.2.2.2.1, HX1.out.2.2.2.2⟩ HNX.out HX1.out.1 HX1.out.2.1 HX1.out.2.2.1 (by omega) HE4.out.size kd h10)
            unfold ptr at DO
            clear hps hts
            go_wp2_with fail
            rw [← HW4.out]
            refine (DO.out).mono ?_
            rintro e w5 ⟨⟨m1, m2, rfl⟩, tw5, ch5⟩
            have FN := Lib.hid (show InvSf w n n0 b g a pp old (.int .i64 ((j : Int) + 1)) w5 from ⟨j + 1, k + 1, by omega, by omega, by rw [Int.natCast_add]; rfl, tw5, ((Chg.of_ext (X := fun _ => False) HE4.out).trans ch5 (fun i hi e => by omega)).ext, ch5.at HA4.out (fun e => e.2 rfl)⟩)
            clear tw5 ch5 DO
            go_wp2
            exact ⟨FN.out, by (try simp [intOf]); omega⟩
    · obtain ⟨S, V, L, R, F, h, hg, -⟩ := HTW.out
      have i1 : ¬ ((j : Int) < (n : Int)) := by omega
      have CR := Lib.hid (crash_all b S V L _ xs wr h hg.snd (HP.out.ext he) HPX.out)
      have HG := Lib.hid hg
      unfold ptr at CR
      clear h hg hlt
      go_wp2_with fail
      refine (CR.out).mono ?_
      rintro e w11 c
      obtain ⟨b', S', V', L', a', rfl, e11, r11, lk, nd, fl, nl, ft, pw, lb⟩ := crash_file HG.out (by omega) c
      have HR := Lib.hid r11
      have HLB := Lib.hid (fun i hi => Nat.le_trans HE.out.size (lb i hi) : ∀ i, L' i ≠ none → w.heap.size ≤ i)
      have HFT := Lib.hid (And.intro ft pw)
      have HLK := Lib.hid (And.intro lk nd)
      have HNL := Lib.hid nl
      have RD := Lib.hid (read_ok b' S' V' L' ⟨#[115, 97, 102, 101]⟩ a' w11 r11 (by omega) (by rw [tlsq]; exact fl))
      rw [nd] at RD
      have HE11 := Lib.hid (HE.out.trans e11)
      have HA11 := Lib.hid (HAT.out.ext e11)
      clear c r11 lb ft pw lk nd fl nl CR he e11
      unfold ptr at *
      go_wp2_with fail
      refine (RD.out).mono ?_
      rintro e w12 ⟨v12, rfl, r12, e12, -⟩
      have hvl : (NB 2 old).now.length = n0 := HN0.out.symm
      rw [hvl] at r12
      have HV := Lib.hid r12
      have STR := stat_some b' S' V' L' ⟨#[115, 97, 102, 101]⟩ a' w12 (HR.out.ext e12) (by have := HNL.out; omega) (by rw [tlsq]; exact HLK.out.1)
      rw [tlsq, HLK.out.2, nb_stat old n0 HN0.out, ← HNM.out] at STR
      have STQ := Lib.hid STR
      unfold ptr at STQ
      have HE12 := Lib.hid e12
      clear r12 e12 STR RD hvl
      go_wp2_with fail
      refine (STQ.out).mono ?_
      rintro e w13 ⟨rfl, e13⟩
      obtain ⟨w14, hw14⟩ : ∃ w14, w14 = w13.alloc (.cells #[.string nm, .int .i64 1, .int .i64 n0, .int .i64 0, .int .u64 2] 39) := ⟨_, rfl⟩
      have HW14 := Lib.hid hw14
      have e14 : Ext w13 w14 := by rw [hw14]; exact Ext.alloc _ _
      have a14 : At w14 w13.heap.size #[.string nm, .int .i64 1, .int .i64 n0, .int .i64 0, .int .u64 2] 39 := by rw [hw14]; exact At.new _ _ _
      have E12 := HE12.out.trans (e13.trans e14)
      have aa := HA11.out.ext E12
      rw [← HNM.out] at aa
      have R14 := HR.out.ext E12
      obtain ⟨nn, hn7, CO⟩ := create_other b' S' V' L' w14 R14 HFT.out.1 HFT.out.2
      have HCO := Lib.hid CO
      have HEE := Lib.hid (HE11.out.trans E12)
      have cvx := conv_row2 (l := old) HN0.out (HV.out.ext (e13.trans e14))
      have cvb := conv_bin HN0.out (HB0.out.ext HEE.out)
      generalize strOfNums old = sm at *
      have x0 := aa.cell 0
      have x1 := aa.cell 1
      have x2 := aa.cell 2
      have x3 := aa.cell 3
      have x4 := aa.cell 4
      have y0 := a14.cell 0
      have y1 := a14.cell 1
      have y2 := a14.cell 2
      have y3 := a14.cell 3
      have y4 := a14.cell 4
      have q7 : (nn == 7) = false := by simpa using hn7
      have q8 : (nn != 7) = true := bne_iff_ne.2 hn7
      unfold ptr at HCO
      clear CO R14 aa a14 E12 e14 hw14 e13
      go_upto_region 22 with fail
      rw [← HW14.out]
      go_wp2_with fail
      refine (HCO.out).mono ?_
      rintro e w15 ⟨rfl, L9, t9⟩
      have O9 := own_step HEE.out HLB.out t9
      have E15 := O9.1
      clear O9 t9 HCO
      go_wp2_with (go_at_call 5; refine (awake_on E15).mono ?_; rintro e w' ⟨rfl, hEE⟩)
      go_ret
      exact ⟨rfl, hEE⟩
end Go.Proofs.YtbneedmfpldpfaaGreatDoor
