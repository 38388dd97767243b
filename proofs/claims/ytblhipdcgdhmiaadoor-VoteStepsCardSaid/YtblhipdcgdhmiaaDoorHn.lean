/- The walk of VoteSteps. -/
import Derived.Test.YtblhipdcgdhmiaaDoorHl
import Derived.Test.YtblhipdcgdhmiaaDoorWi
namespace Go.Proofs.YtblhipdcgdhmiaaDoor
open Go.RowKit Go.Sha
set_option linter.unusedSimpArgs false
set_option linter.unusedVariables false

theorem steps_sum (na nb nt : Nat) (w : World) (ha : na ≤ 9223372036854775807) (hb : nb ≤ 9223372036854775807) (ht : nt ≤ 9223372036854775807) (g : Nat) (h0 : w.cell? ⟨g, 0, none⟩ = some (.int .i64 nb)) (h1 : w.cell? ⟨g, 1, none⟩ = some (.int .i64 nt)) :
    Calls Tryd.prog 13 #[.int .i64 na, .slice (some ⟨g, 0, none⟩) 2 2] w fun e w' => (∃ n : Int, e = .returned (.int .i64 n) ∧ ((na + nb + nt ≤ 2000 ∧ n ≤ 2000) ∨ (2000 < na + nb + nt ∧ 2000 < n))) ∧ w = w' := by
  by_cases h : na + nb + nt ≤ 2000
  · exact (sum3_small na nb nt g w 2000 (by omega) h h0 h1).mono fun e w' ⟨q1, q2⟩ => ⟨⟨_, q1, Or.inl ⟨h, by omega⟩⟩, q2⟩
  · exact (sum3_big na nb nt g w 2000 (by omega) (by omega) ha hb h0 h1).mono fun e w' ⟨n, q1, q2, q3⟩ => ⟨⟨n, q2, Or.inr ⟨by omega, by have := q1; omega⟩⟩, q3⟩

def stA (v0 v1 v2 : Value) : Nat → Array Value
  | 0 => #[.slice none 0 0, .slice none 0 0, .slice none 0 0]
  | 1 => #[v0, .slice none 0 0, .slice none 0 0]
  | 2 => #[v0, v1, .slice none 0 0]
  | _ => #[v0, v1, v2]
def InvSt (w : World) (g : Nat) (v0 v1 v2 : Value) (i : Value) (wr : World) : Prop := ∃ j : Nat, j ≤ 3 ∧ i = .int .i64 j ∧ Only g w wr ∧ At wr g (stA v0 v1 v2 j) 38

set_option maxHeartbeats 16000000 in
set_option maxRecDepth 100000 in
theorem steps_all (va vb vt : Value) (gen : Int) (a b : List Int) (at_ : Int) (torn : List Int) (W : World) (hK : KAt W) (hg : -9223372036854775808 ≤ gen ∧ gen ≤ 9223372036854775807)
    (h1 : Src W va a W.heap.size) (hb1 : Byt a) (hl1 : a.length ≤ 9223372036854775807) (h2 : Src W vb b W.heap.size) (hb2 : Byt b) (hl2 : b.length ≤ 9223372036854775807) (hat : -9223372036854775808 ≤ at_ ∧ at_ ≤ 9223372036854775807) (h3 : Src W vt torn W.heap.size) (hb3 : Byt torn) (hl3 : torn.length ≤ 9223372036854775807) :
    Calls Tryd.prog 6 #[.int .i64 gen, va, vb, .int .i64 at_, vt] W (AwPost W) := by
  obtain ⟨ad1, cap1, ev⟩ := h1.len
  subst ev
  obtain ⟨ad2, cap2, ev⟩ := h2.len
  subst ev
  obtain ⟨ad3, cap3, ev⟩ := h3.len
  subst ev
  obtain ⟨n1, hn1⟩ : ∃ n, n = a.length := ⟨_, rfl⟩
  obtain ⟨n2, hn2⟩ : ∃ n, n = b.length := ⟨_, rfl⟩
  obtain ⟨n3, hn3⟩ : ∃ n, n = torn.length := ⟨_, rfl⟩
  have A0 := awake_any W hK
  rw [← hn1] at h1 hl1 ⊢
  rw [← hn2] at h2 hl2 ⊢
  rw [← hn3] at h3 hl3 ⊢
  by_cases c0 : gen < 1
  · have d0 : decide (gen < 1) = true := by simp; omega
    clear c0 h1 h2 h3 hb1 hb2 hb3 hl1 hl2 hl3 hn1 hn2 hn3 hg hat
    go_enter Tryd.func6, Tryd.ntmps6
    go_wp2_with fail
    refine A0.mono ?_
    rintro e w1 ⟨rfl, e1⟩
    go_wp2
    go_ret
    exact ⟨rfl, e1⟩
  have d0 : decide (gen < 1) = false := by simp; omega
  by_cases c1 : 2147483647 ≤ gen
  · have d1 : decide (2147483647 ≤ gen) = true := by simp; omega
    clear c0 c1 h1 h2 h3 hb1 hb2 hb3 hl1 hl2 hl3 hn1 hn2 hn3 hg hat
    go_enter Tryd.func6, Tryd.ntmps6
    go_wp2_with fail
    refine A0.mono ?_
    rintro e w1 ⟨rfl, e1⟩
    go_wp2
    go_ret
    exact ⟨rfl, e1⟩
  have d1 : decide (2147483647 ≤ gen) = false := by simp; omega
  obtain ⟨g, rfl⟩ := Int.eq_ofNat_of_zero_le (show 0 ≤ gen by omega)
  have H1 := Lib.hid h1
  have H2 := Lib.hid h2
  have H3 := Lib.hid h3
  have HK := Lib.hid hK
  have HB := Lib.hid (And.intro hb1 (And.intro hb2 hb3))
  have HN := Lib.hid (And.intro hn1 (And.intro hn2 hn3))
  have HWR := Lib.hid (IntWalk.i64_in ((g : Int) + 1) (by omega) : IntKind.i64.wrap ((g : Int) + 1) = (g : Int) + 1)
  have HG := Lib.hid (show 1 ≤ g ∧ g + 1 ≤ 2147483647 by omega)
  have e0 : Ext W (W.alloc (.cells #[.int .i64 (n2 : Int), .int .i64 (n3 : Int)] 3)) := Ext.alloc W _
  have a0 := At.new W #[.int .i64 (n2 : Int), .int .i64 (n3 : Int)] 3
  have SM := steps_sum n1 n2 n3 (W.alloc (.cells #[.int .i64 (n2 : Int), .int .i64 (n3 : Int)] 3)) hl1 hl2 hl3 W.heap.size ((a0.cell 0).trans rfl) ((a0.cell 1).trans rfl)
  clear h1 h2 h3 hb1 hb2 hb3 hn1 hn2 hn3 hl1 hl2 hl3 hg hat c0 c1 A0 hK a0
  go_enter Tryd.func6, Tryd.ntmps6
  go_wp2_with fail
  refine SM.mono ?_
  rintro e w0 ⟨⟨s, rfl, hs⟩, rfl⟩
  clear SM
  generalize W.alloc (.cells #[.int .i64 (n2 : Int), .int .i64 (n3 : Int)] 3) = w0 at *
  rcases hs with ⟨hs1, hs2⟩ | ⟨hs1, hs2⟩
  rotate_left
  · have ds : decide ((2000 : Int) < s) = true := by simpa using hs2
    have A0 := awake_any w0 (HK.out.below e0 HK.out.lt)
    clear hs1 hs2
    go_wp2_with fail
    refine A0.mono ?_
    rintro e w1 ⟨rfl, e1⟩
    go_wp2
    go_ret
    exact ⟨rfl, e0.trans e1⟩
  have ds : decide ((2000 : Int) < s) = false := by simp; omega
  have hlen : a.length ≤ 2000 ∧ b.length ≤ 2000 ∧ torn.length ≤ 2000 := by have := HN.out; omega
  have hOx := enc_page g a HG.out.1 (by have := HG.out; omega) (by omega)
  have hOy := enc_page (g + 1) b (by omega) HG.out.2 (by omega)
  have hX := seal_byt (encP_byt g HB.out.1)
  have hY := seal_byt (encP_byt (g + 1) HB.out.2.1)
  have hp := dec_enc g a HG.out.1 (by have := HG.out; omega) (by omega)
  have hq := dec_enc (g + 1) b (by omega) HG.out.2 (by omega)
  have hXl : (sealL (encP g a)).length ≤ 100000000 := by rw [sealL_length, encP_len]; omega
  have hYl : (sealL (encP (g + 1) b)).length ≤ 100000000 := by rw [sealL_length, encP_len]; omega
  obtain ⟨X, hXX⟩ : ∃ X, sealL (encP g a) = X := ⟨_, rfl⟩
  obtain ⟨Y, hYY⟩ : ∃ X, sealL (encP (g + 1) b) = X := ⟨_, rfl⟩
  rw [hXX] at hOx hX hp hXl
  rw [hYY] at hOy hY hq hYl
  rw [show ((g + 1 : Nat) : Int) = (g : Int) + 1 from rfl] at hOy hq
  have E1 := enc_any (g : Int) a (.slice ad1 n1 cap1) w0 (HK.out.below e0 HK.out.lt) (H1.out.now e0)
  rw [hOx] at E1
  unfold EP at E1
  simp only [Option.isSome_some, if_true, Option.getD_some] at E1
  have HOY := Lib.hid hOy
  have HX := Lib.hid (And.intro hX (And.intro hp hXl))
  have HY := Lib.hid (And.intro hY (And.intro hq hYl))
  have HL := Lib.hid hlen
  clear hlen hOx hOy hX hY hp hq hXl hYl hXX hYY hs1 hs2
  go_wp2_with fail
  refine E1.mono ?_
  rintro e w1 ⟨vX, rfl, e1, sX⟩
  clear E1 d0 d1 ds
  have e01 := e0.trans e1
  have E2 := enc_any ((g : Int) + 1) b (.slice ad2 n2 cap2) w1 (HK.out.below e01 HK.out.lt) (H2.out.now e01)
  rw [HOY.out] at E2
  unfold EP at E2
  simp only [Option.isSome_some, if_true, Option.getD_some] at E2
  have hwr : wrap64 ((g : Int) + 1) = (g : Int) + 1 := by have := HG.out; unfold wrap64; omega
  obtain ⟨adX, capX, evadX⟩ := sX.len
  obtain ⟨nX, hnX⟩ : ∃ n, n = X.length := ⟨_, rfl⟩
  rw [← hnX] at evadX
  clear hnX
  subst evadX
  clear e0 e1
  go_wp2_with fail
  refine E2.mono ?_
  rintro e w2 ⟨vY, rfl, e2, sY⟩
  have e02 := e01.trans e2
  have sX2 := sX.now e2
  obtain ⟨adY, capY, evadY⟩ := sY.len
  obtain ⟨nY, hnY⟩ : ∃ n, n = Y.length := ⟨_, rfl⟩
  rw [← hnY] at evadY
  clear hnY
  subst evadY
  clear E2 e01 e2 sX HOY
  obtain ⟨D, hD⟩ : ∃ D, decP torn = D := ⟨_, rfl⟩
  have DC := decode_any _ torn w2 (HK.out.below e02 HK.out.lt) (H3.out.now e02) HB.out.2.2 (by have := HL.out; omega)
  rw [hD] at DC
  unfold DcP at DC
  obtain ⟨kd, hkd⟩ : ∃ k : Int, (if D.isSome then 0 else 10) = k := ⟨_, rfl⟩
  rw [hkd] at DC
  have HD := Lib.hid (And.intro hD hkd)
  clear hD hkd
  go_wp2_with fail
  refine DC.mono ?_
  rintro e w3 ⟨vq, rfl, e3, F3⟩
  have s3 := F3 _ (Or.inr (Nat.le_refl _))
  obtain ⟨⟨gq, mq⟩, hP⟩ : ∃ P, pgO D = P := ⟨_, rfl⟩
  rw [hP] at s3 ⊢
  simp only at s3 ⊢
  obtain ⟨adq, capq, evadq⟩ := s3.len
  obtain ⟨nq, hnq⟩ : ∃ n, n = mq.length := ⟨_, rfl⟩
  rw [← hnq] at evadq
  clear hnq
  subst evadq
  have e03 := e02.trans e3
  have sX3 := sX2.now e3
  have sY3 := sY.now e3
  clear DC e02 e3 F3 s3 hP sX2 sY
  have onew4 : (#[.int .i64 gq, .slice adq nq capq] : Array Value).all (·.oneCell') = true := by simp [Value.oneCell']
  have szw4 : (Tryd.prog.info? 25).map (·.size) = some (#[.int .i64 gq, .slice adq nq capq] : Array Value).size := szPage
  have eaw4 : Ext w3 (w3.alloc (.cells #[.int .i64 0, .slice none 0 0] 25)) := Ext.alloc w3 _
  have aaw4 := At.new w3 #[.int .i64 0, .slice none 0 0] 25
  have Ew4 := ext_only' eaw4 (Only.setRow w3.heap.size _ #[.int .i64 gq, .slice adq nq capq]) (Nat.le_refl _)
  have Aw4 : At ((w3.alloc (.cells #[.int .i64 0, .slice none 0 0] 25)).setRow w3.heap.size #[.int .i64 gq, .slice adq nq capq]) w3.heap.size #[.int .i64 gq, .slice adq nq capq] 25 := aaw4.row _
  go_upto_region 8 with (refine wpList_store_row rfl 25 _ _ rfl w3.heap.size _ rfl rfl 25 _ aaw4 szw4 rfl onew4 ?_)
  clear eaw4 aaw4 szw4 onew4
  generalize (w3.alloc (.cells #[.int .i64 0, .slice none 0 0] 25)).setRow w3.heap.size #[.int .i64 gq, .slice adq nq capq] = w4 at *
  obtain ⟨gQ, hgQ⟩ : ∃ g, g = w3.heap.size := ⟨_, rfl⟩
  rw [← hgQ] at Aw4 ⊢
  clear hgQ
  have e04 := e03.trans Ew4
  have sX4 := sX3.now Ew4
  have sY4 := sY3.now Ew4
  clear e03 sX3 sY3 Ew4 Aw4
  cases D with
  | some pq =>
    obtain rfl : (0 : Int) = kd := HD.out.2
    have A0 := awake_any w4 (HK.out.below e04 HK.out.lt)
    clear sX4 sY4
    go_wp2_with fail
    refine A0.mono ?_
    rintro e w5 ⟨rfl, e5⟩
    go_wp2
    go_ret
    exact ⟨rfl, e04.trans e5⟩
  | none =>
  obtain rfl : (10 : Int) = kd := HD.out.2
  have HT := Lib.hid HD.out.1
  go_wp2_with fail
  refine (round_any at_ 3 w4 (by omega) (by omega)).mono ?_
  rintro e w5 ⟨⟨c, rfl, hc0, hc3⟩, rfl⟩
  have hc : c = 0 ∨ c = 1 ∨ c = 2 := by omega
  clear hc0 hc3
  have e5 : Ext w4 (w4.alloc (.cells #[.slice none 0 0, .slice none 0 0, .slice none 0 0] 38)) := Ext.alloc w4 _
  have a5 := At.new w4 #[.slice none 0 0, .slice none 0 0, .slice none 0 0] 38
  go_upto_region 12 with (fail)
  generalize hw5 : w4.alloc (.cells #[.slice none 0 0, .slice none 0 0, .slice none 0 0] 38) = w5 at *
  obtain ⟨gA, hgA⟩ : ∃ g, g = w4.heap.size := ⟨_, rfl⟩
  rw [← hgA] at a5 ⊢
  have hgW : W.heap.size ≤ gA := by have := e04.size; omega
  have e05 := e04.trans e5
  -- the sources lie apart from the array's block
  have sXA : Src w5 (.slice adX nX capX) X gA := by rw [hgA]; exact sX4.ext e5
  have sYA : Src w5 (.slice adY nY capY) Y gA := by rw [hgA]; exact sY4.ext e5
  have sTA : Src w5 (.slice ad3 n3 cap3) torn gA := by rw [hgA]; exact (H3.out.now e04).ext e5
  clear hw5 hgA e04 sX4 sY4 e5
  rcases hc with rfl | rfl | rfl
  · go_wp2
    go_loopw [19] (fun i wr => InvSt w5 gA (.slice ad3 n3 cap3) (.slice adX nX capX) (.slice adX nX capX) i wr) (fun i _ => 3 - (intOf i).toNat)
    case atStart => exact ⟨0, by omega, rfl, Only.refl _ _, a5⟩
    case round =>
      obtain ⟨j, hj, rfl, oj, aj⟩ := hrel
      have hj4 : j = 0 ∨ j = 1 ∨ j = 2 ∨ j = 3 := by omega
      clear hj
      rcases hj4 with rfl | rfl | rfl | rfl
      · have aj' := aj
        simp only [stA] at aj'
        have ck := aj'.cell 0
        have zk := aj'.frozen 0
        have a6 : At (wr.setCell ⟨gA, 0, none⟩ (.slice ad3 n3 cap3)) gA #[.slice ad3 n3 cap3, .slice none 0 0, .slice none 0 0] 38 := aj'.set 0 _
        have F := Lib.hid (And.intro (oj.trans (Only.set gA 0 wr (.slice ad3 n3 cap3))) a6)
        clear aj aj' oj a6
        go_wp2
        exact ⟨⟨1, by omega, rfl, F.out.1, F.out.2⟩, by simp [intOf]⟩
      · have aj' := aj
        simp only [stA] at aj'
        have ck := aj'.cell 1
        have zk := aj'.frozen 1
        have a6 : At (wr.setCell ⟨gA, 1, none⟩ (.slice adX nX capX)) gA #[.slice ad3 n3 cap3, .slice adX nX capX, .slice none 0 0] 38 := aj'.set 1 _
        have F := Lib.hid (And.intro (oj.trans (Only.set gA 1 wr (.slice adX nX capX))) a6)
        clear aj aj' oj a6
        go_wp2
        exact ⟨⟨2, by omega, rfl, F.out.1, F.out.2⟩, by simp [intOf]⟩
      · have aj' := aj
        simp only [stA] at aj'
        have ck := aj'.cell 2
        have zk := aj'.frozen 2
        have a6 : At (wr.setCell ⟨gA, 2, none⟩ (.slice adX nX capX)) gA #[.slice ad3 n3 cap3, .slice adX nX capX, .slice adX nX capX] 38 := aj'.set 2 _
        have F := Lib.hid (And.intro (oj.trans (Only.set gA 2 wr (.slice adX nX capX))) a6)
        clear aj aj' oj a6
        go_wp2
        exact ⟨⟨3, by omega, rfl, F.out.1, F.out.2⟩, by simp [intOf]⟩
      · have a6 : At wr gA #[.slice ad3 n3 cap3, .slice adX nX capX, .slice adX nX capX] 38 := aj
        have e06 := ext_only' e05 oj hgW
        have sX6 := src_keep sXA (sXA.other oj.size) oj
        have sY6 := src_keep sYA (sYA.other oj.size) oj
        have sT6 := src_keep sTA (sTA.other oj.size) oj
        clear aj oj a5 sXA sYA sTA e05
        have f0 := a6.cell 0
        have f1 := a6.cell 1
        have f2 := a6.cell 2
        have V := vote_any (.slice ad3 n3 cap3) (.slice adX nX capX) (.slice adX nX capX) torn X X wr (HK.out.below e06 HK.out.lt) sT6 sX6 sX6 ⟨⟨HB.out.2.2, by have := HL.out; omega⟩, ⟨HX.out.1, HX.out.2.2⟩, ⟨HX.out.1, HX.out.2.2⟩⟩
        rw [one0 HX.out.1 HB.out.2.2 HX.out.2.1] at V
        obtain ⟨M, hM⟩ : ∃ M, voteM torn X X = M := ⟨_, rfl⟩
        rw [hM] at V
        clear hM
        have hmy : mayP ((g : Int), a) = true := dec_may HX.out.1 HX.out.2.1
        have HMy := Lib.hid hmy
        clear hmy
        go_wp2_with fail
        refine V.mono ?_
        rintro e w7 ⟨q1, _⟩
        obtain ⟨vp, vm, rfl, e7, s7, r7⟩ := q1 HMy.out
        clear q1 V f0 f1 f2 a6 sX6 sY6 sT6
        simp only at s7 ⊢
        have e07 := e06.trans e7
        obtain ⟨adp, capp, evadp⟩ := s7.len
        obtain ⟨np, hnp⟩ : ∃ n, n = a.length := ⟨_, rfl⟩
        rw [← hnp] at evadp
        clear hnp
        subst evadp
        obtain ⟨adm, capm, mb, mo, evm, _, _⟩ := r7
        obtain ⟨nM, hnM⟩ : ∃ n, n = M.length := ⟨_, rfl⟩
        rw [← hnM] at evm
        clear hnM
        subst evm
        clear e06 e7
        have onew8 : (#[.int .i64 (g : Int), .slice adp np capp] : Array Value).all (·.oneCell') = true := by simp [Value.oneCell']
        have szw8 : (Tryd.prog.info? 25).map (·.size) = some (#[.int .i64 (g : Int), .slice adp np capp] : Array Value).size := szPage
        have eaw8 : Ext w7 (w7.alloc (.cells #[.int .i64 0, .slice none 0 0] 25)) := Ext.alloc w7 _
        have aaw8 := At.new w7 #[.int .i64 0, .slice none 0 0] 25
        have Ew8 := ext_only' eaw8 (Only.setRow w7.heap.size _ #[.int .i64 (g : Int), .slice adp np capp]) (Nat.le_refl _)
        have Aw8 : At ((w7.alloc (.cells #[.int .i64 0, .slice none 0 0] 25)).setRow w7.heap.size #[.int .i64 (g : Int), .slice adp np capp]) w7.heap.size #[.int .i64 (g : Int), .slice adp np capp] 25 := aaw8.row _
        go_upto_region 21 with (refine wpList_store_row rfl 25 _ _ rfl w7.heap.size _ rfl rfl 25 _ aaw8 szw8 rfl onew8 ?_)
        clear eaw8 aaw8 szw8 onew8
        generalize (w7.alloc (.cells #[.int .i64 0, .slice none 0 0] 25)).setRow w7.heap.size #[.int .i64 (g : Int), .slice adp np capp] = w8 at *
        obtain ⟨gP, hgP⟩ : ∃ g, g = w7.heap.size := ⟨_, rfl⟩
        rw [← hgP] at Aw8 ⊢
        clear hgP
        have e08 := e07.trans Ew8
        have sP := s7.now Ew8
        clear e07 s7 Ew8
        have HA8 := Lib.hid (fun (V : World) (hV : Ext w8 V) => at_ext Aw8 hV)
        have HP8 := Lib.hid (fun (V : World) (hV : Ext w8 V) => sP.now hV)
        have HE8 := Lib.hid (fun (V : World) (hV : Ext w8 V) => e08.trans hV)
        clear Aw8 sP e08
        refine wp_region_held (S := Ext w8) (by kernel_rfl) ?_
        change wpAnyH _ _ _ _ _ _ _ _ w8.drew
        have S0 : Ext w8 w8.drew := Below.drew (Below.refl _ _)
        generalize w8.drew = W0 at *
        refine takeS 0 (some 106) (.agg #[.int .i64 (g : Int), .slice adp np capp]) rfl rfl (by kernel_rfl) (by kernel_rfl) (by kernel_rfl) (fun _ _ _ h => h) rfl S0 (fun w' hw' => by have c0 : w'.cell? ⟨gP, 0, none⟩ = some (.int .i64 (g : Int)) := ((HA8.out w' hw').cell 0).trans rfl; have c1 : w'.cell? ⟨gP, 1, none⟩ = some (.slice adp np capp) := ((HA8.out w' hw').cell 1).trans rfl; go_simp) ?_
        simp only [Act.put, List.setIfInBounds_toArray, List.set_cons_zero, List.set_cons_succ]
        refine takeS 1 (some 107) (.int .i64 (g : Int)) rfl rfl (by kernel_rfl) (by kernel_rfl) (by kernel_rfl) (fun _ _ _ h => h) rfl S0 (fun w' hw' => by go_simp) ?_
        simp only [Act.put, List.setIfInBounds_toArray, List.set_cons_zero, List.set_cons_succ]
        refine takeS 2 (some 108) (.slice ad1 n1 cap1) rfl rfl (by kernel_rfl) (by kernel_rfl) (by kernel_rfl) (fun _ _ _ h => h) rfl S0 (fun w' hw' => by go_simp) ?_
        simp only [Act.put, List.setIfInBounds_toArray, List.set_cons_zero, List.set_cons_succ]
        refine takeS 3 (some 109) (.agg #[.int .i64 (g : Int), .slice ad1 n1 cap1]) rfl rfl (by kernel_rfl) (by kernel_rfl) (by kernel_rfl) (fun _ _ _ h => h) rfl S0 (fun w' hw' => by go_simp) ?_
        simp only [Act.put, List.setIfInBounds_toArray, List.set_cons_zero, List.set_cons_succ]
        refine takeS 5 (some 111) (.agg #[.int .i64 (g : Int), .slice adp np capp]) rfl rfl (by kernel_rfl) (by kernel_rfl) (by kernel_rfl) (fun _ _ _ h => h) rfl S0 (fun w' hw' => by have c0 : w'.cell? ⟨gP, 0, none⟩ = some (.int .i64 (g : Int)) := ((HA8.out w' hw').cell 0).trans rfl; have c1 : w'.cell? ⟨gP, 1, none⟩ = some (.slice adp np capp) := ((HA8.out w' hw').cell 1).trans rfl; go_simp) ?_
        simp only [Act.put, List.setIfInBounds_toArray, List.set_cons_zero, List.set_cons_succ]
        refine takeS 6 (some 112) (.int .i64 (g : Int)) rfl rfl (by kernel_rfl) (by kernel_rfl) (by kernel_rfl) (fun _ _ _ h => h) rfl S0 (fun w' hw' => by go_simp) ?_
        simp only [Act.put, List.setIfInBounds_toArray, List.set_cons_zero, List.set_cons_succ]
        refine takeS 7 (some 113) (.int .i64 ((g : Int) + 1)) rfl rfl (by kernel_rfl) (by kernel_rfl) (by kernel_rfl) (fun _ _ _ h => h) rfl S0 (fun w' hw' => by have hw := HWR.out; go_simp) ?_
        simp only [Act.put, List.setIfInBounds_toArray, List.set_cons_zero, List.set_cons_succ]
        refine takeS 8 (some 114) (.slice ad2 n2 cap2) rfl rfl (by kernel_rfl) (by kernel_rfl) (by kernel_rfl) (fun _ _ _ h => h) rfl S0 (fun w' hw' => by go_simp) ?_
        simp only [Act.put, List.setIfInBounds_toArray, List.set_cons_zero, List.set_cons_succ]
        refine takeS 9 (some 115) (.agg #[.int .i64 ((g : Int) + 1), .slice ad2 n2 cap2]) rfl rfl (by kernel_rfl) (by kernel_rfl) (by kernel_rfl) (fun _ _ _ h => h) rfl S0 (fun w' hw' => by go_simp) ?_
        simp only [Act.put, List.setIfInBounds_toArray, List.set_cons_zero, List.set_cons_succ]
        refine nextS 4 rfl (by kernel_rfl) rfl (callS (some 110) rfl 12 #[.agg #[.int .i64 (g : Int), .slice adp np capp], .agg #[.int .i64 (g : Int), .slice ad1 n1 cap1]] (by go_simp) (fun v w' => v = .bool (sameP ((g : Int), a) ((g : Int), a)) ∧ Ext W0 w') ((sameP_any (g : Int) _ a _ _ _ W0 (HP8.out W0 S0) (H1.out.now (HE8.out W0 S0))).mono fun _ _ he => ⟨_, he.1, rfl, he.2⟩) ?_)
        rintro v1 W1 ⟨rfl, e1⟩
        simp only [Act.put, List.setIfInBounds_toArray, List.set_cons_zero, List.set_cons_succ]
        have S1 := S0.trans e1
        clear e1
        refine ⟨S1, ?_⟩
        refine nextS 10 rfl (by kernel_rfl) rfl (callS (some 116) rfl 12 #[.agg #[.int .i64 (g : Int), .slice adp np capp], .agg #[.int .i64 ((g : Int) + 1), .slice ad2 n2 cap2]] (by go_simp) (fun v w' => v = .bool (sameP ((g : Int), a) ((g : Int) + 1, b)) ∧ Ext W1 w') ((sameP_any (g : Int) _ a _ _ _ W1 (HP8.out W1 S1) (H2.out.now (HE8.out W1 S1))).mono fun _ _ he => ⟨_, he.1, rfl, he.2⟩) ?_)
        rintro v2 W2 ⟨rfl, e2⟩
        simp only [Act.put, List.setIfInBounds_toArray, List.set_cons_zero, List.set_cons_succ]
        have S2 := S1.trans e2
        clear e2
        refine ⟨S2, ?_⟩
        refine takeS 11 (some 23) (.bool (sameP ((g : Int), a) ((g : Int), a))) rfl rfl (by kernel_rfl) (by kernel_rfl) (by kernel_rfl) (fun _ _ _ h => h) rfl S2 (fun w' hw' => by go_simp) ?_
        simp only [Act.put, List.setIfInBounds_toArray, List.set_cons_zero, List.set_cons_succ]
        refine takeS 12 (some 24) (.bool (sameP ((g : Int), a) ((g : Int) + 1, b))) rfl rfl (by kernel_rfl) (by kernel_rfl) (by kernel_rfl) (fun _ _ _ h => h) rfl S2 (fun w' hw' => by go_simp) ?_
        simp only [Act.put, List.setIfInBounds_toArray, List.set_cons_zero, List.set_cons_succ]
        refine wpAnyH_done (by kernel_rfl) ?_ _
        have e9 := HE8.out W2 S2
        have A0 := awake_any W2 (HK.out.below e9 HK.out.lt)
        obtain ⟨B1, hB1⟩ : ∃ B, sameP ((g : Int), a) ((g : Int), a) = B := ⟨_, rfl⟩
        obtain ⟨B2, hB2⟩ : ∃ B, sameP ((g : Int), a) ((g : Int) + 1, b) = B := ⟨_, rfl⟩
        rw [hB1, hB2]
        rw [sameP_self] at hB1
        subst hB1
        clear hB2 S0 S1 S2
        go_wp2_with fail
        refine A0.mono ?_
        rintro e w9 ⟨rfl, e10⟩
        go_wp2
        go_ret
        exact ⟨rfl, e9.trans e10⟩
  · go_wp2
    go_loopw [19] (fun i wr => InvSt w5 gA (.slice adY nY capY) (.slice ad3 n3 cap3) (.slice adX nX capX) i wr) (fun i _ => 3 - (intOf i).toNat)
    case atStart => exact ⟨0, by omega, rfl, Only.refl _ _, a5⟩
    case round =>
      obtain ⟨j, hj, rfl, oj, aj⟩ := hrel
      have hj4 : j = 0 ∨ j = 1 ∨ j = 2 ∨ j = 3 := by omega
      clear hj
      rcases hj4 with rfl | rfl | rfl | rfl
      · have aj' := aj
        simp only [stA] at aj'
        have ck := aj'.cell 0
        have zk := aj'.frozen 0
        have a6 : At (wr.setCell ⟨gA, 0, none⟩ (.slice adY nY capY)) gA #[.slice adY nY capY, .slice none 0 0, .slice none 0 0] 38 := aj'.set 0 _
        have F := Lib.hid (And.intro (oj.trans (Only.set gA 0 wr (.slice adY nY capY))) a6)
        clear aj aj' oj a6
        go_wp2
        exact ⟨⟨1, by omega, rfl, F.out.1, F.out.2⟩, by simp [intOf]⟩
      · have aj' := aj
        simp only [stA] at aj'
        have ck := aj'.cell 1
        have zk := aj'.frozen 1
        have a6 : At (wr.setCell ⟨gA, 1, none⟩ (.slice ad3 n3 cap3)) gA #[.slice adY nY capY, .slice ad3 n3 cap3, .slice none 0 0] 38 := aj'.set 1 _
        have F := Lib.hid (And.intro (oj.trans (Only.set gA 1 wr (.slice ad3 n3 cap3))) a6)
        clear aj aj' oj a6
        go_wp2
        exact ⟨⟨2, by omega, rfl, F.out.1, F.out.2⟩, by simp [intOf]⟩
      · have aj' := aj
        simp only [stA] at aj'
        have ck := aj'.cell 2
        have zk := aj'.frozen 2
        have a6 : At (wr.setCell ⟨gA, 2, none⟩ (.slice adX nX capX)) gA #[.slice adY nY capY, .slice ad3 n3 cap3, .slice adX nX capX] 38 := aj'.set 2 _
        have F := Lib.hid (And.intro (oj.trans (Only.set gA 2 wr (.slice adX nX capX))) a6)
        clear aj aj' oj a6
        go_wp2
        exact ⟨⟨3, by omega, rfl, F.out.1, F.out.2⟩, by simp [intOf]⟩
      · have a6 : At wr gA #[.slice adY nY capY, .slice ad3 n3 cap3, .slice adX nX capX] 38 := aj
        have e06 := ext_only' e05 oj hgW
        have sX6 := src_keep sXA (sXA.other oj.size) oj
        have sY6 := src_keep sYA (sYA.other oj.size) oj
        have sT6 := src_keep sTA (sTA.other oj.size) oj
        clear aj oj a5 sXA sYA sTA e05
        have f0 := a6.cell 0
        have f1 := a6.cell 1
        have f2 := a6.cell 2
        have V := vote_any (.slice adY nY capY) (.slice ad3 n3 cap3) (.slice adX nX capX) Y torn X wr (HK.out.below e06 HK.out.lt) sY6 sT6 sX6 ⟨⟨HY.out.1, HY.out.2.2⟩, ⟨HB.out.2.2, by have := HL.out; omega⟩, ⟨HX.out.1, HX.out.2.2⟩⟩
        rw [step1 HX.out.1 HY.out.1 HX.out.2.1 HY.out.2.1 HT.out (by simp only; omega)] at V
        obtain ⟨M, hM⟩ : ∃ M, voteM Y torn X = M := ⟨_, rfl⟩
        rw [hM] at V
        clear hM
        have hmy : mayP ((g : Int) + 1, b) = true := dec_may HY.out.1 HY.out.2.1
        have HMy := Lib.hid hmy
        clear hmy
        go_wp2_with fail
        refine V.mono ?_
        rintro e w7 ⟨q1, _⟩
        obtain ⟨vp, vm, rfl, e7, s7, r7⟩ := q1 HMy.out
        clear q1 V f0 f1 f2 a6 sX6 sY6 sT6
        simp only at s7 ⊢
        have e07 := e06.trans e7
        obtain ⟨adp, capp, evadp⟩ := s7.len
        obtain ⟨np, hnp⟩ : ∃ n, n = b.length := ⟨_, rfl⟩
        rw [← hnp] at evadp
        clear hnp
        subst evadp
        obtain ⟨adm, capm, mb, mo, evm, _, _⟩ := r7
        obtain ⟨nM, hnM⟩ : ∃ n, n = M.length := ⟨_, rfl⟩
        rw [← hnM] at evm
        clear hnM
        subst evm
        clear e06 e7
        have onew8 : (#[.int .i64 ((g : Int) + 1), .slice adp np capp] : Array Value).all (·.oneCell') = true := by simp [Value.oneCell']
        have szw8 : (Tryd.prog.info? 25).map (·.size) = some (#[.int .i64 ((g : Int) + 1), .slice adp np capp] : Array Value).size := szPage
        have eaw8 : Ext w7 (w7.alloc (.cells #[.int .i64 0, .slice none 0 0] 25)) := Ext.alloc w7 _
        have aaw8 := At.new w7 #[.int .i64 0, .slice none 0 0] 25
        have Ew8 := ext_only' eaw8 (Only.setRow w7.heap.size _ #[.int .i64 ((g : Int) + 1), .slice adp np capp]) (Nat.le_refl _)
        have Aw8 : At ((w7.alloc (.cells #[.int .i64 0, .slice none 0 0] 25)).setRow w7.heap.size #[.int .i64 ((g : Int) + 1), .slice adp np capp]) w7.heap.size #[.int .i64 ((g : Int) + 1), .slice adp np capp] 25 := aaw8.row _
        go_upto_region 21 with (refine wpList_store_row rfl 25 _ _ rfl w7.heap.size _ rfl rfl 25 _ aaw8 szw8 rfl onew8 ?_)
        clear eaw8 aaw8 szw8 onew8
        generalize (w7.alloc (.cells #[.int .i64 0, .slice none 0 0] 25)).setRow w7.heap.size #[.int .i64 ((g : Int) + 1), .slice adp np capp] = w8 at *
        obtain ⟨gP, hgP⟩ : ∃ g, g = w7.heap.size := ⟨_, rfl⟩
        rw [← hgP] at Aw8 ⊢
        clear hgP
        have e08 := e07.trans Ew8
        have sP := s7.now Ew8
        clear e07 s7 Ew8
        have HA8 := Lib.hid (fun (V : World) (hV : Ext w8 V) => at_ext Aw8 hV)
        have HP8 := Lib.hid (fun (V : World) (hV : Ext w8 V) => sP.now hV)
        have HE8 := Lib.hid (fun (V : World) (hV : Ext w8 V) => e08.trans hV)
        clear Aw8 sP e08
        refine wp_region_held (S := Ext w8) (by kernel_rfl) ?_
        change wpAnyH _ _ _ _ _ _ _ _ w8.drew
        have S0 : Ext w8 w8.drew := Below.drew (Below.refl _ _)
        generalize w8.drew = W0 at *
        refine takeS 0 (some 106) (.agg #[.int .i64 ((g : Int) + 1), .slice adp np capp]) rfl rfl (by kernel_rfl) (by kernel_rfl) (by kernel_rfl) (fun _ _ _ h => h) rfl S0 (fun w' hw' => by have c0 : w'.cell? ⟨gP, 0, none⟩ = some (.int .i64 ((g : Int) + 1)) := ((HA8.out w' hw').cell 0).trans rfl; have c1 : w'.cell? ⟨gP, 1, none⟩ = some (.slice adp np capp) := ((HA8.out w' hw').cell 1).trans rfl; go_simp) ?_
        simp only [Act.put, List.setIfInBounds_toArray, List.set_cons_zero, List.set_cons_succ]
        refine takeS 1 (some 107) (.int .i64 (g : Int)) rfl rfl (by kernel_rfl) (by kernel_rfl) (by kernel_rfl) (fun _ _ _ h => h) rfl S0 (fun w' hw' => by go_simp) ?_
        simp only [Act.put, List.setIfInBounds_toArray, List.set_cons_zero, List.set_cons_succ]
        refine takeS 2 (some 108) (.slice ad1 n1 cap1) rfl rfl (by kernel_rfl) (by kernel_rfl) (by kernel_rfl) (fun _ _ _ h => h) rfl S0 (fun w' hw' => by go_simp) ?_
        simp only [Act.put, List.setIfInBounds_toArray, List.set_cons_zero, List.set_cons_succ]
        refine takeS 3 (some 109) (.agg #[.int .i64 (g : Int), .slice ad1 n1 cap1]) rfl rfl (by kernel_rfl) (by kernel_rfl) (by kernel_rfl) (fun _ _ _ h => h) rfl S0 (fun w' hw' => by go_simp) ?_
        simp only [Act.put, List.setIfInBounds_toArray, List.set_cons_zero, List.set_cons_succ]
        refine takeS 5 (some 111) (.agg #[.int .i64 ((g : Int) + 1), .slice adp np capp]) rfl rfl (by kernel_rfl) (by kernel_rfl) (by kernel_rfl) (fun _ _ _ h => h) rfl S0 (fun w' hw' => by have c0 : w'.cell? ⟨gP, 0, none⟩ = some (.int .i64 ((g : Int) + 1)) := ((HA8.out w' hw').cell 0).trans rfl; have c1 : w'.cell? ⟨gP, 1, none⟩ = some (.slice adp np capp) := ((HA8.out w' hw').cell 1).trans rfl; go_simp) ?_
        simp only [Act.put, List.setIfInBounds_toArray, List.set_cons_zero, List.set_cons_succ]
        refine takeS 6 (some 112) (.int .i64 (g : Int)) rfl rfl (by kernel_rfl) (by kernel_rfl) (by kernel_rfl) (fun _ _ _ h => h) rfl S0 (fun w' hw' => by go_simp) ?_
        simp only [Act.put, List.setIfInBounds_toArray, List.set_cons_zero, List.set_cons_succ]
        refine takeS 7 (some 113) (.int .i64 ((g : Int) + 1)) rfl rfl (by kernel_rfl) (by kernel_rfl) (by kernel_rfl) (fun _ _ _ h => h) rfl S0 (fun w' hw' => by have hw := HWR.out; go_simp) ?_
        simp only [Act.put, List.setIfInBounds_toArray, List.set_cons_zero, List.set_cons_succ]
        refine takeS 8 (some 114) (.slice ad2 n2 cap2) rfl rfl (by kernel_rfl) (by kernel_rfl) (by kernel_rfl) (fun _ _ _ h => h) rfl S0 (fun w' hw' => by go_simp) ?_
        simp only [Act.put, List.setIfInBounds_toArray, List.set_cons_zero, List.set_cons_succ]
        refine takeS 9 (some 115) (.agg #[.int .i64 ((g : Int) + 1), .slice ad2 n2 cap2]) rfl rfl (by kernel_rfl) (by kernel_rfl) (by kernel_rfl) (fun _ _ _ h => h) rfl S0 (fun w' hw' => by go_simp) ?_
        simp only [Act.put, List.setIfInBounds_toArray, List.set_cons_zero, List.set_cons_succ]
        refine nextS 4 rfl (by kernel_rfl) rfl (callS (some 110) rfl 12 #[.agg #[.int .i64 ((g : Int) + 1), .slice adp np capp], .agg #[.int .i64 (g : Int), .slice ad1 n1 cap1]] (by go_simp) (fun v w' => v = .bool (sameP ((g : Int) + 1, b) ((g : Int), a)) ∧ Ext W0 w') ((sameP_any ((g : Int) + 1) _ b _ _ _ W0 (HP8.out W0 S0) (H1.out.now (HE8.out W0 S0))).mono fun _ _ he => ⟨_, he.1, rfl, he.2⟩) ?_)
        rintro v1 W1 ⟨rfl, e1⟩
        simp only [Act.put, List.setIfInBounds_toArray, List.set_cons_zero, List.set_cons_succ]
        have S1 := S0.trans e1
        clear e1
        refine ⟨S1, ?_⟩
        refine nextS 10 rfl (by kernel_rfl) rfl (callS (some 116) rfl 12 #[.agg #[.int .i64 ((g : Int) + 1), .slice adp np capp], .agg #[.int .i64 ((g : Int) + 1), .slice ad2 n2 cap2]] (by go_simp) (fun v w' => v = .bool (sameP ((g : Int) + 1, b) ((g : Int) + 1, b)) ∧ Ext W1 w') ((sameP_any ((g : Int) + 1) _ b _ _ _ W1 (HP8.out W1 S1) (H2.out.now (HE8.out W1 S1))).mono fun _ _ he => ⟨_, he.1, rfl, he.2⟩) ?_)
        rintro v2 W2 ⟨rfl, e2⟩
        simp only [Act.put, List.setIfInBounds_toArray, List.set_cons_zero, List.set_cons_succ]
        have S2 := S1.trans e2
        clear e2
        refine ⟨S2, ?_⟩
        refine takeS 11 (some 23) (.bool (sameP ((g : Int) + 1, b) ((g : Int), a))) rfl rfl (by kernel_rfl) (by kernel_rfl) (by kernel_rfl) (fun _ _ _ h => h) rfl S2 (fun w' hw' => by go_simp) ?_
        simp only [Act.put, List.setIfInBounds_toArray, List.set_cons_zero, List.set_cons_succ]
        refine takeS 12 (some 24) (.bool (sameP ((g : Int) + 1, b) ((g : Int) + 1, b))) rfl rfl (by kernel_rfl) (by kernel_rfl) (by kernel_rfl) (fun _ _ _ h => h) rfl S2 (fun w' hw' => by go_simp) ?_
        simp only [Act.put, List.setIfInBounds_toArray, List.set_cons_zero, List.set_cons_succ]
        refine wpAnyH_done (by kernel_rfl) ?_ _
        have e9 := HE8.out W2 S2
        have A0 := awake_any W2 (HK.out.below e9 HK.out.lt)
        obtain ⟨B1, hB1⟩ : ∃ B, sameP ((g : Int) + 1, b) ((g : Int), a) = B := ⟨_, rfl⟩
        obtain ⟨B2, hB2⟩ : ∃ B, sameP ((g : Int) + 1, b) ((g : Int) + 1, b) = B := ⟨_, rfl⟩
        rw [hB1, hB2]
        rw [sameP_self] at hB2
        subst hB2
        clear hB1 S0 S1 S2
        go_wp2_with fail
        refine A0.mono ?_
        rintro e w9 ⟨rfl, e10⟩
        go_wp2
        go_ret
        exact ⟨rfl, e9.trans e10⟩
  · go_wp2
    go_loopw [19] (fun i wr => InvSt w5 gA (.slice adY nY capY) (.slice adY nY capY) (.slice ad3 n3 cap3) i wr) (fun i _ => 3 - (intOf i).toNat)
    case atStart => exact ⟨0, by omega, rfl, Only.refl _ _, a5⟩
    case round =>
      obtain ⟨j, hj, rfl, oj, aj⟩ := hrel
      have hj4 : j = 0 ∨ j = 1 ∨ j = 2 ∨ j = 3 := by omega
      clear hj
      rcases hj4 with rfl | rfl | rfl | rfl
      · have aj' := aj
        simp only [stA] at aj'
        have ck := aj'.cell 0
        have zk := aj'.frozen 0
        have a6 : At (wr.setCell ⟨gA, 0, none⟩ (.slice adY nY capY)) gA #[.slice adY nY capY, .slice none 0 0, .slice none 0 0] 38 := aj'.set 0 _
        have F := Lib.hid (And.intro (oj.trans (Only.set gA 0 wr (.slice adY nY capY))) a6)
        clear aj aj' oj a6
        go_wp2
        exact ⟨⟨1, by omega, rfl, F.out.1, F.out.2⟩, by simp [intOf]⟩
      · have aj' := aj
        simp only [stA] at aj'
        have ck := aj'.cell 1
        have zk := aj'.frozen 1
        have a6 : At (wr.setCell ⟨gA, 1, none⟩ (.slice adY nY capY)) gA #[.slice adY nY capY, .slice adY nY capY, .slice none 0 0] 38 := aj'.set 1 _
        have F := Lib.hid (And.intro (oj.trans (Only.set gA 1 wr (.slice adY nY capY))) a6)
        clear aj aj' oj a6
        go_wp2
        exact ⟨⟨2, by omega, rfl, F.out.1, F.out.2⟩, by simp [intOf]⟩
      · have aj' := aj
        simp only [stA] at aj'
        have ck := aj'.cell 2
        have zk := aj'.frozen 2
        have a6 : At (wr.setCell ⟨gA, 2, none⟩ (.slice ad3 n3 cap3)) gA #[.slice adY nY capY, .slice adY nY capY, .slice ad3 n3 cap3] 38 := aj'.set 2 _
        have F := Lib.hid (And.intro (oj.trans (Only.set gA 2 wr (.slice ad3 n3 cap3))) a6)
        clear aj aj' oj a6
        go_wp2
        exact ⟨⟨3, by omega, rfl, F.out.1, F.out.2⟩, by simp [intOf]⟩
      · have a6 : At wr gA #[.slice adY nY capY, .slice adY nY capY, .slice ad3 n3 cap3] 38 := aj
        have e06 := ext_only' e05 oj hgW
        have sX6 := src_keep sXA (sXA.other oj.size) oj
        have sY6 := src_keep sYA (sYA.other oj.size) oj
        have sT6 := src_keep sTA (sTA.other oj.size) oj
        clear aj oj a5 sXA sYA sTA e05
        have f0 := a6.cell 0
        have f1 := a6.cell 1
        have f2 := a6.cell 2
        have V := vote_any (.slice adY nY capY) (.slice adY nY capY) (.slice ad3 n3 cap3) Y Y torn wr (HK.out.below e06 HK.out.lt) sY6 sY6 sT6 ⟨⟨HY.out.1, HY.out.2.2⟩, ⟨HY.out.1, HY.out.2.2⟩, ⟨HB.out.2.2, by have := HL.out; omega⟩⟩
        rw [one2 HY.out.1 HB.out.2.2 HY.out.2.1] at V
        obtain ⟨M, hM⟩ : ∃ M, voteM Y Y torn = M := ⟨_, rfl⟩
        rw [hM] at V
        clear hM
        have hmy : mayP ((g : Int) + 1, b) = true := dec_may HY.out.1 HY.out.2.1
        have HMy := Lib.hid hmy
        clear hmy
        go_wp2_with fail
        refine V.mono ?_
        rintro e w7 ⟨q1, _⟩
        obtain ⟨vp, vm, rfl, e7, s7, r7⟩ := q1 HMy.out
        clear q1 V f0 f1 f2 a6 sX6 sY6 sT6
        simp only at s7 ⊢
        have e07 := e06.trans e7
        obtain ⟨adp, capp, evadp⟩ := s7.len
        obtain ⟨np, hnp⟩ : ∃ n, n = b.length := ⟨_, rfl⟩
        rw [← hnp] at evadp
        clear hnp
        subst evadp
        obtain ⟨adm, capm, mb, mo, evm, _, _⟩ := r7
        obtain ⟨nM, hnM⟩ : ∃ n, n = M.length := ⟨_, rfl⟩
        rw [← hnM] at evm
        clear hnM
        subst evm
        clear e06 e7
        have onew8 : (#[.int .i64 ((g : Int) + 1), .slice adp np capp] : Array Value).all (·.oneCell') = true := by simp [Value.oneCell']
        have szw8 : (Tryd.prog.info? 25).map (·.size) = some (#[.int .i64 ((g : Int) + 1), .slice adp np capp] : Array Value).size := szPage
        have eaw8 : Ext w7 (w7.alloc (.cells #[.int .i64 0, .slice none 0 0] 25)) := Ext.alloc w7 _
        have aaw8 := At.new w7 #[.int .i64 0, .slice none 0 0] 25
        have Ew8 := ext_only' eaw8 (Only.setRow w7.heap.size _ #[.int .i64 ((g : Int) + 1), .slice adp np capp]) (Nat.le_refl _)
        have Aw8 : At ((w7.alloc (.cells #[.int .i64 0, .slice none 0 0] 25)).setRow w7.heap.size #[.int .i64 ((g : Int) + 1), .slice adp np capp]) w7.heap.size #[.int .i64 ((g : Int) + 1), .slice adp np capp] 25 := aaw8.row _
        go_upto_region 21 with (refine wpList_store_row rfl 25 _ _ rfl w7.heap.size _ rfl rfl 25 _ aaw8 szw8 rfl onew8 ?_)
        clear eaw8 aaw8 szw8 onew8
        generalize (w7.alloc (.cells #[.int .i64 0, .slice none 0 0] 25)).setRow w7.heap.size #[.int .i64 ((g : Int) + 1), .slice adp np capp] = w8 at *
        obtain ⟨gP, hgP⟩ : ∃ g, g = w7.heap.size := ⟨_, rfl⟩
        rw [← hgP] at Aw8 ⊢
        clear hgP
        have e08 := e07.trans Ew8
        have sP := s7.now Ew8
        clear e07 s7 Ew8
        have HA8 := Lib.hid (fun (V : World) (hV : Ext w8 V) => at_ext Aw8 hV)
        have HP8 := Lib.hid (fun (V : World) (hV : Ext w8 V) => sP.now hV)
        have HE8 := Lib.hid (fun (V : World) (hV : Ext w8 V) => e08.trans hV)
        clear Aw8 sP e08
        refine wp_region_held (S := Ext w8) (by kernel_rfl) ?_
        change wpAnyH _ _ _ _ _ _ _ _ w8.drew
        have S0 : Ext w8 w8.drew := Below.drew (Below.refl _ _)
        generalize w8.drew = W0 at *
        refine takeS 0 (some 106) (.agg #[.int .i64 ((g : Int) + 1), .slice adp np capp]) rfl rfl (by kernel_rfl) (by kernel_rfl) (by kernel_rfl) (fun _ _ _ h => h) rfl S0 (fun w' hw' => by have c0 : w'.cell? ⟨gP, 0, none⟩ = some (.int .i64 ((g : Int) + 1)) := ((HA8.out w' hw').cell 0).trans rfl; have c1 : w'.cell? ⟨gP, 1, none⟩ = some (.slice adp np capp) := ((HA8.out w' hw').cell 1).trans rfl; go_simp) ?_
        simp only [Act.put, List.setIfInBounds_toArray, List.set_cons_zero, List.set_cons_succ]
        refine takeS 1 (some 107) (.int .i64 (g : Int)) rfl rfl (by kernel_rfl) (by kernel_rfl) (by kernel_rfl) (fun _ _ _ h => h) rfl S0 (fun w' hw' => by go_simp) ?_
        simp only [Act.put, List.setIfInBounds_toArray, List.set_cons_zero, List.set_cons_succ]
        refine takeS 2 (some 108) (.slice ad1 n1 cap1) rfl rfl (by kernel_rfl) (by kernel_rfl) (by kernel_rfl) (fun _ _ _ h => h) rfl S0 (fun w' hw' => by go_simp) ?_
        simp only [Act.put, List.setIfInBounds_toArray, List.set_cons_zero, List.set_cons_succ]
        refine takeS 3 (some 109) (.agg #[.int .i64 (g : Int), .slice ad1 n1 cap1]) rfl rfl (by kernel_rfl) (by kernel_rfl) (by kernel_rfl) (fun _ _ _ h => h) rfl S0 (fun w' hw' => by go_simp) ?_
        simp only [Act.put, List.setIfInBounds_toArray, List.set_cons_zero, List.set_cons_succ]
        refine takeS 5 (some 111) (.agg #[.int .i64 ((g : Int) + 1), .slice adp np capp]) rfl rfl (by kernel_rfl) (by kernel_rfl) (by kernel_rfl) (fun _ _ _ h => h) rfl S0 (fun w' hw' => by have c0 : w'.cell? ⟨gP, 0, none⟩ = some (.int .i64 ((g : Int) + 1)) := ((HA8.out w' hw').cell 0).trans rfl; have c1 : w'.cell? ⟨gP, 1, none⟩ = some (.slice adp np capp) := ((HA8.out w' hw').cell 1).trans rfl; go_simp) ?_
        simp only [Act.put, List.setIfInBounds_toArray, List.set_cons_zero, List.set_cons_succ]
        refine takeS 6 (some 112) (.int .i64 (g : Int)) rfl rfl (by kernel_rfl) (by kernel_rfl) (by kernel_rfl) (fun _ _ _ h => h) rfl S0 (fun w' hw' => by go_simp) ?_
        simp only [Act.put, List.setIfInBounds_toArray, List.set_cons_zero, List.set_cons_succ]
        refine takeS 7 (some 113) (.int .i64 ((g : Int) + 1)) rfl rfl (by kernel_rfl) (by kernel_rfl) (by kernel_rfl) (fun _ _ _ h => h) rfl S0 (fun w' hw' => by have hw := HWR.out; go_simp) ?_
        simp only [Act.put, List.setIfInBounds_toArray, List.set_cons_zero, List.set_cons_succ]
        refine takeS 8 (some 114) (.slice ad2 n2 cap2) rfl rfl (by kernel_rfl) (by kernel_rfl) (by kernel_rfl) (fun _ _ _ h => h) rfl S0 (fun w' hw' => by go_simp) ?_
        simp only [Act.put, List.setIfInBounds_toArray, List.set_cons_zero, List.set_cons_succ]
        refine takeS 9 (some 115) (.agg #[.int .i64 ((g : Int) + 1), .slice ad2 n2 cap2]) rfl rfl (by kernel_rfl) (by kernel_rfl) (by kernel_rfl) (fun _ _ _ h => h) rfl S0 (fun w' hw' => by go_simp) ?_
        simp only [Act.put, List.setIfInBounds_toArray, List.set_cons_zero, List.set_cons_succ]
        refine nextS 4 rfl (by kernel_rfl) rfl (callS (some 110) rfl 12 #[.agg #[.int .i64 ((g : Int) + 1), .slice adp np capp], .agg #[.int .i64 (g : Int), .slice ad1 n1 cap1]] (by go_simp) (fun v w' => v = .bool (sameP ((g : Int) + 1, b) ((g : Int), a)) ∧ Ext W0 w') ((sameP_any ((g : Int) + 1) _ b _ _ _ W0 (HP8.out W0 S0) (H1.out.now (HE8.out W0 S0))).mono fun _ _ he => ⟨_, he.1, rfl, he.2⟩) ?_)
        rintro v1 W1 ⟨rfl, e1⟩
        simp only [Act.put, List.setIfInBounds_toArray, List.set_cons_zero, List.set_cons_succ]
        have S1 := S0.trans e1
        clear e1
        refine ⟨S1, ?_⟩
        refine nextS 10 rfl (by kernel_rfl) rfl (callS (some 116) rfl 12 #[.agg #[.int .i64 ((g : Int) + 1), .slice adp np capp], .agg #[.int .i64 ((g : Int) + 1), .slice ad2 n2 cap2]] (by go_simp) (fun v w' => v = .bool (sameP ((g : Int) + 1, b) ((g : Int) + 1, b)) ∧ Ext W1 w') ((sameP_any ((g : Int) + 1) _ b _ _ _ W1 (HP8.out W1 S1) (H2.out.now (HE8.out W1 S1))).mono fun _ _ he => ⟨_, he.1, rfl, he.2⟩) ?_)
        rintro v2 W2 ⟨rfl, e2⟩
        simp only [Act.put, List.setIfInBounds_toArray, List.set_cons_zero, List.set_cons_succ]
        have S2 := S1.trans e2
        clear e2
        refine ⟨S2, ?_⟩
        refine takeS 11 (some 23) (.bool (sameP ((g : Int) + 1, b) ((g : Int), a))) rfl rfl (by kernel_rfl) (by kernel_rfl) (by kernel_rfl) (fun _ _ _ h => h) rfl S2 (fun w' hw' => by go_simp) ?_
        simp only [Act.put, List.setIfInBounds_toArray, List.set_cons_zero, List.set_cons_succ]
        refine takeS 12 (some 24) (.bool (sameP ((g : Int) + 1, b) ((g : Int) + 1, b))) rfl rfl (by kernel_rfl) (by kernel_rfl) (by kernel_rfl) (fun _ _ _ h => h) rfl S2 (fun w' hw' => by go_simp) ?_
        simp only [Act.put, List.setIfInBounds_toArray, List.set_cons_zero, List.set_cons_succ]
        refine wpAnyH_done (by kernel_rfl) ?_ _
        have e9 := HE8.out W2 S2
        have A0 := awake_any W2 (HK.out.below e9 HK.out.lt)
        obtain ⟨B1, hB1⟩ : ∃ B, sameP ((g : Int) + 1, b) ((g : Int), a) = B := ⟨_, rfl⟩
        obtain ⟨B2, hB2⟩ : ∃ B, sameP ((g : Int) + 1, b) ((g : Int) + 1, b) = B := ⟨_, rfl⟩
        rw [hB1, hB2]
        rw [sameP_self] at hB2
        subst hB2
        clear hB1 S0 S1 S2
        go_wp2_with fail
        refine A0.mono ?_
        rintro e w9 ⟨rfl, e10⟩
        go_wp2
        go_ret
        exact ⟨rfl, e9.trans e10⟩
end Go.Proofs.YtblhipdcgdhmiaaDoor
