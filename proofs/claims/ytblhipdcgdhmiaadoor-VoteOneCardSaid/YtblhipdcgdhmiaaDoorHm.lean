/- The walk of VoteOne. -/
import Derived.Test.YtblhipdcgdhmiaaDoorHl
namespace Go.Proofs.YtblhipdcgdhmiaaDoor
open Go.RowKit Go.Sha
set_option linter.unusedSimpArgs false
set_option linter.unusedVariables false

set_option maxHeartbeats 16000000 in
set_option maxRecDepth 100000 in
theorem one_all (vb vc : Value) (gen : Int) (body : List Int) (at_ : Int) (other : List Int) (W : World) (hK : KAt W) (hg : -9223372036854775808 ≤ gen ∧ gen ≤ 9223372036854775807)
    (h1 : Src W vb body W.heap.size) (hb1 : Byt body) (hl1 : body.length ≤ 9223372036854775807) (hat : -9223372036854775808 ≤ at_ ∧ at_ ≤ 9223372036854775807) (h2 : Src W vc other W.heap.size) (hb2 : Byt other) (hl2 : other.length ≤ 9223372036854775807) :
    Calls Tryd.prog 5 #[.int .i64 gen, vb, .int .i64 at_, vc] W (AwPost W) := by
  obtain ⟨ad1, cap1, ev⟩ := h1.len
  subst ev
  obtain ⟨ad2, cap2, ev⟩ := h2.len
  subst ev
  obtain ⟨n1, hn1⟩ : ∃ n, n = body.length := ⟨_, rfl⟩
  obtain ⟨n2, hn2⟩ : ∃ n, n = other.length := ⟨_, rfl⟩
  have A0 := awake_any W hK
  rw [← hn1] at h1 hl1 ⊢
  rw [← hn2] at h2 hl2 ⊢
  by_cases c0 : gen < 1
  · have d0 : decide (gen < 1) = true := by simp; omega
    clear c0 h1 h2 hb1 hb2 hl1 hl2 hn1 hn2 hg hat
    go_enter Tryd.func5, Tryd.ntmps5
    go_wp2_with fail
    refine A0.mono ?_
    rintro e w1 ⟨rfl, e1⟩
    go_wp2
    go_ret
    exact ⟨rfl, e1⟩
  have d0 : decide (gen < 1) = false := by simp; omega
  by_cases c1 : 2147483647 < gen
  · have d1 : decide (2147483647 < gen) = true := by simp; omega
    clear c0 c1 h1 h2 hb1 hb2 hl1 hl2 hn1 hn2 hg hat
    go_enter Tryd.func5, Tryd.ntmps5
    go_wp2_with fail
    refine A0.mono ?_
    rintro e w1 ⟨rfl, e1⟩
    go_wp2
    go_ret
    exact ⟨rfl, e1⟩
  have d1 : decide (2147483647 < gen) = false := by simp; omega
  by_cases c2 : 1000 < n1
  · have d2 : decide ((1000 : Int) < (n1 : Int)) = true := by simp; omega
    have d2' : decide (1000 < n1) = true := by simpa using c2
    clear c0 c1 c2 h1 h2 hb1 hb2 hl1 hl2 hn1 hn2 hg hat
    go_enter Tryd.func5, Tryd.ntmps5
    go_wp2_with fail
    refine A0.mono ?_
    rintro e w1 ⟨rfl, e1⟩
    go_wp2
    go_ret
    exact ⟨rfl, e1⟩
  have d2 : decide ((1000 : Int) < (n1 : Int)) = false := by simp; omega
  have d2' : decide (1000 < n1) = false := by simpa using c2
  by_cases c3 : 2000 < n2
  · have d3 : decide ((2000 : Int) < (n2 : Int)) = true := by simp; omega
    have d3' : decide (2000 < n2) = true := by simpa using c3
    clear c0 c1 c2 c3 h1 h2 hb1 hb2 hl1 hl2 hn1 hn2 hg hat
    go_enter Tryd.func5, Tryd.ntmps5
    go_wp2_with fail
    refine A0.mono ?_
    rintro e w1 ⟨rfl, e1⟩
    go_wp2
    go_ret
    exact ⟨rfl, e1⟩
  have d3 : decide ((2000 : Int) < (n2 : Int)) = false := by simp; omega
  have d3' : decide (2000 < n2) = false := by simpa using c3
  obtain ⟨g, rfl⟩ := Int.eq_ofNat_of_zero_le (show 0 ≤ gen by omega)
  have hgb : 1 ≤ g ∧ g ≤ 2147483647 ∧ body.length ≤ 60000 := by omega
  have hO := enc_page g body hgb.1 hgb.2.1 hgb.2.2
  have hX := seal_byt (encP_byt g hb1)
  have hp := dec_enc g body hgb.1 hgb.2.1 hgb.2.2
  have hXl : (sealL (encP g body)).length ≤ 100000000 := by rw [sealL_length, encP_len]; omega
  obtain ⟨X, hXX⟩ : ∃ X, sealL (encP g body) = X := ⟨_, rfl⟩
  rw [hXX] at hO hX hp hXl
  have e0 : Ext W W := Ext.refl W
  have E1 := enc_any (g : Int) body (.slice ad1 n1 cap1) W hK h1
  rw [hO] at E1
  unfold EP at E1
  simp only [Option.isSome_some, if_true, Option.getD_some] at E1
  have HX := Lib.hid (And.intro hX (And.intro hp hXl))
  have HB := Lib.hid (And.intro hb1 (And.intro hb2 (show other.length ≤ 100000000 by omega)))
  have H1 := Lib.hid h1
  have H2 := Lib.hid h2
  have HK := Lib.hid hK
  have HE := Lib.hid (And.intro (one0 hX hb2 hp) (And.intro (one1 hX hb2 hp) (one2 hX hb2 hp)))
  have HM := Lib.hid (And.intro (min0 hX hb2 hp) (And.intro (min1 hX hb2 hp) (min2 hX hb2 hp)))
  have HMy := Lib.hid (dec_may hX hp)
  clear hgb hO hX hp hXl hXX e0 h1 h2 hb1 hb2 hl1 hl2 hn1 hn2 hg hat c0 c1 c2 c3 A0 hK
  go_enter Tryd.func5, Tryd.ntmps5
  go_wp2_with fail
  refine E1.mono ?_
  rintro e w1 ⟨vX, rfl, e1, sX⟩
  clear E1 d0 d1 d2 d2' d3 d3'
  obtain ⟨adX, capX, evX⟩ := sX.len
  obtain ⟨nX, hnX⟩ : ∃ n, n = X.length := ⟨_, rfl⟩
  rw [← hnX] at evX
  clear hnX
  subst evX
  have onea : (#[.slice adX nX capX, .slice adX nX capX, .slice adX nX capX] : Array Value).all (·.oneCell') = true := by simp [Value.oneCell']
  have sza : (Tryd.prog.info? 38).map (·.size) = some (#[.slice adX nX capX, .slice adX nX capX, .slice adX nX capX] : Array Value).size := szArr
  have e2 : Ext w1 (w1.alloc (.cells #[.slice none 0 0, .slice none 0 0, .slice none 0 0] 38)) := Ext.alloc w1 _
  have a2 := At.new w1 #[.slice none 0 0, .slice none 0 0, .slice none 0 0] 38
  have e3 := ext_only' e2 (Only.setRow w1.heap.size _ #[.slice adX nX capX, .slice adX nX capX, .slice adX nX capX]) (Nat.le_refl _)
  have a3 : At ((w1.alloc (.cells #[.slice none 0 0, .slice none 0 0, .slice none 0 0] 38)).setRow w1.heap.size #[.slice adX nX capX, .slice adX nX capX, .slice adX nX capX]) w1.heap.size #[.slice adX nX capX, .slice adX nX capX, .slice adX nX capX] 38 := a2.row _
  go_upto_region 7 with (refine wpList_store_row rfl 38 _ _ rfl w1.heap.size _ rfl rfl 38 _ a2 sza rfl onea ?_)
  clear e2 a2 sza onea
  generalize (w1.alloc (.cells #[.slice none 0 0, .slice none 0 0, .slice none 0 0] 38)).setRow w1.heap.size #[.slice adX nX capX, .slice adX nX capX, .slice adX nX capX] = w3 at *
  have hlt := e1.size
  obtain ⟨gA, hgA⟩ : ∃ g, g = w1.heap.size := ⟨_, rfl⟩
  have e13 := e1.trans e3
  have sX3 := sX.now e3
  have sXA := (sX.ext e3)
  rw [← hgA] at a3 sXA ⊢
  have hgW : W.heap.size ≤ gA := by omega
  clear hgA hlt e3
  go_wp2_with fail
  refine (round_any at_ 3 w3 (by omega) (by omega)).mono ?_
  rintro e w4 ⟨⟨c, rfl, hc0, hc3⟩, rfl⟩
  have hc : c = 0 ∨ c = 1 ∨ c = 2 := by omega
  clear hc0 hc3
  rcases hc with rfl | rfl | rfl
  · have ck := a3.cell 0
    have zk := a3.frozen 0
    have a4 : At (w3.setCell ⟨gA, 0, none⟩ (.slice ad2 n2 cap2)) gA #[.slice ad2 n2 cap2, .slice adX nX capX, .slice adX nX capX] 38 := a3.set 0 _
    have o4 := Only.set gA 0 w3 (.slice ad2 n2 cap2)
    have e04 := ext_only' e13 o4 hgW
    have sX4 : Src (w3.setCell ⟨gA, 0, none⟩ (.slice ad2 n2 cap2)) (.slice adX nX capX) X (w3.setCell ⟨gA, 0, none⟩ (.slice ad2 n2 cap2)).heap.size := src_keep sXA (sX3.other o4.size) o4
    have sO4 := H2.out.now e04
    go_upto_region 9 with (fail)
    clear ck zk a3 sXA sX3 e13 sX o4
    generalize w3.setCell ⟨gA, 0, none⟩ (.slice ad2 n2 cap2) = w4 at *
    have f0 := a4.cell 0
    have f1 := a4.cell 1
    have f2 := a4.cell 2
    have V := vote_any (.slice ad2 n2 cap2) (.slice adX nX capX) (.slice adX nX capX) other X X w4 (HK.out.below e04 HK.out.lt) sO4 sX4 sX4 ⟨⟨HB.out.2.1, HB.out.2.2⟩, ⟨HX.out.1, HX.out.2.2⟩, ⟨HX.out.1, HX.out.2.2⟩⟩
    rw [HE.out.1, HM.out.1] at V
    obtain ⟨B, hB⟩ : ∃ B, eqS other X = B := ⟨_, rfl⟩
    rw [hB] at V
    obtain ⟨M, hM⟩ : ∃ M, (if B then [] else [(0 : Int)]) = M := ⟨_, rfl⟩
    rw [hM] at V
    obtain ⟨nM, hnM⟩ : ∃ n, n = M.length := ⟨_, rfl⟩
    have HMM := Lib.hid (And.intro hM hnM)
    clear hM
    unfold eqS at hB
    have HBB := Lib.hid hB
    clear hB
    go_wp2_with fail
    refine V.mono ?_
    rintro e w5 ⟨q1, _⟩
    obtain ⟨vp, vm, rfl, e5, s5, r5⟩ := q1 HMy.out
    clear q1 V f0 f1 f2 a4
    simp only at s5 ⊢
    have e05 := e04.trans e5
    have sO5 := sO4.now e5
    have sX5 := sX4.now e5
    obtain ⟨adp, capp, evadp⟩ := s5.len
    obtain ⟨np, hnp⟩ : ∃ n, n = body.length := ⟨_, rfl⟩
    rw [← hnp] at evadp
    clear hnp
    subst evadp
    obtain ⟨adm, capm, mb, mo, evm, hm, hc⟩ := r5
    rw [← hnM] at evm hm
    clear hnM
    subst evm
    have Hm := Lib.hid hm
    clear sO4 sX4 e04 hm
    have onew7 : (#[.int .i64 (g : Int), .slice adp np capp] : Array Value).all (·.oneCell') = true := by simp [Value.oneCell']
    have szw7 : (Tryd.prog.info? 25).map (·.size) = some (#[.int .i64 (g : Int), .slice adp np capp] : Array Value).size := szPage
    have eaw7 : Ext w5 (w5.alloc (.cells #[.int .i64 0, .slice none 0 0] 25)) := Ext.alloc w5 _
    have aaw7 := At.new w5 #[.int .i64 0, .slice none 0 0] 25
    have Ew7 := ext_only' eaw7 (Only.setRow w5.heap.size _ #[.int .i64 (g : Int), .slice adp np capp]) (Nat.le_refl _)
    have Aw7 : At ((w5.alloc (.cells #[.int .i64 0, .slice none 0 0] 25)).setRow w5.heap.size #[.int .i64 (g : Int), .slice adp np capp]) w5.heap.size #[.int .i64 (g : Int), .slice adp np capp] 25 := aaw7.row _
    go_upto_region 10 with (refine wpList_store_row rfl 25 _ _ rfl w5.heap.size _ rfl rfl 25 _ aaw7 szw7 rfl onew7 ?_)
    clear eaw7 aaw7 szw7 onew7
    generalize (w5.alloc (.cells #[.int .i64 0, .slice none 0 0] 25)).setRow w5.heap.size #[.int .i64 (g : Int), .slice adp np capp] = w7 at *
    obtain ⟨gP, hgP⟩ : ∃ g, g = w5.heap.size := ⟨_, rfl⟩
    rw [← hgP] at Aw7 ⊢
    clear hgP
    have e07 := e05.trans Ew7
    have sO7 := sO5.now Ew7
    have sX7 := sX5.now Ew7
    have sP7 := s5.now Ew7
    have hc7 : ∀ j a, M[j]? = some a → w7.cell? ⟨mb, mo + j, none⟩ = some (.int .i64 a) := fun j a hj => by
      have hh := hc j a hj
      rw [Below.cell (p := ⟨mb, mo + j, none⟩) Ew7 (World.block_lt_of_cell? w5 _ hh)]
      exact hh
    have SM := sameP_any (g : Int) (g : Int) body body _ _ w7 sP7 (H1.out.now e07)
    rw [sameP_self] at SM
    have p0 := Aw7.cell 0
    have p1 := Aw7.cell 1
    clear hc s5 sO5 sX5 e05 Ew7 e5 Aw7
    go_wp2_with fail
    refine SM.mono ?_
    rintro e w8 ⟨rfl, e8⟩
    clear p0 p1 SM
    have e08 := e07.trans e8
    have A0 := awake_any w8 (HK.out.below e08 HK.out.lt)
    have kO := conv_src (P := Tryd.prog) 22 9 5 Tryd.underlying22 Tryd.underlying5 Tryd.underlying9 (sO7.now e8)
    have kX := conv_src (P := Tryd.prog) 22 9 5 Tryd.underlying22 Tryd.underlying5 Tryd.underlying9 (sX7.now e8)
    have HC := Lib.hid hc7
    clear sO7 sX7 sP7 e07 hc7
    cases B
    · obtain ⟨hM, hnM⟩ := HMM.out
      simp only [Bool.false_eq_true, if_false] at hM
      subst hM
      obtain rfl : nM = 1 := hnM
      obtain rfl := Hm.out (by omega)
      have cm : w8.cell? ⟨mb, mo, none⟩ = some (.int .i64 0) := by
        have hh := HC.out 0 0 rfl
        rw [Nat.add_zero] at hh
        rw [Below.cell (p := ⟨mb, mo, none⟩) e8 (World.block_lt_of_cell? w7 _ hh)]
        exact hh
      have hB := HBB.out
      clear HC e8
      go_wp2_with fail
      refine A0.mono ?_
      rintro e w9 ⟨rfl, e9⟩
      go_wp2
      go_ret
      exact ⟨rfl, e08.trans e9⟩
    · obtain ⟨hM, hnM⟩ := HMM.out
      simp only [if_true] at hM
      subst hM
      obtain rfl : nM = 0 := hnM
      have hB := HBB.out
      clear HC e8
      go_wp2_with fail
      refine A0.mono ?_
      rintro e w9 ⟨rfl, e9⟩
      go_wp2
      go_ret
      exact ⟨rfl, e08.trans e9⟩
  · have ck := a3.cell 1
    have zk := a3.frozen 1
    have a4 : At (w3.setCell ⟨gA, 1, none⟩ (.slice ad2 n2 cap2)) gA #[.slice adX nX capX, .slice ad2 n2 cap2, .slice adX nX capX] 38 := a3.set 1 _
    have o4 := Only.set gA 1 w3 (.slice ad2 n2 cap2)
    have e04 := ext_only' e13 o4 hgW
    have sX4 : Src (w3.setCell ⟨gA, 1, none⟩ (.slice ad2 n2 cap2)) (.slice adX nX capX) X (w3.setCell ⟨gA, 1, none⟩ (.slice ad2 n2 cap2)).heap.size := src_keep sXA (sX3.other o4.size) o4
    have sO4 := H2.out.now e04
    go_upto_region 9 with (fail)
    clear ck zk a3 sXA sX3 e13 sX o4
    generalize w3.setCell ⟨gA, 1, none⟩ (.slice ad2 n2 cap2) = w4 at *
    have f0 := a4.cell 0
    have f1 := a4.cell 1
    have f2 := a4.cell 2
    have V := vote_any (.slice adX nX capX) (.slice ad2 n2 cap2) (.slice adX nX capX) X other X w4 (HK.out.below e04 HK.out.lt) sX4 sO4 sX4 ⟨⟨HX.out.1, HX.out.2.2⟩, ⟨HB.out.2.1, HB.out.2.2⟩, ⟨HX.out.1, HX.out.2.2⟩⟩
    rw [HE.out.2.1, HM.out.2.1] at V
    obtain ⟨B, hB⟩ : ∃ B, eqS other X = B := ⟨_, rfl⟩
    rw [hB] at V
    obtain ⟨M, hM⟩ : ∃ M, (if B then [] else [(1 : Int)]) = M := ⟨_, rfl⟩
    rw [hM] at V
    obtain ⟨nM, hnM⟩ : ∃ n, n = M.length := ⟨_, rfl⟩
    have HMM := Lib.hid (And.intro hM hnM)
    clear hM
    unfold eqS at hB
    have HBB := Lib.hid hB
    clear hB
    go_wp2_with fail
    refine V.mono ?_
    rintro e w5 ⟨q1, _⟩
    obtain ⟨vp, vm, rfl, e5, s5, r5⟩ := q1 HMy.out
    clear q1 V f0 f1 f2 a4
    simp only at s5 ⊢
    have e05 := e04.trans e5
    have sO5 := sO4.now e5
    have sX5 := sX4.now e5
    obtain ⟨adp, capp, evadp⟩ := s5.len
    obtain ⟨np, hnp⟩ : ∃ n, n = body.length := ⟨_, rfl⟩
    rw [← hnp] at evadp
    clear hnp
    subst evadp
    obtain ⟨adm, capm, mb, mo, evm, hm, hc⟩ := r5
    rw [← hnM] at evm hm
    clear hnM
    subst evm
    have Hm := Lib.hid hm
    clear sO4 sX4 e04 hm
    have onew7 : (#[.int .i64 (g : Int), .slice adp np capp] : Array Value).all (·.oneCell') = true := by simp [Value.oneCell']
    have szw7 : (Tryd.prog.info? 25).map (·.size) = some (#[.int .i64 (g : Int), .slice adp np capp] : Array Value).size := szPage
    have eaw7 : Ext w5 (w5.alloc (.cells #[.int .i64 0, .slice none 0 0] 25)) := Ext.alloc w5 _
    have aaw7 := At.new w5 #[.int .i64 0, .slice none 0 0] 25
    have Ew7 := ext_only' eaw7 (Only.setRow w5.heap.size _ #[.int .i64 (g : Int), .slice adp np capp]) (Nat.le_refl _)
    have Aw7 : At ((w5.alloc (.cells #[.int .i64 0, .slice none 0 0] 25)).setRow w5.heap.size #[.int .i64 (g : Int), .slice adp np capp]) w5.heap.size #[.int .i64 (g : Int), .slice adp np capp] 25 := aaw7.row _
    go_upto_region 10 with (refine wpList_store_row rfl 25 _ _ rfl w5.heap.size _ rfl rfl 25 _ aaw7 szw7 rfl onew7 ?_)
    clear eaw7 aaw7 szw7 onew7
    generalize (w5.alloc (.cells #[.int .i64 0, .slice none 0 0] 25)).setRow w5.heap.size #[.int .i64 (g : Int), .slice adp np capp] = w7 at *
    obtain ⟨gP, hgP⟩ : ∃ g, g = w5.heap.size := ⟨_, rfl⟩
    rw [← hgP] at Aw7 ⊢
    clear hgP
    have e07 := e05.trans Ew7
    have sO7 := sO5.now Ew7
    have sX7 := sX5.now Ew7
    have sP7 := s5.now Ew7
    have hc7 : ∀ j a, M[j]? = some a → w7.cell? ⟨mb, mo + j, none⟩ = some (.int .i64 a) := fun j a hj => by
      have hh := hc j a hj
      rw [Below.cell (p := ⟨mb, mo + j, none⟩) Ew7 (World.block_lt_of_cell? w5 _ hh)]
      exact hh
    have SM := sameP_any (g : Int) (g : Int) body body _ _ w7 sP7 (H1.out.now e07)
    rw [sameP_self] at SM
    have p0 := Aw7.cell 0
    have p1 := Aw7.cell 1
    clear hc s5 sO5 sX5 e05 Ew7 e5 Aw7
    go_wp2_with fail
    refine SM.mono ?_
    rintro e w8 ⟨rfl, e8⟩
    clear p0 p1 SM
    have e08 := e07.trans e8
    have A0 := awake_any w8 (HK.out.below e08 HK.out.lt)
    have kO := conv_src (P := Tryd.prog) 22 9 5 Tryd.underlying22 Tryd.underlying5 Tryd.underlying9 (sO7.now e8)
    have kX := conv_src (P := Tryd.prog) 22 9 5 Tryd.underlying22 Tryd.underlying5 Tryd.underlying9 (sX7.now e8)
    have HC := Lib.hid hc7
    clear sO7 sX7 sP7 e07 hc7
    cases B
    · obtain ⟨hM, hnM⟩ := HMM.out
      simp only [Bool.false_eq_true, if_false] at hM
      subst hM
      obtain rfl : nM = 1 := hnM
      obtain rfl := Hm.out (by omega)
      have cm : w8.cell? ⟨mb, mo, none⟩ = some (.int .i64 1) := by
        have hh := HC.out 0 1 rfl
        rw [Nat.add_zero] at hh
        rw [Below.cell (p := ⟨mb, mo, none⟩) e8 (World.block_lt_of_cell? w7 _ hh)]
        exact hh
      have hB := HBB.out
      clear HC e8
      go_wp2_with fail
      refine A0.mono ?_
      rintro e w9 ⟨rfl, e9⟩
      go_wp2
      go_ret
      exact ⟨rfl, e08.trans e9⟩
    · obtain ⟨hM, hnM⟩ := HMM.out
      simp only [if_true] at hM
      subst hM
      obtain rfl : nM = 0 := hnM
      have hB := HBB.out
      clear HC e8
      go_wp2_with fail
      refine A0.mono ?_
      rintro e w9 ⟨rfl, e9⟩
      go_wp2
      go_ret
      exact ⟨rfl, e08.trans e9⟩
  · have ck := a3.cell 2
    have zk := a3.frozen 2
    have a4 : At (w3.setCell ⟨gA, 2, none⟩ (.slice ad2 n2 cap2)) gA #[.slice adX nX capX, .slice adX nX capX, .slice ad2 n2 cap2] 38 := a3.set 2 _
    have o4 := Only.set gA 2 w3 (.slice ad2 n2 cap2)
    have e04 := ext_only' e13 o4 hgW
    have sX4 : Src (w3.setCell ⟨gA, 2, none⟩ (.slice ad2 n2 cap2)) (.slice adX nX capX) X (w3.setCell ⟨gA, 2, none⟩ (.slice ad2 n2 cap2)).heap.size := src_keep sXA (sX3.other o4.size) o4
    have sO4 := H2.out.now e04
    go_upto_region 9 with (fail)
    clear ck zk a3 sXA sX3 e13 sX o4
    generalize w3.setCell ⟨gA, 2, none⟩ (.slice ad2 n2 cap2) = w4 at *
    have f0 := a4.cell 0
    have f1 := a4.cell 1
    have f2 := a4.cell 2
    have V := vote_any (.slice adX nX capX) (.slice adX nX capX) (.slice ad2 n2 cap2) X X other w4 (HK.out.below e04 HK.out.lt) sX4 sX4 sO4 ⟨⟨HX.out.1, HX.out.2.2⟩, ⟨HX.out.1, HX.out.2.2⟩, ⟨HB.out.2.1, HB.out.2.2⟩⟩
    rw [HE.out.2.2, HM.out.2.2] at V
    obtain ⟨B, hB⟩ : ∃ B, eqS other X = B := ⟨_, rfl⟩
    rw [hB] at V
    obtain ⟨M, hM⟩ : ∃ M, (if B then [] else [(2 : Int)]) = M := ⟨_, rfl⟩
    rw [hM] at V
    obtain ⟨nM, hnM⟩ : ∃ n, n = M.length := ⟨_, rfl⟩
    have HMM := Lib.hid (And.intro hM hnM)
    clear hM
    unfold eqS at hB
    have HBB := Lib.hid hB
    clear hB
    go_wp2_with fail
    refine V.mono ?_
    rintro e w5 ⟨q1, _⟩
    obtain ⟨vp, vm, rfl, e5, s5, r5⟩ := q1 HMy.out
    clear q1 V f0 f1 f2 a4
    simp only at s5 ⊢
    have e05 := e04.trans e5
    have sO5 := sO4.now e5
    have sX5 := sX4.now e5
    obtain ⟨adp, capp, evadp⟩ := s5.len
    obtain ⟨np, hnp⟩ : ∃ n, n = body.length := ⟨_, rfl⟩
    rw [← hnp] at evadp
    clear hnp
    subst evadp
    obtain ⟨adm, capm, mb, mo, evm, hm, hc⟩ := r5
    rw [← hnM] at evm hm
    clear hnM
    subst evm
    have Hm := Lib.hid hm
    clear sO4 sX4 e04 hm
    have onew7 : (#[.int .i64 (g : Int), .slice adp np capp] : Array Value).all (·.oneCell') = true := by simp [Value.oneCell']
    have szw7 : (Tryd.prog.info? 25).map (·.size) = some (#[.int .i64 (g : Int), .slice adp np capp] : Array Value).size := szPage
    have eaw7 : Ext w5 (w5.alloc (.cells #[.int .i64 0, .slice none 0 0] 25)) := Ext.alloc w5 _
    have aaw7 := At.new w5 #[.int .i64 0, .slice none 0 0] 25
    have Ew7 := ext_only' eaw7 (Only.setRow w5.heap.size _ #[.int .i64 (g : Int), .slice adp np capp]) (Nat.le_refl _)
    have Aw7 : At ((w5.alloc (.cells #[.int .i64 0, .slice none 0 0] 25)).setRow w5.heap.size #[.int .i64 (g : Int), .slice adp np capp]) w5.heap.size #[.int .i64 (g : Int), .slice adp np capp] 25 := aaw7.row _
    go_upto_region 10 with (refine wpList_store_row rfl 25 _ _ rfl w5.heap.size _ rfl rfl 25 _ aaw7 szw7 rfl onew7 ?_)
    clear eaw7 aaw7 szw7 onew7
    generalize (w5.alloc (.cells #[.int .i64 0, .slice none 0 0] 25)).setRow w5.heap.size #[.int .i64 (g : Int), .slice adp np capp] = w7 at *
    obtain ⟨gP, hgP⟩ : ∃ g, g = w5.heap.size := ⟨_, rfl⟩
    rw [← hgP] at Aw7 ⊢
    clear hgP
    have e07 := e05.trans Ew7
    have sO7 := sO5.now Ew7
    have sX7 := sX5.now Ew7
    have sP7 := s5.now Ew7
    have hc7 : ∀ j a, M[j]? = some a → w7.cell? ⟨mb, mo + j, none⟩ = some (.int .i64 a) := fun j a hj => by
      have hh := hc j a hj
      rw [Below.cell (p := ⟨mb, mo + j, none⟩) Ew7 (World.block_lt_of_cell? w5 _ hh)]
      exact hh
    have SM := sameP_any (g : Int) (g : Int) body body _ _ w7 sP7 (H1.out.now e07)
    rw [sameP_self] at SM
    have p0 := Aw7.cell 0
    have p1 := Aw7.cell 1
    clear hc s5 sO5 sX5 e05 Ew7 e5 Aw7
    go_wp2_with fail
    refine SM.mono ?_
    rintro e w8 ⟨rfl, e8⟩
    clear p0 p1 SM
    have e08 := e07.trans e8
    have A0 := awake_any w8 (HK.out.below e08 HK.out.lt)
    have kO := conv_src (P := Tryd.prog) 22 9 5 Tryd.underlying22 Tryd.underlying5 Tryd.underlying9 (sO7.now e8)
    have kX := conv_src (P := Tryd.prog) 22 9 5 Tryd.underlying22 Tryd.underlying5 Tryd.underlying9 (sX7.now e8)
    have HC := Lib.hid hc7
    clear sO7 sX7 sP7 e07 hc7
    cases B
    · obtain ⟨hM, hnM⟩ := HMM.out
      simp only [Bool.false_eq_true, if_false] at hM
      subst hM
      obtain rfl : nM = 1 := hnM
      obtain rfl := Hm.out (by omega)
      have cm : w8.cell? ⟨mb, mo, none⟩ = some (.int .i64 2) := by
        have hh := HC.out 0 2 rfl
        rw [Nat.add_zero] at hh
        rw [Below.cell (p := ⟨mb, mo, none⟩) e8 (World.block_lt_of_cell? w7 _ hh)]
        exact hh
      have hB := HBB.out
      clear HC e8
      go_wp2_with fail
      refine A0.mono ?_
      rintro e w9 ⟨rfl, e9⟩
      go_wp2
      go_ret
      exact ⟨rfl, e08.trans e9⟩
    · obtain ⟨hM, hnM⟩ := HMM.out
      simp only [if_true] at hM
      subst hM
      obtain rfl : nM = 0 := hnM
      have hB := HBB.out
      clear HC e8
      go_wp2_with fail
      refine A0.mono ?_
      rintro e w9 ⟨rfl, e9⟩
      go_wp2
      go_ret
      exact ⟨rfl, e08.trans e9⟩
end Go.Proofs.YtblhipdcgdhmiaaDoor
