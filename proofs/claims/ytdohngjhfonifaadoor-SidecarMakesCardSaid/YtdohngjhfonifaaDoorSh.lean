/- The walk of the law SidecarMakes. -/
import Derived.Test.YtdohngjhfonifaaDoorSf
import Derived.Test.YtdohngjhfonifaaDoorSe
import Derived.Test.YtdohngjhfonifaaDoorSg
namespace Go.Proofs.YtdohngjhfonifaaDoor
open Go.RowKit Go.Sha
set_option linter.unusedSimpArgs false
set_option linter.unusedVariables false

set_option maxHeartbeats 8000000 in
set_option maxRecDepth 100000 in
theorem makes_ok (ad : Option Addr) (n cap : Nat) (m : List Int) (b k : Int) (w : World) (hK : KAt w) (hs : Src w (.slice ad n cap) m w.heap.size) (hn : mayL m.length b k = true) (d1 : decide ((2000 : Int) < (n : Int)) = false) (d2 : decide (1 ≤ b) = true) (hb : 1 ≤ b) (d3 : decide (130 < wrap64 ((n : Int) / b)) = false) :
    Calls Tryd.prog 3 #[.slice ad n cap, .int .i64 b, .int .i64 k] w fun e w' => e = .returned (.bool true) ∧ Ext w w' := by
  have hm8 : m.length ≤ 8192 := by have := (mayL_iff _ _ _).1 hn; omega
  have hb16 := (mayL_iff _ _ _).1 hn
  have bl0 : (makeL m b k).leaves.length ≤ 9223372036854775807 := by
    have h3 : ((makeL m b k).leaves.length : Int) = cntL m.length b := leavesL_length m b
    have := cntL_le m.length b
    omega
  have bp0 : (makeL m b k).parity.length ≤ 9223372036854775807 := by
    have h3 : (makeL m b k).parity.length = (grpsN m.length b k).toNat := buildL_length m b k
    have := grpsN_le m.length b k
    omega
  clear hm8 hb16
  obtain ⟨z, y, x, rt, ls, ps, hM⟩ : ∃ z y x rt ls ps, (makeL m b k) = (⟨z, y, x, rt, ls, ps⟩ : Sd) := ⟨_, _, _, _, _, _, rfl⟩
  have bl : ls.length ≤ 9223372036854775807 := by
    have := bl0
    rw [hM] at this
    exact this
  have bp : ps.length ≤ 9223372036854775807 := by
    have := bp0
    rw [hM] at this
    exact this
  have so := sound_make m b k hn
  rw [hM] at so
  clear bl0 bp0
  obtain ⟨nr, hnr⟩ : ∃ n, n = rt.length := ⟨_, rfl⟩
  obtain ⟨nl, hnl⟩ : ∃ n, n = ls.length := ⟨_, rfl⟩
  obtain ⟨np, hnp⟩ : ∃ n, n = ps.length := ⟨_, rfl⟩
  have Hn := Lib.hid (And.intro hnr.symm (And.intro hnl.symm hnp.symm))
  clear hnr hnl hnp
  go_enter Tryd.func3, Tryd.ntmps3
  go_wp2_with fail
  refine (make_ok _ m b k w hK hs hn).mono ?_
  rintro e w1 ⟨vr, vl, vp, rfl, e0, p0⟩
  obtain ⟨adr, capr, ev⟩ := p0.r.len
  subst ev
  obtain ⟨adl, capl, ev⟩ := p0.l.len
  subst ev
  obtain ⟨adp, capp, ev⟩ := p0.p.len
  subst ev
  rw [hM] at p0 ⊢
  simp only [Hn.out.1, Hn.out.2.1, Hn.out.2.2] at p0 ⊢
  clear d1
  have e1 : Ext w1 (w1.alloc (.cells #[.int .i64 z, .int .i64 y, .int .i64 x, .slice adr nr capr, .slice adl nl capl, .slice adp np capp] 26)) := Ext.alloc w1 _
  have a1 := At.new w1 #[.int .i64 z, .int .i64 y, .int .i64 x, .slice adr nr capr, .slice adl nl capl, .slice adp np capp] 26
  have p1 := p0.ext e1
  have e01 := e0.trans e1
  have s1 := hs.now e01
  clear e0 e1 p0
  go_wp2_with fail
  generalize w1.alloc (.cells #[.int .i64 z, .int .i64 y, .int .i64 x, .slice adr nr capr, .slice adl nl capl, .slice adp np capp] 26) = w2 at *
  obtain ⟨g1, hg1⟩ : ∃ g, g = w1.heap.size := ⟨_, rfl⟩
  rw [← hg1] at a1 ⊢
  clear hg1
  refine (rmake_ok _ m b k w2 s1 hn).mono ?_
  rintro e w3 ⟨ur, ul, up, rfl, e2, q0⟩
  obtain ⟨bdr, dapr, ev⟩ := q0.r.len
  subst ev
  obtain ⟨bdl, dapl, ev⟩ := q0.l.len
  subst ev
  obtain ⟨bdp, dapp, ev⟩ := q0.p.len
  subst ev
  rw [hM] at q0 ⊢
  simp only [Hn.out.1, Hn.out.2.1, Hn.out.2.2] at q0 ⊢
  replace a1 := at_ext a1 e2
  replace e01 := e01.trans e2
  replace p1 := p1.ext e2
  clear e2 s1
  have e3 : Ext w3 (w3.alloc (.cells #[.int .i64 z, .int .i64 y, .int .i64 x, .slice bdr nr dapr, .slice bdl nl dapl, .slice bdp np dapp] 30)) := Ext.alloc w3 _
  have a2 := At.new w3 #[.int .i64 z, .int .i64 y, .int .i64 x, .slice bdr nr dapr, .slice bdl nl dapl, .slice bdp np dapp] 30
  replace a1 := at_ext a1 e3
  replace e01 := e01.trans e3
  replace p1 := p1.ext e3
  replace q0 := q0.ext e3
  clear e3
  have k0 := hK.below e01 hK.lt
  go_upto_region 5 with (fail)
  generalize w3.alloc (.cells #[.int .i64 z, .int .i64 y, .int .i64 x, .slice bdr nr dapr, .slice bdl nl dapl, .slice bdp np dapp] 30) = w4 at *
  obtain ⟨g2, hg2⟩ : ∃ g, g = w3.heap.size := ⟨_, rfl⟩
  rw [← hg2] at a2 ⊢
  clear hg2
  have HA := Lib.hid (fun (w' : World) (hw' : Ext w4 w') => at_ext a1 hw')
  have HB := Lib.hid (fun (w' : World) (hw' : Ext w4 w') => at_ext a2 hw')
  clear a1 a2
  refine wp_region_held (S := Ext w4) (by kernel_rfl) ?_
  change wpAnyH _ _ _ _ _ _ _ _ w4.drew
  have S0 : Ext w4 w4.drew := Below.drew (Below.refl _ _)
  have P0 := p1.ext S0
  have Q0 := q0.ext S0
  have K0 := k0.below S0 k0.lt
  clear p1 q0 k0
  generalize w4.drew = W at *
  refine takeS 0 (some 40) (.agg #[.int .i64 z, .int .i64 y, .int .i64 x, .slice adr nr capr, .slice adl nl capl, .slice adp np capp]) rfl rfl (by kernel_rfl) (by kernel_rfl) (by kernel_rfl) (fun _ _ _ h => h) rfl S0 (fun w' hw' => exec_load_row 26 _ rfl g1 rfl 26 _ (HA.out w' hw') Tryd.underlying26 rfl (by kernel_rfl)) ?_
  simp only [Act.put, List.setIfInBounds_toArray, List.set_cons_zero, List.set_cons_succ]
  refine takeS 2 (some 42) (.agg #[.int .i64 z, .int .i64 y, .int .i64 x, .slice bdr nr dapr, .slice bdl nl dapl, .slice bdp np dapp]) rfl rfl (by kernel_rfl) (by kernel_rfl) (by kernel_rfl) (fun _ _ _ h => h) rfl S0 (fun w' hw' => exec_load_row 30 _ rfl g2 rfl 30 _ (HB.out w' hw') Tryd.underlying30 rfl (by kernel_rfl)) ?_
  simp only [Act.put, List.setIfInBounds_toArray, List.set_cons_zero, List.set_cons_succ]
  refine nextS 1 rfl (by kernel_rfl) rfl (callS (some 41) rfl 10 #[.agg #[.int .i64 z, .int .i64 y, .int .i64 x, .slice adr nr capr, .slice adl nl capl, .slice adp np capp]] (by go_simp) (fun v w' => v = .agg #[.int .i64 z, .int .i64 y, .int .i64 x, .slice adr nr capr, .slice adl nl capl, .slice adp np capp] ∧ Ext W w') ((flat_any _ _ _ _ _ _ _ _ _ _ _ _ W).mono fun _ _ he => ⟨_, he.1, rfl, he.2⟩) ?_)
  rintro v1 W1 ⟨rfl, e1⟩
  simp only [Act.put, List.setIfInBounds_toArray, List.set_cons_zero, List.set_cons_succ]
  have S1 := S0.trans e1
  have P1 := P0.ext e1
  have Q1 := Q0.ext e1
  have K1 := K0.below e1 K0.lt
  clear e1 P0 Q0 K0 S0
  refine ⟨S1, ?_⟩
  refine nextS 3 rfl (by kernel_rfl) rfl (callS (some 43) rfl 9 #[.agg #[.int .i64 z, .int .i64 y, .int .i64 x, .slice adr nr capr, .slice adl nl capl, .slice adp np capp], .agg #[.int .i64 z, .int .i64 y, .int .i64 x, .slice bdr nr dapr, .slice bdl nl dapl, .slice bdp np dapp]] (by go_simp) (fun v w' => v = .bool true ∧ Ext W1 w') ((rsame_any ⟨z, y, x, rt, ls, ps⟩ ⟨z, y, x, rt, ls, ps⟩ _ _ _ _ _ _ W1 P1 Q1 bl bp bl bp).mono fun _ _ he => ⟨_, he.1.trans (by rw [sameL_self]), rfl, he.2⟩) ?_)
  rintro v2 W2 ⟨rfl, e1⟩
  simp only [Act.put, List.setIfInBounds_toArray, List.set_cons_zero, List.set_cons_succ]
  have S2 := S1.trans e1
  have P2 := P1.ext e1
  have K2 := K1.below e1 K1.lt
  clear e1 P1 Q1 K1 S1
  refine ⟨S2, ?_⟩
  refine takeS 4 (some 44) (.bool true) rfl rfl (by kernel_rfl) (by kernel_rfl) (by kernel_rfl) (fun _ _ _ h => h) rfl S2 (fun w' hw' => by go_simp) ?_
  simp only [Act.put, List.setIfInBounds_toArray, List.set_cons_zero, List.set_cons_succ]
  refine takeS 5 (some 45) (.int .i64 0) rfl rfl (by kernel_rfl) (by kernel_rfl) (by kernel_rfl) (fun _ _ _ h => h) rfl S2 (fun w' hw' => by go_simp) ?_
  simp only [Act.put, List.setIfInBounds_toArray, List.set_cons_zero, List.set_cons_succ]
  refine takeS 6 (some 46) (.int .i64 0) rfl rfl (by kernel_rfl) (by kernel_rfl) (by kernel_rfl) (fun _ _ _ h => h) rfl S2 (fun w' hw' => by go_simp) ?_
  simp only [Act.put, List.setIfInBounds_toArray, List.set_cons_zero, List.set_cons_succ]
  refine takeS 7 (some 47) (.bool true) rfl rfl (by kernel_rfl) (by kernel_rfl) (by kernel_rfl) (fun _ _ _ h => h) rfl S2 (fun w' hw' => by go_simp) ?_
  simp only [Act.put, List.setIfInBounds_toArray, List.set_cons_zero, List.set_cons_succ]
  refine takeS 8 (some 48) (.bool true) rfl rfl (by kernel_rfl) (by kernel_rfl) (by kernel_rfl) (fun _ _ _ h => h) rfl S2 (fun w' hw' => by go_simp) ?_
  simp only [Act.put, List.setIfInBounds_toArray, List.set_cons_zero, List.set_cons_succ]
  refine takeS 9 (some 49) (.bool true) rfl rfl (by kernel_rfl) (by kernel_rfl) (by kernel_rfl) (fun _ _ _ h => h) rfl S2 (fun w' hw' => by go_simp) ?_
  simp only [Act.put, List.setIfInBounds_toArray, List.set_cons_zero, List.set_cons_succ]
  refine takeS 10 (some 50) (.int .i64 0) rfl rfl (by kernel_rfl) (by kernel_rfl) (by kernel_rfl) (fun _ _ _ h => h) rfl S2 (fun w' hw' => by go_simp) ?_
  simp only [Act.put, List.setIfInBounds_toArray, List.set_cons_zero, List.set_cons_succ]
  refine takeS 11 (some 51) (.bool false) rfl rfl (by kernel_rfl) (by kernel_rfl) (by kernel_rfl) (fun _ _ _ h => h) rfl S2 (fun w' hw' => by go_simp) ?_
  simp only [Act.put, List.setIfInBounds_toArray, List.set_cons_zero, List.set_cons_succ]
  refine takeS 12 (some 52) (.bool false) rfl rfl (by kernel_rfl) (by kernel_rfl) (by kernel_rfl) (fun _ _ _ h => h) rfl S2 (fun w' hw' => by go_simp) ?_
  simp only [Act.put, List.setIfInBounds_toArray, List.set_cons_zero, List.set_cons_succ]
  refine takeS 13 (some 53) (.agg #[.int .i64 z, .int .i64 y, .int .i64 x, .slice adr nr capr, .slice adl nl capl, .slice adp np capp]) rfl rfl (by kernel_rfl) (by kernel_rfl) (by kernel_rfl) (fun _ _ _ h => h) rfl S2 (fun w' hw' => exec_load_row 26 _ rfl g1 rfl 26 _ (HA.out w' hw') Tryd.underlying26 rfl (by kernel_rfl)) ?_
  simp only [Act.put, List.setIfInBounds_toArray, List.set_cons_zero, List.set_cons_succ]
  refine nextS 14 rfl (by kernel_rfl) rfl (callS (some 54) rfl 11 #[.agg #[.int .i64 z, .int .i64 y, .int .i64 x, .slice adr nr capr, .slice adl nl capl, .slice adp np capp]] (by go_simp) (fun v w' => v = .bool true ∧ Ext W2 w') ((sound_any ⟨z, y, x, rt, ls, ps⟩ _ _ _ W2 K2 P2 bl bp).mono fun _ _ he => ⟨_, he.1.trans (by rw [so]), rfl, he.2⟩) ?_)
  rintro v3 W3 ⟨rfl, e1⟩
  simp only [Act.put, List.setIfInBounds_toArray, List.set_cons_zero, List.set_cons_succ]
  have S3 := S2.trans e1
  have K3 := K2.below e1 K2.lt
  clear e1 P2 K2 S2
  refine ⟨S3, ?_⟩
  refine takeS 15 (some 55) (.bool true) rfl rfl (by kernel_rfl) (by kernel_rfl) (by kernel_rfl) (fun _ _ _ h => h) rfl S3 (fun w' hw' => by go_simp) ?_
  simp only [Act.put, List.setIfInBounds_toArray, List.set_cons_zero, List.set_cons_succ]
  refine takeS 16 (some 56) (.bool true) rfl rfl (by kernel_rfl) (by kernel_rfl) (by kernel_rfl) (fun _ _ _ h => h) rfl S3 (fun w' hw' => by go_simp) ?_
  simp only [Act.put, List.setIfInBounds_toArray, List.set_cons_zero, List.set_cons_succ]
  refine takeS 17 (some 57) (.bool true) rfl rfl (by kernel_rfl) (by kernel_rfl) (by kernel_rfl) (fun _ _ _ h => h) rfl S3 (fun w' hw' => by go_simp) ?_
  simp only [Act.put, List.setIfInBounds_toArray, List.set_cons_zero, List.set_cons_succ]
  refine nextS 18 rfl (by kernel_rfl) rfl (callS (some 58) rfl 6 #[] (by go_simp) (fun v w' => v = .bool true ∧ Ext W3 w') ((awake_any W3 K3).mono fun _ _ he => ⟨_, he.1, rfl, he.2⟩) ?_)
  rintro v4 W4 ⟨rfl, e1⟩
  simp only [Act.put, List.setIfInBounds_toArray, List.set_cons_zero, List.set_cons_succ]
  have S4 := S3.trans e1
  clear e1
  refine ⟨S4, ?_⟩
  refine takeS 19 (some 59) (.bool true) rfl rfl (by kernel_rfl) (by kernel_rfl) (by kernel_rfl) (fun _ _ _ h => h) rfl S4 (fun w' hw' => by go_simp) ?_
  simp only [Act.put, List.setIfInBounds_toArray, List.set_cons_zero, List.set_cons_succ]
  refine takeS 20 (some 6) (.bool true) rfl rfl (by kernel_rfl) (by kernel_rfl) (by kernel_rfl) (fun _ _ _ h => h) rfl S4 (fun w' hw' => by go_simp) ?_
  simp only [Act.put, List.setIfInBounds_toArray, List.set_cons_zero, List.set_cons_succ]
  refine wpAnyH_done (by kernel_rfl) ?_ _
  go_wp2
  go_ret
  exact ⟨rfl, e01.trans S4⟩

set_option maxHeartbeats 8000000 in
set_option maxRecDepth 100000 in
theorem makes_no1 (ad : Option Addr) (n cap : Nat) (m : List Int) (b k : Int) (w : World) (hK : KAt w) (hs : Src w (.slice ad n cap) m w.heap.size) (hn : mayL m.length b k = false) (d1 : decide ((2000 : Int) < (n : Int)) = false) (d2 : decide (1 ≤ b) = true) (hb : 1 ≤ b) (d3 : decide (130 < wrap64 ((n : Int) / b)) = false) :
    Calls Tryd.prog 3 #[.slice ad n cap, .int .i64 b, .int .i64 k] w fun e w' => e = .returned (.bool true) ∧ Ext w w' := by
  have bl0 : noneL.leaves.length ≤ 9223372036854775807 := by simp [noneL]
  have bp0 : noneL.parity.length ≤ 9223372036854775807 := by simp [noneL]
  obtain ⟨z, y, x, rt, ls, ps, hM⟩ : ∃ z y x rt ls ps, noneL = (⟨z, y, x, rt, ls, ps⟩ : Sd) := ⟨_, _, _, _, _, _, rfl⟩
  have bl : ls.length ≤ 9223372036854775807 := by
    have := bl0
    rw [hM] at this
    exact this
  have bp : ps.length ≤ 9223372036854775807 := by
    have := bp0
    rw [hM] at this
    exact this
  clear bl0 bp0
  obtain ⟨nr, hnr⟩ : ∃ n, n = rt.length := ⟨_, rfl⟩
  obtain ⟨nl, hnl⟩ : ∃ n, n = ls.length := ⟨_, rfl⟩
  obtain ⟨np, hnp⟩ : ∃ n, n = ps.length := ⟨_, rfl⟩
  have Hn := Lib.hid (And.intro hnr.symm (And.intro hnl.symm hnp.symm))
  clear hnr hnl hnp
  go_enter Tryd.func3, Tryd.ntmps3
  go_wp2_with fail
  refine (make_not _ m b k w hs hn).mono ?_
  rintro e w1 ⟨vr, vl, vp, rfl, e0, p0⟩
  obtain ⟨adr, capr, ev⟩ := p0.r.len
  subst ev
  obtain ⟨adl, capl, ev⟩ := p0.l.len
  subst ev
  obtain ⟨adp, capp, ev⟩ := p0.p.len
  subst ev
  rw [hM] at p0 ⊢
  simp only [Hn.out.1, Hn.out.2.1, Hn.out.2.2] at p0 ⊢
  clear d1
  have e1 : Ext w1 (w1.alloc (.cells #[.int .i64 z, .int .i64 y, .int .i64 x, .slice adr nr capr, .slice adl nl capl, .slice adp np capp] 26)) := Ext.alloc w1 _
  have a1 := At.new w1 #[.int .i64 z, .int .i64 y, .int .i64 x, .slice adr nr capr, .slice adl nl capl, .slice adp np capp] 26
  have p1 := p0.ext e1
  have e01 := e0.trans e1
  have s1 := hs.now e01
  clear e0 e1 p0
  go_wp2_with fail
  generalize w1.alloc (.cells #[.int .i64 z, .int .i64 y, .int .i64 x, .slice adr nr capr, .slice adl nl capl, .slice adp np capp] 26) = w2 at *
  obtain ⟨g1, hg1⟩ : ∃ g, g = w1.heap.size := ⟨_, rfl⟩
  rw [← hg1] at a1 ⊢
  clear hg1
  refine (rmake_not _ m b k w2 s1 hn).mono ?_
  rintro e w3 ⟨ur, ul, up, rfl, e2, q0⟩
  obtain ⟨bdr, dapr, ev⟩ := q0.r.len
  subst ev
  obtain ⟨bdl, dapl, ev⟩ := q0.l.len
  subst ev
  obtain ⟨bdp, dapp, ev⟩ := q0.p.len
  subst ev
  rw [hM] at q0 ⊢
  simp only [Hn.out.1, Hn.out.2.1, Hn.out.2.2] at q0 ⊢
  replace a1 := at_ext a1 e2
  replace e01 := e01.trans e2
  replace p1 := p1.ext e2
  clear e2 s1
  have e3 : Ext w3 (w3.alloc (.cells #[.int .i64 z, .int .i64 y, .int .i64 x, .slice bdr nr dapr, .slice bdl nl dapl, .slice bdp np dapp] 30)) := Ext.alloc w3 _
  have a2 := At.new w3 #[.int .i64 z, .int .i64 y, .int .i64 x, .slice bdr nr dapr, .slice bdl nl dapl, .slice bdp np dapp] 30
  replace a1 := at_ext a1 e3
  replace e01 := e01.trans e3
  replace p1 := p1.ext e3
  replace q0 := q0.ext e3
  clear e3
  have k0 := hK.below e01 hK.lt
  go_upto_region 5 with (fail)
  generalize w3.alloc (.cells #[.int .i64 z, .int .i64 y, .int .i64 x, .slice bdr nr dapr, .slice bdl nl dapl, .slice bdp np dapp] 30) = w4 at *
  obtain ⟨g2, hg2⟩ : ∃ g, g = w3.heap.size := ⟨_, rfl⟩
  rw [← hg2] at a2 ⊢
  clear hg2
  have HA := Lib.hid (fun (w' : World) (hw' : Ext w4 w') => at_ext a1 hw')
  have HB := Lib.hid (fun (w' : World) (hw' : Ext w4 w') => at_ext a2 hw')
  clear a1 a2
  refine wp_region_held (S := Ext w4) (by kernel_rfl) ?_
  change wpAnyH _ _ _ _ _ _ _ _ w4.drew
  have S0 : Ext w4 w4.drew := Below.drew (Below.refl _ _)
  have P0 := p1.ext S0
  have Q0 := q0.ext S0
  have K0 := k0.below S0 k0.lt
  clear p1 q0 k0
  generalize w4.drew = W at *
  refine takeS 0 (some 40) (.agg #[.int .i64 z, .int .i64 y, .int .i64 x, .slice adr nr capr, .slice adl nl capl, .slice adp np capp]) rfl rfl (by kernel_rfl) (by kernel_rfl) (by kernel_rfl) (fun _ _ _ h => h) rfl S0 (fun w' hw' => exec_load_row 26 _ rfl g1 rfl 26 _ (HA.out w' hw') Tryd.underlying26 rfl (by kernel_rfl)) ?_
  simp only [Act.put, List.setIfInBounds_toArray, List.set_cons_zero, List.set_cons_succ]
  refine takeS 2 (some 42) (.agg #[.int .i64 z, .int .i64 y, .int .i64 x, .slice bdr nr dapr, .slice bdl nl dapl, .slice bdp np dapp]) rfl rfl (by kernel_rfl) (by kernel_rfl) (by kernel_rfl) (fun _ _ _ h => h) rfl S0 (fun w' hw' => exec_load_row 30 _ rfl g2 rfl 30 _ (HB.out w' hw') Tryd.underlying30 rfl (by kernel_rfl)) ?_
  simp only [Act.put, List.setIfInBounds_toArray, List.set_cons_zero, List.set_cons_succ]
  refine nextS 1 rfl (by kernel_rfl) rfl (callS (some 41) rfl 10 #[.agg #[.int .i64 z, .int .i64 y, .int .i64 x, .slice adr nr capr, .slice adl nl capl, .slice adp np capp]] (by go_simp) (fun v w' => v = .agg #[.int .i64 z, .int .i64 y, .int .i64 x, .slice adr nr capr, .slice adl nl capl, .slice adp np capp] ∧ Ext W w') ((flat_any _ _ _ _ _ _ _ _ _ _ _ _ W).mono fun _ _ he => ⟨_, he.1, rfl, he.2⟩) ?_)
  rintro v1 W1 ⟨rfl, e1⟩
  simp only [Act.put, List.setIfInBounds_toArray, List.set_cons_zero, List.set_cons_succ]
  have S1 := S0.trans e1
  have P1 := P0.ext e1
  have Q1 := Q0.ext e1
  have K1 := K0.below e1 K0.lt
  clear e1 P0 Q0 K0 S0
  refine ⟨S1, ?_⟩
  refine nextS 3 rfl (by kernel_rfl) rfl (callS (some 43) rfl 9 #[.agg #[.int .i64 z, .int .i64 y, .int .i64 x, .slice adr nr capr, .slice adl nl capl, .slice adp np capp], .agg #[.int .i64 z, .int .i64 y, .int .i64 x, .slice bdr nr dapr, .slice bdl nl dapl, .slice bdp np dapp]] (by go_simp) (fun v w' => v = .bool true ∧ Ext W1 w') ((rsame_any ⟨z, y, x, rt, ls, ps⟩ ⟨z, y, x, rt, ls, ps⟩ _ _ _ _ _ _ W1 P1 Q1 bl bp bl bp).mono fun _ _ he => ⟨_, he.1.trans (by rw [sameL_self]), rfl, he.2⟩) ?_)
  rintro v2 W2 ⟨rfl, e1⟩
  simp only [Act.put, List.setIfInBounds_toArray, List.set_cons_zero, List.set_cons_succ]
  have S2 := S1.trans e1
  have P2 := P1.ext e1
  have K2 := K1.below e1 K1.lt
  clear e1 P1 Q1 K1 S1
  refine ⟨S2, ?_⟩
  refine takeS 4 (some 44) (.bool true) rfl rfl (by kernel_rfl) (by kernel_rfl) (by kernel_rfl) (fun _ _ _ h => h) rfl S2 (fun w' hw' => by go_simp) ?_
  simp only [Act.put, List.setIfInBounds_toArray, List.set_cons_zero, List.set_cons_succ]
  refine takeS 5 (some 45) (.int .i64 1) rfl rfl (by kernel_rfl) (by kernel_rfl) (by kernel_rfl) (fun _ _ _ h => h) rfl S2 (fun w' hw' => by go_simp) ?_
  simp only [Act.put, List.setIfInBounds_toArray, List.set_cons_zero, List.set_cons_succ]
  refine takeS 6 (some 46) (.int .i64 1) rfl rfl (by kernel_rfl) (by kernel_rfl) (by kernel_rfl) (fun _ _ _ h => h) rfl S2 (fun w' hw' => by go_simp) ?_
  simp only [Act.put, List.setIfInBounds_toArray, List.set_cons_zero, List.set_cons_succ]
  refine takeS 7 (some 47) (.bool true) rfl rfl (by kernel_rfl) (by kernel_rfl) (by kernel_rfl) (fun _ _ _ h => h) rfl S2 (fun w' hw' => by go_simp) ?_
  simp only [Act.put, List.setIfInBounds_toArray, List.set_cons_zero, List.set_cons_succ]
  refine takeS 8 (some 48) (.bool true) rfl rfl (by kernel_rfl) (by kernel_rfl) (by kernel_rfl) (fun _ _ _ h => h) rfl S2 (fun w' hw' => by go_simp) ?_
  simp only [Act.put, List.setIfInBounds_toArray, List.set_cons_zero, List.set_cons_succ]
  refine takeS 9 (some 49) (.bool true) rfl rfl (by kernel_rfl) (by kernel_rfl) (by kernel_rfl) (fun _ _ _ h => h) rfl S2 (fun w' hw' => by go_simp) ?_
  simp only [Act.put, List.setIfInBounds_toArray, List.set_cons_zero, List.set_cons_succ]
  refine takeS 10 (some 50) (.int .i64 1) rfl rfl (by kernel_rfl) (by kernel_rfl) (by kernel_rfl) (fun _ _ _ h => h) rfl S2 (fun w' hw' => by go_simp) ?_
  simp only [Act.put, List.setIfInBounds_toArray, List.set_cons_zero, List.set_cons_succ]
  refine takeS 11 (some 51) (.bool true) rfl rfl (by kernel_rfl) (by kernel_rfl) (by kernel_rfl) (fun _ _ _ h => h) rfl S2 (fun w' hw' => by go_simp) ?_
  simp only [Act.put, List.setIfInBounds_toArray, List.set_cons_zero, List.set_cons_succ]
  refine takeS 12 (some 52) (.bool true) rfl rfl (by kernel_rfl) (by kernel_rfl) (by kernel_rfl) (fun _ _ _ h => h) rfl S2 (fun w' hw' => by go_simp) ?_
  simp only [Act.put, List.setIfInBounds_toArray, List.set_cons_zero, List.set_cons_succ]
  refine skipS 13 (some 53) rfl rfl (by kernel_rfl) (by kernel_rfl) (by kernel_rfl) (fun _ _ _ h => h) rfl S2 ?_
  simp only [Act.put, List.setIfInBounds_toArray, List.set_cons_zero, List.set_cons_succ]
  refine skipS 14 (some 54) rfl rfl (by kernel_rfl) (by kernel_rfl) (by kernel_rfl) (fun _ _ _ h => h) rfl S2 ?_
  simp only [Act.put, List.setIfInBounds_toArray, List.set_cons_zero, List.set_cons_succ]
  refine takeS 15 (some 55) (.bool true) rfl rfl (by kernel_rfl) (by kernel_rfl) (by kernel_rfl) (fun _ _ _ h => h) rfl S2 (fun w' hw' => by go_simp) ?_
  simp only [Act.put, List.setIfInBounds_toArray, List.set_cons_zero, List.set_cons_succ]
  refine takeS 16 (some 56) (.bool true) rfl rfl (by kernel_rfl) (by kernel_rfl) (by kernel_rfl) (fun _ _ _ h => h) rfl S2 (fun w' hw' => by go_simp) ?_
  simp only [Act.put, List.setIfInBounds_toArray, List.set_cons_zero, List.set_cons_succ]
  refine takeS 17 (some 57) (.bool true) rfl rfl (by kernel_rfl) (by kernel_rfl) (by kernel_rfl) (fun _ _ _ h => h) rfl S2 (fun w' hw' => by go_simp) ?_
  simp only [Act.put, List.setIfInBounds_toArray, List.set_cons_zero, List.set_cons_succ]
  refine nextS 18 rfl (by kernel_rfl) rfl (callS (some 58) rfl 6 #[] (by go_simp) (fun v w' => v = .bool true ∧ Ext W2 w') ((awake_any W2 K2).mono fun _ _ he => ⟨_, he.1, rfl, he.2⟩) ?_)
  rintro v4 W4 ⟨rfl, e1⟩
  simp only [Act.put, List.setIfInBounds_toArray, List.set_cons_zero, List.set_cons_succ]
  have S4 := S2.trans e1
  clear e1
  refine ⟨S4, ?_⟩
  refine takeS 19 (some 59) (.bool true) rfl rfl (by kernel_rfl) (by kernel_rfl) (by kernel_rfl) (fun _ _ _ h => h) rfl S4 (fun w' hw' => by go_simp) ?_
  simp only [Act.put, List.setIfInBounds_toArray, List.set_cons_zero, List.set_cons_succ]
  refine takeS 20 (some 6) (.bool true) rfl rfl (by kernel_rfl) (by kernel_rfl) (by kernel_rfl) (fun _ _ _ h => h) rfl S4 (fun w' hw' => by go_simp) ?_
  simp only [Act.put, List.setIfInBounds_toArray, List.set_cons_zero, List.set_cons_succ]
  refine wpAnyH_done (by kernel_rfl) ?_ _
  go_wp2
  go_ret
  exact ⟨rfl, e01.trans S4⟩

set_option maxHeartbeats 8000000 in
set_option maxRecDepth 100000 in
theorem makes_no2 (ad : Option Addr) (n cap : Nat) (m : List Int) (b k : Int) (w : World) (hK : KAt w) (hs : Src w (.slice ad n cap) m w.heap.size) (hn : mayL m.length b k = false) (d1 : decide ((2000 : Int) < (n : Int)) = false) (d2 : decide (1 ≤ b) = false) :
    Calls Tryd.prog 3 #[.slice ad n cap, .int .i64 b, .int .i64 k] w fun e w' => e = .returned (.bool true) ∧ Ext w w' := by
  have bl0 : noneL.leaves.length ≤ 9223372036854775807 := by simp [noneL]
  have bp0 : noneL.parity.length ≤ 9223372036854775807 := by simp [noneL]
  obtain ⟨z, y, x, rt, ls, ps, hM⟩ : ∃ z y x rt ls ps, noneL = (⟨z, y, x, rt, ls, ps⟩ : Sd) := ⟨_, _, _, _, _, _, rfl⟩
  have bl : ls.length ≤ 9223372036854775807 := by
    have := bl0
    rw [hM] at this
    exact this
  have bp : ps.length ≤ 9223372036854775807 := by
    have := bp0
    rw [hM] at this
    exact this
  clear bl0 bp0
  obtain ⟨nr, hnr⟩ : ∃ n, n = rt.length := ⟨_, rfl⟩
  obtain ⟨nl, hnl⟩ : ∃ n, n = ls.length := ⟨_, rfl⟩
  obtain ⟨np, hnp⟩ : ∃ n, n = ps.length := ⟨_, rfl⟩
  have Hn := Lib.hid (And.intro hnr.symm (And.intro hnl.symm hnp.symm))
  clear hnr hnl hnp
  go_enter Tryd.func3, Tryd.ntmps3
  go_wp2_with fail
  refine (make_not _ m b k w hs hn).mono ?_
  rintro e w1 ⟨vr, vl, vp, rfl, e0, p0⟩
  obtain ⟨adr, capr, ev⟩ := p0.r.len
  subst ev
  obtain ⟨adl, capl, ev⟩ := p0.l.len
  subst ev
  obtain ⟨adp, capp, ev⟩ := p0.p.len
  subst ev
  rw [hM] at p0 ⊢
  simp only [Hn.out.1, Hn.out.2.1, Hn.out.2.2] at p0 ⊢
  clear d1
  have e1 : Ext w1 (w1.alloc (.cells #[.int .i64 z, .int .i64 y, .int .i64 x, .slice adr nr capr, .slice adl nl capl, .slice adp np capp] 26)) := Ext.alloc w1 _
  have a1 := At.new w1 #[.int .i64 z, .int .i64 y, .int .i64 x, .slice adr nr capr, .slice adl nl capl, .slice adp np capp] 26
  have p1 := p0.ext e1
  have e01 := e0.trans e1
  have s1 := hs.now e01
  clear e0 e1 p0
  go_wp2_with fail
  generalize w1.alloc (.cells #[.int .i64 z, .int .i64 y, .int .i64 x, .slice adr nr capr, .slice adl nl capl, .slice adp np capp] 26) = w2 at *
  obtain ⟨g1, hg1⟩ : ∃ g, g = w1.heap.size := ⟨_, rfl⟩
  rw [← hg1] at a1 ⊢
  clear hg1
  refine (rmake_not _ m b k w2 s1 hn).mono ?_
  rintro e w3 ⟨ur, ul, up, rfl, e2, q0⟩
  obtain ⟨bdr, dapr, ev⟩ := q0.r.len
  subst ev
  obtain ⟨bdl, dapl, ev⟩ := q0.l.len
  subst ev
  obtain ⟨bdp, dapp, ev⟩ := q0.p.len
  subst ev
  rw [hM] at q0 ⊢
  simp only [Hn.out.1, Hn.out.2.1, Hn.out.2.2] at q0 ⊢
  replace a1 := at_ext a1 e2
  replace e01 := e01.trans e2
  replace p1 := p1.ext e2
  clear e2 s1
  have e3 : Ext w3 (w3.alloc (.cells #[.int .i64 z, .int .i64 y, .int .i64 x, .slice bdr nr dapr, .slice bdl nl dapl, .slice bdp np dapp] 30)) := Ext.alloc w3 _
  have a2 := At.new w3 #[.int .i64 z, .int .i64 y, .int .i64 x, .slice bdr nr dapr, .slice bdl nl dapl, .slice bdp np dapp] 30
  replace a1 := at_ext a1 e3
  replace e01 := e01.trans e3
  replace p1 := p1.ext e3
  replace q0 := q0.ext e3
  clear e3
  have k0 := hK.below e01 hK.lt
  go_upto_region 5 with (fail)
  generalize w3.alloc (.cells #[.int .i64 z, .int .i64 y, .int .i64 x, .slice bdr nr dapr, .slice bdl nl dapl, .slice bdp np dapp] 30) = w4 at *
  obtain ⟨g2, hg2⟩ : ∃ g, g = w3.heap.size := ⟨_, rfl⟩
  rw [← hg2] at a2 ⊢
  clear hg2
  have HA := Lib.hid (fun (w' : World) (hw' : Ext w4 w') => at_ext a1 hw')
  have HB := Lib.hid (fun (w' : World) (hw' : Ext w4 w') => at_ext a2 hw')
  clear a1 a2
  refine wp_region_held (S := Ext w4) (by kernel_rfl) ?_
  change wpAnyH _ _ _ _ _ _ _ _ w4.drew
  have S0 : Ext w4 w4.drew := Below.drew (Below.refl _ _)
  have P0 := p1.ext S0
  have Q0 := q0.ext S0
  have K0 := k0.below S0 k0.lt
  clear p1 q0 k0
  generalize w4.drew = W at *
  refine takeS 0 (some 40) (.agg #[.int .i64 z, .int .i64 y, .int .i64 x, .slice adr nr capr, .slice adl nl capl, .slice adp np capp]) rfl rfl (by kernel_rfl) (by kernel_rfl) (by kernel_rfl) (fun _ _ _ h => h) rfl S0 (fun w' hw' => exec_load_row 26 _ rfl g1 rfl 26 _ (HA.out w' hw') Tryd.underlying26 rfl (by kernel_rfl)) ?_
  simp only [Act.put, List.setIfInBounds_toArray, List.set_cons_zero, List.set_cons_succ]
  refine takeS 2 (some 42) (.agg #[.int .i64 z, .int .i64 y, .int .i64 x, .slice bdr nr dapr, .slice bdl nl dapl, .slice bdp np dapp]) rfl rfl (by kernel_rfl) (by kernel_rfl) (by kernel_rfl) (fun _ _ _ h => h) rfl S0 (fun w' hw' => exec_load_row 30 _ rfl g2 rfl 30 _ (HB.out w' hw') Tryd.underlying30 rfl (by kernel_rfl)) ?_
  simp only [Act.put, List.setIfInBounds_toArray, List.set_cons_zero, List.set_cons_succ]
  refine nextS 1 rfl (by kernel_rfl) rfl (callS (some 41) rfl 10 #[.agg #[.int .i64 z, .int .i64 y, .int .i64 x, .slice adr nr capr, .slice adl nl capl, .slice adp np capp]] (by go_simp) (fun v w' => v = .agg #[.int .i64 z, .int .i64 y, .int .i64 x, .slice adr nr capr, .slice adl nl capl, .slice adp np capp] ∧ Ext W w') ((flat_any _ _ _ _ _ _ _ _ _ _ _ _ W).mono fun _ _ he => ⟨_, he.1, rfl, he.2⟩) ?_)
  rintro v1 W1 ⟨rfl, e1⟩
  simp only [Act.put, List.setIfInBounds_toArray, List.set_cons_zero, List.set_cons_succ]
  have S1 := S0.trans e1
  have P1 := P0.ext e1
  have Q1 := Q0.ext e1
  have K1 := K0.below e1 K0.lt
  clear e1 P0 Q0 K0 S0
  refine ⟨S1, ?_⟩
  refine nextS 3 rfl (by kernel_rfl) rfl (callS (some 43) rfl 9 #[.agg #[.int .i64 z, .int .i64 y, .int .i64 x, .slice adr nr capr, .slice adl nl capl, .slice adp np capp], .agg #[.int .i64 z, .int .i64 y, .int .i64 x, .slice bdr nr dapr, .slice bdl nl dapl, .slice bdp np dapp]] (by go_simp) (fun v w' => v = .bool true ∧ Ext W1 w') ((rsame_any ⟨z, y, x, rt, ls, ps⟩ ⟨z, y, x, rt, ls, ps⟩ _ _ _ _ _ _ W1 P1 Q1 bl bp bl bp).mono fun _ _ he => ⟨_, he.1.trans (by rw [sameL_self]), rfl, he.2⟩) ?_)
  rintro v2 W2 ⟨rfl, e1⟩
  simp only [Act.put, List.setIfInBounds_toArray, List.set_cons_zero, List.set_cons_succ]
  have S2 := S1.trans e1
  have P2 := P1.ext e1
  have K2 := K1.below e1 K1.lt
  clear e1 P1 Q1 K1 S1
  refine ⟨S2, ?_⟩
  refine takeS 4 (some 44) (.bool true) rfl rfl (by kernel_rfl) (by kernel_rfl) (by kernel_rfl) (fun _ _ _ h => h) rfl S2 (fun w' hw' => by go_simp) ?_
  simp only [Act.put, List.setIfInBounds_toArray, List.set_cons_zero, List.set_cons_succ]
  refine takeS 5 (some 45) (.int .i64 1) rfl rfl (by kernel_rfl) (by kernel_rfl) (by kernel_rfl) (fun _ _ _ h => h) rfl S2 (fun w' hw' => by go_simp) ?_
  simp only [Act.put, List.setIfInBounds_toArray, List.set_cons_zero, List.set_cons_succ]
  refine takeS 6 (some 46) (.int .i64 1) rfl rfl (by kernel_rfl) (by kernel_rfl) (by kernel_rfl) (fun _ _ _ h => h) rfl S2 (fun w' hw' => by go_simp) ?_
  simp only [Act.put, List.setIfInBounds_toArray, List.set_cons_zero, List.set_cons_succ]
  refine takeS 7 (some 47) (.bool true) rfl rfl (by kernel_rfl) (by kernel_rfl) (by kernel_rfl) (fun _ _ _ h => h) rfl S2 (fun w' hw' => by go_simp) ?_
  simp only [Act.put, List.setIfInBounds_toArray, List.set_cons_zero, List.set_cons_succ]
  refine takeS 8 (some 48) (.bool true) rfl rfl (by kernel_rfl) (by kernel_rfl) (by kernel_rfl) (fun _ _ _ h => h) rfl S2 (fun w' hw' => by go_simp) ?_
  simp only [Act.put, List.setIfInBounds_toArray, List.set_cons_zero, List.set_cons_succ]
  refine takeS 9 (some 49) (.bool true) rfl rfl (by kernel_rfl) (by kernel_rfl) (by kernel_rfl) (fun _ _ _ h => h) rfl S2 (fun w' hw' => by go_simp) ?_
  simp only [Act.put, List.setIfInBounds_toArray, List.set_cons_zero, List.set_cons_succ]
  refine takeS 10 (some 50) (.int .i64 1) rfl rfl (by kernel_rfl) (by kernel_rfl) (by kernel_rfl) (fun _ _ _ h => h) rfl S2 (fun w' hw' => by go_simp) ?_
  simp only [Act.put, List.setIfInBounds_toArray, List.set_cons_zero, List.set_cons_succ]
  refine takeS 11 (some 51) (.bool true) rfl rfl (by kernel_rfl) (by kernel_rfl) (by kernel_rfl) (fun _ _ _ h => h) rfl S2 (fun w' hw' => by go_simp) ?_
  simp only [Act.put, List.setIfInBounds_toArray, List.set_cons_zero, List.set_cons_succ]
  refine takeS 12 (some 52) (.bool true) rfl rfl (by kernel_rfl) (by kernel_rfl) (by kernel_rfl) (fun _ _ _ h => h) rfl S2 (fun w' hw' => by go_simp) ?_
  simp only [Act.put, List.setIfInBounds_toArray, List.set_cons_zero, List.set_cons_succ]
  refine skipS 13 (some 53) rfl rfl (by kernel_rfl) (by kernel_rfl) (by kernel_rfl) (fun _ _ _ h => h) rfl S2 ?_
  simp only [Act.put, List.setIfInBounds_toArray, List.set_cons_zero, List.set_cons_succ]
  refine skipS 14 (some 54) rfl rfl (by kernel_rfl) (by kernel_rfl) (by kernel_rfl) (fun _ _ _ h => h) rfl S2 ?_
  simp only [Act.put, List.setIfInBounds_toArray, List.set_cons_zero, List.set_cons_succ]
  refine takeS 15 (some 55) (.bool true) rfl rfl (by kernel_rfl) (by kernel_rfl) (by kernel_rfl) (fun _ _ _ h => h) rfl S2 (fun w' hw' => by go_simp) ?_
  simp only [Act.put, List.setIfInBounds_toArray, List.set_cons_zero, List.set_cons_succ]
  refine takeS 16 (some 56) (.bool true) rfl rfl (by kernel_rfl) (by kernel_rfl) (by kernel_rfl) (fun _ _ _ h => h) rfl S2 (fun w' hw' => by go_simp) ?_
  simp only [Act.put, List.setIfInBounds_toArray, List.set_cons_zero, List.set_cons_succ]
  refine takeS 17 (some 57) (.bool true) rfl rfl (by kernel_rfl) (by kernel_rfl) (by kernel_rfl) (fun _ _ _ h => h) rfl S2 (fun w' hw' => by go_simp) ?_
  simp only [Act.put, List.setIfInBounds_toArray, List.set_cons_zero, List.set_cons_succ]
  refine nextS 18 rfl (by kernel_rfl) rfl (callS (some 58) rfl 6 #[] (by go_simp) (fun v w' => v = .bool true ∧ Ext W2 w') ((awake_any W2 K2).mono fun _ _ he => ⟨_, he.1, rfl, he.2⟩) ?_)
  rintro v4 W4 ⟨rfl, e1⟩
  simp only [Act.put, List.setIfInBounds_toArray, List.set_cons_zero, List.set_cons_succ]
  have S4 := S2.trans e1
  clear e1
  refine ⟨S4, ?_⟩
  refine takeS 19 (some 59) (.bool true) rfl rfl (by kernel_rfl) (by kernel_rfl) (by kernel_rfl) (fun _ _ _ h => h) rfl S4 (fun w' hw' => by go_simp) ?_
  simp only [Act.put, List.setIfInBounds_toArray, List.set_cons_zero, List.set_cons_succ]
  refine takeS 20 (some 6) (.bool true) rfl rfl (by kernel_rfl) (by kernel_rfl) (by kernel_rfl) (fun _ _ _ h => h) rfl S4 (fun w' hw' => by go_simp) ?_
  simp only [Act.put, List.setIfInBounds_toArray, List.set_cons_zero, List.set_cons_succ]
  refine wpAnyH_done (by kernel_rfl) ?_ _
  go_wp2
  go_ret
  exact ⟨rfl, e01.trans S4⟩

set_option maxHeartbeats 2000000 in
theorem makes_any (v : Value) (m : List Int) (b k : Int) (w : World) (hK : KAt w) (hs : Src w v m w.heap.size) :
    Calls Tryd.prog 3 #[v, .int .i64 b, .int .i64 k] w fun e w' => e = .returned (.bool true) ∧ Ext w w' := by
  obtain ⟨ad, cap, ev⟩ := hs.len
  subst ev
  obtain ⟨n, hl⟩ : ∃ n, n = m.length := ⟨_, rfl⟩
  rw [← hl] at hs ⊢
  have Hl := Lib.hid hl; clear hl
  obtain ⟨D1, d1⟩ : ∃ D, decide ((2000 : Int) < (n : Int)) = D := ⟨_, rfl⟩
  obtain ⟨D2, d2⟩ : ∃ D, decide (1 ≤ b) = D := ⟨_, rfl⟩
  obtain ⟨D3, d3⟩ : ∃ D, decide (130 < wrap64 ((n : Int) / b)) = D := ⟨_, rfl⟩
  obtain ⟨M, hM⟩ : ∃ D, mayL m.length b k = D := ⟨_, rfl⟩
  cases D1
  · cases D2
    · cases M
      · exact makes_no2 ad n cap m b k w hK hs hM d1 d2
      · have h1 := (mayL_iff _ _ _).1 hM
        simp at d2
        omega
    · have hb : 1 ≤ b := by simpa using d2
      cases D3
      · cases M
        · exact makes_no1 ad n cap m b k w hK hs hM d1 d2 hb d3
        · exact makes_ok ad n cap m b k w hK hs hM d1 d2 hb d3
      · go_enter Tryd.func3, Tryd.ntmps3
        go_wp2_with fail
        refine (awake_any w hK).mono ?_
        rintro e w1 ⟨rfl, e1⟩
        go_wp2
        go_ret
        exact ⟨rfl, e1⟩
  · clear d2 d3
    go_enter Tryd.func3, Tryd.ntmps3
    go_wp2_with fail
    refine (awake_any w hK).mono ?_
    rintro e w1 ⟨rfl, e1⟩
    go_wp2
    go_ret
    exact ⟨rfl, e1⟩
theorem makes_all (v : Value) (m : List Int) (b k : Int) (w : World) (hK : KAt w) (hs : Src w v m w.heap.size) (_ : Byt m) (_ : m.length ≤ 9223372036854775807) (_ : -9223372036854775808 ≤ b ∧ b ≤ 9223372036854775807) (_ : -9223372036854775808 ≤ k ∧ k ≤ 9223372036854775807) :
    Calls Tryd.prog 3 #[v, .int .i64 b, .int .i64 k] w fun e w' => e = .returned (.bool true) ∧ Ext w w' := makes_any v m b k w hK hs
end Go.Proofs.YtdohngjhfonifaaDoor
