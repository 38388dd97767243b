/- The walk of the law MerkleLevels; what roots are unlike is handed in. -/
import Derived.Test.YtmplnlcmdcogmaaDoorLk
namespace Go.Proofs.YtmplnlcmdcogmaaDoor
open Go.RowKit Go.Sha
set_option linter.unusedSimpArgs false

set_option maxHeartbeats 8000000 in
set_option maxRecDepth 100000 in
theorem levels_law (n at_ other : Int) (w : World) (hK : KAt w)
    (hsw : ∀ n a b : Nat, n ≤ 60 → a < n → b < n → eqS (rootL (((lvsL n).set a (leafL [(b : Int)])).set b (leafL [(a : Int)]))) (rootL (lvsL n)) = decide (a = b))
    (hot : ∀ n a : Nat, n ≤ 60 → a < n → eqS (rootL ((lvsL n).set a (leafL [111, 116, 104, 101, 114]))) (rootL (lvsL n)) = false) :
    Calls Tryd.prog 5 #[.int .i64 n, .int .i64 at_, .int .i64 other] w fun e w' => e = .returned (.bool true) ∧ Below w.heap.size w w' := by
  by_cases h1 : n < 0
  · have d1 : decide (n < 0) = true := by simpa using h1
    go_enter Tryd.func5, Tryd.ntmps5
    go_wp2_with fail
    refine (awake_any w hK).mono ?_
    rintro e w2 ⟨rfl, b2⟩
    go_wp2
    go_ret
    exact ⟨rfl, b2⟩
  have d1 : decide (n < 0) = false := by simpa using h1
  by_cases h2 : 60 < n
  · have d2 : decide (60 < n) = true := by simpa using h2
    go_enter Tryd.func5, Tryd.ntmps5
    go_wp2_with fail
    refine (awake_any w hK).mono ?_
    rintro e w2 ⟨rfl, b2⟩
    go_wp2
    go_ret
    exact ⟨rfl, b2⟩
  have d2 : decide (60 < n) = false := by simpa using h2
  obtain ⟨N, rfl⟩ := Int.eq_ofNat_of_zero_le (show 0 ≤ n by omega)
  have HS := Lib.hid hsw; clear hsw
  have HO := Lib.hid hot; clear hot
  have hN : N ≤ 60 := by omega
  have HLl := Lib.hid (lvsL_len N)
  go_enter Tryd.func5, Tryd.ntmps5
  go_wp2
  go_loopw [7, 8] (fun l i wr => InvL w (lvsL N) N l i wr) (fun _ i _ => N - (intOf i).toNat)
  case atStart => exact ⟨0, [], by omega, rfl, rfl, by simp, OwnG.nil _ _ _ _ _, Ext.refl w⟩
  case round =>
    obtain ⟨k, ps, hk, rfl, hpl, hps, ow, ex⟩ := hrel
    obtain ⟨adl, capl, el⟩ := ow.len
    subst el
    rw [hpl] at ow ⊢
    by_cases hlt : k < N
    · have i0 : (k : Int) < (N : Int) := by omega
      have d0 : decide ((k : Int) < (N : Int)) = true := by simp; omega
      have k256 : (k : Int) % 256 = (k : Int) := by omega
      have e1 : Ext wr (wr.alloc (.cells #[.int .u8 (k : Int)] 5)) := Ext.alloc wr _
      have s1 := (src_one wr (k : Int) (wr.heap.size + 1) (by omega)).other (c := (wr.alloc (.cells #[.int .u8 (k : Int)] 5)).heap.size) (Nat.le_refl _)
      have x1 := ex.trans e1
      have kr := hK.below x1 hK.lt
      have ow1 := ow.ext src_kept e1
      clear ow e1
      go_wp2_with fail
      generalize hg : wr.heap.size = G at *
      have HG := Lib.hid hg; clear hg
      generalize wr.alloc (.cells #[.int .u8 (k : Int)] 5) = wa at *
      refine (leaf_any _ [(k : Int)] wa kr s1 (by simp)).mono ?_
      rintro e w2 ⟨v2, rfl, e2, o2⟩
      have hsx := new_src o2 ow1 x1
      obtain ⟨ad2, cap2, ev2⟩ := o2.len
      subst ev2
      have ow2 := ow1.ext src_kept e2
      have ex2 := x1.trans e2
      have hsy := src_one_more (x := .slice ad2 (leafL [(k : Int)]).length cap2) (t := 22) hsx
      clear hsx o2 ow1 kr s1
      go_wp2_with (refine list_append_g src_kept rfl (.tmp 27) (.tmp 32) 25 rfl (.slice none 0 0) 24 Tryd.underlying25 u22zero rfl (by omega) w.heap.size (.slice adl k capl) ps (Old w) rfl (own_one src_kept ow2 _ 22) w2.heap.size 1 _ (leafL [(k : Int)]) rfl (cell_one w2 _ 22) rfl hsy (by omega) (by rw [size_alloc]; have := ex2.size; omega) ?_; intro v3 w3 o3 b3)
      refine ⟨⟨k + 1, _, by omega, by go_num, by simp [hpl], ?_, o3, ?_⟩, by simp [intOf]; omega⟩
      · rw [List.map_append, hps, List.take_add_one, lvsL_get N k hlt]; simp
      · exact Below.trans (ex2.trans (Ext.alloc w2 _)) b3
    · have ek : k = N := by omega
      subst ek
      have hp : ps.map (·.2) = lvsL k := by rw [hps, List.take_of_length_le (by rw [HLl.out]; omega)]
      have lL : LR wr (.slice adl k capl) (lvsL k) wr.heap.size := by rw [← hp]; exact ow.lr _ (Or.inr (Nat.le_refl _))
      have kr := hK.below ex hK.lt
      have HB := Lib.hid (lvsL_bd k)
      clear ow hp hps hlt hpl
      go_wp2_with fail
      refine (levels_any _ (lvsL k) wr kr lL (by rw [HLl.out]; omega) (fun x hx => by rw [HB.out x hx]; omega)).mono ?_
      rintro e w1 ⟨vx, rfl, e1, lx⟩
      have k1 := kr.below e1 kr.lt
      have x1 := ex.trans e1
      replace lL := lL.now e1
      by_cases hz : k = 0
      · rw [if_pos (by rw [HLl.out]; exact hz)] at lx
        obtain ⟨adx, capx, evx⟩ := llr_len lx
        subst evx
        have t0 : ((k : Int) == 0) = true := by rw [beq_iff_eq]; omega
        clear lx lL
        go_wp2_with fail
        refine (awake_any w1 k1).mono ?_
        rintro e w2 ⟨rfl, b2⟩
        go_wp2
        go_ret
        exact ⟨rfl, x1.trans b2⟩
      · rw [if_neg (by rw [HLl.out]; exact hz)] at lx
        have t0 : ((k : Int) == 0) = false := by rw [beq_eq_false_iff_ne]; omega
        obtain ⟨f1, f2, f3, f4⟩ := levels_facts k (lvsL k) (by rw [HLl.out]; omega)
        obtain ⟨g1, g2⟩ := levelsL_bd 60 (lvsL k) (by rw [HLl.out]; omega)
        have htop := topL_len k (lvsL k) (by rw [HLl.out]; omega) (by rw [HLl.out]; omega)
        obtain ⟨T, hT⟩ : ∃ T, T = levelsL (lvsL k) := ⟨_, rfl⟩
        rw [← hT] at lx f1 f2 f3 f4 g1 g2
        clear hT
        obtain ⟨capx, pb, po, evx, _, hc⟩ := llr_get lx f3
        subst evx
        obtain ⟨TL, hTL⟩ : ∃ TL, TL = T.length := ⟨_, rfl⟩
        rw [← hTL] at f2 f3 g1 ⊢
        have HTL := Lib.hid hTL; clear hTL
        -- the first and the last level
        obtain ⟨z0, c0, r0⟩ := hc 0 _ f1
        obtain ⟨zt, ct, rt⟩ := hc (TL - 1) _ f2
        obtain ⟨ad0, cap0, ez0⟩ := r0.len
        subst ez0
        rw [HLl.out] at r0 c0
        obtain ⟨capt, qb, qo, ezt, _, hct⟩ := lr_get rt (by omega)
        rw [htop] at ezt
        subst ezt
        obtain ⟨m0, hm0⟩ : ∃ m, (topL (lvsL k))[0]? = some m := ⟨_, List.getElem?_eq_getElem (by omega)⟩
        obtain ⟨zr, cr, sr⟩ := hct 0 m0 hm0
        have hroot : rootL (lvsL k) = m0 := by rw [rootL, if_neg (by rw [HLl.out]; exact hz), hm0]; rfl
        rw [Nat.add_zero] at c0 cr
        have H0 := Lib.hid (show ∀ w', Ext w1 w' → w'.cell? ⟨pb, po, none⟩ = some (.slice ad0 k cap0) from fun w' h => by rw [Below.cell (p := ⟨pb, po, none⟩) h (World.block_lt_of_cell? w1 _ c0)]; exact c0)
        have HT := Lib.hid (show ∀ w', Ext w1 w' → w'.cell? ⟨pb, po + (TL - 1), none⟩ = some (.slice (some ⟨qb, qo, none⟩) 1 capt) from fun w' h => by rw [Below.cell (p := ⟨pb, po + (TL - 1), none⟩) h (World.block_lt_of_cell? w1 _ ct)]; exact ct)
        have HR := Lib.hid (show ∀ w', Ext w1 w' → w'.cell? ⟨qb, qo, none⟩ = some zr from fun w' h => by rw [Below.cell (p := ⟨qb, qo, none⟩) h (World.block_lt_of_cell? w1 _ cr)]; exact cr)
        have HV := Lib.hid (show ∀ w', Ext w1 w' → (convert 22 9 zr).run Tryd.prog w' = .ok (.string (strOfNums m0)) w' from fun w' h => conv22 (sr.ext h))
        have HC := Lib.hid hc; clear hc
        have Hroot := Lib.hid hroot; clear hroot
        obtain ⟨TM, hTM⟩ : ∃ TM, TM = TL - 1 := ⟨_, rfl⟩
        rw [← hTM] at HT
        have tT : ((TL : Int) == 0) = false := by rw [beq_eq_false_iff_ne]; omega
        have tT2 : (TL : Int) - 1 = (TM : Int) := by omega
        have tT3 : (0 : Int) ≤ (TM : Int) := by omega
        have tT4 : (TM : Int) < (TL : Int) := by omega
        have tT5 : IntKind.i64.wrap (TM : Int) = (TM : Int) := IntWalk.i64_in _ (by omega)
        have tT6 : (0 : Int) < (TL : Int) := by omega
        have tk : ((k : Int) == (k : Int)) = true := by simp
        have HTM := Lib.hid hTM; clear hTM
        clear c0 ct cr r0 rt sr hct hm0 lx f1 f2 htop ex kr e1
        go_wp2
        refine wp_region_held (S := Ext w1) (by kernel_rfl) ?_
        change wpAnyH _ _ _ _ _ _ _ _ w1.drew
        have S0 : Ext w1 w1.drew := Below.drew (Below.refl _ _)
        replace lL := lL.now S0
        replace k1 := k1.below S0 k1.lt
        replace x1 := x1.trans S0
        generalize w1.drew = W at *
        refine takeS 0 (some 44) (Value.slice (some ⟨pb, po, none⟩) TL capx) rfl rfl (by kernel_rfl) (by kernel_rfl) (by kernel_rfl) (fun _ _ _ h => h) rfl S0 (fun w' hw' => by go_simp) ?_
        simp only [Act.put, List.setIfInBounds_toArray, List.set_cons_zero, List.set_cons_succ]
        refine takeS 1 (some 45) (.int .i64 (TL : Int)) rfl rfl (by kernel_rfl) (by kernel_rfl) (by kernel_rfl) (fun _ _ _ h => h) rfl S0 (fun w' hw' => by go_simp) ?_
        simp only [Act.put, List.setIfInBounds_toArray, List.set_cons_zero, List.set_cons_succ]
        refine takeS 2 (some 46) (.bool false) rfl rfl (by kernel_rfl) (by kernel_rfl) (by kernel_rfl) (fun _ _ _ h => h) rfl S0 (fun w' hw' => by go_simp) ?_
        simp only [Act.put, List.setIfInBounds_toArray, List.set_cons_zero, List.set_cons_succ]
        refine takeS 3 (some 47) (.bool false) rfl rfl (by kernel_rfl) (by kernel_rfl) (by kernel_rfl) (fun _ _ _ h => h) rfl S0 (fun w' hw' => by go_simp) ?_
        simp only [Act.put, List.setIfInBounds_toArray, List.set_cons_zero, List.set_cons_succ]
        refine takeS 4 (some 48) (Value.slice (some ⟨pb, po, none⟩) TL capx) rfl rfl (by kernel_rfl) (by kernel_rfl) (by kernel_rfl) (fun _ _ _ h => h) rfl S0 (fun w' hw' => by go_simp) ?_
        simp only [Act.put, List.setIfInBounds_toArray, List.set_cons_zero, List.set_cons_succ]
        refine takeS 5 (some 49) (.pointer (some ⟨pb, po, none⟩)) rfl rfl (by kernel_rfl) (by kernel_rfl) (by kernel_rfl) (fun _ _ _ h => h) rfl S0 (fun w' hw' => by go_simp) ?_
        simp only [Act.put, List.setIfInBounds_toArray, List.set_cons_zero, List.set_cons_succ]
        refine takeS 6 (some 50) (.slice ad0 k cap0) rfl rfl (by kernel_rfl) (by kernel_rfl) (by kernel_rfl) (fun _ _ _ h => h) rfl S0 (fun w' hw' => by have cc := H0.out w' hw'; go_simp) ?_
        simp only [Act.put, List.setIfInBounds_toArray, List.set_cons_zero, List.set_cons_succ]
        refine takeS 7 (some 51) (.int .i64 (k : Int)) rfl rfl (by kernel_rfl) (by kernel_rfl) (by kernel_rfl) (fun _ _ _ h => h) rfl S0 (fun w' hw' => by go_simp) ?_
        simp only [Act.put, List.setIfInBounds_toArray, List.set_cons_zero, List.set_cons_succ]
        refine takeS 8 (some 52) (.int .i64 (k : Int)) rfl rfl (by kernel_rfl) (by kernel_rfl) (by kernel_rfl) (fun _ _ _ h => h) rfl S0 (fun w' hw' => by go_simp) ?_
        simp only [Act.put, List.setIfInBounds_toArray, List.set_cons_zero, List.set_cons_succ]
        refine takeS 9 (some 53) (.bool false) rfl rfl (by kernel_rfl) (by kernel_rfl) (by kernel_rfl) (fun _ _ _ h => h) rfl S0 (fun w' hw' => by go_simp) ?_
        simp only [Act.put, List.setIfInBounds_toArray, List.set_cons_zero, List.set_cons_succ]
        refine takeS 10 (some 54) (.bool false) rfl rfl (by kernel_rfl) (by kernel_rfl) (by kernel_rfl) (fun _ _ _ h => h) rfl S0 (fun w' hw' => by go_simp) ?_
        simp only [Act.put, List.setIfInBounds_toArray, List.set_cons_zero, List.set_cons_succ]
        refine takeS 11 (some 55) (.bool false) rfl rfl (by kernel_rfl) (by kernel_rfl) (by kernel_rfl) (fun _ _ _ h => h) rfl S0 (fun w' hw' => by go_simp) ?_
        simp only [Act.put, List.setIfInBounds_toArray, List.set_cons_zero, List.set_cons_succ]
        refine takeS 12 (some 56) (Value.slice (some ⟨pb, po, none⟩) TL capx) rfl rfl (by kernel_rfl) (by kernel_rfl) (by kernel_rfl) (fun _ _ _ h => h) rfl S0 (fun w' hw' => by go_simp) ?_
        simp only [Act.put, List.setIfInBounds_toArray, List.set_cons_zero, List.set_cons_succ]
        refine takeS 13 (some 57) (Value.slice (some ⟨pb, po, none⟩) TL capx) rfl rfl (by kernel_rfl) (by kernel_rfl) (by kernel_rfl) (fun _ _ _ h => h) rfl S0 (fun w' hw' => by go_simp) ?_
        simp only [Act.put, List.setIfInBounds_toArray, List.set_cons_zero, List.set_cons_succ]
        refine takeS 14 (some 58) (.int .i64 (TL : Int)) rfl rfl (by kernel_rfl) (by kernel_rfl) (by kernel_rfl) (fun _ _ _ h => h) rfl S0 (fun w' hw' => by go_simp) ?_
        simp only [Act.put, List.setIfInBounds_toArray, List.set_cons_zero, List.set_cons_succ]
        refine takeS 15 (some 59) (.int .i64 (TM : Int)) rfl rfl (by kernel_rfl) (by kernel_rfl) (by kernel_rfl) (fun _ _ _ h => h) rfl S0 (fun w' hw' => by go_simp) ?_
        simp only [Act.put, List.setIfInBounds_toArray, List.set_cons_zero, List.set_cons_succ]
        refine takeS 16 (some 60) (.pointer (some ⟨pb, po + TM, none⟩)) rfl rfl (by kernel_rfl) (by kernel_rfl) (by kernel_rfl) (fun _ _ _ h => h) rfl S0 (fun w' hw' => by go_simp) ?_
        simp only [Act.put, List.setIfInBounds_toArray, List.set_cons_zero, List.set_cons_succ]
        refine takeS 17 (some 61) (.slice (some ⟨qb, qo, none⟩) 1 capt) rfl rfl (by kernel_rfl) (by kernel_rfl) (by kernel_rfl) (fun _ _ _ h => h) rfl S0 (fun w' hw' => by have cc := HT.out w' hw'; go_simp) ?_
        simp only [Act.put, List.setIfInBounds_toArray, List.set_cons_zero, List.set_cons_succ]
        refine takeS 18 (some 62) (.int .i64 1) rfl rfl (by kernel_rfl) (by kernel_rfl) (by kernel_rfl) (fun _ _ _ h => h) rfl S0 (fun w' hw' => by go_simp) ?_
        simp only [Act.put, List.setIfInBounds_toArray, List.set_cons_zero, List.set_cons_succ]
        refine takeS 19 (some 63) (.bool false) rfl rfl (by kernel_rfl) (by kernel_rfl) (by kernel_rfl) (fun _ _ _ h => h) rfl S0 (fun w' hw' => by go_simp) ?_
        simp only [Act.put, List.setIfInBounds_toArray, List.set_cons_zero, List.set_cons_succ]
        refine takeS 20 (some 64) (.bool false) rfl rfl (by kernel_rfl) (by kernel_rfl) (by kernel_rfl) (fun _ _ _ h => h) rfl S0 (fun w' hw' => by go_simp) ?_
        simp only [Act.put, List.setIfInBounds_toArray, List.set_cons_zero, List.set_cons_succ]
        refine takeS 21 (some 65) (.bool false) rfl rfl (by kernel_rfl) (by kernel_rfl) (by kernel_rfl) (fun _ _ _ h => h) rfl S0 (fun w' hw' => by go_simp) ?_
        simp only [Act.put, List.setIfInBounds_toArray, List.set_cons_zero, List.set_cons_succ]
        refine takeS 22 (some 66) (Value.slice (some ⟨pb, po, none⟩) TL capx) rfl rfl (by kernel_rfl) (by kernel_rfl) (by kernel_rfl) (fun _ _ _ h => h) rfl S0 (fun w' hw' => by go_simp) ?_
        simp only [Act.put, List.setIfInBounds_toArray, List.set_cons_zero, List.set_cons_succ]
        refine takeS 23 (some 67) (Value.slice (some ⟨pb, po, none⟩) TL capx) rfl rfl (by kernel_rfl) (by kernel_rfl) (by kernel_rfl) (fun _ _ _ h => h) rfl S0 (fun w' hw' => by go_simp) ?_
        simp only [Act.put, List.setIfInBounds_toArray, List.set_cons_zero, List.set_cons_succ]
        refine takeS 24 (some 68) (.int .i64 (TL : Int)) rfl rfl (by kernel_rfl) (by kernel_rfl) (by kernel_rfl) (fun _ _ _ h => h) rfl S0 (fun w' hw' => by go_simp) ?_
        simp only [Act.put, List.setIfInBounds_toArray, List.set_cons_zero, List.set_cons_succ]
        refine takeS 25 (some 69) (.int .i64 (TM : Int)) rfl rfl (by kernel_rfl) (by kernel_rfl) (by kernel_rfl) (fun _ _ _ h => h) rfl S0 (fun w' hw' => by go_simp) ?_
        simp only [Act.put, List.setIfInBounds_toArray, List.set_cons_zero, List.set_cons_succ]
        refine takeS 26 (some 70) (.pointer (some ⟨pb, po + TM, none⟩)) rfl rfl (by kernel_rfl) (by kernel_rfl) (by kernel_rfl) (fun _ _ _ h => h) rfl S0 (fun w' hw' => by go_simp) ?_
        simp only [Act.put, List.setIfInBounds_toArray, List.set_cons_zero, List.set_cons_succ]
        refine takeS 27 (some 71) (.slice (some ⟨qb, qo, none⟩) 1 capt) rfl rfl (by kernel_rfl) (by kernel_rfl) (by kernel_rfl) (fun _ _ _ h => h) rfl S0 (fun w' hw' => by have cc := HT.out w' hw'; go_simp) ?_
        simp only [Act.put, List.setIfInBounds_toArray, List.set_cons_zero, List.set_cons_succ]
        refine takeS 28 (some 72) (.pointer (some ⟨qb, qo, none⟩)) rfl rfl (by kernel_rfl) (by kernel_rfl) (by kernel_rfl) (fun _ _ _ h => h) rfl S0 (fun w' hw' => by go_simp) ?_
        simp only [Act.put, List.setIfInBounds_toArray, List.set_cons_zero, List.set_cons_succ]
        refine takeS 29 (some 73) (zr) rfl rfl (by kernel_rfl) (by kernel_rfl) (by kernel_rfl) (fun _ _ _ h => h) rfl S0 (fun w' hw' => by have cc := HR.out w' hw'; go_simp) ?_
        simp only [Act.put, List.setIfInBounds_toArray, List.set_cons_zero, List.set_cons_succ]
        refine takeS 30 (some 74) (.string (strOfNums m0)) rfl rfl (by kernel_rfl) (by kernel_rfl) (by kernel_rfl) (fun _ _ _ h => h) rfl S0 (fun w' hw' => by have cc := HV.out w' hw'; go_simp) ?_
        simp only [Act.put, List.setIfInBounds_toArray, List.set_cons_zero, List.set_cons_succ]
        refine takeS 31 (some 75) (Value.slice adl k capl) rfl rfl (by kernel_rfl) (by kernel_rfl) (by kernel_rfl) (fun _ _ _ h => h) rfl S0 (fun w' hw' => by go_simp) ?_
        simp only [Act.put, List.setIfInBounds_toArray, List.set_cons_zero, List.set_cons_succ]
        refine nextS 32 rfl (by kernel_rfl) rfl (callS (some 76) rfl 17 #[Value.slice adl k capl] (by go_simp) (fun v w' => Ext W w' ∧ OwnB w' W.heap.size v m0) ((root_any _ (lvsL k) W k1 lL (by rw [HLl.out]; omega) (fun x hx => by rw [HB.out x hx]; omega)).mono fun _ _ he => by rw [Hroot.out] at he; exact he) ?_)
        rintro v2 W2 ⟨e2, o2⟩
        simp only [Act.put, List.setIfInBounds_toArray, List.set_cons_zero, List.set_cons_succ]
        have S2 : Ext w1 W2 := S0.trans e2
        have x2 := x1.trans e2
        have lL2 := lL.now e2
        have k2 := k1.below e2 k1.lt
        have s2 := o2.srcs W2.heap.size (Or.inr (Nat.le_refl _))
        refine ⟨S2, ?_⟩
        -- from here on what the call made stays, too
        refine anyH_mono (S' := Ext W2) (fun w' h => S2.trans h) _ _ _ _ ?_

        refine takeH 33 (some 77) (.string (strOfNums m0)) rfl rfl (by kernel_rfl) (by kernel_rfl) (by kernel_rfl) (fun _ _ _ h => h) rfl (fun w' hw' => by have cc := conv22 (s2.ext hw'); go_simp) ?_
        simp only [Act.put, List.setIfInBounds_toArray, List.set_cons_zero, List.set_cons_succ]
        refine takeH 34 (some 78) (.bool false) rfl rfl (by kernel_rfl) (by kernel_rfl) (by kernel_rfl) (fun _ _ _ h => h) rfl (fun w' hw' => by go_simp) ?_
        simp only [Act.put, List.setIfInBounds_toArray, List.set_cons_zero, List.set_cons_succ]
        refine takeH 35 (some 79) (.bool false) rfl rfl (by kernel_rfl) (by kernel_rfl) (by kernel_rfl) (fun _ _ _ h => h) rfl (fun w' hw' => by go_simp) ?_
        simp only [Act.put, List.setIfInBounds_toArray, List.set_cons_zero, List.set_cons_succ]
        refine wpAnyH_done (by kernel_rfl) ?_ _
        clear o2 e2 s2 lL k1 S0 x1
        go_wp2
        generalize hW2 : W2 = u0 at *
        clear hW2

        go_loopw [10] (fun i wr => InvC1 u0 TL i wr) (fun i _ => TL - (intOf i).toNat)
        case atStart => exact ⟨1, by omega, by omega, rfl, Ext.refl u0⟩
        case round =>
          obtain ⟨j, hj1, hj, rfl, ex⟩ := hrel
          by_cases hlt : j < TL
          · have i0 : (j : Int) < (TL : Int) := by omega
            have i1 : (0 : Int) ≤ (j : Int) := by omega
            obtain ⟨j1, hj1e⟩ : ∃ j1, j1 = j - 1 := ⟨_, rfl⟩
            have i2 : (j : Int) - 1 = (j1 : Int) := by omega
            have i3 : (0 : Int) ≤ (j1 : Int) := by omega
            have i4 : (j1 : Int) < (TL : Int) := by omega
            have i5 : IntKind.i64.wrap (j1 : Int) = (j1 : Int) := IntWalk.i64_in _ (by omega)
            obtain ⟨p1, hp1⟩ : ∃ m, T[j1]? = some m := ⟨_, List.getElem?_eq_getElem (by rw [← HTL.out]; omega)⟩
            obtain ⟨p2, hp2⟩ : ∃ m, T[j]? = some m := ⟨_, List.getElem?_eq_getElem (by rw [← HTL.out]; omega)⟩
            have hst := f4 j1 p1 p2 hp1 (by rw [show j1 + 1 = j by omega]; exact hp2)
            have hb1 := g2 p1 (List.mem_of_getElem? hp1)
            rw [HLl.out] at hb1
            obtain ⟨y1, c1, r1⟩ := HC.out j1 p1 hp1
            obtain ⟨y2, c2, r2⟩ := HC.out j p2 hp2
            obtain ⟨ay1, cy1, ey1⟩ := r1.len
            obtain ⟨ay2, cy2, ey2⟩ := r2.len
            subst ey1 ey2
            rw [hst] at c2
            obtain ⟨A1, hA1⟩ : ∃ A1, A1 = p1.length := ⟨_, rfl⟩
            rw [← hA1] at c1 c2 hb1
            obtain ⟨A2, hA2⟩ : ∃ A2, A2 = (A1 + 1) / 2 := ⟨_, rfl⟩
            rw [← hA2] at c2
            have q1 : ((A1 : Int) + 1) / 2 = (A2 : Int) := by omega
            have q2 : (0 : Int) ≤ (A1 : Int) + 1 := by omega
            have q4 : IntKind.i64.wrap ((A1 : Int) + 1) = (A1 : Int) + 1 := IntWalk.i64_in _ (by omega)
            have q3 : ((A2 : Int) == (A2 : Int)) = true := by simp
            have q5 : ((A1 : Int) + 1).tdiv 2 = (A2 : Int) := by rw [Int.tdiv_eq_ediv_of_nonneg (by omega)]; omega
            have q6 : IntKind.i64.wrap (A2 : Int) = (A2 : Int) := IntWalk.i64_in _ (by omega)
            have xx : Ext w1 wr := S2.trans ex
            have HA := Lib.hid (show ∀ w', Ext wr w' → w'.cell? ⟨pb, po + j1, none⟩ = some (.slice ay1 A1 cy1) from fun w' h => by rw [Below.cell (p := ⟨pb, po + j1, none⟩) (xx.trans h) (World.block_lt_of_cell? w1 _ c1)]; exact c1)
            have HA2 := Lib.hid (show ∀ w', Ext wr w' → w'.cell? ⟨pb, po + j, none⟩ = some (.slice ay2 A2 cy2) from fun w' h => by rw [Below.cell (p := ⟨pb, po + j, none⟩) (xx.trans h) (World.block_lt_of_cell? w1 _ c2)]; exact c2)
            clear hst hp1 hp2 c1 c2 r1 r2 hA1 hA2 hj1e
            go_wp2
            refine wp_region_held (S := Ext wr) (by kernel_rfl) ?_
            change wpAnyH _ _ _ _ _ _ _ _ wr.drew
            have S5 : Ext wr wr.drew := Below.drew (Below.refl _ _)
            have ex5 := ex.trans S5
            generalize hwd : wr.drew = Wd at *
            clear hwd
            refine takeS 0 (some 86) (Value.slice (some ⟨pb, po, none⟩) TL capx) rfl rfl (by kernel_rfl) (by kernel_rfl) (by kernel_rfl) (fun _ _ _ h => h) rfl S5 (fun w' hw' => by go_simp) ?_
            simp only [Act.put, List.setIfInBounds_toArray, List.set_cons_zero, List.set_cons_succ]
            refine takeS 1 (some 87) (.int .i64 (j : Int)) rfl rfl (by kernel_rfl) (by kernel_rfl) (by kernel_rfl) (fun _ _ _ h => h) rfl S5 (fun w' hw' => by go_simp) ?_
            simp only [Act.put, List.setIfInBounds_toArray, List.set_cons_zero, List.set_cons_succ]
            refine takeS 2 (some 88) (.pointer (some ⟨pb, po + j, none⟩)) rfl rfl (by kernel_rfl) (by kernel_rfl) (by kernel_rfl) (fun _ _ _ h => h) rfl S5 (fun w' hw' => by go_simp) ?_
            simp only [Act.put, List.setIfInBounds_toArray, List.set_cons_zero, List.set_cons_succ]
            refine takeS 3 (some 89) (.slice ay2 A2 cy2) rfl rfl (by kernel_rfl) (by kernel_rfl) (by kernel_rfl) (fun _ _ _ h => h) rfl S5 (fun w' hw' => by have cc := HA2.out w' hw'; go_simp) ?_
            simp only [Act.put, List.setIfInBounds_toArray, List.set_cons_zero, List.set_cons_succ]
            refine takeS 4 (some 90) (.int .i64 (A2 : Int)) rfl rfl (by kernel_rfl) (by kernel_rfl) (by kernel_rfl) (fun _ _ _ h => h) rfl S5 (fun w' hw' => by go_simp) ?_
            simp only [Act.put, List.setIfInBounds_toArray, List.set_cons_zero, List.set_cons_succ]
            refine takeS 5 (some 91) (Value.slice (some ⟨pb, po, none⟩) TL capx) rfl rfl (by kernel_rfl) (by kernel_rfl) (by kernel_rfl) (fun _ _ _ h => h) rfl S5 (fun w' hw' => by go_simp) ?_
            simp only [Act.put, List.setIfInBounds_toArray, List.set_cons_zero, List.set_cons_succ]
            refine takeS 6 (some 92) (.int .i64 (j : Int)) rfl rfl (by kernel_rfl) (by kernel_rfl) (by kernel_rfl) (fun _ _ _ h => h) rfl S5 (fun w' hw' => by go_simp) ?_
            simp only [Act.put, List.setIfInBounds_toArray, List.set_cons_zero, List.set_cons_succ]
            refine takeS 7 (some 93) (.int .i64 (j1 : Int)) rfl rfl (by kernel_rfl) (by kernel_rfl) (by kernel_rfl) (fun _ _ _ h => h) rfl S5 (fun w' hw' => by go_simp) ?_
            simp only [Act.put, List.setIfInBounds_toArray, List.set_cons_zero, List.set_cons_succ]
            refine takeS 8 (some 94) (.pointer (some ⟨pb, po + j1, none⟩)) rfl rfl (by kernel_rfl) (by kernel_rfl) (by kernel_rfl) (fun _ _ _ h => h) rfl S5 (fun w' hw' => by go_simp) ?_
            simp only [Act.put, List.setIfInBounds_toArray, List.set_cons_zero, List.set_cons_succ]
            refine takeS 9 (some 95) (.slice ay1 A1 cy1) rfl rfl (by kernel_rfl) (by kernel_rfl) (by kernel_rfl) (fun _ _ _ h => h) rfl S5 (fun w' hw' => by have cc := HA.out w' hw'; go_simp) ?_
            simp only [Act.put, List.setIfInBounds_toArray, List.set_cons_zero, List.set_cons_succ]
            refine takeS 10 (some 96) (.int .i64 (A1 : Int)) rfl rfl (by kernel_rfl) (by kernel_rfl) (by kernel_rfl) (fun _ _ _ h => h) rfl S5 (fun w' hw' => by go_simp) ?_
            simp only [Act.put, List.setIfInBounds_toArray, List.set_cons_zero, List.set_cons_succ]
            refine takeS 11 (some 97) (.int .i64 ((A1 : Int) + 1)) rfl rfl (by kernel_rfl) (by kernel_rfl) (by kernel_rfl) (fun _ _ _ h => h) rfl S5 (fun w' hw' => by go_simp) ?_
            simp only [Act.put, List.setIfInBounds_toArray, List.set_cons_zero, List.set_cons_succ]
            refine takeS 12 (some 98) (.int .i64 (A2 : Int)) rfl rfl (by kernel_rfl) (by kernel_rfl) (by kernel_rfl) (fun _ _ _ h => h) rfl S5 (fun w' hw' => by go_simp) ?_
            simp only [Act.put, List.setIfInBounds_toArray, List.set_cons_zero, List.set_cons_succ]
            refine takeS 13 (some 99) (.bool false) rfl rfl (by kernel_rfl) (by kernel_rfl) (by kernel_rfl) (fun _ _ _ h => h) rfl S5 (fun w' hw' => by go_simp) ?_
            simp only [Act.put, List.setIfInBounds_toArray, List.set_cons_zero, List.set_cons_succ]
            refine wpAnyH_done (by kernel_rfl) ?_ _
            go_wp2
            exact ⟨⟨j + 1, by omega, by omega, by go_num, ex5⟩, by simp [intOf]; omega⟩
          · have i0 : ¬ ((j : Int) < (TL : Int)) := by omega
            have dj : decide ((j : Int) < (TL : Int)) = false := by simp; omega
            replace lL2 := lL2.now ex
            replace k2 := k2.below ex k2.lt
            replace x2 := x2.trans ex
            clear hlt hj hj1 S2 H0 HT HR HV HC g2 f4 tT tT2 tT3 tT4 tT5 tT6
            go_wp2_with fail
            refine (round_any at_ k wr (by omega) hN).mono ?_
            rintro e w' ⟨rfl, qa, hqa, rfl⟩
            go_wp2_with fail
            refine (round_any other k wr (by omega) hN).mono ?_
            rintro e w' ⟨rfl, qb2, hqb, rfl⟩
            clear ex
            obtain ⟨capl', lb, lo, evl, _, hcl⟩ := lr_get lL2 (by rw [HLl.out]; omega)
            rw [HLl.out] at evl
            injection evl with v1 _ v3
            subst v1 v3
            have HCL := Lib.hid hcl; clear hcl
            go_wp2_with (refine list_append_copy rfl (.tmp 106) (.tmp 107) rfl wr rfl rfl lb lo k capl (lvsL k) rfl HLl.out (by omega) (by omega) HCL.out ?_; intro g c w6 xs x6 hg hcur hxl hxs)
            obtain ⟨cur, hgw, hcn, hcj⟩ := hcur
            have aG : At w6 g cur 22 := hgw
            have cG : ∀ j m, (lvsL k)[j]? = some m → ∃ x, w6.cell? ⟨g, j, none⟩ = some x ∧ Src wr x m wr.heap.size := fun j m hm => by
              obtain ⟨x, h8, h9⟩ := hxs j m hm
              obtain ⟨x', h10, h11⟩ := HCL.out j m hm
              rw [h9] at h10
              injection h10 with h10
              subst h10
              have hjk : j < k := by have := (List.getElem?_eq_some_iff.1 hm).1; rw [HLl.out] at this; exact this
              exact ⟨x, by rw [aG.cell, hcj j hjk, h8], h11⟩
            have HCG := Lib.hid cG; clear cG
            obtain ⟨xa, ca, sa⟩ := HCG.out qa _ (lvsL_get k qa hqa)
            obtain ⟨xb, cb, sb⟩ := HCG.out qb2 _ (lvsL_get k qb2 hqb)
            obtain ⟨axa, cxa, exa⟩ := sa.len
            obtain ⟨axb, cxb, exb⟩ := sb.len
            rw [leafL_length] at exa exb
            subst exa exb
            have fG := fun j => aG.frozen j
            have gG := aG.lt
            have j1 : (0 : Int) ≤ (qa : Int) := by omega
            have j2 : (qa : Int) < (k : Int) := by omega
            have j3 : (0 : Int) ≤ (qb2 : Int) := by omega
            have j4 : (qb2 : Int) < (k : Int) := by omega
            clear hcj hcn hgw hxs hxl
            refine wp_region_any (by kernel_rfl) ?_
            change wpAny _ _ _ _ _ _ _ (World.drew _)
            replace ca : w6.drew.cell? ⟨g, qa, none⟩ = some (.slice axa 32 cxa) := ca
            replace cb : w6.drew.cell? ⟨g, qb2, none⟩ = some (.slice axb 32 cxb) := cb
            replace fG : ∀ j, w6.drew.frozen? ⟨g, j, none⟩ = false := fG
            replace gG : g < w6.drew.heap.size := gG
            replace x6 : Ext wr w6.drew := Below.drew x6
            replace HCG : Hid (∀ j m, (lvsL k)[j]? = some m → ∃ x, w6.drew.cell? ⟨g, j, none⟩ = some x ∧ Src wr x m wr.heap.size) := HCG
            clear aG
            generalize w6.drew = W6 at *
            refine take_at 0 (some 109) (Value.slice (some ⟨g, 0, none⟩) k c) rfl rfl (by kernel_rfl) (by kernel_rfl) (by kernel_rfl) (fun _ _ _ h => h) rfl (fun _ => by go_simp) ?_
            simp only [Act.put, List.setIfInBounds_toArray, List.set_cons_zero, List.set_cons_succ]
            refine take_at 1 (some 110) (.int .i64 (qa : Int)) rfl rfl (by kernel_rfl) (by kernel_rfl) (by kernel_rfl) (fun _ _ _ h => h) rfl (fun _ => by go_simp) ?_
            simp only [Act.put, List.setIfInBounds_toArray, List.set_cons_zero, List.set_cons_succ]
            refine take_at 2 (some 111) (Value.slice (some ⟨g, 0, none⟩) k c) rfl rfl (by kernel_rfl) (by kernel_rfl) (by kernel_rfl) (fun _ _ _ h => h) rfl (fun _ => by go_simp) ?_
            simp only [Act.put, List.setIfInBounds_toArray, List.set_cons_zero, List.set_cons_succ]
            refine take_at 3 (some 112) (.int .i64 (qb2 : Int)) rfl rfl (by kernel_rfl) (by kernel_rfl) (by kernel_rfl) (fun _ _ _ h => h) rfl (fun _ => by go_simp) ?_
            simp only [Act.put, List.setIfInBounds_toArray, List.set_cons_zero, List.set_cons_succ]
            refine take_at 4 (some 113) (Value.slice (some ⟨g, 0, none⟩) k c) rfl rfl (by kernel_rfl) (by kernel_rfl) (by kernel_rfl) (fun _ _ _ h => h) rfl (fun _ => by go_simp) ?_
            simp only [Act.put, List.setIfInBounds_toArray, List.set_cons_zero, List.set_cons_succ]
            refine take_at 5 (some 114) (.int .i64 (qb2 : Int)) rfl rfl (by kernel_rfl) (by kernel_rfl) (by kernel_rfl) (fun _ _ _ h => h) rfl (fun _ => by go_simp) ?_
            simp only [Act.put, List.setIfInBounds_toArray, List.set_cons_zero, List.set_cons_succ]
            refine take_at 6 (some 115) (.pointer (some ⟨g, qb2, none⟩)) rfl rfl (by kernel_rfl) (by kernel_rfl) (by kernel_rfl) (fun _ _ _ h => h) rfl (fun _ => by go_simp) ?_
            simp only [Act.put, List.setIfInBounds_toArray, List.set_cons_zero, List.set_cons_succ]
            refine take_at 8 (some 117) (Value.slice (some ⟨g, 0, none⟩) k c) rfl rfl (by kernel_rfl) (by kernel_rfl) (by kernel_rfl) (fun _ _ _ h => h) rfl (fun _ => by go_simp) ?_
            simp only [Act.put, List.setIfInBounds_toArray, List.set_cons_zero, List.set_cons_succ]
            refine take_at 9 (some 118) (.int .i64 (qa : Int)) rfl rfl (by kernel_rfl) (by kernel_rfl) (by kernel_rfl) (fun _ _ _ h => h) rfl (fun _ => by go_simp) ?_
            simp only [Act.put, List.setIfInBounds_toArray, List.set_cons_zero, List.set_cons_succ]
            refine take_at 10 (some 119) (.pointer (some ⟨g, qa, none⟩)) rfl rfl (by kernel_rfl) (by kernel_rfl) (by kernel_rfl) (fun _ _ _ h => h) rfl (fun _ => by go_simp) ?_
            simp only [Act.put, List.setIfInBounds_toArray, List.set_cons_zero, List.set_cons_succ]
            refine next_two 7 11 rfl rfl (by kernel_rfl) rfl rfl (fun K hK => ?_) (fun K hK => ?_)
            all_goals
              first
              | (refine at_load1 (some 116) rfl _ rfl g qb2 rfl axb 32 cxb cb ?_; refine hK _ _ ?_; clear hK K; simp only [Act.put, List.setIfInBounds_toArray, List.set_cons_zero, List.set_cons_succ]; refine next_one 11 rfl (by kernel_rfl) rfl (fun K hK => ?_); refine at_load1 (some 120) rfl _ rfl g qa rfl axa 32 cxa ca ?_; refine hK _ _ ?_; clear hK K; simp only [Act.put, List.setIfInBounds_toArray, List.set_cons_zero, List.set_cons_succ])
              | (refine at_load1 (some 120) rfl _ rfl g qa rfl axa 32 cxa ca ?_; refine hK _ _ ?_; clear hK K; simp only [Act.put, List.setIfInBounds_toArray, List.set_cons_zero, List.set_cons_succ]; refine next_one 7 rfl (by kernel_rfl) rfl (fun K hK => ?_); refine at_load1 (some 116) rfl _ rfl g qb2 rfl axb 32 cxb cb ?_; refine hK _ _ ?_; clear hK K; simp only [Act.put, List.setIfInBounds_toArray, List.set_cons_zero, List.set_cons_succ])
              refine take_at 12 (some 121) (.pointer (some ⟨g, qa, none⟩)) rfl rfl (by kernel_rfl) (by kernel_rfl) (by kernel_rfl) (fun _ _ _ h => h) rfl (fun _ => by go_simp) ?_
              simp only [Act.put, List.setIfInBounds_toArray, List.set_cons_zero, List.set_cons_succ]
              refine next_one 13 rfl (by kernel_rfl) rfl (fun K hK => ?_)
              refine at_store1 rfl _ _ rfl g qa rfl axb 32 cxb rfl _ ca (fG qa) ?_
              refine hK _ _ ?_
              clear hK K
              obtain ⟨z2, cz2⟩ := cell_after W6 g qa qb2 (.slice axb 32 cxb) _ cb
              refine take_at 14 (some 122) (.pointer (some ⟨g, qb2, none⟩)) rfl rfl (by kernel_rfl) (by kernel_rfl) (by kernel_rfl) (fun _ _ _ h => h) rfl (fun _ => by go_simp) ?_
              simp only [Act.put, List.setIfInBounds_toArray, List.set_cons_zero, List.set_cons_succ]
              refine next_one 15 rfl (by kernel_rfl) rfl (fun K hK => ?_)
              refine at_store1 rfl _ _ rfl g qb2 rfl axa 32 cxa rfl _ cz2 (by rw [World.frozen?_setCell]; exact fG qb2) ?_
              refine hK _ _ ?_
              clear hK K
              refine wpAny_done (by kernel_rfl) ?_ _
              have cS := cells_swap (xa := .slice axa 32 cxa) (xb := .slice axb 32 cxb) (ma := leafL [(qa : Int)]) (mb := leafL [(qb2 : Int)]) HLl.out HCG.out sa sb (a := qa) (b := qb2)
              have x7 : Ext wr ((W6.setCell ⟨g, qa, none⟩ (.slice axb 32 cxb)).setCell ⟨g, qb2, none⟩ (.slice axa 32 cxa)) := Below.setCell (p := ⟨g, qb2, none⟩) (Below.setCell (p := ⟨g, qa, none⟩) x6 hg _) hg _
              have g7 : g < ((W6.setCell ⟨g, qa, none⟩ (.slice axb 32 cxb)).setCell ⟨g, qb2, none⟩ (.slice axa 32 cxa)).heap.size := by simpa using gG
              have lM := lr_cells (n := k) (c := c) x7 (by simp [HLl.out]) g7 cS
              replace lL2 := lL2.now x7
              replace k2 := k2.below x7 k2.lt
              replace x2 := x2.trans x7
              have hcl7 : ∀ j m, (lvsL k)[j]? = some m → ∃ x, ((W6.setCell ⟨g, qa, none⟩ (.slice axb 32 cxb)).setCell ⟨g, qb2, none⟩ (.slice axa 32 cxa)).cell? ⟨lb, lo + j, none⟩ = some x ∧ Src ((W6.setCell ⟨g, qa, none⟩ (.slice axb 32 cxb)).setCell ⟨g, qb2, none⟩ (.slice axa 32 cxa)) x m ((W6.setCell ⟨g, qa, none⟩ (.slice axb 32 cxb)).setCell ⟨g, qb2, none⟩ (.slice axa 32 cxa)).heap.size := fun j m hm => by
                obtain ⟨x, h8, h9⟩ := HCL.out j m hm
                exact ⟨x, by rw [Below.cell (p := ⟨lb, lo + j, none⟩) x7 (World.block_lt_of_cell? wr _ h8)]; exact h8, h9.now x7⟩
              clear cS cz2 ca cb sa sb HCG fG gG x6 hg HCL
              generalize ((W6.setCell ⟨g, qa, none⟩ (.slice axb 32 cxb)).setCell ⟨g, qb2, none⟩ (.slice axa 32 cxa)) = W7 at *
              clear x7
              have HC7 := Lib.hid hcl7; clear hcl7
              go_wp2_with (refine list_append_copy rfl (.tmp 123) (.tmp 124) rfl W7 rfl rfl lb lo k capl (lvsL k) rfl HLl.out (by omega) (by omega) HC7.out ?_; intro g2 c2 w8 xs2 x8 hg2 hcur2 hxl2 hxs2)
              obtain ⟨cur2, hgw2, hcn2, hcj2⟩ := hcur2
              have aG2 : At w8 g2 cur2 22 := hgw2
              have kc : (convert 22 22 (.slice (some ⟨w8.heap.size, 0, none⟩) 5 5)).run Tryd.prog (w8.alloc (.cells #[.int .u8 111, .int .u8 116, .int .u8 104, .int .u8 101, .int .u8 114] 5)) = .ok (.slice (some ⟨w8.heap.size, 0, none⟩) 5 5) (w8.alloc (.cells #[.int .u8 111, .int .u8 116, .int .u8 104, .int .u8 101, .int .u8 114] 5 (5, 6))) := Lib.run_convert_bytes_const (P := Tryd.prog) w8 22 5 #[.int .u8 111, .int .u8 116, .int .u8 104, .int .u8 101, .int .u8 114] 5 5 Tryd.underlying22 Tryd.underlying5
              have e9 : Ext w8 (w8.alloc (.cells #[.int .u8 111, .int .u8 116, .int .u8 104, .int .u8 101, .int .u8 114] 5 (5, 6))) := Ext.alloc w8 _
              have s9 := other_src w8 (5, 6)
              have x9 := x8.trans e9
              have k9 := k2.below x9 k2.lt
              have aG9 := aG2.below e9 aG2.lt
              go_wp2_with fail
              rw [kc]
              clear kc
              go_wp2_with fail
              generalize hG8 : w8.heap.size = G8 at *
              have HG8 := Lib.hid hG8; clear hG8
              generalize w8.alloc (.cells #[.int .u8 111, .int .u8 116, .int .u8 104, .int .u8 101, .int .u8 114] 5 (5, 6)) = w9 at *
              refine (leaf_any _ otherB w9 k9 s9 (by simp [otherB])).mono ?_
              rintro e w10 ⟨v10, rfl, e10, o10⟩
              have aG10 := aG9.below e10 aG9.lt
              have x10 := x9.trans e10
              have so := o10.srcs g2 (Or.inl aG9.lt)
              obtain ⟨ad10, cap10, ev10⟩ := o10.len
              rw [leafL_length] at ev10
              subst ev10
              have f10 := aG10.frozen qa
              obtain ⟨xo, hxo, _⟩ := hxs2 qa _ (lvsL_get k qa hqa)
              have c10 : w10.cell? ⟨g2, qa, none⟩ = some xo := by rw [aG10.cell, hcj2 qa hqa]; exact hxo
              have gg2 := aG10.lt
              have cO : ∀ j m, ((lvsL k).set qa (leafL otherB))[j]? = some m → ∃ x, (w10.setCell ⟨g2, qa, none⟩ (.slice ad10 32 cap10)).cell? ⟨g2, j, none⟩ = some x ∧ Src (w10.setCell ⟨g2, qa, none⟩ (.slice ad10 32 cap10)) x m (w10.setCell ⟨g2, qa, none⟩ (.slice ad10 32 cap10)).heap.size := fun j m hj => by
                have hjk : j < k := by have := (List.getElem?_eq_some_iff.1 hj).1; simpa [HLl.out] using this
                have oO : Only g2 w10 (w10.setCell ⟨g2, qa, none⟩ (.slice ad10 32 cap10)) := Only.set g2 qa w10 _
                rw [List.getElem?_set] at hj
                by_cases h2 : qa = j
                · subst h2
                  rw [if_pos rfl, if_pos (by rw [HLl.out]; exact hqa)] at hj
                  injection hj with hj
                  subst hj
                  exact ⟨_, World.cell?_setCell_same _ _ _ c10, (so.only oO).other (Nat.le_refl _)⟩
                · rw [if_neg h2] at hj
                  obtain ⟨x, h8, h9⟩ := hxs2 j m hj
                  obtain ⟨x', h10, h11⟩ := HC7.out j m hj
                  rw [h9] at h10
                  injection h10 with h10
                  subst h10
                  refine ⟨x, by rw [World.cell?_setCell_other _ _ _ _ (by intro h'; injection h' with _ h3; exact h2 h3), aG10.cell, hcj2 j hjk]; exact h8, ?_⟩
                  exact (((h11.other hg2).ext x10).only oO).other (Nat.le_refl _)
              have lO := lr_cells2 (n := k) (c := c2) (by simp [HLl.out]) (by simpa using gg2) cO
              have x11 : Ext W7 (w10.setCell ⟨g2, qa, none⟩ (.slice ad10 32 cap10)) := Below.setCell (p := ⟨g2, qa, none⟩) x10 hg2 _
              replace lM := lM.now x11
              replace lL2 := lL2.now x11
              replace k2 := k2.below x11 k2.lt
              replace x2 := x2.trans x11
              clear cO x11 so o10 aG10 aG9 aG2 x10 x9 x8 e10 e9 s9 hxs2 hcj2 hcn2 hgw2 HC7 hxl2 k9 hg2 gg2
              have bS := HS.out k qa qb2 hN hqa hqb
              have bO := HO.out k qa hN hqa
              change eqS _ (rootL (lvsL k)) = false at bO
              obtain ⟨D, hD⟩ : ∃ D, D = decide (qa = qb2) := ⟨_, rfl⟩
              rw [← hD] at bS
              have tD : ((qa : Int) == (qb2 : Int)) = D := by
                rw [hD]
                by_cases h : qa = qb2
                · simp [h]
                · have : ¬ ((qa : Int) = (qb2 : Int)) := by omega
                  simp [h, this]
              have tDD : (D == D) = true := by simp
              have HD := Lib.hid hD; clear hD
              obtain ⟨lsM, hlsM⟩ : ∃ lsM, lsM = ((lvsL k).set qa (leafL [(qb2 : Int)])).set qb2 (leafL [(qa : Int)]) := ⟨_, rfl⟩
              rw [← hlsM] at lM bS
              have bM : ∀ x ∈ lsM, x.length ≤ 1000000 := fun x hx => by
                rw [hlsM] at hx
                rcases List.mem_or_eq_of_mem_set hx with hx | rfl
                · rcases List.mem_or_eq_of_mem_set hx with hx | rfl
                  · rw [HB.out x hx]; omega
                  · rw [leafL_length]; omega
                · rw [leafL_length]; omega
              have nM : lsM.length ≤ 1000000 := by rw [hlsM]; simp [HLl.out]; omega
              clear hlsM
              obtain ⟨lsO, hlsO⟩ : ∃ lsO, lsO = (lvsL k).set qa (leafL otherB) := ⟨_, rfl⟩
              rw [← hlsO] at lO
              change eqS (rootL ((lvsL k).set qa (leafL otherB))) (rootL (lvsL k)) = false at bO
              rw [← hlsO] at bO
              have bdO : ∀ x ∈ lsO, x.length ≤ 1000000 := fun x hx => by
                rw [hlsO] at hx
                rcases List.mem_or_eq_of_mem_set hx with hx | rfl
                · rw [HB.out x hx]; omega
                · rw [leafL_length]; omega
              have nO : lsO.length ≤ 1000000 := by rw [hlsO]; simp [HLl.out]; omega
              clear hlsO
              have HbM := Lib.hid bM; clear bM
              have HbO := Lib.hid bdO; clear bdO
              have HBS := Lib.hid (show ((strOfNums (rootL lsM)).toList == (strOfNums (rootL (lvsL k))).toList) = D from bS); clear bS
              have HBO := Lib.hid (show ((strOfNums (rootL lsO)).toList == (strOfNums (rootL (lvsL k))).toList) = false from bO); clear bO
              go_wp2
              generalize w10.setCell ⟨g2, qa, none⟩ (.slice ad10 32 cap10) = w11 at *
              refine wp_region_held (S := Ext w11.drew) (by kernel_rfl) ?_
              change wpAnyH _ _ _ _ _ _ _ _ w11.drew
              have xd : Ext w11 w11.drew := Below.drew (Below.refl _ _)
              replace lM := lM.now xd
              replace lL2 := lL2.now xd
              replace lO := lO.now xd
              replace k2 := k2.below xd k2.lt
              replace x2 := x2.trans xd
              clear xd
              generalize w11.drew = Y0 at *
              refine takeH 0 (some 132) (Value.slice (some ⟨g, 0, none⟩) k c) rfl rfl (by kernel_rfl) (by kernel_rfl) (by kernel_rfl) (fun _ _ _ h => h) rfl (fun w' hw' => by go_simp) ?_
              simp only [Act.put, List.setIfInBounds_toArray, List.set_cons_zero, List.set_cons_succ]
              refine takeH 3 (some 135) (Value.slice (some ⟨lb, lo, none⟩) k capl) rfl rfl (by kernel_rfl) (by kernel_rfl) (by kernel_rfl) (fun _ _ _ h => h) rfl (fun w' hw' => by go_simp) ?_
              simp only [Act.put, List.setIfInBounds_toArray, List.set_cons_zero, List.set_cons_succ]
              refine takeH 7 (some 139) (.int .i64 (qa : Int)) rfl rfl (by kernel_rfl) (by kernel_rfl) (by kernel_rfl) (fun _ _ _ h => h) rfl (fun w' hw' => by go_simp) ?_
              simp only [Act.put, List.setIfInBounds_toArray, List.set_cons_zero, List.set_cons_succ]
              refine takeH 8 (some 140) (.int .i64 (qb2 : Int)) rfl rfl (by kernel_rfl) (by kernel_rfl) (by kernel_rfl) (fun _ _ _ h => h) rfl (fun w' hw' => by go_simp) ?_
              simp only [Act.put, List.setIfInBounds_toArray, List.set_cons_zero, List.set_cons_succ]
              refine takeH 9 (some 141) (.bool D) rfl rfl (by kernel_rfl) (by kernel_rfl) (by kernel_rfl) (fun _ _ _ h => h) rfl (fun w' hw' => by go_simp) ?_
              simp only [Act.put, List.setIfInBounds_toArray, List.set_cons_zero, List.set_cons_succ]
              refine nextH 1 rfl (by kernel_rfl) rfl (callH (some 133) rfl 17 #[Value.slice (some ⟨g, 0, none⟩) k c] (by go_simp) (fun v w' => OwnB w' Y0.heap.size v (rootL lsM)) (root_any _ lsM Y0 k2 lM nM HbM.out) ?_)
              rintro va Y1 xz oa
              simp only [Act.put, List.setIfInBounds_toArray, List.set_cons_zero, List.set_cons_succ]
              replace lM := lM.now xz
              replace lL2 := lL2.now xz
              replace lO := lO.now xz
              replace k2 := k2.below xz k2.lt
              replace x2 := x2.trans xz
              clear xz
              have sa := oa.srcs Y1.heap.size (Or.inr (Nat.le_refl _))
              clear oa
              refine takeH 2 (some 134) (.string (strOfNums (rootL lsM))) rfl rfl (by kernel_rfl) (by kernel_rfl) (by kernel_rfl) (fun _ _ _ h => h) rfl (fun w' hw' => by have cc := conv22 (sa.ext hw'); go_simp) ?_
              simp only [Act.put, List.setIfInBounds_toArray, List.set_cons_zero, List.set_cons_succ]
              clear sa
              refine nextH 4 rfl (by kernel_rfl) rfl (callH (some 136) rfl 17 #[Value.slice (some ⟨lb, lo, none⟩) k capl] (by go_simp) (fun v w' => OwnB w' Y1.heap.size v (rootL (lvsL k))) (root_any _ (lvsL k) Y1 k2 lL2 (by rw [HLl.out]; omega) (fun x hx => by rw [HB.out x hx]; omega)) ?_)
              rintro vb Y2 xz ob
              simp only [Act.put, List.setIfInBounds_toArray, List.set_cons_zero, List.set_cons_succ]
              replace lM := lM.now xz
              replace lL2 := lL2.now xz
              replace lO := lO.now xz
              replace k2 := k2.below xz k2.lt
              replace x2 := x2.trans xz
              clear xz
              have sb := ob.srcs Y2.heap.size (Or.inr (Nat.le_refl _))
              clear ob
              refine takeH 5 (some 137) (.string (strOfNums (rootL (lvsL k)))) rfl rfl (by kernel_rfl) (by kernel_rfl) (by kernel_rfl) (fun _ _ _ h => h) rfl (fun w' hw' => by have cc := conv22 (sb.ext hw'); go_simp) ?_
              simp only [Act.put, List.setIfInBounds_toArray, List.set_cons_zero, List.set_cons_succ]
              clear sb
              refine takeH 6 (some 138) (.bool D) rfl rfl (by kernel_rfl) (by kernel_rfl) (by kernel_rfl) (fun _ _ _ h => h) rfl (fun w' hw' => by have cc := HBS.out; go_simp) ?_
              simp only [Act.put, List.setIfInBounds_toArray, List.set_cons_zero, List.set_cons_succ]
              refine takeH 10 (some 142) (.bool true) rfl rfl (by kernel_rfl) (by kernel_rfl) (by kernel_rfl) (fun _ _ _ h => h) rfl (fun w' hw' => by go_simp) ?_
              simp only [Act.put, List.setIfInBounds_toArray, List.set_cons_zero, List.set_cons_succ]
              refine takeH 11 (some 143) (.bool true) rfl rfl (by kernel_rfl) (by kernel_rfl) (by kernel_rfl) (fun _ _ _ h => h) rfl (fun w' hw' => by go_simp) ?_
              simp only [Act.put, List.setIfInBounds_toArray, List.set_cons_zero, List.set_cons_succ]
              refine takeH 12 (some 144) (Value.slice (some ⟨g2, 0, none⟩) k c2) rfl rfl (by kernel_rfl) (by kernel_rfl) (by kernel_rfl) (fun _ _ _ h => h) rfl (fun w' hw' => by go_simp) ?_
              simp only [Act.put, List.setIfInBounds_toArray, List.set_cons_zero, List.set_cons_succ]
              refine takeH 15 (some 147) (Value.slice (some ⟨lb, lo, none⟩) k capl) rfl rfl (by kernel_rfl) (by kernel_rfl) (by kernel_rfl) (fun _ _ _ h => h) rfl (fun w' hw' => by go_simp) ?_
              simp only [Act.put, List.setIfInBounds_toArray, List.set_cons_zero, List.set_cons_succ]
              refine nextH 13 rfl (by kernel_rfl) rfl (callH (some 145) rfl 17 #[Value.slice (some ⟨g2, 0, none⟩) k c2] (by go_simp) (fun v w' => OwnB w' Y2.heap.size v (rootL lsO)) (root_any _ lsO Y2 k2 lO nO HbO.out) ?_)
              rintro vc Y3 xz oc
              simp only [Act.put, List.setIfInBounds_toArray, List.set_cons_zero, List.set_cons_succ]
              replace lM := lM.now xz
              replace lL2 := lL2.now xz
              replace lO := lO.now xz
              replace k2 := k2.below xz k2.lt
              replace x2 := x2.trans xz
              clear xz
              have sc := oc.srcs Y3.heap.size (Or.inr (Nat.le_refl _))
              clear oc
              refine takeH 14 (some 146) (.string (strOfNums (rootL lsO))) rfl rfl (by kernel_rfl) (by kernel_rfl) (by kernel_rfl) (fun _ _ _ h => h) rfl (fun w' hw' => by have cc := conv22 (sc.ext hw'); go_simp) ?_
              simp only [Act.put, List.setIfInBounds_toArray, List.set_cons_zero, List.set_cons_succ]
              clear sc
              refine nextH 16 rfl (by kernel_rfl) rfl (callH (some 148) rfl 17 #[Value.slice (some ⟨lb, lo, none⟩) k capl] (by go_simp) (fun v w' => OwnB w' Y3.heap.size v (rootL (lvsL k))) (root_any _ (lvsL k) Y3 k2 lL2 (by rw [HLl.out]; omega) (fun x hx => by rw [HB.out x hx]; omega)) ?_)
              rintro vd Y4 xz od
              simp only [Act.put, List.setIfInBounds_toArray, List.set_cons_zero, List.set_cons_succ]
              replace lM := lM.now xz
              replace lL2 := lL2.now xz
              replace lO := lO.now xz
              replace k2 := k2.below xz k2.lt
              replace x2 := x2.trans xz
              clear xz
              have sd := od.srcs Y4.heap.size (Or.inr (Nat.le_refl _))
              clear od
              refine takeH 17 (some 149) (.string (strOfNums (rootL (lvsL k)))) rfl rfl (by kernel_rfl) (by kernel_rfl) (by kernel_rfl) (fun _ _ _ h => h) rfl (fun w' hw' => by have cc := conv22 (sd.ext hw'); go_simp) ?_
              simp only [Act.put, List.setIfInBounds_toArray, List.set_cons_zero, List.set_cons_succ]
              clear sd
              refine takeH 18 (some 150) (.bool true) rfl rfl (by kernel_rfl) (by kernel_rfl) (by kernel_rfl) (fun _ _ _ h => h) rfl (fun w' hw' => by have cc := HBO.out; go_simp) ?_
              simp only [Act.put, List.setIfInBounds_toArray, List.set_cons_zero, List.set_cons_succ]
              refine takeH 19 (some 151) (.bool true) rfl rfl (by kernel_rfl) (by kernel_rfl) (by kernel_rfl) (fun _ _ _ h => h) rfl (fun w' hw' => by go_simp) ?_
              simp only [Act.put, List.setIfInBounds_toArray, List.set_cons_zero, List.set_cons_succ]
              refine takeH 20 (some 152) (.bool true) rfl rfl (by kernel_rfl) (by kernel_rfl) (by kernel_rfl) (fun _ _ _ h => h) rfl (fun w' hw' => by go_simp) ?_
              simp only [Act.put, List.setIfInBounds_toArray, List.set_cons_zero, List.set_cons_succ]
              refine nextH 21 rfl (by kernel_rfl) rfl (callH (some 153) rfl 7 #[] (by go_simp) (fun v w' => v = .bool true) ((awake_any Y4 k2).mono fun _ _ he => by obtain ⟨rfl, he⟩ := he; exact ⟨_, rfl, he, rfl⟩) ?_)
              rintro v Y5 xz rfl
              simp only [Act.put, List.setIfInBounds_toArray, List.set_cons_zero, List.set_cons_succ]
              replace lM := lM.now xz
              replace lL2 := lL2.now xz
              replace lO := lO.now xz
              replace k2 := k2.below xz k2.lt
              replace x2 := x2.trans xz
              clear xz
              refine takeH 22 (some 154) (.bool true) rfl rfl (by kernel_rfl) (by kernel_rfl) (by kernel_rfl) (fun _ _ _ h => h) rfl (fun w' hw' => by go_simp) ?_
              simp only [Act.put, List.setIfInBounds_toArray, List.set_cons_zero, List.set_cons_succ]
              refine takeH 23 (some 6) (.bool true) rfl rfl (by kernel_rfl) (by kernel_rfl) (by kernel_rfl) (fun _ _ _ h => h) rfl (fun w' hw' => by go_simp) ?_
              simp only [Act.put, List.setIfInBounds_toArray, List.set_cons_zero, List.set_cons_succ]
              refine wpAnyH_done (by kernel_rfl) ?_ _
              go_wp2
              go_ret
              exact ⟨rfl, x2⟩
end Go.Proofs.YtmplnlcmdcogmaaDoor
