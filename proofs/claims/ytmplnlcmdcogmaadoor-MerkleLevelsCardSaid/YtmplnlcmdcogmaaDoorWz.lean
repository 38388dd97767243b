/- The walk of the law MerkleAsks. -/
import Derived.Test.YtmplnlcmdcogmaaDoorWy
namespace Go.Proofs.YtmplnlcmdcogmaaDoor
open Go.RowKit Go.Sha
set_option linter.unusedSimpArgs false

theorem llr_get {w : World} {v : Value} {l3 : List (List (List Int))} {bh : Nat} (h : LLR w v l3 bh) (h0 : 0 < l3.length) : ∃ cap pb po, v = .slice (some ⟨pb, po, none⟩) l3.length cap ∧ pb ≠ bh ∧ ∀ j m, l3[j]? = some m → ∃ x, w.cell? ⟨pb, po + j, none⟩ = some x ∧ LR w x m bh := by
  obtain ⟨ad, cap, pb, po, rfl, h1, h2, h3⟩ := h
  obtain rfl := h1 h0
  exact ⟨cap, pb, po, rfl, h2, h3⟩
theorem llr_len {w : World} {v : Value} {l3 : List (List (List Int))} {b : Nat} (h : LLR w v l3 b) : ∃ ad cap, v = .slice ad l3.length cap := by
  obtain ⟨ad, cap, _, _, h, _⟩ := h
  exact ⟨ad, cap, h⟩
theorem levelsL_bd : ∀ (n : Nat) (ls : List (List Int)), ls.length ≤ n → (levelsL ls).length ≤ n + 1 ∧ ∀ l ∈ levelsL ls, l.length ≤ ls.length
  | n, ls, h => by
    by_cases h1 : ls.length ≤ 1
    · rw [levelsL_small ls h1]; simp
    · rw [levelsL_great ls h1]
      have hu := upL_length ls
      obtain ⟨n', rfl⟩ : ∃ n', n = n' + 1 := ⟨n - 1, by omega⟩
      obtain ⟨ih1, ih2⟩ := levelsL_bd n' (upL ls) (by omega)
      refine ⟨by simp; omega, fun l hl => ?_⟩
      rcases List.mem_cons.1 hl with rfl | hl
      · exact Nat.le_refl _
      · have := ih2 l hl; omega

theorem leaves_few (m : List Int) (B : Int) (hm : m.length ≤ 1000) : (leavesL m B).length ≤ 6000 := by
  have h1 : cntL m.length B ≤ 6000 := by
    unfold cntL
    split
    · omega
    · exact Int.le_trans (Int.ediv_le_self _ (by omega)) (by omega)
  simp [leavesL]
  omega
def lvT (ls : List (List Int)) : List (List (List Int)) := if ls.length = 0 then [] else levelsL ls
theorem lvT_bd (ls : List (List Int)) (h : ls.length ≤ 6000) : (lvT ls).length ≤ 6001 ∧ ∀ l ∈ lvT ls, l.length ≤ 6000 := by
  unfold lvT
  split
  · simp
  · obtain ⟨h1, h2⟩ := levelsL_bd 6000 ls h
    exact ⟨h1, fun l hl => Nat.le_trans (h2 l hl) h⟩

set_option maxHeartbeats 8000000 in
set_option maxRecDepth 100000 in
theorem asks_neg (adv : Option Addr) (capv : Nat) (m : List Int) (B k size : Int) (w : World) (hK : KAt w) (hs : Src w (.slice adv m.length capv) m w.heap.size) (h1 : m.length ≤ 1000) (h2 : ¬ 1 ≤ B) :
    Calls Tryd.prog 3 #[.slice adv m.length capv, .int .i64 B, .int .i64 k, .int .i64 size] w fun e w' => e = .returned (.bool true) ∧ Ext w w' := by
    have d1 : decide ((1000 : Int) < (m.length : Int)) = false := by simp; omega
    have d2 : decide (1 ≤ B) = false := by simpa using h2
    have k1 := hK
    have s1 := hs
    have x1 := Ext.refl w
    obtain ⟨w1, hw1⟩ : ∃ w1, w1 = w := ⟨_, rfl⟩
    go_enter Tryd.func3, Tryd.ntmps3
    rw [← hw1] at k1 s1 ⊢
    have x1 : Ext w w1 := by rw [hw1]; exact Ext.refl w
    have HW1 := Lib.hid hw1
    clear hw1 hs
    go_wp2_with fail
    refine (leaves_any _ m B w1 k1 s1 (by omega)).mono ?_
    rintro e w2 ⟨va, rfl, e2, la⟩
    have x2 := x1.trans e2
    have s2 := s1.now e2
    have la2 := la _ (Or.inr (Nat.le_refl _))
    clear la s1 e2 x1 k1
    go_wp2_with fail
    refine (rleaves_any _ m B w2 s2 (by omega)).mono ?_
    rintro e w3 ⟨vb, rfl, e3, lb⟩
    have x3 := x2.trans e3
    have s3 := s2.now e3
    have la3 := la2.now e3
    have lb3 := lb _ (Or.inr (Nat.le_refl _))
    have k3 := hK.below x3 hK.lt
    clear lb la2 s2 e3 x2
    obtain ⟨ada, capa, eva⟩ := la3.len
    subst eva
    obtain ⟨adb, capb, evb⟩ := lb3.len
    subst evb
    have hfew := leaves_few m B (by omega)
    have hbd := leaves_bd m B
    have Hbd := Lib.hid hbd; clear hbd
    go_wp2_with fail
    refine (levels_any _ (leavesL m B) w3 k3 la3 (by omega) (fun x hx => by rw [Hbd.out x hx]; omega)).mono ?_
    rintro e w4 ⟨vx, rfl, e4, lx4⟩
    have x4 := x3.trans e4
    have s4 := s3.now e4
    have la4 := la3.now e4
    have lb4 := lb3.now e4
    clear la3 lb3 s3 x3 k3
    go_wp2_with fail
    refine (rlevels_any _ (leavesL m B) w4 lb4 (by omega) (fun x hx => by rw [Hbd.out x hx]; omega)).mono ?_
    rintro e w5 ⟨vy, rfl, e5, ly5⟩
    have x5 := x4.trans e5
    have s5 := s4.now e5
    have la5 := la4.now e5
    have lb5 := lb4.now e5
    clear la4 lb4 s4 x4 e4
    obtain ⟨hb1, hb2⟩ := lvT_bd (leavesL m B) hfew
    change LLR w4 vx (lvT (leavesL m B)) w4.heap.size at lx4
    change LLR w5 vy (lvT (leavesL m B)) w5.heap.size at ly5
    obtain ⟨adx, capx, evx⟩ := llr_len lx4
    subst evx
    obtain ⟨ady, capy, evy⟩ := llr_len ly5
    subst evy
    obtain ⟨T, hT⟩ : ∃ T, T = lvT (leavesL m B) := ⟨_, rfl⟩
    rw [← hT] at lx4 ly5 hb1 hb2 ⊢
    obtain ⟨N, hN⟩ : ∃ N, N = T.length := ⟨_, rfl⟩
    rw [← hN] at lx4 ly5 hb1 ⊢
    clear hT
    have HX := Lib.hid lx4; clear lx4
    have HY := Lib.hid ly5; clear ly5
    have HN := Lib.hid hN; clear hN
    have Hb2 := Lib.hid hb2; clear hb2
    have tN : ((N : Int) == (N : Int)) = true := by simp
    go_wp2
    go_loopw [13] (fun i wr => InvC w5 N i wr) (fun i _ => N - (intOf i).toNat)
    case atStart => exact ⟨0, by omega, rfl, Ext.refl w5⟩
    case round =>
      obtain ⟨j, hj, rfl, ex⟩ := hrel
      by_cases hlt : j < N
      · have i0 : (j : Int) < (N : Int) := by omega
        have i1 : (0 : Int) ≤ (j : Int) := by omega
        obtain ⟨l1, hl1⟩ : ∃ l, T[j]? = some l := ⟨_, List.getElem?_eq_getElem (by rw [← HN.out]; exact hlt)⟩
        have hx := HX.out
        have hy := HY.out
        rw [HN.out] at hx hy
        obtain ⟨cap1, pb, po, ev1, _, hc1⟩ := llr_get hx (by rw [← HN.out]; omega)
        obtain ⟨cap2, qb, qo, ev2, _, hc2⟩ := llr_get hy (by rw [← HN.out]; omega)
        injection ev1 with a1 _ a2
        injection ev2 with a3 _ a4
        subst a1 a2 a3 a4
        obtain ⟨y1, c1, r1⟩ := hc1 j l1 hl1
        obtain ⟨y2, c2, r2⟩ := hc2 j l1 hl1
        have hc1' : ∀ w', Ext w5 w' → w'.cell? ⟨pb, po + j, none⟩ = some y1 := fun w' h => by rw [Below.cell (p := ⟨pb, po + j, none⟩) (e5.trans h) (World.block_lt_of_cell? w4 _ c1)]; exact c1
        have hc2' : ∀ w', Ext w5 w' → w'.cell? ⟨qb, qo + j, none⟩ = some y2 := fun w' h => by rw [Below.cell (p := ⟨qb, qo + j, none⟩) h (World.block_lt_of_cell? w5 _ c2)]; exact c2
        have r1' := (r1.now e5).now ex
        have r2' := r2.now ex
        have hl1b := Hb2.out l1 (List.mem_of_getElem? hl1)
        have HC1 := Lib.hid hc1'; clear hc1' c1
        have HC2 := Lib.hid hc2'; clear hc2' c2
        clear hx hy hc1 hc2 r1 r2 hl1
        go_wp2
        refine wp_region_held (S := Ext w5) (by kernel_rfl) ?_
        change wpAnyH _ _ _ _ _ _ _ _ wr.drew
        have S0 : Ext w5 wr.drew := Below.drew ex
        replace r1' : LR wr.drew y1 l1 wr.drew.heap.size := r1'.now (Below.drew (Below.refl _ _))
        replace r2' : LR wr.drew y2 l1 wr.drew.heap.size := r2'.now (Below.drew (Below.refl _ _))
        clear ex
        generalize wr.drew = W at *
        refine takeS 0 (some 52) (Value.slice (some ⟨pb, po, none⟩) N capx) rfl rfl (by kernel_rfl) (by kernel_rfl) (by kernel_rfl) (fun _ _ _ h => h) rfl S0 (fun w' hw' => by go_simp) ?_
        simp only [Act.put, List.setIfInBounds_toArray, List.set_cons_zero, List.set_cons_succ]
        refine takeS 1 (some 53) (.int .i64 (j : Int)) rfl rfl (by kernel_rfl) (by kernel_rfl) (by kernel_rfl) (fun _ _ _ h => h) rfl S0 (fun w' hw' => by go_simp) ?_
        simp only [Act.put, List.setIfInBounds_toArray, List.set_cons_zero, List.set_cons_succ]
        refine takeS 2 (some 54) (.pointer (some ⟨pb, po + j, none⟩)) rfl rfl (by kernel_rfl) (by kernel_rfl) (by kernel_rfl) (fun _ _ _ h => h) rfl S0 (fun w' hw' => by go_simp) ?_
        simp only [Act.put, List.setIfInBounds_toArray, List.set_cons_zero, List.set_cons_succ]
        refine takeS 3 (some 55) (y1) rfl rfl (by kernel_rfl) (by kernel_rfl) (by kernel_rfl) (fun _ _ _ h => h) rfl S0 (fun w' hw' => by have cc := HC1.out w' hw'; go_simp) ?_
        simp only [Act.put, List.setIfInBounds_toArray, List.set_cons_zero, List.set_cons_succ]
        refine takeS 4 (some 56) (Value.slice (some ⟨qb, qo, none⟩) N capy) rfl rfl (by kernel_rfl) (by kernel_rfl) (by kernel_rfl) (fun _ _ _ h => h) rfl S0 (fun w' hw' => by go_simp) ?_
        simp only [Act.put, List.setIfInBounds_toArray, List.set_cons_zero, List.set_cons_succ]
        refine takeS 5 (some 57) (.int .i64 (j : Int)) rfl rfl (by kernel_rfl) (by kernel_rfl) (by kernel_rfl) (fun _ _ _ h => h) rfl S0 (fun w' hw' => by go_simp) ?_
        simp only [Act.put, List.setIfInBounds_toArray, List.set_cons_zero, List.set_cons_succ]
        refine takeS 6 (some 58) (.pointer (some ⟨qb, qo + j, none⟩)) rfl rfl (by kernel_rfl) (by kernel_rfl) (by kernel_rfl) (fun _ _ _ h => h) rfl S0 (fun w' hw' => by go_simp) ?_
        simp only [Act.put, List.setIfInBounds_toArray, List.set_cons_zero, List.set_cons_succ]
        refine takeS 7 (some 59) (y2) rfl rfl (by kernel_rfl) (by kernel_rfl) (by kernel_rfl) (fun _ _ _ h => h) rfl S0 (fun w' hw' => by have cc := HC2.out w' hw'; go_simp) ?_
        simp only [Act.put, List.setIfInBounds_toArray, List.set_cons_zero, List.set_cons_succ]
        refine nextS 8 rfl (by kernel_rfl) rfl (callS (some 60) rfl 12 #[y1, y2] (by go_simp) (fun v w' => v = .bool true ∧ Ext W w') ((lists_any y1 y2 l1 W r1' r2' (by omega)).mono fun _ _ he => ⟨_, he.1, rfl, he.2⟩) ?_)
        rintro v3 W2 ⟨rfl, e6⟩
        simp only [Act.put, List.setIfInBounds_toArray, List.set_cons_zero, List.set_cons_succ]
        have S2 : Ext w5 W2 := S0.trans e6
        refine ⟨S2, ?_⟩
        refine takeS 9 (some 61) (.bool false) rfl rfl (by kernel_rfl) (by kernel_rfl) (by kernel_rfl) (fun _ _ _ h => h) rfl S2 (fun w' hw' => by go_simp) ?_
        simp only [Act.put, List.setIfInBounds_toArray, List.set_cons_zero, List.set_cons_succ]
        refine wpAnyH_done (by kernel_rfl) ?_ _
        go_wp2
        exact ⟨⟨j + 1, by omega, by go_num, S2⟩, by simp [intOf]; omega⟩
      · have i0 : ¬ ((j : Int) < (N : Int)) := by omega
        have dj : decide ((j : Int) < (N : Int)) = false := by simp; omega
        clear hlt
        go_wp2
        refine wp_region_held (S := Ext wr.drew) (by kernel_rfl) ?_
        change wpAnyH _ _ _ _ _ _ _ _ wr.drew
        have x0 : Ext w wr.drew := x5.trans (Below.drew ex)
        have k0 := hK.below x0 hK.lt
        have sD := s5.now (Below.drew ex)
        have lA := la5.now (Below.drew ex)
        have lB := lb5.now (Below.drew ex)
        clear x5 s5 la5 lb5 ex HX HY Hb2 e5
        generalize wr.drew = W0 at *
        refine takeH 0 (some 62) (.int .i64 size) rfl rfl (by kernel_rfl) (by kernel_rfl) (by kernel_rfl) (fun _ _ _ h => h) rfl (fun w' hw' => by go_simp) ?_
        simp only [Act.put, List.setIfInBounds_toArray, List.set_cons_zero, List.set_cons_succ]
        refine takeH 1 (some 63) (.int .i64 B) rfl rfl (by kernel_rfl) (by kernel_rfl) (by kernel_rfl) (fun _ _ _ h => h) rfl (fun w' hw' => by go_simp) ?_
        simp only [Act.put, List.setIfInBounds_toArray, List.set_cons_zero, List.set_cons_succ]
        refine takeH 3 (some 65) (.int .i64 size) rfl rfl (by kernel_rfl) (by kernel_rfl) (by kernel_rfl) (fun _ _ _ h => h) rfl (fun w' hw' => by go_simp) ?_
        simp only [Act.put, List.setIfInBounds_toArray, List.set_cons_zero, List.set_cons_succ]
        refine takeH 4 (some 66) (.int .i64 B) rfl rfl (by kernel_rfl) (by kernel_rfl) (by kernel_rfl) (fun _ _ _ h => h) rfl (fun w' hw' => by go_simp) ?_
        simp only [Act.put, List.setIfInBounds_toArray, List.set_cons_zero, List.set_cons_succ]
        refine nextH 2 rfl (by kernel_rfl) rfl (callH (some 64) rfl 13 #[.int .i64 size, .int .i64 B] (by go_simp) (fun v w' => v = .int .i64 (cntL size B)) (((cnt13 size B W0).mono fun _ _ he => by obtain ⟨rfl, rfl⟩ := he; exact ⟨_, rfl, Ext.refl _, rfl⟩)) ?_)
        rintro v W1 x2 rfl
        simp only [Act.put, List.setIfInBounds_toArray, List.set_cons_zero, List.set_cons_succ]
        replace k0 := k0.below x2 k0.lt
        replace sD := sD.now x2
        replace lA := lA.now x2
        replace lB := lB.now x2
        replace x0 := x0.trans x2
        clear x2
        refine nextH 5 rfl (by kernel_rfl) rfl (callH (some 67) rfl 14 #[.int .i64 size, .int .i64 B] (by go_simp) (fun v w' => v = .int .i64 (cntL size B)) (((cnt14 size B W1).mono fun _ _ he => by obtain ⟨rfl, rfl⟩ := he; exact ⟨_, rfl, Ext.refl _, rfl⟩)) ?_)
        rintro v W2 x2 rfl
        simp only [Act.put, List.setIfInBounds_toArray, List.set_cons_zero, List.set_cons_succ]
        replace k0 := k0.below x2 k0.lt
        replace sD := sD.now x2
        replace lA := lA.now x2
        replace lB := lB.now x2
        replace x0 := x0.trans x2
        clear x2
        refine takeH 6 (some 68) (.bool true) rfl rfl (by kernel_rfl) (by kernel_rfl) (by kernel_rfl) (fun _ _ _ h => h) rfl (fun w' hw' => by go_simp) ?_
        simp only [Act.put, List.setIfInBounds_toArray, List.set_cons_zero, List.set_cons_succ]
        refine takeH 7 (some 69) (.bool true) rfl rfl (by kernel_rfl) (by kernel_rfl) (by kernel_rfl) (fun _ _ _ h => h) rfl (fun w' hw' => by go_simp) ?_
        simp only [Act.put, List.setIfInBounds_toArray, List.set_cons_zero, List.set_cons_succ]
        refine takeH 8 (some 70) (Value.slice adv m.length capv) rfl rfl (by kernel_rfl) (by kernel_rfl) (by kernel_rfl) (fun _ _ _ h => h) rfl (fun w' hw' => by go_simp) ?_
        simp only [Act.put, List.setIfInBounds_toArray, List.set_cons_zero, List.set_cons_succ]
        refine takeH 9 (some 71) (.int .i64 B) rfl rfl (by kernel_rfl) (by kernel_rfl) (by kernel_rfl) (fun _ _ _ h => h) rfl (fun w' hw' => by go_simp) ?_
        simp only [Act.put, List.setIfInBounds_toArray, List.set_cons_zero, List.set_cons_succ]
        refine takeH 10 (some 72) (.int .i64 k) rfl rfl (by kernel_rfl) (by kernel_rfl) (by kernel_rfl) (fun _ _ _ h => h) rfl (fun w' hw' => by go_simp) ?_
        simp only [Act.put, List.setIfInBounds_toArray, List.set_cons_zero, List.set_cons_succ]
        refine takeH 13 (some 75) (Value.slice adv m.length capv) rfl rfl (by kernel_rfl) (by kernel_rfl) (by kernel_rfl) (fun _ _ _ h => h) rfl (fun w' hw' => by go_simp) ?_
        simp only [Act.put, List.setIfInBounds_toArray, List.set_cons_zero, List.set_cons_succ]
        refine takeH 14 (some 76) (.int .i64 B) rfl rfl (by kernel_rfl) (by kernel_rfl) (by kernel_rfl) (fun _ _ _ h => h) rfl (fun w' hw' => by go_simp) ?_
        simp only [Act.put, List.setIfInBounds_toArray, List.set_cons_zero, List.set_cons_succ]
        refine takeH 15 (some 77) (.int .i64 k) rfl rfl (by kernel_rfl) (by kernel_rfl) (by kernel_rfl) (fun _ _ _ h => h) rfl (fun w' hw' => by go_simp) ?_
        simp only [Act.put, List.setIfInBounds_toArray, List.set_cons_zero, List.set_cons_succ]
        refine nextH 11 rfl (by kernel_rfl) rfl (callH (some 73) rfl 15 #[Value.slice adv m.length capv, .int .i64 B, .int .i64 k] (by go_simp) (fun v w' => OwnB w' W2.heap.size v (blockT m B k)) (block_any _ m B k W2 sD (by omega)) ?_)
        rintro v1 W3 x2 o1
        simp only [Act.put, List.setIfInBounds_toArray, List.set_cons_zero, List.set_cons_succ]
        replace k0 := k0.below x2 k0.lt
        replace sD := sD.now x2
        replace lA := lA.now x2
        replace lB := lB.now x2
        replace x0 := x0.trans x2
        clear x2
        have s1 := o1.srcs W3.heap.size (Or.inr (Nat.le_refl _))
        clear o1
        refine takeH 12 (some 74) (.string (strOfNums (blockT m B k))) rfl rfl (by kernel_rfl) (by kernel_rfl) (by kernel_rfl) (fun _ _ _ h => h) rfl (fun w' hw' => by have cc := conv22 (s1.ext hw'); go_simp) ?_
        simp only [Act.put, List.setIfInBounds_toArray, List.set_cons_zero, List.set_cons_succ]
        clear s1
        refine nextH 16 rfl (by kernel_rfl) rfl (callH (some 78) rfl 16 #[Value.slice adv m.length capv, .int .i64 B, .int .i64 k] (by go_simp) (fun v w' => Src w' v (blockT m B k) w'.heap.size) ((rblock_any _ m B k W3 _ sD (by omega)).mono fun _ _ he => by obtain ⟨rfl, v', rfl, hv⟩ := he; exact ⟨v', rfl, Ext.refl _, hv _ sD⟩) ?_)
        rintro v2 W4 x2 s2
        simp only [Act.put, List.setIfInBounds_toArray, List.set_cons_zero, List.set_cons_succ]
        replace k0 := k0.below x2 k0.lt
        replace sD := sD.now x2
        replace lA := lA.now x2
        replace lB := lB.now x2
        replace x0 := x0.trans x2
        clear x2
        refine takeH 17 (some 79) (.string (strOfNums (blockT m B k))) rfl rfl (by kernel_rfl) (by kernel_rfl) (by kernel_rfl) (fun _ _ _ h => h) rfl (fun w' hw' => by have cc := conv22 (s2.ext hw'); go_simp) ?_
        simp only [Act.put, List.setIfInBounds_toArray, List.set_cons_zero, List.set_cons_succ]
        clear s2
        refine takeH 18 (some 80) (.bool true) rfl rfl (by kernel_rfl) (by kernel_rfl) (by kernel_rfl) (fun _ _ _ h => h) rfl (fun w' hw' => by go_simp) ?_
        simp only [Act.put, List.setIfInBounds_toArray, List.set_cons_zero, List.set_cons_succ]
        refine takeH 19 (some 81) (.bool true) rfl rfl (by kernel_rfl) (by kernel_rfl) (by kernel_rfl) (fun _ _ _ h => h) rfl (fun w' hw' => by go_simp) ?_
        simp only [Act.put, List.setIfInBounds_toArray, List.set_cons_zero, List.set_cons_succ]
        refine takeH 20 (some 82) (.bool true) rfl rfl (by kernel_rfl) (by kernel_rfl) (by kernel_rfl) (fun _ _ _ h => h) rfl (fun w' hw' => by go_simp) ?_
        simp only [Act.put, List.setIfInBounds_toArray, List.set_cons_zero, List.set_cons_succ]
        refine takeH 21 (some 83) (Value.slice ada (leavesL m B).length capa) rfl rfl (by kernel_rfl) (by kernel_rfl) (by kernel_rfl) (fun _ _ _ h => h) rfl (fun w' hw' => by go_simp) ?_
        simp only [Act.put, List.setIfInBounds_toArray, List.set_cons_zero, List.set_cons_succ]
        refine takeH 22 (some 84) (Value.slice adb (leavesL m B).length capb) rfl rfl (by kernel_rfl) (by kernel_rfl) (by kernel_rfl) (fun _ _ _ h => h) rfl (fun w' hw' => by go_simp) ?_
        simp only [Act.put, List.setIfInBounds_toArray, List.set_cons_zero, List.set_cons_succ]
        refine nextH 23 rfl (by kernel_rfl) rfl (callH (some 85) rfl 12 #[Value.slice ada (leavesL m B).length capa, Value.slice adb (leavesL m B).length capb] (by go_simp) (fun v w' => v = .bool true) ((lists_any _ _ (leavesL m B) W4 lA lB (by omega)).mono fun _ _ he => by obtain ⟨rfl, he⟩ := he; exact ⟨_, rfl, he, rfl⟩) ?_)
        rintro v W5 x2 rfl
        simp only [Act.put, List.setIfInBounds_toArray, List.set_cons_zero, List.set_cons_succ]
        replace k0 := k0.below x2 k0.lt
        replace sD := sD.now x2
        replace lA := lA.now x2
        replace lB := lB.now x2
        replace x0 := x0.trans x2
        clear x2
        refine takeH 24 (some 86) (.bool true) rfl rfl (by kernel_rfl) (by kernel_rfl) (by kernel_rfl) (fun _ _ _ h => h) rfl (fun w' hw' => by go_simp) ?_
        simp only [Act.put, List.setIfInBounds_toArray, List.set_cons_zero, List.set_cons_succ]
        refine takeH 25 (some 87) (.bool true) rfl rfl (by kernel_rfl) (by kernel_rfl) (by kernel_rfl) (fun _ _ _ h => h) rfl (fun w' hw' => by go_simp) ?_
        simp only [Act.put, List.setIfInBounds_toArray, List.set_cons_zero, List.set_cons_succ]
        refine takeH 26 (some 88) (Value.slice ada (leavesL m B).length capa) rfl rfl (by kernel_rfl) (by kernel_rfl) (by kernel_rfl) (fun _ _ _ h => h) rfl (fun w' hw' => by go_simp) ?_
        simp only [Act.put, List.setIfInBounds_toArray, List.set_cons_zero, List.set_cons_succ]
        refine takeH 29 (some 91) (Value.slice adb (leavesL m B).length capb) rfl rfl (by kernel_rfl) (by kernel_rfl) (by kernel_rfl) (fun _ _ _ h => h) rfl (fun w' hw' => by go_simp) ?_
        simp only [Act.put, List.setIfInBounds_toArray, List.set_cons_zero, List.set_cons_succ]
        refine nextH 27 rfl (by kernel_rfl) rfl (callH (some 89) rfl 17 #[Value.slice ada (leavesL m B).length capa] (by go_simp) (fun v w' => OwnB w' W5.heap.size v (rootL (leavesL m B))) (root_any _ (leavesL m B) W5 k0 lA (by omega) (fun x hx => by rw [Hbd.out x hx]; omega)) ?_)
        rintro v3 W6 x2 o3
        simp only [Act.put, List.setIfInBounds_toArray, List.set_cons_zero, List.set_cons_succ]
        replace k0 := k0.below x2 k0.lt
        replace sD := sD.now x2
        replace lA := lA.now x2
        replace lB := lB.now x2
        replace x0 := x0.trans x2
        clear x2
        have s3 := o3.srcs W6.heap.size (Or.inr (Nat.le_refl _))
        clear o3
        refine takeH 28 (some 90) (.string (strOfNums (rootL (leavesL m B)))) rfl rfl (by kernel_rfl) (by kernel_rfl) (by kernel_rfl) (fun _ _ _ h => h) rfl (fun w' hw' => by have cc := conv22 (s3.ext hw'); go_simp) ?_
        simp only [Act.put, List.setIfInBounds_toArray, List.set_cons_zero, List.set_cons_succ]
        clear s3
        refine nextH 30 rfl (by kernel_rfl) rfl (callH (some 92) rfl 18 #[Value.slice adb (leavesL m B).length capb] (by go_simp) (fun v w' => Src w' v (rootL (leavesL m B)) w'.heap.size) (rroot_any _ (leavesL m B) W6 lB (by omega) (fun x hx => by rw [Hbd.out x hx]; omega)) ?_)
        rintro v4 W7 x2 s4
        simp only [Act.put, List.setIfInBounds_toArray, List.set_cons_zero, List.set_cons_succ]
        replace k0 := k0.below x2 k0.lt
        replace sD := sD.now x2
        replace lA := lA.now x2
        replace lB := lB.now x2
        replace x0 := x0.trans x2
        clear x2
        refine takeH 31 (some 93) (.string (strOfNums (rootL (leavesL m B)))) rfl rfl (by kernel_rfl) (by kernel_rfl) (by kernel_rfl) (fun _ _ _ h => h) rfl (fun w' hw' => by have cc := conv22 (s4.ext hw'); go_simp) ?_
        simp only [Act.put, List.setIfInBounds_toArray, List.set_cons_zero, List.set_cons_succ]
        clear s4
        refine takeH 32 (some 94) (.bool true) rfl rfl (by kernel_rfl) (by kernel_rfl) (by kernel_rfl) (fun _ _ _ h => h) rfl (fun w' hw' => by go_simp) ?_
        simp only [Act.put, List.setIfInBounds_toArray, List.set_cons_zero, List.set_cons_succ]
        refine takeH 33 (some 95) (.bool true) rfl rfl (by kernel_rfl) (by kernel_rfl) (by kernel_rfl) (fun _ _ _ h => h) rfl (fun w' hw' => by go_simp) ?_
        simp only [Act.put, List.setIfInBounds_toArray, List.set_cons_zero, List.set_cons_succ]
        refine takeH 34 (some 96) (.bool true) rfl rfl (by kernel_rfl) (by kernel_rfl) (by kernel_rfl) (fun _ _ _ h => h) rfl (fun w' hw' => by go_simp) ?_
        simp only [Act.put, List.setIfInBounds_toArray, List.set_cons_zero, List.set_cons_succ]
        refine takeH 35 (some 97) (Value.slice adv m.length capv) rfl rfl (by kernel_rfl) (by kernel_rfl) (by kernel_rfl) (fun _ _ _ h => h) rfl (fun w' hw' => by go_simp) ?_
        simp only [Act.put, List.setIfInBounds_toArray, List.set_cons_zero, List.set_cons_succ]
        refine takeH 38 (some 100) (Value.slice adv m.length capv) rfl rfl (by kernel_rfl) (by kernel_rfl) (by kernel_rfl) (fun _ _ _ h => h) rfl (fun w' hw' => by go_simp) ?_
        simp only [Act.put, List.setIfInBounds_toArray, List.set_cons_zero, List.set_cons_succ]
        refine nextH 36 rfl (by kernel_rfl) rfl (callH (some 98) rfl 19 #[Value.slice adv m.length capv] (by go_simp) (fun v w' => OwnB w' W7.heap.size v (leafL m)) (leaf_any _ m W7 k0 sD (by omega)) ?_)
        rintro v5 W8 x2 o5
        simp only [Act.put, List.setIfInBounds_toArray, List.set_cons_zero, List.set_cons_succ]
        replace k0 := k0.below x2 k0.lt
        replace sD := sD.now x2
        replace lA := lA.now x2
        replace lB := lB.now x2
        replace x0 := x0.trans x2
        clear x2
        have s5 := o5.srcs W8.heap.size (Or.inr (Nat.le_refl _))
        clear o5
        refine takeH 37 (some 99) (.string (strOfNums (leafL m))) rfl rfl (by kernel_rfl) (by kernel_rfl) (by kernel_rfl) (fun _ _ _ h => h) rfl (fun w' hw' => by have cc := conv22 (s5.ext hw'); go_simp) ?_
        simp only [Act.put, List.setIfInBounds_toArray, List.set_cons_zero, List.set_cons_succ]
        clear s5
        refine nextH 39 rfl (by kernel_rfl) rfl (callH (some 101) rfl 20 #[Value.slice adv m.length capv] (by go_simp) (fun v w' => OwnB w' W8.heap.size v (leafL m)) (rleaf_any _ m W8 sD (by omega)) ?_)
        rintro v6 W9 x2 o6
        simp only [Act.put, List.setIfInBounds_toArray, List.set_cons_zero, List.set_cons_succ]
        replace k0 := k0.below x2 k0.lt
        replace sD := sD.now x2
        replace lA := lA.now x2
        replace lB := lB.now x2
        replace x0 := x0.trans x2
        clear x2
        have s6 := o6.srcs W9.heap.size (Or.inr (Nat.le_refl _))
        clear o6
        refine takeH 40 (some 102) (.string (strOfNums (leafL m))) rfl rfl (by kernel_rfl) (by kernel_rfl) (by kernel_rfl) (fun _ _ _ h => h) rfl (fun w' hw' => by have cc := conv22 (s6.ext hw'); go_simp) ?_
        simp only [Act.put, List.setIfInBounds_toArray, List.set_cons_zero, List.set_cons_succ]
        clear s6
        refine takeH 41 (some 103) (.bool true) rfl rfl (by kernel_rfl) (by kernel_rfl) (by kernel_rfl) (fun _ _ _ h => h) rfl (fun w' hw' => by go_simp) ?_
        simp only [Act.put, List.setIfInBounds_toArray, List.set_cons_zero, List.set_cons_succ]
        refine takeH 42 (some 104) (.bool true) rfl rfl (by kernel_rfl) (by kernel_rfl) (by kernel_rfl) (fun _ _ _ h => h) rfl (fun w' hw' => by go_simp) ?_
        simp only [Act.put, List.setIfInBounds_toArray, List.set_cons_zero, List.set_cons_succ]
        refine takeH 43 (some 105) (.bool true) rfl rfl (by kernel_rfl) (by kernel_rfl) (by kernel_rfl) (fun _ _ _ h => h) rfl (fun w' hw' => by go_simp) ?_
        simp only [Act.put, List.setIfInBounds_toArray, List.set_cons_zero, List.set_cons_succ]
        refine nextH 44 rfl (by kernel_rfl) rfl (callH (some 106) rfl 7 #[] (by go_simp) (fun v w' => v = .bool true) ((awake_any W9 k0).mono fun _ _ he => by obtain ⟨rfl, he⟩ := he; exact ⟨_, rfl, he, rfl⟩) ?_)
        rintro v W10 x2 rfl
        simp only [Act.put, List.setIfInBounds_toArray, List.set_cons_zero, List.set_cons_succ]
        replace k0 := k0.below x2 k0.lt
        replace sD := sD.now x2
        replace lA := lA.now x2
        replace lB := lB.now x2
        replace x0 := x0.trans x2
        clear x2
        refine takeH 45 (some 107) (.bool true) rfl rfl (by kernel_rfl) (by kernel_rfl) (by kernel_rfl) (fun _ _ _ h => h) rfl (fun w' hw' => by go_simp) ?_
        simp only [Act.put, List.setIfInBounds_toArray, List.set_cons_zero, List.set_cons_succ]
        refine takeH 46 (some 8) (.bool true) rfl rfl (by kernel_rfl) (by kernel_rfl) (by kernel_rfl) (fun _ _ _ h => h) rfl (fun w' hw' => by go_simp) ?_
        simp only [Act.put, List.setIfInBounds_toArray, List.set_cons_zero, List.set_cons_succ]
        refine wpAnyH_done (by kernel_rfl) ?_ _
        go_wp2
        go_ret
        exact ⟨rfl, by rw [HW1.out]; exact x0⟩

set_option maxHeartbeats 8000000 in
set_option maxRecDepth 100000 in
theorem asks_pos (adv : Option Addr) (capv : Nat) (m : List Int) (B k size : Int) (w : World) (hK : KAt w) (hs : Src w (.slice adv m.length capv) m w.heap.size) (h1 : m.length ≤ 1000) (h2 : 1 ≤ B) :
    Calls Tryd.prog 3 #[.slice adv m.length capv, .int .i64 B, .int .i64 k, .int .i64 size] w fun e w' => e = .returned (.bool true) ∧ Ext w w' := by
    have d1 : decide ((1000 : Int) < (m.length : Int)) = false := by simp; omega
    have d2 : decide (1 ≤ B) = true := by simpa using h2
    have b0 : ¬ B = 0 := by omega
    have q0 : (m.length : Int).tdiv B = (m.length : Int) / B := Int.tdiv_eq_ediv_of_nonneg (by omega)
    have q1 : 0 ≤ (m.length : Int) / B := Int.ediv_nonneg (by omega) (by omega)
    have q2 : (m.length : Int) / B ≤ m.length := Int.ediv_le_self _ (by omega)
    have w3 : IntKind.i64.wrap ((m.length : Int) / B) = (m.length : Int) / B := IntWalk.i64_in _ (by omega)
    have x1 : Ext w (w.alloc (.cells #[.int .i64 0] 3)) := Ext.alloc w _
    have c1 := cell_one w (.int .i64 0) 3
    have s1 := hs.now x1
    have k1 := hK.below x1 hK.lt
    go_enter Tryd.func3, Tryd.ntmps3
    go_wp2_with fail
    refine (sum2_small m.length w.heap.size _ (by omega) c1).mono ?_
    rintro e w' ⟨rfl, rfl⟩
    clear c1 hs
    generalize hg : w.heap.size = G
    generalize w.alloc (.cells #[.int .i64 0] 3) = w1 at *
    have HG := Lib.hid hg; clear hg
    by_cases h3 : 100 < (m.length : Int) / B
    · have d3 : decide (100 < (m.length : Int) / B) = true := by simpa using h3
      go_wp2_with fail
      refine (awake_any w1 k1).mono ?_
      rintro e w2 ⟨rfl, b2⟩
      go_wp2
      go_ret
      exact ⟨rfl, x1.trans b2⟩
    have d3 : decide (100 < (m.length : Int) / B) = false := by simpa using h3
    go_wp2_with fail
    refine (leaves_any _ m B w1 k1 s1 (by omega)).mono ?_
    rintro e w2 ⟨va, rfl, e2, la⟩
    have x2 := x1.trans e2
    have s2 := s1.now e2
    have la2 := la _ (Or.inr (Nat.le_refl _))
    clear la s1 e2 x1 k1
    go_wp2_with fail
    refine (rleaves_any _ m B w2 s2 (by omega)).mono ?_
    rintro e w3 ⟨vb, rfl, e3, lb⟩
    have x3 := x2.trans e3
    have s3 := s2.now e3
    have la3 := la2.now e3
    have lb3 := lb _ (Or.inr (Nat.le_refl _))
    have k3 := hK.below x3 hK.lt
    clear lb la2 s2 e3 x2
    obtain ⟨ada, capa, eva⟩ := la3.len
    subst eva
    obtain ⟨adb, capb, evb⟩ := lb3.len
    subst evb
    have hfew := leaves_few m B (by omega)
    have hbd := leaves_bd m B
    have Hbd := Lib.hid hbd; clear hbd
    go_wp2_with fail
    refine (levels_any _ (leavesL m B) w3 k3 la3 (by omega) (fun x hx => by rw [Hbd.out x hx]; omega)).mono ?_
    rintro e w4 ⟨vx, rfl, e4, lx4⟩
    have x4 := x3.trans e4
    have s4 := s3.now e4
    have la4 := la3.now e4
    have lb4 := lb3.now e4
    clear la3 lb3 s3 x3 k3
    go_wp2_with fail
    refine (rlevels_any _ (leavesL m B) w4 lb4 (by omega) (fun x hx => by rw [Hbd.out x hx]; omega)).mono ?_
    rintro e w5 ⟨vy, rfl, e5, ly5⟩
    have x5 := x4.trans e5
    have s5 := s4.now e5
    have la5 := la4.now e5
    have lb5 := lb4.now e5
    clear la4 lb4 s4 x4 e4
    obtain ⟨hb1, hb2⟩ := lvT_bd (leavesL m B) hfew
    change LLR w4 vx (lvT (leavesL m B)) w4.heap.size at lx4
    change LLR w5 vy (lvT (leavesL m B)) w5.heap.size at ly5
    obtain ⟨adx, capx, evx⟩ := llr_len lx4
    subst evx
    obtain ⟨ady, capy, evy⟩ := llr_len ly5
    subst evy
    obtain ⟨T, hT⟩ : ∃ T, T = lvT (leavesL m B) := ⟨_, rfl⟩
    rw [← hT] at lx4 ly5 hb1 hb2 ⊢
    obtain ⟨N, hN⟩ : ∃ N, N = T.length := ⟨_, rfl⟩
    rw [← hN] at lx4 ly5 hb1 ⊢
    clear hT
    have HX := Lib.hid lx4; clear lx4
    have HY := Lib.hid ly5; clear ly5
    have HN := Lib.hid hN; clear hN
    have Hb2 := Lib.hid hb2; clear hb2
    have tN : ((N : Int) == (N : Int)) = true := by simp
    go_wp2
    go_loopw [13] (fun i wr => InvC w5 N i wr) (fun i _ => N - (intOf i).toNat)
    case atStart => exact ⟨0, by omega, rfl, Ext.refl w5⟩
    case round =>
      obtain ⟨j, hj, rfl, ex⟩ := hrel
      by_cases hlt : j < N
      · have i0 : (j : Int) < (N : Int) := by omega
        have i1 : (0 : Int) ≤ (j : Int) := by omega
        obtain ⟨l1, hl1⟩ : ∃ l, T[j]? = some l := ⟨_, List.getElem?_eq_getElem (by rw [← HN.out]; exact hlt)⟩
        have hx := HX.out
        have hy := HY.out
        rw [HN.out] at hx hy
        obtain ⟨cap1, pb, po, ev1, _, hc1⟩ := llr_get hx (by rw [← HN.out]; omega)
        obtain ⟨cap2, qb, qo, ev2, _, hc2⟩ := llr_get hy (by rw [← HN.out]; omega)
        injection ev1 with a1 _ a2
        injection ev2 with a3 _ a4
        subst a1 a2 a3 a4
        obtain ⟨y1, c1, r1⟩ := hc1 j l1 hl1
        obtain ⟨y2, c2, r2⟩ := hc2 j l1 hl1
        have hc1' : ∀ w', Ext w5 w' → w'.cell? ⟨pb, po + j, none⟩ = some y1 := fun w' h => by rw [Below.cell (p := ⟨pb, po + j, none⟩) (e5.trans h) (World.block_lt_of_cell? w4 _ c1)]; exact c1
        have hc2' : ∀ w', Ext w5 w' → w'.cell? ⟨qb, qo + j, none⟩ = some y2 := fun w' h => by rw [Below.cell (p := ⟨qb, qo + j, none⟩) h (World.block_lt_of_cell? w5 _ c2)]; exact c2
        have r1' := (r1.now e5).now ex
        have r2' := r2.now ex
        have hl1b := Hb2.out l1 (List.mem_of_getElem? hl1)
        have HC1 := Lib.hid hc1'; clear hc1' c1
        have HC2 := Lib.hid hc2'; clear hc2' c2
        clear hx hy hc1 hc2 r1 r2 hl1
        go_wp2
        refine wp_region_held (S := Ext w5) (by kernel_rfl) ?_
        change wpAnyH _ _ _ _ _ _ _ _ wr.drew
        have S0 : Ext w5 wr.drew := Below.drew ex
        replace r1' : LR wr.drew y1 l1 wr.drew.heap.size := r1'.now (Below.drew (Below.refl _ _))
        replace r2' : LR wr.drew y2 l1 wr.drew.heap.size := r2'.now (Below.drew (Below.refl _ _))
        clear ex
        generalize wr.drew = W at *
        refine takeS 0 (some 52) (Value.slice (some ⟨pb, po, none⟩) N capx) rfl rfl (by kernel_rfl) (by kernel_rfl) (by kernel_rfl) (fun _ _ _ h => h) rfl S0 (fun w' hw' => by go_simp) ?_
        simp only [Act.put, List.setIfInBounds_toArray, List.set_cons_zero, List.set_cons_succ]
        refine takeS 1 (some 53) (.int .i64 (j : Int)) rfl rfl (by kernel_rfl) (by kernel_rfl) (by kernel_rfl) (fun _ _ _ h => h) rfl S0 (fun w' hw' => by go_simp) ?_
        simp only [Act.put, List.setIfInBounds_toArray, List.set_cons_zero, List.set_cons_succ]
        refine takeS 2 (some 54) (.pointer (some ⟨pb, po + j, none⟩)) rfl rfl (by kernel_rfl) (by kernel_rfl) (by kernel_rfl) (fun _ _ _ h => h) rfl S0 (fun w' hw' => by go_simp) ?_
        simp only [Act.put, List.setIfInBounds_toArray, List.set_cons_zero, List.set_cons_succ]
        refine takeS 3 (some 55) (y1) rfl rfl (by kernel_rfl) (by kernel_rfl) (by kernel_rfl) (fun _ _ _ h => h) rfl S0 (fun w' hw' => by have cc := HC1.out w' hw'; go_simp) ?_
        simp only [Act.put, List.setIfInBounds_toArray, List.set_cons_zero, List.set_cons_succ]
        refine takeS 4 (some 56) (Value.slice (some ⟨qb, qo, none⟩) N capy) rfl rfl (by kernel_rfl) (by kernel_rfl) (by kernel_rfl) (fun _ _ _ h => h) rfl S0 (fun w' hw' => by go_simp) ?_
        simp only [Act.put, List.setIfInBounds_toArray, List.set_cons_zero, List.set_cons_succ]
        refine takeS 5 (some 57) (.int .i64 (j : Int)) rfl rfl (by kernel_rfl) (by kernel_rfl) (by kernel_rfl) (fun _ _ _ h => h) rfl S0 (fun w' hw' => by go_simp) ?_
        simp only [Act.put, List.setIfInBounds_toArray, List.set_cons_zero, List.set_cons_succ]
        refine takeS 6 (some 58) (.pointer (some ⟨qb, qo + j, none⟩)) rfl rfl (by kernel_rfl) (by kernel_rfl) (by kernel_rfl) (fun _ _ _ h => h) rfl S0 (fun w' hw' => by go_simp) ?_
        simp only [Act.put, List.setIfInBounds_toArray, List.set_cons_zero, List.set_cons_succ]
        refine takeS 7 (some 59) (y2) rfl rfl (by kernel_rfl) (by kernel_rfl) (by kernel_rfl) (fun _ _ _ h => h) rfl S0 (fun w' hw' => by have cc := HC2.out w' hw'; go_simp) ?_
        simp only [Act.put, List.setIfInBounds_toArray, List.set_cons_zero, List.set_cons_succ]
        refine nextS 8 rfl (by kernel_rfl) rfl (callS (some 60) rfl 12 #[y1, y2] (by go_simp) (fun v w' => v = .bool true ∧ Ext W w') ((lists_any y1 y2 l1 W r1' r2' (by omega)).mono fun _ _ he => ⟨_, he.1, rfl, he.2⟩) ?_)
        rintro v3 W2 ⟨rfl, e6⟩
        simp only [Act.put, List.setIfInBounds_toArray, List.set_cons_zero, List.set_cons_succ]
        have S2 : Ext w5 W2 := S0.trans e6
        refine ⟨S2, ?_⟩
        refine takeS 9 (some 61) (.bool false) rfl rfl (by kernel_rfl) (by kernel_rfl) (by kernel_rfl) (fun _ _ _ h => h) rfl S2 (fun w' hw' => by go_simp) ?_
        simp only [Act.put, List.setIfInBounds_toArray, List.set_cons_zero, List.set_cons_succ]
        refine wpAnyH_done (by kernel_rfl) ?_ _
        go_wp2
        exact ⟨⟨j + 1, by omega, by go_num, S2⟩, by simp [intOf]; omega⟩
      · have i0 : ¬ ((j : Int) < (N : Int)) := by omega
        have dj : decide ((j : Int) < (N : Int)) = false := by simp; omega
        clear hlt
        go_wp2
        refine wp_region_held (S := Ext wr.drew) (by kernel_rfl) ?_
        change wpAnyH _ _ _ _ _ _ _ _ wr.drew
        have x0 : Ext w wr.drew := x5.trans (Below.drew ex)
        have k0 := hK.below x0 hK.lt
        have sD := s5.now (Below.drew ex)
        have lA := la5.now (Below.drew ex)
        have lB := lb5.now (Below.drew ex)
        clear x5 s5 la5 lb5 ex HX HY Hb2 e5
        generalize wr.drew = W0 at *
        refine takeH 0 (some 62) (.int .i64 size) rfl rfl (by kernel_rfl) (by kernel_rfl) (by kernel_rfl) (fun _ _ _ h => h) rfl (fun w' hw' => by go_simp) ?_
        simp only [Act.put, List.setIfInBounds_toArray, List.set_cons_zero, List.set_cons_succ]
        refine takeH 1 (some 63) (.int .i64 B) rfl rfl (by kernel_rfl) (by kernel_rfl) (by kernel_rfl) (fun _ _ _ h => h) rfl (fun w' hw' => by go_simp) ?_
        simp only [Act.put, List.setIfInBounds_toArray, List.set_cons_zero, List.set_cons_succ]
        refine takeH 3 (some 65) (.int .i64 size) rfl rfl (by kernel_rfl) (by kernel_rfl) (by kernel_rfl) (fun _ _ _ h => h) rfl (fun w' hw' => by go_simp) ?_
        simp only [Act.put, List.setIfInBounds_toArray, List.set_cons_zero, List.set_cons_succ]
        refine takeH 4 (some 66) (.int .i64 B) rfl rfl (by kernel_rfl) (by kernel_rfl) (by kernel_rfl) (fun _ _ _ h => h) rfl (fun w' hw' => by go_simp) ?_
        simp only [Act.put, List.setIfInBounds_toArray, List.set_cons_zero, List.set_cons_succ]
        refine nextH 2 rfl (by kernel_rfl) rfl (callH (some 64) rfl 13 #[.int .i64 size, .int .i64 B] (by go_simp) (fun v w' => v = .int .i64 (cntL size B)) (((cnt13 size B W0).mono fun _ _ he => by obtain ⟨rfl, rfl⟩ := he; exact ⟨_, rfl, Ext.refl _, rfl⟩)) ?_)
        rintro v W1 x2 rfl
        simp only [Act.put, List.setIfInBounds_toArray, List.set_cons_zero, List.set_cons_succ]
        replace k0 := k0.below x2 k0.lt
        replace sD := sD.now x2
        replace lA := lA.now x2
        replace lB := lB.now x2
        replace x0 := x0.trans x2
        clear x2
        refine nextH 5 rfl (by kernel_rfl) rfl (callH (some 67) rfl 14 #[.int .i64 size, .int .i64 B] (by go_simp) (fun v w' => v = .int .i64 (cntL size B)) (((cnt14 size B W1).mono fun _ _ he => by obtain ⟨rfl, rfl⟩ := he; exact ⟨_, rfl, Ext.refl _, rfl⟩)) ?_)
        rintro v W2 x2 rfl
        simp only [Act.put, List.setIfInBounds_toArray, List.set_cons_zero, List.set_cons_succ]
        replace k0 := k0.below x2 k0.lt
        replace sD := sD.now x2
        replace lA := lA.now x2
        replace lB := lB.now x2
        replace x0 := x0.trans x2
        clear x2
        refine takeH 6 (some 68) (.bool true) rfl rfl (by kernel_rfl) (by kernel_rfl) (by kernel_rfl) (fun _ _ _ h => h) rfl (fun w' hw' => by go_simp) ?_
        simp only [Act.put, List.setIfInBounds_toArray, List.set_cons_zero, List.set_cons_succ]
        refine takeH 7 (some 69) (.bool true) rfl rfl (by kernel_rfl) (by kernel_rfl) (by kernel_rfl) (fun _ _ _ h => h) rfl (fun w' hw' => by go_simp) ?_
        simp only [Act.put, List.setIfInBounds_toArray, List.set_cons_zero, List.set_cons_succ]
        refine takeH 8 (some 70) (Value.slice adv m.length capv) rfl rfl (by kernel_rfl) (by kernel_rfl) (by kernel_rfl) (fun _ _ _ h => h) rfl (fun w' hw' => by go_simp) ?_
        simp only [Act.put, List.setIfInBounds_toArray, List.set_cons_zero, List.set_cons_succ]
        refine takeH 9 (some 71) (.int .i64 B) rfl rfl (by kernel_rfl) (by kernel_rfl) (by kernel_rfl) (fun _ _ _ h => h) rfl (fun w' hw' => by go_simp) ?_
        simp only [Act.put, List.setIfInBounds_toArray, List.set_cons_zero, List.set_cons_succ]
        refine takeH 10 (some 72) (.int .i64 k) rfl rfl (by kernel_rfl) (by kernel_rfl) (by kernel_rfl) (fun _ _ _ h => h) rfl (fun w' hw' => by go_simp) ?_
        simp only [Act.put, List.setIfInBounds_toArray, List.set_cons_zero, List.set_cons_succ]
        refine takeH 13 (some 75) (Value.slice adv m.length capv) rfl rfl (by kernel_rfl) (by kernel_rfl) (by kernel_rfl) (fun _ _ _ h => h) rfl (fun w' hw' => by go_simp) ?_
        simp only [Act.put, List.setIfInBounds_toArray, List.set_cons_zero, List.set_cons_succ]
        refine takeH 14 (some 76) (.int .i64 B) rfl rfl (by kernel_rfl) (by kernel_rfl) (by kernel_rfl) (fun _ _ _ h => h) rfl (fun w' hw' => by go_simp) ?_
        simp only [Act.put, List.setIfInBounds_toArray, List.set_cons_zero, List.set_cons_succ]
        refine takeH 15 (some 77) (.int .i64 k) rfl rfl (by kernel_rfl) (by kernel_rfl) (by kernel_rfl) (fun _ _ _ h => h) rfl (fun w' hw' => by go_simp) ?_
        simp only [Act.put, List.setIfInBounds_toArray, List.set_cons_zero, List.set_cons_succ]
        refine nextH 11 rfl (by kernel_rfl) rfl (callH (some 73) rfl 15 #[Value.slice adv m.length capv, .int .i64 B, .int .i64 k] (by go_simp) (fun v w' => OwnB w' W2.heap.size v (blockT m B k)) (block_any _ m B k W2 sD (by omega)) ?_)
        rintro v1 W3 x2 o1
        simp only [Act.put, List.setIfInBounds_toArray, List.set_cons_zero, List.set_cons_succ]
        replace k0 := k0.below x2 k0.lt
        replace sD := sD.now x2
        replace lA := lA.now x2
        replace lB := lB.now x2
        replace x0 := x0.trans x2
        clear x2
        have s1 := o1.srcs W3.heap.size (Or.inr (Nat.le_refl _))
        clear o1
        refine takeH 12 (some 74) (.string (strOfNums (blockT m B k))) rfl rfl (by kernel_rfl) (by kernel_rfl) (by kernel_rfl) (fun _ _ _ h => h) rfl (fun w' hw' => by have cc := conv22 (s1.ext hw'); go_simp) ?_
        simp only [Act.put, List.setIfInBounds_toArray, List.set_cons_zero, List.set_cons_succ]
        clear s1
        refine nextH 16 rfl (by kernel_rfl) rfl (callH (some 78) rfl 16 #[Value.slice adv m.length capv, .int .i64 B, .int .i64 k] (by go_simp) (fun v w' => Src w' v (blockT m B k) w'.heap.size) ((rblock_any _ m B k W3 _ sD (by omega)).mono fun _ _ he => by obtain ⟨rfl, v', rfl, hv⟩ := he; exact ⟨v', rfl, Ext.refl _, hv _ sD⟩) ?_)
        rintro v2 W4 x2 s2
        simp only [Act.put, List.setIfInBounds_toArray, List.set_cons_zero, List.set_cons_succ]
        replace k0 := k0.below x2 k0.lt
        replace sD := sD.now x2
        replace lA := lA.now x2
        replace lB := lB.now x2
        replace x0 := x0.trans x2
        clear x2
        refine takeH 17 (some 79) (.string (strOfNums (blockT m B k))) rfl rfl (by kernel_rfl) (by kernel_rfl) (by kernel_rfl) (fun _ _ _ h => h) rfl (fun w' hw' => by have cc := conv22 (s2.ext hw'); go_simp) ?_
        simp only [Act.put, List.setIfInBounds_toArray, List.set_cons_zero, List.set_cons_succ]
        clear s2
        refine takeH 18 (some 80) (.bool true) rfl rfl (by kernel_rfl) (by kernel_rfl) (by kernel_rfl) (fun _ _ _ h => h) rfl (fun w' hw' => by go_simp) ?_
        simp only [Act.put, List.setIfInBounds_toArray, List.set_cons_zero, List.set_cons_succ]
        refine takeH 19 (some 81) (.bool true) rfl rfl (by kernel_rfl) (by kernel_rfl) (by kernel_rfl) (fun _ _ _ h => h) rfl (fun w' hw' => by go_simp) ?_
        simp only [Act.put, List.setIfInBounds_toArray, List.set_cons_zero, List.set_cons_succ]
        refine takeH 20 (some 82) (.bool true) rfl rfl (by kernel_rfl) (by kernel_rfl) (by kernel_rfl) (fun _ _ _ h => h) rfl (fun w' hw' => by go_simp) ?_
        simp only [Act.put, List.setIfInBounds_toArray, List.set_cons_zero, List.set_cons_succ]
        refine takeH 21 (some 83) (Value.slice ada (leavesL m B).length capa) rfl rfl (by kernel_rfl) (by kernel_rfl) (by kernel_rfl) (fun _ _ _ h => h) rfl (fun w' hw' => by go_simp) ?_
        simp only [Act.put, List.setIfInBounds_toArray, List.set_cons_zero, List.set_cons_succ]
        refine takeH 22 (some 84) (Value.slice adb (leavesL m B).length capb) rfl rfl (by kernel_rfl) (by kernel_rfl) (by kernel_rfl) (fun _ _ _ h => h) rfl (fun w' hw' => by go_simp) ?_
        simp only [Act.put, List.setIfInBounds_toArray, List.set_cons_zero, List.set_cons_succ]
        refine nextH 23 rfl (by kernel_rfl) rfl (callH (some 85) rfl 12 #[Value.slice ada (leavesL m B).length capa, Value.slice adb (leavesL m B).length capb] (by go_simp) (fun v w' => v = .bool true) ((lists_any _ _ (leavesL m B) W4 lA lB (by omega)).mono fun _ _ he => by obtain ⟨rfl, he⟩ := he; exact ⟨_, rfl, he, rfl⟩) ?_)
        rintro v W5 x2 rfl
        simp only [Act.put, List.setIfInBounds_toArray, List.set_cons_zero, List.set_cons_succ]
        replace k0 := k0.below x2 k0.lt
        replace sD := sD.now x2
        replace lA := lA.now x2
        replace lB := lB.now x2
        replace x0 := x0.trans x2
        clear x2
        refine takeH 24 (some 86) (.bool true) rfl rfl (by kernel_rfl) (by kernel_rfl) (by kernel_rfl) (fun _ _ _ h => h) rfl (fun w' hw' => by go_simp) ?_
        simp only [Act.put, List.setIfInBounds_toArray, List.set_cons_zero, List.set_cons_succ]
        refine takeH 25 (some 87) (.bool true) rfl rfl (by kernel_rfl) (by kernel_rfl) (by kernel_rfl) (fun _ _ _ h => h) rfl (fun w' hw' => by go_simp) ?_
        simp only [Act.put, List.setIfInBounds_toArray, List.set_cons_zero, List.set_cons_succ]
        refine takeH 26 (some 88) (Value.slice ada (leavesL m B).length capa) rfl rfl (by kernel_rfl) (by kernel_rfl) (by kernel_rfl) (fun _ _ _ h => h) rfl (fun w' hw' => by go_simp) ?_
        simp only [Act.put, List.setIfInBounds_toArray, List.set_cons_zero, List.set_cons_succ]
        refine takeH 29 (some 91) (Value.slice adb (leavesL m B).length capb) rfl rfl (by kernel_rfl) (by kernel_rfl) (by kernel_rfl) (fun _ _ _ h => h) rfl (fun w' hw' => by go_simp) ?_
        simp only [Act.put, List.setIfInBounds_toArray, List.set_cons_zero, List.set_cons_succ]
        refine nextH 27 rfl (by kernel_rfl) rfl (callH (some 89) rfl 17 #[Value.slice ada (leavesL m B).length capa] (by go_simp) (fun v w' => OwnB w' W5.heap.size v (rootL (leavesL m B))) (root_any _ (leavesL m B) W5 k0 lA (by omega) (fun x hx => by rw [Hbd.out x hx]; omega)) ?_)
        rintro v3 W6 x2 o3
        simp only [Act.put, List.setIfInBounds_toArray, List.set_cons_zero, List.set_cons_succ]
        replace k0 := k0.below x2 k0.lt
        replace sD := sD.now x2
        replace lA := lA.now x2
        replace lB := lB.now x2
        replace x0 := x0.trans x2
        clear x2
        have s3 := o3.srcs W6.heap.size (Or.inr (Nat.le_refl _))
        clear o3
        refine takeH 28 (some 90) (.string (strOfNums (rootL (leavesL m B)))) rfl rfl (by kernel_rfl) (by kernel_rfl) (by kernel_rfl) (fun _ _ _ h => h) rfl (fun w' hw' => by have cc := conv22 (s3.ext hw'); go_simp) ?_
        simp only [Act.put, List.setIfInBounds_toArray, List.set_cons_zero, List.set_cons_succ]
        clear s3
        refine nextH 30 rfl (by kernel_rfl) rfl (callH (some 92) rfl 18 #[Value.slice adb (leavesL m B).length capb] (by go_simp) (fun v w' => Src w' v (rootL (leavesL m B)) w'.heap.size) (rroot_any _ (leavesL m B) W6 lB (by omega) (fun x hx => by rw [Hbd.out x hx]; omega)) ?_)
        rintro v4 W7 x2 s4
        simp only [Act.put, List.setIfInBounds_toArray, List.set_cons_zero, List.set_cons_succ]
        replace k0 := k0.below x2 k0.lt
        replace sD := sD.now x2
        replace lA := lA.now x2
        replace lB := lB.now x2
        replace x0 := x0.trans x2
        clear x2
        refine takeH 31 (some 93) (.string (strOfNums (rootL (leavesL m B)))) rfl rfl (by kernel_rfl) (by kernel_rfl) (by kernel_rfl) (fun _ _ _ h => h) rfl (fun w' hw' => by have cc := conv22 (s4.ext hw'); go_simp) ?_
        simp only [Act.put, List.setIfInBounds_toArray, List.set_cons_zero, List.set_cons_succ]
        clear s4
        refine takeH 32 (some 94) (.bool true) rfl rfl (by kernel_rfl) (by kernel_rfl) (by kernel_rfl) (fun _ _ _ h => h) rfl (fun w' hw' => by go_simp) ?_
        simp only [Act.put, List.setIfInBounds_toArray, List.set_cons_zero, List.set_cons_succ]
        refine takeH 33 (some 95) (.bool true) rfl rfl (by kernel_rfl) (by kernel_rfl) (by kernel_rfl) (fun _ _ _ h => h) rfl (fun w' hw' => by go_simp) ?_
        simp only [Act.put, List.setIfInBounds_toArray, List.set_cons_zero, List.set_cons_succ]
        refine takeH 34 (some 96) (.bool true) rfl rfl (by kernel_rfl) (by kernel_rfl) (by kernel_rfl) (fun _ _ _ h => h) rfl (fun w' hw' => by go_simp) ?_
        simp only [Act.put, List.setIfInBounds_toArray, List.set_cons_zero, List.set_cons_succ]
        refine takeH 35 (some 97) (Value.slice adv m.length capv) rfl rfl (by kernel_rfl) (by kernel_rfl) (by kernel_rfl) (fun _ _ _ h => h) rfl (fun w' hw' => by go_simp) ?_
        simp only [Act.put, List.setIfInBounds_toArray, List.set_cons_zero, List.set_cons_succ]
        refine takeH 38 (some 100) (Value.slice adv m.length capv) rfl rfl (by kernel_rfl) (by kernel_rfl) (by kernel_rfl) (fun _ _ _ h => h) rfl (fun w' hw' => by go_simp) ?_
        simp only [Act.put, List.setIfInBounds_toArray, List.set_cons_zero, List.set_cons_succ]
        refine nextH 36 rfl (by kernel_rfl) rfl (callH (some 98) rfl 19 #[Value.slice adv m.length capv] (by go_simp) (fun v w' => OwnB w' W7.heap.size v (leafL m)) (leaf_any _ m W7 k0 sD (by omega)) ?_)
        rintro v5 W8 x2 o5
        simp only [Act.put, List.setIfInBounds_toArray, List.set_cons_zero, List.set_cons_succ]
        replace k0 := k0.below x2 k0.lt
        replace sD := sD.now x2
        replace lA := lA.now x2
        replace lB := lB.now x2
        replace x0 := x0.trans x2
        clear x2
        have s5 := o5.srcs W8.heap.size (Or.inr (Nat.le_refl _))
        clear o5
        refine takeH 37 (some 99) (.string (strOfNums (leafL m))) rfl rfl (by kernel_rfl) (by kernel_rfl) (by kernel_rfl) (fun _ _ _ h => h) rfl (fun w' hw' => by have cc := conv22 (s5.ext hw'); go_simp) ?_
        simp only [Act.put, List.setIfInBounds_toArray, List.set_cons_zero, List.set_cons_succ]
        clear s5
        refine nextH 39 rfl (by kernel_rfl) rfl (callH (some 101) rfl 20 #[Value.slice adv m.length capv] (by go_simp) (fun v w' => OwnB w' W8.heap.size v (leafL m)) (rleaf_any _ m W8 sD (by omega)) ?_)
        rintro v6 W9 x2 o6
        simp only [Act.put, List.setIfInBounds_toArray, List.set_cons_zero, List.set_cons_succ]
        replace k0 := k0.below x2 k0.lt
        replace sD := sD.now x2
        replace lA := lA.now x2
        replace lB := lB.now x2
        replace x0 := x0.trans x2
        clear x2
        have s6 := o6.srcs W9.heap.size (Or.inr (Nat.le_refl _))
        clear o6
        refine takeH 40 (some 102) (.string (strOfNums (leafL m))) rfl rfl (by kernel_rfl) (by kernel_rfl) (by kernel_rfl) (fun _ _ _ h => h) rfl (fun w' hw' => by have cc := conv22 (s6.ext hw'); go_simp) ?_
        simp only [Act.put, List.setIfInBounds_toArray, List.set_cons_zero, List.set_cons_succ]
        clear s6
        refine takeH 41 (some 103) (.bool true) rfl rfl (by kernel_rfl) (by kernel_rfl) (by kernel_rfl) (fun _ _ _ h => h) rfl (fun w' hw' => by go_simp) ?_
        simp only [Act.put, List.setIfInBounds_toArray, List.set_cons_zero, List.set_cons_succ]
        refine takeH 42 (some 104) (.bool true) rfl rfl (by kernel_rfl) (by kernel_rfl) (by kernel_rfl) (fun _ _ _ h => h) rfl (fun w' hw' => by go_simp) ?_
        simp only [Act.put, List.setIfInBounds_toArray, List.set_cons_zero, List.set_cons_succ]
        refine takeH 43 (some 105) (.bool true) rfl rfl (by kernel_rfl) (by kernel_rfl) (by kernel_rfl) (fun _ _ _ h => h) rfl (fun w' hw' => by go_simp) ?_
        simp only [Act.put, List.setIfInBounds_toArray, List.set_cons_zero, List.set_cons_succ]
        refine nextH 44 rfl (by kernel_rfl) rfl (callH (some 106) rfl 7 #[] (by go_simp) (fun v w' => v = .bool true) ((awake_any W9 k0).mono fun _ _ he => by obtain ⟨rfl, he⟩ := he; exact ⟨_, rfl, he, rfl⟩) ?_)
        rintro v W10 x2 rfl
        simp only [Act.put, List.setIfInBounds_toArray, List.set_cons_zero, List.set_cons_succ]
        replace k0 := k0.below x2 k0.lt
        replace sD := sD.now x2
        replace lA := lA.now x2
        replace lB := lB.now x2
        replace x0 := x0.trans x2
        clear x2
        refine takeH 45 (some 107) (.bool true) rfl rfl (by kernel_rfl) (by kernel_rfl) (by kernel_rfl) (fun _ _ _ h => h) rfl (fun w' hw' => by go_simp) ?_
        simp only [Act.put, List.setIfInBounds_toArray, List.set_cons_zero, List.set_cons_succ]
        refine takeH 46 (some 8) (.bool true) rfl rfl (by kernel_rfl) (by kernel_rfl) (by kernel_rfl) (fun _ _ _ h => h) rfl (fun w' hw' => by go_simp) ?_
        simp only [Act.put, List.setIfInBounds_toArray, List.set_cons_zero, List.set_cons_succ]
        refine wpAnyH_done (by kernel_rfl) ?_ _
        go_wp2
        go_ret
        exact ⟨rfl, x0⟩

theorem asks_any (v : Value) (m : List Int) (B k size : Int) (w : World) (hK : KAt w) (hs : Src w v m w.heap.size) :
    Calls Tryd.prog 3 #[v, .int .i64 B, .int .i64 k, .int .i64 size] w fun e w' => e = .returned (.bool true) ∧ Below w.heap.size w w' := by
  obtain ⟨adv, capv, ev⟩ := hs.len
  subst ev
  by_cases h1 : 1000 < m.length
  · have d1 : decide ((1000 : Int) < (m.length : Int)) = true := by simp; omega
    go_enter Tryd.func3, Tryd.ntmps3
    go_wp2_with fail
    refine (awake_any w hK).mono ?_
    rintro e w2 ⟨rfl, b2⟩
    go_wp2
    go_ret
    exact ⟨rfl, b2⟩
  · by_cases h2 : 1 ≤ B
    · exact asks_pos adv capv m B k size w hK hs (by omega) h2
    · exact asks_neg adv capv m B k size w hK hs (by omega) h2
end Go.Proofs.YtmplnlcmdcogmaaDoor
