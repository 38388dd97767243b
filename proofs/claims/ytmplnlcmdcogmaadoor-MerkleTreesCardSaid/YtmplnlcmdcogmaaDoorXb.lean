/- The contract of the document's own Verify. -/
import Derived.Test.YtmplnlcmdcogmaaDoorXa
namespace Go.Proofs.YtmplnlcmdcogmaaDoor
open Go.RowKit Go.Sha
set_option linter.unusedSimpArgs false

set_option maxHeartbeats 4000000 in
set_option maxRecDepth 100000 in
theorem rverify_some (vr vl vp : Value) (root leaf : List Int) (pf : List (List Int)) (k n : Nat) (w : World) (hr : Src w vr root w.heap.size) (hl : Src w vl leaf w.heap.size) (hp : LR w vp pf w.heap.size) (hk : k < n) (hn : n < 9223372036854775808) (hll : leaf.length ≤ 1900) (hpl : pf.length ≤ 1000000) (hb : ∀ m ∈ pf, m.length ≤ 1900) :
    Calls Tryd.prog 28 #[vr, vl, .int .i64 k, .int .i64 n, vp] w fun e w' => e = .returned (.bool (verL root leaf k n pf)) ∧ Ext w w' := by
  have c0 : InvW w root pf (verL root leaf k n pf) (.int .i64 k) (.int .i64 n) vl (.int .i64 0) w := ⟨k, n, 0, leaf, rfl, rfl, rfl, hk, hn, by omega, hl, hll, by simp, Ext.refl w⟩
  obtain ⟨adp, capp, ep⟩ := hp.len
  subst ep
  have d1 : decide ((k : Int) < 0) = false := by simp
  have d2 : decide ((n : Int) ≤ (k : Int)) = false := by simp; omega
  have d3 : ¬ ((n : Int) ≤ (k : Int)) := by omega
  have HB := Lib.hid hb; clear hb
  have HPR := Lib.hid hp; clear hp
  have HR := Lib.hid hr; clear hr
  obtain ⟨PL, hPL⟩ : ∃ PL, PL = pf.length := ⟨_, rfl⟩
  rw [← hPL] at hpl HPR ⊢
  have HPL := Lib.hid hPL; clear hPL
  clear hl hll
  generalize verL root leaf k n pf = R at *
  go_enter Tryd.func28, Tryd.ntmps28
  go_wp2
  go_loopw [2, 3, 11, 12] (fun k n u x wr => InvW w root pf R k n x u wr) (fun _ n _ _ _ => (intOf n).toNat)
  case atStart => exact c0
  case round =>
    clear c0
    obtain ⟨vx, hvx⟩ : ∃ vx, vx = u12 := ⟨_, rfl⟩
    rw [← hvx] at hrel ⊢
    clear hvx
    obtain ⟨q, N, j, y, rfl, rfl, rfl, hq, hN, hj, sy, hy, hR, ex⟩ := hrel
    rw [← HPL.out] at hj
    have q0 : (0 : Int) ≤ (q : Int) := by omega
    have N0 : (0 : Int) ≤ (N : Int) := by omega
    by_cases hgt : N ≤ 1
    · have i0 : ¬ ((1 : Int) < (N : Int)) := by omega
      have i9 : decide ((1 : Int) < (N : Int)) = false := by simp; omega
      rw [verL_one _ _ _ _ _ hgt, drop_nil pf j (by rw [← HPL.out]; exact hj)] at hR
      by_cases hjl : j = PL
      · have t1 : ((j : Int) == (PL : Int)) = true := by rw [beq_iff_eq]; omega
        rw [show decide (j = pf.length) = true by rw [← HPL.out]; simpa using hjl, Bool.true_and] at hR
        have sr := conv22 (HR.out.now ex)
        have sx := conv22 sy
        have HRR := Lib.hid hR
        clear hgt hjl hR
        go_wp2
        go_ret
        exact ⟨by rw [← HRR.out]; rfl, ex⟩
      · have t1 : ((j : Int) == (PL : Int)) = false := by rw [beq_eq_false_iff_ne]; omega
        rw [show decide (j = pf.length) = false by rw [← HPL.out]; simpa using hjl, Bool.false_and] at hR
        subst hR
        clear hgt
        go_wp2
        go_ret
        exact ⟨rfl, ex⟩
    · have i0 : (1 : Int) < (N : Int) := by omega
      have i9 : decide ((1 : Int) < (N : Int)) = true := by simp; omega
      have hnb := nb_lt q N hq
      obtain ⟨B, hB⟩ : ∃ B, B = nbL q := ⟨_, rfl⟩
      obtain ⟨Q2, hQ2⟩ : ∃ Q2, Q2 = q / 2 := ⟨_, rfl⟩
      obtain ⟨N2, hN2⟩ : ∃ N2, N2 = N - N / 2 := ⟨_, rfl⟩
      have hd2 : (q : Int) / 2 = (Q2 : Int) := by omega
      have hd3 : (N : Int) / 2 + (N : Int) % 2 = (N2 : Int) := by omega
      have hx1 := i64_xor_one q (by omega)
      rw [← hB] at hx1
      have hQN : Q2 < N2 := by omega
      have hN2l : N2 < N := by omega
      have wN2 : IntKind.i64.wrap (N2 : Int) = (N2 : Int) := IntWalk.i64_in _ (by omega)
      rw [← hB] at hnb
      have HBq := Lib.hid hB; clear hB
      have HQ2 := Lib.hid hQ2; clear hQ2
      have HN2 := Lib.hid hN2; clear hN2
      by_cases hlt : B < N
      · have i2 : (B : Int) < (N : Int) := by omega
        have i4 : decide ((B : Int) < (N : Int)) = true := by simp; omega
        by_cases hjl : j = PL
        · have t1 : (PL : Int) ≤ (j : Int) := by omega
          have t2 : decide ((PL : Int) ≤ (j : Int)) = true := by simpa using t1
          rw [show pf.drop j = [] by rw [List.drop_eq_nil_iff, ← HPL.out]; omega, verL_none _ _ _ _ hgt (by rw [← HBq.out]; exact hlt)] at hR
          subst hR
          clear hgt hjl
          go_wp2
          go_ret
          exact ⟨rfl, ex⟩
        · have t2 : decide ((PL : Int) ≤ (j : Int)) = false := by simp; omega
          have t1 : ¬ ((PL : Int) ≤ (j : Int)) := by omega
          have hj2 : j < PL := by omega
          have j0 : (j : Int) < (PL : Int) := by omega
          have j1 : (0 : Int) ≤ (j : Int) := by omega
          obtain ⟨m1, hm1⟩ : ∃ m, pf[j]? = some m := ⟨_, List.getElem?_eq_getElem (by rw [← HPL.out]; exact hj2)⟩
          have hpr := HPR.out
          rw [HPL.out] at hpr
          obtain ⟨cap1, pb, po, ev1, _, hc1⟩ := lr_get hpr (by rw [← HPL.out]; omega)
          injection ev1 with a1 _ a2
          subst a1 a2
          obtain ⟨x1, c1, s1⟩ := hc1 j m1 hm1
          have l1 := HB.out m1 (List.mem_of_getElem? hm1)
          have c1' : wr.cell? ⟨pb, po + j, none⟩ = some x1 := by rw [Below.cell (p := ⟨pb, po + j, none⟩) ex (World.block_lt_of_cell? w _ c1)]; exact c1
          have s1' := s1.now ex
          have ed : pf.drop j = m1 :: pf.drop (j + 1) := by
            rw [List.drop_eq_getElem_cons (by rw [← HPL.out]; exact hj2)]
            rw [(List.getElem?_eq_some_iff.1 hm1).2]
          rw [ed, verL_some _ _ _ _ _ _ hgt (by rw [← HBq.out]; exact hlt), ← HQ2.out, ← HN2.out] at hR
          clear hc1 hm1 ed hpr s1 hgt
          by_cases hpar : q % 2 = 0
          · have p1 : ((q : Int) % 2 == 0) = true := by rw [beq_iff_eq]; omega
            have HJ := Lib.hid (show joinL q y m1 = shaL (1 :: (y ++ m1)) by rw [joinL, if_pos hpar]; rfl)
            have hc1' : ∀ w', Ext w w' → w'.cell? ⟨pb, po + j, none⟩ = some x1 := fun w' h => by rw [Below.cell (p := ⟨pb, po + j, none⟩) h (World.block_lt_of_cell? w _ c1)]; exact c1
            have HC1 := Lib.hid hc1'; clear hc1' c1'
            clear hpar c1
            go_wp2
            refine wp_region_held (S := Ext w) (by kernel_rfl) ?_
            change wpAnyH _ _ _ _ _ _ _ _ wr.drew
            have S0 : Ext w wr.drew := Below.drew ex
            replace sy : Src wr.drew vx y wr.drew.heap.size := sy.now (Below.drew (Below.refl _ _))
            replace s1' : Src wr.drew x1 m1 wr.drew.heap.size := s1'.now (Below.drew (Below.refl _ _))
            clear ex
            generalize wr.drew = W at *
            refine takeS 1 (some 35) (vx) rfl rfl (by kernel_rfl) (by kernel_rfl) (by kernel_rfl) (fun _ _ _ h => h) rfl S0 (fun w' hw' => by go_simp) ?_
            simp only [Act.put, List.setIfInBounds_toArray, List.set_cons_zero, List.set_cons_succ]
            refine takeS 3 (some 37) (Value.slice (some ⟨pb, po, none⟩) PL capp) rfl rfl (by kernel_rfl) (by kernel_rfl) (by kernel_rfl) (fun _ _ _ h => h) rfl S0 (fun w' hw' => by go_simp) ?_
            simp only [Act.put, List.setIfInBounds_toArray, List.set_cons_zero, List.set_cons_succ]
            refine takeS 4 (some 38) (.int .i64 (j : Int)) rfl rfl (by kernel_rfl) (by kernel_rfl) (by kernel_rfl) (fun _ _ _ h => h) rfl S0 (fun w' hw' => by go_simp) ?_
            simp only [Act.put, List.setIfInBounds_toArray, List.set_cons_zero, List.set_cons_succ]
            refine takeS 5 (some 39) (.pointer (some ⟨pb, po + j, none⟩)) rfl rfl (by kernel_rfl) (by kernel_rfl) (by kernel_rfl) (fun _ _ _ h => h) rfl S0 (fun w' hw' => by go_simp) ?_
            simp only [Act.put, List.setIfInBounds_toArray, List.set_cons_zero, List.set_cons_succ]
            refine takeS 6 (some 40) (x1) rfl rfl (by kernel_rfl) (by kernel_rfl) (by kernel_rfl) (fun _ _ _ h => h) rfl S0 (fun w' hw' => by have cc := HC1.out w' hw'; go_simp) ?_
            simp only [Act.put, List.setIfInBounds_toArray, List.set_cons_zero, List.set_cons_succ]
            refine nextS 0 rfl (by kernel_rfl) rfl (makeS (some 34) rfl (.slice (some ⟨W.heap.size, 0, none⟩) 1 1) (w1 := W.alloc (.cells #[.int .u8 1] 5)) (by go_simp) ?_)
            simp only [Act.put, List.setIfInBounds_toArray, List.set_cons_zero, List.set_cons_succ]
            have oa : OwnB (W.alloc (.cells #[.int .u8 1] 5)) W.heap.size (.slice (some ⟨W.heap.size, 0, none⟩) 1 1) [1] := own_of_at (Nat.le_refl _) (At.new W _ 5) rfl (by omega)
            have ea : Ext W (W.alloc (.cells #[.int .u8 1] 5)) := Ext.alloc W _
            have Sa : Ext w (W.alloc (.cells #[.int .u8 1] 5)) := Ext.trans S0 ea
            refine ⟨Sa, ?_⟩
            refine nextS 2 rfl (by kernel_rfl) rfl (wp_append_bytes (.tmp 34) (.tmp 35) 22 rfl Tryd.underlying22 u8zero W.heap.size (.slice (some ⟨W.heap.size, 0, none⟩) 1 1) [1] rfl oa vx y _ rfl (sy.now ea) (by simp; omega) ea.size ?_)
            intro vb Wb ob bb
            simp only [Act.put, List.setIfInBounds_toArray, List.set_cons_zero, List.set_cons_succ]
            have eb : Ext W Wb := Below.trans ea bb
            have Sb : Ext w Wb := Ext.trans S0 eb
            refine ⟨Sb, ?_⟩
            refine nextS 7 rfl (by kernel_rfl) rfl (wp_append_bytes (.tmp 36) (.tmp 40) 22 rfl Tryd.underlying22 u8zero W.heap.size vb ([1] ++ y) rfl ob x1 m1 _ rfl (s1'.now eb) (by simp; omega) eb.size ?_)
            intro vc Wc oc bc
            simp only [Act.put, List.setIfInBounds_toArray, List.set_cons_zero, List.set_cons_succ]
            have ec : Ext W Wc := Below.trans eb bc
            have Sc : Ext w Wc := Ext.trans S0 ec
            refine ⟨Sc, ?_⟩
            refine nextS 8 rfl (by kernel_rfl) rfl (callS (some 42) rfl 36 #[vc] (by go_simp) (fun v w' => Ext Wc w' ∧ OwnB w' Wc.heap.size v (joinL q y m1)) ((ref_any vc _ Wc (oc.srcs _ (Or.inr (Nat.le_refl _))) (by simp; omega)).mono fun _ _ h => by obtain ⟨v, e, b, o⟩ := h; exact ⟨v, e, b, by rwa [show [1] ++ y ++ m1 = 1 :: (y ++ m1) by simp, ← HJ.out] at o⟩) ?_)
            rintro v2 W2 ⟨e2, o2⟩
            simp only [Act.put, List.setIfInBounds_toArray, List.set_cons_zero, List.set_cons_succ]
            have S2 : Ext w W2 := Ext.trans Sc e2
            refine ⟨S2, ?_⟩
            refine takeS 9 (some 12) v2 rfl rfl (by kernel_rfl) (by kernel_rfl) (by kernel_rfl) (fun _ _ _ h => h) rfl S2 (fun w' hw' => by go_simp) ?_
            simp only [Act.put, List.setIfInBounds_toArray, List.set_cons_zero, List.set_cons_succ]
            refine wpAnyH_done (by kernel_rfl) ?_ _
            clear oa ob oc ea eb ec bb bc Sa Sb Sc sy s1'
            go_wp2
            exact ⟨⟨Q2, N2, j + 1, joinL q y m1, rfl, rfl, by go_num, hQN, by omega, by rw [← HPL.out]; omega, o2.srcs _ (Or.inr (Nat.le_refl _)), by rw [joinL_length]; omega, hR, S2⟩, by simp [intOf]; omega⟩

          · have p1 : ((q : Int) % 2 == 0) = false := by rw [beq_eq_false_iff_ne]; omega
            have HJ := Lib.hid (show joinL q y m1 = shaL (1 :: (m1 ++ y)) by rw [joinL, if_neg hpar]; rfl)
            have oa : OwnB (wr.alloc (.cells #[.int .u8 1] 5)) wr.heap.size (.slice (some ⟨wr.heap.size, 0, none⟩) 1 1) [1] := own_of_at (Nat.le_refl _) (At.new wr _ 5) rfl (by omega)
            have ea : Ext wr (wr.alloc (.cells #[.int .u8 1] 5)) := Ext.alloc wr _
            have sA := s1'.now ea
            have c2 : (wr.alloc (.cells #[.int .u8 1] 5)).cell? ⟨pb, po + j, none⟩ = some x1 := by rw [Below.cell (p := ⟨pb, po + j, none⟩) ea (World.block_lt_of_cell? wr _ c1')]; exact c1'
            clear hpar c1 c1'
            go_wp2_with (first
              | (refine list_append_bytes rfl (.tmp 43) (.tmp 47) 22 rfl Tryd.underlying22 u8zero wr.heap.size (.slice (some ⟨wr.heap.size, 0, none⟩) 1 1) [1] rfl oa _ m1 _ rfl sA (by simp; omega) ea.size ?_; intro vb Wb ob gb; have eb : Ext wr Wb := Below.trans ea (oa.grown gb ea.size); have sB := sy.now eb)
              | (refine list_append_bytes rfl (.tmp 48) (.tmp 49) 22 rfl Tryd.underlying22 u8zero wr.heap.size vb ([1] ++ m1) rfl ob _ y _ rfl sB (by simp; omega) eb.size ?_; intro vc Wc oc gc; have ec : Ext wr Wc := Below.trans eb (ob.grown gc eb.size)))
            refine (ref_any vc _ Wc (oc.srcs _ (Or.inr (Nat.le_refl _))) (by simp; omega)).mono ?_
            rintro e W2 ⟨v2, rfl, e2, o2⟩
            rw [show [1] ++ m1 ++ y = 1 :: (m1 ++ y) by simp, ← HJ.out] at o2
            have S2 : Ext w W2 := (ex.trans ec).trans e2
            clear oa ob oc ea eb ec gb gc sA sB sy s1' c2
            go_wp2
            exact ⟨⟨Q2, N2, j + 1, joinL q y m1, rfl, rfl, by go_num, hQN, by omega, by rw [← HPL.out]; omega, o2.srcs _ (Or.inr (Nat.le_refl _)), by rw [joinL_length]; omega, hR, S2⟩, by simp [intOf]; omega⟩
      · have i2 : ¬ ((B : Int) < (N : Int)) := by omega
        have i4 : decide ((B : Int) < (N : Int)) = false := by simp; omega
        rw [verL_alone _ _ _ _ _ hgt (by rw [← HBq.out]; exact hlt), ← HQ2.out, ← HN2.out] at hR
        clear hgt
        go_wp2
        exact ⟨⟨Q2, N2, j, y, rfl, rfl, rfl, hQN, by omega, by rw [← HPL.out]; exact hj, sy, hy, hR, ex⟩, by simp [intOf]; omega⟩

set_option maxHeartbeats 400000 in
theorem rverify_none (vr vl vp : Value) (k n : Int) (w : World) (hk : k < 0 ∨ n ≤ k) : Calls Tryd.prog 28 #[vr, vl, .int .i64 k, .int .i64 n, vp] w fun e w' => e = .returned (.bool false) ∧ Ext w w' := by
  by_cases h : k < 0
  · have d1 : decide (k < 0) = true := by simpa using h
    clear hk
    go_enter Tryd.func28, Tryd.ntmps28
    go_wp2
    go_ret
    exact ⟨rfl, Ext.refl w⟩
  · have d1 : decide (k < 0) = false := by simpa using h
    have d3 : n ≤ k := by omega
    have d2 : decide (n ≤ k) = true := by simpa using d3
    clear hk
    go_enter Tryd.func28, Tryd.ntmps28
    go_wp2
    go_ret
    exact ⟨rfl, Ext.refl w⟩
end Go.Proofs.YtmplnlcmdcogmaaDoor
