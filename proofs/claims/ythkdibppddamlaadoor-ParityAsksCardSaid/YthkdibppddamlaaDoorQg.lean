/- The contract of the document's own Update, where it fits. -/
import Derived.Test.YthkdibppddamlaaDoorQf
namespace Go.Proofs.YthkdibppddamlaaDoor
open Go.RowKit Go.Sha
set_option linter.unusedSimpArgs false

def InvRg (w : World) (B0 g : Nat) (R : List Int) (b : Nat) (i : Value) (wr : World) : Prop := ∃ j : Nat, j ≤ b ∧ i = .int .i64 j ∧ Ext w wr ∧ B0 ≤ wr.heap.size ∧ Buf wr g (fillN R b j)
/-- A row's row's byte. -/
theorem lr_cell {w w' : World} {v : Value} {ls : List (List Int)} {bh : Nat} {ad : Option Addr} {n cap : Nat} (h : LR w v ls bh) (hv : v = .slice ad n cap) (he : Ext w w') (k : Nat) (m : List Int) (hk : ls[k]? = some m) : ∃ pb po, ad = some ⟨pb, po, none⟩ ∧ ∃ x, w'.cell? ⟨pb, po + k, none⟩ = some x ∧ Src w x m bh := by
  have h0 : 0 < ls.length := by have := (List.getElem?_eq_some_iff.1 hk).1; omega
  obtain ⟨cap1, pb, po, ev, _, hc⟩ := lr_at h h0
  subst hv
  injection ev with e1 _ _
  obtain ⟨x, cx, sx⟩ := hc k m hk
  exact ⟨pb, po, e1, x, by rw [Below.cell (p := ⟨pb, po + k, none⟩) he (World.block_lt_of_cell? w _ cx)]; exact cx, sx⟩
theorem src_cell {w w' : World} {v : Value} {m : List Int} {bh : Nat} (h : Src w v m bh) (he : Ext w w') (hm : 0 < m.length) : ∃ sb so cap, v = .slice (some ⟨sb, so, none⟩) m.length cap ∧ ∀ j, j < m.length → w'.cell? ⟨sb, so + j, none⟩ = some (.int .u8 (m[j]?.getD 0)) := by
  obtain ⟨ad, cap, sb, so, rfl, _, h3, _, h5, _⟩ := h
  obtain rfl := h3 hm
  exact ⟨sb, so, cap, rfl, fun j hj => by rw [Below.cell (p := ⟨sb, so + j, none⟩) he (World.block_lt_of_cell? w _ (h5 j hj))]; exact h5 j hj⟩

theorem lr_row {w : World} {v : Value} {ls : List (List Int)} {bh : Nat} {ad : Option Addr} {n cap : Nat} (h : LR w v ls bh) (hv : v = .slice ad n cap) (k : Nat) (m : List Int) (hk : ls[k]? = some m) (hm : 0 < m.length) : ∃ pb po sb so capx, ad = some ⟨pb, po, none⟩ ∧ (∀ w', Ext w w' → w'.cell? ⟨pb, po + k, none⟩ = some (.slice (some ⟨sb, so, none⟩) m.length capx)) ∧ ∀ w', Ext w w' → ∀ j, j < m.length → w'.cell? ⟨sb, so + j, none⟩ = some (.int .u8 (m[j]?.getD 0)) := by
  have h0 : 0 < ls.length := by have := (List.getElem?_eq_some_iff.1 hk).1; omega
  obtain ⟨cap1, pb, po, ev, _, hc⟩ := lr_at h h0
  subst hv
  injection ev with e1 _ _
  obtain ⟨x, cx, sx⟩ := hc k m hk
  obtain ⟨adx, capx, sb, so, rfl, _, h3, _, h5, _⟩ := sx
  obtain rfl := h3 hm
  exact ⟨pb, po, sb, so, capx, e1, fun w' he => by rw [Below.cell (p := ⟨pb, po + k, none⟩) he (World.block_lt_of_cell? w _ cx)]; exact cx, fun w' he j hj => by rw [Below.cell (p := ⟨sb, so + j, none⟩) he (World.block_lt_of_cell? w _ (h5 j hj))]; exact h5 j hj⟩

set_option maxHeartbeats 8000000 in
set_option maxRecDepth 100000 in
theorem rupdate_ok (v vo vn : Value) (par : List (List Int)) (old now : List Int) (b c : Nat) (w : World) (hv : LR w v par w.heap.size) (hl : par.length ≤ 1000000000) (ho : Src w vo old w.heap.size) (hn : Src w vn now w.heap.size) (hm : old.length ≤ 1048576) (hm2 : now.length ≤ 1048576) (hb1 : 1 ≤ b) (hb2 : b ≤ 4096) (hc1 : 1 ≤ c) (hc2 : c ≤ 8) (hbp : ∀ x ∈ par, Byt x) (hf : fitsL par old.length b c = true) :
    Calls Tryd.prog 8 #[v, vo, vn, .int .i64 b, .int .i64 c] w (UPost w (updL par old now b c) 0) := by
  obtain ⟨ado, capo, ev⟩ := ho.len
  subst ev
  obtain ⟨adn, capn, ev⟩ := hn.len
  subst ev
  obtain ⟨ad, cap, ev⟩ := hv.len
  subst ev
  obtain ⟨n, hgn⟩ : ∃ n : Nat, grpsN now.length b c = n := Int.eq_ofNat_of_zero_le (grpsN_nonneg _ _ _)
  have hnb : n ≤ 1048584 := by have := grpsN_le now.length b c; omega
  obtain ⟨n0, hgo⟩ : ∃ n : Nat, grpsN old.length b c = n := Int.eq_ofNat_of_zero_le (grpsN_nonneg _ _ _)
  have hnb0 : n0 ≤ 1048584 := by have := grpsN_le old.length b c; omega
  have hL := updL_length par old now b c
  rw [hgn, Int.toNat_natCast] at hL
  have HL := Lib.hid hL; clear hL
  have hfit : (par.length : Int) = grpsN old.length b c ∧ ∀ x ∈ par, (x.length : Int) = b := by
    unfold fitsL at hf
    simp only [Bool.and_eq_true, List.all_eq_true, beq_iff_eq] at hf
    exact ⟨hf.1.2, hf.2⟩
  obtain ⟨hpl, hall⟩ := hfit
  have hrow : ∀ g, rupG par old now b c g = updG par old now b c g := fun g => rup_upd par old now b c g hc1 hc2 (by omega) hall hbp hpl
  have HRow := Lib.hid hrow; clear hrow
  have hpn : par.length = n0 := by omega
  have Hall := Lib.hid hall; clear hall
  have HV := Lib.hid hv; clear hv
  obtain ⟨N, hN⟩ : ∃ N, N = par.length := ⟨_, rfl⟩
  have HN := Lib.hid hN
  rw [← hN] at HV hl hpn ⊢
  subst hpn
  have HO := Lib.hid ho; clear ho
  have HW := Lib.hid hn; clear hn
  have C := Lib.hid (rgroups_any old.length b c w)
  rw [hgo] at C
  have d0 : decide ((b : Int) < 1) = false := by simp; omega
  have d1 : decide ((4096 : Int) < (b : Int)) = false := by simp; omega
  have d2 : decide ((c : Int) < 1) = false := by simp; omega
  have d3 : decide ((8 : Int) < (c : Int)) = false := by simp; omega
  have t2 : ((N : Int) != (N : Int)) = false := by simp
  have hAl := buildL_length old b c
  rw [hgo, Int.toNat_natCast] at hAl
  have hBl := buildL_length now b c
  rw [hgn, Int.toNat_natCast] at hBl
  have HAl := Lib.hid hAl
  have HBl := Lib.hid hBl
  have HGo := Lib.hid hgo
  have HGn := Lib.hid hgn
  clear hAl hBl hgo hgn hpl hf hN hbp
  go_enter Tryd.func8, Tryd.ntmps8
  go_wp2_with fail
  refine C.out.mono ?_
  rintro e w' ⟨rfl, rfl⟩
  clear C
  go_wp2
  go_loopw [12] (fun i wr => InvRf w par b i wr) (fun i _ => N - (intOf i).toNat)
  case atStart => exact ⟨0, by omega, rfl, rfl, by simp⟩
  case round =>
    obtain ⟨k, hk, rfl, rfl, hall⟩ := hrel
    rw [← HN.out] at hk
    by_cases hlt : k < N
    · obtain ⟨m1, hm1⟩ : ∃ m, par[k]? = some m := ⟨_, List.getElem?_eq_getElem (by rw [← HN.out]; exact hlt)⟩
      obtain ⟨pb, po, ea, x1, c1, s1⟩ := lr_cell HV.out rfl (Ext.refl w) k m1 hm1
      subst ea
      obtain ⟨adx, capx, ex1⟩ := s1.len
      subst ex1
      have hb := Hall.out m1 (List.mem_of_getElem? hm1)
      have hstep : (par.take (k + 1)).all (fun x => (x.length : Int) == (b : Int)) = true := by
        rw [List.take_add_one, hm1, List.all_append, hall]; simp; omega
      have Hs := Lib.hid hstep; clear hstep hm1 hall s1
      have i0 : (k : Int) < (N : Int) := by omega
      have t3 : ((m1.length : Int) != (b : Int)) = false := by simpa using hb
      have Hb := Lib.hid hb; clear hb
      go_wp2
      exact ⟨⟨k + 1, by rw [← HN.out]; omega, by go_num, rfl, Hs.out⟩, by simp [intOf]; omega⟩
    · obtain rfl : k = N := by omega
      clear hall
      go_wp2_with fail
      refine (rbuild_any _ old b c w HO.out hm).mono ?_
      rintro e w1 ⟨va, rfl, e1, l1⟩
      replace l1 := l1 w1.heap.size (Or.inr (Nat.le_refl _))
      have sn1 := HW.out.now e1
      go_wp2_with fail
      refine (rbuild_any _ now b c w1 sn1 hm2).mono ?_
      rintro e w2 ⟨vb, rfl, e2, l2⟩
      replace l2 := l2 w2.heap.size (Or.inr (Nat.le_refl _))
      replace l1 := l1.now e2
      have ex2 := e1.trans e2
      have lv2 := HV.out.now ex2
      obtain ⟨ada, capa, ev⟩ := l1.len
      subst ev
      obtain ⟨adb, capb, ev⟩ := l2.len
      subst ev
      rw [HAl.out] at l1 ⊢
      rw [HBl.out] at l2 ⊢
      have L1 := Lib.hid l1
      have L2 := Lib.hid l2
      have LV := Lib.hid lv2
      clear l1 l2 lv2 sn1 e1 e2
      go_wp2
      go_loopw [15, 16] (fun l i wr => InvL w2 (updL par old now b c) n l i wr) (fun _ i _ => n - (intOf i).toNat)
      case atStart => exact ⟨0, [], by omega, rfl, rfl, by simp, OwnG.nil _ _ _ _ _, Ext.refl _⟩
      case round =>
        obtain ⟨q, ps, hq, rfl, hpl, hps, ow, ex⟩ := hrel
        obtain ⟨wa, rfl⟩ : ∃ wa, wa = wr := ⟨wr, rfl⟩
        by_cases hlt2 : q < n
        · have i0 : (q : Int) < (n : Int) := by omega
          obtain ⟨adl, capl, el⟩ := ow.len
          subst el
          rw [hpl] at ow ⊢
          have mk := make_bytes b (by omega)
          have b1 := Buf.new wa (List.replicate b 0)
          have e1 : Ext wa (wa.alloc (.cells (bs (List.replicate b 0)) 5)) := Ext.alloc wa _
          have z1 : wa.heap.size ≤ (wa.alloc (.cells (bs (List.replicate b 0)) 5)).heap.size := by rw [size_alloc]; omega
          obtain ⟨R, hR⟩ : ∃ R, R = updG par old now b c q := ⟨_, rfl⟩
          have hRr : R = rupG par old now b c q := by rw [hR, HRow.out]
          have hget := updL_get par old now b c q (by rw [HGn.out]; simp; omega)
          rw [Int.toNat_natCast, ← hR] at hget
          have Hnext := Lib.hid (take_next hget); clear hget hR
          have hgb := buildL_get now b c q (by rw [HGn.out]; simp; omega)
          rw [Int.toNat_natCast] at hgb
          have hnl := parL_length now b c q
          rw [Int.toNat_natCast] at hnl
          obtain ⟨rb, ro, bb, bo, capB, ea, FB, FBJ⟩ := lr_row L2.out rfl q _ hgb (by omega)
          subst ea
          rw [hnl] at FB FBJ
          have f0 : Buf (wa.alloc (.cells (bs (List.replicate b 0)) 5)) wa.heap.size (fillN R b 0) := by simpa [fillN] using b1
          clear hgb b1
          by_cases hqN : q < k
          · have hga := buildL_get old b c q (by rw [HGo.out]; simp; omega)
            rw [Int.toNat_natCast] at hga
            have hol := parL_length old b c q
            rw [Int.toNat_natCast] at hol
            obtain ⟨ra, rao, ab, ao, capA, ea, FA, FAJ⟩ := lr_row L1.out rfl q _ hga (by omega)
            subst ea
            obtain ⟨pn, hpn⟩ : ∃ m, par[q]? = some m := ⟨_, List.getElem?_eq_getElem (by rw [← HN.out]; exact hqN)⟩
            have hpnl := Hall.out pn (List.mem_of_getElem? hpn)
            obtain ⟨rp, rpo, pb, po, capP, ea, FP, FPJ⟩ := lr_row LV.out rfl q _ hpn (by omega)
            subst ea
            have hpnl' : pn.length = b := by omega
            rw [hol] at FA FAJ
            rw [hpnl'] at FP FPJ
            have hRe : R = xorL (xorL (parL now b c q) (parL old b c q)) pn := by
              rw [hRr]
              unfold rupG
              rw [HGo.out, if_pos (by omega), hpn]; rfl
            have hRl : R.length = b := by rw [hRe, xorL_length, xorL_length]; exact hnl
            have hRj : ∀ j, j < b → R[j]?.getD 0 = xb (xb ((parL now b c q)[j]?.getD 0) ((parL old b c q)[j]?.getD 0)) (pn[j]?.getD 0) := fun j hj => by
              rw [hRe, xorL_get _ _ _ (by rw [xorL_length, hnl]; exact hj) (by rw [xorL_length, hnl, hpnl']), xorL_get _ _ _ (by rw [hnl]; exact hj) (by rw [hnl, hol])]
            have HRl := Lib.hid hRl
            have HRj := Lib.hid hRj
            have F1 := Lib.hid FA; have F2 := Lib.hid FAJ; have F3 := Lib.hid FB; have F4 := Lib.hid FBJ; have F5 := Lib.hid FP; have F6 := Lib.hid FPJ
            have j0 : (q : Int) < (k : Int) := by omega
            have dN : decide (q < k) = true := by simpa using hqN
            clear FA FAJ FB FBJ FP FPJ hRr hRe hRl hRj hga hpn hol hpnl hpnl' hnl
            go_wp2
            generalize wa.alloc (.cells (bs (List.replicate b 0)) 5) = w3 at *
            go_loopw [18] (fun i wr => InvRg wa wa.heap.size wa.heap.size R b i wr) (fun i _ => b - (intOf i).toNat)
            case atStart => exact ⟨0, by omega, rfl, e1, z1, f0⟩
            case round =>
              obtain ⟨j, hj, rfl, e3, z3, bR⟩ := hrel
              by_cases hjb : j < b
              · have k0 : (j : Int) < (b : Int) := by omega
                have ex3 := ex.trans e3
                have cb := F3.out wr ex3
                have cbj := F4.out wr ex3 j hjb
                have hfl := fillN_length R b j HRl.out hj
                have cw := bR.cell j (by rw [hfl]; exact hjb)
                have cf := bR.frozen j
                have bR2 := bR.set j ((parL now b c q)[j]?.getD 0) (by rw [hfl]; exact hjb)
                have e4 : Ext wa (wr.setCell ⟨wa.heap.size, j, none⟩ (.int .u8 ((parL now b c q)[j]?.getD 0))) := Below.setCell (p := ⟨wa.heap.size, j, none⟩) e3 (Nat.le_refl _) _
                have hRj := HRj.out j hjb
                have hset : ((fillN R b j).set j ((parL now b c q)[j]?.getD 0)).set j (R[j]?.getD 0) = fillN R b (j + 1) := by rw [List.set_set]; exact fillN_set R b j HRl.out hjb
                have cw2 := bR2.cell j (by rw [List.length_set, hfl]; exact hjb)
                rw [List.getElem?_set_self (by rw [hfl]; exact hjb)] at cw2
                replace cw2 : (wr.setCell ⟨wa.heap.size, j, none⟩ (.int .u8 ((parL now b c q)[j]?.getD 0))).cell? ⟨wa.heap.size, j, none⟩ = some (.int .u8 ((parL now b c q)[j]?.getD 0)) := cw2
                have bR3 := bR2.set j (R[j]?.getD 0) (by rw [List.length_set, hfl]; exact hjb)
                rw [hset, hRj] at bR3
                have z4 : wa.heap.size ≤ (wr.setCell ⟨wa.heap.size, j, none⟩ (.int .u8 ((parL now b c q)[j]?.getD 0))).heap.size := by simpa using z3
                clear hset hfl bR hRj e3 ex3
                have cf2 := bR2.frozen j
                have ex4 := ex.trans e4
                have ca := F1.out _ ex4
                have caj := F2.out _ ex4 j hjb
                have cp := F5.out _ ex4
                have cpj := F6.out _ ex4 j hjb
                clear bR2 ex4 z3
                generalize (parL now b c q)[j]?.getD 0 = nj at *
                generalize (parL old b c q)[j]?.getD 0 = oj at *
                generalize pn[j]?.getD 0 = pj at *
                have B3 := Lib.hid bR3; clear bR3
                have C1 := Lib.hid ca; have C2 := Lib.hid caj; have C3 := Lib.hid cp; have C4 := Lib.hid cpj; have C5 := Lib.hid cw2; have C6 := Lib.hid cf2
                clear ca caj cp cpj cw2 cf2
                go_wp2
                have ca := C1.out; have caj := C2.out; have cp := C3.out; have cpj := C4.out; have cw2 := C5.out; have cf2 := C6.out
                clear C1 C2 C3 C4 C5 C6 cw cf cb cbj
                generalize wr.setCell ⟨wa.heap.size, j, none⟩ (.int .u8 nj) = w5 at *
                go_region
                go_wp2
                have e6 : Ext wa (w5.setCell ⟨wa.heap.size, j, none⟩ (.int .u8 (bits .xor .u8 (bits .xor .u8 nj oj) pj))).drew := (Below.setCell (p := ⟨wa.heap.size, j, none⟩) e4 (Nat.le_refl _) _).drew
                have b6 : Buf (w5.setCell ⟨wa.heap.size, j, none⟩ (.int .u8 (bits .xor .u8 (bits .xor .u8 nj oj) pj))).drew wa.heap.size (fillN R b (j + 1)) := B3.out
                exact ⟨⟨j + 1, by omega, by go_num, e6, by simpa using z4, b6⟩, by simp [intOf]; omega⟩
              · obtain rfl : j = b := by omega
                have k0 : ¬ ((j : Int) < (j : Int)) := by omega
                replace bR : Buf wr wa.heap.size R := by
                  have : fillN R j j = R := by unfold fillN; rw [List.take_of_length_le (by rw [HRl.out]; omega)]; simp
                  rwa [this] at bR
                have hsx := buf_srcs (n := j) (cap := j) bR (HRl.out) (Nat.le_refl _) ow ex
                have ow2 := ow.ext src_kept e3
                have ex3 := ex.trans e3
                have hsy := src_one_more (x := .slice (some ⟨wa.heap.size, 0, none⟩) j j) (t := 22) hsx
                clear hsx bR ow ex
                go_wp2_with (refine list_append_g src_kept rfl (.tmp 114) (.tmp 116) 23 rfl (.slice none 0 0) 24 Tryd.underlying23 slzero rfl (by omega) w2.heap.size _ ps (Old w2) rfl (own_one src_kept ow2 _ 22) wr.heap.size 1 _ R rfl (cell_one wr _ 22) rfl hsy (by omega) (by rw [size_alloc]; have := ex3.size; omega) ?_; intro v3 w5 o5 b5)
                refine ⟨⟨q + 1, _, by omega, by go_num, by simp [hpl], ?_, o5, ?_⟩, by simp [intOf]; omega⟩
                · rw [List.map_append, hps]; exact Hnext.out
                · exact Below.trans (ex3.trans (Ext.alloc wr _)) b5
          · have hRe : R = parL now b c q := by
              rw [hRr]
              unfold rupG
              rw [HGo.out, if_neg (by omega)]
            have hRl : R.length = b := by rw [hRe]; exact hnl
            have HRl := Lib.hid hRl
            have HRe := Lib.hid hRe
            have F3 := Lib.hid FB; have F4 := Lib.hid FBJ
            have j0 : ¬ ((q : Int) < (k : Int)) := by omega
            have dN : decide (q < k) = false := by simpa using hqN
            clear FB FBJ hRr hRe hRl hnl hqN
            go_wp2
            generalize wa.alloc (.cells (bs (List.replicate b 0)) 5) = w3 at *
            go_loopw [18] (fun i wr => InvRg wa wa.heap.size wa.heap.size R b i wr) (fun i _ => b - (intOf i).toNat)
            case atStart => exact ⟨0, by omega, rfl, e1, z1, f0⟩
            case round =>
              obtain ⟨j, hj, rfl, e3, z3, bR⟩ := hrel
              by_cases hjb : j < b
              · have k0 : (j : Int) < (b : Int) := by omega
                have ex3 := ex.trans e3
                have cb := F3.out wr ex3
                have cbj := F4.out wr ex3 j hjb
                have hfl := fillN_length R b j HRl.out hj
                have cw := bR.cell j (by rw [hfl]; exact hjb)
                have cf := bR.frozen j
                have bR2 := bR.set j (R[j]?.getD 0) (by rw [hfl]; exact hjb)
                rw [fillN_set R b j HRl.out hjb, HRe.out] at bR2
                have e4 : Ext wa (wr.setCell ⟨wa.heap.size, j, none⟩ (.int .u8 ((parL now b c q)[j]?.getD 0))) := Below.setCell (p := ⟨wa.heap.size, j, none⟩) e3 (Nat.le_refl _) _
                have z4 : wa.heap.size ≤ (wr.setCell ⟨wa.heap.size, j, none⟩ (.int .u8 ((parL now b c q)[j]?.getD 0))).heap.size := by simpa using z3
                rw [← HRe.out] at bR2
                clear hfl bR e3 ex3 z3
                generalize hnj : (parL now b c q)[j]?.getD 0 = nj at *
                have hRj : R[j]?.getD 0 = nj := by rw [HRe.out]; exact hnj
                rw [hRj] at bR2
                clear hnj hRj
                have B3 := Lib.hid bR2; clear bR2
                go_wp2
                exact ⟨⟨j + 1, by omega, by go_num, e4, z4, B3.out⟩, by simp [intOf]; omega⟩
              · obtain rfl : j = b := by omega
                have k0 : ¬ ((j : Int) < (j : Int)) := by omega
                replace bR : Buf wr wa.heap.size R := by
                  have : fillN R j j = R := by unfold fillN; rw [List.take_of_length_le (by rw [HRl.out]; omega)]; simp
                  rwa [this] at bR
                have hsx := buf_srcs (n := j) (cap := j) bR (HRl.out) (Nat.le_refl _) ow ex
                have ow2 := ow.ext src_kept e3
                have ex3 := ex.trans e3
                have hsy := src_one_more (x := .slice (some ⟨wa.heap.size, 0, none⟩) j j) (t := 22) hsx
                clear hsx bR ow ex
                go_wp2_with (refine list_append_g src_kept rfl (.tmp 114) (.tmp 116) 23 rfl (.slice none 0 0) 24 Tryd.underlying23 slzero rfl (by omega) w2.heap.size _ ps (Old w2) rfl (own_one src_kept ow2 _ 22) wr.heap.size 1 _ R rfl (cell_one wr _ 22) rfl hsy (by omega) (by rw [size_alloc]; have := ex3.size; omega) ?_; intro v3 w5 o5 b5)
                refine ⟨⟨q + 1, _, by omega, by go_num, by simp [hpl], ?_, o5, ?_⟩, by simp [intOf]; omega⟩
                · rw [List.map_append, hps]; exact Hnext.out
                · exact Below.trans (ex3.trans (Ext.alloc wr _)) b5
        · obtain rfl : q = n := by omega
          have hp : ps.map (·.2) = updL par old now b c := by rw [hps, List.take_of_length_le (by rw [HL.out]; omega)]
          go_wp2
          go_ret2
          exact ⟨_, rfl, ex2.trans ex, fun bh hb => by rw [← hp]; exact ow.lr bh (hb.imp_left fun h => ⟨Nat.lt_of_lt_of_le h ex2.size, Nat.lt_of_lt_of_le h ex2.size⟩)⟩
end Go.Proofs.YthkdibppddamlaaDoor
