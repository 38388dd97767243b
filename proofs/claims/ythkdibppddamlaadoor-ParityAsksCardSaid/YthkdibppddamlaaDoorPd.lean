/- The contracts of fits, Update (the code's) and Lists. -/
import Derived.Test.YthkdibppddamlaaDoorPb
namespace Go.Proofs.YthkdibppddamlaaDoor
open Go.RowKit Go.Sha
set_option linter.unusedSimpArgs false

theorem lr_at {w : World} {v : Value} {ls : List (List Int)} {bh : Nat} (h : LR w v ls bh) (h0 : 0 < ls.length) : ∃ cap pb po, v = .slice (some ⟨pb, po, none⟩) ls.length cap ∧ pb ≠ bh ∧ ∀ j m, ls[j]? = some m → ∃ x, w.cell? ⟨pb, po + j, none⟩ = some x ∧ Src w x m bh := by
  obtain ⟨ad, cap, pb, po, rfl, h1, h2, h3⟩ := h
  obtain rfl := h1 h0
  exact ⟨cap, pb, po, rfl, h2, h3⟩

/-- Has it the form of what Build makes? -/
def fitsL (par : List (List Int)) (size B K : Int) : Bool := !(grpsN 1 B K == 0) && ((par.length : Int) == grpsN size B K) && par.all fun x => (x.length : Int) == B
def InvF (w : World) (par : List (List Int)) (B : Int) (i : Value) (wr : World) : Prop := ∃ k : Nat, k ≤ par.length ∧ i = .int .i64 k ∧ w = wr ∧ (par.take k).all (fun x => (x.length : Int) == B) = true

set_option maxHeartbeats 1000000 in
theorem fits_any (v : Value) (par : List (List Int)) (s B K : Int) (w : World) (bh : Nat) (hv : LR w v par bh) (hl : par.length ≤ 1000000000) :
    Calls Tryd.prog 20 #[v, .int .i64 s, .int .i64 B, .int .i64 K] w fun e w' => e = .returned (.bool (fitsL par s B K)) ∧ w = w' := by
  obtain ⟨ad, cap, ev⟩ := hv.len
  subst ev
  obtain ⟨N, hN⟩ : ∃ N, N = par.length := ⟨_, rfl⟩
  have HN := Lib.hid hN
  obtain ⟨G, hG⟩ : ∃ G, G = grpsN s B K := ⟨_, rfl⟩
  obtain ⟨G1, hG1⟩ : ∃ G, G = grpsN 1 B K := ⟨_, rfl⟩
  have HG := Lib.hid hG
  have HG1 := Lib.hid hG1
  have C1 := groups_any 1 B K w
  have C2 := groups_any s B K w
  rw [← hG1] at C1
  rw [← hG] at C2
  have F : fitsL par s B K = (!(G1 == 0) && ((N : Int) == G) && par.all fun x => (x.length : Int) == B) := by rw [fitsL, hN, hG, hG1]
  rw [F]
  clear F hG hG1
  rw [← hN] at hl hv ⊢
  clear hN
  have HV := Lib.hid hv; clear hv
  by_cases g1 : G1 = 0
  · subst g1
    go_enter Tryd.func20, Tryd.ntmps20
    go_wp2_with fail
    refine C1.mono ?_
    rintro e w' ⟨rfl, rfl⟩
    go_wp2
    go_ret
    exact ⟨rfl, rfl⟩
  have t1 : (G1 == 0) = false := by simpa using g1
  by_cases g2 : (N : Int) = G
  · have t2 : ((N : Int) == G) = true := by simpa using g2
    rw [t1, t2, Bool.not_false, Bool.true_and, Bool.true_and]
    replace t2 : ((N : Int) != G) = false := by simpa using g2
    clear g1 g2
    go_enter Tryd.func20, Tryd.ntmps20
    go_wp2_with fail
    refine C1.mono ?_
    rintro e w' ⟨rfl, rfl⟩
    go_wp2_with fail
    refine C2.mono ?_
    rintro e w' ⟨rfl, rfl⟩
    clear C1 C2
    go_wp2
    go_loopw [26] (fun i wr => InvF w par B i wr) (fun i _ => N - (intOf i).toNat)
    case atStart => exact ⟨0, by omega, rfl, rfl, by simp⟩
    case round =>
      obtain ⟨k, hk, rfl, rfl, hall⟩ := hrel
      rw [← HN.out] at hk
      by_cases hlt : k < N
      · have hv := HV.out
        rw [HN.out] at hv
        obtain ⟨cap1, pb, po, ev1, _, hc1⟩ := lr_at hv (by rw [← HN.out]; omega)
        injection ev1 with a1 _ a2
        subst a1 a2
        obtain ⟨m1, hm1⟩ : ∃ m, par[k]? = some m := ⟨_, List.getElem?_eq_getElem (by rw [← HN.out]; exact hlt)⟩
        obtain ⟨x1, c1, s1⟩ := hc1 k m1 hm1
        obtain ⟨adx, capx, ex1⟩ := s1.len
        subst ex1
        clear hv hc1 s1
        have i0 : (k : Int) < (N : Int) := by omega
        have hstep : (par.take (k + 1)).all (fun x => (x.length : Int) == B) = ((m1.length : Int) == B) := by
          rw [List.take_add_one, hm1, List.all_append, hall]; simp
        have hmem := List.mem_of_getElem? hm1
        have Hs := Lib.hid hstep; clear hstep hm1 hall
        by_cases hb : (m1.length : Int) = B
        · have t3 : ((m1.length : Int) == B) = true := by simpa using hb
          rw [t3] at Hs
          replace t3 : ((m1.length : Int) != B) = false := by simpa using hb
          have Hb := Lib.hid hb; clear hb hmem
          go_wp2
          exact ⟨⟨k + 1, by rw [← HN.out]; omega, by go_num, rfl, Hs.out⟩, by simp [intOf]; omega⟩
        · have t3 : ((m1.length : Int) == B) = false := by simpa using hb
          have fin : par.all (fun x => (x.length : Int) == B) = false := by
            rw [List.all_eq_false]
            exact ⟨m1, hmem, by simpa using hb⟩
          replace t3 : ((m1.length : Int) != B) = true := by simpa using hb
          have Hf := Lib.hid fin
          clear hb fin hmem
          go_wp2
          go_ret
          exact ⟨by rw [Hf.out]; rfl, rfl⟩
      · obtain rfl : k = N := by omega
        rw [List.take_of_length_le (by rw [← HN.out]; omega)] at hall
        have Hf := Lib.hid hall
        clear hall
        go_wp2
        go_ret
        exact ⟨by rw [Hf.out]; rfl, rfl⟩
  · have t2 : ((N : Int) == G) = false := by simpa using g2
    rw [t1, t2]
    replace t2 : ((N : Int) != G) = true := by simpa using g2
    clear g1 g2
    go_enter Tryd.func20, Tryd.ntmps20
    go_wp2_with fail
    refine C1.mono ?_
    rintro e w' ⟨rfl, rfl⟩
    go_wp2_with fail
    refine C2.mono ?_
    rintro e w' ⟨rfl, rfl⟩
    go_wp2
    go_ret
    exact ⟨rfl, rfl⟩

/-- A list in new memory, and an error's number. -/
def UPost (w : World) (ls : List (List Int)) (err : Int) (e : Ending) (w' : World) : Prop := ∃ v, e = .returned (.tuple #[v, .int .i64 err]) ∧ Ext w w' ∧ ∀ bh, (bh < w.heap.size ∨ w'.heap.size ≤ bh) → LR w' v ls bh
theorem sz5b : (Tryd.prog.info? 5).map (·.size) = some 1 := by kernel_rfl
/-- A new block filled with bytes that lie elsewhere. -/
theorem copy_zeros (w : World) (g b : Nat) (m : List Int) (h : At w g (bs (List.replicate b 0)) 5) (hm : m.length = b) : Buf (w.setCells g 0 (m.map (Value.int .u8))) g m ∧ Only g w (w.setCells g 0 (m.map (Value.int .u8))) := by
  refine ⟨?_, Only.cells g _ 0 w⟩
  have := At.cells (t := 5) (m.map (Value.int .u8)) ((List.replicate b (0 : Int)).map (Value.int .u8)) 0 w h (by simp [hm])
  have e : splice ((List.replicate b (0 : Int)).map (Value.int .u8)) 0 (m.map (Value.int .u8)) = m.map (Value.int .u8) := by
    unfold splice
    simp [hm]
  rw [e] at this
  exact ⟨bs m, this, by rw [bs_size]; omega, fun j hj => by rw [bs_get m j hj]; rfl⟩

theorem update_not (v vo vn : Value) (par : List (List Int)) (old : List Int) (B K : Int) (w : World) (bh : Nat) (hv : LR w v par bh) (hl : par.length ≤ 1000000000) (ho : Src w vo old bh) (hf : fitsL par old.length B K = false) :
    Calls Tryd.prog 7 #[v, vo, vn, .int .i64 B, .int .i64 K] w (UPost w [] 1) := by
  obtain ⟨ad, cap, ev⟩ := ho.len
  subst ev
  go_enter Tryd.func7, Tryd.ntmps7
  go_wp2_with fail
  refine (fits_any v par old.length B K w bh hv hl).mono ?_
  rintro e w' ⟨rfl, rfl⟩
  rw [hf]
  go_wp2
  go_ret2
  exact ⟨_, rfl, Ext.refl w, fun bh _ => LR.nil w bh⟩

set_option maxHeartbeats 4000000 in
theorem update_ok (v vo vn : Value) (par : List (List Int)) (old now : List Int) (B K : Int) (w : World) (hv : LR w v par w.heap.size) (hl : par.length ≤ 1000000000) (ho : Src w vo old w.heap.size) (hn : Src w vn now w.heap.size) (hm : old.length ≤ 1048576) (hm2 : now.length ≤ 1048576) (hf : fitsL par old.length B K = true) :
    Calls Tryd.prog 7 #[v, vo, vn, .int .i64 B, .int .i64 K] w (UPost w (updL par old now B K) 0) := by
  obtain ⟨ado, capo, ev⟩ := ho.len
  subst ev
  obtain ⟨adn, capn, ev⟩ := hn.len
  subst ev
  obtain ⟨ad, cap, ev⟩ := hv.len
  subst ev
  obtain ⟨n, hgn⟩ : ∃ n : Nat, grpsN now.length B K = n := Int.eq_ofNat_of_zero_le (grpsN_nonneg _ _ _)
  have hnb : n ≤ 1048584 := by have := grpsN_le now.length B K; omega
  have hL := updL_length par old now B K
  rw [hgn, Int.toNat_natCast] at hL
  have HL := Lib.hid hL; clear hL
  have hall : ∀ x ∈ par, (x.length : Int) = B := by
    unfold fitsL at hf
    simp only [Bool.and_eq_true, List.all_eq_true, beq_iff_eq] at hf
    exact hf.2
  have Hall := Lib.hid hall; clear hall
  have HV := Lib.hid hv
  have HO := Lib.hid ho
  have HW := Lib.hid hn
  go_enter Tryd.func7, Tryd.ntmps7
  go_wp2_with fail
  refine (fits_any _ par old.length B K w _ hv hl).mono ?_
  rintro e w' ⟨rfl, rfl⟩
  rw [hf]
  clear hv ho hn hf
  go_wp2_with fail
  refine (groups_any now.length B K w).mono ?_
  rintro e w' ⟨rfl, rfl⟩
  rw [hgn]
  have Hn := Lib.hid hgn; clear hgn
  go_wp2
  go_loopw [12, 27] (fun l i wr => InvL w (updL par old now B K) n l i wr) (fun _ i _ => n - (intOf i).toNat)
  case atStart => exact ⟨0, [], by omega, rfl, rfl, by simp, OwnG.nil _ _ _ _ _, Ext.refl w⟩
  case round =>
    obtain ⟨k, ps, hk, rfl, hpl, hps, ow, ex⟩ := hrel
    by_cases hlt : k < n
    · obtain ⟨hK1, hK2, hB1, hB2⟩ := grpsN_pos now.length B K (by rw [Hn.out]; omega)
      obtain ⟨b, rfl⟩ := Int.eq_ofNat_of_zero_le (show 0 ≤ B by omega)
      obtain ⟨c, rfl⟩ := Int.eq_ofNat_of_zero_le (show 0 ≤ K by omega)
      have i0 : (k : Int) < (n : Int) := by omega
      obtain ⟨adl, capl, el⟩ := ow.len
      subst el
      rw [hpl] at ow ⊢
      have mk := make_bytes b (by omega)
      have a1 := At.new wr (bs (List.replicate b 0)) 5
      have e1 : Ext wr (wr.alloc (.cells (bs (List.replicate b 0)) 5)) := Ext.alloc wr _
      have so1 : Src (wr.alloc (.cells (bs (List.replicate b 0)) 5)) (.slice ado old.length capo) old wr.heap.size := (HO.out.now ex).ext e1
      have sn1 : Src (wr.alloc (.cells (bs (List.replicate b 0)) 5)) (.slice adn now.length capn) now wr.heap.size := (HW.out.now ex).ext e1
      have lv1 : LR (wr.alloc (.cells (bs (List.replicate b 0)) 5)) (.slice ad par.length cap) par wr.heap.size := (HV.out.now ex).ext e1
      have z1 : wr.heap.size ≤ (wr.alloc (.cells (bs (List.replicate b 0)) 5)).heap.size := by rw [size_alloc]; omega
      have hget := updL_get par old now b c k (by rw [Hn.out]; simp; omega)
      rw [Int.toNat_natCast] at hget
      have Hnext := Lib.hid (take_next hget); clear hget
      by_cases hg : k < par.length
      · obtain ⟨m1, hm1⟩ : ∃ m, par[k]? = some m := ⟨_, List.getElem?_eq_getElem hg⟩
        have hm1l : m1.length = b := by have := Hall.out m1 (List.mem_of_getElem? hm1); omega
        obtain ⟨cap1, pb, po, ev1, hpb, hc1⟩ := lr_at lv1 (by omega)
        injection ev1 with q1 _ q2
        subst q1 q2
        obtain ⟨x1, c1, s1⟩ := hc1 k m1 hm1
        obtain ⟨adx, capx, xb, xo, rfl, y2, y3, y4, y5, y6⟩ := s1
        obtain rfl := y3 (by omega)
        have j0 : (k : Int) < (par.length : Int) := by omega
        have d0 : decide (k < par.length) = true := by simpa using hg
        have Hm1 := Lib.hid hm1; clear hm1
        rw [hm1l] at y2 y5 c1
        have hsrc : ∀ j u, (m1.map (Value.int .u8))[j]? = some u → (wr.alloc (.cells (bs (List.replicate b 0)) 5)).cell? ((⟨xb, xo, none⟩ : Addr).add j) = some u := by
          intro j u hu
          have hj : j < m1.length := by simpa using (List.getElem?_eq_some_iff.1 hu).1
          rw [Addr.add_mid, y5 j (by omega), ← hu, List.getElem?_map, List.getElem?_eq_getElem hj]; rfl
        have hth : (wr.alloc (.cells (bs (List.replicate b 0)) 5)).there wr.heap.size 0 b := fun j hj => ⟨by rw [Nat.zero_add, a1.cell, bs_get _ _ (by simp; omega)]; rfl, by rw [Nat.zero_add]; exact a1.frozen j⟩
        obtain ⟨b2, o2⟩ := copy_zeros _ wr.heap.size b m1 a1 hm1l
        have S := Lib.hid hsrc; clear hsrc
        have Th := Lib.hid hth; clear hth
        clear hc1 y2 y3 y4 y5 y6 lv1 a1
        go_wp2_with (refine list_copy rfl (.tmp 36) (.tmp 40) 22 22 rfl 5 Tryd.underlying22 sz5b wr.heap.size 0 b b ⟨xb, xo, none⟩ b capx rfl rfl (m1.map (Value.int .u8)) b (by rw [List.length_map]; exact hm1l) (by simp) S.out Th.out (by simp [Value.oneCell']) ?_)
        have e2 : Ext wr _ := o2.below e1 (Nat.le_refl _) z1
        have so2 := so1.only o2
        have sn2 := sn1.only o2
        clear S Th c1
        generalize (wr.alloc (.cells (bs (List.replicate b 0)) 5)).setCells wr.heap.size 0 (m1.map (Value.int .u8)) = w2 at *
        go_wp2_with fail
        refine (addGroup_any wr.heap.size b b _ old _ b c k w2 b2 hm1l so2 hm (by simp) (by omega) (by omega) (by omega)).mono ?_
        rintro e w3 ⟨rfl, o3, b3⟩
        go_wp2_with fail
        refine (addGroup_any wr.heap.size b b _ now _ b c k w3 b3 (by rw [grp_length]; exact hm1l) (sn2.only o3) hm2 (by simp) (by omega) (by omega) (by omega)).mono ?_
        rintro e w4 ⟨rfl, o4, b4⟩
        replace b4 : Buf w4 wr.heap.size (updG par old now b c k) := by unfold updG; rw [Hm1.out, Option.getD_some]; exact b4
        have hln : (updG par old now b c k).length = b := by unfold updG; rw [grp_length, grp_length, Hm1.out, Option.getD_some]; simp [hm1l]
        have z3 := e2.size
        have z4 := o3.size
        have ex1 : Ext wr w4 := o4.below (o3.below e2 (Nat.le_refl _) z3) (Nat.le_refl _) (by omega)
        have hsx := buf_srcs (n := b) (cap := b) b4 hln (Nat.le_refl _) ow ex
        have ow2 := ow.ext src_kept ex1
        have ex2 := ex.trans ex1
        have hsy := src_one_more (x := .slice (some ⟨wr.heap.size, 0, none⟩) b b) (t := 22) hsx
        clear hsx b2 b3 b4 ow ex so1 sn1 so2 sn2 e1 mk z3 z4 hln
        go_wp2_with (refine list_append_g src_kept rfl (.tmp 54) (.tmp 56) 23 rfl (.slice none 0 0) 24 Tryd.underlying23 slzero rfl (by omega) w.heap.size _ ps (Old w) rfl (own_one src_kept ow2 _ 22) w4.heap.size 1 _ (updG par old now b c k) rfl (cell_one w4 _ 22) rfl hsy (by omega) (by rw [size_alloc]; have := ex2.size; omega) ?_; intro v3 w5 o5 b5)
        refine ⟨⟨k + 1, _, by omega, by go_num, by simp [hpl], ?_, o5, ?_⟩, by simp [intOf]; omega⟩
        · rw [List.map_append, hps]; exact Hnext.out
        · exact Below.trans (ex2.trans (Ext.alloc w4 _)) b5
      · have j0 : ¬ ((k : Int) < (par.length : Int)) := by omega
        have d0 : decide (k < par.length) = false := by simpa using hg
        have Hm1 := Lib.hid (show par[k]? = none from List.getElem?_eq_none_iff.2 (by omega))
        have b2 := Buf.new wr (List.replicate b 0)
        have so2 := so1
        have sn2 := sn1
        have e2 := e1
        have hzl : (List.replicate b (0 : Int)).length = b := by simp
        clear a1 lv1 hg
        go_wp2_with fail
        generalize wr.alloc (.cells (bs (List.replicate b 0)) 5) = w2 at *
        refine (addGroup_any wr.heap.size b b _ old _ b c k w2 b2 hzl so2 hm (by simp) (by omega) (by omega) (by omega)).mono ?_
        rintro e w3 ⟨rfl, o3, b3⟩
        go_wp2_with fail
        refine (addGroup_any wr.heap.size b b _ now _ b c k w3 b3 (by rw [grp_length]; exact hzl) (sn2.only o3) hm2 (by simp) (by omega) (by omega) (by omega)).mono ?_
        rintro e w4 ⟨rfl, o4, b4⟩
        replace b4 : Buf w4 wr.heap.size (updG par old now b c k) := by unfold updG; rw [Hm1.out, Option.getD_none, Int.toNat_natCast]; exact b4
        have hln : (updG par old now b c k).length = b := by unfold updG; rw [grp_length, grp_length, Hm1.out, Option.getD_none, Int.toNat_natCast]; simp [hzl]
        have z3 := e2.size
        have z4 := o3.size
        have ex1 : Ext wr w4 := o4.below (o3.below e2 (Nat.le_refl _) z3) (Nat.le_refl _) (by omega)
        have hsx := buf_srcs (n := b) (cap := b) b4 hln (Nat.le_refl _) ow ex
        have ow2 := ow.ext src_kept ex1
        have ex2 := ex.trans ex1
        have hsy := src_one_more (x := .slice (some ⟨wr.heap.size, 0, none⟩) b b) (t := 22) hsx
        clear hsx b2 b3 b4 ow ex so1 sn1 so2 sn2 e1 mk z3 z4 hln
        go_wp2_with (refine list_append_g src_kept rfl (.tmp 54) (.tmp 56) 23 rfl (.slice none 0 0) 24 Tryd.underlying23 slzero rfl (by omega) w.heap.size _ ps (Old w) rfl (own_one src_kept ow2 _ 22) w4.heap.size 1 _ (updG par old now b c k) rfl (cell_one w4 _ 22) rfl hsy (by omega) (by rw [size_alloc]; have := ex2.size; omega) ?_; intro v3 w5 o5 b5)
        refine ⟨⟨k + 1, _, by omega, by go_num, by simp [hpl], ?_, o5, ?_⟩, by simp [intOf]; omega⟩
        · rw [List.map_append, hps]; exact Hnext.out
        · exact Below.trans (ex2.trans (Ext.alloc w4 _)) b5
    · obtain rfl : k = n := by omega
      have hp : ps.map (·.2) = updL par old now B K := by rw [hps, List.take_of_length_le (by rw [HL.out]; omega)]
      go_wp2
      go_ret2
      exact ⟨_, rfl, ex, fun bh hb => by rw [← hp]; exact ow.lr bh (hb.imp_left fun h => ⟨h, h⟩)⟩
end Go.Proofs.YthkdibppddamlaaDoor
