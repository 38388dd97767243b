/- What voted answers where three copies are there, two of them at least the page of an image. No conditions but those named: a contract. What Open answers on a store with copies. No conditions but those named: contracts. Open on a store that has the directory and no copies. No conditions: contracts. -/
import Derived.Test.YtnhokjnmpdiokaaGreatDoorKcM
import Derived.Test.YtnhokjnmpdiokaaGreatDoorIrM
import Derived.Test.YtnhokjnmpdiokaaGreatDoorJkM
namespace Go.Proofs.YtnhokjnmpdiokaaGreatDoor
open Go.RowKit Go.Sha Go.Pth
set_option linter.unusedSimpArgs false
set_option linter.unusedVariables false

theorem own_copy {w : World} {base : Nat} {v : Value} {m : List Int} (h : OwnB w base v m) (hm : Byt m) (hl : m.length ≤ 70000) (hK : KAt w) (hb : base ≤ w.heap.size) :
    Calls Tryz.prog 63 #[v] w fun e w' => ∃ ad n cap, e = .returned (.slice ad n cap) ∧ n = (keepI m).length ∧ Ext w w' ∧ ∀ bh, (bh < base ∨ w'.heap.size ≤ bh) → Sha.Src w' (.slice ad n cap) (keepI m) bh := by
  refine (ofAn_any v m w hK (h.srcs _ (Or.inr (Nat.le_refl _))) hm (by omega)).mono fun e w' ⟨h1, h2⟩ => ?_
  unfold keepI
  by_cases q : okI m = true
  · rw [if_pos q] at h1 ⊢
    obtain ⟨ad, cap, ev⟩ := h.len
    subst ev
    exact ⟨ad, _, cap, h1, rfl, h2, fun bh hbh => (h.srcs bh (hbh.imp_right fun k => Nat.le_trans h2.size k)).ext h2⟩
  · rw [if_neg q] at h1 ⊢
    exact ⟨none, 0, 0, h1, rfl, h2, fun bh _ => src_nil w' bh⟩
def InvVc (w3 : World) (cc : Nat → List Int) (v t i : Value) (wr : World) : Prop := ∃ (k : Nat) (l : List (Value × List Int)), k ≤ 3 ∧ i = .int .i64 k ∧ t = .int .i64 k ∧ OwnG 50 Sha.Src wr w3.heap.size v l (fun _ => False) ∧ l.map (·.2) = (List.range k).map cc ∧ Ext w3 wr
set_option maxRecDepth 100000 in
set_option maxHeartbeats 16000000 in
theorem voted_con (sb : Nat) (w : World) (hK : KAt w) (con : Nat → List Int) (hcon : ∀ k, k < 3 → Byt (con k) ∧ (con k).length ≤ 70000)
    (RD0 : ∀ w1, Ext w w1 → ∀ k, k < 3 → Calls Tryz.prog 61 #[V.ptr sb, .string (cpT k)] w1 fun e w2 => ∃ x, e = .returned (.tuple #[x, .int .i64 0]) ∧ OwnB w2 w1.heap.size x (con k) ∧ Ext w1 w2)
    (gen : Nat) (ds : List RD) (hi : imageL ds = true) (hb : BytR ds) (ht : TimR ds) (hg : 1 ≤ gen ∧ gen ≤ 2147483647) (p q : Nat) (hpq : p < q) (hq : q < 3) (ep : con p = pageI gen ds) (eq : con q = pageI gen ds) :
    Calls Tryz.prog 42 #[V.ptr sb] w fun e w' => ∃ ab v' l', e = .returned (.tuple #[V.ptr ab, .int .i64 0]) ∧ Ext w w' ∧ w.heap.size ≤ ab ∧ V.At w' ab (acell sb gen v' false) 68 ∧ (∀ X' : Nat → Prop, (∀ i, X' i → i < w.heap.size ∨ i = ab) → RR X' w' v' l') ∧ l'.map RV.d = ds := by
  have CO := Lib.hid (copies_any w)
  have HK := Lib.hid hK
  have RD := Lib.hid RD0
  have HCN := Lib.hid hcon
  have HBB := Lib.hid (show Byt (bodyL ds) ∧ (bodyL ds).length ≤ 100000 from ⟨bodyL_byt ds hb, by have := image_body hi; omega⟩)
  have HBB2 := Lib.hid (refsF_body hi ht)
  have VP := Lib.hid (show voteP (keepI (con 0)) (keepI (con 1)) (keepI (con 2)) = ((gen : Int), bodyL ds) from vote_major gen hi hb hg (fun k => keepI (con k)) p q hpq hq (by show keepI (con p) = _; rw [ep]; exact keepI_page gen hi ht hg) (by show keepI (con q) = _; rw [eq]; exact keepI_page gen hi ht hg) (fun k hk => keepI_byt (hcon k hk).1))
  have VM := Lib.hid (mayP_page gen hi hg)
  obtain ⟨NB, hNB⟩ : ∃ n, n = (bodyL ds).length := ⟨_, rfl⟩
  have HNB := Lib.hid hNB
  clear hK RD0 hcon hi hb ht hg hpq hq ep eq hNB
  unfold V.ptr at RD ⊢
  go_enter Tryz.func42, Tryz.ntmps42
  go_wp2_with fail
  refine (CO.out).mono ?_
  rintro e w3 ⟨rfl, rfl⟩
  have E3 := Lib.hid (Ext.alloc w (.cells #[.string (cpT 0), .string (cpT 1), .string (cpT 2)] 9))
  have C3 := Lib.hid (cps_new w)
  generalize w.alloc (.cells #[.string (cpT 0), .string (cpT 1), .string (cpT 2)] 9) = w3 at *
  obtain ⟨b3, hb3⟩ : ∃ b, b = w.heap.size := ⟨_, rfl⟩
  rw [← hb3] at C3
  clear CO
  go_wp2
  go_loopw [4, 5, 17] (fun v t i wr => InvVc w3 (fun k => keepI (con k)) v t i wr) (fun _ _ i _ => 3 - (intOf i).toNat)
  case atStart => exact ⟨0, [], by omega, rfl, rfl, OwnG.nil _ _ _ _ _, rfl, Ext.refl _⟩
  case round =>
    obtain ⟨k, l, hk, rfl, rfl, ow, hl, ex⟩ := hrel
    obtain ⟨adl, capl, el⟩ := ow.len
    have hln : l.length = k := by have := congrArg List.length hl; simpa using this
    rw [hln] at el
    subst el
    by_cases hlt : k < 3
    · have i0 : (k : Int) < 3 := by omega
      have i1 : (0 : Int) ≤ (k : Int) := by omega
      have ck := ext_cell ex (C3.out.cell k k (by
        match k, hlt with
        | 0, _ => rfl
        | 1, _ => rfl
        | 2, _ => rfl))
      rw [Nat.zero_add] at ck
      rw [hb3] at ck
      have RK := Lib.hid (RD.out wr (E3.out.trans ex) k hlt)
      have OW := Lib.hid ow
      have EX := Lib.hid ex
      have HL := Lib.hid hl
      have HLN := Lib.hid hln
      have HC := Lib.hid (HCN.out k hlt)
      clear ow ex hl hln
      go_wp2_with fail
      refine (RK.out).mono ?_
      rintro e w4 ⟨x, rfl, ox, e4⟩
      have OF := Lib.hid (own_copy ox HC.out.1 HC.out.2 (HK.out.below ((E3.out.trans EX.out).trans e4) HK.out.lt) e4.size)
      have E4 := Lib.hid e4
      obtain ⟨adx, capx, exx⟩ := ox.len
      obtain ⟨NX, hNX⟩ : ∃ n, n = (con k).length := ⟨_, rfl⟩
      rw [← hNX] at exx
      clear e4 RK ck ox hNX
      subst exx
      go_wp2_with fail
      refine (OF.out).mono ?_
      rintro e w5 ⟨ad5, n5, cap5, rfl, hn5, e5, sr⟩
      have E5 := Lib.hid (E4.out.trans e5)
      have SR := Lib.hid sr
      have OW5 := Lib.hid (own_one src_kept (OwnG.ext src_kept OW.out E5.out) (.slice ad5 n5 cap5) 50)
      have SY := Lib.hid (show ∀ bh, ((fun _ => False) bh ∨ (.slice adl k capl : Value).ownBlock = some bh ∨ (w5.alloc (.cells #[.slice ad5 n5 cap5] 50)).heap.size ≤ bh) → Sha.Src (w5.alloc (.cells #[.slice ad5 n5 cap5] 50)) (.slice ad5 n5 cap5) (keepI (con k)) bh from fun bh hbh => by
        refine Sha.Src.ext (SR.out bh ?_) (Ext.alloc w5 _)
        rcases hbh with q | q | q
        · exact q.elim
        · exact Or.inl (OW.out.1.lt bh q).2
        · exact Or.inr (Nat.le_trans (Ext.alloc w5 (.cells #[.slice ad5 n5 cap5] 50)).size q))
      have HB := Lib.hid (show w3.heap.size ≤ (w5.alloc (.cells #[.slice ad5 n5 cap5] 50)).heap.size by have := EX.out.size; have := E5.out.size; rw [V.size_alloc]; omega)
      clear e5 OF sr hn5
      go_wp2_with (refine list_append_g src_kept rfl (.tmp 31) (.tmp 34) 115 rfl (.slice none 0 0) 24 Tryz.underlying115 slzero rfl (by omega) w3.heap.size _ l _ rfl OW5.out w5.heap.size 1 _ (keepI (con k)) rfl (cell_one w5 _ 50) rfl SY.out (by rw [HLN.out]; omega) HB.out ?_; intro v6 w6 o6 b6)
      refine ⟨⟨k + 1, _, by omega, by go_num, by go_num, o6, by rw [List.map_append, HL.out, List.range_succ, List.map_append]; rfl, ?_⟩, by simp [intOf]; omega⟩
      exact Below.trans (EX.out.trans (E5.out.trans (Ext.alloc w5 (.cells #[.slice ad5 n5 cap5] 50)))) b6
    · have d0 : decide ((k : Int) < 3) = false := by simp; omega
      obtain rfl : k = 3 := by omega
      obtain ⟨x0, x1, x2, el3⟩ : ∃ x0 x1 x2, l = [x0, x1, x2] := by
        match l, hln with
        | [a, b, c], _ => exact ⟨a, b, c, rfl⟩
      subst el3
      have m0 : x0.2 = keepI (con 0) := by have := congrArg (·[0]?) hl; simpa using this
      have m1 : x1.2 = keepI (con 1) := by have := congrArg (·[1]?) hl; simpa [List.range_succ] using this
      have m2 : x2.2 = keepI (con 2) := by have := congrArg (·[2]?) hl; simpa [List.range_succ] using this
      have s0 := ow.2 x0 (by simp) _ (Or.inr (Or.inr (Nat.le_refl _)))
      have s1 := ow.2 x1 (by simp) _ (Or.inr (Or.inr (Nat.le_refl _)))
      have s2 := ow.2 x2 (by simp) _ (Or.inr (Or.inr (Nat.le_refl _)))
      obtain ⟨g, hg, hf⟩ : ∃ g, adl = some ⟨g, 0, none⟩ ∧ ∀ j y, [x0, x1, x2][j]? = some y → wr.cell? ⟨g, j, none⟩ = some y.1 := by
        obtain ⟨⟨_, ⟨hv, h0⟩ | ⟨g, cap, cur, hv, hg, hw, hn, _, _, hx⟩⟩, _⟩ := ow
        · simp at h0
        · injection hv with hv
          refine ⟨g, hv, fun j y hj => ?_⟩
          have hw' : wr.heap[g]? = some (.cells cur 50 (0, 0)) := hw
          have hj3 : j < 3 := by have := (List.getElem?_eq_some_iff.1 hj).1; simpa using this
          have e : cur.toList[j]? = some y.1 := by
            rw [← List.getElem?_take_of_lt (by simpa using hj3 : j < [x0, x1, x2].length * 1), hx, List.getElem?_map, hj]
            rfl
          simp only [World.cell?, hw']
          rw [← Array.getElem?_toList, e]
          rfl
      subst hg
      have f0 := hf 0 x0 rfl
      have f1 := hf 1 x1 rfl
      have f2 := hf 2 x2 rfl
      obtain ⟨y0, z0⟩ := x0
      obtain ⟨y1, z1⟩ := x1
      obtain ⟨y2, z2⟩ := x2
      simp only at m0 m1 m2 s0 s1 s2 f0 f1 f2
      subst m0 m1 m2
      obtain ⟨ad0, cp0, ey0⟩ := s0.len
      obtain ⟨ad1, cp1, ey1⟩ := s1.len
      obtain ⟨ad2, cp2, ey2⟩ := s2.len
      have S0H := Lib.hid s0
      have S1H := Lib.hid s1
      have S2H := Lib.hid s2
      obtain ⟨n0, hn0⟩ : ∃ n, n = (keepI (con 0)).length := ⟨_, rfl⟩
      obtain ⟨n1, hn1⟩ : ∃ n, n = (keepI (con 1)).length := ⟨_, rfl⟩
      obtain ⟨n2, hn2⟩ : ∃ n, n = (keepI (con 2)).length := ⟨_, rfl⟩
      rw [← hn0] at ey0
      rw [← hn1] at ey1
      rw [← hn2] at ey2
      clear s0 s1 s2 hn0 hn1 hn2
      subst ey0 ey1 ey2
      have EX := Lib.hid (E3.out.trans ex)
      have KR := HK.out.below (E3.out.trans ex) HK.out.lt
      have CB := fun (k : Nat) (hk : k < 3) => (⟨keepI_byt (HCN.out k hk).1, by have := keepI_len (con k); have := (HCN.out k hk).2; omega⟩ : Byt (keepI (con k)) ∧ (keepI (con k)).length ≤ 100000000)
      have VT := Lib.hid (fun w1 (e1 : Ext wr w1) => ((vote_any (.slice ad0 n0 cp0) (.slice ad1 n1 cp1) (.slice ad2 n2 cp2) (keepI (con 0)) (keepI (con 1)) (keepI (con 2)) w1 (KR.below e1 KR.lt) (S0H.out.now e1) (S1H.out.now e1) (S2H.out.now e1) ⟨CB 0 (by omega), CB 1 (by omega), CB 2 (by omega)⟩).mono fun e w' ⟨hv, _⟩ => (by
        obtain ⟨vb, vm, h1, e5, sb5, _⟩ := hv (by rw [VP.out]; exact VM.out)
        rw [VP.out] at h1 sb5
        obtain ⟨adb, capb, eb⟩ := sb5.len
        simp only at eb
        rw [← HNB.out] at eb
        subst eb
        exact ⟨_, h1, adb, capb, vm, rfl, e5, sb5⟩ : ∃ v, e = Ending.returned v ∧ ∃ adb capb vm, v = (Value.tuple #[.agg #[.int .i64 (gen : Int), .slice adb NB capb], vm, .int .i64 0]) ∧ Ext w1 w' ∧ Sha.Src w' (.slice adb NB capb) (bodyL ds) w'.heap.size)))
      clear ow ex hf hlt KR RD hl hln CB S0H S1H S2H hb3
      go_upto_region 11 with fail
      refine wp_region_held (S := Ext wr) (by kernel_rfl) ?_
      change wpAnyH _ _ _ _ _ _ _ _ wr.drew
      have S0 : Ext wr wr.drew := Below.drew (Below.refl _ _)
      generalize wr.drew = W at *
      refine tkS 0 (some 38) (.slice (some ⟨g, 0, none⟩) 3 capl) S0 ?_
      simp only [pt0, pt4, pt1, pt2, pt3]
      refine tkS 1 (some 39) (.pointer (some ⟨g, 0, none⟩)) S0 ?_
      simp only [pt0, pt4, pt1, pt2, pt3]
      refine tkS 2 (some 40) (.slice ad0 n0 cp0) S0 ?_ (hy := fun w' hw' => by have cc := ext_cell hw' f0; go_simp)
      simp only [pt0, pt4, pt1, pt2, pt3]
      refine tkS 3 (some 41) (.slice (some ⟨g, 0, none⟩) 3 capl) S0 ?_
      simp only [pt0, pt4, pt1, pt2, pt3]
      refine tkS 4 (some 42) (.pointer (some ⟨g, 1, none⟩)) S0 ?_
      simp only [pt0, pt4, pt1, pt2, pt3]
      refine tkS 5 (some 43) (.slice ad1 n1 cp1) S0 ?_ (hy := fun w' hw' => by have cc := ext_cell hw' f1; go_simp)
      simp only [pt0, pt4, pt1, pt2, pt3]
      refine tkS 6 (some 44) (.slice (some ⟨g, 0, none⟩) 3 capl) S0 ?_
      simp only [pt0, pt4, pt1, pt2, pt3]
      refine tkS 7 (some 45) (.pointer (some ⟨g, 2, none⟩)) S0 ?_
      simp only [pt0, pt4, pt1, pt2, pt3]
      refine tkS 8 (some 46) (.slice ad2 n2 cp2) S0 ?_ (hy := fun w' hw' => by have cc := ext_cell hw' f2; go_simp)
      simp only [pt0, pt4, pt1, pt2, pt3]
      refine nextTwo 9 14 rfl rfl (by kernel_rfl) rfl rfl ?_ ?_
      · refine callS (some 47) rfl 64 #[(.slice ad0 n0 cp0), (.slice ad1 n1 cp1), (.slice ad2 n2 cp2)] (by go_simp) (fun v w' => ∃ adb capb vm, v = (.tuple #[.agg #[.int .i64 (gen : Int), .slice adb NB capb], vm, .int .i64 0]) ∧ Ext W w' ∧ Sha.Src w' (.slice adb NB capb) (bodyL ds) w'.heap.size) (VT.out W S0) ?_
        rintro v1 W1 ⟨adb, capb, vm, rfl, e1, s1⟩
        simp only [pt0, pt4, pt1, pt2, pt3]
        have S1 := S0.trans e1
        refine ⟨S1, ?_⟩
        refine tkS 10 (some 37) (.tuple #[.agg #[.int .i64 (gen : Int), .slice adb NB capb], vm, .int .i64 0]) S1 ?_
        simp only [pt0, pt4, pt1, pt2, pt3]
        refine tkS 11 (some 48) (.agg #[.int .i64 (gen : Int), .slice adb NB capb]) S1 ?_
        simp only [pt0, pt4, pt1, pt2, pt3]
        refine tkS 12 (some 49) vm S1 ?_
        simp only [pt0, pt4, pt1, pt2, pt3]
        refine tkS 13 (some 50) (.int .i64 0) S1 ?_
        simp only [pt0, pt4, pt1, pt2, pt3]
        have one : (#[.int .i64 (gen : Int), .slice adb NB capb] : Array Value).all (·.oneCell') = true := by simp [Value.oneCell']
        have sz : (Tryz.prog.info? 108).map (·.size) = some (#[.int .i64 (gen : Int), .slice adb NB capb] : Array Value).size := szPage
        refine nextS 14 rfl (by kernel_rfl) rfl (makeS (some 10) rfl (.pointer (some ⟨W1.heap.size, 0, none⟩)) (w1 := W1.alloc (.cells #[.int .i64 0, .slice none 0 0] 108)) (by go_simp) ?_)
        simp only [pt0, pt4, pt1, pt2, pt3]
        have S2 : Ext wr (W1.alloc (.cells #[.int .i64 0, .slice none 0 0] 108)) := S1.trans (Ext.alloc _ _)
        have aa := At.new W1 #[.int .i64 0, .slice none 0 0] 108
        have hsz := S1.size
        refine ⟨S2, ?_⟩
        refine nextS 15 rfl (by kernel_rfl) rfl (wp_store_row 108 (.tmp 10) (.tmp 48) rfl W1.heap.size _ rfl rfl 108 _ aa sz rfl one ?_)
        have E6 : Ext wr ((W1.alloc (.cells #[.int .i64 0, .slice none 0 0] 108)).setRow W1.heap.size #[.int .i64 (gen : Int), .slice adb NB capb]) := ext_only' S2 (Only.setRow W1.heap.size _ #[.int .i64 (gen : Int), .slice adb NB capb]) hsz
        have A6 : At ((W1.alloc (.cells #[.int .i64 0, .slice none 0 0] 108)).setRow W1.heap.size #[.int .i64 (gen : Int), .slice adb NB capb]) W1.heap.size #[.int .i64 (gen : Int), .slice adb NB capb] 108 := aa.row _
        have SB := Lib.hid (src_row (row := #[.int .i64 (gen : Int), .slice adb NB capb]) (s1.ext (Ext.alloc W1 (.cells #[.int .i64 0, .slice none 0 0] 108))) aa (page_no_u8 0 none 0 0))
        refine ⟨E6, ?_⟩
        refine tkS 16 (some 11) vm E6 ?_
        simp only [pt0, pt4, pt1, pt2, pt3]
        refine tkS 17 (some 12) (.int .i64 0) E6 ?_
        simp only [pt0, pt4, pt1, pt2, pt3]
        refine wpAnyH_done (by kernel_rfl) ?_ _
        generalize (W1.alloc (.cells #[.int .i64 0, .slice none 0 0] 108)).setRow W1.heap.size #[.int .i64 (gen : Int), .slice adb NB capb] = w6 at *
        generalize hg6 : W1.heap.size = g6 at *
        have q1 := A6.cell 1
        have A6H := Lib.hid A6
        have RO := Lib.hid (refsOf_any (.slice adb NB capb) (bodyL ds) w6 SB.out HBB.out.1 HBB.out.2)
        rw [HBB2.out] at RO
        have EX6 := Lib.hid (EX.out.trans E6)
        clear E6 A6 SB S2 aa one sz S1 s1 e1 f0 f1 f2 VT hg6 hsz S0
        go_wp2_with fail
        refine (RO.out).mono ?_
        rintro e w7 ⟨v7, l7, rfl, e7, o7, hd7⟩
        have q0 := (at_ext A6H.out e7).cell 0
        have E7 := Lib.hid (EX6.out.trans e7)
        obtain ⟨ad7, cap7, ev7⟩ := o7.len
        obtain ⟨N7, hN7⟩ : ∃ n, n = l7.length := ⟨_, rfl⟩
        rw [← hN7] at ev7
        subst ev7
        have F := Lib.hid (show ∀ X' : Nat → Prop, (∀ i, X' i → i < w.heap.size ∨ i = w7.heap.size) → RR X' (w7.alloc (.cells (acell sb gen (.slice ad7 N7 cap7) false) 68)) (.slice ad7 N7 cap7) l7 from fun X' hX => ((o7.rr (X := fun i => i < w.heap.size) fun i hi => Nat.lt_of_lt_of_le hi EX6.out.size).mono fun i hi => (hX i hi).imp_right fun q => by omega).ext (Ext.alloc _ _))
        clear e7 RO q1 o7 hN7
        go_wp2
        go_ret2
        refine ⟨w7.heap.size, _, l7, rfl, E7.out.trans (Ext.alloc _ _), E7.out.size, ?_, F.out, hd7⟩
        exact V.At.new w7 (acell sb gen (.slice ad7 N7 cap7) false) 68
      · refine makeS (some 10) rfl (.pointer (some ⟨W.heap.size, 0, none⟩)) (w1 := W.alloc (.cells #[.int .i64 0, .slice none 0 0] 108)) (by go_simp) ?_
        simp only [pt0, pt4, pt1, pt2, pt3]
        have S1 : Ext wr (W.alloc (.cells #[.int .i64 0, .slice none 0 0] 108)) := S0.trans (Ext.alloc _ _)
        have a0 := At.new W #[.int .i64 0, .slice none 0 0] 108
        refine ⟨S1, ?_⟩
        refine nextS 9 rfl (by kernel_rfl) rfl (callS (some 47) rfl 64 #[(.slice ad0 n0 cp0), (.slice ad1 n1 cp1), (.slice ad2 n2 cp2)] (by go_simp) (fun v w' => ∃ adb capb vm, v = (.tuple #[.agg #[.int .i64 (gen : Int), .slice adb NB capb], vm, .int .i64 0]) ∧ Ext (W.alloc (.cells #[.int .i64 0, .slice none 0 0] 108)) w' ∧ Sha.Src w' (.slice adb NB capb) (bodyL ds) w'.heap.size) (VT.out (W.alloc (.cells #[.int .i64 0, .slice none 0 0] 108)) S1) ?_)
        rintro v1 W1 ⟨adb, capb, vm, rfl, e1, s1⟩
        simp only [pt0, pt4, pt1, pt2, pt3]
        have S2 := S1.trans e1
        have aa := at_ext a0 e1
        have hsz := S0.size
        refine ⟨S2, ?_⟩
        refine tkS 10 (some 37) (.tuple #[.agg #[.int .i64 (gen : Int), .slice adb NB capb], vm, .int .i64 0]) S2 ?_
        simp only [pt0, pt4, pt1, pt2, pt3]
        refine tkS 11 (some 48) (.agg #[.int .i64 (gen : Int), .slice adb NB capb]) S2 ?_
        simp only [pt0, pt4, pt1, pt2, pt3]
        refine tkS 12 (some 49) vm S2 ?_
        simp only [pt0, pt4, pt1, pt2, pt3]
        refine tkS 13 (some 50) (.int .i64 0) S2 ?_
        simp only [pt0, pt4, pt1, pt2, pt3]
        have one : (#[.int .i64 (gen : Int), .slice adb NB capb] : Array Value).all (·.oneCell') = true := by simp [Value.oneCell']
        have sz : (Tryz.prog.info? 108).map (·.size) = some (#[.int .i64 (gen : Int), .slice adb NB capb] : Array Value).size := szPage
        refine nextS 15 rfl (by kernel_rfl) rfl (wp_store_row 108 (.tmp 10) (.tmp 48) rfl W.heap.size _ rfl rfl 108 _ aa sz rfl one ?_)
        have E6 : Ext wr (W1.setRow W.heap.size #[.int .i64 (gen : Int), .slice adb NB capb]) := ext_only' S2 (Only.setRow W.heap.size _ #[.int .i64 (gen : Int), .slice adb NB capb]) hsz
        have A6 : At (W1.setRow W.heap.size #[.int .i64 (gen : Int), .slice adb NB capb]) W.heap.size #[.int .i64 (gen : Int), .slice adb NB capb] 108 := aa.row _
        have SB := Lib.hid (src_row (row := #[.int .i64 (gen : Int), .slice adb NB capb]) s1 aa (page_no_u8 0 none 0 0))
        refine ⟨E6, ?_⟩
        refine tkS 16 (some 11) vm E6 ?_
        simp only [pt0, pt4, pt1, pt2, pt3]
        refine tkS 17 (some 12) (.int .i64 0) E6 ?_
        simp only [pt0, pt4, pt1, pt2, pt3]
        refine wpAnyH_done (by kernel_rfl) ?_ _
        generalize W1.setRow W.heap.size #[.int .i64 (gen : Int), .slice adb NB capb] = w6 at *
        generalize hg6 : W.heap.size = g6 at *
        have q1 := A6.cell 1
        have A6H := Lib.hid A6
        have RO := Lib.hid (refsOf_any (.slice adb NB capb) (bodyL ds) w6 SB.out HBB.out.1 HBB.out.2)
        rw [HBB2.out] at RO
        have EX6 := Lib.hid (EX.out.trans E6)
        clear E6 A6 SB S2 aa a0 one sz S1 s1 e1 f0 f1 f2 VT hg6 hsz S0
        go_wp2_with fail
        refine (RO.out).mono ?_
        rintro e w7 ⟨v7, l7, rfl, e7, o7, hd7⟩
        have q0 := (at_ext A6H.out e7).cell 0
        have E7 := Lib.hid (EX6.out.trans e7)
        obtain ⟨ad7, cap7, ev7⟩ := o7.len
        obtain ⟨N7, hN7⟩ : ∃ n, n = l7.length := ⟨_, rfl⟩
        rw [← hN7] at ev7
        subst ev7
        have F := Lib.hid (show ∀ X' : Nat → Prop, (∀ i, X' i → i < w.heap.size ∨ i = w7.heap.size) → RR X' (w7.alloc (.cells (acell sb gen (.slice ad7 N7 cap7) false) 68)) (.slice ad7 N7 cap7) l7 from fun X' hX => ((o7.rr (X := fun i => i < w.heap.size) fun i hi => Nat.lt_of_lt_of_le hi EX6.out.size).mono fun i hi => (hX i hi).imp_right fun q => by omega).ext (Ext.alloc _ _))
        clear e7 RO q1 o7 hN7
        go_wp2
        go_ret2
        refine ⟨w7.heap.size, _, l7, rfl, E7.out.trans (Ext.alloc _ _), E7.out.size, ?_, F.out, hd7⟩
        exact V.At.new w7 (acell sb gen (.slice ad7 N7 cap7) false) 68
end Go.Proofs.YtnhokjnmpdiokaaGreatDoor

namespace Go.Proofs.YtnhokjnmpdiokaaGreatDoor
open Go.RowKit Go.Sha Go.Pth
set_option linter.unusedSimpArgs false
set_option linter.unusedVariables false

end Go.Proofs.YtnhokjnmpdiokaaGreatDoor

namespace Go.Proofs.YtnhokjnmpdiokaaGreatDoor
open Go.RowKit Go.Sha Go.Pth
set_option linter.unusedSimpArgs false
set_option linter.unusedVariables false

theorem cpT_two (k : Nat) (h : 2 ≤ k) : (cpT k).toList = V.cpB 2 := by
  rw [cpT_list]
  unfold V.cpB
  have h0 : k ≠ 0 := by omega
  have h1 : k ≠ 1 := by omega
  simp [h0, h1]
end Go.Proofs.YtnhokjnmpdiokaaGreatDoor
