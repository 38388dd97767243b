/- What image's pageOf answers. No conditions but those named: contracts. What image's mayBe and May answer. No conditions but those named: contracts. -/
import Derived.Test.YtnhokjnmpdiokaaGreatDoorIf
import Derived.Test.YtnhokjnmpdiokaaGreatDoorHaM
import Derived.Test.YtnhokjnmpdiokaaGreatDoorCdM
namespace Go.Proofs.YtnhokjnmpdiokaaGreatDoor
open Go.RowKit Go.Sha Go.Pth
set_option linter.unusedSimpArgs false
set_option linter.unusedVariables false

theorem own_less {w : World} {base base' : Nat} {v : Value} {m : List Int} (h : OwnB w base v m) (hb : base' ≤ base) : OwnB w base' v m := by
  obtain ⟨h1, h2⟩ := h
  refine ⟨h1, ?_⟩
  rcases h2 with h2 | ⟨g, cap, cur, hv, hg, r⟩
  · exact Or.inl h2
  · exact Or.inr ⟨g, cap, cur, hv, by omega, r⟩
theorem oadd_some (l m : List Int) : oadd (some l) m = some (l ++ m) := rfl
theorem wNum_int (l : List Int) (n : Int) (h : 0 ≤ n ∧ n ≤ 2147483647) : wNum (some l) n = some (l ++ lf n 4) := by
  unfold wNum
  rw [if_neg (by omega)]; rfl
theorem fits_of {l : List Int} {n k : Nat} (h : l.length ≤ k) (hk : k + n < 4611686018427387904) : Fits (some l) n := fun m hm => by injection hm with hm; subst hm; omega
theorem Only.tr {b : Nat} {a w w' : World} (h : Only b a w) (k : Only b w w') : Only b a w' := h.trans k
set_option maxHeartbeats 8000000 in
set_option maxRecDepth 100000 in
theorem enc_own (k : Nat) (m : List Int) (v : Value) (w : World) (hK : KAt w) (h : Sha.Src w v m w.heap.size) (h1 : 1 ≤ k) (h2 : k ≤ 2147483647) (hm : m.length ≤ 60000) :
    Calls Tryz.prog 56 #[.agg #[.int .i64 (k : Int), v]] w fun e w' => ∃ v, e = .returned (.tuple #[v, .int .i64 0]) ∧ Ext w w' ∧ OwnB w' w.heap.size v (sealL (encP k m)) := by
  obtain ⟨ad, cap, ev⟩ := h.len
  subst ev
  have MB := mayP_any (k : Int) ad m.length cap (w.alloc (.cells #[.int .i64 (k : Int), .slice ad m.length cap] 108))
  have d1 : decide ((1 : Int) ≤ (k : Int)) = true := by simp; omega
  have d2 : decide ((k : Int) ≤ 2147483647) = true := by simp; omega
  have d3 : decide (m.length ≤ 60000) = true := by simp; omega
  rw [d1, d2, d3] at MB
  obtain ⟨n, hn⟩ : ∃ n, n = m.length := ⟨_, rfl⟩
  have HN := Lib.hid hn
  rw [← hn] at h MB ⊢
  have e0 : Ext w (w.alloc (.cells #[.int .i64 (k : Int), .slice ad n cap] 108)) := Ext.alloc w _
  have a0 := At.new w #[.int .i64 (k : Int), .slice ad n cap] 108
  have S0 := h.now e0
  have Hm := Lib.hid (And.intro h2 hm)
  have f0 := a0.cell 0
  have f1 := a0.cell 1
  clear hn h d1 d2 d3 h1 h2 hm
  go_enter Tryz.func56, Tryz.ntmps56
  go_wp2_with fail
  refine MB.mono ?_
  rintro e w1 ⟨rfl, e1⟩
  clear f0 f1
  have a1 := at_ext a0 e1
  have S1 := S0.now e1
  have e01 := e0.trans e1
  have HB := Lib.hid (fun (w' : World) (hw' : Ext w1 w') => at_ext a1 hw')
  clear a0 S0 e0 e1 MB a1
  go_upto_region 4 with (fail)
  have H1 := wst_zero w1 Tryz.zeroCells98 zcW0
  have eA : Ext w1 (w1.alloc (.cells Tryz.zeroCells98 98)) := Ext.alloc w1 _
  have SA := S1.ext eA
  obtain ⟨g, hgg⟩ : ∃ g, g = w1.heap.size := ⟨_, rfl⟩
  have hg : w1.heap.size ≤ g := by omega
  rw [← hgg] at H1 SA ⊢
  have Hgg := Lib.hid hgg; clear hgg
  generalize w1.alloc (.cells Tryz.zeroCells98 98) = w2 at *
  refine wp_region_held (S := Ext w1) (by kernel_rfl) ?_
  change wpAnyH _ _ _ _ _ _ _ _ w2.drew
  have S0 : Ext w1 w2.drew := eA.trans (Below.drew (Below.refl _ _))
  have M0 := SA.ext (Below.drew (Below.refl _ _) : Ext w2 w2.drew)
  replace H1 := H1.below (Below.drew (Below.refl _ _) : Ext w2 w2.drew)
  clear eA SA S1
  generalize w2.drew = W0 at *
  refine tkS 0 (some 11) (.pointer (some ⟨w.heap.size, 0, none⟩)) S0 ?_
  simp only [pt0, pt4, pt1, pt2, pt3]
  refine tkS 1 (some 12) (.int .i64 (k : Int)) S0 ?_ (hy := fun w' hw' => by have cc : w'.cell? ⟨w.heap.size, 0, none⟩ = some (.int .i64 (k : Int)) := ((HB.out w' hw').cell 0).trans rfl; go_simp)
  simp only [pt0, pt4, pt1, pt2, pt3]
  refine tkS 3 (some 14) (.pointer (some ⟨w.heap.size, 1, none⟩)) S0 ?_
  simp only [pt0, pt4, pt1, pt2, pt3]
  refine tkS 4 (some 15) (.slice ad n cap) S0 ?_ (hy := fun w' hw' => by have cc : w'.cell? ⟨w.heap.size, 1, none⟩ = some (.slice ad n cap) := ((HB.out w' hw').cell 1).trans rfl; go_simp)
  simp only [pt0, pt4, pt1, pt2, pt3]
  refine nextS 2 rfl (by kernel_rfl) rfl (callS (some 13) rfl 52 #[.pointer (some ⟨g, 0, none⟩), .int .i64 (k : Int)] (by go_simp) (fun v w' => v = .pointer (some ⟨g, 0, none⟩) ∧ Only g W0 w' ∧ WSt w' g (some ([] ++ lf (k : Int) 4))) ((wnum_any g (some ([])) k W0 H1 (fits_some _ 4 (by simp [lf_length]))).mono fun _ _ he => ⟨_, he.1, rfl, he.2.1, by rw [← wNum_some _ k (by have := Hm.out; omega)]; exact he.2.2⟩) ?_)
  rintro v1 W1 ⟨rfl, o1, H2⟩
  simp only [pt0, pt4, pt1, pt2, pt3]
  have S1 := ext_only' S0 o1 hg
  have M1 := src_keep M0 M0 o1
  clear o1 H1 S0 M0
  refine ⟨S1, ?_⟩
  refine nextS 5 rfl (by kernel_rfl) rfl (callS (some 16) rfl 54 #[.pointer (some ⟨g, 0, none⟩), .slice ad n cap] (by go_simp) (fun v w' => v = .pointer (some ⟨g, 0, none⟩) ∧ Only g W1 w' ∧ WSt w' g (some (encP k m))) ((wbytes_any g (some ([] ++ lf (k : Int) 4)) m _ W1 H2 (fits_some _ _ (by have := Hm.out; simp [lf_length]; omega)) (by have := Hm.out; omega) M1).mono fun _ _ he => ⟨_, he.1, rfl, he.2.1, by have := he.2.2; rw [oadd, Option.map_some] at this; exact this⟩) ?_)
  rintro v2 W2 ⟨rfl, o2, H3⟩
  simp only [pt0, pt4, pt1, pt2, pt3]
  have S2 := ext_only' S1 o2 hg
  clear o2 H2 S1 M1
  refine ⟨S2, ?_⟩
  refine nextS 6 rfl (by kernel_rfl) rfl (callS (some 17) rfl 55 #[.pointer (some ⟨g, 0, none⟩)] (by go_simp) (fun v w' => ∃ u, v = .tuple #[u, .bool true] ∧ Ext W2 w' ∧ OwnB w' W2.heap.size u (encP k m)) ((done_any g _ W2 H3 (by rw [encP_len]; have := Hm.out; omega)).mono fun _ _ he => by obtain ⟨u, h1, h2, h3⟩ := he; exact ⟨_, h1, u, rfl, h2, h3⟩) ?_)
  rintro v3 W3 ⟨u, rfl, e3, o3⟩
  simp only [pt0, pt4, pt1, pt2, pt3]
  have S3 := S2.trans e3
  clear e3 H3 S2
  refine ⟨S3, ?_⟩
  refine tkS 7 (some 10) (.tuple #[u, .bool true]) S3 ?_
  simp only [pt0, pt4, pt1, pt2, pt3]
  refine tkS 8 (some 18) u S3 ?_
  simp only [pt0, pt4, pt1, pt2, pt3]
  refine tkS 9 (some 19) (.bool true) S3 ?_
  simp only [pt0, pt4, pt1, pt2, pt3]
  refine tkS 10 (some 5) u S3 ?_
  simp only [pt0, pt4, pt1, pt2, pt3]
  refine tkS 11 (some 6) (.bool true) S3 ?_
  simp only [pt0, pt4, pt1, pt2, pt3]
  refine wpAnyH_done (by kernel_rfl) ?_ _
  have s5 := S3
  have q5 := o3.srcs _ (Or.inr (Nat.le_refl _))
  clear o3 S3
  go_wp2_with fail
  refine (seal_any u _ W3 (hK.below (e01.trans s5) hK.lt) q5 (by rw [encP_len]; have := Hm.out; omega)).mono ?_
  rintro e w6 ⟨v6, rfl, e6, o6⟩
  go_wp2
  go_ret2
  exact ⟨_, rfl, (e01.trans s5).trans e6, own_less o6 (e01.trans s5).size⟩

def InvPg (w : World) (ds : List RD) (n : Nat) (i : Value) (wr : World) : Prop := ∃ k : Nat, k ≤ n ∧ i = .int .i64 k ∧ Ext w wr ∧ WSt wr w.heap.size (some (bodyL (ds.take k)))
theorem bodyL_take (ds : List RD) (k : Nat) (x : RD) (h : ds[k]? = some x) : bodyL (ds.take (k + 1)) = bodyL (ds.take k) ++ encR x := by
  rw [List.take_add_one, h, bodyL_app]; simp [bodyL]
theorem bodyL_le : ∀ (ds : List RD) (k : Nat), (bodyL (ds.take k)).length ≤ (bodyL ds).length
  | [], k => by simp
  | x :: r, 0 => by simp [bodyL]
  | x :: r, k + 1 => by
    have := bodyL_le r k
    simp only [List.take_succ_cons, bodyL, List.length_append]; omega
set_option maxHeartbeats 16000000 in
set_option maxRecDepth 100000 in
theorem pageOf_any (X : Nat → Prop) (v : Value) (l : List RV) (g : Nat) (w : World) (hK : KAt w) (h : RR X w v l) (hi : imageL (l.map RV.d) = true) (hg : 1 ≤ g ∧ g ≤ 2147483647) :
    Calls Tryz.prog 32 #[.int .i64 (g : Int), v] w fun e w' => ∃ u, e = .returned (.tuple #[u, .int .i64 0]) ∧ Ext w w' ∧ OwnB w' w.heap.size u (pageI g (l.map RV.d)) := by
  obtain ⟨ad, cap, b, o, h⟩ := h
  have ev := h.val
  subst ev
  have HR := Lib.hid h
  have hcap := h.cap_
  have hadr := Lib.hid h.adr
  clear h
  have hl := (image_all hi).1
  have HI := Lib.hid hi
  have HBL := Lib.hid (image_body hi)
  obtain ⟨n, hn⟩ : ∃ n, n = l.length := ⟨_, rfl⟩
  have HN := Lib.hid hn
  have HM := Lib.hid (show (l.map RV.d).length = n by rw [List.length_map]; exact hn.symm)
  rw [HM.out] at hl
  rw [← hn] at hcap ⊢
  have HK := Lib.hid hK
  have HGG := Lib.hid hg
  clear hn hi hK hg
  have z0 := wst_zero w Tryz.zeroCells98 zcW0
  have Z0 := Lib.hid (And.intro (Ext.alloc w (.cells Tryz.zeroCells98 98)) z0)
  clear z0
  go_enter Tryz.func32, Tryz.ntmps32
  go_wp2
  go_loopw [13] (fun i wr => InvPg w (l.map RV.d) n i wr) (fun i _ => n - (intOf i).toNat)
  case atStart => exact ⟨0, by omega, rfl, Z0.out.1, Z0.out.2⟩
  case round =>
    obtain ⟨k, hk, rfl, ex, ws⟩ := hrel
    by_cases hlt : k < n
    · have i0 : (k : Int) < (n : Int) := by omega
      have i1 : (0 : Int) ≤ (k : Int) := by omega
      obtain ⟨x, hx⟩ : ∃ x, l[k]? = some x := ⟨_, List.getElem?_eq_getElem (by rw [← HN.out]; exact hlt)⟩
      have ea := hadr.out (by rw [← HN.out]; omega)
      subst ea
      obtain ⟨c0, c1, c2, c3, c4, c5⟩ := HR.out.cells k x hx
      have S1 := HR.out.src x (List.mem_of_getElem? hx)
      have hxd : (l.map RV.d)[k]? = some x.d := by rw [List.getElem?_map, hx]; rfl
      have hst := bodyL_take _ k x.d hxd
      have mr := (mayR_iff _).1 (image_may HI.out x.d (List.mem_of_getElem? hxd))
      have mrl := mayR_len mr
      have mk := mr.k
      have mz := mr.z
      have mm := mr.m
      obtain ⟨p, xk, z, m, t, vv, r⟩ := x
      simp only at c0 c1 c2 c3 c4 c5 S1
      simp only [RV.d] at mk mz mm mrl hst
      obtain ⟨adx, capx, evx, -⟩ := S1.val
      obtain ⟨R, hR⟩ : ∃ n, n = r.length := ⟨_, rfl⟩
      rw [← hR] at evx
      have HRr := Lib.hid hR
      have KB := Lib.hid (show (0 ≤ xk ∧ xk ≤ 2147483647) ∧ (0 ≤ z ∧ z ≤ 2147483647) ∧ (0 ≤ m ∧ m ≤ 2147483647) from ⟨by rcases mk with h | h <;> omega, by omega, mm⟩)
      have hps := mrl.1
      have hrs : R ≤ 32 := by rw [hR]; exact mrl.2
      clear hR mk mz mm mrl mr
      subst evx
      replace c0 := ext_cell ex c0
      replace c1 := ext_cell ex c1
      replace c2 := ext_cell ex c2
      replace c3 := ext_cell ex c3
      replace c4 := ext_cell ex c4
      replace c5 := ext_cell ex c5
      have HST := Lib.hid hst
      clear hx hxd hst
      have e4 : Ext wr (wr.alloc (.cells #[.string ⟨#[]⟩, .int .i64 0, .int .i64 0, .int .i64 0, .int .u64 0, .slice none 0 0] 52)) := Ext.alloc wr _
      have a4 := At.new wr #[.string ⟨#[]⟩, .int .i64 0, .int .i64 0, .int .i64 0, .int .u64 0, .slice none 0 0] 52
      have one : (#[.string p, .int .i64 xk, .int .i64 z, .int .i64 m, .int .u64 t, .slice adx R capx] : Array Value).all (·.oneCell') = true := by simp [Value.oneCell']
      have sz2 : (Tryz.prog.info? 52).map (·.size) = some (#[.string p, .int .i64 xk, .int .i64 z, .int .i64 m, .int .u64 t, .slice adx R capx] : Array Value).size := szRef
      have e5 := ext_only' e4 (Only.setRow wr.heap.size _ #[.string p, .int .i64 xk, .int .i64 z, .int .i64 m, .int .u64 t, .slice adx R capx]) (Nat.le_refl _)
      have a5 : At ((wr.alloc (.cells #[.string ⟨#[]⟩, .int .i64 0, .int .i64 0, .int .i64 0, .int .u64 0, .slice none 0 0] 52)).setRow wr.heap.size #[.string p, .int .i64 xk, .int .i64 z, .int .i64 m, .int .u64 t, .slice adx R capx]) wr.heap.size #[.string p, .int .i64 xk, .int .i64 z, .int .i64 m, .int .u64 t, .slice adx R capx] 52 := a4.row _
      go_upto_region 5 with (refine wpList_store_row rfl 52 _ _ rfl wr.heap.size _ rfl rfl 52 _ a4 sz2 rfl one ?_)
      clear e4 a4 c0 c1 c2 c3 c4 c5 one sz2
      generalize (wr.alloc (.cells #[.string ⟨#[]⟩, .int .i64 0, .int .i64 0, .int .i64 0, .int .u64 0, .slice none 0 0] 52)).setRow wr.heap.size #[.string p, .int .i64 xk, .int .i64 z, .int .i64 m, .int .u64 t, .slice adx R capx] = w5 at *
      obtain ⟨g5, hg5⟩ : ∃ g, g = wr.heap.size := ⟨_, rfl⟩
      rw [← hg5] at a5 ⊢
      have ws5 := ws.below e5
      have hg0 : w.heap.size < wr.heap.size := ws.lt
      have Q0 := (S1 w.heap.size (Or.inr (Nat.le_refl _))).below (ex.trans e5)
      obtain ⟨g0, hg0e⟩ : ∃ g, g = w.heap.size := ⟨_, rfl⟩
      rw [← hg0e] at ws5 Q0 ⊢
      have g50 : g5 ≠ g0 := by omega
      have ex5 := Lib.hid (And.intro (ex.trans e5) hg0e)
      have HG := Lib.hid (fun w' (hw' : Only g0 w5 w') => hw'.at a5 g50)
      clear ex e5 a5 ws hg5 hg0 S1 g50 hg0e
      obtain ⟨BK, hBK⟩ : ∃ B, B = bodyL ((l.map RV.d).take k) := ⟨_, rfl⟩
      rw [← hBK] at ws5 HST
      have HB0 := Lib.hid (show BK.length ≤ 20000 by rw [hBK]; have := bodyL_le (l.map RV.d) k; have := HBL.out; omega)
      clear hBK
      obtain ⟨T1, hT1⟩ : ∃ T, T = BK ++ encB (nums p) := ⟨_, rfl⟩
      obtain ⟨T2, hT2⟩ : ∃ T, T = T1 ++ lf xk 4 := ⟨_, rfl⟩
      obtain ⟨T3, hT3⟩ : ∃ T, T = T2 ++ lf z 4 := ⟨_, rfl⟩
      obtain ⟨T4, hT4⟩ : ∃ T, T = T3 ++ lf m 4 := ⟨_, rfl⟩
      obtain ⟨T5, hT5⟩ : ∃ T, T = T4 ++ lf t 8 := ⟨_, rfl⟩
      obtain ⟨T6, hT6⟩ : ∃ T, T = T5 ++ encB r := ⟨_, rfl⟩
      have E1 := Lib.hid hT1
      have E2 := Lib.hid hT2
      have E3 := Lib.hid hT3
      have E4 := Lib.hid hT4
      have E5 := Lib.hid hT5
      have E6 := Lib.hid hT6
      have HT := Lib.hid (show T1.length ≤ BK.length + 64 ∧ T2.length = T1.length + 4 ∧ T3.length = T2.length + 4 ∧ T4.length = T3.length + 4 ∧ T5.length = T4.length + 8 by
        refine ⟨?_, ?_, ?_, ?_, ?_⟩
        · rw [hT1, List.length_append, encB_len, nums_length]; omega
        · rw [hT2, List.length_append, lf_length]
        · rw [hT3, List.length_append, lf_length]
        · rw [hT4, List.length_append, lf_length]
        · rw [hT5, List.length_append, lf_length])
      have HTE := Lib.hid (show T6 = bodyL ((l.map RV.d).take (k + 1)) by
        rw [HST.out, hT6, hT5, hT4, hT3, hT2, hT1]
        unfold encR
        simp only [List.append_assoc])
      clear hT1 hT2 hT3 hT4 hT5 hT6
      have F0 := Lib.hid (fun (m : List Int) (hm : m.length ≤ 30000) (n : Nat) (hn : n ≤ 1000000) => (fits_of (l := m) (n := n) hm (by omega)))
      refine wp_region_held (S := Only g0 w5) (by kernel_rfl) ?_
      change wpAnyH _ _ _ _ _ _ _ _ w5.drew
      have S0 : Only g0 w5 w5.drew := Only.of_below (Below.drew (Below.refl _ _))
      have H0 := ws5.below (Below.drew (Below.refl _ _) : Ext w5 w5.drew)
      replace Q0 := Q0.below (Below.drew (Below.refl _ _) : Ext w5 w5.drew)
      clear ws5
      generalize w5.drew = W at *
      refine tkS 0 (some 17) (.pointer (some ⟨g5, 0, none⟩)) S0 ?_
      simp only [pt0, pt4, pt1, pt2, pt3]
      refine tkS 1 (some 18) (.string p) S0 ?_ (hy := fun w' hw' => by have cc : w'.cell? ⟨g5, 0, none⟩ = some (.string p) := ((HG.out w' hw').cell 0).trans rfl; go_simp)
      simp only [pt0, pt4, pt1, pt2, pt3]
      refine tkS 3 (some 20) (.pointer (some ⟨g5, 1, none⟩)) S0 ?_
      simp only [pt0, pt4, pt1, pt2, pt3]
      refine tkS 4 (some 21) (.int .i64 xk) S0 ?_ (hy := fun w' hw' => by have cc : w'.cell? ⟨g5, 1, none⟩ = some (.int .i64 xk) := ((HG.out w' hw').cell 1).trans rfl; go_simp)
      simp only [pt0, pt4, pt1, pt2, pt3]
      refine tkS 6 (some 23) (.pointer (some ⟨g5, 2, none⟩)) S0 ?_
      simp only [pt0, pt4, pt1, pt2, pt3]
      refine tkS 7 (some 24) (.int .i64 z) S0 ?_ (hy := fun w' hw' => by have cc : w'.cell? ⟨g5, 2, none⟩ = some (.int .i64 z) := ((HG.out w' hw').cell 2).trans rfl; go_simp)
      simp only [pt0, pt4, pt1, pt2, pt3]
      refine tkS 9 (some 26) (.pointer (some ⟨g5, 3, none⟩)) S0 ?_
      simp only [pt0, pt4, pt1, pt2, pt3]
      refine tkS 10 (some 27) (.int .i64 m) S0 ?_ (hy := fun w' hw' => by have cc : w'.cell? ⟨g5, 3, none⟩ = some (.int .i64 m) := ((HG.out w' hw').cell 3).trans rfl; go_simp)
      simp only [pt0, pt4, pt1, pt2, pt3]
      refine tkS 12 (some 29) (.pointer (some ⟨g5, 4, none⟩)) S0 ?_
      simp only [pt0, pt4, pt1, pt2, pt3]
      refine tkS 13 (some 30) (.int .u64 t) S0 ?_ (hy := fun w' hw' => by have cc : w'.cell? ⟨g5, 4, none⟩ = some (.int .u64 t) := ((HG.out w' hw').cell 4).trans rfl; go_simp)
      simp only [pt0, pt4, pt1, pt2, pt3]
      refine tkS 15 (some 32) (.pointer (some ⟨g5, 5, none⟩)) S0 ?_
      simp only [pt0, pt4, pt1, pt2, pt3]
      refine tkS 16 (some 33) (.slice adx R capx) S0 ?_ (hy := fun w' hw' => by have cc : w'.cell? ⟨g5, 5, none⟩ = some (.slice adx R capx) := ((HG.out w' hw').cell 5).trans rfl; go_simp)
      simp only [pt0, pt4, pt1, pt2, pt3]
      refine nextS 2 rfl (by kernel_rfl) rfl (callS (some 19) rfl 51 #[.pointer (some ⟨g0, 0, none⟩), .string p] (by go_simp) (fun v w' => v = .pointer (some ⟨g0, 0, none⟩) ∧ Only g0 W w' ∧ WSt w' g0 (some T1)) (((wtext_any g0 (some BK) p W H0 (F0.out _ (by have := HB0.out; omega) _ (by omega)) (by omega)).mono fun _ _ he => ⟨_, he.1, rfl, he.2.1, by have := he.2.2; rw [oadd_some _ _, ← E1.out] at this; exact this⟩)) ?_)
      rintro v1 W1 ⟨rfl, o1, H1⟩
      simp only [pt0, pt4, pt1, pt2, pt3]
      have S1 := S0.trans o1
      have Q1 := Q0.only o1
      clear o1 H0 Q0 S0
      refine ⟨S1, ?_⟩
      refine nextS 5 rfl (by kernel_rfl) rfl (callS (some 22) rfl 52 #[.pointer (some ⟨g0, 0, none⟩), .int .i64 xk] (by go_simp) (fun v w' => v = .pointer (some ⟨g0, 0, none⟩) ∧ Only g0 W1 w' ∧ WSt w' g0 (some T2)) (((wnum_any g0 (some T1) xk W1 H1 (F0.out _ (by have := HB0.out; have := HT.out; omega) _ (by omega))).mono fun _ _ he => ⟨_, he.1, rfl, he.2.1, by have := he.2.2; rw [wNum_int _ _ KB.out.1, ← E2.out] at this; exact this⟩)) ?_)
      rintro v2 W2 ⟨rfl, o2, H2⟩
      simp only [pt0, pt4, pt1, pt2, pt3]
      have S2 := S1.trans o2
      have Q2 := Q1.only o2
      clear o2 H1 Q1 S1
      refine ⟨S2, ?_⟩
      refine nextS 8 rfl (by kernel_rfl) rfl (callS (some 25) rfl 52 #[.pointer (some ⟨g0, 0, none⟩), .int .i64 z] (by go_simp) (fun v w' => v = .pointer (some ⟨g0, 0, none⟩) ∧ Only g0 W2 w' ∧ WSt w' g0 (some T3)) (((wnum_any g0 (some T2) z W2 H2 (F0.out _ (by have := HB0.out; have := HT.out; omega) _ (by omega))).mono fun _ _ he => ⟨_, he.1, rfl, he.2.1, by have := he.2.2; rw [wNum_int _ _ KB.out.2.1, ← E3.out] at this; exact this⟩)) ?_)
      rintro v3 W3 ⟨rfl, o3, H3⟩
      simp only [pt0, pt4, pt1, pt2, pt3]
      have S3 := S2.trans o3
      have Q3 := Q2.only o3
      clear o3 H2 Q2 S2
      refine ⟨S3, ?_⟩
      refine nextS 11 rfl (by kernel_rfl) rfl (callS (some 28) rfl 52 #[.pointer (some ⟨g0, 0, none⟩), .int .i64 m] (by go_simp) (fun v w' => v = .pointer (some ⟨g0, 0, none⟩) ∧ Only g0 W3 w' ∧ WSt w' g0 (some T4)) (((wnum_any g0 (some T3) m W3 H3 (F0.out _ (by have := HB0.out; have := HT.out; omega) _ (by omega))).mono fun _ _ he => ⟨_, he.1, rfl, he.2.1, by have := he.2.2; rw [wNum_int _ _ KB.out.2.2, ← E4.out] at this; exact this⟩)) ?_)
      rintro v4 W4 ⟨rfl, o4, H4⟩
      simp only [pt0, pt4, pt1, pt2, pt3]
      have S4 := S3.trans o4
      have Q4 := Q3.only o4
      clear o4 H3 Q3 S3
      refine ⟨S4, ?_⟩
      refine nextS 14 rfl (by kernel_rfl) rfl (callS (some 31) rfl 53 #[.pointer (some ⟨g0, 0, none⟩), .int .u64 t] (by go_simp) (fun v w' => v = .pointer (some ⟨g0, 0, none⟩) ∧ Only g0 W4 w' ∧ WSt w' g0 (some T5)) (((wword_any g0 (some T4) t W4 H4 (F0.out _ (by have := HB0.out; have := HT.out; omega) _ (by omega))).mono fun _ _ he => ⟨_, he.1, rfl, he.2.1, by have := he.2.2; rw [oadd_some _ _, ← E5.out] at this; exact this⟩)) ?_)
      rintro v5 W5 ⟨rfl, o5, H5⟩
      simp only [pt0, pt4, pt1, pt2, pt3]
      have S5 := S4.trans o5
      have Q5 := Q4.only o5
      clear o5 H4 Q4 S4
      refine ⟨S5, ?_⟩
      refine nextS 17 rfl (by kernel_rfl) rfl (callS (some 34) rfl 54 #[.pointer (some ⟨g0, 0, none⟩), .slice adx R capx] (by go_simp) (fun v w' => v = .pointer (some ⟨g0, 0, none⟩) ∧ Only g0 W5 w' ∧ WSt w' g0 (some T6)) (((wbytes_any g0 (some T5) r (.slice adx R capx) W5 H5 (F0.out _ (by have := HB0.out; have := HT.out; omega) _ (by have := HRr.out; omega)) (by have := HRr.out; omega) Q5).mono fun _ _ he => ⟨_, he.1, rfl, he.2.1, by have := he.2.2; rw [oadd_some _ _, ← E6.out] at this; exact this⟩)) ?_)
      rintro v6 W6 ⟨rfl, o6, H6⟩
      simp only [pt0, pt4, pt1, pt2, pt3]
      have S6 := S5.trans o6
      clear o6 H5 Q5 S5
      refine ⟨S6, ?_⟩
      refine wpAnyH_done (by kernel_rfl) ?_ _
      have ES := Lib.hid (And.intro S6 H6)
      clear S6 H6
      have hge := ex5.out.2
      subst hge
      go_wp2
      refine ⟨⟨k + 1, by omega, by go_num, ?_, ?_⟩, by simp [intOf]; omega⟩
      · exact ES.out.1.below ex5.out.1 (Nat.le_refl _) ex5.out.1.size
      · have := ES.out.2
        rw [HTE.out] at this; exact this
    · have d0 : decide ((k : Int) < (n : Int)) = false := by simp; omega
      obtain rfl : k = n := by omega
      rw [List.take_of_length_le (by rw [HM.out]; exact Nat.le_refl _)] at ws
      have DN := Lib.hid (done_any w.heap.size _ wr ws (by have := HBL.out; omega))
      have EX := Lib.hid ex
      clear hlt ex ws
      go_wp2_with fail
      refine (DN.out).mono ?_
      rintro e w1 ⟨u, rfl, e1, o1⟩
      have E1 := Lib.hid (EX.out.trans e1)
      have EN := Lib.hid (enc_own g (bodyL (l.map RV.d)) u w1 (HK.out.below E1.out HK.out.lt) (o1.srcs _ (Or.inr (Nat.le_refl _))) HGG.out.1 HGG.out.2 (by have := HBL.out; omega))
      obtain ⟨adu, capu, eu⟩ := o1.len
      obtain ⟨LB, hLB⟩ : ∃ n, n = (bodyL (l.map RV.d)).length := ⟨_, rfl⟩
      rw [← hLB] at eu
      clear hLB
      subst eu
      clear e1 o1 DN
      go_wp2_with fail
      refine (EN.out).mono ?_
      rintro e w2 ⟨u2, rfl, e2, o2⟩
      have F := Lib.hid (And.intro (E1.out.trans e2) (own_less o2 E1.out.size))
      clear e2 o2 EN
      go_wp2
      go_ret2
      exact ⟨_, rfl, F.out.1, F.out.2⟩
end Go.Proofs.YtnhokjnmpdiokaaGreatDoor

namespace Go.Proofs.YtnhokjnmpdiokaaGreatDoor
open Go.RowKit Go.Sha Go.Pth
set_option linter.unusedSimpArgs false
set_option linter.unusedVariables false

theorem retb' {a b : Bool} (h : a = b) : Ending.returned (Value.bool a) = Ending.returned (Value.bool b) := by rw [h]
set_option maxHeartbeats 8000000 in
set_option maxRecDepth 100000 in
theorem mayBe_any (p : ByteArray) (xk z m t : Int) (r : List Int) (adx : Option Addr) (R capx : Nat) (w : World) (hR : R = r.length) :
  Calls Tryz.prog 30 #[.agg #[.string p, .int .i64 xk, .int .i64 z, .int .i64 m, .int .u64 t, .slice adx R capx]] w fun e w' => e = .returned (.bool (mayR ⟨p, xk, z, m, t, r⟩)) ∧ Ext w w' := by
 have a0 := At.new w #[.string p, .int .i64 xk, .int .i64 z, .int .i64 m, .int .u64 t, .slice adx R capx] 52
 have e0 : Ext w (w.alloc (.cells #[.string p, .int .i64 xk, .int .i64 z, .int .i64 m, .int .u64 t, .slice adx R capx] 52)) := Ext.alloc w _
 have f0 := a0.cell 0
 obtain ⟨w0, hw0⟩ : ∃ w0, w0 = w.alloc (.cells #[.string p, .int .i64 xk, .int .i64 z, .int .i64 m, .int .u64 t, .slice adx R capx] 52) := ⟨_, rfl⟩
 rw [← hw0] at a0 e0
 have VA := V.valid_any p
 have HA := V.hidden_any p
 have HR := Lib.hid hR
 clear hR
 cases hv : valid p.toList with
 | false =>
  go_enter Tryz.func30, Tryz.ntmps30
  go_wp2_with fail
  rw [← hw0]
  refine (VA w0).mono ?_
  rintro e w1 ⟨rfl, e1⟩
  have E1 := e0.trans (ext_v e1)
  rw [hv]
  go_wp2
  go_ret
  exact ⟨retb' (by simp [mayR, hv]), E1⟩
 | true =>
  cases hh : hidden p.toList with
  | true =>
   go_enter Tryz.func30, Tryz.ntmps30
   go_wp2_with fail
   rw [← hw0]
   refine (VA w0).mono ?_
   rintro e w1 ⟨rfl, e1⟩
   have E1 := e0.trans (ext_v e1)
   rw [hv]
   have a1 := at_ext a0 (ext_v e1)
   have g0 := a1.cell 0
   go_wp2_with fail
   refine (HA w1).mono ?_
   rintro e w2 ⟨rfl, e2⟩
   have E2 := E1.trans (ext_v e2)
   rw [hh]
   have a2 := at_ext a1 (ext_v e2)
   have g1 := a2.cell 1
   have g2 := a2.cell 2
   have g3 := a2.cell 3
   have g5 := a2.cell 5
   go_wp2
   go_ret
   exact ⟨retb' (by simp [mayR, hv, hh]), E2⟩
  | false =>
   by_cases q1 : (z < 0)
   ·have dq1 : decide (z < 0) = true := decide_eq_true q1
    go_enter Tryz.func30, Tryz.ntmps30
    go_wp2_with fail
    rw [← hw0]
    refine (VA w0).mono ?_
    rintro e w1 ⟨rfl, e1⟩
    have E1 := e0.trans (ext_v e1)
    rw [hv]
    have a1 := at_ext a0 (ext_v e1)
    have g0 := a1.cell 0
    go_wp2_with fail
    refine (HA w1).mono ?_
    rintro e w2 ⟨rfl, e2⟩
    have E2 := E1.trans (ext_v e2)
    rw [hh]
    have a2 := at_ext a1 (ext_v e2)
    have g1 := a2.cell 1
    have g2 := a2.cell 2
    have g3 := a2.cell 3
    have g5 := a2.cell 5
    go_wp2
    go_ret
    exact ⟨retb' (by have : mayR ⟨p, xk, z, m, t, r⟩ = false := by { cases h : mayR ⟨p, xk, z, m, t, r⟩ with | false => rfl | true => have := (mayR_iff _).1 h; have h1 := this.z; have h2 := this.m; simp only at h1 h2; omega }; rw [this]), E2⟩
   by_cases q2 : ((8192 : Int) < z)
   ·have dq1 : decide (z < 0) = false := decide_eq_false q1
    have dq2 : decide ((8192 : Int) < z) = true := decide_eq_true q2
    go_enter Tryz.func30, Tryz.ntmps30
    go_wp2_with fail
    rw [← hw0]
    refine (VA w0).mono ?_
    rintro e w1 ⟨rfl, e1⟩
    have E1 := e0.trans (ext_v e1)
    rw [hv]
    have a1 := at_ext a0 (ext_v e1)
    have g0 := a1.cell 0
    go_wp2_with fail
    refine (HA w1).mono ?_
    rintro e w2 ⟨rfl, e2⟩
    have E2 := E1.trans (ext_v e2)
    rw [hh]
    have a2 := at_ext a1 (ext_v e2)
    have g1 := a2.cell 1
    have g2 := a2.cell 2
    have g3 := a2.cell 3
    have g5 := a2.cell 5
    go_wp2
    go_ret
    exact ⟨retb' (by have : mayR ⟨p, xk, z, m, t, r⟩ = false := by { cases h : mayR ⟨p, xk, z, m, t, r⟩ with | false => rfl | true => have := (mayR_iff _).1 h; have h1 := this.z; have h2 := this.m; simp only at h1 h2; omega }; rw [this]), E2⟩
   by_cases q3 : (m < 0)
   ·have dq1 : decide (z < 0) = false := decide_eq_false q1
    have dq2 : decide ((8192 : Int) < z) = false := decide_eq_false q2
    have dq3 : decide (m < 0) = true := decide_eq_true q3
    go_enter Tryz.func30, Tryz.ntmps30
    go_wp2_with fail
    rw [← hw0]
    refine (VA w0).mono ?_
    rintro e w1 ⟨rfl, e1⟩
    have E1 := e0.trans (ext_v e1)
    rw [hv]
    have a1 := at_ext a0 (ext_v e1)
    have g0 := a1.cell 0
    go_wp2_with fail
    refine (HA w1).mono ?_
    rintro e w2 ⟨rfl, e2⟩
    have E2 := E1.trans (ext_v e2)
    rw [hh]
    have a2 := at_ext a1 (ext_v e2)
    have g1 := a2.cell 1
    have g2 := a2.cell 2
    have g3 := a2.cell 3
    have g5 := a2.cell 5
    go_wp2
    go_ret
    exact ⟨retb' (by have : mayR ⟨p, xk, z, m, t, r⟩ = false := by { cases h : mayR ⟨p, xk, z, m, t, r⟩ with | false => rfl | true => have := (mayR_iff _).1 h; have h1 := this.z; have h2 := this.m; simp only at h1 h2; omega }; rw [this]), E2⟩
   by_cases q4 : ((2147483647 : Int) < m)
   ·have dq1 : decide (z < 0) = false := decide_eq_false q1
    have dq2 : decide ((8192 : Int) < z) = false := decide_eq_false q2
    have dq3 : decide (m < 0) = false := decide_eq_false q3
    have dq4 : decide ((2147483647 : Int) < m) = true := decide_eq_true q4
    go_enter Tryz.func30, Tryz.ntmps30
    go_wp2_with fail
    rw [← hw0]
    refine (VA w0).mono ?_
    rintro e w1 ⟨rfl, e1⟩
    have E1 := e0.trans (ext_v e1)
    rw [hv]
    have a1 := at_ext a0 (ext_v e1)
    have g0 := a1.cell 0
    go_wp2_with fail
    refine (HA w1).mono ?_
    rintro e w2 ⟨rfl, e2⟩
    have E2 := E1.trans (ext_v e2)
    rw [hh]
    have a2 := at_ext a1 (ext_v e2)
    have g1 := a2.cell 1
    have g2 := a2.cell 2
    have g3 := a2.cell 3
    have g5 := a2.cell 5
    go_wp2
    go_ret
    exact ⟨retb' (by have : mayR ⟨p, xk, z, m, t, r⟩ = false := by { cases h : mayR ⟨p, xk, z, m, t, r⟩ with | false => rfl | true => have := (mayR_iff _).1 h; have h1 := this.z; have h2 := this.m; simp only at h1 h2; omega }; rw [this]), E2⟩
   have dq1 : decide (z < 0) = false := decide_eq_false q1
   have dq2 : decide ((8192 : Int) < z) = false := decide_eq_false q2
   have dq3 : decide (m < 0) = false := decide_eq_false q3
   have dq4 : decide ((2147483647 : Int) < m) = false := decide_eq_false q4
   by_cases k1 : xk = 1
   ·subst k1
    go_enter Tryz.func30, Tryz.ntmps30
    go_wp2_with fail
    rw [← hw0]
    refine (VA w0).mono ?_
    rintro e w1 ⟨rfl, e1⟩
    have E1 := e0.trans (ext_v e1)
    rw [hv]
    have a1 := at_ext a0 (ext_v e1)
    have g0 := a1.cell 0
    go_wp2_with fail
    refine (HA w1).mono ?_
    rintro e w2 ⟨rfl, e2⟩
    have E2 := E1.trans (ext_v e2)
    rw [hh]
    have a2 := at_ext a1 (ext_v e2)
    have g1 := a2.cell 1
    have g2 := a2.cell 2
    have g3 := a2.cell 3
    have g5 := a2.cell 5
    go_wp2
    go_ret
    exact ⟨retb' (by have d : mayR ⟨p, (1 : Int), z, m, t, r⟩ = (((1 : Int) == 1 && r.length == 32) || ((1 : Int) == 2 && r.length == 0)) := by { simp only [mayR, hv, hh]; rw [decide_eq_true (show 0 ≤ z by omega), decide_eq_true (show z ≤ 8192 by omega), decide_eq_true (show 0 ≤ m by omega), decide_eq_true (show m ≤ 2147483647 by omega)]; rfl }; rw [d, ← HR.out]; all_goals first | (simp; done) | (rw [Bool.eq_iff_iff]; simp; done) | (rw [Bool.eq_iff_iff]; simp; omega)), E2⟩
   ·by_cases k2 : xk = 2
    ·subst k2
     go_enter Tryz.func30, Tryz.ntmps30
     go_wp2_with fail
     rw [← hw0]
     refine (VA w0).mono ?_
     rintro e w1 ⟨rfl, e1⟩
     have E1 := e0.trans (ext_v e1)
     rw [hv]
     have a1 := at_ext a0 (ext_v e1)
     have g0 := a1.cell 0
     go_wp2_with fail
     refine (HA w1).mono ?_
     rintro e w2 ⟨rfl, e2⟩
     have E2 := E1.trans (ext_v e2)
     rw [hh]
     have a2 := at_ext a1 (ext_v e2)
     have g1 := a2.cell 1
     have g2 := a2.cell 2
     have g3 := a2.cell 3
     have g5 := a2.cell 5
     go_wp2
     go_ret
     exact ⟨retb' (by have d : mayR ⟨p, (2 : Int), z, m, t, r⟩ = (((2 : Int) == 1 && r.length == 32) || ((2 : Int) == 2 && r.length == 0)) := by { simp only [mayR, hv, hh]; rw [decide_eq_true (show 0 ≤ z by omega), decide_eq_true (show z ≤ 8192 by omega), decide_eq_true (show 0 ≤ m by omega), decide_eq_true (show m ≤ 2147483647 by omega)]; rfl }; rw [d, ← HR.out]; all_goals first | (simp; done) | (rw [Bool.eq_iff_iff]; simp; done) | (rw [Bool.eq_iff_iff]; simp; omega)), E2⟩
    ·have t1 : (xk == 1) = false := by simpa using k1
     have t2 : (xk == 2) = false := by simpa using k2
     go_enter Tryz.func30, Tryz.ntmps30
     go_wp2_with fail
     rw [← hw0]
     refine (VA w0).mono ?_
     rintro e w1 ⟨rfl, e1⟩
     have E1 := e0.trans (ext_v e1)
     rw [hv]
     have a1 := at_ext a0 (ext_v e1)
     have g0 := a1.cell 0
     go_wp2_with fail
     refine (HA w1).mono ?_
     rintro e w2 ⟨rfl, e2⟩
     have E2 := E1.trans (ext_v e2)
     rw [hh]
     have a2 := at_ext a1 (ext_v e2)
     have g1 := a2.cell 1
     have g2 := a2.cell 2
     have g3 := a2.cell 3
     have g5 := a2.cell 5
     go_wp2
     go_ret
     exact ⟨retb' (by have d : mayR ⟨p, xk, z, m, t, r⟩ = ((xk == 1 && r.length == 32) || (xk == 2 && r.length == 0)) := by { simp only [mayR, hv, hh]; rw [decide_eq_true (show 0 ≤ z by omega), decide_eq_true (show z ≤ 8192 by omega), decide_eq_true (show 0 ≤ m by omega), decide_eq_true (show m ≤ 2147483647 by omega)]; rfl }; rw [d, ← HR.out]; simp [k1, k2]), E2⟩

def InvMy (w : World) (n : Nat) (ds : List RD) (i : Value) (wr : World) : Prop := ∃ k : Nat, k ≤ n ∧ i = .int .i64 k ∧ okTo ds k = true ∧ Ext w wr
theorem image_big (ds : List RD) (h : 100 < ds.length) : imageL ds = false := by unfold imageL; rw [decide_eq_false (by omega)]; rfl
theorem image_not {ds : List RD} {k : Nat} (hk : k < ds.length) (h : stepL ds k = false) : imageL ds = false := by unfold imageL; rw [okTo_not ds k _ h hk, Bool.and_false]
set_option maxHeartbeats 16000000 in
set_option maxRecDepth 100000 in
theorem may_any (X : Nat → Prop) (v : Value) (l : List RV) (w : World) (h : RR X w v l) (hl : l.length ≤ 9223372036854775807) :
  Calls Tryz.prog 11 #[v] w fun e w' => e = .returned (.bool (imageL (l.map RV.d))) ∧ Ext w w' := by
 obtain ⟨ad, cap, b, o, h⟩ := h
 have ev := h.val
 subst ev
 have HR := Lib.hid h
 have hcap := h.cap_
 have hadr := Lib.hid h.adr
 clear h
 obtain ⟨n, hn⟩ : ∃ n, n = l.length := ⟨_, rfl⟩
 have HN := Lib.hid hn
 have HM := Lib.hid (show (l.map RV.d).length = n by rw [List.length_map]; exact hn.symm)
 rw [← hn] at hcap hl ⊢
 clear hn
 by_cases hbig : 100 < n
 ·have d : decide ((100 : Int) < (n : Int)) = true := by simp; omega
  have IB := Lib.hid (image_big (l.map RV.d) (by rw [HM.out]; exact hbig))
  clear hbig
  go_enter Tryz.func11, Tryz.ntmps11
  go_wp2
  go_ret
  exact ⟨retb' IB.out.symm, Ext.refl w⟩
 have dsm : decide ((100 : Int) < (n : Int)) = false := by simp; omega
 go_enter Tryz.func11, Tryz.ntmps11
 go_wp2
 go_loopw [10] (fun i wr => InvMy w n (l.map RV.d) i wr) (fun i _ => n - (intOf i).toNat)
 case atStart => exact ⟨0, by omega, rfl, rfl, Ext.refl w⟩
 case round =>
  obtain ⟨k, hk, rfl, hok, ex⟩ := hrel
  by_cases hlt : k < n
  ·have i0 : (k : Int) < (n : Int) := by omega
   have i1 : (0 : Int) ≤ (k : Int) := by omega
   obtain ⟨x, hx⟩ : ∃ x, l[k]? = some x := ⟨_, List.getElem?_eq_getElem (by rw [← HN.out]; exact hlt)⟩
   have ea := hadr.out (by rw [← HN.out]; omega)
   subst ea
   obtain ⟨c0, c1, c2, c3, c4, c5⟩ := HR.out.cells k x hx
   have S1 := HR.out.src x (List.mem_of_getElem? hx)
   have hxd : (l.map RV.d)[k]? = some x.d := by rw [List.getElem?_map, hx]; rfl
   have hst := stepL_get hxd
   obtain ⟨p, xk, z, m, t, vv, r⟩ := x
   simp only at c0 c1 c2 c3 c4 c5 S1
   obtain ⟨adx, capx, evx, -⟩ := S1.val
   obtain ⟨R, hR⟩ : ∃ n, n = r.length := ⟨_, rfl⟩
   rw [← hR] at evx
   have HRr := Lib.hid hR
   clear hR
   subst evx
   replace c0 := ext_cell ex c0
   replace c1 := ext_cell ex c1
   replace c2 := ext_cell ex c2
   replace c3 := ext_cell ex c3
   replace c4 := ext_cell ex c4
   replace c5 := ext_cell ex c5
   simp only [RV.d] at hst
   clear hx hxd S1
   have e4 : Ext wr (wr.alloc (.cells #[.string ⟨#[]⟩, .int .i64 0, .int .i64 0, .int .i64 0, .int .u64 0, .slice none 0 0] 52)) := Ext.alloc wr _
   have a4 := At.new wr #[.string ⟨#[]⟩, .int .i64 0, .int .i64 0, .int .i64 0, .int .u64 0, .slice none 0 0] 52
   have one : (#[.string p, .int .i64 xk, .int .i64 z, .int .i64 m, .int .u64 t, .slice adx R capx] : Array Value).all (·.oneCell') = true := by simp [Value.oneCell']
   have sz2 : (Tryz.prog.info? 52).map (·.size) = some (#[.string p, .int .i64 xk, .int .i64 z, .int .i64 m, .int .u64 t, .slice adx R capx] : Array Value).size := szRef
   have e5 := ext_only' e4 (Only.setRow wr.heap.size _ #[.string p, .int .i64 xk, .int .i64 z, .int .i64 m, .int .u64 t, .slice adx R capx]) (Nat.le_refl _)
   have a5 : At ((wr.alloc (.cells #[.string ⟨#[]⟩, .int .i64 0, .int .i64 0, .int .i64 0, .int .u64 0, .slice none 0 0] 52)).setRow wr.heap.size #[.string p, .int .i64 xk, .int .i64 z, .int .i64 m, .int .u64 t, .slice adx R capx]) wr.heap.size #[.string p, .int .i64 xk, .int .i64 z, .int .i64 m, .int .u64 t, .slice adx R capx] 52 := a4.row _
   go_upto_region 6 with (refine wpList_store_row rfl 52 _ _ rfl wr.heap.size _ rfl rfl 52 _ a4 sz2 rfl one ?_)
   clear e4 a4 c0 c1 c2 c3 c4 c5 one sz2
   generalize (wr.alloc (.cells #[.string ⟨#[]⟩, .int .i64 0, .int .i64 0, .int .i64 0, .int .u64 0, .slice none 0 0] 52)).setRow wr.heap.size #[.string p, .int .i64 xk, .int .i64 z, .int .i64 m, .int .u64 t, .slice adx R capx] = w5 at *
   obtain ⟨g4, hg4⟩ : ∃ g, g = wr.heap.size := ⟨_, rfl⟩
   rw [← hg4] at a5 ⊢
   clear hg4
   have ex5 := ex.trans e5
   have HG := Lib.hid (fun w' (hw' : Ext w5 w') => at_ext a5 hw')
   clear ex e5 a5
   cases hm : mayR ⟨p, xk, z, m, t, r⟩ with
   | false =>
    rw [hm] at hst
    have imN := image_not (by rw [HM.out]; exact hlt) (hst.trans rfl)
    clear hst
    refine wp_region_held (S := Ext w5) (by kernel_rfl) ?_
    change wpAnyH _ _ _ _ _ _ _ _ w5.drew
    have S0 : Ext w5 w5.drew := Below.drew (Below.refl _ _)
    generalize w5.drew = W at *
    refine takeS 0 (some 15) (.agg #[.string p, .int .i64 xk, .int .i64 z, .int .i64 m, .int .u64 t, .slice adx R capx]) rfl rfl (by kernel_rfl) (by kernel_rfl) (by kernel_rfl) (fun _ _ _ h => h) rfl S0 (fun w' hw' => exec_load_row 52 _ rfl g4 rfl 52 _ (HG.out w' hw') Tryz.underlying52 rfl (by kernel_rfl)) ?_
    simp only [pt0, pt4, pt1, pt2, pt3]
    refine nextS 1 rfl (by kernel_rfl) rfl (callS (some 16) rfl 30 #[.agg #[.string p, .int .i64 xk, .int .i64 z, .int .i64 m, .int .u64 t, .slice adx R capx]] (by go_simp) (fun v w' => v = .bool false ∧ Ext w5 w') (((mayBe_any p xk z m t r adx R capx W HRr.out).mono fun _ _ he => ⟨_, by rw [hm] at he; exact he.1, rfl, S0.trans he.2⟩)) ?_)
    rintro v1 W1 ⟨rfl, S1⟩
    simp only [pt0, pt4, pt1, pt2, pt3]
    refine ⟨S1, ?_⟩
    refine tkS 2 (some 17) (.bool true) S1 ?_
    simp only [pt0, pt4, pt1, pt2, pt3]
    refine tkS 3 (some 18) (.bool true) S1 ?_
    simp only [pt0, pt4, pt1, pt2, pt3]
    refine skipS 4 (some 19) rfl rfl (by kernel_rfl) (by kernel_rfl) (by kernel_rfl) (fun _ _ _ h => h) rfl S1 ?_
    simp only [pt0, pt4, pt1, pt2, pt3]
    refine skipS 5 (some 20) rfl rfl (by kernel_rfl) (by kernel_rfl) (by kernel_rfl) (fun _ _ _ h => h) rfl S1 ?_
    simp only [pt0, pt4, pt1, pt2, pt3]
    refine skipS 6 (some 21) rfl rfl (by kernel_rfl) (by kernel_rfl) (by kernel_rfl) (fun _ _ _ h => h) rfl S1 ?_
    simp only [pt0, pt4, pt1, pt2, pt3]
    refine skipS 7 (some 22) rfl rfl (by kernel_rfl) (by kernel_rfl) (by kernel_rfl) (fun _ _ _ h => h) rfl S1 ?_
    simp only [pt0, pt4, pt1, pt2, pt3]
    refine skipS 8 (some 23) rfl rfl (by kernel_rfl) (by kernel_rfl) (by kernel_rfl) (fun _ _ _ h => h) rfl S1 ?_
    simp only [pt0, pt4, pt1, pt2, pt3]
    refine skipS 9 (some 24) rfl rfl (by kernel_rfl) (by kernel_rfl) (by kernel_rfl) (fun _ _ _ h => h) rfl S1 ?_
    simp only [pt0, pt4, pt1, pt2, pt3]
    refine skipS 10 (some 25) rfl rfl (by kernel_rfl) (by kernel_rfl) (by kernel_rfl) (fun _ _ _ h => h) rfl S1 ?_
    simp only [pt0, pt4, pt1, pt2, pt3]
    refine skipS 11 (some 26) rfl rfl (by kernel_rfl) (by kernel_rfl) (by kernel_rfl) (fun _ _ _ h => h) rfl S1 ?_
    simp only [pt0, pt4, pt1, pt2, pt3]
    refine skipS 12 (some 27) rfl rfl (by kernel_rfl) (by kernel_rfl) (by kernel_rfl) (fun _ _ _ h => h) rfl S1 ?_
    simp only [pt0, pt4, pt1, pt2, pt3]
    refine skipS 13 (some 28) rfl rfl (by kernel_rfl) (by kernel_rfl) (by kernel_rfl) (fun _ _ _ h => h) rfl S1 ?_
    simp only [pt0, pt4, pt1, pt2, pt3]
    refine skipS 14 (some 29) rfl rfl (by kernel_rfl) (by kernel_rfl) (by kernel_rfl) (fun _ _ _ h => h) rfl S1 ?_
    simp only [pt0, pt4, pt1, pt2, pt3]
    refine skipS 15 (some 30) rfl rfl (by kernel_rfl) (by kernel_rfl) (by kernel_rfl) (fun _ _ _ h => h) rfl S1 ?_
    simp only [pt0, pt4, pt1, pt2, pt3]
    refine skipS 16 (some 31) rfl rfl (by kernel_rfl) (by kernel_rfl) (by kernel_rfl) (fun _ _ _ h => h) rfl S1 ?_
    simp only [pt0, pt4, pt1, pt2, pt3]
    refine skipS 17 (some 32) rfl rfl (by kernel_rfl) (by kernel_rfl) (by kernel_rfl) (fun _ _ _ h => h) rfl S1 ?_
    simp only [pt0, pt4, pt1, pt2, pt3]
    refine tkS 18 (some 33) (.bool true) S1 ?_
    simp only [pt0, pt4, pt1, pt2, pt3]
    refine wpAnyH_done (by kernel_rfl) ?_ _
    have F := Lib.hid (ex5.trans S1)
    have IM := Lib.hid imN
    clear S1 ex5 imN
    go_wp2
    go_ret
    exact ⟨retb' (IM.out).symm, F.out⟩
   | true =>
    rw [hm] at hst
    by_cases hk0 : k = 0
    ·subst hk0
     have HST := Lib.hid (show stepL (l.map RV.d) 0 = true from hst.trans rfl)
     clear hst
     refine wp_region_held (S := Ext w5) (by kernel_rfl) ?_
     change wpAnyH _ _ _ _ _ _ _ _ w5.drew
     have S0 : Ext w5 w5.drew := Below.drew (Below.refl _ _)
     generalize w5.drew = W at *
     refine takeS 0 (some 15) (.agg #[.string p, .int .i64 xk, .int .i64 z, .int .i64 m, .int .u64 t, .slice adx R capx]) rfl rfl (by kernel_rfl) (by kernel_rfl) (by kernel_rfl) (fun _ _ _ h => h) rfl S0 (fun w' hw' => exec_load_row 52 _ rfl g4 rfl 52 _ (HG.out w' hw') Tryz.underlying52 rfl (by kernel_rfl)) ?_
     simp only [pt0, pt4, pt1, pt2, pt3]
     refine nextS 1 rfl (by kernel_rfl) rfl (callS (some 16) rfl 30 #[.agg #[.string p, .int .i64 xk, .int .i64 z, .int .i64 m, .int .u64 t, .slice adx R capx]] (by go_simp) (fun v w' => v = .bool true ∧ Ext w5 w') (((mayBe_any p xk z m t r adx R capx W HRr.out).mono fun _ _ he => ⟨_, by rw [hm] at he; exact he.1, rfl, S0.trans he.2⟩)) ?_)
     rintro v1 W1 ⟨rfl, S1⟩
     simp only [pt0, pt4, pt1, pt2, pt3]
     refine ⟨S1, ?_⟩
     refine tkS 2 (some 17) (.bool false) S1 ?_
     simp only [pt0, pt4, pt1, pt2, pt3]
     refine tkS 3 (some 18) (.bool false) S1 ?_
     simp only [pt0, pt4, pt1, pt2, pt3]
     refine tkS 4 (some 19) (.int .i64 ((0 : Nat) : Int)) S1 ?_
     simp only [pt0, pt4, pt1, pt2, pt3]
     refine tkS 5 (some 20) (.bool false) S1 ?_
     simp only [pt0, pt4, pt1, pt2, pt3]
     refine tkS 6 (some 21) (.bool false) S1 ?_
     simp only [pt0, pt4, pt1, pt2, pt3]
     refine skipS 7 (some 22) rfl rfl (by kernel_rfl) (by kernel_rfl) (by kernel_rfl) (fun _ _ _ h => h) rfl S1 ?_
     simp only [pt0, pt4, pt1, pt2, pt3]
     refine skipS 8 (some 23) rfl rfl (by kernel_rfl) (by kernel_rfl) (by kernel_rfl) (fun _ _ _ h => h) rfl S1 ?_
     simp only [pt0, pt4, pt1, pt2, pt3]
     refine skipS 9 (some 24) rfl rfl (by kernel_rfl) (by kernel_rfl) (by kernel_rfl) (fun _ _ _ h => h) rfl S1 ?_
     simp only [pt0, pt4, pt1, pt2, pt3]
     refine skipS 10 (some 25) rfl rfl (by kernel_rfl) (by kernel_rfl) (by kernel_rfl) (fun _ _ _ h => h) rfl S1 ?_
     simp only [pt0, pt4, pt1, pt2, pt3]
     refine skipS 11 (some 26) rfl rfl (by kernel_rfl) (by kernel_rfl) (by kernel_rfl) (fun _ _ _ h => h) rfl S1 ?_
     simp only [pt0, pt4, pt1, pt2, pt3]
     refine skipS 12 (some 27) rfl rfl (by kernel_rfl) (by kernel_rfl) (by kernel_rfl) (fun _ _ _ h => h) rfl S1 ?_
     simp only [pt0, pt4, pt1, pt2, pt3]
     refine skipS 13 (some 28) rfl rfl (by kernel_rfl) (by kernel_rfl) (by kernel_rfl) (fun _ _ _ h => h) rfl S1 ?_
     simp only [pt0, pt4, pt1, pt2, pt3]
     refine skipS 14 (some 29) rfl rfl (by kernel_rfl) (by kernel_rfl) (by kernel_rfl) (fun _ _ _ h => h) rfl S1 ?_
     simp only [pt0, pt4, pt1, pt2, pt3]
     refine skipS 15 (some 30) rfl rfl (by kernel_rfl) (by kernel_rfl) (by kernel_rfl) (fun _ _ _ h => h) rfl S1 ?_
     simp only [pt0, pt4, pt1, pt2, pt3]
     refine skipS 16 (some 31) rfl rfl (by kernel_rfl) (by kernel_rfl) (by kernel_rfl) (fun _ _ _ h => h) rfl S1 ?_
     simp only [pt0, pt4, pt1, pt2, pt3]
     refine tkS 17 (some 32) (.bool false) S1 ?_
     simp only [pt0, pt4, pt1, pt2, pt3]
     refine tkS 18 (some 33) (.bool false) S1 ?_
     simp only [pt0, pt4, pt1, pt2, pt3]
     refine wpAnyH_done (by kernel_rfl) ?_ _
     have F := Lib.hid (ex5.trans S1)
     clear S1 ex5
     go_wp2
     exact ⟨⟨0 + 1, by omega, by go_num, by rw [okTo_succ, hok, HST.out]; rfl, F.out⟩, by simp [intOf]; omega⟩
    ·obtain ⟨j, rfl⟩ : ∃ j, k = j + 1 := ⟨k - 1, by omega⟩
     obtain ⟨y, hy⟩ : ∃ y, l[j]? = some y := ⟨_, List.getElem?_eq_getElem (by rw [← HN.out]; omega)⟩
     obtain ⟨yc, -⟩ := HR.out.cells j y hy
     have hyd : (l.map RV.d)[j]? = some y.d := by rw [List.getElem?_map, hy]; rfl
     rw [Nat.add_sub_cancel, hyd] at hst
     obtain ⟨yp, yk, yz, ym, yt, yv, yr⟩ := y
     simp only [RV.d] at yc hst
     have j0 : (j : Int) < (n : Int) := by omega
     have j1 : (0 : Int) ≤ (j : Int) := by omega
     have YC := Lib.hid (ext_cell ex5 yc)
     clear yc hy hyd
     cases hls : less yp.toList p.toList with
     | false =>
      rw [hls] at hst
      have imN := image_not (by rw [HM.out]; exact hlt) (hst.trans (by simp))
      clear hst
      refine wp_region_held (S := Ext w5) (by kernel_rfl) ?_
      change wpAnyH _ _ _ _ _ _ _ _ w5.drew
      have S0 : Ext w5 w5.drew := Below.drew (Below.refl _ _)
      generalize w5.drew = W at *
      refine takeS 0 (some 15) (.agg #[.string p, .int .i64 xk, .int .i64 z, .int .i64 m, .int .u64 t, .slice adx R capx]) rfl rfl (by kernel_rfl) (by kernel_rfl) (by kernel_rfl) (fun _ _ _ h => h) rfl S0 (fun w' hw' => exec_load_row 52 _ rfl g4 rfl 52 _ (HG.out w' hw') Tryz.underlying52 rfl (by kernel_rfl)) ?_
      simp only [pt0, pt4, pt1, pt2, pt3]
      refine nextS 1 rfl (by kernel_rfl) rfl (callS (some 16) rfl 30 #[.agg #[.string p, .int .i64 xk, .int .i64 z, .int .i64 m, .int .u64 t, .slice adx R capx]] (by go_simp) (fun v w' => v = .bool true ∧ Ext w5 w') (((mayBe_any p xk z m t r adx R capx W HRr.out).mono fun _ _ he => ⟨_, by rw [hm] at he; exact he.1, rfl, S0.trans he.2⟩)) ?_)
      rintro v1 W1 ⟨rfl, S1⟩
      simp only [pt0, pt4, pt1, pt2, pt3]
      refine ⟨S1, ?_⟩
      refine tkS 2 (some 17) (.bool false) S1 ?_
      simp only [pt0, pt4, pt1, pt2, pt3]
      refine tkS 3 (some 18) (.bool false) S1 ?_
      simp only [pt0, pt4, pt1, pt2, pt3]
      refine tkS 4 (some 19) (.int .i64 ((j + 1 : Nat) : Int)) S1 ?_
      simp only [pt0, pt4, pt1, pt2, pt3]
      refine tkS 5 (some 20) (.bool true) S1 ?_
      simp only [pt0, pt4, pt1, pt2, pt3]
      refine tkS 6 (some 21) (.bool true) S1 ?_
      simp only [pt0, pt4, pt1, pt2, pt3]
      refine tkS 7 (some 22) (.slice (some ⟨b, o, none⟩) n cap) S1 ?_
      simp only [pt0, pt4, pt1, pt2, pt3]
      refine tkS 8 (some 23) (.int .i64 ((j + 1 : Nat) : Int)) S1 ?_
      simp only [pt0, pt4, pt1, pt2, pt3]
      refine tkS 9 (some 24) (.int .i64 (j : Int)) S1 ?_ (hy := fun w' hw' => by go_simp; rw [IntKind.wrap_i64]; omega)
      simp only [pt0, pt4, pt1, pt2, pt3]
      refine tkS 10 (some 25) (.pointer (some ⟨b, o + j * 6, none⟩)) S1 ?_
      simp only [pt0, pt4, pt1, pt2, pt3]
      refine tkS 11 (some 26) (.pointer (some ⟨b, o + j * 6, none⟩)) S1 ?_
      simp only [pt0, pt4, pt1, pt2, pt3]
      refine tkS 12 (some 27) (.string yp) S1 ?_ (hy := fun w' hw' => by have cc : w'.cell? ⟨b, o + j * 6, none⟩ = some (.string yp) := ext_cell hw' YC.out; go_simp)
      simp only [pt0, pt4, pt1, pt2, pt3]
      refine tkS 13 (some 28) (.pointer (some ⟨g4, 0, none⟩)) S1 ?_
      simp only [pt0, pt4, pt1, pt2, pt3]
      refine tkS 14 (some 29) (.string p) S1 ?_ (hy := fun w' hw' => by have cc : w'.cell? ⟨g4, 0, none⟩ = some (.string p) := ((HG.out w' hw').cell 0).trans rfl; go_simp)
      simp only [pt0, pt4, pt1, pt2, pt3]
      refine nextS 15 rfl (by kernel_rfl) rfl (callS (some 30) rfl 31 #[.string yp, .string p] (by go_simp) (fun v w' => v = .bool false ∧ Ext w5 w') (((V.less_any yp p W1).mono fun _ _ he => ⟨_, by rw [hls] at he; exact he.1, rfl, S1.trans (ext_v he.2)⟩)) ?_)
      rintro v2 W2 ⟨rfl, S2⟩
      simp only [pt0, pt4, pt1, pt2, pt3]
      refine ⟨S2, ?_⟩
      refine tkS 16 (some 31) (.bool true) S2 ?_
      simp only [pt0, pt4, pt1, pt2, pt3]
      refine tkS 17 (some 32) (.bool true) S2 ?_
      simp only [pt0, pt4, pt1, pt2, pt3]
      refine tkS 18 (some 33) (.bool true) S2 ?_
      simp only [pt0, pt4, pt1, pt2, pt3]
      refine wpAnyH_done (by kernel_rfl) ?_ _
      have F := Lib.hid (ex5.trans S2)
      have IM := Lib.hid imN
      clear S2 ex5 imN
      go_wp2
      go_ret
      exact ⟨retb' (IM.out).symm, F.out⟩
     | true =>
      rw [hls] at hst
      have HST := Lib.hid (show stepL (l.map RV.d) (j + 1) = true from hst.trans (by simp))
      clear hst
      refine wp_region_held (S := Ext w5) (by kernel_rfl) ?_
      change wpAnyH _ _ _ _ _ _ _ _ w5.drew
      have S0 : Ext w5 w5.drew := Below.drew (Below.refl _ _)
      generalize w5.drew = W at *
      refine takeS 0 (some 15) (.agg #[.string p, .int .i64 xk, .int .i64 z, .int .i64 m, .int .u64 t, .slice adx R capx]) rfl rfl (by kernel_rfl) (by kernel_rfl) (by kernel_rfl) (fun _ _ _ h => h) rfl S0 (fun w' hw' => exec_load_row 52 _ rfl g4 rfl 52 _ (HG.out w' hw') Tryz.underlying52 rfl (by kernel_rfl)) ?_
      simp only [pt0, pt4, pt1, pt2, pt3]
      refine nextS 1 rfl (by kernel_rfl) rfl (callS (some 16) rfl 30 #[.agg #[.string p, .int .i64 xk, .int .i64 z, .int .i64 m, .int .u64 t, .slice adx R capx]] (by go_simp) (fun v w' => v = .bool true ∧ Ext w5 w') (((mayBe_any p xk z m t r adx R capx W HRr.out).mono fun _ _ he => ⟨_, by rw [hm] at he; exact he.1, rfl, S0.trans he.2⟩)) ?_)
      rintro v1 W1 ⟨rfl, S1⟩
      simp only [pt0, pt4, pt1, pt2, pt3]
      refine ⟨S1, ?_⟩
      refine tkS 2 (some 17) (.bool false) S1 ?_
      simp only [pt0, pt4, pt1, pt2, pt3]
      refine tkS 3 (some 18) (.bool false) S1 ?_
      simp only [pt0, pt4, pt1, pt2, pt3]
      refine tkS 4 (some 19) (.int .i64 ((j + 1 : Nat) : Int)) S1 ?_
      simp only [pt0, pt4, pt1, pt2, pt3]
      refine tkS 5 (some 20) (.bool true) S1 ?_
      simp only [pt0, pt4, pt1, pt2, pt3]
      refine tkS 6 (some 21) (.bool true) S1 ?_
      simp only [pt0, pt4, pt1, pt2, pt3]
      refine tkS 7 (some 22) (.slice (some ⟨b, o, none⟩) n cap) S1 ?_
      simp only [pt0, pt4, pt1, pt2, pt3]
      refine tkS 8 (some 23) (.int .i64 ((j + 1 : Nat) : Int)) S1 ?_
      simp only [pt0, pt4, pt1, pt2, pt3]
      refine tkS 9 (some 24) (.int .i64 (j : Int)) S1 ?_ (hy := fun w' hw' => by go_simp; rw [IntKind.wrap_i64]; omega)
      simp only [pt0, pt4, pt1, pt2, pt3]
      refine tkS 10 (some 25) (.pointer (some ⟨b, o + j * 6, none⟩)) S1 ?_
      simp only [pt0, pt4, pt1, pt2, pt3]
      refine tkS 11 (some 26) (.pointer (some ⟨b, o + j * 6, none⟩)) S1 ?_
      simp only [pt0, pt4, pt1, pt2, pt3]
      refine tkS 12 (some 27) (.string yp) S1 ?_ (hy := fun w' hw' => by have cc : w'.cell? ⟨b, o + j * 6, none⟩ = some (.string yp) := ext_cell hw' YC.out; go_simp)
      simp only [pt0, pt4, pt1, pt2, pt3]
      refine tkS 13 (some 28) (.pointer (some ⟨g4, 0, none⟩)) S1 ?_
      simp only [pt0, pt4, pt1, pt2, pt3]
      refine tkS 14 (some 29) (.string p) S1 ?_ (hy := fun w' hw' => by have cc : w'.cell? ⟨g4, 0, none⟩ = some (.string p) := ((HG.out w' hw').cell 0).trans rfl; go_simp)
      simp only [pt0, pt4, pt1, pt2, pt3]
      refine nextS 15 rfl (by kernel_rfl) rfl (callS (some 30) rfl 31 #[.string yp, .string p] (by go_simp) (fun v w' => v = .bool true ∧ Ext w5 w') (((V.less_any yp p W1).mono fun _ _ he => ⟨_, by rw [hls] at he; exact he.1, rfl, S1.trans (ext_v he.2)⟩)) ?_)
      rintro v2 W2 ⟨rfl, S2⟩
      simp only [pt0, pt4, pt1, pt2, pt3]
      refine ⟨S2, ?_⟩
      refine tkS 16 (some 31) (.bool false) S2 ?_
      simp only [pt0, pt4, pt1, pt2, pt3]
      refine tkS 17 (some 32) (.bool false) S2 ?_
      simp only [pt0, pt4, pt1, pt2, pt3]
      refine tkS 18 (some 33) (.bool false) S2 ?_
      simp only [pt0, pt4, pt1, pt2, pt3]
      refine wpAnyH_done (by kernel_rfl) ?_ _
      have F := Lib.hid (ex5.trans S2)
      clear S2 ex5
      go_wp2
      exact ⟨⟨j + 1 + 1, by omega, by go_num, by rw [okTo_succ, hok, HST.out]; rfl, F.out⟩, by simp [intOf]; omega⟩
  ·have d0 : decide ((k : Int) < (n : Int)) = false := by simp; omega
   obtain rfl : k = n := by omega
   have F := Lib.hid (And.intro ex hok)
   clear hlt hok ex
   go_wp2
   go_ret
   refine ⟨retb' ?_, F.out.1⟩
   unfold imageL
   rw [HM.out, F.out.2, decide_eq_true (by omega)]; rfl
end Go.Proofs.YtnhokjnmpdiokaaGreatDoor
