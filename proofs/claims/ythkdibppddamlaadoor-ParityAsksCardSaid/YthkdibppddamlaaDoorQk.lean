/- The walk of ParityAsks. -/
import Derived.Test.YthkdibppddamlaaDoorQj
namespace Go.Proofs.YthkdibppddamlaaDoor
open Go.RowKit Go.Sha
set_option linter.unusedSimpArgs false

theorem arg_lr {w : World} {v : Value} {ps : List (Value × List Int)} (h : Arg w v ps) : LR w v (ps.map (·.2)) w.heap.size ∧ ∀ x ∈ ps.map (·.2), Byt x := by
  refine ⟨LR.of_srcs h.1, fun x hx => ?_⟩
  obtain ⟨y, hy, rfl⟩ := List.mem_map.1 hx
  exact h.2.2.2 y hy
theorem tot_length (ps : List (Value × List Int)) : ps.length ≤ tot ps := by
  induction ps with
  | nil => simp
  | cons x r ih => simp only [tot, List.map_cons, List.sum_cons, List.length_cons] at *; omega

set_option maxHeartbeats 16000000 in
set_option maxRecDepth 100000 in
theorem asks_any (vd vo vp vl : Value) (m o : List Int) (B K : Int) (ps pl : List (Value × List Int)) (w : World) (hK : KAt w) (hs : Src w vd m w.heap.size) (_ : Byt m) (_ : m.length ≤ 9223372036854775807) (ho : Src w vo o w.heap.size) (_ : Byt o) (_ : o.length ≤ 9223372036854775807)
    (_ : -9223372036854775808 ≤ B ∧ B ≤ 9223372036854775807) (_ : -9223372036854775808 ≤ K ∧ K ≤ 9223372036854775807) (hp : Arg w vp ps) (hl : Arg w vl pl) :
    Calls Tryd.prog 3 #[vd, vo, .int .i64 B, .int .i64 K, vp, vl] w fun e w' => e = .returned (.bool true) ∧ Ext w w' := by
  obtain ⟨ad, cap, ev⟩ := hs.len
  subst ev
  obtain ⟨ado, capo, ev⟩ := ho.len
  subst ev
  obtain ⟨lp, hpb⟩ := arg_lr hp
  obtain ⟨ll, _⟩ := arg_lr hl
  obtain ⟨adp, capp, ev⟩ := lp.len
  subst ev
  obtain ⟨adl, capl, ev⟩ := ll.len
  subst ev
  have D3 := Lib.hid (abytes_any 4000 (by omega) (.slice adp (ps.map (·.2)).length capp) ps w hp.1 hp.2.1 hp.2.2.1)
  have tl3 := tot_length ps
  have tl4 := tot_length pl
  have hpl3 : (ps.map (·.2)).length = ps.length := by simp
  have hpl4 : (pl.map (·.2)).length = pl.length := by simp
  have hD4 : ∀ w', Ext w w' → Calls Tryd.prog 5 #[.slice adl (pl.map (·.2)).length capl, .int .i64 ((4000 : Nat) : Int)] w' (BytesPost 4000 w' pl) := fun w' he => by
    refine abytes_any 4000 (by omega) _ pl w' ?_ hl.2.1 hl.2.2.1
    obtain ⟨a1, c1, pb, po, e1, e2, e3⟩ := hl.1
    refine ⟨a1, c1, pb, po, e1, e2, fun j x hj => ?_⟩
    obtain ⟨y1, y2⟩ := e3 j x hj
    exact ⟨by rw [Below.cell (p := ⟨pb, po + j, none⟩) he (World.block_lt_of_cell? w _ y1)]; exact y1, y2.now he⟩
  have D4 := Lib.hid hD4; clear hD4
  obtain ⟨par, hpar⟩ : ∃ x, x = ps.map (·.2) := ⟨_, rfl⟩
  obtain ⟨lv, hlv⟩ : ∃ x, x = pl.map (·.2) := ⟨_, rfl⟩
  rw [← hpar] at lp hpb D3 hpl3 ⊢
  rw [← hlv] at ll D4 hpl4 ⊢
  have HS := Lib.hid hs; clear hs
  have HO := Lib.hid ho; clear ho
  have HP := Lib.hid lp; clear lp
  have HLv := Lib.hid ll; clear ll
  have HPB := Lib.hid hpb; clear hpb
  clear hp hl hpar hlv
  have H3 := Lib.hid hpl3; clear hpl3
  have H4 := Lib.hid hpl4; clear hpl4
  go_enter Tryd.func3, Tryd.ntmps3
  go_wp2_with fail
  refine (small_any ad m.length cap B w).mono ?_
  rintro e w' ⟨s1, rfl, rfl, hm1⟩
  cases s1 with
  | false =>
    go_wp2_with fail
    refine (awake_any w).mono ?_
    rintro e w' ⟨rfl, ex⟩
    go_wp2
    go_ret
    exact ⟨rfl, ex⟩
  | true =>
  have hm := hm1 rfl
  clear hm1
  go_wp2_with fail
  refine (small_any ado o.length capo B w).mono ?_
  rintro e w' ⟨s2, rfl, rfl, hm1⟩
  cases s2 with
  | false =>
    go_wp2_with fail
    refine (awake_any w).mono ?_
    rintro e w' ⟨rfl, ex⟩
    go_wp2
    go_ret
    exact ⟨rfl, ex⟩
  | true =>
  have hmo := hm1 rfl
  clear hm1
  go_wp2_with fail
  refine D3.out.mono ?_
  rintro e w1 ⟨n3, hH3, rfl, b1⟩
  have e1 : Ext w w1 := b1
  clear b1 D3
  by_cases h3 : 4000 < n3
  · have d3 : decide (4000 < n3) = true := by simpa using h3
    clear h3
    go_wp2_with fail
    refine (awake_any w1).mono ?_
    rintro e w' ⟨rfl, ex⟩
    go_wp2
    go_ret
    exact ⟨rfl, e1.trans ex⟩
  have d3 : decide (4000 < n3) = false := by simpa using h3
  have hpn : par.length ≤ 4000 := by
    have := H3.out
    rcases hH3 with ⟨a, _⟩ | ⟨_, a⟩
    · omega
    · omega
  clear hH3 h3
  go_wp2_with fail
  refine (D4.out w1 e1).mono ?_
  rintro e w2 ⟨n4, hH4, rfl, b2⟩
  have e2 : Ext w w2 := e1.trans b2
  clear b2 D4 e1
  by_cases h4 : 4000 < n4
  · have d4 : decide (4000 < n4) = true := by simpa using h4
    clear h4
    go_wp2_with fail
    refine (awake_any w2).mono ?_
    rintro e w' ⟨rfl, ex⟩
    go_wp2
    go_ret
    exact ⟨rfl, e2.trans ex⟩
  have d4 : decide (4000 < n4) = false := by simpa using h4
  have hln : lv.length ≤ 4000 := by
    have := H4.out
    rcases hH4 with ⟨a, _⟩ | ⟨_, a⟩
    · omega
    · omega
  clear hH4 h4 tl3 tl4 H3 H4
  have hbd := grpsN_le m.length B K
  have hbd0 := grpsN_nonneg m.length B K
  have hbL : (buildL m B K).length ≤ 1048584 := by rw [buildL_length]; omega
  have huL := upA_length par o m B K
  have hbbL : ∀ f : List Int, (badL f B lv).length ≤ 1048576 := fun f => by
    have := badN_len f B lv (cntL f.length B).toNat
    have := cntL_le f.length B
    have := cntL_nonneg f.length B
    unfold badL
    omega
  have hb1 := hbbL m
  have hb2 := hbbL (fixL m B K lv par)
  clear hbd hbd0 hbbL
  go_wp2_with fail
  refine (update_all _ _ _ par o m B K w2 (HP.out.now e2) (by omega) (HO.out.now e2) (HS.out.now e2) (by omega) (by omega)).mono ?_
  rintro e w3 ⟨a, rfl, x3, la⟩
  have e3 := e2.trans x3
  replace la := la w3.heap.size (Or.inr (Nat.le_refl _))
  clear e2
  go_wp2_with fail
  refine (rupdate_all _ _ _ par o m B K w3 (HP.out.now e3) (by omega) (HO.out.now e3) (HS.out.now e3) (by omega) (by omega) HPB.out).mono ?_
  rintro e w4 ⟨b, rfl, x4, lb⟩
  have e4 := e3.trans x4
  replace lb := lb w4.heap.size (Or.inr (Nat.le_refl _))
  replace la := la.now x4
  clear e3 x3 x4
  go_wp2_with fail
  refine (fix_all _ _ _ m B K lv par w4 (hK.below e4 hK.lt) (HS.out.now e4) (HLv.out.now e4) (HP.out.now e4) (by omega) (by omega) (by omega) HPB.out).mono ?_
  rintro e w5 ⟨c, d, rfl, x5, sc, id⟩
  have e5 := e4.trans x5
  replace la := la.now x5
  replace lb := lb.now x5
  clear e4 x5
  go_wp2_with fail
  refine (rfix_all _ _ _ m B K lv par w5 (HS.out.now e5) (HLv.out.now e5) (HP.out.now e5) (by omega) (by omega) (by omega)).mono ?_
  rintro e w6 ⟨x, y, rfl, x6, sx, iy⟩
  have e6 := e5.trans x6
  replace la := la.now x6
  replace lb := lb.now x6
  replace sc := sc.now x6
  replace id := ir_ext id x6
  clear e5 x6
  go_wp2_with fail
  refine (groups_any m.length B K w6).mono ?_
  rintro e w' ⟨rfl, rfl⟩
  go_wp2_with fail
  refine (rgroups_any m.length B K w6).mono ?_
  rintro e w' ⟨rfl, rfl⟩
  have t0 : (grpsN (m.length : Int) B K == grpsN (m.length : Int) B K) = true := by simp
  generalize grpsN (m.length : Int) B K = g at *
  go_wp2_with fail
  refine (build_any _ m B K w6 (HS.out.now e6) (by omega)).mono ?_
  rintro e w7 ⟨v7, rfl, x7, l7⟩
  have e7 := e6.trans x7
  replace l7 := l7 w7.heap.size (Or.inr (Nat.le_refl _))
  replace la := la.now x7
  replace lb := lb.now x7
  replace sc := sc.now x7
  replace id := ir_ext id x7
  replace sx := sx.now x7
  replace iy := ir_ext iy x7
  clear e6 x7
  go_wp2_with fail
  refine (rbuild_any _ m B K w7 (HS.out.now e7) (by omega)).mono ?_
  rintro e w8 ⟨v8, rfl, x8, l8⟩
  have e8 := e7.trans x8
  replace l8 := l8 w8.heap.size (Or.inr (Nat.le_refl _))
  replace l7 := l7.now x8
  replace la := la.now x8
  replace lb := lb.now x8
  replace sc := sc.now x8
  replace id := ir_ext id x8
  replace sx := sx.now x8
  replace iy := ir_ext iy x8
  clear e7 x8
  go_wp2_with fail
  refine (lists_any v7 v8 (buildL m B K) w8 l7 l8 (by omega)).mono ?_
  rintro e w9 ⟨rfl, x9⟩
  have e9 := e8.trans x9
  replace la := la.now x9
  replace lb := lb.now x9
  replace sc := sc.now x9
  replace id := ir_ext id x9
  replace sx := sx.now x9
  replace iy := ir_ext iy x9
  clear e8 x9 l7 l8
  go_wp2_with fail
  refine (lists_any a b (upA par o m B K) w9 la lb (by omega)).mono ?_
  rintro e w10 ⟨rfl, x10⟩
  have e10 := e9.trans x10
  replace sc := sc.now x10
  replace id := ir_ext id x10
  replace sx := sx.now x10
  replace iy := ir_ext iy x10
  have t1 : (upE par o B K == upE par o B K) = true := by simp
  clear e9 x10 la lb
  go_wp2_with fail
  refine (bad_any _ m B _ lv w10 (hK.below e10 hK.lt) (HS.out.now e10) (HLv.out.now e10) (by omega) (by omega)).mono ?_
  rintro e w11 ⟨u1, rfl, x11, i1⟩
  have e11 := e10.trans x11
  replace sc := sc.now x11
  replace id := ir_ext id x11
  replace sx := sx.now x11
  replace iy := ir_ext iy x11
  clear e10 x11
  go_wp2_with fail
  refine (rbad_any _ m B _ lv w11 (HS.out.now e11) (HLv.out.now e11) (by omega) (by omega)).mono ?_
  rintro e w12 ⟨u2, rfl, x12, i2⟩
  have e12 := e11.trans x12
  replace i1 := ir_ext i1 x12
  replace sc := sc.now x12
  replace id := ir_ext id x12
  replace sx := sx.now x12
  replace iy := ir_ext iy x12
  clear e11 x12
  go_wp2_with fail
  refine (ints_any u1 u2 (badL m B lv) w12 i1 i2 (by omega)).mono ?_
  rintro e w13 ⟨rfl, x13⟩
  have e13 := e12.trans x13
  replace sc := sc.now x13
  replace id := ir_ext id x13
  replace sx := sx.now x13
  replace iy := ir_ext iy x13
  clear e12 x13 i1 i2
  have v1 := convB sc
  have v2 := convB sx
  generalize strOfNums (fixL m B K lv par) = str at *
  have t2 : (str.toList == str.toList) = true := by simp
  clear sc sx
  go_wp2_with fail
  refine (ints_any d y (badL (fixL m B K lv par) B lv) w13 id iy (by omega)).mono ?_
  rintro e w14 ⟨rfl, x14⟩
  have e14 := e13.trans x14
  go_wp2_with fail
  refine (awake_any w14).mono ?_
  rintro e w15 ⟨rfl, x15⟩
  go_wp2
  go_ret
  exact ⟨rfl, e14.trans x15⟩
end Go.Proofs.YthkdibppddamlaaDoor
