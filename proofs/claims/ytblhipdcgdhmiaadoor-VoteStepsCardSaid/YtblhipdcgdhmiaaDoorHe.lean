/- The contract of DecodePage (the document's). -/
import Derived.Test.YtblhipdcgdhmiaaDoorHd
namespace Go.Proofs.YtblhipdcgdhmiaaDoor
open Go.RowKit Go.Sha
set_option linter.unusedSimpArgs false
set_option linter.unusedVariables false

theorem szRPage : (Tryd.prog.info? 31).map (·.size) = some 2 := by kernel_rfl

set_option maxHeartbeats 4000000 in
set_option maxRecDepth 100000 in
theorem rdecode_any (v : Value) (b : List Int) (w : World) (hs : Src w v b w.heap.size) (hb : Byt b) (hl : b.length ≤ 30000) :
    Calls Tryd.prog 11 #[v] w (DrP w (decP b)) := by
  have zone : (#[.int .i64 0, .slice none 0 0] : Array Value).all (·.oneCell') = true := by simp [Value.oneCell']
  have szz : (Tryd.prog.info? 31).map (·.size) = some (#[.int .i64 0, .slice none 0 0] : Array Value).size := szRPage
  obtain ⟨O, hO⟩ : ∃ o, unsL b = o := ⟨_, rfl⟩
  obtain ⟨D, hD⟩ : ∃ o, decP b = o := ⟨_, rfl⟩
  have hU := fun m (h : unsL b = some m) => uns_byt hb h
  have hUl := fun m (h : unsL b = some m) => uns_len h
  have e0 : Ext w (w.alloc (.cells #[.int .i64 0, .slice none 0 0] 31)) := Ext.alloc w _
  have a0 := At.new w #[.int .i64 0, .slice none 0 0] 31
  have UN := runseal_any v b _ (hs.now e0) (by omega)
  rw [hO] at UN
  rw [hD]
  unfold decP at hD
  rw [hO] at hD
  have HO := Lib.hid hO
  have HD := Lib.hid hD
  have HU := Lib.hid hU
  have HUl := Lib.hid hUl
  have Hs := Lib.hid hs
  obtain ⟨ad, cap, ev⟩ := hs.len
  subst ev
  obtain ⟨nb, hnb⟩ : ∃ n, n = b.length := ⟨_, rfl⟩
  rw [← hnb] at UN Hs hl ⊢
  have Hnb := Lib.hid hnb
  clear hU hUl hO hD hs hnb hb
  go_enter Tryd.func11, Tryd.ntmps11
  go_wp2_with fail
  refine UN.mono ?_
  rintro e w1 ⟨v1, n1, rfl, e1, q1, p1⟩
  have a1 := at_ext a0 e1
  have e01 := e0.trans e1
  clear UN a0 e0 e1
  cases O with
  | none =>
    obtain ⟨rfl, rfl⟩ := p1 rfl
    have DN : D = none := HD.out.symm
    subst DN
    clear q1 p1 HD
    go_wp2_with (refine wpList_store_row rfl 31 _ _ rfl w.heap.size _ rfl rfl 31 _ a1 szz rfl zone ?_)
    refine bodyPost_ret (results_row_tmp rfl _ _ w.heap.size 31 _ rfl ((a1).row _) Tryd.underlying31 rfl szz) rfl ?_
    exact ⟨_, rfl, ext_only' e01 (Only.setRow _ _ _) (Nat.le_refl _), src_nil _ _⟩
  | some x =>
    obtain ⟨rfl, sub1⟩ := q1 x rfl
    have SUB := Lib.hid sub1
    have s1 := sub1 w1 w1.heap.size ((Hs.out).now e01)
    clear sub1
    have hbx := HU.out x HO.out
    have hxl := HUl.out x HO.out
    have hD' := HD.out
    simp only at hD'
    rw [fields_doc x hbx] at hD'
    have hx30 : x.length ≤ 30000 := by have := Hnb.out; omega
    have GN := fun (W : World) (hs : Src W v1 x W.heap.size) => getn_any v1 x _ W hs hbx (by omega)
    have hbd := hbx.drop 4
    clear q1 p1 HU HUl HD hxl
    obtain ⟨X, hX⟩ : ∃ n, n = x.length := ⟨_, rfl⟩
    obtain ⟨ad1, cap1, sb, so, ev, x2, x3, x4, x5, x6⟩ := s1
    subst ev
    have HX := Lib.hid hX
    rw [← hX] at x2 x3 x5 hx30 hD' GN SUB ⊢
    by_cases h4 : X < 4
    · have d12 : decide ((X : Int) < 4) = true := by simp; omega
      have d12' : decide (X < 4) = true := by simpa using h4
      rw [if_pos h4] at hD'
      have DN : D = none := hD'.symm
      subst DN
      clear hD' x2 x3 x4 x5 x6 h4 hX GN
      go_wp2_with (refine wpList_store_row rfl 31 _ _ rfl w.heap.size _ rfl rfl 31 _ a1 szz rfl zone ?_)
      refine bodyPost_ret (results_row_tmp rfl _ _ w.heap.size 31 _ rfl ((a1).row _) Tryd.underlying31 rfl szz) rfl ?_
      exact ⟨_, rfl, ext_only' e01 (Only.setRow _ _ _) (Nat.le_refl _), src_nil _ _⟩
    · have d12 : decide ((X : Int) < 4) = false := by simp; omega
      have d12' : decide (X < 4) = false := by simpa using h4
      rw [if_neg h4] at hD'
      obtain rfl := x3 (by omega)
      have SUB4 : ∀ (W' : World) (bh : Nat), Src W' (.slice ad nb cap) b bh → Src W' (.slice (if cap1 = 4 then some ⟨sb, so, none⟩ else some ⟨sb, so + 4, none⟩) (X - 4) (cap1 - 4)) (x.drop 4) bh := fun W' bh h => by
        have h1 := SUB.out W' bh h
        rw [HX.out] at h1 ⊢
        split
        · rename_i hc
          have h2 := src_back0 h1 hc
          rw [show cap1 - 4 = 0 by omega]
          exact h2
        · have h2 := src_back (n := 4) h1 (by rw [← HX.out]; omega)
          rw [Option.map_some, Addr.add_mid] at h2
          exact h2
      have HS4 := Lib.hid SUB4
      have j4 : (4 : Int) ≤ (X : Int) := by omega
      have jc : X ≤ cap1 := by omega
      have HG := Lib.hid GN
      have HBD := Lib.hid hbd
      have hdl : (x.drop 4).length ≤ 1000000 := by rw [List.length_drop, ← HX.out]; omega
      clear x2 x3 x4 x5 x6 hX h4 SUB4 GN hbd hbx hx30
      by_cases i4 : cap1 = 4
      · subst i4
        obtain rfl : X = 4 := by omega
        have SUB4b := HS4.out
        rw [if_pos rfl] at SUB4b
        replace HS4 := Lib.hid (SUB4b : ∀ (W' : World) (bh : Nat), Src W' (.slice ad nb cap) b bh → Src W' (.slice (some ⟨sb, so, none⟩) 0 0) (x.drop 4) bh)
        clear SUB4b
        go_upto_region 4 with (fail)
        clear d12 d12'
        go_wp2_with fail
        refine (getb_any _ (x.drop 4) _ 60000 w1 (HS4.out _ _ (Hs.out.now e01)) HBD.out hdl).mono ?_
        rintro e w2 ⟨u1, u2, rfl, e2, S2⟩
        have a2 := at_ext a1 e2
        have e02 := e01.trans e2
        obtain ⟨m2, l2, er, h2⟩ : ∃ m l' e', rCnt (x.drop 4) 0 60000 = (m, l', e') := ⟨_, _, _, rfl⟩
        rw [h2] at hD' S2 ⊢
        simp only at hD' S2 ⊢
        obtain ⟨gx, hgx⟩ : ∃ z, gNum x = z := ⟨_, rfl⟩
        have G2 := HG.out w2 (SUB.out _ _ (Hs.out.now e02))
        rw [hgx] at hD' G2
        have HGX := Lib.hid hgx
        have HS2 := Lib.hid (fun W bh (h : Src W (.slice ad nb cap) b bh) => S2 W bh (HS4.out W bh h))
        obtain ⟨adr, capr, evr⟩ := (S2 w2 _ (HS4.out _ _ (Hs.out.now e02))).2.len
        subst evr
        obtain ⟨L, hL⟩ : ∃ n, n = l2.length := ⟨_, rfl⟩
        obtain ⟨adu, capu, evu⟩ := (HS2.out _ _ (Hs.out.now e02)).1.len
        subst evu
        obtain ⟨M, hM⟩ : ∃ n, n = m2.length := ⟨_, rfl⟩
        rw [← hM] at HS2 ⊢
        clear hM
        rw [← hL] at hD' HS2 ⊢
        clear a1 e01 e2 S2 h2 hdl hgx hL
        by_cases h0 : er = 0
        · subst h0
          have HD := Lib.hid hD'
          clear hD'
          by_cases hl0 : L = 0
          · subst hl0
            have HD2 := HD.out
            by_cases hg : gx < 1
            · have dg : decide (gx < 1) = true := by simpa using hg
              rw [if_pos (Or.inr (Or.inr hg))] at HD2
              have DN : D = none := HD2.symm
              subst DN
              clear HD HD2 hg
              go_wp2_with fail
              refine G2.mono ?_
              rintro e w3 ⟨rfl, e3⟩
              have a3 := at_ext a2 e3
              have e03 := e02.trans e3
              clear G2 a2 e02 e3
              go_wp2_with (refine wpList_store_row rfl 31 _ _ rfl w.heap.size _ rfl rfl 31 _ a3 szz rfl zone ?_)
              refine bodyPost_ret (results_row_tmp rfl _ _ w.heap.size 31 _ rfl ((a3).row _) Tryd.underlying31 rfl szz) rfl ?_
              exact ⟨_, rfl, ext_only' e03 (Only.setRow _ _ _) (Nat.le_refl _), src_nil _ _⟩
            · have dg : decide (gx < 1) = false := by simpa using hg
              rw [if_neg (by rintro (hc | hc | hc) <;> first | exact absurd rfl hc | omega)] at HD2
              have DN : D = some (gx, m2) := HD2.symm
              subst DN
              clear HD HD2 hg
              go_wp2_with fail
              refine G2.mono ?_
              rintro e w3 ⟨rfl, e3⟩
              have a3 := at_ext a2 e3
              have e03 := e02.trans e3
              clear G2 a2 e02 e3
              have G3 := HG.out w3 (SUB.out _ _ (Hs.out.now e03))
              rw [HGX.out] at G3
              go_wp2_with fail
              refine G3.mono ?_
              rintro e w4 ⟨rfl, e4⟩
              have a4 := at_ext a3 e4
              have e04 := e03.trans e4
              clear G3 a3 e03 e4
              have sz2 : (Tryd.prog.info? 31).map (·.size) = some (#[.int .i64 gx, .slice adu M capu] : Array Value).size := szRPage
              have one : (#[.int .i64 gx, .slice adu M capu] : Array Value).all (·.oneCell') = true := by simp [Value.oneCell']
              have e05 := ext_only' e04 (Only.setRow w.heap.size w4 #[.int .i64 gx, .slice adu M capu]) (Nat.le_refl _)
              have F := Lib.hid (And.intro e05 (HS2.out _ _ (Hs.out.now e05)).1)
              clear e04 e05
              go_wp2_with (refine wpList_store_row rfl 31 _ _ rfl w.heap.size _ rfl rfl 31 _ a4 sz2 rfl one ?_)
              refine bodyPost_ret (results_row_tmp rfl _ _ w.heap.size 31 _ rfl (a4.row #[.int .i64 gx, .slice adu M capu]) Tryd.underlying31 rfl sz2) rfl ?_
              exact ⟨_, rfl, F.out.1, F.out.2⟩
          · have DN : D = none := by have := HD.out; rw [if_pos (Or.inr (Or.inl (by omega)))] at this; exact this.symm
            subst DN
            have dl : decide ((0 : Int) < (L : Int)) = true := by simp; omega
            have dl' : decide (0 < L) = true := by simp; omega
            clear HD hl0 G2
            go_wp2_with (refine wpList_store_row rfl 31 _ _ rfl w.heap.size _ rfl rfl 31 _ a2 szz rfl zone ?_)
            refine bodyPost_ret (results_row_tmp rfl _ _ w.heap.size 31 _ rfl ((a2).row _) Tryd.underlying31 rfl szz) rfl ?_
            exact ⟨_, rfl, ext_only' e02 (Only.setRow _ _ _) (Nat.le_refl _), src_nil _ _⟩
        · have DN : D = none := by rw [if_pos (Or.inl h0)] at hD'; exact hD'.symm
          subst DN
          have de : (er != (0 : Int)) = true := by simpa using h0
          clear hD' h0 G2
          go_wp2_with (refine wpList_store_row rfl 31 _ _ rfl w.heap.size _ rfl rfl 31 _ a2 szz rfl zone ?_)
          refine bodyPost_ret (results_row_tmp rfl _ _ w.heap.size 31 _ rfl ((a2).row _) Tryd.underlying31 rfl szz) rfl ?_
          exact ⟨_, rfl, ext_only' e02 (Only.setRow _ _ _) (Nat.le_refl _), src_nil _ _⟩
      · have SUB4b := HS4.out
        rw [if_neg i4] at SUB4b
        replace HS4 := Lib.hid SUB4b
        clear SUB4b
        go_upto_region 4 with (fail)
        clear d12 d12'
        go_wp2_with fail
        refine (getb_any _ (x.drop 4) _ 60000 w1 (HS4.out _ _ (Hs.out.now e01)) HBD.out hdl).mono ?_
        rintro e w2 ⟨u1, u2, rfl, e2, S2⟩
        have a2 := at_ext a1 e2
        have e02 := e01.trans e2
        obtain ⟨m2, l2, er, h2⟩ : ∃ m l' e', rCnt (x.drop 4) 0 60000 = (m, l', e') := ⟨_, _, _, rfl⟩
        rw [h2] at hD' S2 ⊢
        simp only at hD' S2 ⊢
        obtain ⟨gx, hgx⟩ : ∃ z, gNum x = z := ⟨_, rfl⟩
        have G2 := HG.out w2 (SUB.out _ _ (Hs.out.now e02))
        rw [hgx] at hD' G2
        have HGX := Lib.hid hgx
        have HS2 := Lib.hid (fun W bh (h : Src W (.slice ad nb cap) b bh) => S2 W bh (HS4.out W bh h))
        obtain ⟨adr, capr, evr⟩ := (S2 w2 _ (HS4.out _ _ (Hs.out.now e02))).2.len
        subst evr
        obtain ⟨L, hL⟩ : ∃ n, n = l2.length := ⟨_, rfl⟩
        obtain ⟨adu, capu, evu⟩ := (HS2.out _ _ (Hs.out.now e02)).1.len
        subst evu
        obtain ⟨M, hM⟩ : ∃ n, n = m2.length := ⟨_, rfl⟩
        rw [← hM] at HS2 ⊢
        clear hM
        rw [← hL] at hD' HS2 ⊢
        clear a1 e01 e2 S2 h2 hdl hgx hL
        by_cases h0 : er = 0
        · subst h0
          have HD := Lib.hid hD'
          clear hD'
          by_cases hl0 : L = 0
          · subst hl0
            have HD2 := HD.out
            by_cases hg : gx < 1
            · have dg : decide (gx < 1) = true := by simpa using hg
              rw [if_pos (Or.inr (Or.inr hg))] at HD2
              have DN : D = none := HD2.symm
              subst DN
              clear HD HD2 hg
              go_wp2_with fail
              refine G2.mono ?_
              rintro e w3 ⟨rfl, e3⟩
              have a3 := at_ext a2 e3
              have e03 := e02.trans e3
              clear G2 a2 e02 e3
              go_wp2_with (refine wpList_store_row rfl 31 _ _ rfl w.heap.size _ rfl rfl 31 _ a3 szz rfl zone ?_)
              refine bodyPost_ret (results_row_tmp rfl _ _ w.heap.size 31 _ rfl ((a3).row _) Tryd.underlying31 rfl szz) rfl ?_
              exact ⟨_, rfl, ext_only' e03 (Only.setRow _ _ _) (Nat.le_refl _), src_nil _ _⟩
            · have dg : decide (gx < 1) = false := by simpa using hg
              rw [if_neg (by rintro (hc | hc | hc) <;> first | exact absurd rfl hc | omega)] at HD2
              have DN : D = some (gx, m2) := HD2.symm
              subst DN
              clear HD HD2 hg
              go_wp2_with fail
              refine G2.mono ?_
              rintro e w3 ⟨rfl, e3⟩
              have a3 := at_ext a2 e3
              have e03 := e02.trans e3
              clear G2 a2 e02 e3
              have G3 := HG.out w3 (SUB.out _ _ (Hs.out.now e03))
              rw [HGX.out] at G3
              go_wp2_with fail
              refine G3.mono ?_
              rintro e w4 ⟨rfl, e4⟩
              have a4 := at_ext a3 e4
              have e04 := e03.trans e4
              clear G3 a3 e03 e4
              have sz2 : (Tryd.prog.info? 31).map (·.size) = some (#[.int .i64 gx, .slice adu M capu] : Array Value).size := szRPage
              have one : (#[.int .i64 gx, .slice adu M capu] : Array Value).all (·.oneCell') = true := by simp [Value.oneCell']
              have e05 := ext_only' e04 (Only.setRow w.heap.size w4 #[.int .i64 gx, .slice adu M capu]) (Nat.le_refl _)
              have F := Lib.hid (And.intro e05 (HS2.out _ _ (Hs.out.now e05)).1)
              clear e04 e05
              go_wp2_with (refine wpList_store_row rfl 31 _ _ rfl w.heap.size _ rfl rfl 31 _ a4 sz2 rfl one ?_)
              refine bodyPost_ret (results_row_tmp rfl _ _ w.heap.size 31 _ rfl (a4.row #[.int .i64 gx, .slice adu M capu]) Tryd.underlying31 rfl sz2) rfl ?_
              exact ⟨_, rfl, F.out.1, F.out.2⟩
          · have DN : D = none := by have := HD.out; rw [if_pos (Or.inr (Or.inl (by omega)))] at this; exact this.symm
            subst DN
            have dl : decide ((0 : Int) < (L : Int)) = true := by simp; omega
            have dl' : decide (0 < L) = true := by simp; omega
            clear HD hl0 G2
            go_wp2_with (refine wpList_store_row rfl 31 _ _ rfl w.heap.size _ rfl rfl 31 _ a2 szz rfl zone ?_)
            refine bodyPost_ret (results_row_tmp rfl _ _ w.heap.size 31 _ rfl ((a2).row _) Tryd.underlying31 rfl szz) rfl ?_
            exact ⟨_, rfl, ext_only' e02 (Only.setRow _ _ _) (Nat.le_refl _), src_nil _ _⟩
        · have DN : D = none := by rw [if_pos (Or.inl h0)] at hD'; exact hD'.symm
          subst DN
          have de : (er != (0 : Int)) = true := by simpa using h0
          clear hD' h0 G2
          go_wp2_with (refine wpList_store_row rfl 31 _ _ rfl w.heap.size _ rfl rfl 31 _ a2 szz rfl zone ?_)
          refine bodyPost_ret (results_row_tmp rfl _ _ w.heap.size 31 _ rfl ((a2).row _) Tryd.underlying31 rfl szz) rfl ?_
          exact ⟨_, rfl, ext_only' e02 (Only.setRow _ _ _) (Nat.le_refl _), src_nil _ _⟩
end Go.Proofs.YtblhipdcgdhmiaaDoor
