/- The contract of DecodeSide (the document's). -/
import Derived.Test.YtfhgoedonjcekaaDoorGm
namespace Go.Proofs.YtfhgoedonjcekaaDoor
open Go.RowKit Go.Sha
set_option linter.unusedSimpArgs false
set_option linter.unusedVariables false

set_option maxHeartbeats 8000000 in
set_option maxRecDepth 100000 in
theorem rdecode_any (v : Value) (b : List Int) (w : World) (hs : Src w v b w.heap.size) (hb : Byt b) (hl : b.length ≤ 8000) :
    Calls Tryd.prog 17 #[v] w (DcPost w (rdecL b)) := by
  have zone : (#[.int .i64 0, .int .i64 0, .int .i64 0, .slice none 0 0, .slice none 0 0, .slice none 0 0] : Array Value).all (·.oneCell') = true := by simp [Value.oneCell']
  obtain ⟨O, hO⟩ : ∃ o, unsL b = o := ⟨_, rfl⟩
  obtain ⟨D, hD⟩ : ∃ o, rdecL b = o := ⟨_, rfl⟩
  have hU := fun m (h : unsL b = some m) => uns_byt hb h
  have hUl := fun m (h : unsL b = some m) => uns_len h
  have e0 : Ext w (w.alloc (.cells #[.int .i64 0, .int .i64 0, .int .i64 0, .slice none 0 0, .slice none 0 0, .slice none 0 0] 30)) := Ext.alloc w _
  have a0 := At.new w #[.int .i64 0, .int .i64 0, .int .i64 0, .slice none 0 0, .slice none 0 0, .slice none 0 0] 30
  have UN := runseal_any v b _ (hs.now e0) (by omega)
  rw [hO] at UN
  rw [hD]
  unfold rdecL at hD
  rw [hO] at hD
  have HO := Lib.hid hO
  have HD := Lib.hid hD
  have HU := Lib.hid hU
  have HUl := Lib.hid hUl
  have Hs := Lib.hid hs
  obtain ⟨ad, cap, ev⟩ := hs.len
  subst ev
  obtain ⟨nb, hnb⟩ : ∃ n, n = b.length := ⟨_, rfl⟩
  rw [← hnb] at UN Hs hl ⊢
  have Hnb := Lib.hid hnb
  clear hU hUl hO hD hs hnb hb
  go_enter Tryd.func17, Tryd.ntmps17
  go_wp2_with fail
  refine UN.mono ?_
  rintro e w1 ⟨v1, n1, rfl, e1, q1, p1⟩
  have a1 := at_ext a0 e1
  have e01 := e0.trans e1
  clear UN a0 e0 e1
  cases O with
  | none =>
    obtain ⟨rfl, rfl⟩ := p1 rfl
    have DN : Hid (D = none) := Lib.hid HD.out.symm
    clear q1 p1 HD
    go_wp2_with (refine wpList_store_row rfl 30 _ _ rfl w.heap.size _ rfl rfl 30 _ a1 szRSide rfl zone ?_)
    refine bodyPost_ret (results_row_tmp rfl _ _ w.heap.size 30 _ rfl ((a1).row _) Tryd.underlying30 rfl szRSide) rfl ?_
    exact ⟨fun s h => by rw [DN.out] at h; simp at h, fun _ => ⟨_, _, _, rfl, ext_only' e01 (Only.setRow _ _ _) (Nat.le_refl _), none_sr _⟩⟩
  | some x =>
    obtain ⟨rfl, sub1⟩ := q1 x rfl
    have SUB := Lib.hid sub1
    have s1 := sub1 w1 w1.heap.size ((Hs.out).now e01)
    clear sub1
    have hbx := HU.out x HO.out
    have hxl := HUl.out x HO.out
    simp only at HD
    clear q1 p1 HU HUl
    obtain ⟨X, hX⟩ : ∃ n, n = x.length := ⟨_, rfl⟩
    obtain ⟨ad1, cap1, sb, so, ev, x2, x3, x4, x5, x6⟩ := s1
    subst ev
    rw [← hX] at x2 x3 x5 HD hxl ⊢
    by_cases h12 : X < 12
    · have d12 : decide ((X : Int) < 12) = true := by simp; omega
      rw [if_pos h12] at HD
      have DN : Hid (D = none) := Lib.hid HD.out.symm
      have HX := Lib.hid hX
      clear HD x2 x3 x4 x5 x6 h12 hX
      go_wp2_with (refine wpList_store_row rfl 30 _ _ rfl w.heap.size _ rfl rfl 30 _ a1 szRSide rfl zone ?_)
      refine bodyPost_ret (results_row_tmp rfl _ _ w.heap.size 30 _ rfl ((a1).row _) Tryd.underlying30 rfl szRSide) rfl ?_
      exact ⟨fun s h => by rw [DN.out] at h; simp at h, fun _ => ⟨_, _, _, rfl, ext_only' e01 (Only.setRow _ _ _) (Nat.le_refl _), none_sr _⟩⟩
    · have d12 : decide ((X : Int) < 12) = false := by simp; omega
      rw [if_neg h12] at HD
      obtain rfl := x3 (by omega)
      have sx : ∀ W, Ext w1 W → Src W (.slice (some ⟨sb, so, none⟩) X cap1) x W.heap.size := fun W hW => by
        have : Src w1 (.slice (some ⟨sb, so, none⟩) X cap1) x w1.heap.size := ⟨_, cap1, sb, so, by rw [hX], by omega, fun _ => rfl, x4, fun j hj => x5 j (by omega), fun h => by cases h⟩
        exact this.now hW
      have HSX := Lib.hid sx
      have i4 : ¬ cap1 = 4 := by omega
      have i8 : ¬ cap1 = 8 := by omega
      have j4 : (4 : Int) ≤ (X : Int) := by omega
      have j8 : (8 : Int) ≤ (X : Int) := by omega
      have HX := Lib.hid hX
      have hX8 : X ≤ 8000 := by have := Hnb.out; omega
      have h12' : 12 ≤ X := by omega
      clear x2 x3 x4 x5 x6 sx hX h12
      obtain ⟨z, hz⟩ : ∃ z, z = gNum x := ⟨_, rfl⟩
      obtain ⟨bb, hbb⟩ : ∃ z, z = gNum (x.drop 4) := ⟨_, rfl⟩
      obtain ⟨k, hk⟩ : ∃ z, z = gNum (x.drop 8) := ⟨_, rfl⟩
      rw [← hz, ← hbb, ← hk] at HD
      have HZ := Lib.hid (And.intro hz (And.intro hbb hk))
      have HS4 := Lib.hid (fun (W : World) (hW : Ext w1 W) => (by
        have := src_back (n := 4) (HX.out ▸ HSX.out W hW : Src W (.slice (some ⟨sb, so, none⟩) x.length cap1) x W.heap.size) (by rw [← HX.out]; omega)
        rw [Option.map_some, Addr.add_mid, ← HX.out] at this
        exact this : Src W (.slice (some ⟨sb, so + 4, none⟩) (X - 4) (cap1 - 4)) (x.drop 4) W.heap.size))
      have HS8 := Lib.hid (fun (W : World) (hW : Ext w1 W) => (by
        have := src_back (n := 8) (HX.out ▸ HSX.out W hW : Src W (.slice (some ⟨sb, so, none⟩) x.length cap1) x W.heap.size) (by rw [← HX.out]; omega)
        rw [Option.map_some, Addr.add_mid, ← HX.out] at this
        exact this : Src W (.slice (some ⟨sb, so + 8, none⟩) (X - 8) (cap1 - 8)) (x.drop 8) W.heap.size))
      have hB4 := hbx.drop 4
      have hB8 := hbx.drop 8
      have HBB := Lib.hid (And.intro hbx (And.intro hB4 hB8))
      clear hz hbb hk hB4 hB8 hbx
      go_upto_region 4 with (fail)
      rename_i K0 hK0
      have key : ∀ (g : Nat) (W : World), w1.heap.size ≤ g → At W g #[.int .i64 z, .int .i64 bb, .int .i64 k, .slice none 0 0, .slice none 0 0, .slice none 0 0] 30 → Ext w1 W → K0 ⟨#[.slice ad nb cap, undef, .pointer (some ⟨w.heap.size, 0, none⟩), .int .i64 0, .slice (some ⟨sb, so, none⟩) X cap1, .int .i64 0, .pointer (some ⟨g, 0, none⟩), undef, undef, undef, undef, undef, undef, .tuple #[.slice (some ⟨sb, so, none⟩) X cap1, .int .i64 0], .slice ad nb cap, .tuple #[.slice (some ⟨sb, so, none⟩) X cap1, .int .i64 0], .slice (some ⟨sb, so, none⟩) X cap1, .int .i64 0, .int .i64 0, .bool false, .bool false, .slice (some ⟨sb, so, none⟩) X cap1, .int .i64 (X : Int), .bool false, .bool false, undef, .slice (some ⟨sb, so, none⟩) X cap1, .int .i64 z, .slice (some ⟨sb, so, none⟩) X cap1, .slice (some ⟨sb, so + 4, none⟩) (X - 4) (cap1 - 4), .int .i64 bb, .slice (some ⟨sb, so, none⟩) X cap1, .slice (some ⟨sb, so + 8, none⟩) (X - 8) (cap1 - 8), .int .i64 k, .agg #[.int .i64 z, .int .i64 bb, .int .i64 k, .slice none 0 0, .slice none 0 0, .slice none 0 0], undef, undef, undef, undef, undef, undef, undef, undef, undef, undef, undef, undef, undef, undef, undef, undef, undef, undef, undef, undef, undef, undef, undef, undef, undef, undef, undef, undef, undef, undef, undef, undef, undef, undef, undef, undef, undef, undef, undef, undef, undef, undef, undef, undef, undef, undef, undef, undef, undef, undef, undef, undef, undef, undef, undef, undef, undef, undef, undef, undef, undef, undef, undef, undef, undef, undef, undef, undef, undef, undef, undef, undef, undef, undef, undef, undef, undef, undef, undef, undef, undef, undef, undef, undef, undef, undef, undef, undef, undef, undef, undef, undef, undef, undef, undef, undef, undef], []⟩ W := by
        intro g W hg aW eW
        refine hK0 _ _ ?_
        have a2 := at_ext a1 eW
        have HW1 := Lib.hid (Nat.lt_of_lt_of_le a1.lt hg)
        have e02 := e01.trans eW
        have SUB12 : ∀ (W' : World) (bh : Nat), Src W' (.slice ad nb cap) b bh → Src W' (.slice (if cap1 = 12 then some ⟨sb, so, none⟩ else some ⟨sb, so + 12, none⟩) (X - 12) (cap1 - 12)) (x.drop 12) bh := fun W' bh h => by
          have h1 := SUB.out W' bh h
          rw [HX.out]
          split
          · rename_i hc
            have h2 := src_back0 h1 hc
            rw [show cap1 - 12 = 0 by omega]
            exact h2
          · have h2 := src_back (n := 12) h1 (by rw [← HX.out]; omega)
            rw [Option.map_some, Addr.add_mid] at h2
            exact h2
        have HS12 := Lib.hid SUB12
        have j12 : (12 : Int) ≤ (X : Int) := by omega
        clear SUB12 HSX HS4 HS8 a1 e01 i4 i8 j4 j8
        go_upto_region 6 with (fail)
        generalize (if cap1 = 12 then (some ⟨sb, so, none⟩ : Option Addr) else some ⟨sb, so + 12, none⟩) = A12 at *
        have f0 := aW.cell 0
        have f1 := aW.cell 1
        have f2 := aW.cell 2
        by_cases c1 : z < 0
        · have d1 : decide (z < 0) = true := by simpa using c1
          have M : mayL z bb k = false := by
            rw [Bool.eq_false_iff]
            intro h
            have := (mayL_iff _ _ _).1 h
            omega
          have DN : Hid (D = none) := Lib.hid (by have := HD.out; rw [M] at this; exact this.symm)
          clear M HD
          go_wp2_with (refine wpList_store_row rfl 30 _ _ rfl w.heap.size _ rfl rfl 30 _ a2 szRSide rfl zone ?_)
          refine bodyPost_ret (results_row_tmp rfl _ _ w.heap.size 30 _ rfl ((a2).row _) Tryd.underlying30 rfl szRSide) rfl ?_
          exact ⟨fun s h => by rw [DN.out] at h; simp at h, fun _ => ⟨_, _, _, rfl, ext_only' e02 (Only.setRow _ _ _) (Nat.le_refl _), none_sr _⟩⟩
        have d1 : decide (z < 0) = false := by simpa using c1
        by_cases c2 : 8192 < z
        · have d2 : decide (8192 < z) = true := by simpa using c2
          have M : mayL z bb k = false := by
            rw [Bool.eq_false_iff]
            intro h
            have := (mayL_iff _ _ _).1 h
            omega
          have DN : Hid (D = none) := Lib.hid (by have := HD.out; rw [M] at this; exact this.symm)
          clear M HD
          go_wp2_with (refine wpList_store_row rfl 30 _ _ rfl w.heap.size _ rfl rfl 30 _ a2 szRSide rfl zone ?_)
          refine bodyPost_ret (results_row_tmp rfl _ _ w.heap.size 30 _ rfl ((a2).row _) Tryd.underlying30 rfl szRSide) rfl ?_
          exact ⟨fun s h => by rw [DN.out] at h; simp at h, fun _ => ⟨_, _, _, rfl, ext_only' e02 (Only.setRow _ _ _) (Nat.le_refl _), none_sr _⟩⟩
        have d2 : decide (8192 < z) = false := by simpa using c2
        by_cases c3 : bb < 16
        · have d3 : decide (bb < 16) = true := by simpa using c3
          have M : mayL z bb k = false := by
            rw [Bool.eq_false_iff]
            intro h
            have := (mayL_iff _ _ _).1 h
            omega
          have DN : Hid (D = none) := Lib.hid (by have := HD.out; rw [M] at this; exact this.symm)
          clear M HD
          go_wp2_with (refine wpList_store_row rfl 30 _ _ rfl w.heap.size _ rfl rfl 30 _ a2 szRSide rfl zone ?_)
          refine bodyPost_ret (results_row_tmp rfl _ _ w.heap.size 30 _ rfl ((a2).row _) Tryd.underlying30 rfl szRSide) rfl ?_
          exact ⟨fun s h => by rw [DN.out] at h; simp at h, fun _ => ⟨_, _, _, rfl, ext_only' e02 (Only.setRow _ _ _) (Nat.le_refl _), none_sr _⟩⟩
        have d3 : decide (bb < 16) = false := by simpa using c3
        by_cases c4 : 4096 < bb
        · have d4 : decide (4096 < bb) = true := by simpa using c4
          have M : mayL z bb k = false := by
            rw [Bool.eq_false_iff]
            intro h
            have := (mayL_iff _ _ _).1 h
            omega
          have DN : Hid (D = none) := Lib.hid (by have := HD.out; rw [M] at this; exact this.symm)
          clear M HD
          go_wp2_with (refine wpList_store_row rfl 30 _ _ rfl w.heap.size _ rfl rfl 30 _ a2 szRSide rfl zone ?_)
          refine bodyPost_ret (results_row_tmp rfl _ _ w.heap.size 30 _ rfl ((a2).row _) Tryd.underlying30 rfl szRSide) rfl ?_
          exact ⟨fun s h => by rw [DN.out] at h; simp at h, fun _ => ⟨_, _, _, rfl, ext_only' e02 (Only.setRow _ _ _) (Nat.le_refl _), none_sr _⟩⟩
        have d4 : decide (4096 < bb) = false := by simpa using c4
        by_cases c5 : k < 1
        · have d5 : decide (k < 1) = true := by simpa using c5
          have M : mayL z bb k = false := by
            rw [Bool.eq_false_iff]
            intro h
            have := (mayL_iff _ _ _).1 h
            omega
          have DN : Hid (D = none) := Lib.hid (by have := HD.out; rw [M] at this; exact this.symm)
          clear M HD
          go_wp2_with (refine wpList_store_row rfl 30 _ _ rfl w.heap.size _ rfl rfl 30 _ a2 szRSide rfl zone ?_)
          refine bodyPost_ret (results_row_tmp rfl _ _ w.heap.size 30 _ rfl ((a2).row _) Tryd.underlying30 rfl szRSide) rfl ?_
          exact ⟨fun s h => by rw [DN.out] at h; simp at h, fun _ => ⟨_, _, _, rfl, ext_only' e02 (Only.setRow _ _ _) (Nat.le_refl _), none_sr _⟩⟩
        have d5 : decide (k < 1) = false := by simpa using c5
        by_cases c6 : 8 < k
        · have d6 : decide (8 < k) = true := by simpa using c6
          have M : mayL z bb k = false := by
            rw [Bool.eq_false_iff]
            intro h
            have := (mayL_iff _ _ _).1 h
            omega
          have DN : Hid (D = none) := Lib.hid (by have := HD.out; rw [M] at this; exact this.symm)
          clear M HD
          go_wp2_with (refine wpList_store_row rfl 30 _ _ rfl w.heap.size _ rfl rfl 30 _ a2 szRSide rfl zone ?_)
          refine bodyPost_ret (results_row_tmp rfl _ _ w.heap.size 30 _ rfl ((a2).row _) Tryd.underlying30 rfl szRSide) rfl ?_
          exact ⟨fun s h => by rw [DN.out] at h; simp at h, fun _ => ⟨_, _, _, rfl, ext_only' e02 (Only.setRow _ _ _) (Nat.le_refl _), none_sr _⟩⟩
        have d6 : decide (8 < k) = false := by simpa using c6
        have M : mayL z bb k = true := (mayL_iff _ _ _).2 (by omega)
        obtain ⟨n, rfl⟩ := Int.eq_ofNat_of_zero_le (show 0 ≤ z by omega)
        obtain ⟨b0, rfl⟩ := Int.eq_ofNat_of_zero_le (show 0 ≤ bb by omega)
        obtain ⟨kk, rfl⟩ := Int.eq_ofNat_of_zero_le (show 0 ≤ k by omega)
        obtain ⟨C1, hC1⟩ := Int.eq_ofNat_of_zero_le (cntL_nonneg (n : Int) (b0 : Int))
        obtain ⟨C2, hC2⟩ := Int.eq_ofNat_of_zero_le (grpsN_nonneg (n : Int) (b0 : Int) (kk : Int))
        have hb1 : C1 ≤ 1048576 := by have := cntL_le (n : Int) (b0 : Int); omega
        have hb2 : C2 ≤ 1048584 := by have := grpsN_le (n : Int) (b0 : Int) (kk : Int); omega
        rw [M, if_pos rfl, hC1, hC2, Int.toNat_natCast, Int.toNat_natCast, Int.toNat_natCast, Int.toNat_natCast, Int.toNat_natCast] at HD
        have HC := Lib.hid (And.intro hC1 (And.intro hC2 M))
        clear M hC1 hC2 c1 c2 c3 c4 c5 c6
        go_upto_region 8 with (fail)
        clear f0 f1 f2 d1 d2 d3 d4 d5 d6
        have hgB := aW.lt
        have hwg : w.heap.size < g := by have := HW1.out; omega
        obtain ⟨cntC, hcn⟩ : ∃ c, c = cntL (n : Int) (b0 : Int) := ⟨_, rfl⟩
        have HCN := Lib.hid (fun (W' : World) => (by
          have := cntR (n : Int) (b0 : Int) W'
          rw [HC.out.1] at this
          exact this : Calls Tryd.prog 52 #[.int .i64 (n : Int), .int .i64 (b0 : Int)] W' fun e w' => e = .returned (.int .i64 (C1 : Int)) ∧ W' = w'))
        have HGN := Lib.hid (fun (W' : World) => (by
          have := rgroups_any (n : Int) (b0 : Int) (kk : Int) W'
          rw [HC.out.2.1] at this
          exact this : Calls Tryd.prog 53 #[.int .i64 (n : Int), .int .i64 (b0 : Int), .int .i64 (kk : Int)] W' fun e w' => e = .returned (.int .i64 (C2 : Int)) ∧ W' = w'))
        clear hcn cntC
        have HI : Hid (InvDS w (.slice ad nb cap) b g W.heap.size C1 (C1 + C2) (n : Int) (b0 : Int) (kk : Int) (x.drop 12) (.slice A12 (X - 12) (cap1 - 12)) (.int .i64 0) W) := Lib.hid ⟨0, x.drop 12, [], [], .slice none 0 0, .slice none 0 0, rfl,
          ⟨by omega, HBB.out.1.drop 12, by rw [List.length_drop, ← HX.out]; omega, HS12.out, e02, a2, aW, OwnG.nil _ _ _ _ _, fun y hy => by simp at hy, by rw [Nat.sub_zero]; simp, Nat.le_refl _, Or.inl ⟨by omega, rfl, rfl, rfl⟩⟩⟩
        obtain ⟨B, hB⟩ : ∃ B, B = W.heap.size := ⟨_, rfl⟩
        rw [← hB] at HI hgB
        have HCB := Lib.hid (And.intro hb1 (And.intro hb2 (And.intro hgB hwg)))
        clear aW a2 e02 eW hB hgB hwg hb1 hb2 hg
        go_wp2
        go_loopw [4, 7] (fun vx i wr => InvDS w (.slice ad nb cap) b g B C1 (C1 + C2) (n : Int) (b0 : Int) (kk : Int) (x.drop 12) vx i wr) (fun _ i _ => C1 + C2 - (intOf i).toNat)
        case atStart => exact HI.out
        case round =>
          clear HI
          obtain ⟨j, r, ls, ps, vl, vp, rfl, dc⟩ := hrel
          obtain ⟨adl, capl, el⟩ := dc.own.len
          subst el
          obtain ⟨adp, capp, ep⟩ := dc.par
          subst ep
          obtain ⟨adx, capx, ex⟩ := (dc.sub w _ Hs.out).len
          subst ex
          obtain ⟨nl, hnl⟩ : ∃ n, n = ls.length := ⟨_, rfl⟩
          obtain ⟨np, hnp⟩ : ∃ n, n = ps.length := ⟨_, rfl⟩
          obtain ⟨nr, hnr⟩ : ∃ n, n = r.length := ⟨_, rfl⟩
          have DCH := Lib.hid dc
          have HN := Lib.hid (And.intro hnl (And.intro hnp hnr))
          rw [← hnl, ← hnp, ← hnr] at DCH
          have hjC := dc.jC
          have f0 := dc.ag.cell 0
          have f1 := dc.ag.cell 1
          have f2 := dc.ag.cell 2
          clear dc
          rw [← hnl, ← hnp] at f0 f1 f2
          rw [← hnr]
          clear hnl hnp hnr
          have hb1 := HCB.out.1
          have hb2 := HCB.out.2.1
          by_cases hlt : j < C1 + C2
          · have i0 : (j : Int) < (C1 : Int) + (C2 : Int) := by omega
            have d0 : decide ((j : Int) < (C1 : Int) + (C2 : Int)) = true := by simp; omega
            go_wp2
            go_quiet (first | (go_at_call 52; exact Calls.quiet_of_same ((HCN.out _).mono fun _ _ h => ⟨h.1, h.2.symm⟩)) | (go_at_call 53; exact Calls.quiet_of_same ((HGN.out _).mono fun _ _ h => ⟨h.1, h.2.symm⟩)))
            replace DCH := Lib.hid (DCH.out.grow (⟨rfl, rfl, rfl, Nat.le_refl _, fun _ _ => rfl⟩ : Ext wr (wr.drewN nq)))
            clear f0 f1 f2
            generalize wr.drewN nq = wq at *
            clear nq
            go_wp2_with fail
            refine (getb_any _ r wq.heap.size 4096 wq (DCH.out.sub wq _ (Hs.out.now DCH.out.ex)) DCH.out.br (by have := DCH.out.lr; omega)).mono ?_
            rintro e w2 ⟨v1, v2, rfl, e2, pc⟩
            obtain ⟨q, hq⟩ : ∃ q, rCnt r 0 4096 = q := ⟨_, rfl⟩
            rw [hq] at pc ⊢
            obtain ⟨m, r2, f⟩ := q
            simp only at pc ⊢
            have sy : Sub (.slice ad nb cap) b v1 m := fun W' bh h => (pc W' bh (DCH.out.sub W' bh h)).1
            have sx : Sub (.slice ad nb cap) b v2 r2 := fun W' bh h => (pc W' bh (DCH.out.sub W' bh h)).2
            obtain ⟨ad1, cap2, ev⟩ := (sy w _ Hs.out).len
            subst ev
            obtain ⟨ad2, cap3, ev⟩ := (sx w _ Hs.out).len
            subst ev
            obtain ⟨M1, hM1⟩ : ∃ n, n = m.length := ⟨_, rfl⟩
            obtain ⟨M2, hM2⟩ : ∃ n, n = r2.length := ⟨_, rfl⟩
            rw [← hM1] at sy ⊢
            rw [← hM2] at sx ⊢
            have SY := Lib.hid sy
            have SX := Lib.hid sx
            have HQ := Lib.hid hq
            clear pc sy sx hM1 hM2 hq
            have DC2 := Lib.hid (DCH.out.grow e2)
            clear DCH e2
            have a2 := DC2.out.a2
            have e02 := DC2.out.ex
            by_cases hf : f = 0
            · subst hf
              clear a2 e02
              have f0 := DC2.out.ag.cell 0
              have f1 := DC2.out.ag.cell 1
              go_wp2_with fail
              refine (HCN.out w2).mono ?_
              rintro e w' ⟨rfl, rfl⟩
              clear f0 f1
              by_cases hc1 : j < C1
              · have i1 : (j : Int) < (C1 : Int) := by omega
                have d1 : decide ((j : Int) < (C1 : Int)) = true := by simp; omega
                have d1' : decide (j < C1) = true := by simpa using hc1
                have f4 := DC2.out.ag.cell 4
                go_wp2_with (refine list_append_g rt_kept rfl (.tmp 101) (.tmp 103) 24 rfl (.slice none 0 0) 24 Tryd.underlying24 u22zero rfl (by omega) B _ ls (fun _ => True) rfl (own_one rt_kept DC2.out.own _ 22) w2.heap.size 1 _ m rfl (cell_one w2 _ 22) rfl (fun _ _ => trivial) (by have := DC2.out.lens.1; omega) (by rw [size_alloc]; have := DC2.out.bs; omega) ?_; intro v3 w3 o3 b3; obtain ⟨adv3, nv3, capv3, ev3⟩ := own_shape o3; subst ev3; have N4 := (at_ext DC2.out.ag (Ext.alloc w2 (.cells #[.slice ad1 M1 cap2] 22))).below b3 HCB.out.2.2.1; have c4 := N4.cell 4; have z4 := N4.frozen 4)
                refine ⟨⟨j + 1, r2, _, _, _, _, by go_num, DC2.out.leaf hc1 (by omega) HCB.out.2.2.1 HCB.out.2.2.2 HQ.out (Ext.alloc w2 _) SY.out SX.out o3 b3⟩, by simp [intOf]; omega⟩
              · have i1 : ¬ ((j : Int) < (C1 : Int)) := by omega
                have d1 : decide ((j : Int) < (C1 : Int)) = false := by simp; omega
                have d1' : decide (j < C1) = false := by simpa using hc1
                obtain ⟨_, _, B2, hB1, hB2, hown, op⟩ := DC2.out.two (by omega)
                have f5 := DC2.out.ag.cell 5
                go_wp2_with (refine list_append_g rt_kept rfl (.tmp 107) (.tmp 109) 24 rfl (.slice none 0 0) 24 Tryd.underlying24 u22zero rfl (by omega) B2 _ ps (fun _ => True) rfl (own_one rt_kept op _ 22) w2.heap.size 1 _ m rfl (cell_one w2 _ 22) rfl (fun _ _ => trivial) (by have := DC2.out.lens.2; omega) (by rw [size_alloc]; omega) ?_; intro v3 w3 o3 b3; obtain ⟨adv3, nv3, capv3, ev3⟩ := own_shape o3; subst ev3; have N4 := (at_ext DC2.out.ag (Ext.alloc w2 (.cells #[.slice ad1 M1 cap2] 22))).below b3 (Nat.lt_of_lt_of_le HCB.out.2.2.1 hB1); have c4 := N4.cell 5; have z4 := N4.frozen 5)
                refine ⟨⟨j + 1, r2, _, _, _, _, by go_num, DC2.out.parity (by omega) hlt HCB.out.2.2.1 HCB.out.2.2.2 hB1 hB2 hown HQ.out (Ext.alloc w2 _) SY.out SX.out o3 b3⟩, by simp [intOf]; omega⟩
            · have tf : (f != 0) = true := by simpa using hf
              have DN : Hid (D = none) := Lib.hid (by
                have h := HD.out
                rw [DC2.out.stop hlt (by rw [HQ.out]; exact hf)] at h
                exact h.symm)
              clear HD
              go_wp2_with (refine wpList_store_row rfl 30 _ _ rfl w.heap.size _ rfl rfl 30 _ a2 szRSide rfl zone ?_)
              refine bodyPost_ret (results_row_tmp rfl _ _ w.heap.size 30 _ rfl ((a2).row _) Tryd.underlying30 rfl szRSide) rfl ?_
              exact ⟨fun s h => by rw [DN.out] at h; simp at h, fun _ => ⟨_, _, _, rfl, ext_only' e02 (Only.setRow _ _ _) (Nat.le_refl _), none_sr _⟩⟩
          · have i0 : ¬ ((j : Int) < (C1 : Int) + (C2 : Int)) := by omega
            have d0 : decide ((j : Int) < (C1 : Int) + (C2 : Int)) = false := by simp; omega
            have HF := Lib.hid (DCH.out.done hlt)
            have HF2 := Lib.hid HF.out
            go_wp2
            go_quiet (first | (go_at_call 52; exact Calls.quiet_of_same ((HCN.out _).mono fun _ _ h => ⟨h.1, h.2.symm⟩)) | (go_at_call 53; exact Calls.quiet_of_same ((HGN.out _).mono fun _ _ h => ⟨h.1, h.2.symm⟩)))
            replace DCH := Lib.hid (DCH.out.grow (⟨rfl, rfl, rfl, Nat.le_refl _, fun _ _ => rfl⟩ : Ext wr (wr.drewN nq)))
            clear f0 f1 f2
            generalize wr.drewN nq = wq at *
            clear nq
            obtain ⟨LL, LP⟩ := DCH.out.lists (by omega) HCB.out.2.2.1 HCB.out.2.2.2 Hs.out
            have a2 := DCH.out.a2
            have ag := DCH.out.ag
            have e02 := DCH.out.ex
            obtain ⟨q1, _, _⟩ := DCH.out.two (by omega)
            obtain ⟨LS, hLS⟩ : ∃ l, l = ls.map (·.2) := ⟨_, rfl⟩
            obtain ⟨PS, hPS⟩ : ∃ l, l = ps.map (·.2) := ⟨_, rfl⟩
            have lL : LS.length = C1 := by rw [hLS, List.length_map, q1]
            have hf : rFld (C1 + C2) (x.drop 12) = some (LS ++ PS, r) := by rw [hLS, hPS, ← List.map_append]; exact HF.out
            have hfb := rFld_byt _ _ (HBB.out.1.drop 12) _ _ hf
            have hfl := rFld_len _ _ (HBB.out.1.drop 12) _ _ hf
            have hbd : (encS n b0 kk LS PS).length ≤ 30000 := by
              unfold encS
              rw [List.length_append, List.length_append, encH_len]
              rw [encLs_app, List.length_append, List.length_drop, ← HX.out] at hfl
              omega
            have hLl : LS.length ≤ 8000 := by
              have h1 := encLs_ge LS
              rw [encLs_app, List.length_append, List.length_drop, ← HX.out] at hfl
              omega
            have lP : PS.length ≤ 9223372036854775807 := by
              have h1 := hfb.1
              rw [List.length_append] at h1
              omega
            have hd := HD.out
            rw [hf] at hd
            simp only [List.take_left' lL, List.drop_left' lL] at hd
            rw [← hLS] at LL
            rw [← hPS] at LP
            have HB1 := Lib.hid (And.intro hfb (And.intro hbd (And.intro hLl lP)))
            clear HD HF HF2 DCH hfb hfl hf hbd hLS hPS q1 lL lP hLl
            have hwz : w.heap.size < wq.heap.size ∧ g < wq.heap.size := ⟨a2.lt, ag.lt⟩
            have HWZ := Lib.hid hwz
            clear hwz
            have f4 := ag.cell 4
            go_wp2_with fail
            clear f4
            refine (rroot3_any _ LS wq (fun bh => bh = w.heap.size ∨ bh = g) (fun bh h => by
              rcases h with rfl | rfl
              · exact HWZ.out.1
              · exact HWZ.out.2) LL.now (fun bh h => LL bh (h.imp_right Or.inl)) (by have := HB1.out.2.2.1; omega) (fun m hm => by have := (HB1.out.1.2 m (List.mem_append_left _ hm)).2; omega)).mono ?_
            rintro e w2 ⟨v3, rfl, e2, s3, sA⟩
            have NR : Nr Src w.heap.size g w2 v3 (rootL LS) := fun bh hb => by
              rcases hb with h | h | h
              · exact sA bh (Or.inl h)
              · exact sA bh (Or.inr h)
              · exact s3.other h
            obtain ⟨ad3, cap4, ev⟩ := s3.len
            subst ev
            clear s3 sA
            replace LL := LL.ext lr_kept e2
            replace LP := LP.ext lr_kept e2
            replace a2 := at_ext a2 e2
            replace ag := at_ext ag e2
            replace e02 := e02.trans e2
            clear e2 HWZ
            generalize rootL LS = RL at *
            obtain ⟨nR, hnR⟩ : ∃ n, n = RL.length := ⟨_, rfl⟩
            rw [← hnR] at NR ⊢
            clear hnR
            have c3 := ag.cell 3
            have z3 := ag.frozen 3
            have o4 := Only.set g 3 w2 (.slice ad3 nR cap4)
            have ag' : At (w2.setCell ⟨g, 3, none⟩ (.slice ad3 nR cap4)) g #[.int .i64 (n : Int), .int .i64 (b0 : Int), .int .i64 (kk : Int), .slice ad3 nR cap4, .slice adl nl capl, .slice adp np capp] 30 := ag.set 3 _
            have a2' := o4.at a2 (by have := HCB.out.2.2.2; omega)
            have e04 := ext_only' e02 o4 (by have := HCB.out.2.2.2; omega)
            replace LL := LL.only lr_kept o4 (Or.inr rfl)
            replace LP := LP.only lr_kept o4 (Or.inr rfl)
            replace NR := NR.only src_kept o4 (Or.inr rfl)
            clear o4 a2 ag e02
            go_upto_region 19 with (fail)
            clear c3 z3
            generalize w2.setCell ⟨g, 3, none⟩ (.slice ad3 nR cap4) = w4 at *
            have f0 := ag'.cell 0
            have f1 := ag'.cell 1
            have f2 := ag'.cell 2
            have f3 := ag'.cell 3
            have f4 := ag'.cell 4
            have f5 := ag'.cell 5
            have SRg : SR w4 (⟨(n : Int), (b0 : Int), (kk : Int), RL, LS, PS⟩ : Sd) (.slice ad3 nR cap4) (.slice adl nl capl) (.slice adp np capp) := ⟨NR.now, LL.now, LP.now⟩
            have HSR := Lib.hid SRg
            clear SRg
            cases so : soundL (⟨(n : Int), (b0 : Int), (kk : Int), RL, LS, PS⟩ : Sd) with
            | false =>
              rw [so] at hd
              have DN : Hid (D = none) := Lib.hid (by simpa using hd.symm)
              have SO := Lib.hid so
              clear hd so
              go_wp2_with fail
              clear f0 f1 f2 f3 f4 f5
              refine (rencode_not (⟨(n : Int), (b0 : Int), (kk : Int), RL, LS, PS⟩ : Sd) _ _ _ w4 HSR.out (by have := HB1.out.2.2.1; simp only; omega) HB1.out.2.2.2 SO.out).mono ?_
              rintro e w5 ⟨v5, n5, rfl, e5, q5, p5⟩
              obtain ⟨rfl, rfl⟩ := p5 rfl
              replace a2' := at_ext a2' e5
              replace e04 := e04.trans e5
              clear q5 p5 e5
              go_wp2_with (refine wpList_store_row rfl 30 _ _ rfl w.heap.size _ rfl rfl 30 _ a2' szRSide rfl zone ?_)
              refine bodyPost_ret (results_row_tmp rfl _ _ w.heap.size 30 _ rfl ((a2').row _) Tryd.underlying30 rfl szRSide) rfl ?_
              exact ⟨fun s h => by rw [DN.out] at h; simp at h, fun _ => ⟨_, _, _, rfl, ext_only' e04 (Only.setRow _ _ _) (Nat.le_refl _), none_sr _⟩⟩
            | true =>
              rw [so, Bool.true_and] at hd
              have SO := Lib.hid so
              clear so
              go_wp2_with fail
              clear f0 f1 f2 f3 f4 f5
              refine (rencode_ok n b0 kk RL LS PS _ _ _ w4 HSR.out SO.out HB1.out.2.1).mono ?_
              rintro e w5 ⟨v5, n5, rfl, e5, q5, p5⟩
              obtain ⟨rfl, s5⟩ := q5 _ rfl
              replace a2' := at_ext a2' e5
              replace e04 := e04.trans e5
              replace ag' := at_ext ag' e5
              replace LL := LL.ext lr_kept e5
              replace LP := LP.ext lr_kept e5
              replace NR := NR.ext src_kept e5
              obtain ⟨ad5, cap5, ev⟩ := s5.len
              subst ev
              have k5 := conv_src (P := Tryd.prog) 22 9 5 Tryd.underlying22 Tryd.underlying5 Tryd.underlying9 s5
              have k0 := conv_src (P := Tryd.prog) 22 9 5 Tryd.underlying22 Tryd.underlying5 Tryd.underlying9 (Hs.out.now e04)
              clear q5 p5 e5 s5
              generalize sealL (encS n b0 kk LS PS) = SE at *
              obtain ⟨nS, hnS⟩ : ∃ n, n = SE.length := ⟨_, rfl⟩
              rw [← hnS] at k5 ⊢
              clear hnS
              cases hE : eqS SE b with
              | false =>
                rw [hE] at hd
                have DN : Hid (D = none) := Lib.hid (by simpa using hd.symm)
                clear hd
                unfold eqS at hE
                generalize strOfNums SE = XE at *
                generalize strOfNums b = XB at *
                have hE2 : (XE.toList != XB.toList) = true := by rw [bne, hE]; rfl
                clear LL LP NR ag'
                go_wp2_with (refine wpList_store_row rfl 30 _ _ rfl w.heap.size _ rfl rfl 30 _ a2' szRSide rfl zone ?_)
                refine bodyPost_ret (results_row_tmp rfl _ _ w.heap.size 30 _ rfl ((a2').row _) Tryd.underlying30 rfl szRSide) rfl ?_
                exact ⟨fun s h => by rw [DN.out] at h; simp at h, fun _ => ⟨_, _, _, rfl, ext_only' e04 (Only.setRow _ _ _) (Nat.le_refl _), none_sr _⟩⟩
              | true =>
                rw [hE] at hd
                have DN : Hid (some (⟨(n : Int), (b0 : Int), (kk : Int), RL, LS, PS⟩ : Sd) = D) := Lib.hid (by simpa using hd)
                clear hd
                unfold eqS at hE
                generalize strOfNums SE = XE at *
                generalize strOfNums b = XB at *
                have hE2 : (XE.toList != XB.toList) = false := by rw [bne, hE]; rfl
                have f0 := ag'.cell 0
                have f1 := ag'.cell 1
                have f2 := ag'.cell 2
                have f3 := ag'.cell 3
                have f4 := ag'.cell 4
                have f5 := ag'.cell 5
                have zone2 : (#[.int .i64 (n : Int), .int .i64 (b0 : Int), .int .i64 (kk : Int), .slice ad3 nR cap4, .slice adl nl capl, .slice adp np capp] : Array Value).all (·.oneCell') = true := by simp [Value.oneCell']
                have o6 := Only.setRow w.heap.size w5 #[.int .i64 (n : Int), .int .i64 (b0 : Int), .int .i64 (kk : Int), .slice ad3 nR cap4, .slice adl nl capl, .slice adp np capp]
                have HZ6 := Lib.hid (And.intro (ext_only' e04 o6 (Nat.le_refl _)) (And.intro (NR.only src_kept o6 (Or.inl rfl)) (And.intro (LL.only lr_kept o6 (Or.inl rfl)) (LP.only lr_kept o6 (Or.inl rfl)))))
                clear LL LP NR ag' o6 HSR e04
                go_wp2_with (refine wpList_store_row rfl 30 _ _ rfl w.heap.size _ rfl rfl 30 _ a2' szRSide rfl zone2 ?_)
                refine bodyPost_ret (results_row_tmp rfl _ _ w.heap.size 30 _ rfl (a2'.row _) Tryd.underlying30 rfl szRSide) rfl ?_
                refine ⟨fun s h => ?_, fun h => by rw [← DN.out] at h; cases h⟩
                rw [← DN.out] at h
                injection h with h
                subst h
                exact ⟨_, _, _, rfl, HZ6.out.1, HZ6.out.2.1.now, HZ6.out.2.2.1.now, HZ6.out.2.2.2.now⟩
      refine wp_region_held (S := Ext w1) (by kernel_rfl) ?_
      change wpAnyH _ _ _ _ _ _ _ _ w1.drew
      have S0 : Ext w1 w1.drew := Below.drew (Below.refl _ _)
      generalize w1.drew = W0 at *
      refine takeS 0 (some 26) (.slice (some ⟨sb, so, none⟩) X cap1) rfl rfl (by kernel_rfl) (by kernel_rfl) (by kernel_rfl) (fun _ _ _ h => h) rfl S0 (fun w' hw' => by go_simp) ?_
      simp only [Act.put, List.setIfInBounds_toArray, List.set_cons_zero, List.set_cons_succ]
      refine takeS 2 (some 28) (.slice (some ⟨sb, so, none⟩) X cap1) rfl rfl (by kernel_rfl) (by kernel_rfl) (by kernel_rfl) (fun _ _ _ h => h) rfl S0 (fun w' hw' => by go_simp) ?_
      simp only [Act.put, List.setIfInBounds_toArray, List.set_cons_zero, List.set_cons_succ]
      refine takeS 3 (some 29) (.slice (some ⟨sb, so + 4, none⟩) (X - 4) (cap1 - 4)) rfl rfl (by kernel_rfl) (by kernel_rfl) (by kernel_rfl) (fun _ _ _ h => h) rfl S0 (fun w' hw' => by go_simp) ?_
      simp only [Act.put, List.setIfInBounds_toArray, List.set_cons_zero, List.set_cons_succ]
      refine takeS 5 (some 31) (.slice (some ⟨sb, so, none⟩) X cap1) rfl rfl (by kernel_rfl) (by kernel_rfl) (by kernel_rfl) (fun _ _ _ h => h) rfl S0 (fun w' hw' => by go_simp) ?_
      simp only [Act.put, List.setIfInBounds_toArray, List.set_cons_zero, List.set_cons_succ]
      refine takeS 6 (some 32) (.slice (some ⟨sb, so + 8, none⟩) (X - 8) (cap1 - 8)) rfl rfl (by kernel_rfl) (by kernel_rfl) (by kernel_rfl) (fun _ _ _ h => h) rfl S0 (fun w' hw' => by go_simp) ?_
      simp only [Act.put, List.setIfInBounds_toArray, List.set_cons_zero, List.set_cons_succ]
      refine nextS2 1 9 rfl rfl (by kernel_rfl) rfl rfl (callS (some 27) rfl 51 #[.slice (some ⟨sb, so, none⟩) X cap1] (by go_simp) (fun v w' => v = .int .i64 z ∧ Ext W0 w') ((getn_any _ x _ W0 (HSX.out W0 S0) HBB.out.1 (by rw [← HX.out]; omega)).mono fun _ _ he => ⟨_, he.1.trans (by rw [HZ.out.1]), rfl, he.2⟩) ?_) (makeS (some 6) rfl (.pointer (some ⟨W0.heap.size, 0, none⟩)) (w1 := W0.alloc (.cells #[.int .i64 0, .int .i64 0, .int .i64 0, .slice none 0 0, .slice none 0 0, .slice none 0 0] 30)) (by go_simp) ?_)
      · skip
        rintro v_ W1 ⟨rfl, x_⟩
        simp only [Act.put, List.setIfInBounds_toArray, List.set_cons_zero, List.set_cons_succ]
        have S1 := S0.trans x_
        clear x_
        refine ⟨S1, ?_⟩
        refine nextS2 4 9 rfl rfl (by kernel_rfl) rfl rfl (callS (some 30) rfl 51 #[.slice (some ⟨sb, so + 4, none⟩) (X - 4) (cap1 - 4)] (by go_simp) (fun v w' => v = .int .i64 bb ∧ Ext W1 w') ((getn_any _ (x.drop 4) _ W1 (HS4.out W1 S1) HBB.out.2.1 (by rw [List.length_drop, ← HX.out]; omega)).mono fun _ _ he => ⟨_, he.1.trans (by rw [HZ.out.2.1]), rfl, he.2⟩) ?_) (makeS (some 6) rfl (.pointer (some ⟨W1.heap.size, 0, none⟩)) (w1 := W1.alloc (.cells #[.int .i64 0, .int .i64 0, .int .i64 0, .slice none 0 0, .slice none 0 0, .slice none 0 0] 30)) (by go_simp) ?_)
        · skip
          rintro v_ W2 ⟨rfl, x_⟩
          simp only [Act.put, List.setIfInBounds_toArray, List.set_cons_zero, List.set_cons_succ]
          have S2 := S1.trans x_
          clear x_
          refine ⟨S2, ?_⟩
          refine nextS2 7 9 rfl rfl (by kernel_rfl) rfl rfl (callS (some 33) rfl 51 #[.slice (some ⟨sb, so + 8, none⟩) (X - 8) (cap1 - 8)] (by go_simp) (fun v w' => v = .int .i64 k ∧ Ext W2 w') ((getn_any _ (x.drop 8) _ W2 (HS8.out W2 S2) HBB.out.2.2 (by rw [List.length_drop, ← HX.out]; omega)).mono fun _ _ he => ⟨_, he.1.trans (by rw [HZ.out.2.2]), rfl, he.2⟩) ?_) (makeS (some 6) rfl (.pointer (some ⟨W2.heap.size, 0, none⟩)) (w1 := W2.alloc (.cells #[.int .i64 0, .int .i64 0, .int .i64 0, .slice none 0 0, .slice none 0 0, .slice none 0 0] 30)) (by go_simp) ?_)
          · skip
            rintro v_ W3 ⟨rfl, x_⟩
            simp only [Act.put, List.setIfInBounds_toArray, List.set_cons_zero, List.set_cons_succ]
            have S3 := S2.trans x_
            clear x_
            refine ⟨S3, ?_⟩
            refine takeS 8 (some 34) (.agg #[.int .i64 z, .int .i64 bb, .int .i64 k, .slice none 0 0, .slice none 0 0, .slice none 0 0]) rfl rfl (by kernel_rfl) (by kernel_rfl) (by kernel_rfl) (fun _ _ _ h => h) rfl S3 (fun w' hw' => by go_simp) ?_
            simp only [Act.put, List.setIfInBounds_toArray, List.set_cons_zero, List.set_cons_succ]
            refine nextS 9 rfl (by kernel_rfl) rfl (makeS (some 6) rfl (.pointer (some ⟨W3.heap.size, 0, none⟩)) (w1 := W3.alloc (.cells #[.int .i64 0, .int .i64 0, .int .i64 0, .slice none 0 0, .slice none 0 0, .slice none 0 0] 30)) (by go_simp) ?_)
            simp only [Act.put, List.setIfInBounds_toArray, List.set_cons_zero, List.set_cons_succ]
            have aG := At.new W3 #[.int .i64 0, .int .i64 0, .int .i64 0, .slice none 0 0, .slice none 0 0, .slice none 0 0] 30
            have S4 : Ext w1 (W3.alloc (.cells #[.int .i64 0, .int .i64 0, .int .i64 0, .slice none 0 0, .slice none 0 0, .slice none 0 0] 30)) := S3.trans (Ext.alloc W3 _)
            have hgg := S3.size
            generalize W3.alloc (.cells #[.int .i64 0, .int .i64 0, .int .i64 0, .slice none 0 0, .slice none 0 0, .slice none 0 0] 30) = W4 at *
            generalize W3.heap.size = g at *
            refine ⟨S4, ?_⟩
            refine nextS 10 rfl (by kernel_rfl) rfl (wp_store_row 30 _ _ rfl g #[.int .i64 z, .int .i64 bb, .int .i64 k, .slice none 0 0, .slice none 0 0, .slice none 0 0] rfl rfl 30 _ aG szRSide rfl (by simp [Value.oneCell']) ?_)
            have o_ := Only.setRow g W4 #[.int .i64 z, .int .i64 bb, .int .i64 k, .slice none 0 0, .slice none 0 0, .slice none 0 0]
            have SZ := ext_only' S4 o_ hgg
            refine ⟨SZ, ?_⟩
            refine wpAnyH_done (by kernel_rfl) ?_ _
            exact key g _ hgg (aG.row _) SZ
          · skip
            simp only [Act.put, List.setIfInBounds_toArray, List.set_cons_zero, List.set_cons_succ]
            have aG := At.new W2 #[.int .i64 0, .int .i64 0, .int .i64 0, .slice none 0 0, .slice none 0 0, .slice none 0 0] 30
            have S3 : Ext w1 (W2.alloc (.cells #[.int .i64 0, .int .i64 0, .int .i64 0, .slice none 0 0, .slice none 0 0, .slice none 0 0] 30)) := S2.trans (Ext.alloc W2 _)
            have hgg := S2.size
            generalize W2.alloc (.cells #[.int .i64 0, .int .i64 0, .int .i64 0, .slice none 0 0, .slice none 0 0, .slice none 0 0] 30) = W3 at *
            generalize W2.heap.size = g at *
            refine ⟨S3, ?_⟩
            refine nextS 7 rfl (by kernel_rfl) rfl (callS (some 33) rfl 51 #[.slice (some ⟨sb, so + 8, none⟩) (X - 8) (cap1 - 8)] (by go_simp) (fun v w' => v = .int .i64 k ∧ Ext W3 w') ((getn_any _ (x.drop 8) _ W3 (HS8.out W3 S3) HBB.out.2.2 (by rw [List.length_drop, ← HX.out]; omega)).mono fun _ _ he => ⟨_, he.1.trans (by rw [HZ.out.2.2]), rfl, he.2⟩) ?_)
            rintro v_ W4 ⟨rfl, x_⟩
            simp only [Act.put, List.setIfInBounds_toArray, List.set_cons_zero, List.set_cons_succ]
            have S4 := S3.trans x_
            replace aG := at_ext aG x_
            clear x_
            refine ⟨S4, ?_⟩
            refine takeS 8 (some 34) (.agg #[.int .i64 z, .int .i64 bb, .int .i64 k, .slice none 0 0, .slice none 0 0, .slice none 0 0]) rfl rfl (by kernel_rfl) (by kernel_rfl) (by kernel_rfl) (fun _ _ _ h => h) rfl S4 (fun w' hw' => by go_simp) ?_
            simp only [Act.put, List.setIfInBounds_toArray, List.set_cons_zero, List.set_cons_succ]
            refine nextS 10 rfl (by kernel_rfl) rfl (wp_store_row 30 _ _ rfl g #[.int .i64 z, .int .i64 bb, .int .i64 k, .slice none 0 0, .slice none 0 0, .slice none 0 0] rfl rfl 30 _ aG szRSide rfl (by simp [Value.oneCell']) ?_)
            have o_ := Only.setRow g W4 #[.int .i64 z, .int .i64 bb, .int .i64 k, .slice none 0 0, .slice none 0 0, .slice none 0 0]
            have SZ := ext_only' S4 o_ hgg
            refine ⟨SZ, ?_⟩
            refine wpAnyH_done (by kernel_rfl) ?_ _
            exact key g _ hgg (aG.row _) SZ
        · skip
          simp only [Act.put, List.setIfInBounds_toArray, List.set_cons_zero, List.set_cons_succ]
          have aG := At.new W1 #[.int .i64 0, .int .i64 0, .int .i64 0, .slice none 0 0, .slice none 0 0, .slice none 0 0] 30
          have S2 : Ext w1 (W1.alloc (.cells #[.int .i64 0, .int .i64 0, .int .i64 0, .slice none 0 0, .slice none 0 0, .slice none 0 0] 30)) := S1.trans (Ext.alloc W1 _)
          have hgg := S1.size
          generalize W1.alloc (.cells #[.int .i64 0, .int .i64 0, .int .i64 0, .slice none 0 0, .slice none 0 0, .slice none 0 0] 30) = W2 at *
          generalize W1.heap.size = g at *
          refine ⟨S2, ?_⟩
          refine nextS 4 rfl (by kernel_rfl) rfl (callS (some 30) rfl 51 #[.slice (some ⟨sb, so + 4, none⟩) (X - 4) (cap1 - 4)] (by go_simp) (fun v w' => v = .int .i64 bb ∧ Ext W2 w') ((getn_any _ (x.drop 4) _ W2 (HS4.out W2 S2) HBB.out.2.1 (by rw [List.length_drop, ← HX.out]; omega)).mono fun _ _ he => ⟨_, he.1.trans (by rw [HZ.out.2.1]), rfl, he.2⟩) ?_)
          rintro v_ W3 ⟨rfl, x_⟩
          simp only [Act.put, List.setIfInBounds_toArray, List.set_cons_zero, List.set_cons_succ]
          have S3 := S2.trans x_
          replace aG := at_ext aG x_
          clear x_
          refine ⟨S3, ?_⟩
          refine nextS 7 rfl (by kernel_rfl) rfl (callS (some 33) rfl 51 #[.slice (some ⟨sb, so + 8, none⟩) (X - 8) (cap1 - 8)] (by go_simp) (fun v w' => v = .int .i64 k ∧ Ext W3 w') ((getn_any _ (x.drop 8) _ W3 (HS8.out W3 S3) HBB.out.2.2 (by rw [List.length_drop, ← HX.out]; omega)).mono fun _ _ he => ⟨_, he.1.trans (by rw [HZ.out.2.2]), rfl, he.2⟩) ?_)
          rintro v_ W4 ⟨rfl, x_⟩
          simp only [Act.put, List.setIfInBounds_toArray, List.set_cons_zero, List.set_cons_succ]
          have S4 := S3.trans x_
          replace aG := at_ext aG x_
          clear x_
          refine ⟨S4, ?_⟩
          refine takeS 8 (some 34) (.agg #[.int .i64 z, .int .i64 bb, .int .i64 k, .slice none 0 0, .slice none 0 0, .slice none 0 0]) rfl rfl (by kernel_rfl) (by kernel_rfl) (by kernel_rfl) (fun _ _ _ h => h) rfl S4 (fun w' hw' => by go_simp) ?_
          simp only [Act.put, List.setIfInBounds_toArray, List.set_cons_zero, List.set_cons_succ]
          refine nextS 10 rfl (by kernel_rfl) rfl (wp_store_row 30 _ _ rfl g #[.int .i64 z, .int .i64 bb, .int .i64 k, .slice none 0 0, .slice none 0 0, .slice none 0 0] rfl rfl 30 _ aG szRSide rfl (by simp [Value.oneCell']) ?_)
          have o_ := Only.setRow g W4 #[.int .i64 z, .int .i64 bb, .int .i64 k, .slice none 0 0, .slice none 0 0, .slice none 0 0]
          have SZ := ext_only' S4 o_ hgg
          refine ⟨SZ, ?_⟩
          refine wpAnyH_done (by kernel_rfl) ?_ _
          exact key g _ hgg (aG.row _) SZ
      · skip
        simp only [Act.put, List.setIfInBounds_toArray, List.set_cons_zero, List.set_cons_succ]
        have aG := At.new W0 #[.int .i64 0, .int .i64 0, .int .i64 0, .slice none 0 0, .slice none 0 0, .slice none 0 0] 30
        have S1 : Ext w1 (W0.alloc (.cells #[.int .i64 0, .int .i64 0, .int .i64 0, .slice none 0 0, .slice none 0 0, .slice none 0 0] 30)) := S0.trans (Ext.alloc W0 _)
        have hgg := S0.size
        generalize W0.alloc (.cells #[.int .i64 0, .int .i64 0, .int .i64 0, .slice none 0 0, .slice none 0 0, .slice none 0 0] 30) = W1 at *
        generalize W0.heap.size = g at *
        refine ⟨S1, ?_⟩
        refine nextS 1 rfl (by kernel_rfl) rfl (callS (some 27) rfl 51 #[.slice (some ⟨sb, so, none⟩) X cap1] (by go_simp) (fun v w' => v = .int .i64 z ∧ Ext W1 w') ((getn_any _ x _ W1 (HSX.out W1 S1) HBB.out.1 (by rw [← HX.out]; omega)).mono fun _ _ he => ⟨_, he.1.trans (by rw [HZ.out.1]), rfl, he.2⟩) ?_)
        rintro v_ W2 ⟨rfl, x_⟩
        simp only [Act.put, List.setIfInBounds_toArray, List.set_cons_zero, List.set_cons_succ]
        have S2 := S1.trans x_
        replace aG := at_ext aG x_
        clear x_
        refine ⟨S2, ?_⟩
        refine nextS 4 rfl (by kernel_rfl) rfl (callS (some 30) rfl 51 #[.slice (some ⟨sb, so + 4, none⟩) (X - 4) (cap1 - 4)] (by go_simp) (fun v w' => v = .int .i64 bb ∧ Ext W2 w') ((getn_any _ (x.drop 4) _ W2 (HS4.out W2 S2) HBB.out.2.1 (by rw [List.length_drop, ← HX.out]; omega)).mono fun _ _ he => ⟨_, he.1.trans (by rw [HZ.out.2.1]), rfl, he.2⟩) ?_)
        rintro v_ W3 ⟨rfl, x_⟩
        simp only [Act.put, List.setIfInBounds_toArray, List.set_cons_zero, List.set_cons_succ]
        have S3 := S2.trans x_
        replace aG := at_ext aG x_
        clear x_
        refine ⟨S3, ?_⟩
        refine nextS 7 rfl (by kernel_rfl) rfl (callS (some 33) rfl 51 #[.slice (some ⟨sb, so + 8, none⟩) (X - 8) (cap1 - 8)] (by go_simp) (fun v w' => v = .int .i64 k ∧ Ext W3 w') ((getn_any _ (x.drop 8) _ W3 (HS8.out W3 S3) HBB.out.2.2 (by rw [List.length_drop, ← HX.out]; omega)).mono fun _ _ he => ⟨_, he.1.trans (by rw [HZ.out.2.2]), rfl, he.2⟩) ?_)
        rintro v_ W4 ⟨rfl, x_⟩
        simp only [Act.put, List.setIfInBounds_toArray, List.set_cons_zero, List.set_cons_succ]
        have S4 := S3.trans x_
        replace aG := at_ext aG x_
        clear x_
        refine ⟨S4, ?_⟩
        refine takeS 8 (some 34) (.agg #[.int .i64 z, .int .i64 bb, .int .i64 k, .slice none 0 0, .slice none 0 0, .slice none 0 0]) rfl rfl (by kernel_rfl) (by kernel_rfl) (by kernel_rfl) (fun _ _ _ h => h) rfl S4 (fun w' hw' => by go_simp) ?_
        simp only [Act.put, List.setIfInBounds_toArray, List.set_cons_zero, List.set_cons_succ]
        refine nextS 10 rfl (by kernel_rfl) rfl (wp_store_row 30 _ _ rfl g #[.int .i64 z, .int .i64 bb, .int .i64 k, .slice none 0 0, .slice none 0 0, .slice none 0 0] rfl rfl 30 _ aG szRSide rfl (by simp [Value.oneCell']) ?_)
        have o_ := Only.setRow g W4 #[.int .i64 z, .int .i64 bb, .int .i64 k, .slice none 0 0, .slice none 0 0, .slice none 0 0]
        have SZ := ext_only' S4 o_ hgg
        refine ⟨SZ, ?_⟩
        refine wpAnyH_done (by kernel_rfl) ?_ _
        exact key g _ hgg (aG.row _) SZ
end Go.Proofs.YtfhgoedonjcekaaDoor
