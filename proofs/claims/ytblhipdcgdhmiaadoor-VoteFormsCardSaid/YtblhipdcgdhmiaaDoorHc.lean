/- The contract of Decode (the code's). -/
import Derived.Test.YtblhipdcgdhmiaaDoorHb
namespace Go.Proofs.YtblhipdcgdhmiaaDoor
open Go.RowKit Go.Sha
set_option linter.unusedSimpArgs false
set_option linter.unusedVariables false

theorem RSt.only {w w' : World} {b c : Nat} {l : List Int} {e : Int} (h : RSt w b l e) (ho : Only c w w') (hc : b < c) : RSt w' b l e := by
  obtain ⟨v, a, s, n⟩ := h
  exact ⟨v, ho.at a (by omega), fun bh hb => src_keep (s c (by omega)) (s bh hb) ho, n⟩
theorem szPage : (Tryd.prog.info? 25).map (·.size) = some 2 := by kernel_rfl
/-- A page, or the zero one. -/
def pgO (o : Option Pg) : Pg := o.getD (0, [])
/-- What Decode answers. -/
def DcP (w : World) (o : Option Pg) (e : Ending) (w' : World) : Prop := ∃ v, e = .returned (.tuple #[.agg #[.int .i64 (pgO o).1, v], .int .i64 (if o.isSome then 0 else 10)]) ∧ Ext w w' ∧ Far Src w.heap.size w' v (pgO o).2
/-- What DecodePage answers. -/
def DrP (w : World) (o : Option Pg) (e : Ending) (w' : World) : Prop := ∃ v, e = .returned (.tuple #[.agg #[.int .i64 (pgO o).1, v], .int .i64 (if o.isSome then 0 else 10)]) ∧ Ext w w' ∧ Src w' v (pgO o).2 w'.heap.size

set_option maxHeartbeats 4000000 in
set_option maxRecDepth 100000 in
theorem decode_any (v : Value) (b : List Int) (w : World) (hK : KAt w) (hs : Src w v b w.heap.size) (hb : Byt b) (hl : b.length ≤ 100000000) :
    Calls Tryd.prog 10 #[v] w (DcP w (decP b)) := by
  have hU := fun m (h : unsL b = some m) => uns_byt hb h
  have hUl := fun m (h : unsL b = some m) => uns_len h
  obtain ⟨O, hO⟩ : ∃ o, unsL b = o := ⟨_, rfl⟩
  obtain ⟨D, hD⟩ : ∃ o, decP b = o := ⟨_, rfl⟩
  have zone : (#[.int .i64 0, .slice none 0 0] : Array Value).all (·.oneCell') = true := by simp [Value.oneCell']
  have szz : (Tryd.prog.info? 25).map (·.size) = some (#[.int .i64 0, .slice none 0 0] : Array Value).size := szPage
  have e0 : Ext w (w.alloc (.cells #[.int .i64 0, .slice none 0 0] 25)) := Ext.alloc w _
  have a0 := At.new w #[.int .i64 0, .slice none 0 0] 25
  have UN := unseal_any v b _ (hK.below e0 hK.lt) (hs.now e0) hl
  rw [hO] at UN
  rw [hD]
  unfold decP at hD
  rw [hO] at hD
  have HU := Lib.hid hU
  have HUl := Lib.hid hUl
  have HO := Lib.hid hO
  have HD := Lib.hid hD
  obtain ⟨ad, cap, ev⟩ := hs.len
  subst ev
  obtain ⟨n, hn⟩ : ∃ n, n = b.length := ⟨_, rfl⟩
  rw [← hn] at UN ⊢
  clear hU hUl hO hD hs hn hb
  go_enter Tryd.func10, Tryd.ntmps10
  go_wp2_with fail
  refine UN.mono ?_
  rintro e w1 ⟨v1, n1, rfl, e1, q1, p1⟩
  have a1 := at_ext a0 e1
  have e01 := e0.trans e1
  clear UN a0 e0 e1
  cases O with
  | none =>
    obtain ⟨rfl, rfl⟩ := p1 rfl
    have DN : D = none := HD.out.symm
    subst DN
    clear q1 p1 HD
    go_wp2_with (refine wpList_store_row rfl 25 _ _ rfl w.heap.size _ rfl rfl 25 _ a1 szz rfl zone ?_)
    refine bodyPost_ret (results_row_tmp rfl _ _ w.heap.size 25 _ rfl (a1.row _) Tryd.underlying25 rfl szz) rfl ?_
    exact ⟨_, rfl, ext_only' e01 (Only.setRow _ _ _) (Nat.le_refl _), fun bh _ => src_nil _ bh⟩
  | some x =>
    obtain ⟨rfl, s1⟩ := q1 x rfl
    have hbx := HU.out x HO.out
    have hxl := HUl.out x HO.out
    have hD' := HD.out
    simp only at hD'
    clear q1 p1 HU HUl HO HD
    have sz1 : w.heap.size < w1.heap.size := a1.lt
    obtain ⟨g1, l1, e1, h1⟩ : ∃ n l' e', rNum x 0 = (n, l', e') := ⟨_, _, _, rfl⟩
    obtain ⟨m2, l2, e2, h2⟩ : ∃ m l' e', rCnt l1 e1 60000 = (m, l', e') := ⟨_, _, _, rfl⟩
    have hb1 : Byt l1 := by have := rNum_byt x 0 hbx; rw [h1] at this; exact this
    have hr1 : 0 ≤ g1 ∧ g1 ≤ 2147483647 := by have := rNum_range x 0 hbx; rw [h1] at this; exact this
    have hm2 : m2.length ≤ 60000 := by have := rCnt_short l1 e1 60000; rw [h2] at this; exact this
    have HD : Hid (D = (if e2 = 0 ∧ l2.length = 0 ∧ 1 ≤ g1 then some (g1, m2) else none)) := by
      refine Lib.hid ?_
      rw [← hD']
      unfold fieldsP
      rw [h1]
      simp only
      rw [h2]
    have N1 := fun (W : World) (g : Nat) (hr : RSt W g x 0) => num_any g x 0 W hr hbx
    rw [h1] at N1
    have N2 := fun (W : World) (g : Nat) (hr : RSt W g l1 e1) => rbytes_any g l1 e1 60000 W hr hb1 (by omega)
    rw [h2] at N2
    have HN1 := Lib.hid N1
    have HN2 := Lib.hid N2
    have Hr := Lib.hid (And.intro hr1 hm2)
    clear hD' h1 h2 hb1 hr1 hm2 N1 N2
    go_wp2_with fail
    refine (newr_any v1 x _ w1 s1 (by omega)).mono ?_
    rintro e w2 ⟨g, rfl, e2', r2, hg⟩
    have a2 := at_ext a1 e2'
    have e02 := e01.trans e2'
    have glt := r2.lt
    clear a1 e01 s1 e2' hxl
    have e3 : Ext w2 (w2.alloc (.cells #[.int .i64 0, .slice none 0 0] 25)) := Ext.alloc w2 _
    have p3 := At.new w2 #[.int .i64 0, .slice none 0 0] 25
    have r3 := r2.below e3
    have a3 := at_ext a2 e3
    have e03 := e02.trans e3
    obtain ⟨pb, hh⟩ : ∃ h, h = w2.heap.size := ⟨_, rfl⟩
    have hgw : w.heap.size < g := by omega
    rw [← hh] at p3 glt
    have Hh := Lib.hid hh
    clear r2 a2 e02 e3 hg sz1
    go_wp2_with fail
    rw [← Hh.out]
    generalize w2.alloc (.cells #[.int .i64 0, .slice none 0 0] 25) = w3 at *
    clear hh
    refine (HN1.out w3 g r3).mono ?_
    rintro e w4 ⟨rfl, o4, r4⟩
    have p4 := o4.at p3 (by omega)
    have a4 := o4.at a3 (by omega)
    have e04 := ext_only' e03 o4 (by omega)
    have c0 := p4.cell 0
    have z0 := p4.frozen 0
    have p5 : At (w4.setCell ⟨pb, 0, none⟩ (.int .i64 g1)) pb #[.int .i64 g1, .slice none 0 0] 25 := p4.set 0 _
    have o5 := Only.set pb 0 w4 (.int .i64 g1)
    have r5 := RSt.only r4 o5 glt
    have a5 := o5.at a4 (by omega)
    have e05 := ext_only' e04 o5 (by omega)
    clear r3 p3 a3 e03 o4 r4 p4 a4 e04 o5
    go_upto_region 7 with (fail)
    clear c0 z0
    generalize w4.setCell ⟨pb, 0, none⟩ (.int .i64 g1) = w5 at *
    go_wp2_with fail
    refine (HN2.out w5 g r5).mono ?_
    rintro e w6 ⟨v2, rfl, o6, r6, s6⟩
    have p6 := o6.at p5 (by omega)
    have a6 := o6.at a5 (by omega)
    have e06 := ext_only' e05 o6 (by omega)
    have c1 := p6.cell 1
    have z1 := p6.frozen 1
    have p7 : At (w6.setCell ⟨pb, 1, none⟩ v2) pb #[.int .i64 g1, v2] 25 := p6.set 1 _
    have o7 := Only.set pb 1 w6 v2
    have r7 := RSt.only r6 o7 glt
    have a7 := o7.at a6 (by omega)
    have e07 := ext_only' e06 o7 (by omega)
    have s7 : ∀ bh, bh < w5.heap.size ∨ (w6.setCell ⟨pb, 1, none⟩ v2).heap.size ≤ bh → Src (w6.setCell ⟨pb, 1, none⟩ v2) v2 m2 bh := fun bh hbh => src_keep (s6 pb (Or.inl p5.lt)) (s6 bh (hbh.imp_right fun q => Nat.le_trans o7.size q)) o7
    have hv1 := (s6 pb (Or.inl p5.lt)).one
    have plt := p5.lt
    obtain ⟨ad2, cap2, ev2⟩ := (s6 pb (Or.inl p5.lt)).len
    obtain ⟨M, hM⟩ : ∃ n, n = m2.length := ⟨_, rfl⟩
    rw [← hM] at ev2
    have hM6 : M ≤ 60000 := by rw [hM]; exact Hr.out.2
    clear p5 a5 e05 r5 o6 r6 s6 p6 a6 e06 o7
    subst ev2
    have S7 := Lib.hid s7
    clear hM s7
    go_upto_region 8 with (fail)
    clear c1 z1
    generalize w6.setCell ⟨pb, 1, none⟩ (.slice ad2 M cap2) = w7 at *
    by_cases h0 : e2 = 0
    · subst h0
      obtain ⟨L, hL⟩ : ∃ n, n = l2.length := ⟨_, rfl⟩
      have HE := err_any g l2 0 w7 r7
      have HLf := left_any g l2 0 w7 r7
      rw [← hL] at HLf
      have HD2 := Lib.hid (hL ▸ HD.out : D = (if (0 : Int) = 0 ∧ L = 0 ∧ 1 ≤ g1 then some (g1, m2) else none))
      clear HD hL r7
      by_cases hl0 : L = 0
      · subst hl0
        have MB := mayP_any g1 ad2 M cap2 w7
        have d2 : decide (g1 ≤ 2147483647) = true := by simpa using Hr.out.1.2
        have d3 : decide (M ≤ 60000) = true := by simpa using hM6
        rw [d2, d3] at MB
        have k0 := p7.cell 0
        have k1 := p7.cell 1
        obtain ⟨B, hB⟩ : ∃ B, decide (1 ≤ g1) = B := ⟨_, rfl⟩
        rw [hB] at MB
        clear d2 d3
        go_wp2_with fail
        refine HE.mono ?_
        rintro e w8 ⟨rfl, rfl⟩
        clear HE
        go_wp2_with fail
        refine HLf.mono ?_
        rintro e w8 ⟨rfl, rfl⟩
        clear HLf
        go_wp2_with fail
        refine MB.mono ?_
        rintro e w8 ⟨rfl, e8⟩
        have p8 := at_ext p7 e8
        have a8 := at_ext a7 e8
        have e08 := e07.trans e8
        have sz8 := e8.size
        have S8 : Far Src w5.heap.size w8 (.slice ad2 M cap2) m2 := Far.ext src_kept (S7.out : Far Src w5.heap.size w7 (.slice ad2 M cap2) m2) e8
        clear MB k0 k1 p7 a7 e07 S7
        cases B
        · have DN : D = none := by rw [HD2.out, if_neg (fun hc => by have := hc.2.2; simp at hB; omega)]
          subst DN
          clear HD2 hB S8 p8
          go_wp2_with (refine wpList_store_row rfl 25 _ _ rfl w.heap.size _ rfl rfl 25 _ a8 szz rfl zone ?_)
          refine bodyPost_ret (results_row_tmp rfl _ _ w.heap.size 25 _ rfl (a8.row _) Tryd.underlying25 rfl szz) rfl ?_
          exact ⟨_, rfl, ext_only' e08 (Only.setRow _ _ _) (Nat.le_refl _), fun bh _ => src_nil _ bh⟩
        · have DN : D = some (g1, m2) := by rw [HD2.out, if_pos (by simpa using hB)]
          subst DN
          have one : (#[.int .i64 g1, .slice ad2 M cap2] : Array Value).all (·.oneCell') = true := by simp [Value.oneCell']
          have o9 := Only.setRow w.heap.size w8 #[.int .i64 g1, .slice ad2 M cap2]
          have e09 := ext_only' e08 o9 (Nat.le_refl _)
          have S9 := (Far.only src_kept S8 o9 (by omega)).less (n' := w.heap.size) (by omega)
          have Hf := Lib.hid (And.intro e09 S9)
          clear HD2 hB S8 S9 o9 e09 e08
          go_wp2_with (first | (refine wpList_load_row rfl 25 _ rfl pb rfl 25 _ (0, 0) _ p8 Tryd.underlying25 rfl szPage ?_) | (refine wpList_store_row rfl 25 _ _ rfl w.heap.size _ rfl rfl 25 _ a8 szPage rfl one ?_))
          refine bodyPost_ret (results_row_tmp rfl _ _ w.heap.size 25 _ rfl (a8.row #[.int .i64 g1, .slice ad2 M cap2]) Tryd.underlying25 rfl szPage) rfl ?_
          exact ⟨_, rfl, Hf.out.1, Hf.out.2⟩
      · have DN : D = none := by rw [HD2.out, if_neg (fun hc => hl0 hc.2.1)]
        subst DN
        have dl : decide ((0 : Int) < (L : Int)) = true := by simp; omega
        have dl' : decide (0 < L) = true := by simp; omega
        clear HD2 hl0
        go_wp2_with fail
        refine HE.mono ?_
        rintro e w8 ⟨rfl, rfl⟩
        clear HE
        go_wp2_with fail
        refine HLf.mono ?_
        rintro e w8 ⟨rfl, rfl⟩
        clear HLf
        go_wp2_with (refine wpList_store_row rfl 25 _ _ rfl w.heap.size _ rfl rfl 25 _ a7 szz rfl zone ?_)
        refine bodyPost_ret (results_row_tmp rfl _ _ w.heap.size 25 _ rfl (a7.row _) Tryd.underlying25 rfl szz) rfl ?_
        exact ⟨_, rfl, ext_only' e07 (Only.setRow _ _ _) (Nat.le_refl _), fun bh _ => src_nil _ bh⟩
    · have HE := err_any g l2 e2 w7 r7
      have DN : D = none := by rw [HD.out, if_neg (fun hc => h0 hc.1)]
      subst DN
      have de : (e2 != (0 : Int)) = true := by simpa using h0
      clear HD h0 r7
      go_wp2_with fail
      refine HE.mono ?_
      rintro e w8 ⟨rfl, rfl⟩
      clear HE
      go_wp2_with (refine wpList_store_row rfl 25 _ _ rfl w.heap.size _ rfl rfl 25 _ a7 szz rfl zone ?_)
      refine bodyPost_ret (results_row_tmp rfl _ _ w.heap.size 25 _ rfl (a7.row _) Tryd.underlying25 rfl szz) rfl ?_
      exact ⟨_, rfl, ext_only' e07 (Only.setRow _ _ _) (Nat.le_refl _), fun bh _ => src_nil _ bh⟩
end Go.Proofs.YtblhipdcgdhmiaaDoor
