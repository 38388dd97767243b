/- The contract of Decode (the code's). The contract of EncodePage (the document's). Nothing of its own: what Hf imports. Pages in memory, one behind the other; the contract of read (the code's). -/
import Derived.Test.YtnhokjnmpdiokaaGreatDoorHaM
namespace Go.Proofs.YtnhokjnmpdiokaaGreatDoor
open Go.RowKit Go.Sha
set_option linter.unusedSimpArgs false
set_option linter.unusedVariables false

theorem RSt.only {w w' : World} {b c : Nat} {l : List Int} {e : Int} (h : RSt w b l e) (ho : Only c w w') (hc : b < c) : RSt w' b l e := by
  obtain ⟨v, a, s, n⟩ := h
  exact ⟨v, ho.at a (by omega), fun bh hb => src_keep (s c (by omega)) (s bh hb) ho, n⟩
theorem szPage : (Tryz.prog.info? 108).map (·.size) = some 2 := by kernel_rfl
/-- A page, or the zero one. -/
def pgO (o : Option Pg) : Pg := o.getD (0, [])
/-- What Decode answers. -/
def DcP (w : World) (o : Option Pg) (e : Ending) (w' : World) : Prop := ∃ v, e = .returned (.tuple #[.agg #[.int .i64 (pgO o).1, v], .int .i64 (if o.isSome then 0 else 10)]) ∧ Ext w w' ∧ Far Src w.heap.size w' v (pgO o).2
set_option maxHeartbeats 4000000 in
set_option maxRecDepth 100000 in
theorem decode_any (v : Value) (b : List Int) (w : World) (hK : KAt w) (hs : Src w v b w.heap.size) (hb : Byt b) (hl : b.length ≤ 100000000) :
    Calls Tryz.prog 87 #[v] w (DcP w (decP b)) := by
  have hU := fun m (h : unsL b = some m) => uns_byt hb h
  have hUl := fun m (h : unsL b = some m) => uns_len h
  obtain ⟨O, hO⟩ : ∃ o, unsL b = o := ⟨_, rfl⟩
  obtain ⟨D, hD⟩ : ∃ o, decP b = o := ⟨_, rfl⟩
  have zone : (#[.int .i64 0, .slice none 0 0] : Array Value).all (·.oneCell') = true := by simp [Value.oneCell']
  have szz : (Tryz.prog.info? 108).map (·.size) = some (#[.int .i64 0, .slice none 0 0] : Array Value).size := szPage
  have e0 : Ext w (w.alloc (.cells #[.int .i64 0, .slice none 0 0] 108)) := Ext.alloc w _
  have a0 := At.new w #[.int .i64 0, .slice none 0 0] 108
  have UN := unseal_any v b _ (hK.below e0 hK.lt) (hs.now e0) hl
  rw [hO] at UN
  rw [hD]
  unfold decP at hD
  rw [hO] at hD
  have HU := Lib.hid hU
  have HUl := Lib.hid hUl
  have HO := Lib.hid hO
  have HD := Lib.hid hD
  obtain ⟨ad, cap, ev⟩ := hs.len
  subst ev
  obtain ⟨n, hn⟩ : ∃ n, n = b.length := ⟨_, rfl⟩
  rw [← hn] at UN ⊢
  clear hU hUl hO hD hs hn hb
  go_enter Tryz.func87, Tryz.ntmps87
  go_wp2_with fail
  refine UN.mono ?_
  rintro e w1 ⟨v1, n1, rfl, e1, q1, p1⟩
  have a1 := at_ext a0 e1
  have e01 := e0.trans e1
  clear UN a0 e0 e1
  cases O with
  | none =>
    obtain ⟨rfl, rfl⟩ := p1 rfl
    have DN : D = none := HD.out.symm
    subst DN
    clear q1 p1 HD
    go_wp2_with (refine wpList_store_row rfl 108 _ _ rfl w.heap.size _ rfl rfl 108 _ a1 szz rfl zone ?_)
    refine bodyPost_ret (results_row_tmp rfl _ _ w.heap.size 108 _ rfl (a1.row _) Tryz.underlying108 rfl szz) rfl ?_
    exact ⟨_, rfl, ext_only' e01 (Only.setRow _ _ _) (Nat.le_refl _), fun bh _ => src_nil _ bh⟩
  | some x =>
    obtain ⟨rfl, s1⟩ := q1 x rfl
    have hbx := HU.out x HO.out
    have hxl := HUl.out x HO.out
    have hD' := HD.out
    simp only at hD'
    clear q1 p1 HU HUl HO HD
    have sz1 : w.heap.size < w1.heap.size := a1.lt
    obtain ⟨g1, l1, e1, h1⟩ : ∃ n l' e', rNum x 0 = (n, l', e') := ⟨_, _, _, rfl⟩
    obtain ⟨m2, l2, e2, h2⟩ : ∃ m l' e', rCnt l1 e1 60000 = (m, l', e') := ⟨_, _, _, rfl⟩
    have hb1 : Byt l1 := by have := rNum_byt x 0 hbx; rw [h1] at this; exact this
    have hr1 : 0 ≤ g1 ∧ g1 ≤ 2147483647 := by have := rNum_range x 0 hbx; rw [h1] at this; exact this
    have hm2 : m2.length ≤ 60000 := by have := rCnt_short l1 e1 60000; rw [h2] at this; exact this
    have HD : Hid (D = (if e2 = 0 ∧ l2.length = 0 ∧ 1 ≤ g1 then some (g1, m2) else none)) := by
      refine Lib.hid ?_
      rw [← hD']
      unfold fieldsP
      rw [h1]
      simp only
      rw [h2]
    have N1 := fun (W : World) (g : Nat) (hr : RSt W g x 0) => num_any g x 0 W hr hbx
    rw [h1] at N1
    have N2 := fun (W : World) (g : Nat) (hr : RSt W g l1 e1) => rbytes_any g l1 e1 60000 W hr hb1 (by omega)
    rw [h2] at N2
    have HN1 := Lib.hid N1
    have HN2 := Lib.hid N2
    have Hr := Lib.hid (And.intro hr1 hm2)
    clear hD' h1 h2 hb1 hr1 hm2 N1 N2
    go_wp2_with fail
    refine (newr_any v1 x _ w1 s1 (by omega)).mono ?_
    rintro e w2 ⟨g, rfl, e2', r2, hg⟩
    have a2 := at_ext a1 e2'
    have e02 := e01.trans e2'
    have glt := r2.lt
    clear a1 e01 s1 e2' hxl
    have e3 : Ext w2 (w2.alloc (.cells #[.int .i64 0, .slice none 0 0] 108)) := Ext.alloc w2 _
    have p3 := At.new w2 #[.int .i64 0, .slice none 0 0] 108
    have r3 := r2.below e3
    have a3 := at_ext a2 e3
    have e03 := e02.trans e3
    obtain ⟨pb, hh⟩ : ∃ h, h = w2.heap.size := ⟨_, rfl⟩
    have hgw : w.heap.size < g := by omega
    rw [← hh] at p3 glt
    have Hh := Lib.hid hh
    clear r2 a2 e02 e3 hg sz1
    go_wp2_with fail
    rw [← Hh.out]
    generalize w2.alloc (.cells #[.int .i64 0, .slice none 0 0] 108) = w3 at *
    clear hh
    refine (HN1.out w3 g r3).mono ?_
    rintro e w4 ⟨rfl, o4, r4⟩
    have p4 := o4.at p3 (by omega)
    have a4 := o4.at a3 (by omega)
    have e04 := ext_only' e03 o4 (by omega)
    have c0 := p4.cell 0
    have z0 := p4.frozen 0
    have p5 : At (w4.setCell ⟨pb, 0, none⟩ (.int .i64 g1)) pb #[.int .i64 g1, .slice none 0 0] 108 := p4.set 0 _
    have o5 := Only.set pb 0 w4 (.int .i64 g1)
    have r5 := RSt.only r4 o5 glt
    have a5 := o5.at a4 (by omega)
    have e05 := ext_only' e04 o5 (by omega)
    clear r3 p3 a3 e03 o4 r4 p4 a4 e04 o5
    go_upto_region 7 with (fail)
    clear c0 z0
    generalize w4.setCell ⟨pb, 0, none⟩ (.int .i64 g1) = w5 at *
    go_wp2_with fail
    refine (HN2.out w5 g r5).mono ?_
    rintro e w6 ⟨v2, rfl, o6, r6, s6⟩
    have p6 := o6.at p5 (by omega)
    have a6 := o6.at a5 (by omega)
    have e06 := ext_only' e05 o6 (by omega)
    have c1 := p6.cell 1
    have z1 := p6.frozen 1
    have p7 : At (w6.setCell ⟨pb, 1, none⟩ v2) pb #[.int .i64 g1, v2] 108 := p6.set 1 _
    have o7 := Only.set pb 1 w6 v2
    have r7 := RSt.only r6 o7 glt
    have a7 := o7.at a6 (by omega)
    have e07 := ext_only' e06 o7 (by omega)
    have s7 : ∀ bh, bh < w5.heap.size ∨ (w6.setCell ⟨pb, 1, none⟩ v2).heap.size ≤ bh → Src (w6.setCell ⟨pb, 1, none⟩ v2) v2 m2 bh := fun bh hbh => src_keep (s6 pb (Or.inl p5.lt)) (s6 bh (hbh.imp_right fun q => Nat.le_trans o7.size q)) o7
    have hv1 := (s6 pb (Or.inl p5.lt)).one
    have plt := p5.lt
    obtain ⟨ad2, cap2, ev2⟩ := (s6 pb (Or.inl p5.lt)).len
    obtain ⟨M, hM⟩ : ∃ n, n = m2.length := ⟨_, rfl⟩
    rw [← hM] at ev2
    have hM6 : M ≤ 60000 := by rw [hM]; exact Hr.out.2
    clear p5 a5 e05 r5 o6 r6 s6 p6 a6 e06 o7
    subst ev2
    have S7 := Lib.hid s7
    clear hM s7
    go_upto_region 8 with (fail)
    clear c1 z1
    generalize w6.setCell ⟨pb, 1, none⟩ (.slice ad2 M cap2) = w7 at *
    by_cases h0 : e2 = 0
    · subst h0
      obtain ⟨L, hL⟩ : ∃ n, n = l2.length := ⟨_, rfl⟩
      have HE := err_any g l2 0 w7 r7
      have HLf := left_any g l2 0 w7 r7
      rw [← hL] at HLf
      have HD2 := Lib.hid (hL ▸ HD.out : D = (if (0 : Int) = 0 ∧ L = 0 ∧ 1 ≤ g1 then some (g1, m2) else none))
      clear HD hL r7
      by_cases hl0 : L = 0
      · subst hl0
        have MB := mayP_any g1 ad2 M cap2 w7
        have d2 : decide (g1 ≤ 2147483647) = true := by simpa using Hr.out.1.2
        have d3 : decide (M ≤ 60000) = true := by simpa using hM6
        rw [d2, d3] at MB
        have k0 := p7.cell 0
        have k1 := p7.cell 1
        obtain ⟨B, hB⟩ : ∃ B, decide (1 ≤ g1) = B := ⟨_, rfl⟩
        rw [hB] at MB
        clear d2 d3
        go_wp2_with fail
        refine HE.mono ?_
        rintro e w8 ⟨rfl, rfl⟩
        clear HE
        go_wp2_with fail
        refine HLf.mono ?_
        rintro e w8 ⟨rfl, rfl⟩
        clear HLf
        go_wp2_with fail
        refine MB.mono ?_
        rintro e w8 ⟨rfl, e8⟩
        have p8 := at_ext p7 e8
        have a8 := at_ext a7 e8
        have e08 := e07.trans e8
        have sz8 := e8.size
        have S8 : Far Src w5.heap.size w8 (.slice ad2 M cap2) m2 := Far.ext src_kept (S7.out : Far Src w5.heap.size w7 (.slice ad2 M cap2) m2) e8
        clear MB k0 k1 p7 a7 e07 S7
        cases B
        · have DN : D = none := by rw [HD2.out, if_neg (fun hc => by have := hc.2.2; simp at hB; omega)]
          subst DN
          clear HD2 hB S8 p8
          go_wp2_with (refine wpList_store_row rfl 108 _ _ rfl w.heap.size _ rfl rfl 108 _ a8 szz rfl zone ?_)
          refine bodyPost_ret (results_row_tmp rfl _ _ w.heap.size 108 _ rfl (a8.row _) Tryz.underlying108 rfl szz) rfl ?_
          exact ⟨_, rfl, ext_only' e08 (Only.setRow _ _ _) (Nat.le_refl _), fun bh _ => src_nil _ bh⟩
        · have DN : D = some (g1, m2) := by rw [HD2.out, if_pos (by simpa using hB)]
          subst DN
          have one : (#[.int .i64 g1, .slice ad2 M cap2] : Array Value).all (·.oneCell') = true := by simp [Value.oneCell']
          have o9 := Only.setRow w.heap.size w8 #[.int .i64 g1, .slice ad2 M cap2]
          have e09 := ext_only' e08 o9 (Nat.le_refl _)
          have S9 := (Far.only src_kept S8 o9 (by omega)).less (n' := w.heap.size) (by omega)
          have Hf := Lib.hid (And.intro e09 S9)
          clear HD2 hB S8 S9 o9 e09 e08
          go_wp2_with (first | (refine wpList_load_row rfl 108 _ rfl pb rfl 108 _ (0, 0) _ p8 Tryz.underlying108 rfl szPage ?_) | (refine wpList_store_row rfl 108 _ _ rfl w.heap.size _ rfl rfl 108 _ a8 szPage rfl one ?_))
          refine bodyPost_ret (results_row_tmp rfl _ _ w.heap.size 108 _ rfl (a8.row #[.int .i64 g1, .slice ad2 M cap2]) Tryz.underlying108 rfl szPage) rfl ?_
          exact ⟨_, rfl, Hf.out.1, Hf.out.2⟩
      · have DN : D = none := by rw [HD2.out, if_neg (fun hc => hl0 hc.2.1)]
        subst DN
        have dl : decide ((0 : Int) < (L : Int)) = true := by simp; omega
        have dl' : decide (0 < L) = true := by simp; omega
        clear HD2 hl0
        go_wp2_with fail
        refine HE.mono ?_
        rintro e w8 ⟨rfl, rfl⟩
        clear HE
        go_wp2_with fail
        refine HLf.mono ?_
        rintro e w8 ⟨rfl, rfl⟩
        clear HLf
        go_wp2_with (refine wpList_store_row rfl 108 _ _ rfl w.heap.size _ rfl rfl 108 _ a7 szz rfl zone ?_)
        refine bodyPost_ret (results_row_tmp rfl _ _ w.heap.size 108 _ rfl (a7.row _) Tryz.underlying108 rfl szz) rfl ?_
        exact ⟨_, rfl, ext_only' e07 (Only.setRow _ _ _) (Nat.le_refl _), fun bh _ => src_nil _ bh⟩
    · have HE := err_any g l2 e2 w7 r7
      have DN : D = none := by rw [HD.out, if_neg (fun hc => h0 hc.1)]
      subst DN
      have de : (e2 != (0 : Int)) = true := by simpa using h0
      clear HD h0 r7
      go_wp2_with fail
      refine HE.mono ?_
      rintro e w8 ⟨rfl, rfl⟩
      clear HE
      go_wp2_with (refine wpList_store_row rfl 108 _ _ rfl w.heap.size _ rfl rfl 108 _ a7 szz rfl zone ?_)
      refine bodyPost_ret (results_row_tmp rfl _ _ w.heap.size 108 _ rfl (a7.row _) Tryz.underlying108 rfl szz) rfl ?_
      exact ⟨_, rfl, ext_only' e07 (Only.setRow _ _ _) (Nat.le_refl _), fun bh _ => src_nil _ bh⟩
end Go.Proofs.YtnhokjnmpdiokaaGreatDoor

namespace Go.Proofs.YtnhokjnmpdiokaaGreatDoor
open Go.RowKit Go.Sha
set_option linter.unusedSimpArgs false
set_option linter.unusedVariables false

end Go.Proofs.YtnhokjnmpdiokaaGreatDoor

namespace Go.Proofs.YtnhokjnmpdiokaaGreatDoor
end Go.Proofs.YtnhokjnmpdiokaaGreatDoor

namespace Go.Proofs.YtnhokjnmpdiokaaGreatDoor
open Go.RowKit Go.Sha
set_option linter.unusedSimpArgs false
set_option linter.unusedVariables false

/-- A page in memory: its number, where its bytes lie, its bytes. -/
abbrev PV := Int × Value × List Int
def pcell : List PV → List Value
  | [] => []
  | x :: r => .int .i64 x.1 :: x.2.1 :: pcell r
theorem pcell_app : ∀ a b : List PV, pcell (a ++ b) = pcell a ++ pcell b
  | [], _ => rfl
  | x :: r, b => by simp only [List.cons_append, pcell, pcell_app r b]
theorem pcell_get : ∀ (l : List PV) (j : Nat) (x : PV), l[j]? = some x → (pcell l)[j * 2]? = some (.int .i64 x.1) ∧ (pcell l)[j * 2 + 1]? = some x.2.1
  | [], j, x, h => by simp at h
  | y :: r, 0, x, h => by simp at h; subst h; exact ⟨rfl, rfl⟩
  | y :: r, j + 1, x, h => by
    have := pcell_get r j x (by simpa using h)
    rw [show (j + 1) * 2 = j * 2 + 1 + 1 by omega]
    simpa [pcell] using this
theorem pinfo : (Tryz.prog.info? 108).map (fun i => (i.zero, i.size, i.bytes)) = some (some (.agg #[.int .i64 0, .slice none 0 0]), 2, 32) := by kernel_rfl
/-- A row of pages of the call's own: nothing of what they hold lies in the row itself. -/
def OwnP (w : World) (base : Nat) (v : Value) (l : List PV) : Prop :=
  w.ownsRow base 108 2 v l.length (pcell l) ∧ ∀ x ∈ l, ∀ bh, (bh < base ∨ v.ownBlock = some bh ∨ w.heap.size ≤ bh) → Src w x.2.1 x.2.2 bh
theorem OwnP.nil (w : World) (base : Nat) : OwnP w base (.slice none 0 0) [] := ⟨World.ownsRow_nil w base _ 2, fun x hx => by simp at hx⟩
theorem OwnP.ext {w w' : World} {base : Nat} {v : Value} {l : List PV} (h : OwnP w base v l) (he : Ext w w') : OwnP w' base v l := by
  obtain ⟨⟨h1, h2⟩, h3⟩ := h
  refine ⟨⟨h1, ?_⟩, fun x hx bh hb => (h3 x hx bh (hb.imp_right (Or.imp_right fun h => Nat.le_trans he.size h))).ext he⟩
  rcases h2 with h2 | ⟨g, cap, cur, hv, hg, hw, r⟩
  · exact Or.inl h2
  · exact Or.inr ⟨g, cap, cur, hv, hg, At.below (c := cur) (t := 108) hw he (At.lt (c := cur) (t := 108) hw), r⟩
theorem OwnP.len {w : World} {base : Nat} {v : Value} {l : List PV} (h : OwnP w base v l) : ∃ ad cap, v = .slice ad l.length cap := by
  obtain ⟨⟨_, ⟨rfl, h0⟩ | ⟨g, cap, cur, rfl, _⟩⟩, _⟩ := h
  · exact ⟨none, 0, by rw [h0]⟩
  · exact ⟨_, cap, rfl⟩
theorem OwnP.block {w : World} {base : Nat} {v : Value} {l : List PV} (h : OwnP w base v l) : ∀ g, v.ownBlock = some g → base ≤ g ∧ g < w.heap.size := h.1.lt
theorem run_append_p (w : World) (t ty : TypeId) (ht : Tryz.prog.underlying t = some (.slice 108)) (base : Nat) (v : Value) (l : List PV) (hown : OwnP w base v l) (g c : Nat) (x : PV)
    (h0 : w.cell? ⟨g, 0, none⟩ = some (.int .i64 x.1)) (h1 : w.cell? ⟨g, 1, none⟩ = some x.2.1) (ho : x.2.1.oneCell' = true)
    (hs : ∀ bh, (bh < base ∨ v.ownBlock = some bh ∨ w.heap.size ≤ bh) → Src w x.2.1 x.2.2 bh) (hl : l.length < 1099511627776) (hbase : base ≤ w.heap.size) :
    ∃ v' w', (Builtin.append_ #[t, t] ty #[v, .slice (some ⟨g, 0, none⟩) 1 c]).run Tryz.prog w = .ok v' w' ∧ OwnP w' base v' (l ++ [x]) ∧ Below base w w' := by
  obtain ⟨i, hi', hzz⟩ := Option.map_eq_some_iff.1 pinfo
  simp only [Prod.mk.injEq] at hzz
  obtain ⟨hz1, hz2, hz3⟩ := hzz
  obtain ⟨v', w', hr, ho', hgr, _, hat⟩ := run_append_own_at (P := Tryz.prog) w base t ty 108 i (.agg #[.int .i64 0, .slice none 0 0]) 2 32 ht hi' hz1 hz2 hz3 rfl (by omega) v l.length (pcell l) hown.1 ⟨g, 0, none⟩ 1 c [.int .i64 x.1, x.2.1] rfl
    (fun j u hj => by
      match j, hj with
      | 0, hj => simp at hj; subst hj; exact h0
      | 1, hj => simp at hj; subst hj; exact h1) (by intro u hu; simp at hu; rcases hu with h | h <;> (subst h; first | rfl | exact ho)) (by unfold maxLen; omega) (by omega) hbase
  refine ⟨v', w', hr, ⟨?_, ?_⟩, ?_⟩
  · rw [List.length_append, pcell_app]
    exact ho'
  · have key : ∀ (y : Value) (q : List Int), (∀ bh, (bh < base ∨ v.ownBlock = some bh ∨ w.heap.size ≤ bh) → Src w y q bh) → ∀ bh, (bh < base ∨ v'.ownBlock = some bh ∨ w'.heap.size ≤ bh) → Src w' y q bh := by
      intro y q hq bh hbh
      have hw : bh < base ∨ v.ownBlock = some bh ∨ w.heap.size ≤ bh := by
        rcases hbh with h | h | h
        · exact Or.inl h
        · rcases hat with h' | h'
          · exact Or.inr (Or.inl (h' ▸ h))
          · rw [h'] at h; injection h with h; exact Or.inr (Or.inr (by omega))
        · exact Or.inr (Or.inr (Nat.le_trans hgr.size h))
      cases hv : v.ownBlock with
      | none => exact src_keep (hq bh hw) (hq bh hw) ⟨hgr.os, hgr.tape, hgr.output, hgr.size, fun k hk _ => hgr.block k hk (by rw [hv]; simp)⟩
      | some r => exact src_keep (hq r (Or.inr (Or.inl hv))) (hq bh hw) ⟨hgr.os, hgr.tape, hgr.output, hgr.size, fun k hk hne => hgr.block k hk (by rw [hv]; simpa using hne)⟩
    intro y hy bh hbh
    rcases List.mem_append.1 hy with hy | hy
    · exact key y.2.1 y.2.2 (hown.2 y hy) bh hbh
    · simp at hy; subst hy; exact key y.2.1 y.2.2 hs bh hbh
  · refine ⟨hgr.os, hgr.tape, hgr.output, hgr.size, fun k hk => hgr.block k (by omega) fun e => ?_⟩
    have := (hown.1.lt k e.symm).1
    omega
theorem list_append_p {w : World} {ops : Array Oper} {rest : List Oper} {o : Oper} {a : Act} {Q : Exit → Act → World → Prop} (hgd : o.guard = none) (s x : Operand) (t : TypeId)
    (ho : o.op = .call { callee := .builtin .append, args := #[s, x], argTypes := #[t, t] }) (ht : Tryz.prog.underlying t = some (.slice 108))
    (base : Nat) (v : Value) (l : List PV) (hsv : a.eval s = v) (hown : OwnP w base v l) (g c : Nat) (p : PV) (hx : a.eval x = .slice (some ⟨g, 0, none⟩) 1 c)
    (h0 : w.cell? ⟨g, 0, none⟩ = some (.int .i64 p.1)) (h1 : w.cell? ⟨g, 1, none⟩ = some p.2.1) (hone : p.2.1.oneCell' = true)
    (hs : ∀ bh, (bh < base ∨ v.ownBlock = some bh ∨ w.heap.size ≤ bh) → Src w p.2.1 p.2.2 bh) (hl : l.length < 1099511627776) (hbase : base ≤ w.heap.size)
    (h : ∀ v' w', OwnP w' base v' (l ++ [p]) → Below base w w' → wpList Tryz.prog ops Q rest (a.put o.dst v') w') : wpList Tryz.prog ops Q (o :: rest) a w :=
  wpList_plain hgd fun _ hK => by
    obtain ⟨v', w', hr, h2, h3⟩ := run_append_p w t o.type ht base v l hown g c p h0 h1 hone hs hl hbase
    unfold Oper.wp execOp
    simp only [ho, resolve, invoke, builtin, Sem.run_bind, Sem.run_pure, Result.andThen_ok, List.map_toArray, List.map_cons, List.map_nil, hsv, hx, hr]
    exact hK _ _ (h v' w' h2 h3)
/-- Pages that are read. -/
def PR (w : World) (v : Value) (l : List PV) : Prop := ∃ ad cap pb po, v = .slice ad l.length cap ∧ l.length ≤ cap ∧ (0 < l.length → ad = some ⟨pb, po, none⟩) ∧
  ∀ j x, l[j]? = some x → w.cell? ⟨pb, po + j * 2, none⟩ = some (.int .i64 x.1) ∧ w.cell? ⟨pb, po + j * 2 + 1, none⟩ = some x.2.1 ∧ Src w x.2.1 x.2.2 w.heap.size
theorem PR.len {w : World} {v : Value} {l : List PV} (h : PR w v l) : ∃ ad cap, v = .slice ad l.length cap := by
  obtain ⟨ad, cap, _, _, h, _⟩ := h
  exact ⟨ad, cap, h⟩
theorem PR.ext {w w' : World} {v : Value} {l : List PV} (h : PR w v l) (he : Ext w w') : PR w' v l := by
  obtain ⟨ad, cap, pb, po, h1, h2, h3, h4⟩ := h
  refine ⟨ad, cap, pb, po, h1, h2, h3, fun j x hj => ?_⟩
  obtain ⟨c0, c1, s⟩ := h4 j x hj
  exact ⟨by rw [Below.cell (p := ⟨pb, po + j * 2, none⟩) he (World.block_lt_of_cell? w _ c0)]; exact c0, by rw [Below.cell (p := ⟨pb, po + j * 2 + 1, none⟩) he (World.block_lt_of_cell? w _ c1)]; exact c1, s.now he⟩
theorem OwnP.pr {w : World} {base : Nat} {v : Value} {l : List PV} (h : OwnP w base v l) : PR w v l := by
  have h2 : ∀ x ∈ l, Src w x.2.1 x.2.2 w.heap.size := fun x hx => h.2 x hx _ (Or.inr (Or.inr (Nat.le_refl _)))
  obtain ⟨⟨_, ⟨rfl, h0⟩ | ⟨g, cap, cur, rfl, hg, hw, hn, _, _, hx⟩⟩, _⟩ := h
  · have : l = [] := List.length_eq_zero_iff.1 h0
    subst this
    exact ⟨none, 0, 0, 0, rfl, Nat.le_refl _, fun h => by simp at h, fun j m h => by simp at h⟩
  · refine ⟨_, cap, g, 0, rfl, hn, fun _ => rfl, fun j x hj => ?_⟩
    have hjl : j < l.length := (List.getElem?_eq_some_iff.1 hj).1
    have hw' : w.heap[g]? = some (.cells cur 108 (0, 0)) := hw
    have key : ∀ q, q < l.length * 2 → w.cell? ⟨g, q, none⟩ = (pcell l)[q]? := fun q hq => by
      have e : cur.toList[q]? = (pcell l)[q]? := by rw [← hx, List.getElem?_take_of_lt (by omega)]
      simp only [World.cell?, hw']
      rw [← Array.getElem?_toList, e]
      rfl
    obtain ⟨p0, p1⟩ := pcell_get l j x hj
    rw [Nat.zero_add]
    exact ⟨(key _ (by omega)).trans p0, (key _ (by omega)).trans p1, h2 x (List.mem_of_getElem? hj)⟩
/-- It stays though a block below it is written. -/
theorem OwnP.pr_only {w W : World} {base g : Nat} {v : Value} {l : List PV} (h : OwnP w base v l) (hg : g < base) (ho : Only g w W) : PR W v l := by
  have h3 : ∀ x ∈ l, Src W x.2.1 x.2.2 W.heap.size := fun x hx => src_keep (h.2 x hx g (Or.inl hg)) (h.2 x hx _ (Or.inr (Or.inr ho.size))) ho
  have hb := h.block
  obtain ⟨ad, cap, pb, po, rfl, h1, h2, h4⟩ := h.pr
  refine ⟨ad, cap, pb, po, rfl, h1, h2, fun j x hj => ?_⟩
  have hl : j < l.length := (List.getElem?_eq_some_iff.1 hj).1
  obtain rfl := h2 (by omega)
  have hne := hb pb rfl
  obtain ⟨c0, c1, _⟩ := h4 j x hj
  have key : ∀ q u, w.cell? ⟨pb, q, none⟩ = some u → W.cell? ⟨pb, q, none⟩ = some u := fun q u hc => (World.cell?_of_block (ho.block pb hne.2 (by omega))).trans hc
  exact ⟨key _ _ c0, key _ _ c1, h3 x (List.mem_of_getElem? hj)⟩
/-- A page of them, or none. -/
def InL (l : List PV) (v : Value) (m : List Int) : Prop := (v = .slice none 0 0 ∧ m = []) ∨ ∃ x ∈ l, x.2.1 = v ∧ x.2.2 = m
theorem PR.src {w : World} {u v : Value} {l : List PV} {m : List Int} (h : PR w u l) (i : InL l v m) : Src w v m w.heap.size := by
  rcases i with ⟨rfl, rfl⟩ | ⟨x, hx, rfl, rfl⟩
  · exact src_nil _ _
  · obtain ⟨_, _, _, _, _, _, _, h4⟩ := h
    obtain ⟨j, hj, rfl⟩ := List.mem_iff_getElem.1 hx
    exact (h4 j _ (List.getElem?_eq_getElem hj)).2.2
/-- What is read of the copies. -/
def pgs (ls : List (List Int)) : List Pg := ls.map fun b => pgO (decP b)
def vals (l : List PV) : List Pg := l.map fun x => (x.1, x.2.2)
def InvRd (w : World) (ls : List (List Int)) (v i : Value) (wr : World) : Prop :=
  ∃ (k : Nat) (l : List PV), k ≤ ls.length ∧ i = .int .i64 k ∧ OwnP wr w.heap.size v l ∧ vals l = pgs (ls.take k) ∧ Ext w wr
def RdPost (w : World) (ls : List (List Int)) (e : Ending) (w' : World) : Prop := ∃ v l, e = .returned v ∧ Ext w w' ∧ PR w' v l ∧ vals l = pgs ls ∧ ∀ g W, g < w.heap.size → Only g w' W → PR W v l
theorem pgs_step (ls : List (List Int)) (k : Nat) (m : List Int) (h : ls[k]? = some m) : pgs (ls.take (k + 1)) = pgs (ls.take k) ++ [pgO (decP m)] := by
  unfold pgs
  rw [List.take_add_one, h]
  simp
theorem vals_len {l : List PV} {q : List Pg} (h : vals l = q) : l.length = q.length := by rw [← h, vals, List.length_map]

set_option maxHeartbeats 2000000 in
set_option maxRecDepth 100000 in
theorem read_any (v : Value) (ls : List (List Int)) (w : World) (hK : KAt w) (h : LR w v ls w.heap.size) (hb : ∀ m ∈ ls, Byt m ∧ m.length ≤ 100000000) (hl : ls.length ≤ 1000000) :
    Calls Tryz.prog 88 #[v] w (RdPost w ls) := by
  obtain ⟨ad, cap, ev⟩ := h.len
  subst ev
  obtain ⟨N, hN⟩ : ∃ N, N = ls.length := ⟨_, rfl⟩
  have HV := Lib.hid h; clear h
  have Hb := Lib.hid hb; clear hb
  rw [← hN] at HV hl ⊢
  have HN := Lib.hid hN; clear hN
  have zone : (#[.int .i64 0, .slice none 0 0] : Array Value).all (·.oneCell') = true := by simp [Value.oneCell']
  have szz : (Tryz.prog.info? 108).map (·.size) = some (#[.int .i64 0, .slice none 0 0] : Array Value).size := szPage
  go_enter Tryz.func88, Tryz.ntmps88
  go_wp2
  go_loopw [3, 10] (fun v i wr => InvRd w ls v i wr) (fun _ i _ => N - (intOf i).toNat)
  case atStart => exact ⟨0, [], by omega, rfl, OwnP.nil w _, rfl, Ext.refl w⟩
  case round =>
    obtain ⟨k, l, hk, rfl, op, hv, ex⟩ := hrel
    rw [← HN.out] at hk
    have hll : l.length ≤ 1000000 := by have := vals_len hv; unfold pgs at this; rw [List.length_map, List.length_take] at this; omega
    by_cases hlt : k < N
    · have i0 : (k : Int) < (N : Int) := by omega
      have i1 : (0 : Int) ≤ (k : Int) := by omega
      obtain ⟨m1, hm1⟩ : ∃ m, ls[k]? = some m := ⟨_, List.getElem?_eq_getElem (by rw [← HN.out]; exact hlt)⟩
      have hvv := HV.out
      rw [HN.out] at hvv
      obtain ⟨cap1, pb, po, ev1, _, hc1⟩ := lr_at hvv (by rw [← HN.out]; omega)
      injection ev1 with a1 _ a2
      subst a1 a2
      obtain ⟨x1, c1, s1⟩ := hc1 k m1 hm1
      have c1' : wr.cell? ⟨pb, po + k, none⟩ = some x1 := by rw [Below.cell (p := ⟨pb, po + k, none⟩) ex (World.block_lt_of_cell? w _ c1)]; exact c1
      have D := decode_any x1 m1 wr (hK.below ex hK.lt) (s1.now ex) (Hb.out m1 (List.mem_of_getElem? hm1)).1 (Hb.out m1 (List.mem_of_getElem? hm1)).2
      have hst := pgs_step ls k m1 hm1
      obtain ⟨O, hO⟩ : ∃ O, pgO (decP m1) = O := ⟨_, rfl⟩
      rw [hO] at hst
      have HO := Lib.hid hO
      rw [← hv] at hst
      have Hst := Lib.hid hst
      obtain ⟨adl, capl, el⟩ := op.len
      subst el
      obtain ⟨LL, hLL⟩ : ∃ n, n = l.length := ⟨_, rfl⟩
      rw [← hLL] at op hll ⊢
      have HLL := Lib.hid hLL
      clear hLL
      clear hvv hc1 c1 s1 hm1 hst hO hv
      go_wp2_with fail
      refine D.mono ?_
      rintro e w1 ⟨vi, rfl, e1, F1⟩
      rw [HO.out] at F1 ⊢
      obtain ⟨g1, q1⟩ := O
      simp only at F1 ⊢
      obtain ⟨adi, capi, ei⟩ := (F1 _ (Or.inr (Nat.le_refl _))).len
      obtain ⟨M, hM⟩ : ∃ M, M = q1.length := ⟨_, rfl⟩
      rw [← hM] at ei
      have HM := Lib.hid hM
      subst ei
      have one : (#[.int .i64 g1, .slice adi M capi] : Array Value).all (·.oneCell') = true := by simp [Value.oneCell']
      have e2 : Ext w1 (w1.alloc (.cells #[.int .i64 0, .slice none 0 0] 108)) := Ext.alloc w1 _
      have a2 := At.new w1 #[.int .i64 0, .slice none 0 0] 108
      have e3 := ext_only' e2 (Only.setRow w1.heap.size _ #[.int .i64 g1, .slice adi M capi]) (Nat.le_refl _)
      have a3 : At ((w1.alloc (.cells #[.int .i64 0, .slice none 0 0] 108)).setRow w1.heap.size #[.int .i64 g1, .slice adi M capi]) w1.heap.size #[.int .i64 g1, .slice adi M capi] 108 := a2.row _
      have sz2 : (Tryz.prog.info? 108).map (·.size) = some (#[.int .i64 g1, .slice adi M capi] : Array Value).size := szPage
      clear D c1' hM
      go_upto_region 6 with (refine wpList_store_row rfl 108 _ _ rfl w1.heap.size _ rfl rfl 108 _ a2 sz2 rfl one ?_)
      generalize (w1.alloc (.cells #[.int .i64 0, .slice none 0 0] 108)).setRow w1.heap.size #[.int .i64 g1, .slice adi M capi] = w3 at *
      clear e2 a2
      have e4 : Ext w3 (w3.alloc (.cells #[.int .i64 g1, .slice adi M capi] 108)) := Ext.alloc w3 _
      have a4 := At.new w3 #[.int .i64 g1, .slice adi M capi] 108
      have e14 := e1.trans (e3.trans e4)
      have op4 := op.ext e14
      have k0 := a4.cell 0
      have k1 := a4.cell 1
      have S4 : ∀ bh, (bh < w.heap.size ∨ (.slice adl LL capl : Value).ownBlock = some bh ∨ (w3.alloc (.cells #[.int .i64 g1, .slice adi M capi] 108)).heap.size ≤ bh) → Src (w3.alloc (.cells #[.int .i64 g1, .slice adi M capi] 108)) (.slice adi M capi) q1 bh := fun bh hbh => by
        refine Src.ext (F1 bh ?_) (e3.trans e4)
        rcases hbh with h | h | h
        · exact Or.inl (Nat.lt_of_lt_of_le h ex.size)
        · exact Or.inl (op.block bh h).2
        · exact Or.inr (Nat.le_trans (e3.trans e4).size h)
      clear k0 k1
      have HS := Lib.hid S4
      have HC := Lib.hid (And.intro (a4.cell 0) (a4.cell 1))
      go_wp2_with (first | (refine wpList_load_row rfl 108 _ rfl w1.heap.size rfl 108 _ (0, 0) _ a3 Tryz.underlying108 rfl szPage ?_) | (refine list_append_p rfl (.tmp 19) (.tmp 21) 140 rfl Tryz.underlying140 w.heap.size (.slice adl LL capl) l rfl op4 w3.heap.size 1 (g1, .slice adi M capi, q1) rfl HC.out.1 HC.out.2 rfl HS.out (by rw [← HLL.out]; omega) (ex.trans e14).size ?_; intro v6 w6 op6 b6))
      exact ⟨⟨k + 1, l ++ [(g1, .slice adi M capi, q1)], by rw [← HN.out]; omega, by go_num, op6, by rw [Hst.out]; simp [vals], Below.trans (ex.trans e14) b6⟩, by simp [intOf]; omega⟩
    · have i0 : ¬ ((k : Int) < (N : Int)) := by omega
      have d0 : decide ((k : Int) < (N : Int)) = false := by simp; omega
      obtain rfl : k = N := by omega
      rw [List.take_of_length_le (by rw [← HN.out]; exact Nat.le_refl _)] at hv
      have F := Lib.hid (And.intro ex (And.intro op.pr (And.intro hv (fun (g : Nat) (W : World) (hg : g < w.heap.size) (ho : Only g wr W) => op.pr_only hg ho))))
      clear hlt hv op ex
      go_wp2
      go_ret
      exact ⟨_, l, rfl, F.out.1, F.out.2.1, F.out.2.2⟩
end Go.Proofs.YtnhokjnmpdiokaaGreatDoor
