/- The contracts of the document's own Root (with where it lies) and Make. -/
import Derived.Test.YtdohngjhfonifaaDoorSd
import Derived.Test.YtdohngjhfonifaaDoorWw
import Derived.Test.YtdohngjhfonifaaDoorPc
namespace Go.Proofs.YtdohngjhfonifaaDoor
open Go.RowKit Go.Sha
set_option linter.unusedSimpArgs false

/-- Bytes, wherever they lie, but not in block b. -/
def RPost2 (w : World) (m : List Int) (b : Nat) (e : Ending) (w' : World) : Prop := ∃ v, e = .returned v ∧ Ext w w' ∧ Src w' v m w'.heap.size ∧ Src w' v m b
def InvTR2 (w : World) (top : List (List Int)) (b : Nat) (l : Value) (wr : World) : Prop := ∃ cur, Cur w top l cur wr ∧ (∀ m ∈ cur, m.length ≤ 1900) ∧ LR wr l cur b

set_option maxHeartbeats 1000000 in
theorem rroot2_any (v : Value) (ls : List (List Int)) (w : World) (bh : Nat) (hbh : bh < w.heap.size) (hs : LR w v ls w.heap.size) (hfar : LR w v ls bh) (hl : ls.length ≤ 1000000) (hb : ∀ m ∈ ls, m.length ≤ 1900) : Calls Tryd.prog 31 #[v] w (RPost2 w (rootL ls) bh) := by
  obtain ⟨ad0, cap0, ev0⟩ := hs.len
  subst ev0
  by_cases h0 : 0 < ls.length
  · have t0 : ((ls.length : Int) == 0) = false := by rw [beq_eq_false_iff_ne]; omega
    have c0 : InvTR2 w (topL ls) bh (.slice ad0 ls.length cap0) w := ⟨ls, ⟨hs, rfl, h0, hl, fun m hm => Nat.le_trans (hb m hm) (by omega), Ext.refl w⟩, hb, hfar⟩
    have hr : rootL ls = (topL ls)[0]?.getD [] := by rw [rootL, if_neg (by omega)]
    rw [hr]
    clear hs hb hr hfar
    generalize topL ls = T at *
    go_enter Tryd.func31, Tryd.ntmps31
    go_wp2
    go_loopw [0] (fun l wr => InvTR2 w T bh l wr) (fun l _ => sliceLen l)
    case atStart => exact c0
    case round =>
      clear c0
      obtain ⟨cur, cu, hbc, hfc⟩ := hrel
      obtain ⟨adc, capc, ec⟩ := cu.lr.len
      subst ec
      have hp := cu.pos
      have hcl := cu.len
      by_cases hgt : cur.length ≤ 1
      · have hT := cu.top
        rw [topL_small cur hgt] at hT
        obtain ⟨cap, pb, po, ev, hpb, hc⟩ := lr_get cu.lr hp
        obtain ⟨m1, hm1⟩ : ∃ m, cur[0]? = some m := ⟨_, List.getElem?_eq_getElem hp⟩
        obtain ⟨x1, c1, s1⟩ := hc 0 m1 hm1
        injection ev with ev1 _ ev2
        subst ev1 ev2
        have s2 := lr_src hfc ⟨_, rfl⟩ 0 m1 hm1 x1 c1
        have i0 : ¬ ((1 : Int) < (cur.length : Int)) := by omega
        have d0 : decide ((1 : Int) < (cur.length : Int)) = false := by simp; omega
        have i1 : (0 : Int) < (cur.length : Int) := by omega
        have hm : T[0]?.getD [] = m1 := by rw [← hT, hm1]; rfl
        have Hm := Lib.hid hm
        rw [Nat.add_zero] at c1
        have hex := cu.ext
        clear hc hm1 hT cu hgt hm hfc
        go_wp2
        go_ret
        exact ⟨x1, rfl, hex, by rw [Hm.out]; exact s1, by rw [Hm.out]; exact s2⟩
      · have i0 : (1 : Int) < (cur.length : Int) := by omega
        have d0 : decide ((1 : Int) < (cur.length : Int)) = true := by simp; omega
        go_wp2_with fail
        refine (up_any _ cur wr cu.lr hp hcl hbc).mono ?_
        rintro e W2 ⟨v2, rfl, e2, l3, lf⟩
        have lf2 := lf bh (Nat.lt_of_lt_of_le hbh cu.ext.size) hfc
        go_wp2
        have hul := upL_length cur
        refine ⟨⟨upL cur, ⟨l3, by rw [← topL_great cur hgt]; exact cu.top, by omega, by omega, upL_bound 1000000 (by omega) cur cu.bd, cu.ext.trans e2⟩, upL_bound 1900 (by omega) cur hbc, lf2⟩, ?_⟩
        obtain ⟨ad3, cap3, e3⟩ := l3.len
        rw [e3]
        simp [sliceLen, hul]
        omega
  · have e0 : ls = [] := List.length_eq_zero_iff.1 (by omega)
    subst e0
    clear hs hb hfar
    have hS : Src w (.slice none 0 0) [] w.heap.size := ⟨none, 0, w.heap.size + 1, 0, rfl, by simp, fun h => by simp at h, by omega, fun j hj => by simp at hj, fun _ => rfl⟩
    go_enter Tryd.func31, Tryd.ntmps31
    go_wp2_with fail
    refine (ref_any _ [] w hS (by simp)).mono ?_
    rintro e w5 ⟨v5, rfl, b5, o5⟩
    go_wp2
    go_ret
    exact ⟨v5, rfl, b5, o5.srcs _ (Or.inr (Nat.le_refl _)), o5.srcs _ (Or.inl hbh)⟩


set_option maxHeartbeats 1000000 in
theorem rmake_not (v : Value) (m : List Int) (b k : Int) (w : World) (hs : Src w v m w.heap.size) (hn : mayL m.length b k = false) :
    Calls Tryd.prog 8 #[v, .int .i64 b, .int .i64 k] w (MPost w noneL 1) := by
  obtain ⟨ad, cap, ev⟩ := hs.len
  subst ev
  obtain ⟨n, hl⟩ : ∃ n, n = m.length := ⟨_, rfl⟩
  rw [← hl] at hn ⊢
  clear hl hs
  have e0 : Ext w (w.alloc (.cells zSide 30)) := Ext.alloc w _
  have a6 := At.new w zSide 30
  have o1 := zSide_one
  have z1 : (Tryd.prog.info? 30).map (·.size) = some zSide.size := szRSide
  have Hf := Lib.hid (And.intro (ext_only' e0 (Only.setRow w.heap.size _ zSide) (Nat.le_refl _)) (a6.row zSide))
  unfold zSide at a6 o1 z1 Hf
  clear e0
  by_cases c1 : b < 16
  · have d1 : decide (b < 16) = true := by simpa using c1
    clear hn
    go_enter Tryd.func8, Tryd.ntmps8
    go_wp2_with (refine wpList_store_row rfl 30 _ _ rfl w.heap.size _ rfl rfl 30 _ a6 z1 rfl o1 ?_)
    exact bodyPost_ret (results_row_tmp rfl _ _ w.heap.size 30 _ rfl Hf.out.2 Tryd.underlying30 rfl z1) rfl ⟨_, _, _, rfl, Hf.out.1, none_sr _⟩
  have d1 : decide (b < 16) = false := by simpa using c1
  by_cases c2 : 4096 < b
  · have d2 : decide (4096 < b) = true := by simpa using c2
    clear hn c1
    go_enter Tryd.func8, Tryd.ntmps8
    go_wp2_with (refine wpList_store_row rfl 30 _ _ rfl w.heap.size _ rfl rfl 30 _ a6 z1 rfl o1 ?_)
    exact bodyPost_ret (results_row_tmp rfl _ _ w.heap.size 30 _ rfl Hf.out.2 Tryd.underlying30 rfl z1) rfl ⟨_, _, _, rfl, Hf.out.1, none_sr _⟩
  have d2 : decide (4096 < b) = false := by simpa using c2
  by_cases c3 : k < 1
  · have d3 : decide (k < 1) = true := by simpa using c3
    clear hn c1 c2
    go_enter Tryd.func8, Tryd.ntmps8
    go_wp2_with (refine wpList_store_row rfl 30 _ _ rfl w.heap.size _ rfl rfl 30 _ a6 z1 rfl o1 ?_)
    exact bodyPost_ret (results_row_tmp rfl _ _ w.heap.size 30 _ rfl Hf.out.2 Tryd.underlying30 rfl z1) rfl ⟨_, _, _, rfl, Hf.out.1, none_sr _⟩
  have d3 : decide (k < 1) = false := by simpa using c3
  by_cases c4 : 8 < k
  · have d4 : decide (8 < k) = true := by simpa using c4
    clear hn c1 c2 c3
    go_enter Tryd.func8, Tryd.ntmps8
    go_wp2_with (refine wpList_store_row rfl 30 _ _ rfl w.heap.size _ rfl rfl 30 _ a6 z1 rfl o1 ?_)
    exact bodyPost_ret (results_row_tmp rfl _ _ w.heap.size 30 _ rfl Hf.out.2 Tryd.underlying30 rfl z1) rfl ⟨_, _, _, rfl, Hf.out.1, none_sr _⟩
  have d4 : decide (8 < k) = false := by simpa using c4
  have c5 : 8192 < n := by
    apply Nat.lt_of_not_le
    intro h
    have : mayL n b k = true := (mayL_iff _ _ _).2 (by omega)
    rw [this] at hn
    cases hn
  have d5 : decide ((8192 : Int) < (n : Int)) = true := by simp; omega
  have d6 : decide (8192 < n) = true := by simpa using c5
  clear hn c1 c2 c3 c4
  go_enter Tryd.func8, Tryd.ntmps8
  go_wp2_with (refine wpList_store_row rfl 30 _ _ rfl w.heap.size _ rfl rfl 30 _ a6 z1 rfl o1 ?_)
  exact bodyPost_ret (results_row_tmp rfl _ _ w.heap.size 30 _ rfl Hf.out.2 Tryd.underlying30 rfl z1) rfl ⟨_, _, _, rfl, Hf.out.1, none_sr _⟩

set_option maxHeartbeats 2000000 in
theorem rmake_ok (v : Value) (m : List Int) (b k : Int) (w : World) (hs : Src w v m w.heap.size) (hn : mayL m.length b k = true) :
    Calls Tryd.prog 8 #[v, .int .i64 b, .int .i64 k] w (MPost w (makeL m b k) 0) := by
  obtain ⟨ad, cap, ev⟩ := hs.len
  subst ev
  have h4 := (mayL_iff _ _ _).1 hn
  have hm8 : m.length ≤ 8192 := by omega
  have hlL : (leavesL m b).length ≤ 1000000 := by
    have h3 := leavesL_length m b
    have h5 : cntL m.length b ≤ 20000 := by
      unfold cntL
      split
      · omega
      · exact Int.le_trans (Int.ediv_le_self _ (by omega)) (by omega)
    omega
  have hbL : ∀ x ∈ leavesL m b, x.length ≤ 1900 := fun x hx => by rw [leavesL_all m b x hx]; omega
  unfold makeL
  obtain ⟨n, hl⟩ : ∃ n, n = m.length := ⟨_, rfl⟩
  rw [← hl] at h4 hs ⊢
  have d1 : decide (b < 16) = false := by simp; omega
  have d2 : decide (4096 < b) = false := by simp; omega
  have d3 : decide (k < 1) = false := by simp; omega
  have d4 : decide (8 < k) = false := by simp; omega
  have d5 : decide ((8192 : Int) < (n : Int)) = false := by simp; omega
  have d6 : decide (8192 < n) = false := by simp; omega
  have HL := Lib.hid hl; clear hl hn h4
  have e0 : Ext w (w.alloc (.cells zSide 30)) := Ext.alloc w _
  have a6 := At.new w zSide 30
  have sz0 : w.heap.size + 1 ≤ (w.alloc (.cells zSide 30)).heap.size := by rw [size_alloc]; omega
  unfold zSide at e0 a6 sz0
  have s0 := hs.now e0
  go_enter Tryd.func8, Tryd.ntmps8
  go_wp2_with fail
  refine (rleaves_any _ m b _ s0 (by omega)).mono ?_
  rintro e w2 ⟨vl, rfl, e1, l2⟩
  replace a6 := at_ext a6 e1
  replace e0 := e0.trans e1
  have F2 : Far LR (w.heap.size + 1) w2 vl (leavesL m b) := Far.less l2 sz0
  have sz2 := Nat.le_trans sz0 e1.size
  clear e1 l2 s0 sz0 d1 d2 d3 d4 d5 d6
  obtain ⟨adl, capl, ev⟩ := F2.now.len
  subst ev
  obtain ⟨NL, hNL⟩ : ∃ N, N = (leavesL m b).length := ⟨_, rfl⟩
  rw [← hNL] at hlL F2 ⊢
  have HNL := Lib.hid hNL; clear hNL
  have a6h := Lib.hid a6; clear a6
  go_wp2_with fail
  refine (rroot2_any _ (leavesL m b) w2 w.heap.size (by omega) F2.now (F2 _ (Or.inl (by omega))) (by rw [← HNL.out]; exact hlL) hbL).mono ?_
  rintro e w4 ⟨vr, rfl, e1, r4, q4⟩
  replace a6h := Lib.hid (at_ext a6h.out e1)
  replace e0 := e0.trans e1
  have F4 := F2.ext lr_kept e1
  have sz4 := Nat.le_trans sz2 e1.size
  clear e1 F2 sz2
  obtain ⟨adr, capr, ev⟩ := r4.len
  subst ev
  obtain ⟨NR, hNR⟩ : ∃ N, N = (rootL (leavesL m b)).length := ⟨_, rfl⟩
  rw [← hNR] at r4 q4 ⊢
  have HNR := Lib.hid hNR; clear hNR
  have s4 := hs.now e0
  go_wp2_with fail
  refine (rbuild_any _ m b k w4 s4 (by omega)).mono ?_
  rintro e w6 ⟨vp, rfl, e1, l6⟩
  have a6 := at_ext a6h.out e1
  replace e0 := e0.trans e1
  have F6 := F4.ext lr_kept e1
  have r6 := r4.now e1
  have q6 := q4.ext e1
  have P6 : Far LR (w.heap.size + 1) w6 vp (buildL m b k) := Far.less l6 sz4
  clear e1 l6 s4 F4 r4 q4 sz4 a6h
  obtain ⟨adp, capp, ev⟩ := P6.now.len
  subst ev
  obtain ⟨NP, hNP⟩ : ∃ N, N = (buildL m b k).length := ⟨_, rfl⟩
  rw [← hNP] at P6 ⊢
  have HNP := Lib.hid hNP; clear hNP
  have o1 : (#[.int .i64 n, .int .i64 b, .int .i64 k, .slice adr NR capr, .slice adl NL capl, .slice adp NP capp] : Array Value).all (·.oneCell') = true := by simp [Value.oneCell']
  have o8 := Only.setRow w.heap.size w6 #[.int .i64 n, .int .i64 b, .int .i64 k, .slice adr NR capr, .slice adl NL capl, .slice adp NP capp]
  have e8 := ext_only' e0 o8 (Nat.le_refl _)
  have F8 := F6.only lr_kept o8 (by omega)
  have G8 := src_keep q6 r6 o8
  have P8 := P6.only lr_kept o8 (by omega)
  have a9 := a6.row #[.int .i64 n, .int .i64 b, .int .i64 k, .slice adr NR capr, .slice adl NL capl, .slice adp NP capp]
  have Hf := Lib.hid (And.intro e8 (And.intro F8 (And.intro G8 P8)))
  have Ha := Lib.hid a9
  clear o8 e8 F8 G8 P8 F6 r6 q6 P6 e0 a9
  go_wp2_with (refine wpList_store_row rfl 30 _ _ rfl w.heap.size _ rfl rfl 30 _ a6 szRSide rfl o1 ?_)
  refine bodyPost_ret (results_row_tmp rfl _ _ w.heap.size 30 _ rfl Ha.out Tryd.underlying30 rfl szRSide) rfl ?_
  obtain ⟨e8, F8, G8, P8⟩ := Hf.out
  exact ⟨_, _, _, rfl, e8, G8.other (Nat.le_refl _), F8.now, P8.now⟩
end Go.Proofs.YtdohngjhfonifaaDoor
