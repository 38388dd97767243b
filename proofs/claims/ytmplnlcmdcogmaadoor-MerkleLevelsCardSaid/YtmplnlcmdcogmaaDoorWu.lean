/- The contracts of copied, Root and Levels (the code's). -/
import Derived.Test.YtmplnlcmdcogmaaDoorWt
namespace Go.Proofs.YtmplnlcmdcogmaaDoor
open Go.RowKit Go.Sha
set_option linter.unusedSimpArgs false

set_option maxHeartbeats 1000000 in
theorem copied_any (v : Value) (ls : List (List Int)) (w : World) (hs : LR w v ls w.heap.size) (h0 : 0 < ls.length) (hl : ls.length ≤ 1000000) (hb : ∀ m ∈ ls, m.length ≤ 1000000) : Calls Tryd.prog 31 #[v] w (LPost w ls) := by
  obtain ⟨cap, pb, po, ev, hpb, hc⟩ := lr_get hs h0
  subst ev
  have HC := Lib.hid hc; clear hc hs
  have Hbd := Lib.hid hb; clear hb
  obtain ⟨N, hN⟩ : ∃ N, N = ls.length := ⟨_, rfl⟩
  rw [← hN] at hl h0 ⊢
  have HN := Lib.hid hN; clear hN
  go_enter Tryd.func31, Tryd.ntmps31
  go_wp2
  go_loopw [3, 8] (fun l i wr => InvL w ls N l i wr) (fun _ i _ => N - (intOf i).toNat)
  case atStart => exact ⟨0, [], by omega, rfl, rfl, by simp, OwnG.nil _ _ _ _ _, Ext.refl w⟩
  case round =>
    obtain ⟨k, ps, hk, rfl, hpl, hps, ow, ex⟩ := hrel
    by_cases hlt : k < N
    · have i0 : (k : Int) < (N : Int) := by omega
      have i1 : (0 : Int) ≤ (k : Int) := by omega
      obtain ⟨adl, capl, el⟩ := ow.len
      subst el
      rw [hpl] at ow ⊢
      obtain ⟨m1, hm1⟩ : ∃ m, ls[k]? = some m := ⟨_, List.getElem?_eq_getElem (by rw [← HN.out]; exact hlt)⟩
      obtain ⟨x1, c1, s1⟩ := HC.out k m1 hm1
      have hpw : pb < w.heap.size := World.block_lt_of_cell? w _ c1
      have l1 := Hbd.out m1 (List.mem_of_getElem? hm1)
      have Hm1 := Lib.hid hm1; clear hm1
      have c1' : wr.cell? ⟨pb, po + k, none⟩ = some x1 := by rw [Below.cell (p := ⟨pb, po + k, none⟩) ex hpw]; exact c1
      have sA := s1.now ex
      go_wp2_with fail
      refine (clone_any x1 m1 wr sA (by omega)).mono ?_
      rintro e W2 ⟨v2, rfl, e2, o2⟩
      have hsx := new_src o2 ow ex
      obtain ⟨ad2, cap2, ev2⟩ := o2.len
      subst ev2
      have ow2 := ow.ext src_kept e2
      have S2 : Below w.heap.size w W2 := Ext.trans ex e2
      have hsy := src_one_more (x := .slice ad2 m1.length cap2) (t := 22) hsx
      have S3 : Below w.heap.size w (W2.alloc (.cells #[.slice ad2 m1.length cap2] 22)) := Ext.trans S2 (Ext.alloc W2 _)
      clear hsx o2 ow sA e2 c1' c1
      go_wp2_with (refine list_append_g src_kept rfl (.tmp 12) (.tmp 15) 25 rfl (.slice none 0 0) 24 Tryd.underlying25 u22zero rfl (by omega) w.heap.size (.slice adl k capl) ps (Old w) rfl (own_one src_kept ow2 _ 22) W2.heap.size 1 _ m1 rfl (cell_one W2 _ 22) rfl hsy (by omega) S3.size ?_; intro v3 w3 o3 b3)
      have S4 : Below w.heap.size w w3 := Below.trans S3 b3
      refine ⟨⟨k + 1, _, by omega, by go_num, by simp [hpl], ?_, o3, S4⟩, by simp [intOf]; omega⟩
      rw [List.map_append, hps, List.take_add_one, Hm1.out]; rfl
    · obtain rfl : k = N := by omega
      have hp : ps.map (·.2) = ls := by rw [hps, List.take_of_length_le (by rw [← HN.out]; omega)]
      go_wp2
      go_ret
      exact own_lpost ow ex hp

/-- The level at hand, while one goes up. -/
structure Cur (w : World) (top : List (List Int)) (l : Value) (cur : List (List Int)) (wr : World) : Prop where
  lr : LR wr l cur wr.heap.size
  top : topL cur = top
  pos : 0 < cur.length
  len : cur.length ≤ 1000000
  bd : ∀ m ∈ cur, m.length ≤ 1000000
  ext : Ext w wr

def InvT (w : World) (top : List (List Int)) (l : Value) (wr : World) : Prop := ∃ cur, Cur w top l cur wr

set_option maxHeartbeats 1000000 in
theorem root_any (v : Value) (ls : List (List Int)) (w : World) (hK : KAt w) (hs : LR w v ls w.heap.size) (hl : ls.length ≤ 1000000) (hb : ∀ m ∈ ls, m.length ≤ 1000000) : Calls Tryd.prog 17 #[v] w (BPost w (rootL ls)) := by
  obtain ⟨ad0, cap0, ev0⟩ := hs.len
  subst ev0
  by_cases h0 : 0 < ls.length
  · have t0 : ((ls.length : Int) == 0) = false := by rw [beq_eq_false_iff_ne]; omega
    have c0 : Cur w (topL ls) (.slice ad0 ls.length cap0) ls w := ⟨hs, rfl, h0, hl, hb, Ext.refl w⟩
    have hr : rootL ls = (topL ls)[0]?.getD [] := by rw [rootL, if_neg (by omega)]
    rw [hr]
    clear hs hb hr
    generalize topL ls = T at *
    go_enter Tryd.func17, Tryd.ntmps17
    go_wp2
    go_loopw [3] (fun l wr => InvT w T l wr) (fun l _ => sliceLen l)
    case atStart => exact ⟨ls, c0⟩
    case round =>
      clear c0
      obtain ⟨cur, cu⟩ := hrel
      obtain ⟨adc, capc, ec⟩ := cu.lr.len
      subst ec
      have kr := hK.below cu.ext hK.lt
      have hp := cu.pos
      have hcl := cu.len
      by_cases hgt : cur.length ≤ 1
      · have hT := cu.top
        rw [topL_small cur hgt] at hT
        obtain ⟨cap, pb, po, ev, hpb, hc⟩ := lr_get cu.lr hp
        obtain ⟨m1, hm1⟩ : ∃ m, cur[0]? = some m := ⟨_, List.getElem?_eq_getElem hp⟩
        obtain ⟨x1, c1, s1⟩ := hc 0 m1 hm1
        injection ev with ev1 _ ev2
        subst ev1 ev2
        have l1 := cu.bd m1 (List.mem_of_getElem? hm1)
        have i0 : ¬ ((1 : Int) < (cur.length : Int)) := by omega
        have d0 : decide ((1 : Int) < (cur.length : Int)) = false := by simp; omega
        have i1 : (0 : Int) < (cur.length : Int) := by omega
        have hm : T[0]?.getD [] = m1 := by rw [← hT, hm1]; rfl
        have Hm := Lib.hid hm
        rw [Nat.add_zero] at c1
        have hex := cu.ext
        clear hc hm1 hT cu hgt hm
        go_wp2_with fail
        refine (clone_any x1 m1 wr s1 (by omega)).mono ?_
        rintro e W2 ⟨v2, rfl, e2, o2⟩
        go_wp2
        go_ret
        exact ⟨v2, rfl, hex.trans e2, by rw [Hm.out]; exact o2.less hex.size⟩
      · have i0 : (1 : Int) < (cur.length : Int) := by omega
        have d0 : decide ((1 : Int) < (cur.length : Int)) = true := by simp; omega
        go_wp2_with fail
        refine (above_any _ cur wr kr cu.lr hp hcl cu.bd).mono ?_
        rintro e W2 ⟨v2, rfl, e2, l2⟩
        go_wp2
        have l3 := l2 W2.heap.size (Or.inr (Nat.le_refl _))
        have hul := upL_length cur
        refine ⟨⟨upL cur, l3, by rw [← topL_great cur hgt]; exact cu.top, by omega, by omega, upL_bound 1000000 (by omega) cur cu.bd, cu.ext.trans e2⟩, ?_⟩
        obtain ⟨ad3, cap3, e3⟩ := l3.len
        rw [e3]
        simp [sliceLen, hul]
        omega
  · have e0 : ls = [] := List.length_eq_zero_iff.1 (by omega)
    subst e0
    clear hs hb
    have hS : Srcs w (.slice none 0 0) [] := ⟨none, 0, 0, 0, rfl, fun h => by simp at h, fun j x h => by simp at h⟩
    go_enter Tryd.func17, Tryd.ntmps17
    go_wp2_with fail
    refine (dsum_any _ _ w hK hS (by simp [flat]) (by simp)).mono ?_
    intro e w' h
    obtain ⟨v', rfl, e4, o4⟩ := sum_own h
    go_wp2
    go_ret
    exact ⟨v', rfl, e4, o4⟩

/-- Levels in new memory. -/
def LLPost (w : World) (l3 : List (List (List Int))) (e : Ending) (w' : World) : Prop := ∃ v, e = .returned v ∧ Ext w w' ∧ LLR w' v l3 w'.heap.size
def No : Nat → Prop := fun _ => False
/-- What stands above the level at hand. -/
def restL (cur : List (List Int)) : List (List (List Int)) := if cur.length ≤ 1 then [] else levelsL (upL cur)
theorem levelsL_rest (cur : List (List Int)) : levelsL cur = cur :: restL cur := by
  unfold restL
  by_cases h : cur.length ≤ 1
  · rw [if_pos h, levelsL_small cur h]
  · rw [if_neg h, levelsL_great cur h]
structure CurV (w : World) (all : List (List (List Int))) (l o : Value) (cur : List (List Int)) (vs : List (Value × List (List Int))) (wr : World) : Prop where
  lr : ∀ bh, (o.ownBlock = some bh ∨ wr.heap.size ≤ bh) → LR wr l cur bh
  all : vs.map (·.2) ++ restL cur = all
  own : OwnLL wr w.heap.size o vs No
  pos : 0 < cur.length
  few : vs.length + cur.length ≤ 1000000
  bd : ∀ m ∈ cur, m.length ≤ 1000000
  ext : Ext w wr
theorem CurV.now {w wr : World} {all : List (List (List Int))} {l o : Value} {cur : List (List Int)} {vs : List (Value × List (List Int))} (h : CurV w all l o cur vs wr) : LR wr l cur wr.heap.size := h.lr _ (Or.inr (Nat.le_refl _))
theorem own_made {w : World} {base : Nat} {x : Value} {ls : List (List Int)} (hb : base ≤ w.heap.size) (h : LR w x ls w.heap.size) : OwnLL (w.alloc (.cells #[x] 25)) base (.slice (some ⟨w.heap.size, 0, none⟩) 1 1) [(x, ls)] No := by
  refine ⟨⟨rfl, Or.inr ⟨w.heap.size, 1, #[x], rfl, hb, At.new w _ 25, Nat.le_refl _, by unfold maxLen; omega, rfl, rfl⟩⟩, fun y hy bh hbh => ?_⟩
  simp at hy
  subst hy
  have hle : w.heap.size ≤ bh := by
    rcases hbh with h | h | h
    · cases h
    · simp [Value.ownBlock] at h; omega
    · rw [size_alloc] at h; omega
  exact (lr_kept.fresh h hle).ext (Ext.alloc w _)
theorem lr_one_more {w : World} {v l x : Value} {m : List (List Int)} {t : TypeId} (h : ∀ bh, (l.ownBlock = some bh ∨ w.heap.size ≤ bh) → LR w v m bh) : ∀ bh, (No bh ∨ l.ownBlock = some bh ∨ (w.alloc (.cells #[x] t)).heap.size ≤ bh) → LR (w.alloc (.cells #[x] t)) v m bh := fun bh hb =>
  (h bh (by
    rcases hb with hb | hb | hb
    · cases hb
    · exact Or.inl hb
    · rw [size_alloc] at hb; exact Or.inr (by omega))).ext (Ext.alloc w _)
theorem curv_done {w wr : World} {all : List (List (List Int))} {l o : Value} {cur : List (List Int)} {vs : List (Value × List (List Int))} (h : CurV w all l o cur vs wr) (h1 : cur.length ≤ 1) : LLPost w all (.returned o) wr := by
  refine ⟨o, rfl, h.ext, ?_⟩
  have e := h.all
  rw [restL, if_pos h1, List.append_nil] at e
  rw [← e]
  exact h.own.llr _ (Or.inr (Nat.le_refl _))

def InvV (w : World) (all : List (List (List Int))) (l o : Value) (wr : World) : Prop := ∃ cur vs, CurV w all l o cur vs wr

set_option maxHeartbeats 1000000 in
theorem levels_any (v : Value) (ls : List (List Int)) (w : World) (hK : KAt w) (hs : LR w v ls w.heap.size) (hl : ls.length ≤ 999999) (hb : ∀ m ∈ ls, m.length ≤ 1000000) : Calls Tryd.prog 10 #[v] w (LLPost w (if ls.length = 0 then [] else levelsL ls)) := by
  obtain ⟨ad0, cap0, ev0⟩ := hs.len
  subst ev0
  by_cases h0 : 0 < ls.length
  · have t0 : ((ls.length : Int) == 0) = false := by rw [beq_eq_false_iff_ne]; omega
    rw [if_neg (by omega)]
    go_enter Tryd.func10, Tryd.ntmps10
    go_wp2_with fail
    refine (copied_any _ ls w hs h0 (by omega) hb).mono ?_
    rintro e w1 ⟨v1, rfl, e1, l1⟩
    have lx := l1 w1.heap.size (Or.inr (Nat.le_refl _))
    obtain ⟨ad1, cap1, ev1⟩ := lx.len
    subst ev1
    have om := own_made e1.size lx
    have e2 := e1.trans (Ext.alloc w1 (.cells #[.slice ad1 ls.length cap1] 25))
    have c0 : CurV w (levelsL ls) (.slice ad1 ls.length cap1) (.slice (some ⟨w1.heap.size, 0, none⟩) 1 1) ls [(.slice ad1 ls.length cap1, ls)] (w1.alloc (.cells #[.slice ad1 ls.length cap1] 25)) :=
      ⟨fun bh hbh => (lr_kept.fresh lx (by
        rcases hbh with h | h
        · simp [Value.ownBlock] at h; omega
        · rw [size_alloc] at h; omega)).ext (Ext.alloc w1 _), by rw [levelsL_rest]; rfl, om, h0, by simp; omega, hb, e2⟩
    clear hs hb l1 lx om e2 e1
    generalize levelsL ls = T at *
    go_wp2
    generalize w1.alloc (.cells #[.slice ad1 ls.length cap1] 25) = w2 at *
    go_loopw [3, 4] (fun l o wr => InvV w T l o wr) (fun l _ _ => sliceLen l)
    case atStart => exact ⟨ls, _, c0⟩
    case round =>
      clear c0
      obtain ⟨cur, vs, cu⟩ := hrel
      obtain ⟨adc, capc, ec⟩ := cu.now.len
      subst ec
      have kr := hK.below cu.ext hK.lt
      have hp := cu.pos
      have hcl := cu.few
      by_cases hgt : cur.length ≤ 1
      · have i0 : ¬ ((1 : Int) < (cur.length : Int)) := by omega
        have d0 : decide ((1 : Int) < (cur.length : Int)) = false := by simp; omega
        go_wp2
        go_ret
        exact curv_done cu hgt
      · have i0 : (1 : Int) < (cur.length : Int) := by omega
        have d0 : decide ((1 : Int) < (cur.length : Int)) = true := by simp; omega
        obtain ⟨ado, capo, eo⟩ := cu.own.len
        subst eo
        obtain ⟨q, hq⟩ : ∃ q, q = vs.length := ⟨_, rfl⟩
        rw [← hq] at cu ⊢
        have Hq := Lib.hid hq; clear hq
        go_wp2_with fail
        refine (above_any _ cur wr kr cu.now hp (by omega) cu.bd).mono ?_
        rintro e W2 ⟨v2, rfl, e2, l2⟩
        have lr2 : ∀ bh, ((Value.slice ado q capo).ownBlock = some bh ∨ W2.heap.size ≤ bh) → LR W2 v2 (upL cur) bh := fun bh hbh => l2 bh (hbh.imp_left fun h => (cu.own.block bh h).2)
        have ow2 := cu.own.ext lr_kept e2
        obtain ⟨ad3, cap3, ev3⟩ := (l2 W2.heap.size (Or.inr (Nat.le_refl _))).len
        subst ev3
        have hsy := lr_one_more (x := .slice ad3 (upL cur).length cap3) (t := 25) lr2
        have hul := upL_length cur
        have S2 : Ext w W2 := cu.ext.trans e2
        have S3 : Below w.heap.size w (W2.alloc (.cells #[.slice ad3 (upL cur).length cap3] 25)) := Ext.trans S2 (Ext.alloc W2 _)
        have Hul := Lib.hid hul; clear hul
        go_wp2_with (refine list_append_g lr_kept rfl (.tmp 17) (.tmp 19) 27 rfl (.slice none 0 0) 24 Tryd.underlying27 u25zero rfl (by omega) w.heap.size (.slice ado q capo) vs No rfl (own_one lr_kept ow2 _ 25) W2.heap.size 1 _ (upL cur) rfl (cell_one W2 _ 25) rfl hsy (by omega) S3.size ?_; intro v3 w3 o3 b3)
        refine ⟨⟨upL cur, _, ?_, ?_, o3, by rw [Hul.out]; omega, by rw [Hul.out]; simp; omega, upL_bound 1000000 (by omega) cur cu.bd, Below.trans S3 b3⟩, ?_⟩
        · intro bh hbh
          exact o3.2 _ (List.mem_append_right _ (List.mem_singleton.2 rfl)) bh (Or.inr hbh)
        · rw [List.map_append, List.append_assoc, ← cu.all]
          congr 1
          conv => rhs; rw [restL, if_neg hgt, levelsL_rest]
          rfl
        · simp [sliceLen, Hul.out]
          omega
  · have e0 : ls = [] := List.length_eq_zero_iff.1 (by omega)
    subst e0
    clear hs hb
    go_enter Tryd.func10, Tryd.ntmps10
    go_wp2
    go_ret
    exact ⟨_, rfl, Ext.refl w, none, 0, w.heap.size + 1, 0, rfl, fun h => by simp at h, by omega, fun j m h => by simp at h⟩
end Go.Proofs.YtmplnlcmdcogmaaDoor
