/- The contracts of copied, Root and Levels (the code's). -/
import Derived.Test.YtfhgoedonjcekaaDoorWt
namespace Go.Proofs.YtfhgoedonjcekaaDoor
open Go.RowKit Go.Sha
set_option linter.unusedSimpArgs false

/-- The level at hand, while one goes up. -/
structure Cur (w : World) (top : List (List Int)) (l : Value) (cur : List (List Int)) (wr : World) : Prop where
  lr : LR wr l cur wr.heap.size
  top : topL cur = top
  pos : 0 < cur.length
  len : cur.length ≤ 1000000
  bd : ∀ m ∈ cur, m.length ≤ 1000000
  ext : Ext w wr

def InvT (w : World) (top : List (List Int)) (l : Value) (wr : World) : Prop := ∃ cur, Cur w top l cur wr

set_option maxHeartbeats 1000000 in
theorem root_any (v : Value) (ls : List (List Int)) (w : World) (hK : KAt w) (hs : LR w v ls w.heap.size) (hl : ls.length ≤ 1000000) (hb : ∀ m ∈ ls, m.length ≤ 1000000) : Calls Tryd.prog 28 #[v] w (BPost w (rootL ls)) := by
  obtain ⟨ad0, cap0, ev0⟩ := hs.len
  subst ev0
  by_cases h0 : 0 < ls.length
  · have t0 : ((ls.length : Int) == 0) = false := by rw [beq_eq_false_iff_ne]; omega
    have c0 : Cur w (topL ls) (.slice ad0 ls.length cap0) ls w := ⟨hs, rfl, h0, hl, hb, Ext.refl w⟩
    have hr : rootL ls = (topL ls)[0]?.getD [] := by rw [rootL, if_neg (by omega)]
    rw [hr]
    clear hs hb hr
    generalize topL ls = T at *
    go_enter Tryd.func28, Tryd.ntmps28
    go_wp2
    go_loopw [3] (fun l wr => InvT w T l wr) (fun l _ => sliceLen l)
    case atStart => exact ⟨ls, c0⟩
    case round =>
      clear c0
      obtain ⟨cur, cu⟩ := hrel
      obtain ⟨adc, capc, ec⟩ := cu.lr.len
      subst ec
      have kr := hK.below cu.ext hK.lt
      have hp := cu.pos
      have hcl := cu.len
      by_cases hgt : cur.length ≤ 1
      · have hT := cu.top
        rw [topL_small cur hgt] at hT
        obtain ⟨cap, pb, po, ev, hpb, hc⟩ := lr_get cu.lr hp
        obtain ⟨m1, hm1⟩ : ∃ m, cur[0]? = some m := ⟨_, List.getElem?_eq_getElem hp⟩
        obtain ⟨x1, c1, s1⟩ := hc 0 m1 hm1
        injection ev with ev1 _ ev2
        subst ev1 ev2
        have l1 := cu.bd m1 (List.mem_of_getElem? hm1)
        have i0 : ¬ ((1 : Int) < (cur.length : Int)) := by omega
        have d0 : decide ((1 : Int) < (cur.length : Int)) = false := by simp; omega
        have i1 : (0 : Int) < (cur.length : Int) := by omega
        have hm : T[0]?.getD [] = m1 := by rw [← hT, hm1]; rfl
        have Hm := Lib.hid hm
        rw [Nat.add_zero] at c1
        have hex := cu.ext
        clear hc hm1 hT cu hgt hm
        go_wp2_with fail
        refine (clone_any x1 m1 wr s1 (by omega)).mono ?_
        rintro e W2 ⟨v2, rfl, e2, o2⟩
        go_wp2
        go_ret
        exact ⟨v2, rfl, hex.trans e2, by rw [Hm.out]; exact o2.less hex.size⟩
      · have i0 : (1 : Int) < (cur.length : Int) := by omega
        have d0 : decide ((1 : Int) < (cur.length : Int)) = true := by simp; omega
        go_wp2_with fail
        refine (above_any _ cur wr kr cu.lr hp hcl cu.bd).mono ?_
        rintro e W2 ⟨v2, rfl, e2, l2⟩
        go_wp2
        have l3 := l2 W2.heap.size (Or.inr (Nat.le_refl _))
        have hul := upL_length cur
        refine ⟨⟨upL cur, l3, by rw [← topL_great cur hgt]; exact cu.top, by omega, by omega, upL_bound 1000000 (by omega) cur cu.bd, cu.ext.trans e2⟩, ?_⟩
        obtain ⟨ad3, cap3, e3⟩ := l3.len
        rw [e3]
        simp [sliceLen, hul]
        omega
  · have e0 : ls = [] := List.length_eq_zero_iff.1 (by omega)
    subst e0
    clear hs hb
    have hS : Srcs w (.slice none 0 0) [] := ⟨none, 0, 0, 0, rfl, fun h => by simp at h, fun j x h => by simp at h⟩
    go_enter Tryd.func28, Tryd.ntmps28
    go_wp2_with fail
    refine (dsum_any _ _ w hK hS (by simp [flat]) (by simp)).mono ?_
    intro e w' h
    obtain ⟨v', rfl, e4, o4⟩ := sum_own h
    go_wp2
    go_ret
    exact ⟨v', rfl, e4, o4⟩

/-- Levels in new memory. -/
def LLPost (w : World) (l3 : List (List (List Int))) (e : Ending) (w' : World) : Prop := ∃ v, e = .returned v ∧ Ext w w' ∧ LLR w' v l3 w'.heap.size
def No : Nat → Prop := fun _ => False
/-- What stands above the level at hand. -/
def restL (cur : List (List Int)) : List (List (List Int)) := if cur.length ≤ 1 then [] else levelsL (upL cur)
theorem levelsL_rest (cur : List (List Int)) : levelsL cur = cur :: restL cur := by
  unfold restL
  by_cases h : cur.length ≤ 1
  · rw [if_pos h, levelsL_small cur h]
  · rw [if_neg h, levelsL_great cur h]
structure CurV (w : World) (all : List (List (List Int))) (l o : Value) (cur : List (List Int)) (vs : List (Value × List (List Int))) (wr : World) : Prop where
  lr : ∀ bh, (o.ownBlock = some bh ∨ wr.heap.size ≤ bh) → LR wr l cur bh
  all : vs.map (·.2) ++ restL cur = all
  own : OwnLL wr w.heap.size o vs No
  pos : 0 < cur.length
  few : vs.length + cur.length ≤ 1000000
  bd : ∀ m ∈ cur, m.length ≤ 1000000
  ext : Ext w wr
theorem CurV.now {w wr : World} {all : List (List (List Int))} {l o : Value} {cur : List (List Int)} {vs : List (Value × List (List Int))} (h : CurV w all l o cur vs wr) : LR wr l cur wr.heap.size := h.lr _ (Or.inr (Nat.le_refl _))
theorem own_made {w : World} {base : Nat} {x : Value} {ls : List (List Int)} (hb : base ≤ w.heap.size) (h : LR w x ls w.heap.size) : OwnLL (w.alloc (.cells #[x] 24)) base (.slice (some ⟨w.heap.size, 0, none⟩) 1 1) [(x, ls)] No := by
  refine ⟨⟨rfl, Or.inr ⟨w.heap.size, 1, #[x], rfl, hb, At.new w _ 24, Nat.le_refl _, by unfold maxLen; omega, rfl, rfl⟩⟩, fun y hy bh hbh => ?_⟩
  simp at hy
  subst hy
  have hle : w.heap.size ≤ bh := by
    rcases hbh with h | h | h
    · cases h
    · simp [Value.ownBlock] at h; omega
    · rw [size_alloc] at h; omega
  exact (lr_kept.fresh h hle).ext (Ext.alloc w _)
theorem lr_one_more {w : World} {v l x : Value} {m : List (List Int)} {t : TypeId} (h : ∀ bh, (l.ownBlock = some bh ∨ w.heap.size ≤ bh) → LR w v m bh) : ∀ bh, (No bh ∨ l.ownBlock = some bh ∨ (w.alloc (.cells #[x] t)).heap.size ≤ bh) → LR (w.alloc (.cells #[x] t)) v m bh := fun bh hb =>
  (h bh (by
    rcases hb with hb | hb | hb
    · cases hb
    · exact Or.inl hb
    · rw [size_alloc] at hb; exact Or.inr (by omega))).ext (Ext.alloc w _)
theorem curv_done {w wr : World} {all : List (List (List Int))} {l o : Value} {cur : List (List Int)} {vs : List (Value × List (List Int))} (h : CurV w all l o cur vs wr) (h1 : cur.length ≤ 1) : LLPost w all (.returned o) wr := by
  refine ⟨o, rfl, h.ext, ?_⟩
  have e := h.all
  rw [restL, if_pos h1, List.append_nil] at e
  rw [← e]
  exact h.own.llr _ (Or.inr (Nat.le_refl _))

def InvV (w : World) (all : List (List (List Int))) (l o : Value) (wr : World) : Prop := ∃ cur vs, CurV w all l o cur vs wr

end Go.Proofs.YtfhgoedonjcekaaDoor
