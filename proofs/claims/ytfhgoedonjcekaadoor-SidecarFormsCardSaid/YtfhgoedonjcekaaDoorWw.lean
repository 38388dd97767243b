/- The contracts of the document's own Leaves, Root and Levels. -/
import Derived.Test.YtfhgoedonjcekaaDoorWv
namespace Go.Proofs.YtfhgoedonjcekaaDoor
open Go.RowKit Go.Sha
set_option linter.unusedSimpArgs false

theorem cnt_nat (m : List Int) (B : Int) (hm : m.length ≤ 1048576) : ∃ n : Nat, cntL m.length B = n ∧ n ≤ 2000000 := by
  have h0 : 0 ≤ cntL m.length B := by
    unfold cntL
    split
    · omega
    · exact Int.ediv_nonneg (by omega) (by omega)
  have h1 : cntL m.length B ≤ 2000000 := by
    unfold cntL
    split
    · omega
    · exact Int.le_trans (Int.ediv_le_self _ (by omega)) (by omega)
  obtain ⟨n, hn⟩ := Int.eq_ofNat_of_zero_le h0
  exact ⟨n, hn, by omega⟩

set_option maxHeartbeats 1000000 in
theorem rleaves_any (v : Value) (m : List Int) (B : Int) (w : World) (hs : Src w v m w.heap.size) (hm : m.length ≤ 20000) : Calls Tryd.prog 30 #[v, .int .i64 B] w (LPost w (leavesL m B)) := by
  obtain ⟨ad, cap, ev⟩ := hs.len
  subst ev
  obtain ⟨n, hn, hnb⟩ := cnt_nat m B (by omega)
  have hL : (leavesL m B).length = n := by simp [leavesL, hn]
  have HL := Lib.hid hL; clear hL
  have Hn := Lib.hid hn; clear hn
  go_enter Tryd.func30, Tryd.ntmps30
  go_wp2
  go_loopw [5, 6] (fun l i wr => InvL w (leavesL m B) n l i wr) (fun _ i _ => n - (intOf i).toNat)
  case atStart => exact ⟨0, [], by omega, rfl, rfl, by simp, OwnG.nil _ _ _ _ _, Ext.refl w⟩
  case round =>
    obtain ⟨k, ps, hk, rfl, hpl, hps, ow, ex⟩ := hrel
    have hsr := hs.now ex
    obtain ⟨adl, capl, el⟩ := ow.len
    subst el
    rw [hpl] at ow ⊢
    by_cases hlt : k < n
    · have i0 : (k : Int) < (n : Int) := by omega
      have d0 : decide ((k : Int) < (n : Int)) = true := by simp; omega
      go_wp2_with fail
      refine (cntR m.length B wr).mono ?_
      rintro e w' ⟨rfl, rfl⟩
      rw [Hn.out]
      go_wp2_with fail
      refine (rblock_any _ m B k wr _ hsr (by omega)).mono ?_
      rintro e w' ⟨rfl, v', rfl, hv⟩
      have hbt : blockT m B k = blkL m B.toNat k := by rw [blockT, if_pos ⟨by omega, by rw [Hn.out]; omega⟩]; rfl
      rw [hbt] at hv
      have hv' := hv _ hsr
      go_wp2_with fail
      refine (rleaf_any v' _ wr hv' (by rw [blkL, List.length_take, List.length_drop]; omega)).mono ?_
      rintro e w2 ⟨v2, rfl, e2, o2⟩
      have hsx := new_src o2 ow ex
      obtain ⟨ad2, cap2, ev2⟩ := o2.len
      subst ev2
      have ow2 := ow.ext src_kept e2
      have ex2 := ex.trans e2
      have hsy := src_one_more (x := .slice ad2 (leafL (blkL m B.toNat k)).length cap2) (t := 22) hsx
      clear hsx o2 ow ex hsr hv hv' hbt
      go_wp2_with (refine list_append_g src_kept rfl (.tmp 15) (.tmp 21) 24 rfl (.slice none 0 0) 24 Tryd.underlying24 u22zero rfl (by omega) w.heap.size _ ps (Old w) rfl (own_one src_kept ow2 _ 22) w2.heap.size 1 _ (leafL (blkL m B.toNat k)) rfl (cell_one w2 _ 22) rfl hsy (by omega) (by rw [size_alloc]; have := ex2.size; omega) ?_; intro v3 w3 o3 b3)
      refine ⟨⟨k + 1, _, by omega, by go_num, by simp [hpl], ?_, o3, ?_⟩, by simp [intOf]; omega⟩
      · rw [List.map_append, hps, List.take_add_one, leaves_get m B k (by rw [Hn.out]; omega)]; simp
      · exact Below.trans (ex2.trans (Ext.alloc w2 _)) b3
    · obtain rfl : k = n := by omega
      have hp : ps.map (·.2) = leavesL m B := by rw [hps, List.take_of_length_le (by rw [HL.out]; omega)]
      go_wp2_with fail
      refine (cntR m.length B wr).mono ?_
      rintro e w' ⟨rfl, rfl⟩
      rw [Hn.out]
      go_wp2
      go_ret
      exact own_lpost ow ex hp

/-- Bytes, wherever they lie. -/
def RPost (w : World) (m : List Int) (e : Ending) (w' : World) : Prop := ∃ v, e = .returned v ∧ Ext w w' ∧ Src w' v m w'.heap.size
/-- The level at hand, while one goes up; its bytes are few. -/
def InvTR (w : World) (top : List (List Int)) (l : Value) (wr : World) : Prop := ∃ cur, Cur w top l cur wr ∧ ∀ m ∈ cur, m.length ≤ 14000

set_option maxHeartbeats 1000000 in
theorem rroot_any (v : Value) (ls : List (List Int)) (w : World) (hs : LR w v ls w.heap.size) (hl : ls.length ≤ 1000000) (hb : ∀ m ∈ ls, m.length ≤ 14000) : Calls Tryd.prog 31 #[v] w (RPost w (rootL ls)) := by
  obtain ⟨ad0, cap0, ev0⟩ := hs.len
  subst ev0
  by_cases h0 : 0 < ls.length
  · have t0 : ((ls.length : Int) == 0) = false := by rw [beq_eq_false_iff_ne]; omega
    have c0 : InvTR w (topL ls) (.slice ad0 ls.length cap0) w := ⟨ls, ⟨hs, rfl, h0, hl, fun m hm => Nat.le_trans (hb m hm) (by omega), Ext.refl w⟩, hb⟩
    have hr : rootL ls = (topL ls)[0]?.getD [] := by rw [rootL, if_neg (by omega)]
    rw [hr]
    clear hs hb hr
    generalize topL ls = T at *
    go_enter Tryd.func31, Tryd.ntmps31
    go_wp2
    go_loopw [0] (fun l wr => InvTR w T l wr) (fun l _ => sliceLen l)
    case atStart => exact c0
    case round =>
      clear c0
      obtain ⟨cur, cu, hbc⟩ := hrel
      obtain ⟨adc, capc, ec⟩ := cu.lr.len
      subst ec
      have hp := cu.pos
      have hcl := cu.len
      by_cases hgt : cur.length ≤ 1
      · have hT := cu.top
        rw [topL_small cur hgt] at hT
        obtain ⟨cap, pb, po, ev, hpb, hc⟩ := lr_get cu.lr hp
        obtain ⟨m1, hm1⟩ : ∃ m, cur[0]? = some m := ⟨_, List.getElem?_eq_getElem hp⟩
        obtain ⟨x1, c1, s1⟩ := hc 0 m1 hm1
        injection ev with ev1 _ ev2
        subst ev1 ev2
        have i0 : ¬ ((1 : Int) < (cur.length : Int)) := by omega
        have d0 : decide ((1 : Int) < (cur.length : Int)) = false := by simp; omega
        have i1 : (0 : Int) < (cur.length : Int) := by omega
        have hm : T[0]?.getD [] = m1 := by rw [← hT, hm1]; rfl
        have Hm := Lib.hid hm
        rw [Nat.add_zero] at c1
        have hex := cu.ext
        clear hc hm1 hT cu hgt hm
        go_wp2
        go_ret
        exact ⟨x1, rfl, hex, by rw [Hm.out]; exact s1⟩
      · have i0 : (1 : Int) < (cur.length : Int) := by omega
        have d0 : decide ((1 : Int) < (cur.length : Int)) = true := by simp; omega
        go_wp2_with fail
        refine (up_any _ cur wr cu.lr hp hcl hbc).mono ?_
        rintro e W2 ⟨v2, rfl, e2, l3, _⟩
        go_wp2
        have hul := upL_length cur
        refine ⟨⟨upL cur, ⟨l3, by rw [← topL_great cur hgt]; exact cu.top, by omega, by omega, upL_bound 1000000 (by omega) cur cu.bd, cu.ext.trans e2⟩, upL_bound 14000 (by omega) cur hbc⟩, ?_⟩
        obtain ⟨ad3, cap3, e3⟩ := l3.len
        rw [e3]
        simp [sliceLen, hul]
        omega
  · have e0 : ls = [] := List.length_eq_zero_iff.1 (by omega)
    subst e0
    clear hs hb
    have hS : Src w (.slice none 0 0) [] w.heap.size := ⟨none, 0, w.heap.size + 1, 0, rfl, by simp, fun h => by simp at h, by omega, fun j hj => by simp at hj, fun _ => rfl⟩
    go_enter Tryd.func31, Tryd.ntmps31
    go_wp2_with fail
    refine (ref_any _ [] w hS (by simp)).mono ?_
    rintro e w5 ⟨v5, rfl, b5, o5⟩
    go_wp2
    go_ret
    exact ⟨v5, rfl, b5, o5.srcs _ (Or.inr (Nat.le_refl _))⟩

def InvVR (w : World) (all : List (List (List Int))) (l o : Value) (wr : World) : Prop := ∃ cur vs, CurV w all l o cur vs wr ∧ ∀ m ∈ cur, m.length ≤ 14000

end Go.Proofs.YtfhgoedonjcekaaDoor
