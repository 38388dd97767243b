/- The contracts of Leaves, above, copied, Root and Levels (the code's). -/
import Derived.Test.YtfhgoedonjcekaaDoorWr
namespace Go.Proofs.YtfhgoedonjcekaaDoor
open Go.RowKit Go.Sha

theorem u22zero : (Tryd.prog.info? 22).map (fun i => (i.zero, i.size, i.bytes)) = some (some (.slice none 0 0), 1, 24) := by kernel_rfl
theorem u25zero : (Tryd.prog.info? 24).map (fun i => (i.zero, i.size, i.bytes)) = some (some (.slice none 0 0), 1, 24) := by kernel_rfl
/-- A list in new memory. -/
def LPost (w : World) (ls : List (List Int)) (e : Ending) (w' : World) : Prop := ∃ v, e = .returned v ∧ Ext w w' ∧ ∀ bh, (bh < w.heap.size ∨ w'.heap.size ≤ bh) → LR w' v ls bh
def Old (w : World) : Nat → Prop := fun b => b < w.heap.size
/-- While a list is made. -/
def InvL (w : World) (ls : List (List Int)) (n : Nat) (l i : Value) (wr : World) : Prop :=
  ∃ (k : Nat) (ps : List (Value × List Int)), k ≤ n ∧ i = .int .i64 k ∧ ps.length = k ∧ ps.map (·.2) = ls.take k ∧ OwnL wr w.heap.size l ps (Old w) ∧ Ext w wr
theorem own_lpost {w wr : World} {ls : List (List Int)} {v : Value} {ps : List (Value × List Int)} (h : OwnL wr w.heap.size v ps (Old w)) (he : Ext w wr) (hp : ps.map (·.2) = ls) : LPost w ls (.returned v) wr :=
  ⟨v, rfl, he, fun bh hb => by rw [← hp]; exact h.lr bh (hb.imp_left fun h => ⟨h, h⟩)⟩
/-- Bytes just made may stand in a row that is older. -/
theorem new_src {w wr w2 : World} {v l : Value} {m : List Int} {ps : List (Value × List Int)} (o : OwnB w2 wr.heap.size v m) (h : OwnL wr w.heap.size l ps (Old w)) (he : Ext w wr) : ∀ bh, (Old w bh ∨ l.ownBlock = some bh ∨ w2.heap.size ≤ bh) → Src w2 v m bh := fun bh hb => by
  refine o.srcs bh ?_
  rcases hb with hb | hb | hb
  · exact Or.inl (Nat.lt_of_lt_of_le hb he.size)
  · exact Or.inl (h.block bh hb).2
  · exact Or.inr hb
/-- .. also when one more block was made for it. -/
theorem src_one_more {w : World} {v l x : Value} {m : List Int} {t : TypeId} {A : Nat → Prop} (h : ∀ bh, (A bh ∨ l.ownBlock = some bh ∨ w.heap.size ≤ bh) → Src w v m bh) : ∀ bh, (A bh ∨ l.ownBlock = some bh ∨ (w.alloc (.cells #[x] t)).heap.size ≤ bh) → Src (w.alloc (.cells #[x] t)) v m bh := fun bh hb =>
  (h bh (hb.imp_right (Or.imp_right fun h => by rw [size_alloc] at h; omega))).ext (Ext.alloc w _)

set_option maxHeartbeats 1000000 in
theorem leaves_any (v : Value) (m : List Int) (B : Int) (w : World) (hK : KAt w) (hs : Src w v m w.heap.size) (hm : m.length ≤ 1048576) : Calls Tryd.prog 27 #[v, .int .i64 B] w (LPost w (leavesL m B)) := by
  obtain ⟨ad, cap, ev⟩ := hs.len
  subst ev
  obtain ⟨n, hn⟩ : ∃ n : Nat, cntL m.length B = n := by
    refine Int.eq_ofNat_of_zero_le ?_
    unfold cntL
    split
    · omega
    · exact Int.ediv_nonneg (by omega) (by omega)
  have hL : (leavesL m B).length = n := by simp [leavesL, hn]
  have hnb : n ≤ 2000000 := by
    have : cntL m.length B ≤ 2000000 := by
      unfold cntL
      split
      · omega
      · exact Int.le_trans (Int.ediv_le_self _ (by omega)) (by omega)
    omega
  have HL := Lib.hid hL; clear hL
  go_enter Tryd.func27, Tryd.ntmps27
  go_wp2_with fail
  refine (cntM m.length B w).mono ?_
  rintro e w' ⟨rfl, rfl⟩
  rw [hn]
  have Hn := Lib.hid hn; clear hn
  go_wp2
  go_loopw [5, 11] (fun l i wr => InvL w (leavesL m B) n l i wr) (fun _ i _ => n - (intOf i).toNat)
  case atStart => exact ⟨0, [], by omega, rfl, rfl, by simp, OwnG.nil _ _ _ _ _, Ext.refl w⟩
  case round =>
    obtain ⟨k, ps, hk, rfl, hpl, hps, ow, ex⟩ := hrel
    by_cases hlt : k < n
    · obtain ⟨hB1, hB2, hkB⟩ := cnt_lt m.length B k (by omega) (by rw [Hn.out]; omega)
      obtain ⟨b, rfl⟩ := Int.eq_ofNat_of_zero_le (show 0 ≤ B by omega)
      simp only [Int.toNat_natCast] at hkB
      have i0 : (k : Int) < (n : Int) := by omega
      have hsr := hs.now ex
      have kr := hK.below ex hK.lt
      obtain ⟨adl, capl, el⟩ := ow.len
      subst el
      rw [hpl] at ow ⊢
      go_wp2_with fail
      refine (piece_any _ m b k wr _ hsr (by omega) (by omega) hkB hm).mono ?_
      rintro e w' ⟨rfl, v', rfl, hv⟩
      go_wp2_with fail
      refine (leaf_any v' _ wr kr (hv _ hsr) (by rw [blkL, List.length_take]; omega)).mono ?_
      rintro e w2 ⟨v2, rfl, e2, o2⟩
      have hsx := new_src o2 ow ex
      obtain ⟨ad2, cap2, ev2⟩ := o2.len
      subst ev2
      have ow2 := ow.ext src_kept e2
      have ex2 := ex.trans e2
      have hsy := src_one_more (x := .slice ad2 (leafL (blkL m b k)).length cap2) (t := 22) hsx
      clear hsx o2 ow ex kr hsr hv
      go_wp2_with (refine list_append_g src_kept rfl (.tmp 14) (.tmp 20) 24 rfl (.slice none 0 0) 24 Tryd.underlying24 u22zero rfl (by omega) w.heap.size _ ps (Old w) rfl (own_one src_kept ow2 _ 22) w2.heap.size 1 _ (leafL (blkL m b k)) rfl (cell_one w2 _ 22) rfl hsy (by omega) (by rw [size_alloc]; have := ex2.size; omega) ?_; intro v3 w3 o3 b3)
      refine ⟨⟨k + 1, _, by omega, by go_num, by simp [hpl], ?_, o3, ?_⟩, by simp [intOf]; omega⟩
      · rw [List.map_append, hps, List.take_add_one, leaves_get m b k (by rw [Hn.out]; omega)]; simp
      · exact Below.trans (ex2.trans (Ext.alloc w2 _)) b3
    · obtain rfl : k = n := by omega
      have hp : ps.map (·.2) = leavesL m B := by rw [hps, List.take_of_length_le (by rw [HL.out]; omega)]
      go_wp2
      go_ret
      exact own_lpost ow ex hp
end Go.Proofs.YtfhgoedonjcekaaDoor
