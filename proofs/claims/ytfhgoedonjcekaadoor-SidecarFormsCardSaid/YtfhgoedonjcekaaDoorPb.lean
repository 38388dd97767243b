/- The contract of Build (the code's). -/
import Derived.Test.YtfhgoedonjcekaaDoorPa
import Derived.Test.YtfhgoedonjcekaaDoorWs
import Derived.Deep.OwnRows
namespace Go.Proofs.YtfhgoedonjcekaaDoor
open Go.RowKit Go.Sha

theorem slzero : (Tryd.prog.info? 22).map (fun i => (i.zero, i.size, i.bytes)) = some (some (.slice none 0 0), 1, 24) := by kernel_rfl
theorem make_bytes (n : Nat) (hn : n ≤ 1048576) : ∀ w, (Instr.makeSlice 22 (.int .i64 (n : Int)) (.int .i64 (n : Int))).run Tryd.prog w = .ok (.slice (some ⟨w.heap.size, 0, none⟩) n n) (w.alloc (.cells (bs (List.replicate n 0)) 5)) := fun w => by
  have := run_make_row' (P := Tryd.prog) 22 5 (.int .u8 0) 1 Tryd.underlying22 u8zero rfl .i64 .i64 n (by omega) (by omega) w
  rw [made_bs] at this
  exact this

/-- A block just made may stand in a row that is older. -/
theorem buf_srcs {w wr w2 : World} {l : Value} {m : List Int} {ps : List (Value × List Int)} {n cap : Nat} (o : Buf w2 wr.heap.size m) (hn : m.length = n) (hc : n ≤ cap) (h : OwnL wr w.heap.size l ps (Old w)) (he : Ext w wr) : ∀ bh, (Old w bh ∨ l.ownBlock = some bh ∨ w2.heap.size ≤ bh) → Src w2 (.slice (some ⟨wr.heap.size, 0, none⟩) n cap) m bh := fun bh hb => by
  refine o.src bh ?_ n cap hn (by omega)
  rcases hb with hb | hb | hb
  · have h1 : bh < w.heap.size := hb
    have h2 := he.size
    omega
  · have := (h.block bh hb).2
    omega
  · have := o.lt
    omega
theorem take_next {ls : List (List Int)} {k : Nat} {x : List Int} (h : ls[k]? = some x) : ls.take k ++ [x] = ls.take (k + 1) := by
  rw [List.take_add_one, h]; rfl

set_option maxHeartbeats 1000000 in
theorem build_any (v : Value) (m : List Int) (B K : Int) (w : World) (hs : Src w v m w.heap.size) (hm : m.length ≤ 1048576) : Calls Tryd.prog 29 #[v, .int .i64 B, .int .i64 K] w (LPost w (buildL m B K)) := by
  obtain ⟨ad, cap, ev⟩ := hs.len
  subst ev
  obtain ⟨n, hn⟩ : ∃ n : Nat, grpsN m.length B K = n := Int.eq_ofNat_of_zero_le (grpsN_nonneg _ _ _)
  have hnb : n ≤ 1048584 := by have := grpsN_le m.length B K; omega
  have hL := buildL_length m B K
  rw [hn, Int.toNat_natCast] at hL
  have HL := Lib.hid hL; clear hL
  go_enter Tryd.func29, Tryd.ntmps29
  go_wp2_with fail
  refine (groups_any m.length B K w).mono ?_
  rintro e w' ⟨rfl, rfl⟩
  rw [hn]
  have Hn := Lib.hid hn; clear hn
  go_wp2
  go_loopw [7, 15] (fun l i wr => InvL w (buildL m B K) n l i wr) (fun _ i _ => n - (intOf i).toNat)
  case atStart => exact ⟨0, [], by omega, rfl, rfl, by simp, OwnG.nil _ _ _ _ _, Ext.refl w⟩
  case round =>
    obtain ⟨k, ps, hk, rfl, hpl, hps, ow, ex⟩ := hrel
    by_cases hlt : k < n
    · obtain ⟨hK1, hK2, hB1, hB2⟩ := grpsN_pos m.length B K (by rw [Hn.out]; omega)
      obtain ⟨b, rfl⟩ := Int.eq_ofNat_of_zero_le (show 0 ≤ B by omega)
      obtain ⟨c, rfl⟩ := Int.eq_ofNat_of_zero_le (show 0 ≤ K by omega)
      have i0 : (k : Int) < (n : Int) := by omega
      obtain ⟨adl, capl, el⟩ := ow.len
      subst el
      rw [hpl] at ow ⊢
      have mk := make_bytes b (by omega)
      have b1 := Buf.new wr (List.replicate b 0)
      have e1 : Ext wr (wr.alloc (.cells (bs (List.replicate b 0)) 5)) := Ext.alloc wr _
      have s1 : Src (wr.alloc (.cells (bs (List.replicate b 0)) 5)) (.slice ad m.length cap) m wr.heap.size := (hs.now ex).ext e1
      have z1 : wr.heap.size ≤ (wr.alloc (.cells (bs (List.replicate b 0)) 5)).heap.size := by rw [size_alloc]; omega
      go_wp2_with fail
      generalize wr.alloc (.cells (bs (List.replicate b 0)) 5) = w1 at *
      refine (addGroup_any wr.heap.size b b _ m _ b c k w1 b1 (by simp) s1 hm (by simp) (by omega) (by omega) (by omega)).mono ?_
      rintro e w2 ⟨rfl, o2, b2⟩
      have ex1 : Ext wr w2 := o2.below e1 (Nat.le_refl _) z1
      replace b2 : Buf w2 wr.heap.size (parL m b c k) := by unfold parL; rw [Int.toNat_natCast]; exact b2
      have hsx := buf_srcs (n := b) (cap := b) b2 (by rw [parL_length]; simp) (Nat.le_refl _) ow ex
      have ow2 := ow.ext src_kept ex1
      have ex2 := ex.trans ex1
      have hsy := src_one_more (x := .slice (some ⟨wr.heap.size, 0, none⟩) b b) (t := 22) hsx
      have hget := buildL_get m b c k (by rw [Hn.out]; simp; omega)
      rw [Int.toNat_natCast] at hget
      have Hnext := Lib.hid (take_next hget)
      clear hsx b2 ow ex s1 mk b1 e1 hget
      go_wp2_with (refine list_append_g src_kept rfl (.tmp 26) (.tmp 28) 24 rfl (.slice none 0 0) 24 Tryd.underlying24 slzero rfl (by omega) w.heap.size _ ps (Old w) rfl (own_one src_kept ow2 _ 22) w2.heap.size 1 _ (parL m b c k) rfl (cell_one w2 _ 22) rfl hsy (by omega) (by rw [size_alloc]; have := ex2.size; omega) ?_; intro v3 w3 o3 b3)
      refine ⟨⟨k + 1, _, by omega, by go_num, by simp [hpl], ?_, o3, ?_⟩, by simp [intOf]; omega⟩
      · rw [List.map_append, hps]; exact Hnext.out
      · exact Below.trans (ex2.trans (Ext.alloc w2 _)) b3
    · obtain rfl : k = n := by omega
      have hp : ps.map (·.2) = buildL m B K := by rw [hps, List.take_of_length_le (by rw [HL.out]; omega)]
      go_wp2
      go_ret
      exact own_lpost ow ex hp
end Go.Proofs.YtfhgoedonjcekaaDoor
