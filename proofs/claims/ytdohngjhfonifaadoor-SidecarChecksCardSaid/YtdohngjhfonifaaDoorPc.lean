/- The contract of Build (the document's). -/
import Derived.Test.YtdohngjhfonifaaDoorPb
namespace Go.Proofs.YtdohngjhfonifaaDoor
open Go.RowKit Go.Sha

/-- While a block is xored in, the place in a variable. -/
def InvR3 (w : World) (B0 g : Nat) (s o : List Int) (i : Value) (wr : World) : Prop := ∃ k : Nat, k ≤ o.length ∧ i = .int .i64 k ∧ Below B0 w wr ∧ B0 ≤ wr.heap.size ∧ Buf wr g (xorL s (o.take k))
def InvR2 (w : World) (B0 g : Nat) (m : List Int) (B : Int) (K q : Nat) (i : Value) (wr : World) : Prop :=
  ∃ j : Nat, j ≤ K ∧ i = .int .i64 ((q * K + j : Nat) : Int) ∧ Below B0 w wr ∧ B0 ≤ wr.heap.size ∧ Buf wr g (grp (List.replicate B.toNat 0) ((List.range j).map fun i => blockT m B ((q * K + i : Nat) : Int)))

set_option maxHeartbeats 4000000 in
theorem rbuild_any (v : Value) (m : List Int) (B K : Int) (w : World) (hs : Src w v m w.heap.size) (hm : m.length ≤ 1048576) : Calls Tryd.prog 32 #[v, .int .i64 B, .int .i64 K] w (LPost w (buildL m B K)) := by
  obtain ⟨ad, cap, ev⟩ := hs.len
  subst ev
  obtain ⟨n, hn⟩ : ∃ n : Nat, grpsN m.length B K = n := Int.eq_ofNat_of_zero_le (grpsN_nonneg _ _ _)
  have hnb : n ≤ 1048584 := by have := grpsN_le m.length B K; omega
  have hL := buildL_length m B K
  rw [hn, Int.toNat_natCast] at hL
  have HL := Lib.hid hL; clear hL
  have Hn := Lib.hid hn; clear hn
  go_enter Tryd.func32, Tryd.ntmps32
  go_wp2
  go_loopw [7, 8] (fun l i wr => InvL w (buildL m B K) n l i wr) (fun _ i _ => n - (intOf i).toNat)
  case atStart => exact ⟨0, [], by omega, rfl, rfl, by simp, OwnG.nil _ _ _ _ _, Ext.refl w⟩
  case round =>
    obtain ⟨k, ps, hk, rfl, hpl, hps, ow, ex⟩ := hrel
    obtain ⟨wa, rfl⟩ : ∃ wa, wa = wr := ⟨wr, rfl⟩
    go_wp2_with fail
    refine (rgroups_any m.length B K wa).mono ?_
    rintro e w' ⟨rfl, rfl⟩
    rw [Hn.out]
    by_cases hlt : k < n
    · obtain ⟨hK1, hK2, hB1, hB2⟩ := grpsN_pos m.length B K (by rw [Hn.out]; omega)
      obtain ⟨b, rfl⟩ := Int.eq_ofNat_of_zero_le (show 0 ≤ B by omega)
      obtain ⟨c, rfl⟩ := Int.eq_ofNat_of_zero_le (show 0 ≤ K by omega)
      have i0 : (k : Int) < (n : Int) := by omega
      obtain ⟨adl, capl, el⟩ := ow.len
      subst el
      rw [hpl] at ow ⊢
      have mk := make_bytes b (by omega)
      have b1 := Buf.new wa (List.replicate b 0)
      have e1 : Ext wa (wa.alloc (.cells (bs (List.replicate b 0)) 5)) := Ext.alloc wa _
      have z1 : wa.heap.size ≤ (wa.alloc (.cells (bs (List.replicate b 0)) 5)).heap.size := by rw [size_alloc]; omega
      have hkc : k * c ≤ 10000000 := Nat.le_trans (Nat.mul_le_mul (show k ≤ 1048584 by omega) (show c ≤ 8 by omega)) (by omega)
      obtain ⟨T, hT⟩ : ∃ T, T = k * c := ⟨_, rfl⟩
      have hT1 : (k : Int) * (c : Int) = (T : Int) := by rw [hT]; push_cast; rfl
      have hT2 : ((k : Int) + 1) * (c : Int) = (T : Int) + (c : Int) := by rw [Int.add_mul, hT1]; omega
      rw [← hT] at hkc
      have HT := Lib.hid hT; clear hT
      have hsr := hs.now ex
      go_wp2
      generalize wa.alloc (.cells (bs (List.replicate b 0)) 5) = w1 at *
      obtain ⟨G, hG⟩ : ∃ G, G = wa.heap.size := ⟨_, rfl⟩
      have HG := Lib.hid hG
      go_loopw [10] (fun i w2 => InvR2 wa wa.heap.size wa.heap.size m b c k i w2) (fun i _ => T + c - (intOf i).toNat)
      case atStart => exact ⟨0, by omega, by rw [← HT.out]; rfl, e1, z1, by simpa [grp] using b1⟩
      case round =>
        obtain ⟨j, hj, rfl, e2, z2, b2⟩ := hrel
        obtain ⟨wb, rfl⟩ : ∃ wb, wb = wr := ⟨wr, rfl⟩
        rw [← HT.out]
        by_cases hj2 : j < c
        · have hle := b2.lt
          have hs2 : Src wb (.slice ad m.length cap) m wb.heap.size := hsr.now e2
          have hbl := blockT_length m (b : Int) ((T + j : Nat) : Int)
          rw [Int.toNat_natCast] at hbl
          have Hsucc := Lib.hid (gb_succ m b c k j)
          have hlen : (grp (List.replicate (b : Int).toNat 0) ((List.range j).map fun i => blockT m b ((k * c + i : Nat) : Int))).length = b := by rw [grp_length, List.length_replicate, Int.toNat_natCast]
          have j0 : ((T + j : Nat) : Int) < (T : Int) + (c : Int) := by omega
          obtain ⟨S, hS⟩ : ∃ S, S = grp (List.replicate (b : Int).toNat 0) ((List.range j).map fun i => blockT m b ((k * c + i : Nat) : Int)) := ⟨_, rfl⟩
          rw [← hS] at b2 hlen
          have HS := Lib.hid hS; clear hS
          go_wp2_with fail
          refine (rblock_any _ m b ((T + j : Nat) : Int) wb _ hs2 hm).mono ?_
          rintro e w3 ⟨rfl, v3, rfl, hv3⟩
          have s3 : Src wb v3 (blockT m b ((T + j : Nat) : Int)) wa.heap.size := hv3 _ (hsr.ext e2)
          obtain ⟨O, hO⟩ : ∃ O, O = blockT m b ((T + j : Nat) : Int) := ⟨_, rfl⟩
          rw [← hO] at hbl s3
          have HO := Lib.hid hO; clear hO
          obtain ⟨ado, capo, sb, so, rfl, x2, x3, x4, x5, x6⟩ := s3
          have X3 := Lib.hid x3; clear x3
          have X5 := Lib.hid x5; clear x5
          obtain ⟨Lo, hLo⟩ : ∃ L, L = O.length := ⟨_, rfl⟩
          have HLo := Lib.hid hLo
          rw [← hLo] at hbl x2 ⊢
          clear hLo x6 hv3
          go_wp2
          go_loopw [12] (fun i w3 => InvR3 wa wa.heap.size wa.heap.size S O i w3 ∧ Only wa.heap.size wb w3) (fun i _ => Lo - (intOf i).toNat)
          case atStart => exact ⟨⟨0, by omega, rfl, e2, z2, by simpa [xorL_nil] using b2⟩, Only.refl _ _⟩
          case round =>
            obtain ⟨⟨i, hi, rfl, e3, z3, b3⟩, o3⟩ := hrel
            rw [← HLo.out] at hi
            by_cases hi2 : i < Lo
            · have e := X3.out (by rw [← HLo.out]; omega)
              subst e
              have c0 := X5.out i (by rw [← HLo.out]; omega)
              have c1 : wr.cell? ⟨sb, so + i, none⟩ = some (.int .u8 (O[i]?.getD 0)) := by rw [← c0]; exact World.cell?_of_block (o3.block sb (World.block_lt_of_cell? wb _ c0) x4)
              obtain ⟨t1, t2⟩ := xorL_take S O i (by rw [← HLo.out]; omega) (by rw [← HLo.out, hlen]; omega)
              have hjl : i < (xorL S (O.take i)).length := by rw [xorL_length, hlen]; omega
              have c2 : wr.cell? ⟨wa.heap.size, i, none⟩ = some (.int .u8 (S[i]?.getD 0)) := by rw [← t1]; exact b3.cell i hjl
              have c3 := b3.frozen i
              have b4 := b3.set i (xb (S[i]?.getD 0) (O[i]?.getD 0)) hjl
              rw [t2] at b4
              have o4 := o3.trans (Only.set wa.heap.size i wr (.int .u8 (xb (S[i]?.getD 0) (O[i]?.getD 0))))
              have B4 := Lib.hid b4; clear b4 t1 t2 b3 c0 hjl
              unfold xb at B4 o4
              generalize O[i]?.getD 0 = y at *
              generalize S[i]?.getD 0 = x at *
              have i1 : (i : Int) < (Lo : Int) := by omega
              have i2 : (i : Int) < (b : Int) := by omega
              go_wp2
              go_region
              go_wp2
              have b5 : Buf (wr.setCell ⟨wa.heap.size, i, none⟩ (.int .u8 (bits .xor .u8 x y))).drew wa.heap.size (xorL S (O.take (i + 1))) := B4.out
              exact ⟨⟨⟨i + 1, by rw [← HLo.out]; omega, by go_num, (e3.setCell (p := ⟨wa.heap.size, i, none⟩) (Nat.le_refl _) _).drew, by simpa using z3, b5⟩, o4.drew⟩, by simp [intOf]; omega⟩
            · obtain rfl : i = Lo := by omega
              have b4 : Buf wr wa.heap.size (xorL S O) := by rw [List.take_of_length_le (by rw [← HLo.out]; omega)] at b3; exact b3
              clear b3
              go_wp2
              refine ⟨⟨j + 1, by omega, ?_, e3, z3, ?_⟩, by simp [intOf]; omega⟩
              · rw [← HT.out]; go_num
              · rw [Hsucc.out, grp_snoc, ← HS.out, ← HT.out, ← HO.out]; exact b4
        · obtain rfl : j = c := by omega
          have j0 : ¬ (((T + j : Nat) : Int) < (T : Int) + (j : Int)) := by omega
          replace b2 : Buf wb wa.heap.size (parL m b j k) := b2
          have hsx := buf_srcs (n := b) (cap := b) b2 (by rw [parL_length]; simp) (Nat.le_refl _) ow ex
          have ow2 := ow.ext src_kept e2
          have ex2 := ex.trans e2
          have hsy := src_one_more (x := .slice (some ⟨wa.heap.size, 0, none⟩) b b) (t := 22) hsx
          have hget := buildL_get m b j k (by rw [Hn.out]; simp; omega)
          rw [Int.toNat_natCast] at hget
          have Hnext := Lib.hid (take_next hget)
          clear hsx b2 ow ex mk b1 e1 hget
          go_wp2_with (refine list_append_g src_kept rfl (.tmp 57) (.tmp 59) 24 rfl (.slice none 0 0) 24 Tryd.underlying24 slzero rfl (by omega) w.heap.size _ ps (Old w) rfl (own_one src_kept ow2 _ 22) wb.heap.size 1 _ (parL m b j k) rfl (cell_one wb _ 22) rfl hsy (by omega) (by rw [size_alloc]; have := ex2.size; omega) ?_; intro v3 w3 o3 b3)
          refine ⟨⟨k + 1, _, by omega, by go_num, by simp [hpl], ?_, o3, ?_⟩, by simp [intOf]; omega⟩
          · rw [List.map_append, hps]; exact Hnext.out
          · exact Below.trans (ex2.trans (Ext.alloc wb _)) b3
    · obtain rfl : k = n := by omega
      have hp : ps.map (·.2) = buildL m B K := by rw [hps, List.take_of_length_le (by rw [HL.out]; omega)]
      go_wp2
      go_ret
      exact own_lpost ow ex hp
end Go.Proofs.YtdohngjhfonifaaDoor
