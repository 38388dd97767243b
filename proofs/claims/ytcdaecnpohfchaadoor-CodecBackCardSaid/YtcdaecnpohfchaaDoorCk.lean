/- The contracts of the document's Num, Word and Bytes. -/
import Derived.Test.YtcdaecnpohfchaaDoorCj
namespace Go.Proofs.YtcdaecnpohfchaaDoor
open Go.RowKit Go.Sha

theorem lf4 (n : Nat) (hn : n ≤ 2147483647) : lf (n : Int) 4 = [(n : Int) % 256, (n : Int) / 256 % 256, (n : Int) / 65536 % 256, (n : Int) / 16777216] := by
  have h : (n : Int) / 16777216 = (n : Int) / 16777216 % 256 := by omega
  rw [h]
  show [(n : Int) / 2 ^ 0 % 256, (n : Int) / 2 ^ 8 % 256, (n : Int) / 2 ^ 16 % 256, (n : Int) / 2 ^ 24 % 256] = _
  rw [show (2 : Int) ^ 0 = 1 from rfl, Int.ediv_one]
  rfl
theorem refnum_any (n : Nat) (w : World) (hn : n ≤ 2147483647) : Calls Tryd.prog 28 #[.int .i64 (n : Int)] w (BPost w (lf (n : Int) 4)) := by
  go_enter Tryd.func28, Tryd.ntmps28
  go_wp2
  go_ret
  refine ⟨_, rfl, Ext.alloc w _, own_of_at (Nat.le_refl _) ?_ (lf_length _ 4) (by omega)⟩
  rw [lf4 n hn]
  exact At.new w _ 5
def InvW (w : World) (n : Int) (b i : Value) (wr : World) : Prop := ∃ k : Nat, k ≤ 8 ∧ i = .int .i64 k ∧ OwnB wr w.heap.size b (lf n k) ∧ Ext w wr
theorem src_one' (w : World) (x : Int) : Src (w.alloc (.cells #[.int .u8 x] 5)) (.slice (some ⟨w.heap.size, 0, none⟩) 1 1) [x] (w.heap.size + 1) :=
  Src.of_at (m := [x]) (At.new w _ 5) (by omega) 1 (by simp)
set_option maxHeartbeats 1000000 in
theorem refword_any (n : Int) (w : World) : Calls Tryd.prog 29 #[.int .u64 n] w (BPost w (lf n 8)) := by
  go_enter Tryd.func29, Tryd.ntmps29
  go_wp2
  go_loopw [3, 4] (fun b i wr => InvW w n b i wr) (fun _ i _ => 8 - (intOf i).toNat)
  case atStart => exact ⟨0, by omega, rfl, OwnB.nil w _, Ext.refl w⟩
  case round =>
    obtain ⟨k, hk, rfl, ho, he⟩ := hrel
    obtain ⟨ad, cap, rfl⟩ := ho.len
    have hll := lf_length n k
    rw [hll] at ho ⊢
    by_cases hlt : k < 8
    · have q1 : (0 : Int) ≤ (k : Int) := by omega
      have q2 : (0 : Int) ≤ 8 * (k : Int) := by omega
      have q3 : ((8 : Int) * (k : Int)).toNat = 8 * k := by omega
      have q4 : min (8 * k) 64 = 8 * k := by omega
      have q5 : (k : Int) < 8 := by omega
      obtain ⟨y, hy⟩ : ∃ y, y = n / 2 ^ (8 * k) % 256 := ⟨_, rfl⟩
      have s1 := src_one' wr y
      have o1 := ho.ext (Ext.alloc wr (.cells #[.int .u8 y] 5))
      have hB : w.heap.size ≤ (wr.alloc (.cells #[.int .u8 y] 5)).heap.size := by rw [size_alloc]; have := he.size; omega
      have e1 := he.trans (Ext.alloc wr (.cells #[.int .u8 y] 5))
      have Hll := Lib.hid hll; clear hll
      have Ho1 := Lib.hid o1; clear o1 ho
      have S1 := Lib.hid s1; clear s1
      rw [hy] at S1 Ho1 e1 hB
      clear hy y
      go_wp2_with (refine list_append_bytes rfl (.tmp 9) (.tmp 15) 25 rfl Tryd.underlying25 u8zero w.heap.size (.slice ad k cap) (lf n k) rfl Ho1.out _ _ _ rfl S1.out (by rw [Hll.out]; simp; omega) hB ?_; intro vx w4 ox gx; have b4 := Ho1.out.grown gx hB)
      exact ⟨⟨k + 1, by omega, rfl, ox, Below.trans e1 b4⟩, by simp [intOf]; omega⟩
    · obtain rfl : k = 8 := by omega
      go_wp2
      go_ret
      exact ⟨_, rfl, he, ho⟩
theorem refbytes_any (v : Value) (m : List Int) (b : Nat) (w : World) (hs : Src w v m b) (hm : m.length ≤ 1000000000) : Calls Tryd.prog 30 #[v] w (BPost w (encB m)) := by
  obtain ⟨ad, cap, rfl⟩ := hs.len
  have Hs := Lib.hid hs; clear hs
  go_enter Tryd.func30, Tryd.ntmps30
  go_wp2_with fail
  refine (refnum_any m.length w (by omega)).mono ?_
  rintro e w1 ⟨u, rfl, e1, o1⟩
  have s1 := Hs.out.now e1
  have hB := e1.size
  have O1 := Lib.hid o1; clear o1
  go_wp2_with (refine list_append_bytes rfl (.tmp 5) (.tmp 6) 25 rfl Tryd.underlying25 u8zero w.heap.size u (lf (m.length : Int) 4) rfl O1.out _ _ _ rfl s1 (by rw [lf_length]; omega) hB ?_; intro vx w4 ox gx; have b4 := O1.out.grown gx hB)
  go_ret
  exact ⟨_, rfl, Below.trans e1 b4, ox⟩
end Go.Proofs.YtcdaecnpohfchaaDoor
