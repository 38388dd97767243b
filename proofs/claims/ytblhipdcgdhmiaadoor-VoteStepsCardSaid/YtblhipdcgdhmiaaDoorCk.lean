/- The contracts of the document's Num, Word and Bytes. -/
import Derived.Test.YtblhipdcgdhmiaaDoorCg
namespace Go.Proofs.YtblhipdcgdhmiaaDoor
open Go.RowKit Go.Sha

theorem lf4 (n : Nat) (hn : n ≤ 2147483647) : lf (n : Int) 4 = [(n : Int) % 256, (n : Int) / 256 % 256, (n : Int) / 65536 % 256, (n : Int) / 16777216] := by
  have h : (n : Int) / 16777216 = (n : Int) / 16777216 % 256 := by omega
  rw [h]
  show [(n : Int) / 2 ^ 0 % 256, (n : Int) / 2 ^ 8 % 256, (n : Int) / 2 ^ 16 % 256, (n : Int) / 2 ^ 24 % 256] = _
  rw [show (2 : Int) ^ 0 = 1 from rfl, Int.ediv_one]
  rfl
theorem refnum_any (n : Nat) (w : World) (hn : n ≤ 2147483647) : Calls Tryd.prog 24 #[.int .i64 (n : Int)] w (BPost w (lf (n : Int) 4)) := by
  go_enter Tryd.func24, Tryd.ntmps24
  go_wp2
  go_ret
  refine ⟨_, rfl, Ext.alloc w _, own_of_at (Nat.le_refl _) ?_ (lf_length _ 4) (by omega)⟩
  rw [lf4 n hn]
  exact At.new w _ 5
def InvW (w : World) (n : Int) (b i : Value) (wr : World) : Prop := ∃ k : Nat, k ≤ 8 ∧ i = .int .i64 k ∧ OwnB wr w.heap.size b (lf n k) ∧ Ext w wr
theorem src_one' (w : World) (x : Int) : Src (w.alloc (.cells #[.int .u8 x] 5)) (.slice (some ⟨w.heap.size, 0, none⟩) 1 1) [x] (w.heap.size + 1) :=
  Src.of_at (m := [x]) (At.new w _ 5) (by omega) 1 (by simp)
theorem refbytes_any (v : Value) (m : List Int) (b : Nat) (w : World) (hs : Src w v m b) (hm : m.length ≤ 1000000000) : Calls Tryd.prog 25 #[v] w (BPost w (encB m)) := by
  obtain ⟨ad, cap, rfl⟩ := hs.len
  have Hs := Lib.hid hs; clear hs
  go_enter Tryd.func25, Tryd.ntmps25
  go_wp2_with fail
  refine (refnum_any m.length w (by omega)).mono ?_
  rintro e w1 ⟨u, rfl, e1, o1⟩
  have s1 := Hs.out.now e1
  have hB := e1.size
  have O1 := Lib.hid o1; clear o1
  go_wp2_with (refine list_append_bytes rfl (.tmp 5) (.tmp 6) 22 rfl Tryd.underlying22 u8zero w.heap.size u (lf (m.length : Int) 4) rfl O1.out _ _ _ rfl s1 (by rw [lf_length]; omega) hB ?_; intro vx w4 ox gx; have b4 := O1.out.grown gx hB)
  go_ret
  exact ⟨_, rfl, Below.trans e1 b4, ox⟩
end Go.Proofs.YtblhipdcgdhmiaaDoor
