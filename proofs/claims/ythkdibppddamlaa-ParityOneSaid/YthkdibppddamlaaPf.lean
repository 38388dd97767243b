/- The walk of ParityOne: what is filled up with noughts. -/
import Derived.Test.YthkdibppddamlaaPe
import Derived.BigQuiet
namespace Go.Proofs.Ythkdibppddamlaa
open Go.RowKit Go.Sha
set_option linter.unusedSimpArgs false

/-- While noughts are put behind. -/
def InvFit (w : World) (m : List Int) (S : Nat) (v : Value) (wr : World) : Prop := ∃ k : Nat, m.length + k ≤ S ∧ OwnB wr w.heap.size v (m ++ List.replicate k 0) ∧ Ext w wr
def fitZ (a : List Int) (S : Nat) : List Int := a.take S ++ List.replicate (S - a.length) 0
theorem fitZ_length (a : List Int) (S : Nat) : (fitZ a S).length = S := by simp [fitZ]; omega

set_option maxHeartbeats 2000000 in
theorem fit_any (v : Value) (a : List Int) (S : Nat) (w : World) (hs : Src w v a w.heap.size) (h0 : 0 < a.length) (hl : a.length ≤ 1048576) (hS : 0 < S) (hS2 : S ≤ 1048576) : Calls Try.prog 12 #[v, .int .i64 S] w (BPost w (fitZ a S)) := by
  obtain ⟨ad, cap, sb, so, rfl, x2, x3, x4, x5, x6⟩ := hs
  obtain rfl := x3 h0
  have hm : (a.take S).length = min a.length S := by rw [List.length_take]; omega
  have hs2 : Src w (.slice (some ⟨sb, so, none⟩) (min a.length S) cap) (a.take S) w.heap.size := by
    refine ⟨_, cap, sb, so, by rw [hm], by rw [hm]; omega, fun _ => rfl, x4, fun j hj => ?_, fun h => by cases h⟩
    rw [hm] at hj
    rw [x5 j (by omega), List.getElem?_take_of_lt (by omega)]
  have e1 : Ext w (w.alloc (.cells #[] 5)) := Ext.alloc w _
  have s1 := hs2.now e1
  have hown := OwnB.made w
  have hB0 : w.heap.size ≤ (w.alloc (.cells #[] 5)).heap.size := by simp
  clear x3 x4 x5 x6 hs2
  by_cases hc : S < a.length
  · have hz : fitZ a S = a.take S := by rw [fitZ, Nat.sub_eq_zero_of_le (by omega)]; simp
    rw [hz]
    rw [Nat.min_eq_right (by omega)] at hm s1
    have Hm := Lib.hid hm; clear hm hz
    have c1 : (S : Int) < (a.length : Int) := by omega
    have c2 : S ≤ cap := by omega
    generalize a.take S = m at *
    generalize a.length = N at *
    go_enter Try.func12, Try.ntmps12
    go_wp2_with (refine list_append_bytes rfl (.tmp 6) (.tmp 12) 25 rfl Try.underlying25 u8zero w.heap.size (.slice (some ⟨w.heap.size, 0, none⟩) 0 0) [] rfl hown _ m _ rfl s1 (by rw [List.length_nil, Hm.out]; omega) hB0 ?_; intro vx w4 ox gx; have b4 := hown.grown gx hB0; rw [List.nil_append] at ox)
    go_loopw [5] (fun v wr => InvFit w m S v wr) (fun v _ => S - sliceLen v)
    case atStart => exact ⟨0, by rw [Hm.out]; omega, by simpa using ox, Below.trans e1 b4⟩
    case round =>
      obtain ⟨k, hk, ow, ex⟩ := hrel
      obtain ⟨adv, capv, rfl⟩ := ow.len
      have hlen : (m ++ List.replicate k (0 : Int)).length = S + k := by rw [List.length_append, Hm.out, List.length_replicate]
      rw [Hm.out] at hk
      obtain rfl : k = 0 := by omega
      rw [hlen, Nat.add_zero] at ow ⊢
      rw [List.replicate_zero, List.append_nil] at ow
      have i0 : ¬ ((S : Int) < (S : Int)) := by omega
      have OW := Lib.hid ow; clear ow hlen
      go_wp2
      go_ret
      exact ⟨_, rfl, ex, OW.out⟩
  · have hz : fitZ a S = a.take S ++ List.replicate (S - a.length) 0 := rfl
    rw [hz]
    rw [Nat.min_eq_left (by omega)] at hm s1
    have Hm := Lib.hid hm; clear hm hz
    have c1 : ¬ ((S : Int) < (a.length : Int)) := by omega
    generalize a.take S = m at *
    generalize a.length = N at *
    go_enter Try.func12, Try.ntmps12
    go_wp2_with (refine list_append_bytes rfl (.tmp 6) (.tmp 12) 25 rfl Try.underlying25 u8zero w.heap.size (.slice (some ⟨w.heap.size, 0, none⟩) 0 0) [] rfl hown _ m _ rfl s1 (by rw [List.length_nil, Hm.out]; omega) hB0 ?_; intro vx w4 ox gx; have b4 := hown.grown gx hB0; rw [List.nil_append] at ox)
    go_loopw [5] (fun v wr => InvFit w m S v wr) (fun v _ => S - sliceLen v)
    case atStart => exact ⟨0, by rw [Hm.out]; omega, by simpa using ox, Below.trans e1 b4⟩
    case round =>
      obtain ⟨k, hk, ow, ex⟩ := hrel
      obtain ⟨adv, capv, rfl⟩ := ow.len
      have hlen : (m ++ List.replicate k (0 : Int)).length = N + k := by rw [List.length_append, Hm.out, List.length_replicate]
      rw [Hm.out] at hk
      rw [hlen] at ow ⊢
      by_cases hlt : N + k < S
      · have i0 : ((N + k : Nat) : Int) < (S : Int) := by omega
        have d0 : decide (N + k < S) = true := by simpa using hlt
        have Hl := Lib.hid hlen; clear hlen
        have z0 := ex.size
        go_wp2_with (refine list_append_bytes rfl (.tmp 18) (.tmp 19) 25 rfl Try.underlying25 u8zero w.heap.size _ (m ++ List.replicate k 0) rfl (ow.ext (Ext.alloc wr (.cells #[.int .u8 0] 5))) _ [0] (wr.heap.size + 1) rfl (src_one wr 0 (wr.heap.size + 1) (by omega)) (by rw [Hl.out, List.length_singleton]; omega) (by rw [size_alloc]; omega) ?_; intro vy w6 oy gy; have b6 := (ow.ext (Ext.alloc wr (.cells #[.int .u8 0] 5))).grown gy (by rw [size_alloc]; omega))
        have e6 : Ext w w6 := Below.trans (ex.trans (Ext.alloc wr _)) b6
        rw [List.append_assoc, ← List.replicate_succ'] at oy
        obtain ⟨ady, capy, rfl⟩ := oy.len
        refine ⟨⟨k + 1, by rw [Hm.out]; omega, oy, e6⟩, ?_⟩
        simp [sliceLen, Hm.out]
        omega
      · have i0 : ¬ (((N + k : Nat) : Int) < (S : Int)) := by omega
        have d0 : decide (N + k < S) = false := by simp; omega
        have hkk : k = S - N := by omega
        have ow' : OwnB wr w.heap.size (.slice adv (N + k) capv) (m ++ List.replicate (S - N) 0) := by rw [← hkk]; exact ow
        have OW := Lib.hid ow'; clear ow ow' hlen hkk
        go_wp2
        go_ret
        exact ⟨_, rfl, ex, OW.out⟩
end Go.Proofs.Ythkdibppddamlaa
