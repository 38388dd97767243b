/- The contract of 'awake': what the document fixes. -/
import Derived.Test.YtpbhccejcjichaaDoorWg
import Derived.Lib.SlBytesConst
namespace Go.Proofs.YtpbhccejcjichaaDoor
open Go.RowKit Go.Sha

set_option maxRecDepth 100000 in
theorem e0 : (shaL [])[0]?.getD 0 = 227 := by decide +kernel
set_option maxRecDepth 100000 in
theorem e3 : (shaL [])[3]?.getD 0 = 66 := by decide +kernel
set_option maxRecDepth 100000 in
theorem f0 : (shaL [97, 98, 99])[0]?.getD 0 = 186 := by decide +kernel
set_option maxRecDepth 100000 in
theorem f3 : (shaL [97, 98, 99])[3]?.getD 0 = 191 := by decide +kernel

theorem srcs_nil (w : World) : Srcs w (.slice none 0 0) [] := ⟨none, 0, 0, 0, rfl, fun h => absurd h (by simp), fun j x hx => by simp at hx⟩
theorem srcs_abc (w : World) (fr : Nat × Nat) : Srcs ((w.alloc (.cells #[.int .u8 97, .int .u8 98, .int .u8 99] 5 fr)).alloc (.cells #[.slice (some ⟨w.heap.size, 0, none⟩) 3 3] 25)) (.slice (some ⟨w.heap.size + 1, 0, none⟩) 1 1) [(.slice (some ⟨w.heap.size, 0, none⟩) 3 3, [97, 98, 99])] := by
  have a2 := At.new1 w (.cells #[.int .u8 97, .int .u8 98, .int .u8 99] 5 fr) #[.slice (some ⟨w.heap.size, 0, none⟩) 3 3] 25
  refine ⟨_, 1, w.heap.size + 1, 0, rfl, fun _ => rfl, fun j x hx => ?_⟩
  have hj : j = 0 := by have := (List.getElem?_eq_some_iff.1 hx).1; simp at this; exact this
  subst hj
  simp at hx
  subst hx
  refine ⟨by rw [a2.cell]; rfl, _, 3, w.heap.size, 0, rfl, by simp, fun _ => rfl, by simp; omega, fun j hj => ?_, fun h => by cases h⟩
  rw [World.cell?_alloc_lt _ _ _ (by simp), World.cell?_alloc_mark w _ 5 fr]
  have : j = 0 ∨ j = 1 ∨ j = 2 := by simp at hj; omega
  rcases this with rfl | rfl | rfl <;> rfl

set_option maxHeartbeats 1000000 in
set_option maxRecDepth 100000 in
theorem awake_any (w : World) (hK : KAt w) : Calls Tryd.prog 7 #[] w fun e w' => e = .returned (.bool true) ∧ Below w.heap.size w w' := by
  go_enter Tryd.func7, Tryd.ntmps7
  go_wp2_with fail
  refine (dsum_any _ [] w hK (srcs_nil w) (by simp [flat]) (by simp)).mono ?_
  rintro e w1 ⟨g1, rfl, hg1, b1, a1⟩
  have k1 := hK.below b1 hK.lt
  have hcv := Lib.run_convert_bytes_const (P := Tryd.prog) w1 25 5 #[.int .u8 97, .int .u8 98, .int .u8 99] 3 3 Tryd.underlying25 Tryd.underlying5
  have bb : Below w1.heap.size w1 ((w1.alloc (.cells #[.int .u8 97, .int .u8 98, .int .u8 99] 5 (3, 4))).alloc (.cells #[.slice (some ⟨w1.heap.size, 0, none⟩) 3 3] 25)) := ((Below.refl _ _).alloc (Nat.le_refl _) _).alloc (by simp) _
  go_wp2_with fail
  refine (dsum_any _ [(.slice (some ⟨w1.heap.size, 0, none⟩) 3 3, [97, 98, 99])] _ (k1.below bb k1.lt) (srcs_abc w1 _) (by simp [flat]) (by simp)).mono ?_
  rintro e w2 ⟨g2, rfl, hg2, b2, a2⟩
  have B1 := bb.trans (b2.mono (by simp; omega))
  have a1' := a1.below B1 a1.lt
  have c0 := a1'.get_bs 0 (by rw [shaL_length]; omega)
  have c3 := a1'.get_bs 3 (by rw [shaL_length]; omega)
  have d0 := a2.get_bs 0 (by rw [shaL_length]; omega)
  have d3 := a2.get_bs 3 (by rw [shaL_length]; omega)
  change _ = some (Value.int .u8 ((shaL [])[0]?.getD 0)) at c0
  change _ = some (Value.int .u8 ((shaL [])[3]?.getD 0)) at c3
  change _ = some (Value.int .u8 ((shaL [97, 98, 99])[0]?.getD 0)) at d0
  change _ = some (Value.int .u8 ((shaL [97, 98, 99])[3]?.getD 0)) at d3
  rw [e0] at c0
  rw [e3] at c3
  rw [f0] at d0
  rw [f3] at d3
  have BB : Below w.heap.size w w2 := b1.trans (B1.mono b1.size)
  clear a1 a2 a1' hcv bb b1 b2 B1 hg1 hg2 k1
  go_wp2_with (first | (go_at_call 11; (with_reducible refine (sum_nil _).mono ?_); rintro e w' ⟨rfl, rfl⟩) | (go_at_call 12; (with_reducible refine (len_nil _).mono ?_); rintro e w' ⟨rfl, rfl⟩) | (go_at_call 14; (with_reducible refine (copy_nil _).mono ?_); rintro e w' ⟨rfl, rfl⟩))
  go_ret
  exact ⟨rfl, BB⟩

end Go.Proofs.YtpbhccejcjichaaDoor
