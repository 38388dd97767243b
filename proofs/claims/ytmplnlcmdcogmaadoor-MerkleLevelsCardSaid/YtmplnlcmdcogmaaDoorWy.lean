/- The contract of 'awake' (what the document fixes), and of the sum of two lengths. -/
import Derived.Test.YtmplnlcmdcogmaaDoorWx
import Derived.Lib.SlBytesConst
import Derived.Handy
namespace Go.Proofs.YtmplnlcmdcogmaaDoor
open Go.RowKit Go.Sha
set_option linter.unusedSimpArgs false

theorem prove_len (L : List (List Int)) (h : L.length = 3) : (proveL L 2).length = 1 := by
  have h1 : (upL L).length = 2 := by rw [upL_length, h]
  have h2 : (upL (upL L)).length = 1 := by rw [upL_length, h1]
  rw [proveL_great L 2 (by omega), if_neg (by rw [h]; decide), List.nil_append, proveL_great (upL L) _ (by omega), if_pos (by rw [h1]; decide), proveL_small _ _ (by omega)]
  rfl
def abcde : List Int := [97, 98, 99, 100, 101]
theorem abcde_src (w : World) (fr : Nat × Nat) : Src (w.alloc (.cells #[.int .u8 97, .int .u8 98, .int .u8 99, .int .u8 100, .int .u8 101] 5 fr)) (.slice (some ⟨w.heap.size, 0, none⟩) 5 5) abcde (w.alloc (.cells #[.int .u8 97, .int .u8 98, .int .u8 99, .int .u8 100, .int .u8 101] 5 fr)).heap.size := by
  refine ⟨_, 5, w.heap.size, 0, rfl, by simp [abcde], fun _ => rfl, by simp, fun j hj => ?_, fun h => by cases h⟩
  rw [World.cell?_alloc_mark w _ 5 fr]
  have : j = 0 ∨ j = 1 ∨ j = 2 ∨ j = 3 ∨ j = 4 := by simp [abcde] at hj; omega
  rcases this with rfl | rfl | rfl | rfl | rfl <;> rfl
theorem leaves_len : (leavesL abcde 2).length = 3 := by simp [leavesL]; rfl
theorem leaves_bd (m : List Int) (B : Int) : ∀ x ∈ leavesL m B, x.length = 32 := by
  intro x hx
  simp only [leavesL, List.mem_map] at hx
  obtain ⟨k, _, rfl⟩ := hx
  exact leafL_length _
theorem block_e : (strOfNums (blockT abcde 2 2)).toList = [101] := by decide +kernel

set_option maxHeartbeats 1000000 in
set_option maxRecDepth 100000 in
theorem awake_any (w : World) (hK : KAt w) : Calls Tryd.prog 7 #[] w fun e w' => e = .returned (.bool true) ∧ Ext w w' := by
  have kc := fun (w : World) (C : Array Value) (n c : Nat) => Lib.run_convert_bytes_const (P := Tryd.prog) w 22 5 C n c Tryd.underlying22 Tryd.underlying5
  have e1 : Ext w (w.alloc (.cells #[.int .u8 97, .int .u8 98, .int .u8 99, .int .u8 100, .int .u8 101] 5 (5, 6))) := Ext.alloc w _
  have s1 := abcde_src w (5, 6)
  have k1 := hK.below e1 hK.lt
  go_enter Tryd.func7, Tryd.ntmps7
  go_wp2_with fail
  refine (leaves_any _ abcde 2 _ k1 s1 (by simp [abcde])).mono ?_
  rintro e w2 ⟨v2, rfl, e2, l2⟩
  have L2 := l2 _ (Or.inr (Nat.le_refl _))
  have k2 := k1.below e2 k1.lt
  have E2 := e1.trans e2
  have hb := leaves_bd abcde 2
  have hl := leaves_len
  clear e1 s1 k1 l2 e2
  obtain ⟨ad2, cap2, ev2⟩ := L2.len
  subst ev2
  rw [hl] at L2
  have Hb := Lib.hid hb; clear hb
  have Hl := Lib.hid hl; clear hl
  rw [Hl.out]
  go_wp2_with fail
  refine (prove_some _ (leavesL abcde 2) 2 w2 k2 L2 (by rw [Hl.out]; omega) (by rw [Hl.out]; omega) (fun m hm => by rw [Hb.out m hm]; omega)).mono ?_
  rintro e w3 ⟨v3, rfl, e3, l3⟩
  obtain ⟨ad3, cap3, ev3⟩ := l3.len
  rw [prove_len _ Hl.out] at ev3
  subst ev3
  have k3 := k2.below e3 k2.lt
  have L3 := L2.now e3
  have E3 := E2.trans e3
  clear l3 e3 L2 k2 E2
  go_wp2_with fail
  refine (prove_none _ (leavesL abcde 2) 3 w3 L3 (by rw [Hl.out]; omega)).mono ?_
  rintro e w4 ⟨v4, rfl, e4, l4⟩
  have k4 := k3.below e4 k3.lt
  have E4 := E3.trans e4
  clear l4 e4 L3 k3 E3
  go_wp2_with fail
  refine (cnt13 5 2 w4).mono ?_
  rintro e w' ⟨rfl, rfl⟩
  rw [show cntL 5 2 = 3 from rfl]
  have s5 := abcde_src w4 (5, 6)
  have e5 : Ext w4 (w4.alloc (.cells #[.int .u8 97, .int .u8 98, .int .u8 99, .int .u8 100, .int .u8 101] 5 (5, 6))) := Ext.alloc w4 _
  go_wp2_with fail
  refine (block_any _ abcde 2 2 _ s5 (by simp [abcde])).mono ?_
  rintro e w6 ⟨v6, rfl, e6, o6⟩
  have c6 := conv22 (o6.srcs w6.heap.size (Or.inr (Nat.le_refl _)))
  have E6 := (E4.trans e5).trans e6
  have k6 := hK.below E6 hK.lt
  have be := block_e
  clear s5 e5 k4 E4 e6 o6
  go_wp2_with fail
  refine (root_any _ [] w6 k6 (LR.nil w6 _) (by simp) (fun m hm => by simp at hm)).mono ?_
  rintro e w7 ⟨v7, rfl, e7, o7⟩
  obtain ⟨ad7, cap7, ev7⟩ := o7.len
  rw [show (rootL []).length = 32 from shaL_length _] at ev7
  subst ev7
  have E7 := E6.trans e7
  clear o7 e7 E6 c6 k6
  go_wp2
  go_ret
  exact ⟨rfl, E7⟩

set_option maxHeartbeats 1000000 in
theorem sum2_small (a : Nat) (g : Nat) (w : World) (h : a ≤ 1000) (h0 : w.cell? ⟨g, 0, none⟩ = some (.int .i64 0)) :
    Calls Tryd.prog 6 #[.int .i64 a, .slice (some ⟨g, 0, none⟩) 1 1] w fun e w' => e = .returned (.int .i64 a) ∧ w = w' := by
  have d1 : decide ((1099511627776 : Int) < (a : Int)) = false := by simp; omega
  have d2 : decide ((1099511627776 : Int) - (a : Int) < 0) = false := by simp; omega
  go_enter Tryd.func6, Tryd.ntmps6
  go_wp2
  go_rounds 2
  go_ret
  exact ⟨rfl, rfl⟩
end Go.Proofs.YtmplnlcmdcogmaaDoor
