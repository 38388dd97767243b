/- The contract of 'awake' (what the document fixes). -/
import Derived.Test.YtcdaecnpohfchaaDoorCg
import Derived.Lib.SlBytesConst
import Derived.Handy
namespace Go.Proofs.YtcdaecnpohfchaaDoor
open Go.RowKit Go.Sha

/-- In a region that draws: an operation that is not wanted. -/
theorem skipS {P : Program} {ops : Array Oper} {Q : Exit → Act → World → Prop} {md : Region.Mode} {S : World → Prop} (i : Nat) (d : Option Tmp) {oi : Oper} {fuel : Nat} {listed : Array Bool} {a : Act} {w : World} (hi : ops[i]? = some oi) (hd : oi.dst = d)
    (hs : Region.noSelect ops = true) (hf : Region.free md ops listed i = true) (hr : (Region.ready md ops listed).contains i = true)
    (hQ : ∀ c a w, Q (.panic c) (a.put d undef) w → Q (.panic c) a w) (hw : Region.wanted oi (yielded ops a.tmps) = false) (hS : S w)
    (h : wpAnyH P md ops Q S fuel (listed.setIfInBounds i true) (a.put d undef) w) : wpAnyH P md ops Q S (fuel + 1) listed a w := by
  subst hd
  exact wpAnyH_take hi hs hf hr hQ (Or.inr ⟨hw, rfl⟩) hS h
set_option maxHeartbeats 1000000 in
set_option maxRecDepth 100000 in
theorem unseal_x (ad : Option Addr) (c : Nat) (w : World) : Calls Tryd.prog 25 #[.slice ad 1 c] w fun e w' => e = .returned (.tuple #[.slice none 0 0, .int .i64 2]) ∧ Ext w w' := by
  go_enter Tryd.func25, Tryd.ntmps25
  go_wp2
  refine wp_region_held (S := fun w' => Ext w w') (by kernel_rfl) ?_
  change wpAnyH _ _ _ _ _ _ _ _ (World.drew _)
  have hS : Ext w w.drew := ext_drew (Ext.refl w)
  refine takeS 0 (some 8) (.int .i64 (-31)) rfl rfl (by kernel_rfl) (by kernel_rfl) (by kernel_rfl) (fun _ _ _ h => h) rfl hS (fun _ _ => by go_simp) ?_
  simp only [Act.put, List.setIfInBounds_toArray, List.set_cons_zero, List.set_cons_succ]
  refine takeS 1 (some 9) (.bool true) rfl rfl (by kernel_rfl) (by kernel_rfl) (by kernel_rfl) (fun _ _ _ h => h) rfl hS (fun _ _ => by go_simp) ?_
  simp only [Act.put, List.setIfInBounds_toArray, List.set_cons_zero, List.set_cons_succ]
  refine takeS 2 (some 10) (.bool true) rfl rfl (by kernel_rfl) (by kernel_rfl) (by kernel_rfl) (fun _ _ _ h => h) rfl hS (fun _ _ => by go_simp) ?_
  simp only [Act.put, List.setIfInBounds_toArray, List.set_cons_zero, List.set_cons_succ]
  refine skipS 3 (some 11) rfl rfl (by kernel_rfl) (by kernel_rfl) (by kernel_rfl) (fun _ _ _ h => h) rfl hS ?_
  simp only [Act.put, List.setIfInBounds_toArray, List.set_cons_zero, List.set_cons_succ]
  refine skipS 4 (some 12) rfl rfl (by kernel_rfl) (by kernel_rfl) (by kernel_rfl) (fun _ _ _ h => h) rfl hS ?_
  simp only [Act.put, List.setIfInBounds_toArray, List.set_cons_zero, List.set_cons_succ]
  refine skipS 5 (some 13) rfl rfl (by kernel_rfl) (by kernel_rfl) (by kernel_rfl) (fun _ _ _ h => h) rfl hS ?_
  simp only [Act.put, List.setIfInBounds_toArray, List.set_cons_zero, List.set_cons_succ]
  refine skipS 6 (some 14) rfl rfl (by kernel_rfl) (by kernel_rfl) (by kernel_rfl) (fun _ _ _ h => h) rfl hS ?_
  simp only [Act.put, List.setIfInBounds_toArray, List.set_cons_zero, List.set_cons_succ]
  refine skipS 7 (some 15) rfl rfl (by kernel_rfl) (by kernel_rfl) (by kernel_rfl) (fun _ _ _ h => h) rfl hS ?_
  simp only [Act.put, List.setIfInBounds_toArray, List.set_cons_zero, List.set_cons_succ]
  refine skipS 8 (some 16) rfl rfl (by kernel_rfl) (by kernel_rfl) (by kernel_rfl) (fun _ _ _ h => h) rfl hS ?_
  simp only [Act.put, List.setIfInBounds_toArray, List.set_cons_zero, List.set_cons_succ]
  refine skipS 9 (some 17) rfl rfl (by kernel_rfl) (by kernel_rfl) (by kernel_rfl) (fun _ _ _ h => h) rfl hS ?_
  simp only [Act.put, List.setIfInBounds_toArray, List.set_cons_zero, List.set_cons_succ]
  refine skipS 10 (some 18) rfl rfl (by kernel_rfl) (by kernel_rfl) (by kernel_rfl) (fun _ _ _ h => h) rfl hS ?_
  simp only [Act.put, List.setIfInBounds_toArray, List.set_cons_zero, List.set_cons_succ]
  refine skipS 11 (some 19) rfl rfl (by kernel_rfl) (by kernel_rfl) (by kernel_rfl) (fun _ _ _ h => h) rfl hS ?_
  simp only [Act.put, List.setIfInBounds_toArray, List.set_cons_zero, List.set_cons_succ]
  refine skipS 12 (some 20) rfl rfl (by kernel_rfl) (by kernel_rfl) (by kernel_rfl) (fun _ _ _ h => h) rfl hS ?_
  simp only [Act.put, List.setIfInBounds_toArray, List.set_cons_zero, List.set_cons_succ]
  refine takeS 13 (some 21) (.bool true) rfl rfl (by kernel_rfl) (by kernel_rfl) (by kernel_rfl) (fun _ _ _ h => h) rfl hS (fun _ _ => by go_simp) ?_
  simp only [Act.put, List.setIfInBounds_toArray, List.set_cons_zero, List.set_cons_succ]
  refine wpAnyH_done (by kernel_rfl) ?_ _
  go_wp2
  go_ret2
  exact ⟨rfl, hS⟩

theorem wst_zero (w : World) (t : Array Value) (ht : t = (zeroW false).toArray) : WSt (w.alloc (.cells t 52)) w.heap.size (some []) := by
  subst ht
  exact ⟨[], [], .pointer none, rfl, by simp, ⟨List.length_replicate .., At.new w _ 52⟩, rfl⟩
def fiveB : List Int := [2, 1, 0, 0, 9]
theorem five_src (w : World) : Src (w.alloc (.cells #[.int .u8 2, .int .u8 1, .int .u8 0, .int .u8 0, .int .u8 9] 5)) (.slice (some ⟨w.heap.size, 0, none⟩) 5 5) fiveB (w.heap.size + 1) := by
  refine ⟨_, 5, w.heap.size, 0, rfl, by simp [fiveB], fun _ => rfl, by omega, fun j hj => ?_, fun h => by cases h⟩
  rw [(At.new w _ 5).cell]
  have : j = 0 ∨ j = 1 ∨ j = 2 ∨ j = 3 ∨ j = 4 := by simp [fiveB] at hj; omega
  rcases this with rfl | rfl | rfl | rfl | rfl <;> rfl
theorem five_byt : Byt fiveB := by
  intro x hx
  simp [fiveB] at hx
  omega
theorem lf258 : lf 258 4 = [2, 1, 0, 0] := by decide
theorem ext_only {w w0 w1 : World} {b : Nat} (he : Ext w w0) (ho : Only b w0 w1) (hb : w.heap.size ≤ b) : Ext w w1 := ho.below he hb he.size
theorem fits_nil (n : Nat) (h : n < 4611686018427387904) : Fits (some []) n := fun l hl => by injection hl with hl; subst hl; simpa using h
theorem wnum258 : wNum (some []) 258 = some [2, 1, 0, 0] := by decide
theorem rn1 : rNum fiveB 0 = (258, [9], 0) := by decide
theorem rn2 : rNum [9] 0 = (0, [], 2) := by decide
set_option maxHeartbeats 1000000 in
set_option maxRecDepth 100000 in
theorem awake_any (w : World) : Calls Tryd.prog 8 #[] w fun e w' => e = .returned (.bool true) ∧ Ext w w' := by
  have kc := fun (w : World) (C : Array Value) (n c : Nat) => Lib.run_convert_bytes_const (P := Tryd.prog) w 25 5 C n c Tryd.underlying25 Tryd.underlying5
  have zz := z52
  go_enter Tryd.func8, Tryd.ntmps8
  go_wp2_with fail
  refine (wnum_any w.heap.size (some []) 258 _ (wst_zero w _ rfl) (fits_nil 4 (by omega))).mono ?_
  rintro e w1 ⟨rfl, o1, h1⟩
  have E1 := ext_only (Ext.alloc w _) o1 (Nat.le_refl _)
  rw [wnum258] at h1
  clear o1 zz
  go_wp2_with fail
  refine (done_any w.heap.size _ w1 h1 (by simp)).mono ?_
  rintro e w2 ⟨v2, rfl, e2, o2⟩
  have E2 := E1.trans e2
  obtain ⟨g2, cap2, cur2, rfl, hg2, a2, c2⟩ := o2.block (by simp)
  have c20 : w2.cell? ⟨g2, 0, none⟩ = some (.int .u8 2) := by rw [a2.cell, c2 0 (by simp)]; rfl
  have c21 : w2.cell? ⟨g2, 1, none⟩ = some (.int .u8 1) := by rw [a2.cell, c2 1 (by simp)]; rfl
  have l2 : g2 < w2.heap.size := a2.lt
  clear e2 o2 h1 E1 a2 c2
  rw [show ([2, 1, 0, 0] : List Int).length = 4 from rfl]
  have s3 := five_src w2
  have e3 : Ext w2 (w2.alloc (.cells #[.int .u8 2, .int .u8 1, .int .u8 0, .int .u8 0, .int .u8 9] 5)) := Ext.alloc w2 _
  go_wp2_with fail
  refine (newr_any _ fiveB _ _ s3 (by simp [fiveB])).mono ?_
  rintro e w4 ⟨g4, rfl, e4, r4, hg4⟩
  have e24 := e3.trans e4
  have E4 := E2.trans e24
  have hgw : w.heap.size ≤ g4 := Nat.le_trans (E2.trans e3).size hg4
  have c40 : w4.cell? ⟨g2, 0, none⟩ = some (.int .u8 2) := by rw [← c20]; exact Below.cell e24 (p := ⟨g2, 0, none⟩) l2
  have c41 : w4.cell? ⟨g2, 1, none⟩ = some (.int .u8 1) := by rw [← c21]; exact Below.cell e24 (p := ⟨g2, 1, none⟩) l2
  have l4 : g2 < w4.heap.size := Nat.lt_of_lt_of_le l2 e24.size
  clear s3 e3 e4 c20 c21 e24 l2 E2
  go_wp2_with fail
  refine (unseal_x _ _ _).mono ?_
  rintro e w5 ⟨rfl, e5⟩
  have e45 : Ext w4 w5 := (Ext.alloc w4 _).trans e5
  have c50 : w5.cell? ⟨g2, 0, none⟩ = some (.int .u8 2) := by rw [← c40]; exact Below.cell e45 (p := ⟨g2, 0, none⟩) l4
  have c51 : w5.cell? ⟨g2, 1, none⟩ = some (.int .u8 1) := by rw [← c41]; exact Below.cell e45 (p := ⟨g2, 1, none⟩) l4
  have R5 := Lib.hid (r4.below e45)
  have E5 := E4.trans e45
  clear c40 c41 e5 e45 r4 E4 kc
  go_wp2_with fail
  refine (num_any g4 fiveB 0 w5 R5.out five_byt).mono ?_
  rw [rn1]
  rintro e w6 ⟨rfl, o6, r6⟩
  have R6 := Lib.hid r6
  have E6 := ext_only E5 o6 hgw
  clear r6 R5 c50 c51 E5 o6
  go_wp2_with fail
  refine (left_any g4 _ _ w6 R6.out).mono ?_
  rintro e w' ⟨rfl, rfl⟩
  go_wp2_with fail
  refine (num_any g4 _ _ w6 R6.out (by intro x hx; simp at hx; omega)).mono ?_
  rw [rn2]
  rintro e w7 ⟨rfl, o7, r7⟩
  have R7 := Lib.hid r7
  have E7 := ext_only E6 o7 hgw
  clear r7 R6 E6 o7
  go_wp2_with fail
  refine (err_any g4 _ _ w7 R7.out).mono ?_
  rintro e w' ⟨rfl, rfl⟩
  go_wp2_with fail
  refine (left_any g4 _ _ w7 R7.out).mono ?_
  rintro e w' ⟨rfl, rfl⟩
  go_wp2
  go_ret
  exact ⟨rfl, E7⟩
end Go.Proofs.YtcdaecnpohfchaaDoor
