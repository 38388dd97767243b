/- The contracts of Lists and of what the document fixes. -/
import Derived.Test.YthkdibppddamlaaDoorPd
namespace Go.Proofs.YthkdibppddamlaaDoor
open Go.RowKit Go.Sha
set_option linter.unusedSimpArgs false

theorem belowN {B : Nat} {a w : World} (h : Below B a w) (n : Nat) : Below B a (w.drewN n) := ⟨h.os, h.tape, h.output, h.size, h.block⟩
theorem convB {w : World} {v : Value} {m : List Int} {b : Nat} (h : Src w v m b) : (convert 22 9 v).run Tryd.prog w = .ok (.string (strOfNums m)) w := conv_src (P := Tryd.prog) 22 9 5 Tryd.underlying22 Tryd.underlying5 Tryd.underlying9 h

def InvC (w : World) (n : Nat) (i : Value) (wr : World) : Prop := ∃ k : Nat, k ≤ n ∧ i = .int .i64 k ∧ Ext w wr

set_option maxHeartbeats 1000000 in
theorem lists_any (v u : Value) (ls : List (List Int)) (w : World) (hv : LR w v ls w.heap.size) (hu : LR w u ls w.heap.size) (hl : ls.length ≤ 1000000000) : Calls Tryd.prog 13 #[v, u] w fun e w' => e = .returned (.bool true) ∧ Ext w w' := by
  obtain ⟨adv, capv, ev⟩ := hv.len
  subst ev
  obtain ⟨adu, capu, eu⟩ := hu.len
  subst eu
  obtain ⟨N, hN⟩ : ∃ N, N = ls.length := ⟨_, rfl⟩
  have t0 : ((N : Int) == (N : Int)) = true := by simp
  have HV := Lib.hid hv; clear hv
  have HU := Lib.hid hu; clear hu
  rw [← hN] at HV HU hl ⊢
  have HN := Lib.hid hN; clear hN
  go_enter Tryd.func13, Tryd.ntmps13
  go_wp2
  go_loopw [5] (fun i wr => InvC w N i wr) (fun i _ => N - (intOf i).toNat)
  case atStart => exact ⟨0, by omega, rfl, Ext.refl w⟩
  case round =>
    obtain ⟨k, hk, rfl, ex⟩ := hrel
    by_cases hlt : k < N
    · have i0 : (k : Int) < (N : Int) := by omega
      have i1 : (0 : Int) ≤ (k : Int) := by omega
      obtain ⟨m1, hm1⟩ : ∃ m, ls[k]? = some m := ⟨_, List.getElem?_eq_getElem (by rw [← HN.out]; exact hlt)⟩
      have hv := HV.out
      have hu := HU.out
      rw [HN.out] at hv hu
      obtain ⟨cap1, pb, po, ev1, _, hc1⟩ := lr_at hv (by rw [← HN.out]; omega)
      obtain ⟨cap2, qb, qo, ev2, _, hc2⟩ := lr_at hu (by rw [← HN.out]; omega)
      injection ev1 with a1 _ a2
      injection ev2 with a3 _ a4
      subst a1 a2 a3 a4
      obtain ⟨x1, c1, s1⟩ := hc1 k m1 hm1
      obtain ⟨x2, c2, s2⟩ := hc2 k m1 hm1
      have c1' : wr.cell? ⟨pb, po + k, none⟩ = some x1 := by rw [Below.cell (p := ⟨pb, po + k, none⟩) ex (World.block_lt_of_cell? w _ c1)]; exact c1
      have c2' : wr.cell? ⟨qb, qo + k, none⟩ = some x2 := by rw [Below.cell (p := ⟨qb, qo + k, none⟩) ex (World.block_lt_of_cell? w _ c2)]; exact c2
      have v1 : ∀ n, (convert 22 9 x1).run Tryd.prog (wr.drewN n) = .ok (.string (strOfNums m1)) (wr.drewN n) := fun n => convB (s1.ext (belowN ex n))
      have v2 : ∀ n, (convert 22 9 x2).run Tryd.prog (wr.drewN n) = .ok (.string (strOfNums m1)) (wr.drewN n) := fun n => convB (s2.ext (belowN ex n))
      clear hv hu hc1 hc2 c1 c2 s1 s2 HV HU hm1
      go_wp2
      go_quiet (fail)
      go_wp2
      refine ⟨⟨k + 1, by omega, by go_num, belowN ex _⟩, by simp [intOf]; omega⟩
    · have i0 : ¬ ((k : Int) < (N : Int)) := by omega
      have d0 : decide ((k : Int) < (N : Int)) = false := by simp; omega
      clear hlt
      go_wp2
      go_ret
      exact ⟨rfl, ex⟩


theorem ab1 : buildL [1, 2, 3] 1 8 = [[0]] := by decide +kernel
theorem ab2 : fitsL [[0]] 3 1 8 = true := by decide +kernel
theorem ab3 : updL [[0]] [1, 2, 3] [1, 2, 7] 1 8 = [[4]] := by decide +kernel
theorem ab4 : fitsL [] 1 1 8 = false := by decide +kernel
theorem ab5 : grpsN 9 1 8 = 2 := by decide +kernel

set_option maxHeartbeats 4000000 in
theorem awake_any (w : World) : Calls Tryd.prog 6 #[] w fun e w' => e = .returned (.bool true) ∧ Ext w w' := by
  have e1 : Ext w (w.alloc (.cells #[.int .u8 1, .int .u8 2, .int .u8 3] 5)) := Ext.alloc w _
  have s1 : Src (w.alloc (.cells #[.int .u8 1, .int .u8 2, .int .u8 3] 5)) (.slice (some ⟨w.heap.size, 0, none⟩) 3 3) [1, 2, 3] (w.alloc (.cells #[.int .u8 1, .int .u8 2, .int .u8 3] 5)).heap.size := Src.of_at (m := [1, 2, 3]) (At.new w _ 5) (by rw [size_alloc]; omega) 3 (by simp)
  go_enter Tryd.func6, Tryd.ntmps6
  go_wp2_with fail
  refine (build_any _ [1, 2, 3] 1 8 _ s1 (by simp)).mono ?_
  rintro e w1 ⟨p, rfl, e2, l1⟩
  rw [ab1] at l1
  replace l1 := l1 w1.heap.size (Or.inr (Nat.le_refl _))
  replace e1 := e1.trans e2
  clear s1 e2
  obtain ⟨capp, pb, po, rfl, _, hp⟩ := lr_at l1 (by simp)
  obtain ⟨x0, c0, sx0⟩ := hp 0 [0] rfl
  obtain ⟨adx, capx, xb, xo, rfl, _, y3, _, y5, _⟩ := sx0
  obtain rfl := y3 (by simp)
  have y0 : w1.cell? ⟨xb, xo, none⟩ = some (.int .u8 0) := y5 0 (by simp)
  replace c0 : w1.cell? ⟨pb, po, none⟩ = some (.slice (some ⟨xb, xo, none⟩) 1 capx) := c0
  clear y3 y5 hp
  have o1 : Ext w1 (w1.alloc (.cells #[.int .u8 1, .int .u8 2, .int .u8 3] 5)) := Ext.alloc w1 _
  have o2 : Ext (w1.alloc (.cells #[.int .u8 1, .int .u8 2, .int .u8 3] 5)) ((w1.alloc (.cells #[.int .u8 1, .int .u8 2, .int .u8 3] 5)).alloc (.cells #[.int .u8 1, .int .u8 2, .int .u8 7] 5)) := Ext.alloc _ _
  have s1 : Src ((w1.alloc (.cells #[.int .u8 1, .int .u8 2, .int .u8 3] 5)).alloc (.cells #[.int .u8 1, .int .u8 2, .int .u8 7] 5)) (.slice (some ⟨w1.heap.size, 0, none⟩) 3 3) [1, 2, 3] ((w1.alloc (.cells #[.int .u8 1, .int .u8 2, .int .u8 3] 5)).alloc (.cells #[.int .u8 1, .int .u8 2, .int .u8 7] 5)).heap.size := (Src.of_at (m := [1, 2, 3]) (bh := w1.heap.size + 1) (At.new w1 _ 5) (by omega) 3 (by simp)).now o2
  have s2 : Src ((w1.alloc (.cells #[.int .u8 1, .int .u8 2, .int .u8 3] 5)).alloc (.cells #[.int .u8 1, .int .u8 2, .int .u8 7] 5)) (.slice (some ⟨w1.heap.size + 1, 0, none⟩) 3 3) [1, 2, 7] ((w1.alloc (.cells #[.int .u8 1, .int .u8 2, .int .u8 3] 5)).alloc (.cells #[.int .u8 1, .int .u8 2, .int .u8 7] 5)).heap.size := Src.of_at (m := [1, 2, 7]) (At.new1 w1 (.cells #[.int .u8 1, .int .u8 2, .int .u8 3] 5) _ 5) (by rw [size_alloc, size_alloc]; omega) 3 (by simp)
  have o3 := o1.trans o2
  have l2 := l1.now o3
  clear o1 o2 l1
  go_wp2_with fail
  refine (update_ok _ _ _ [[0]] [1, 2, 3] [1, 2, 7] 1 8 _ l2 (by simp) s1 s2 (by simp) (by simp) ab2).mono ?_
  rintro e w2 ⟨q, rfl, e2, l3⟩
  rw [ab3] at l3
  replace l3 := l3 w2.heap.size (Or.inr (Nat.le_refl _))
  have e12 := o3.trans e2
  replace e1 := e1.trans e12
  have c0' : w2.cell? ⟨pb, po, none⟩ = some (.slice (some ⟨xb, xo, none⟩) 1 capx) := by rw [Below.cell (p := ⟨pb, po, none⟩) e12 (World.block_lt_of_cell? w1 _ c0)]; exact c0
  have y0' : w2.cell? ⟨xb, xo, none⟩ = some (.int .u8 0) := by rw [Below.cell (p := ⟨xb, xo, none⟩) e12 (World.block_lt_of_cell? w1 _ y0)]; exact y0
  clear c0 y0 e12 o3 l2 s1 s2 e2
  obtain ⟨capq, qb, qo, rfl, _, hq⟩ := lr_at l3 (by simp)
  obtain ⟨x1, c1, sx1⟩ := hq 0 [4] rfl
  obtain ⟨ady, capy, yb, yo, rfl, _, y3, _, y5, _⟩ := sx1
  obtain rfl := y3 (by simp)
  have y1 : w2.cell? ⟨yb, yo, none⟩ = some (.int .u8 4) := y5 0 (by simp)
  replace c1 : w2.cell? ⟨qb, qo, none⟩ = some (.slice (some ⟨yb, yo, none⟩) 1 capy) := c1
  clear y3 y5 hq l3
  have o1 : Ext w2 (w2.alloc (.cells #[.int .u8 1] 5)) := Ext.alloc w2 _
  have s1 : Src (w2.alloc (.cells #[.int .u8 1] 5)) (.slice (some ⟨w2.heap.size, 0, none⟩) 1 1) [1] (w2.alloc (.cells #[.int .u8 1] 5)).heap.size := Src.of_at (m := [1]) (At.new w2 _ 5) (by rw [size_alloc]; omega) 1 (by simp)
  go_wp2_with fail
  refine (update_not _ _ _ [] [1] 1 8 _ _ (LR.nil _ _) (by simp) s1 ab4).mono ?_
  rintro e w3 ⟨q3, rfl, e2, _⟩
  have e23 := o1.trans e2
  replace e1 := e1.trans e23
  have c0 : w3.cell? ⟨pb, po, none⟩ = some (.slice (some ⟨xb, xo, none⟩) 1 capx) := by rw [Below.cell (p := ⟨pb, po, none⟩) e23 (World.block_lt_of_cell? w2 _ c0')]; exact c0'
  have y0 : w3.cell? ⟨xb, xo, none⟩ = some (.int .u8 0) := by rw [Below.cell (p := ⟨xb, xo, none⟩) e23 (World.block_lt_of_cell? w2 _ y0')]; exact y0'
  have c1' : w3.cell? ⟨qb, qo, none⟩ = some (.slice (some ⟨yb, yo, none⟩) 1 capy) := by rw [Below.cell (p := ⟨qb, qo, none⟩) e23 (World.block_lt_of_cell? w2 _ c1)]; exact c1
  have y1' : w3.cell? ⟨yb, yo, none⟩ = some (.int .u8 4) := by rw [Below.cell (p := ⟨yb, yo, none⟩) e23 (World.block_lt_of_cell? w2 _ y1)]; exact y1
  clear c0' y0' c1 y1 e23 o1 e2 s1
  go_wp2_with fail
  refine (groups_any 9 1 8 w3).mono ?_
  rintro e w4 ⟨rfl, rfl⟩
  rw [ab5]
  go_wp2
  go_ret
  exact ⟨rfl, e1⟩
end Go.Proofs.YthkdibppddamlaaDoor
