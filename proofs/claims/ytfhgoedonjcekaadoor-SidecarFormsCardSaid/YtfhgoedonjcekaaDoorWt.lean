/- The contracts of above and copied (the code's). -/
import Derived.Test.YtfhgoedonjcekaaDoorWs
namespace Go.Proofs.YtfhgoedonjcekaaDoor
open Go.RowKit Go.Sha
set_option linter.unusedSimpArgs false

/-- While the next level is made. -/
def InvU (w : World) (A : Nat → Prop) (ls : List (List Int)) (l i : Value) (wr : World) : Prop :=
  ∃ (j : Nat) (ps : List (Value × List Int)), 2 * j ≤ ls.length + 1 ∧ i = .int .i64 ((2 * j : Nat) : Int) ∧ ps.length ≤ j ∧ ps.map (·.2) = upL (ls.take (2 * j)) ∧ OwnL wr w.heap.size l ps A ∧ Ext w wr
theorem lr_get {w : World} {v : Value} {ls : List (List Int)} {bh : Nat} (h : LR w v ls bh) (h0 : 0 < ls.length) : ∃ cap pb po, v = .slice (some ⟨pb, po, none⟩) ls.length cap ∧ pb ≠ bh ∧ ∀ j m, ls[j]? = some m → ∃ x, w.cell? ⟨pb, po + j, none⟩ = some x ∧ Src w x m bh := by
  obtain ⟨ad, cap, pb, po, rfl, h1, h2, h3⟩ := h
  obtain rfl := h1 h0
  exact ⟨cap, pb, po, rfl, h2, h3⟩

set_option maxHeartbeats 2000000 in
set_option maxRecDepth 100000 in
theorem above_any (v : Value) (ls : List (List Int)) (w : World) (hK : KAt w) (hs : LR w v ls w.heap.size) (h0 : 0 < ls.length) (hl : ls.length ≤ 1000000) (hb : ∀ m ∈ ls, m.length ≤ 1000000) : Calls Tryd.prog 66 #[v] w (LPost w (upL ls)) := by
  obtain ⟨cap, pb, po, ev, hpb, hc⟩ := lr_get hs h0
  subst ev
  have HC := Lib.hid hc; clear hc hs
  have Hbd := Lib.hid hb; clear hb
  obtain ⟨N, hN⟩ : ∃ N, N = ls.length := ⟨_, rfl⟩
  rw [← hN] at hl h0 ⊢
  have HN := Lib.hid hN; clear hN
  go_enter Tryd.func66, Tryd.ntmps66
  go_wp2
  go_loopw [3, 4] (fun l i wr => InvU w (Old w) ls l i wr) (fun _ i _ => N + 2 - (intOf i).toNat)
  case atStart => exact ⟨0, [], by omega, rfl, by simp, by simp [upL], OwnG.nil _ _ _ _ _, Ext.refl w⟩
  case round =>
    obtain ⟨j, ps, hj, rfl, hpl, hps, ow, ex⟩ := hrel
    rw [← HN.out] at hj
    obtain ⟨K, hK2⟩ : ∃ K, K = 2 * j := ⟨_, rfl⟩
    rw [← hK2] at hps hj ⊢
    have HK := Lib.hid hK2; clear hK2
    obtain ⟨adl, capl, el⟩ := ow.len
    subst el
    obtain ⟨q, hq⟩ : ∃ q, q = ps.length := ⟨_, rfl⟩
    rw [← hq] at ow ⊢
    have Hq := Lib.hid hq; clear hq
    have kr := hK.below ex hK.lt
    by_cases hlt : K < N
    · have i0 : (K : Int) < (N : Int) := by omega
      have i1 : (0 : Int) ≤ (K : Int) := by omega
      obtain ⟨m1, hm1⟩ : ∃ m, ls[K]? = some m := ⟨_, List.getElem?_eq_getElem (by rw [← HN.out]; exact hlt)⟩
      obtain ⟨x1, c1, s1⟩ := HC.out K m1 hm1
      have hpw : pb < w.heap.size := World.block_lt_of_cell? w _ c1
      have l1 := Hbd.out m1 (List.mem_of_getElem? hm1)
      have Hm1 := Lib.hid hm1; clear hm1
      by_cases hlt2 : K + 1 < N
      · obtain ⟨K1, hK1⟩ : ∃ K1, K1 = K + 1 := ⟨_, rfl⟩
        have i2 : (K : Int) + 1 < (N : Int) := by omega
        have i3 : (K1 : Int) < (N : Int) := by omega
        have i4 : (0 : Int) ≤ (K1 : Int) := by omega
        have e1 : (K : Int) + 1 = ((K1 : Nat) : Int) := by omega
        have wr1 : IntKind.i64.wrap ((K1 : Nat) : Int) = (K1 : Int) := IntWalk.i64_in _ (by omega)
        obtain ⟨m2, hm2⟩ : ∃ m, ls[K1]? = some m := ⟨_, List.getElem?_eq_getElem (by rw [← HN.out, hK1]; exact hlt2)⟩
        obtain ⟨x2, c2, s2⟩ := HC.out K1 m2 hm2
        have l2 := Hbd.out m2 (List.mem_of_getElem? hm2)
        have Hm2 := Lib.hid hm2; clear hm2
        have hc1 : ∀ w', Below w.heap.size w w' → w'.cell? ⟨pb, po + K, none⟩ = some x1 := fun w' h => by rw [h.cell (p := ⟨pb, po + K, none⟩) hpw]; exact c1
        have hc2 : ∀ w', Below w.heap.size w w' → w'.cell? ⟨pb, po + K1, none⟩ = some x2 := fun w' h => by rw [h.cell (p := ⟨pb, po + K1, none⟩) hpw]; exact c2
        have HC1 := Lib.hid hc1; clear hc1 c1
        have HC2 := Lib.hid hc2; clear hc2 c2
        have HK1 := Lib.hid hK1; clear hK1
        go_wp2
        refine wp_region_held (S := Below w.heap.size w) (by kernel_rfl) ?_
        change wpAnyH _ _ _ _ _ _ _ _ wr.drew
        have S0 : Below w.heap.size w wr.drew := Below.drew ex
        have ow0 : OwnL wr.drew w.heap.size (.slice adl q capl) ps (Old w) := ow.ext src_kept (Below.drew (Below.refl _ _))
        have k0 : KAt wr.drew := kr
        clear ow kr ex
        generalize wr.drew = W at *
        refine takeS 0 (some 16) (Value.slice adl q capl) rfl rfl (by kernel_rfl) (by kernel_rfl) (by kernel_rfl) (fun _ _ _ h => h) rfl S0 (fun w' hw' => by go_simp) ?_
        simp only [Act.put, List.setIfInBounds_toArray, List.set_cons_zero, List.set_cons_succ]
        refine takeS 1 (some 17) (Value.slice (some ⟨pb, po, none⟩) N cap) rfl rfl (by kernel_rfl) (by kernel_rfl) (by kernel_rfl) (fun _ _ _ h => h) rfl S0 (fun w' hw' => by go_simp) ?_
        simp only [Act.put, List.setIfInBounds_toArray, List.set_cons_zero, List.set_cons_succ]
        refine takeS 2 (some 18) (.int .i64 (K : Int)) rfl rfl (by kernel_rfl) (by kernel_rfl) (by kernel_rfl) (fun _ _ _ h => h) rfl S0 (fun w' hw' => by go_simp) ?_
        simp only [Act.put, List.setIfInBounds_toArray, List.set_cons_zero, List.set_cons_succ]
        refine takeS 3 (some 19) (.pointer (some ⟨pb, po + K, none⟩)) rfl rfl (by kernel_rfl) (by kernel_rfl) (by kernel_rfl) (fun _ _ _ h => h) rfl S0 (fun w' hw' => by go_simp) ?_
        simp only [Act.put, List.setIfInBounds_toArray, List.set_cons_zero, List.set_cons_succ]
        refine takeS 4 (some 20) (x1) rfl rfl (by kernel_rfl) (by kernel_rfl) (by kernel_rfl) (fun _ _ _ h => h) rfl S0 (fun w' hw' => by have c1 := HC1.out w' hw'; go_simp) ?_
        simp only [Act.put, List.setIfInBounds_toArray, List.set_cons_zero, List.set_cons_succ]
        refine takeS 5 (some 21) (Value.slice (some ⟨pb, po, none⟩) N cap) rfl rfl (by kernel_rfl) (by kernel_rfl) (by kernel_rfl) (fun _ _ _ h => h) rfl S0 (fun w' hw' => by go_simp) ?_
        simp only [Act.put, List.setIfInBounds_toArray, List.set_cons_zero, List.set_cons_succ]
        refine takeS 6 (some 22) (.int .i64 (K : Int)) rfl rfl (by kernel_rfl) (by kernel_rfl) (by kernel_rfl) (fun _ _ _ h => h) rfl S0 (fun w' hw' => by go_simp) ?_
        simp only [Act.put, List.setIfInBounds_toArray, List.set_cons_zero, List.set_cons_succ]
        refine takeS 7 (some 23) (.int .i64 ((K1 : Nat) : Int)) rfl rfl (by kernel_rfl) (by kernel_rfl) (by kernel_rfl) (fun _ _ _ h => h) rfl S0 (fun w' hw' => by go_simp) ?_
        simp only [Act.put, List.setIfInBounds_toArray, List.set_cons_zero, List.set_cons_succ]
        refine takeS 8 (some 24) (.pointer (some ⟨pb, po + K1, none⟩)) rfl rfl (by kernel_rfl) (by kernel_rfl) (by kernel_rfl) (fun _ _ _ h => h) rfl S0 (fun w' hw' => by go_simp) ?_
        simp only [Act.put, List.setIfInBounds_toArray, List.set_cons_zero, List.set_cons_succ]
        refine takeS 9 (some 25) (x2) rfl rfl (by kernel_rfl) (by kernel_rfl) (by kernel_rfl) (fun _ _ _ h => h) rfl S0 (fun w' hw' => by have c2 := HC2.out w' hw'; go_simp) ?_
        simp only [Act.put, List.setIfInBounds_toArray, List.set_cons_zero, List.set_cons_succ]
        have sA := s1.of_below (S0 : Ext w W) S0.size
        have sB := s2.of_below (S0 : Ext w W) S0.size
        refine nextS 10 rfl (by kernel_rfl) rfl (callS (some 26) rfl 85 #[x1, x2] (by go_simp) (fun v w' => Ext W w' ∧ OwnB w' W.heap.size v (pairL m1 m2)) ((pair_any x1 x2 m1 m2 W k0 sA sB (by omega) (by omega)).mono fun _ _ h => h) ?_)
        rintro v2 W2 ⟨e2, o2⟩
        simp only [Act.put, List.setIfInBounds_toArray, List.set_cons_zero, List.set_cons_succ]
        have hsx := new_src o2 ow0 S0
        obtain ⟨ad2, cap2, ev2⟩ := o2.len
        subst ev2
        have ow2 := ow0.ext src_kept e2
        have S2 : Below w.heap.size w W2 := Ext.trans S0 e2
        have hsy := src_one_more (x := .slice ad2 (pairL m1 m2).length cap2) (t := 22) hsx
        clear hsx o2 ow0 k0 sA sB e2
        refine ⟨S2, ?_⟩
        refine nextS 11 rfl (by kernel_rfl) rfl (makeS (some 27) rfl (.slice (some ⟨W2.heap.size, 0, none⟩) 1 1) (w1 := W2.alloc (.cells #[.slice ad2 (pairL m1 m2).length cap2] 22)) (by go_simp) ?_)
        simp only [Act.put, List.setIfInBounds_toArray, List.set_cons_zero, List.set_cons_succ]
        have S3 : Below w.heap.size w (W2.alloc (.cells #[.slice ad2 (pairL m1 m2).length cap2] 22)) := Ext.trans S2 (Ext.alloc W2 _)
        refine ⟨S3, ?_⟩
        refine nextS 12 rfl (by kernel_rfl) rfl (wp_append_g src_kept (.tmp 16) (.tmp 27) 24 rfl (.slice none 0 0) 24 Tryd.underlying24 u22zero rfl (by omega) w.heap.size (.slice adl q capl) ps (Old w) rfl (own_one src_kept ow2 _ 22) W2.heap.size 1 _ (pairL m1 m2) rfl (cell_one W2 _ 22) rfl hsy (by have := Hq.out; have := HK.out; omega) S3.size ?_)
        intro v3 W3 o3 b3
        simp only [Act.put, List.setIfInBounds_toArray, List.set_cons_zero, List.set_cons_succ]
        have S4 : Below w.heap.size w W3 := Below.trans S3 b3
        refine ⟨S4, ?_⟩
        refine takeS 13 (some 3) v3 rfl rfl (by kernel_rfl) (by kernel_rfl) (by kernel_rfl) (fun _ _ _ h => h) rfl S4 (fun w' hw' => by go_simp) ?_
        simp only [Act.put, List.setIfInBounds_toArray, List.set_cons_zero, List.set_cons_succ]
        refine wpAnyH_done (by kernel_rfl) ?_ _
        go_wp2
        refine ⟨⟨j + 1, _, by rw [← HN.out]; have := HK.out; omega, by have := HK.out; go_num, by have := Hq.out; simp; omega, ?_, o3, S4⟩, by simp [intOf]; omega⟩
        rw [List.map_append, hps, HK.out, show 2 * (j + 1) = 2 * j + 2 by omega, upL_pair j ls m1 m2 (by rw [← HK.out]; exact Hm1.out) (by rw [← HK.out, ← HK1.out]; exact Hm2.out)]
        rfl
      · have eN : N = K + 1 := by omega
        have i2 : ¬ ((K : Int) + 1 < (N : Int)) := by omega
        have d2 : decide ((K : Int) + 1 < (N : Int)) = false := by simp; omega
        have c1' : wr.cell? ⟨pb, po + K, none⟩ = some x1 := by rw [Below.cell (p := ⟨pb, po + K, none⟩) ex hpw]; exact c1
        have sA := s1.now ex
        have HeN := Lib.hid eN; clear eN hlt2
        go_wp2_with fail
        refine (clone_any x1 m1 wr sA (by omega)).mono ?_
        rintro e W2 ⟨v2, rfl, e2, o2⟩
        have hsx := new_src o2 ow ex
        obtain ⟨ad2, cap2, ev2⟩ := o2.len
        subst ev2
        have ow2 := ow.ext src_kept e2
        have S2 : Below w.heap.size w W2 := Ext.trans ex e2
        have hsy := src_one_more (x := .slice ad2 m1.length cap2) (t := 22) hsx
        have S3 : Below w.heap.size w (W2.alloc (.cells #[.slice ad2 m1.length cap2] 22)) := Ext.trans S2 (Ext.alloc W2 _)
        clear hsx o2 ow kr sA e2 c1'
        go_wp2_with (refine list_append_g src_kept rfl (.tmp 29) (.tmp 35) 24 rfl (.slice none 0 0) 24 Tryd.underlying24 u22zero rfl (by omega) w.heap.size (.slice adl q capl) ps (Old w) rfl (own_one src_kept ow2 _ 22) W2.heap.size 1 _ m1 rfl (cell_one W2 _ 22) rfl hsy (by have := Hq.out; have := HK.out; omega) S3.size ?_; intro v3 w3 o3 b3)
        have S4 : Below w.heap.size w w3 := Below.trans S3 b3
        refine ⟨⟨j + 1, _, by rw [← HN.out]; have := HK.out; have := HeN.out; omega, by have := HK.out; go_num, by have := Hq.out; simp; omega, ?_, o3, S4⟩, by simp [intOf]; omega⟩
        rw [List.map_append, hps, HK.out, List.take_of_length_le (i := 2 * (j + 1)) (by rw [← HN.out]; have := HK.out; have := HeN.out; omega), upL_last j ls m1 (by rw [← HK.out]; exact Hm1.out) (by rw [← HN.out]; have := HK.out; have := HeN.out; omega)]
        rfl
    · have i0 : ¬ ((K : Int) < (N : Int)) := by omega
      have d0 : decide ((K : Int) < (N : Int)) = false := by simp; omega
      have hp : ps.map (·.2) = upL ls := by rw [hps, List.take_of_length_le (by rw [← HN.out]; omega)]
      clear hlt
      go_wp2
      go_ret
      exact own_lpost ow ex hp
end Go.Proofs.YtfhgoedonjcekaaDoor
