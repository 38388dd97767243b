/- The contract of '(*Hasher).takeBlock': a full block goes into the chain. -/
import Derived.Test.YtblhipdcgdhmiaaDoorWc
import Derived.Deep.CutRange
namespace Go.Proofs.YtblhipdcgdhmiaaDoor
open Go.RowKit Go.Sha

theorem map_ws (l : List Int) : (l.map (Value.int .u32)).toArray = ws l := rfl
theorem map_bs_list (l : List Int) : (bs l).toList = l.map (Value.int .u8) := by simp [bs]
theorem map_bs (l : List Int) : (l.map (Value.int .u8)).toArray = bs l := rfl

theorem zerosB : (#[Value.int .u8 0, .int .u8 0, .int .u8 0, .int .u8 0, .int .u8 0, .int .u8 0, .int .u8 0, .int .u8 0, .int .u8 0, .int .u8 0, .int .u8 0, .int .u8 0, .int .u8 0, .int .u8 0, .int .u8 0, .int .u8 0, .int .u8 0, .int .u8 0, .int .u8 0, .int .u8 0, .int .u8 0, .int .u8 0, .int .u8 0, .int .u8 0, .int .u8 0, .int .u8 0, .int .u8 0, .int .u8 0, .int .u8 0, .int .u8 0, .int .u8 0, .int .u8 0, .int .u8 0, .int .u8 0, .int .u8 0, .int .u8 0, .int .u8 0, .int .u8 0, .int .u8 0, .int .u8 0, .int .u8 0, .int .u8 0, .int .u8 0, .int .u8 0, .int .u8 0, .int .u8 0, .int .u8 0, .int .u8 0, .int .u8 0, .int .u8 0, .int .u8 0, .int .u8 0, .int .u8 0, .int .u8 0, .int .u8 0, .int .u8 0, .int .u8 0, .int .u8 0, .int .u8 0, .int .u8 0, .int .u8 0, .int .u8 0, .int .u8 0, .int .u8 0] : Array Value) = bs (List.replicate 64 0) := by rfl

set_option maxHeartbeats 1000000 in
set_option maxRecDepth 100000 in
theorem take_any (b n k : Nat) (ch wt : List Int) (w : World) (hK : KAt w) (hb0 : b ≠ 0) (hn2 : n < 4611686018427387904) (h : Hat w b ch n wt k) :
    Calls Tryd.prog 58 #[.pointer (some ⟨b, 0, none⟩)] w fun e w' => e = .returned (.tuple #[]) ∧ Only b w w' ∧ Hat w' b (mixL (if n = 0 then iv else ch) wt) (n + 1) (List.replicate 64 0) 0 := by
  have HK := Lib.hid hK; clear hK
  have c8 := h.cell_n
  by_cases hn0 : n = 0
  · have t8 : ((n : Int) == 0) = true := beq_iff_eq.2 (by omega)
    rw [if_pos hn0]
    clear hn0
    go_enter Tryd.func58, Tryd.ntmps58
    go_wp2_with fail
    refine (first_any w).mono ?_
    rintro e w0 ⟨rfl, hb⟩
    have hA := h.below hb
    have oA : Only b w w0 := Only.of_below hb
    have t0 := hA.there 0 8 (by omega)
    clear h c8 hb
    go_upto_region 2 with (refine wpList_store_mid rfl 92 _ _ rfl b 0 (ws iv) rfl rfl t0 sz28 (ws_one _) ?_)
    replace hA := hA.set_ch iv iv_length
    change Code.wp _ _ _ _ (w0.setCells b 0 (iv.map (Value.int .u32)))
    replace oA := oA.trans (Only.cells b (iv.map (Value.int .u32)) 0 w0)
    simp only [Act.put]
    have kA := oA.k HK.out hb0
    generalize w0.setCells b 0 (iv.map (Value.int .u32)) = wA at *
    clear t0
    have s28 : (Tryd.prog.info? 92).map (·.size) = some (iv.map (Value.int .u32)).length := by rw [List.length_map, hA.h8]; exact sz28
    have s30 : (Tryd.prog.info? 94).map (·.size) = some (wt.map (Value.int .u8)).length := by rw [List.length_map, hA.h64]; exact sz30
    refine wp_region_any (by kernel_rfl) ?_
    change wpAny _ _ _ _ _ _ _ (World.drew _)
    refine take_at 0 (some 11) (.pointer (some ⟨b, 0, none⟩)) rfl rfl (by kernel_rfl) (by kernel_rfl) (by kernel_rfl) (fun _ _ _ h => h) rfl (fun _ => by go_simp) ?_
    simp only [Act.put, List.setIfInBounds_toArray, List.set_cons_zero, List.set_cons_succ]
    refine take_at 1 (some 12) (.pointer (some ⟨b, 0, none⟩)) rfl rfl (by kernel_rfl) (by kernel_rfl) (by kernel_rfl) (fun _ _ _ h => h) rfl (fun _ => by go_simp) ?_
    simp only [Act.put, List.setIfInBounds_toArray, List.set_cons_zero, List.set_cons_succ]
    refine take_at 2 (some 13) (.pointer (some ⟨b, 0, none⟩)) rfl rfl (by kernel_rfl) (by kernel_rfl) (by kernel_rfl) (fun _ _ _ h => h) rfl (fun _ => by go_simp) ?_
    simp only [Act.put, List.setIfInBounds_toArray, List.set_cons_zero, List.set_cons_succ]
    refine take_at 3 (some 14) (.pointer (some ⟨b, 0, none⟩)) rfl rfl (by kernel_rfl) (by kernel_rfl) (by kernel_rfl) (fun _ _ _ h => h) rfl (fun _ => by go_simp) ?_
    simp only [Act.put, List.setIfInBounds_toArray, List.set_cons_zero, List.set_cons_succ]
    refine take_at 5 (some 16) (.pointer (some ⟨b, 0, none⟩)) rfl rfl (by kernel_rfl) (by kernel_rfl) (by kernel_rfl) (fun _ _ _ h => h) rfl (fun _ => by go_simp) ?_
    simp only [Act.put, List.setIfInBounds_toArray, List.set_cons_zero, List.set_cons_succ]
    refine take_at 6 (some 17) (.pointer (some ⟨b, 0, none⟩)) rfl rfl (by kernel_rfl) (by kernel_rfl) (by kernel_rfl) (fun _ _ _ h => h) rfl (fun _ => by go_simp) ?_
    simp only [Act.put, List.setIfInBounds_toArray, List.set_cons_zero, List.set_cons_succ]
    refine take_at 7 (some 18) (.pointer (some ⟨b, 9, none⟩)) rfl rfl (by kernel_rfl) (by kernel_rfl) (by kernel_rfl) (fun _ _ _ h => h) rfl (fun _ => by go_simp) ?_
    simp only [Act.put, List.setIfInBounds_toArray, List.set_cons_zero, List.set_cons_succ]
    refine next_two 4 8 rfl rfl (by kernel_rfl) rfl rfl (fun K hK => ?_) (fun K hK => ?_)
    all_goals
      first
      | (refine at_load_mid (some 15) rfl 92 _ rfl b 0 rfl _ _ hA.drew.range_ch Tryd.underlying92 rfl s28 ?_; refine hK _ _ ?_; clear hK K; simp only [Act.put, List.setIfInBounds_toArray, List.set_cons_zero, List.set_cons_succ]; refine next_one 8 rfl (by kernel_rfl) rfl (fun K hK => ?_); refine at_load_mid (some 19) rfl 94 _ rfl b 9 rfl _ _ hA.drew.range_wt Tryd.underlying94 rfl s30 ?_; refine hK _ _ ?_; clear hK K; simp only [Act.put, List.setIfInBounds_toArray, List.set_cons_zero, List.set_cons_succ])
      | (refine at_load_mid (some 19) rfl 94 _ rfl b 9 rfl _ _ hA.drew.range_wt Tryd.underlying94 rfl s30 ?_; refine hK _ _ ?_; clear hK K; simp only [Act.put, List.setIfInBounds_toArray, List.set_cons_zero, List.set_cons_succ]; refine next_one 4 rfl (by kernel_rfl) rfl (fun K hK => ?_); refine at_load_mid (some 15) rfl 92 _ rfl b 0 rfl _ _ hA.drew.range_ch Tryd.underlying92 rfl s28 ?_; refine hK _ _ ?_; clear hK K; simp only [Act.put, List.setIfInBounds_toArray, List.set_cons_zero, List.set_cons_succ])
      refine next_one 9 rfl (by kernel_rfl) rfl (fun K hK => ?_)
      refine at_call (some 20) rfl 63 #[.agg (ws iv), .agg (bs wt)] (fun _ => by go_simp; exact ⟨rfl, rfl⟩) (fun v w' => v = .agg (ws (mixL iv wt)) ∧ Below wA.drew.heap.size wA.drew w') ((mix_any iv wt wA.drew hA.h8 hA.h64 kA).mono fun e w' he => ⟨_, he.1, rfl, he.2⟩) ?_
      rintro v w1 ⟨rfl, hb1⟩
      refine hK _ _ ?_; clear hK K; simp only [Act.put, List.setIfInBounds_toArray, List.set_cons_zero, List.set_cons_succ]
      have h1 := hA.drew.below hb1
      have o1 : Only b w w1 := oA.drew.trans (Only.of_below hb1)
      refine take_at 10 (some 21) (.pointer (some ⟨b, 0, none⟩)) rfl rfl (by kernel_rfl) (by kernel_rfl) (by kernel_rfl) (fun _ _ _ h => h) rfl (fun _ => by go_simp) ?_
      simp only [Act.put, List.setIfInBounds_toArray, List.set_cons_zero, List.set_cons_succ]
      refine take_at 11 (some 22) (.pointer (some ⟨b, 0, none⟩)) rfl rfl (by kernel_rfl) (by kernel_rfl) (by kernel_rfl) (fun _ _ _ h => h) rfl (fun _ => by go_simp) ?_
      simp only [Act.put, List.setIfInBounds_toArray, List.set_cons_zero, List.set_cons_succ]
      refine next_one 12 rfl (by kernel_rfl) rfl (fun K hK => ?_)
      refine at_store_mid rfl 92 _ _ rfl b 0 (ws (mixL iv wt)) rfl rfl (by rw [ws_size, mixL_length]; exact h1.there 0 8 (by omega)) sz28 (ws_one _) ?_
      refine hK _ _ ?_
      clear hK K
      refine wpAny_done (by kernel_rfl) ?_ _
      have h2 := h1.set_ch (mixL iv wt) (mixL_length _ _)
      have o2 := o1.trans (Only.cells b (ws (mixL iv wt)).toList 0 w1)
      change Hat (w1.setCells b 0 (ws (mixL iv wt)).toList) b _ _ _ _ at h2
      generalize w1.setCells b 0 (ws (mixL iv wt)).toList = w2 at *
      have c2 := h2.cell_n
      have f2 := h2.frozen 8
      have h3 : Hat (w2.setCell ⟨b, 8, none⟩ (.int .i64 ((n : Int) + 1))) b (mixL iv wt) (n + 1) wt k := h2.set_n (n + 1)
      have o3 := o2.trans (Only.set b 8 w2 (.int .i64 ((n : Int) + 1)))
      clear hA h1 o1 o2 hb1 h2
      go_upto_region 4 with (fail)
      generalize w2.setCell ⟨b, 8, none⟩ (.int .i64 ((n : Int) + 1)) = w3 at *
      have t3 := h3.there 9 64 (by omega)
      go_upto_region 5 with (refine wpList_store_mid rfl 94 _ _ rfl b 9 _ rfl rfl (by exact t3) (by exact sz30) (by rw [zerosB]; exact bs_one _) ?_)
      change Code.wp _ _ _ _ (w3.setCells b 9 ((List.replicate 64 0).map (Value.int .u8)))
      have h4 := h3.set_wt (List.replicate 64 0) (by simp)
      have o4 := o3.trans (Only.cells b ((List.replicate 64 0).map (Value.int .u8)) 9 w3)
      clear h3 o3 t3
      generalize w3.setCells b 9 ((List.replicate 64 0).map (Value.int .u8)) = w4 at *
      simp only [Act.put]
      have c4 := h4.cell_k
      have f4 := h4.frozen 73
      go_wp2
      go_end0
      exact ⟨rfl, o4.trans (Only.set _ _ _ _), h4.set_k 0⟩
  · have t8 : ((n : Int) == 0) = false := beq_eq_false_iff_ne.2 (by omega)
    rw [if_neg hn0]
    clear hn0
    go_enter Tryd.func58, Tryd.ntmps58
    go_wp2
    have hA := h
    have oA := Only.refl b w
    have kA := HK.out
    clear h c8
    have s28 : (Tryd.prog.info? 92).map (·.size) = some (ch.map (Value.int .u32)).length := by rw [List.length_map, hA.h8]; exact sz28
    have s30 : (Tryd.prog.info? 94).map (·.size) = some (wt.map (Value.int .u8)).length := by rw [List.length_map, hA.h64]; exact sz30
    refine wp_region_any (by kernel_rfl) ?_
    change wpAny _ _ _ _ _ _ _ (World.drew _)
    refine take_at 0 (some 11) (.pointer (some ⟨b, 0, none⟩)) rfl rfl (by kernel_rfl) (by kernel_rfl) (by kernel_rfl) (fun _ _ _ h => h) rfl (fun _ => by go_simp) ?_
    simp only [Act.put, List.setIfInBounds_toArray, List.set_cons_zero, List.set_cons_succ]
    refine take_at 1 (some 12) (.pointer (some ⟨b, 0, none⟩)) rfl rfl (by kernel_rfl) (by kernel_rfl) (by kernel_rfl) (fun _ _ _ h => h) rfl (fun _ => by go_simp) ?_
    simp only [Act.put, List.setIfInBounds_toArray, List.set_cons_zero, List.set_cons_succ]
    refine take_at 2 (some 13) (.pointer (some ⟨b, 0, none⟩)) rfl rfl (by kernel_rfl) (by kernel_rfl) (by kernel_rfl) (fun _ _ _ h => h) rfl (fun _ => by go_simp) ?_
    simp only [Act.put, List.setIfInBounds_toArray, List.set_cons_zero, List.set_cons_succ]
    refine take_at 3 (some 14) (.pointer (some ⟨b, 0, none⟩)) rfl rfl (by kernel_rfl) (by kernel_rfl) (by kernel_rfl) (fun _ _ _ h => h) rfl (fun _ => by go_simp) ?_
    simp only [Act.put, List.setIfInBounds_toArray, List.set_cons_zero, List.set_cons_succ]
    refine take_at 5 (some 16) (.pointer (some ⟨b, 0, none⟩)) rfl rfl (by kernel_rfl) (by kernel_rfl) (by kernel_rfl) (fun _ _ _ h => h) rfl (fun _ => by go_simp) ?_
    simp only [Act.put, List.setIfInBounds_toArray, List.set_cons_zero, List.set_cons_succ]
    refine take_at 6 (some 17) (.pointer (some ⟨b, 0, none⟩)) rfl rfl (by kernel_rfl) (by kernel_rfl) (by kernel_rfl) (fun _ _ _ h => h) rfl (fun _ => by go_simp) ?_
    simp only [Act.put, List.setIfInBounds_toArray, List.set_cons_zero, List.set_cons_succ]
    refine take_at 7 (some 18) (.pointer (some ⟨b, 9, none⟩)) rfl rfl (by kernel_rfl) (by kernel_rfl) (by kernel_rfl) (fun _ _ _ h => h) rfl (fun _ => by go_simp) ?_
    simp only [Act.put, List.setIfInBounds_toArray, List.set_cons_zero, List.set_cons_succ]
    refine next_two 4 8 rfl rfl (by kernel_rfl) rfl rfl (fun K hK => ?_) (fun K hK => ?_)
    all_goals
      first
      | (refine at_load_mid (some 15) rfl 92 _ rfl b 0 rfl _ _ hA.drew.range_ch Tryd.underlying92 rfl s28 ?_; refine hK _ _ ?_; clear hK K; simp only [Act.put, List.setIfInBounds_toArray, List.set_cons_zero, List.set_cons_succ]; refine next_one 8 rfl (by kernel_rfl) rfl (fun K hK => ?_); refine at_load_mid (some 19) rfl 94 _ rfl b 9 rfl _ _ hA.drew.range_wt Tryd.underlying94 rfl s30 ?_; refine hK _ _ ?_; clear hK K; simp only [Act.put, List.setIfInBounds_toArray, List.set_cons_zero, List.set_cons_succ])
      | (refine at_load_mid (some 19) rfl 94 _ rfl b 9 rfl _ _ hA.drew.range_wt Tryd.underlying94 rfl s30 ?_; refine hK _ _ ?_; clear hK K; simp only [Act.put, List.setIfInBounds_toArray, List.set_cons_zero, List.set_cons_succ]; refine next_one 4 rfl (by kernel_rfl) rfl (fun K hK => ?_); refine at_load_mid (some 15) rfl 92 _ rfl b 0 rfl _ _ hA.drew.range_ch Tryd.underlying92 rfl s28 ?_; refine hK _ _ ?_; clear hK K; simp only [Act.put, List.setIfInBounds_toArray, List.set_cons_zero, List.set_cons_succ])
      refine next_one 9 rfl (by kernel_rfl) rfl (fun K hK => ?_)
      refine at_call (some 20) rfl 63 #[.agg (ws ch), .agg (bs wt)] (fun _ => by go_simp; exact ⟨rfl, rfl⟩) (fun v w' => v = .agg (ws (mixL ch wt)) ∧ Below w.drew.heap.size w.drew w') ((mix_any ch wt w.drew hA.h8 hA.h64 kA).mono fun e w' he => ⟨_, he.1, rfl, he.2⟩) ?_
      rintro v w1 ⟨rfl, hb1⟩
      refine hK _ _ ?_; clear hK K; simp only [Act.put, List.setIfInBounds_toArray, List.set_cons_zero, List.set_cons_succ]
      have h1 := hA.drew.below hb1
      have o1 : Only b w w1 := oA.drew.trans (Only.of_below hb1)
      refine take_at 10 (some 21) (.pointer (some ⟨b, 0, none⟩)) rfl rfl (by kernel_rfl) (by kernel_rfl) (by kernel_rfl) (fun _ _ _ h => h) rfl (fun _ => by go_simp) ?_
      simp only [Act.put, List.setIfInBounds_toArray, List.set_cons_zero, List.set_cons_succ]
      refine take_at 11 (some 22) (.pointer (some ⟨b, 0, none⟩)) rfl rfl (by kernel_rfl) (by kernel_rfl) (by kernel_rfl) (fun _ _ _ h => h) rfl (fun _ => by go_simp) ?_
      simp only [Act.put, List.setIfInBounds_toArray, List.set_cons_zero, List.set_cons_succ]
      refine next_one 12 rfl (by kernel_rfl) rfl (fun K hK => ?_)
      refine at_store_mid rfl 92 _ _ rfl b 0 (ws (mixL ch wt)) rfl rfl (by rw [ws_size, mixL_length]; exact h1.there 0 8 (by omega)) sz28 (ws_one _) ?_
      refine hK _ _ ?_
      clear hK K
      refine wpAny_done (by kernel_rfl) ?_ _
      have h2 := h1.set_ch (mixL ch wt) (mixL_length _ _)
      have o2 := o1.trans (Only.cells b (ws (mixL ch wt)).toList 0 w1)
      change Hat (w1.setCells b 0 (ws (mixL ch wt)).toList) b _ _ _ _ at h2
      generalize w1.setCells b 0 (ws (mixL ch wt)).toList = w2 at *
      have c2 := h2.cell_n
      have f2 := h2.frozen 8
      have h3 : Hat (w2.setCell ⟨b, 8, none⟩ (.int .i64 ((n : Int) + 1))) b (mixL ch wt) (n + 1) wt k := h2.set_n (n + 1)
      have o3 := o2.trans (Only.set b 8 w2 (.int .i64 ((n : Int) + 1)))
      clear hA h1 o1 o2 hb1 h2
      go_upto_region 4 with (fail)
      generalize w2.setCell ⟨b, 8, none⟩ (.int .i64 ((n : Int) + 1)) = w3 at *
      have t3 := h3.there 9 64 (by omega)
      go_upto_region 5 with (refine wpList_store_mid rfl 94 _ _ rfl b 9 _ rfl rfl (by exact t3) (by exact sz30) (by rw [zerosB]; exact bs_one _) ?_)
      change Code.wp _ _ _ _ (w3.setCells b 9 ((List.replicate 64 0).map (Value.int .u8)))
      have h4 := h3.set_wt (List.replicate 64 0) (by simp)
      have o4 := o3.trans (Only.cells b ((List.replicate 64 0).map (Value.int .u8)) 9 w3)
      clear h3 o3 t3
      generalize w3.setCells b 9 ((List.replicate 64 0).map (Value.int .u8)) = w4 at *
      simp only [Act.put]
      have c4 := h4.cell_k
      have f4 := h4.frozen 73
      go_wp2
      go_end0
      exact ⟨rfl, o4.trans (Only.set _ _ _ _), h4.set_k 0⟩
end Go.Proofs.YtblhipdcgdhmiaaDoor
