/- The contracts of 'firstChain' and 'mix': the chain behind one more block. -/
import Derived.Test.YtblhipdcgdhmiaaDoorWb
namespace Go.Proofs.YtblhipdcgdhmiaaDoor
open Go.RowKit Go.Sha

theorem sz28 : (Tryd.prog.info? 92).map (·.size) = some 8 := by kernel_rfl
theorem sz30 : (Tryd.prog.info? 94).map (·.size) = some 64 := by kernel_rfl

theorem zeros8 : (#[Value.int .u32 0, .int .u32 0, .int .u32 0, .int .u32 0, .int .u32 0, .int .u32 0, .int .u32 0, .int .u32 0] : Array Value) = ws (List.replicate 8 0) := by rfl

theorem mix_pre (w w4 : World) (ch blk : List Int) (z : Array Value) (hK : KAt w)
    (hb : Below (((w.alloc (.cells (ws ch) 92)).alloc (.cells (bs blk) 94)).alloc (.cells z 92)).heap.size (((w.alloc (.cells (ws ch) 92)).alloc (.cells (bs blk) 94)).alloc (.cells z 92)) w4) :
    Below w.heap.size w w4 ∧ w.heap.size + 3 ≤ w4.heap.size ∧ At w4 w.heap.size (ws ch) 92 ∧ At w4 (w.heap.size + 1 + 1) z 92 ∧ KAt w4 := by
  have b0 : Below w.heap.size w (((w.alloc (.cells (ws ch) 92)).alloc (.cells (bs blk) 94)).alloc (.cells z 92)) :=
    (((Below.refl _ _).alloc (Nat.le_refl _) _).alloc (by simp) _).alloc (by simp; omega) _
  have b1 : Below w.heap.size w w4 := b0.trans (hb.mono (by simp; omega))
  refine ⟨b1, ?_, ?_, ?_, hK.below b1 hK.lt⟩
  · have := hb.size; simp at this; omega
  · exact (((At.new w _ _).alloc _).alloc _).below hb (by simp; omega)
  · exact (At.new2 w _ _ z 92).below hb (by simp)

def InvM (w : World) (W : Nat) (ch blk : List Int) (i a b c d e f g h : Value) (wr : World) : Prop :=
  ∃ k : Nat, k ≤ 64 ∧ i = .int .i64 k ∧ a = .int .u32 (rnds ch blk k).a ∧ b = .int .u32 (rnds ch blk k).b ∧ c = .int .u32 (rnds ch blk k).c ∧ d = .int .u32 (rnds ch blk k).d
    ∧ e = .int .u32 (rnds ch blk k).e ∧ f = .int .u32 (rnds ch blk k).f ∧ g = .int .u32 (rnds ch blk k).g ∧ h = .int .u32 (rnds ch blk k).h
    ∧ Below w.heap.size w wr ∧ At wr w.heap.size (ws ch) 92 ∧ At wr (w.heap.size + 1 + 1) (ws (List.replicate 8 0)) 92 ∧ At wr W (ws (sch blk 64)) 100 ∧ KAt wr

set_option maxHeartbeats 1000000 in
set_option maxRecDepth 100000 in
theorem mix_any (ch blk : List Int) (w : World) (hch : ch.length = 8) (hn : blk.length = 64) (hK : KAt w) :
    Calls Tryd.prog 63 #[.agg (ws ch), .agg (bs blk)] w fun e w' => e = .returned (.agg (ws (mixL ch blk))) ∧ Below w.heap.size w w' := by
  have Hn := Lib.hid hn; clear hn
  have Hc := Lib.hid hch; clear hch
  have HK := Lib.hid hK; clear hK
  have hA := (At.new1 w (.cells (ws ch) 92) (bs blk) 94).alloc (.cells #[Value.int .u32 0, .int .u32 0, .int .u32 0, .int .u32 0, .int .u32 0, .int .u32 0, .int .u32 0, .int .u32 0] 92)
  go_enter Tryd.func63, Tryd.ntmps63
  go_wp2_with (refine wpList_load_row rfl 94 _ rfl (w.heap.size + 1) rfl 94 (bs blk) (0, 0) _ hA Tryd.underlying94 rfl (by rw [bs_size, Hn.out]; exact sz30) ?_)
  refine (sched_any blk _ Hn.out).mono ?_
  rintro e w4 ⟨rfl, hb4⟩
  clear hA
  obtain ⟨hB, hz, a0, a2, k4⟩ := mix_pre w w4 ch blk _ HK.out hb4
  clear hb4
  rw [zeros8] at a2
  have a5 := At.new w4 (ws (List.replicate 64 0)) 100
  rw [← zeros64] at a5
  go_wp2_with (refine wpList_store_row rfl 100 _ _ rfl w4.heap.size (ws (sch blk 64)) rfl rfl 100 _ a5 (by rw [ws_size, sch_length]; exact sz45) (by rw [ws_size, sch_length]; rfl) (ws_one _) ?_)
  rw [World.setRow_alloc_new]
  clear a5
  have hW : w.heap.size + 3 ≤ w4.heap.size := hz
  replace hB := hB.alloc (by omega) (.cells (ws (sch blk 64)) 100)
  have a5 := At.new w4 (ws (sch blk 64)) 100
  replace a0 := a0.alloc (.cells (ws (sch blk 64)) 100)
  replace a2 := a2.alloc (.cells (ws (sch blk 64)) 100)
  replace k4 : KAt (w4.alloc (.cells (ws (sch blk 64)) 100)) := k4.below (Below.alloc (Below.refl w4.heap.size w4) (Nat.le_refl _) _) (by omega)
  generalize w4.heap.size = W at *
  generalize w4.alloc (.cells (ws (sch blk 64)) 100) = w5 at *
  have c0 := a0.get_ws 0 (by rw [Hc.out]; omega)
  have c1 := a0.get_ws 1 (by rw [Hc.out]; omega)
  have c2 := a0.get_ws 2 (by rw [Hc.out]; omega)
  have c3 := a0.get_ws 3 (by rw [Hc.out]; omega)
  have c4 := a0.get_ws 4 (by rw [Hc.out]; omega)
  have c5 := a0.get_ws 5 (by rw [Hc.out]; omega)
  have c6 := a0.get_ws 6 (by rw [Hc.out]; omega)
  have c7 := a0.get_ws 7 (by rw [Hc.out]; omega)
  simp only [Act.put]
  go_quiet (fail)
  replace hB := below_drewN hB nq
  replace a0 := a0.drewN nq
  replace a2 := a2.drewN nq
  replace a5 := a5.drewN nq
  replace k4 : KAt (w5.drewN nq) := k4
  clear c0 c1 c2 c3 c4 c5 c6 c7
  generalize w5.drewN nq = w55 at *
  clear nq
  have c4 := a0.get_ws 4 (by rw [Hc.out]; omega)
  have c5 := a0.get_ws 5 (by rw [Hc.out]; omega)
  have c6 := a0.get_ws 6 (by rw [Hc.out]; omega)
  have c7 := a0.get_ws 7 (by rw [Hc.out]; omega)
  go_wp2
  go_quiet (fail)
  replace hB := below_drewN hB nq
  replace a0 := a0.drewN nq
  replace a2 := a2.drewN nq
  replace a5 := a5.drewN nq
  replace k4 : KAt (w55.drewN nq) := k4
  clear c4 c5 c6 c7
  generalize w55.drewN nq = w6 at *
  clear nq
  go_wp2
  go_loopw [38, 6, 7, 8, 9, 10, 11, 12, 13] (fun i a b c d e f g h wr => InvM w W ch blk i a b c d e f g h wr) (fun i _ _ _ _ _ _ _ _ _ => 64 - (intOf i).toNat)
  case atStart => exact ⟨0, by omega, rfl, rfl, rfl, rfl, rfl, rfl, rfl, rfl, rfl, hB, a0, a2, a5, k4⟩
  case round =>
    clear hB a0 a2 a5 k4
    obtain ⟨k, hk, rfl, rfl, rfl, rfl, rfl, rfl, rfl, rfl, rfl, hB, a0, a2, a5, k4⟩ := hrel
    by_cases hlt : k < 64
    · have q0 : (k : Int) < 64 := by omega
      have q1 : (0 : Int) ≤ (k : Int) := by omega
      have ck := k4 k hlt
      have cw := a5.get_ws k (by rw [sch_length]; exact hlt)
      generalize hs : rnds ch blk k = s at *
      have Hs := Lib.hid hs; clear hs
      go_wp2_with (go_at_call 65; (first | (with_reducible refine (rotl6 _ _).mono ?_) | (with_reducible refine (rotl11 _ _).mono ?_) | (with_reducible refine (rotl25 _ _).mono ?_) | (with_reducible refine (rotl2 _ _).mono ?_) | (with_reducible refine (rotl13 _ _).mono ?_) | (with_reducible refine (rotl22 _ _).mono ?_)); rintro e w' ⟨rfl, rfl⟩)
      go_quiet (fail)
      replace hB := below_drewN hB nq
      replace a0 := a0.drewN nq
      replace a2 := a2.drewN nq
      replace a5 := a5.drewN nq
      replace k4 : KAt (wr.drewN nq) := k4
      clear ck cw
      generalize wr.drewN nq = w7 at *
      go_wp2_with (go_at_call 65; (first | (with_reducible refine (rotl6 _ _).mono ?_) | (with_reducible refine (rotl11 _ _).mono ?_) | (with_reducible refine (rotl25 _ _).mono ?_) | (with_reducible refine (rotl2 _ _).mono ?_) | (with_reducible refine (rotl13 _ _).mono ?_) | (with_reducible refine (rotl22 _ _).mono ?_)); rintro e w' ⟨rfl, rfl⟩)
      refine ⟨⟨k + 1, by omega, by go_num, ?_, ?_, ?_, ?_, ?_, ?_, ?_, ?_, hB, a0, a2, a5, k4⟩, by simp [intOf]; omega⟩
      all_goals (rw [rnds, Hs.out]; rfl)
    · obtain rfl : k = 64 := by omega
      have c0 := a0.get_ws 0 (by rw [Hc.out]; omega)
      have c1 := a0.get_ws 1 (by rw [Hc.out]; omega)
      have c2 := a0.get_ws 2 (by rw [Hc.out]; omega)
      have c3 := a0.get_ws 3 (by rw [Hc.out]; omega)
      have c4 := a0.get_ws 4 (by rw [Hc.out]; omega)
      have c5 := a0.get_ws 5 (by rw [Hc.out]; omega)
      have c6 := a0.get_ws 6 (by rw [Hc.out]; omega)
      have c7 := a0.get_ws 7 (by rw [Hc.out]; omega)
      go_wp2_with (refine wpList_store_row rfl 92 _ _ rfl (w.heap.size + 1 + 1) (ws (mixL ch blk)) rfl rfl 92 _ a2 sz28 rfl (ws_one _) ?_)
      exact bodyPost_ret (v := .agg (ws (mixL ch blk))) (results_cell_row Tryd.results63 _ _ (w.heap.size + 1 + 1) 92 _ (0, 0) _ rfl (a2.row _) Tryd.underlying92 rfl sz28) rfl ⟨rfl, below_setRow hB (by omega) _⟩

set_option maxHeartbeats 400000 in
theorem first_any (w : World) :
    Calls Tryd.prog 62 #[] w fun e w' => e = .returned (.agg (ws iv)) ∧ Below w.heap.size w w' := by
  have a0 := At.new w (ws (List.replicate 8 0)) 92
  rw [← zeros8] at a0
  go_enter Tryd.func62, Tryd.ntmps62
  go_wp2_with (refine wpList_store_row rfl 92 _ _ rfl (w.heap.size) (ws iv) rfl rfl 92 _ a0 sz28 rfl (ws_one _) ?_)
  exact bodyPost_ret (v := .agg (ws iv)) (results_cell_row Tryd.results62 _ _ w.heap.size 92 _ (0, 0) _ rfl (a0.row _) Tryd.underlying92 rfl sz28) rfl ⟨rfl, below_setRow ((Below.refl _ _).alloc (Nat.le_refl _) _) (Nat.le_refl _) _⟩
end Go.Proofs.YtblhipdcgdhmiaaDoor
