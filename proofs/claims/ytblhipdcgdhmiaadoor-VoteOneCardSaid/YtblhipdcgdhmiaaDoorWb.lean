/- The contract of 'schedule': the words of a block. -/
import Derived.Test.YtblhipdcgdhmiaaDoorWa
import Derived.WalkSmall
namespace Go.Proofs.YtblhipdcgdhmiaaDoor
open Go.RowKit Go.Sha

def Inv1 (w : World) (blk : List Int) (m : Nat) (i : Value) (wr : World) : Prop := ∃ k : Nat, k ≤ m ∧ i = .int .i64 k ∧ Below w.heap.size w wr ∧ wr.heap.size = w.heap.size + 3 ∧ At wr w.heap.size (bs blk) 94 ∧ At wr (w.heap.size + 1) (ws (List.replicate 64 0)) 100 ∧ At wr (w.heap.size + 2) (ws (schA blk k)) 100

theorem zeros64 : (#[Value.int .u32 0, .int .u32 0, .int .u32 0, .int .u32 0, .int .u32 0, .int .u32 0, .int .u32 0, .int .u32 0,
  .int .u32 0, .int .u32 0, .int .u32 0, .int .u32 0, .int .u32 0, .int .u32 0, .int .u32 0, .int .u32 0,
  .int .u32 0, .int .u32 0, .int .u32 0, .int .u32 0, .int .u32 0, .int .u32 0, .int .u32 0, .int .u32 0,
  .int .u32 0, .int .u32 0, .int .u32 0, .int .u32 0, .int .u32 0, .int .u32 0, .int .u32 0, .int .u32 0,
  .int .u32 0, .int .u32 0, .int .u32 0, .int .u32 0, .int .u32 0, .int .u32 0, .int .u32 0, .int .u32 0,
  .int .u32 0, .int .u32 0, .int .u32 0, .int .u32 0, .int .u32 0, .int .u32 0, .int .u32 0, .int .u32 0,
  .int .u32 0, .int .u32 0, .int .u32 0, .int .u32 0, .int .u32 0, .int .u32 0, .int .u32 0, .int .u32 0,
  .int .u32 0, .int .u32 0, .int .u32 0, .int .u32 0, .int .u32 0, .int .u32 0, .int .u32 0, .int .u32 0] : Array Value) = ws (List.replicate 64 0) := by rfl

theorem sz45 : (Tryd.prog.info? 100).map (·.size) = some 64 := by kernel_rfl

theorem inv_start (w : World) (blk : List Int) : Inv1 w blk 16 (.int .i64 0) (((w.alloc (.cells (bs blk) 94)).alloc (.cells (ws (List.replicate 64 0)) 100)).alloc (.cells (ws (List.replicate 64 0)) 100)) := by
  refine ⟨0, by omega, rfl, ?_, by simp, ?_, ?_, ?_⟩
  · exact (((Below.refl _ _).alloc (Nat.le_refl _) _).alloc (by simp) _).alloc (by simp; omega) _
  · exact ((At.new _ _ _).alloc _).alloc _
  · have := (At.new (w.alloc (.cells (bs blk) 94)) (ws (List.replicate 64 0)) 100).alloc (.cells (ws (List.replicate 64 0)) 100)
    simpa using this
  · rw [schA_zero]
    have := At.new ((w.alloc (.cells (bs blk) 94)).alloc (.cells (ws (List.replicate 64 0)) 100)) (ws (List.replicate 64 0)) 100
    simpa using this

theorem inv_step (w wr : World) (blk : List Int) (m k : Nat) (v : Int) (hk : k < m) (hm : m ≤ 64) (hB : Below w.heap.size w wr) (hz : wr.heap.size = w.heap.size + 3)
    (h0 : At wr w.heap.size (bs blk) 94) (h1 : At wr (w.heap.size + 1) (ws (List.replicate 64 0)) 100) (h2 : At wr (w.heap.size + 2) (ws (schA blk k)) 100)
    (hv : v = if k < 16 then word0 blk k else wordN (sch blk k) k) :
    Inv1 w blk m (.int .i64 ((k + 1 : Nat) : Int)) (wr.setCell ⟨w.heap.size + 1 + 1, k, none⟩ (.int .u32 v)).drew := by
  refine ⟨k + 1, by omega, rfl, ?_, ?_, ?_, ?_, ?_⟩
  · exact (hB.setCell (p := ⟨w.heap.size + 1 + 1, k, none⟩) (by show w.heap.size ≤ w.heap.size + 1 + 1; omega) _).drew
  · simpa using hz
  · exact (h0.set_other _ _ _ (by omega)).drew
  · exact (h1.set_other _ _ _ (by omega)).drew
  · have := (h2.set k (.int .u32 v)).drew
    rw [ws_set, schA_set blk k (by omega) v hv] at this
    exact this

set_option maxHeartbeats 1000000 in
set_option maxRecDepth 100000 in
theorem sched_any (blk : List Int) (w : World) (hn : blk.length = 64) :
    Calls Tryd.prog 64 #[.agg (bs blk)] w fun e w' => e = .returned (.agg (ws (sch blk 64))) ∧ Below w.heap.size w w' := by
  have Hn := Lib.hid hn; clear hn
  go_enter Tryd.func64, Tryd.ntmps64
  go_wp2
  go_loopw [13] (fun i wr => Inv1 w blk 16 i wr) (fun i _ => 16 - (intOf i).toNat)
  case atStart => rw [zeros64]; exact inv_start w blk
  case round =>
    obtain ⟨k, hk, rfl, hB, hz, h0, h1, h2⟩ := hrel
    have Hz := Lib.hid hz; clear hz
    by_cases hlt : k < 16
    · have e1 : IntKind.i64.wrap ((k : Int) * 4) = (k : Int) * 4 := IntWalk.i64_in _ (by omega)
      have a0 : IntKind.i64.wrap ((k : Int) * 4 + 1) = (k : Int) * 4 + 1 := IntWalk.i64_in _ (by omega)
      have a1 : IntKind.i64.wrap ((k : Int) * 4 + 2) = (k : Int) * 4 + 2 := IntWalk.i64_in _ (by omega)
      have a2 : IntKind.i64.wrap ((k : Int) * 4 + 3) = (k : Int) * 4 + 3 := IntWalk.i64_in _ (by omega)
      have c0 : wr.cell? ⟨w.heap.size, k * 4, none⟩ = some (.int .u8 (blk.getD (k * 4) 0)) := by rw [h0.cell, bs_get _ _ (by have := Hn.out; omega)]
      have c1 : wr.cell? ⟨w.heap.size, k * 4 + 1, none⟩ = some (.int .u8 (blk.getD (k * 4 + 1) 0)) := by rw [h0.cell, bs_get _ _ (by have := Hn.out; omega)]
      have c2 : wr.cell? ⟨w.heap.size, k * 4 + 2, none⟩ = some (.int .u8 (blk.getD (k * 4 + 2) 0)) := by rw [h0.cell, bs_get _ _ (by have := Hn.out; omega)]
      have c3 : wr.cell? ⟨w.heap.size, k * 4 + 3, none⟩ = some (.int .u8 (blk.getD (k * 4 + 3) 0)) := by rw [h0.cell, bs_get _ _ (by have := Hn.out; omega)]
      have t0 : ((k : Int) * 4).toNat = k * 4 := by omega
      have t1 : ((k : Int) * 4 + 1).toNat = k * 4 + 1 := by omega
      have t2 : ((k : Int) * 4 + 2).toNat = k * 4 + 2 := by omega
      have t3 : ((k : Int) * 4 + 3).toNat = k * 4 + 3 := by omega
      have l0 : (k : Int) * 4 < 64 := by omega
      have l1 : (k : Int) * 4 + 1 < 64 := by omega
      have l2 : (k : Int) * 4 + 2 < 64 := by omega
      have l3 : (k : Int) * 4 + 3 < 64 := by omega
      have p0 : 0 ≤ (k : Int) * 4 := by omega
      have p1 : 0 ≤ (k : Int) * 4 + 1 := by omega
      have p2 : 0 ≤ (k : Int) * 4 + 2 := by omega
      have p3 : 0 ≤ (k : Int) * 4 + 3 := by omega
      have q0 : (k : Int) < 64 := by omega
      have q1 : (0 : Int) ≤ (k : Int) := by omega
      have f0 : wr.frozen? ⟨w.heap.size + 1 + 1, k, none⟩ = false := h2.frozen k
      have g0 : wr.cell? ⟨w.heap.size + 1 + 1, k, none⟩ = some (.int .u32 ((schA blk k).getD k 0)) := by rw [h2.cell, ws_get _ _ (by rw [schA_length _ _ (by omega)]; omega)]
      go_wp2
      go_still_tail 27, (by kernel_rfl)
      change wpList _ _ _ _ _ wr.drew
      go_wp2
      refine ⟨by have := inv_step w wr blk 16 k _ hlt (by omega) hB Hz.out h0 h1 h2 rfl; rw [if_pos hlt] at this; exact this, by simp [intOf]; omega⟩
    · have hk16 : k = 16 := by omega
      have Hk := Lib.hid hk16; clear hk16
      go_wp2
      clear hlt hk
      go_loopw [7] (fun i wr => ∃ j : Nat, 16 ≤ j ∧ Inv1 w blk 64 (.int .i64 j) wr ∧ i = .int .i64 j) (fun i _ => 64 - (intOf i).toNat)
      case atStart => exact ⟨16, by omega, ⟨16, by omega, rfl, hB, Hz.out, h0, h1, Hk.out ▸ h2⟩, rfl⟩
      case round =>
        clear hB Hz h0 h1 h2 Hk
        obtain ⟨j, hj16, ⟨j', hj, hjj, hB, hz, h0, h1, h2⟩, rfl⟩ := hrel
        obtain rfl : j' = j := by simp at hjj; omega
        clear hjj
        have Hz := Lib.hid hz; clear hz
        by_cases hlt : j' < 64
        · have q0 : (j' : Int) < 64 := by omega
          have d15 : IntKind.i64.wrap ((j' : Int) - 15) = ((j' - 15 : Nat) : Int) := by rw [IntWalk.i64_in] <;> omega
          have d2 : IntKind.i64.wrap ((j' : Int) - 2) = ((j' - 2 : Nat) : Int) := by rw [IntWalk.i64_in] <;> omega
          have d16 : IntKind.i64.wrap ((j' : Int) - 16) = ((j' - 16 : Nat) : Int) := by rw [IntWalk.i64_in] <;> omega
          have d7 : IntKind.i64.wrap ((j' : Int) - 7) = ((j' - 7 : Nat) : Int) := by rw [IntWalk.i64_in] <;> omega
          have z15 : (0 : Int) ≤ ((j' - 15 : Nat) : Int) := by omega
          have z2 : (0 : Int) ≤ ((j' - 2 : Nat) : Int) := by omega
          have z16 : (0 : Int) ≤ ((j' - 16 : Nat) : Int) := by omega
          have z7 : (0 : Int) ≤ ((j' - 7 : Nat) : Int) := by omega
          have y15 : ((j' - 15 : Nat) : Int) < 64 := by omega
          have y2 : ((j' - 2 : Nat) : Int) < 64 := by omega
          have y16 : ((j' - 16 : Nat) : Int) < 64 := by omega
          have y7 : ((j' - 7 : Nat) : Int) < 64 := by omega
          have z0 : (0 : Int) ≤ (j' : Int) := by omega
          have c15 : wr.cell? ⟨w.heap.size + 1 + 1, j' - 15, none⟩ = some (.int .u32 ((sch blk j')[j' - 15]?.getD 0)) := by rw [h2.cell, ws_get _ _ (by rw [schA_length _ _ (by omega)]; omega), ← schA_get blk j' _ (by omega)]; rfl
          have c2 : wr.cell? ⟨w.heap.size + 1 + 1, j' - 2, none⟩ = some (.int .u32 ((sch blk j')[j' - 2]?.getD 0)) := by rw [h2.cell, ws_get _ _ (by rw [schA_length _ _ (by omega)]; omega), ← schA_get blk j' _ (by omega)]; rfl
          have c16 : wr.cell? ⟨w.heap.size + 1 + 1, j' - 16, none⟩ = some (.int .u32 ((sch blk j')[j' - 16]?.getD 0)) := by rw [h2.cell, ws_get _ _ (by rw [schA_length _ _ (by omega)]; omega), ← schA_get blk j' _ (by omega)]; rfl
          have c7 : wr.cell? ⟨w.heap.size + 1 + 1, j' - 7, none⟩ = some (.int .u32 ((sch blk j')[j' - 7]?.getD 0)) := by rw [h2.cell, ws_get _ _ (by rw [schA_length _ _ (by omega)]; omega), ← schA_get blk j' _ (by omega)]; rfl
          have g0 : wr.cell? ⟨w.heap.size + 1 + 1, j', none⟩ = some (.int .u32 ((schA blk j').getD j' 0)) := by rw [h2.cell, ws_get _ _ (by rw [schA_length _ _ (by omega)]; omega)]
          have f0 : wr.frozen? ⟨w.heap.size + 1 + 1, j', none⟩ = false := h2.frozen j'
          go_wp2
          go_quiet (fail)
          replace c16 : (wr.drewN nq).cell? ⟨w.heap.size + 1 + 1, j' - 16, none⟩ = some (.int .u32 ((sch blk j')[j' - 16]?.getD 0)) := c16
          replace c7 : (wr.drewN nq).cell? ⟨w.heap.size + 1 + 1, j' - 7, none⟩ = some (.int .u32 ((sch blk j')[j' - 7]?.getD 0)) := c7
          replace g0 : (wr.drewN nq).cell? ⟨w.heap.size + 1 + 1, j', none⟩ = some (.int .u32 ((schA blk j').getD j' 0)) := g0
          replace f0 : (wr.drewN nq).frozen? ⟨w.heap.size + 1 + 1, j', none⟩ = false := f0
          replace hB : Below w.heap.size w (wr.drewN nq) := below_drewN hB nq
          replace Hz : Hid ((wr.drewN nq).heap.size = w.heap.size + 3) := Hz
          replace h0 : At (wr.drewN nq) w.heap.size (bs blk) 94 := h0
          replace h1 : At (wr.drewN nq) (w.heap.size + 1) (ws (List.replicate 64 0)) 100 := h1
          replace h2 : At (wr.drewN nq) (w.heap.size + 2) (ws (schA blk j')) 100 := h2
          clear c15 c2
          generalize wr.drewN nq = w1 at *
          go_wp2_with (go_at_call 65; (first | (with_reducible refine (rotl7 _ _).mono ?_) | (with_reducible refine (rotl18 _ _).mono ?_) | (with_reducible refine (rotl17 _ _).mono ?_) | (with_reducible refine (rotl19 _ _).mono ?_)); rintro e w' ⟨rfl, rfl⟩)
          go_still_tail 15, (by kernel_rfl)
          change wpList _ _ _ _ _ w1.drew
          go_wp2
          refine ⟨⟨j' + 1, by omega, inv_step w w1 blk 64 j' _ hlt (by omega) hB Hz.out h0 h1 h2 ?_, by go_num⟩, by simp [intOf]; omega⟩
          rw [if_neg (by omega)]; rfl
        · obtain rfl : j' = 64 := by omega
          rw [schA_full] at h2
          go_wp2_with (first | (refine wpList_load_row rfl 100 _ rfl (w.heap.size + 2) rfl 100 _ (0, 0) _ h2 Tryd.underlying100 rfl (by rw [ws_size, sch_length]; exact sz45) ?_) | (refine wpList_store_row rfl 100 _ _ rfl (w.heap.size + 1) _ rfl rfl 100 _ h1 (by rw [ws_size, sch_length]; exact sz45) (by rw [ws_size, ws_size, sch_length]; rfl) (ws_one _) ?_))
          exact bodyPost_ret (v := .agg (ws (sch blk 64))) (results_cell_row Tryd.results64 _ _ (w.heap.size + 1) 100 _ (0, 0) _ rfl (h1.row _) Tryd.underlying100 rfl (by rw [ws_size, sch_length]; exact sz45)) rfl ⟨rfl, below_setRow hB (by omega) _⟩
end Go.Proofs.YtblhipdcgdhmiaaDoor
