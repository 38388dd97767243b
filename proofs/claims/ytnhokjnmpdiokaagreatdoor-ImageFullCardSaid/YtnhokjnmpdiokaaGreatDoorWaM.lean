/- The contracts of the small functions: a word turned round, the words of a block. The contract of 'schedule': the words of a block. The contracts of 'firstChain' and 'mix': the chain behind one more block. The contract of '(*Hasher).takeBlock': a full block goes into the chain. -/
import Derived.Test.YtnhokjnmpdiokaaGreatDoorRows
import Derived.Test.YtnhokjnmpdiokaaGreatDoorSpec
import Derived.WalkSmall
import Derived.Deep.CutRange
namespace Go.Proofs.YtnhokjnmpdiokaaGreatDoor
open Go.RowKit Go.Sha

theorem ret_u32 {a b : Int} (h : a = b) : Ending.returned (.int .u32 a) = .returned (.int .u32 b) := by rw [h]

set_option maxHeartbeats 400000 in
theorem rotl (x : Int) (k : Int) (n : Nat) (w : World) (hn : n ≤ 32) (hk : bits .and .u64 (IntKind.u64.wrap k) 31 = ((32 - n : Nat) : Int)) :
    Calls Tryz.prog 165 #[.int .u32 x, .int .i64 k] w fun e w' => e = .returned (.int .u32 (rotr x n)) ∧ w = w' := by
  have h1 : (0 : Int) ≤ ((32 - n : Nat) : Int) := by omega
  have h2 : IntKind.u64.wrap (32 - ((32 - n : Nat) : Int)) = (n : Int) := by rw [IntWalk.u64_in] <;> omega
  go_enter Tryz.func165, Tryz.ntmps165
  go_wp2
  go_ret
  exact ⟨ret_u32 (rotr_left x n), rfl⟩

theorem rotl2 (x : Int) (w : World) : Calls Tryz.prog 165 #[.int .u32 x, .int .i64 (-2)] w fun e w' => e = .returned (.int .u32 (rotr x 2)) ∧ w = w' := rotl x (-2) 2 w (by omega) (by decide +kernel)
theorem rotl6 (x : Int) (w : World) : Calls Tryz.prog 165 #[.int .u32 x, .int .i64 (-6)] w fun e w' => e = .returned (.int .u32 (rotr x 6)) ∧ w = w' := rotl x (-6) 6 w (by omega) (by decide +kernel)
theorem rotl7 (x : Int) (w : World) : Calls Tryz.prog 165 #[.int .u32 x, .int .i64 (-7)] w fun e w' => e = .returned (.int .u32 (rotr x 7)) ∧ w = w' := rotl x (-7) 7 w (by omega) (by decide +kernel)
theorem rotl11 (x : Int) (w : World) : Calls Tryz.prog 165 #[.int .u32 x, .int .i64 (-11)] w fun e w' => e = .returned (.int .u32 (rotr x 11)) ∧ w = w' := rotl x (-11) 11 w (by omega) (by decide +kernel)
theorem rotl13 (x : Int) (w : World) : Calls Tryz.prog 165 #[.int .u32 x, .int .i64 (-13)] w fun e w' => e = .returned (.int .u32 (rotr x 13)) ∧ w = w' := rotl x (-13) 13 w (by omega) (by decide +kernel)
theorem rotl17 (x : Int) (w : World) : Calls Tryz.prog 165 #[.int .u32 x, .int .i64 (-17)] w fun e w' => e = .returned (.int .u32 (rotr x 17)) ∧ w = w' := rotl x (-17) 17 w (by omega) (by decide +kernel)
theorem rotl18 (x : Int) (w : World) : Calls Tryz.prog 165 #[.int .u32 x, .int .i64 (-18)] w fun e w' => e = .returned (.int .u32 (rotr x 18)) ∧ w = w' := rotl x (-18) 18 w (by omega) (by decide +kernel)
theorem rotl19 (x : Int) (w : World) : Calls Tryz.prog 165 #[.int .u32 x, .int .i64 (-19)] w fun e w' => e = .returned (.int .u32 (rotr x 19)) ∧ w = w' := rotl x (-19) 19 w (by omega) (by decide +kernel)
theorem rotl22 (x : Int) (w : World) : Calls Tryz.prog 165 #[.int .u32 x, .int .i64 (-22)] w fun e w' => e = .returned (.int .u32 (rotr x 22)) ∧ w = w' := rotl x (-22) 22 w (by omega) (by decide +kernel)
theorem rotl25 (x : Int) (w : World) : Calls Tryz.prog 165 #[.int .u32 x, .int .i64 (-25)] w fun e w' => e = .returned (.int .u32 (rotr x 25)) ∧ w = w' := rotl x (-25) 25 w (by omega) (by decide +kernel)

set_option maxHeartbeats 400000 in
theorem rot (x : Int) (n : Nat) (w : World) (hn : n ≤ 32) :
    Calls Tryz.prog 69 #[.int .u32 x, .int .i64 n] w fun e w' => e = .returned (.int .u32 (rotr x n)) ∧ ∃ k, w' = w.drewN k := by
  have h1 : (0 : Int) ≤ (n : Int) := by omega
  have h2 : IntKind.i64.wrap (32 - (n : Int)) = ((32 - n : Nat) : Int) := by rw [IntWalk.i64_in] <;> omega
  have h3 : (0 : Int) ≤ ((32 - n : Nat) : Int) := by omega
  go_enter Tryz.func69, Tryz.ntmps69
  go_wp2
  go_quiet (fail)
  go_wp2
  go_ret
  exact ⟨rfl, _, rfl⟩
end Go.Proofs.YtnhokjnmpdiokaaGreatDoor

namespace Go.Proofs.YtnhokjnmpdiokaaGreatDoor
open Go.RowKit Go.Sha

def Inv1 (w : World) (blk : List Int) (m : Nat) (i : Value) (wr : World) : Prop := ∃ k : Nat, k ≤ m ∧ i = .int .i64 k ∧ Below w.heap.size w wr ∧ wr.heap.size = w.heap.size + 3 ∧ At wr w.heap.size (bs blk) 173 ∧ At wr (w.heap.size + 1) (ws (List.replicate 64 0)) 121 ∧ At wr (w.heap.size + 2) (ws (schA blk k)) 121

theorem zeros64 : (#[Value.int .u32 0, .int .u32 0, .int .u32 0, .int .u32 0, .int .u32 0, .int .u32 0, .int .u32 0, .int .u32 0,
  .int .u32 0, .int .u32 0, .int .u32 0, .int .u32 0, .int .u32 0, .int .u32 0, .int .u32 0, .int .u32 0,
  .int .u32 0, .int .u32 0, .int .u32 0, .int .u32 0, .int .u32 0, .int .u32 0, .int .u32 0, .int .u32 0,
  .int .u32 0, .int .u32 0, .int .u32 0, .int .u32 0, .int .u32 0, .int .u32 0, .int .u32 0, .int .u32 0,
  .int .u32 0, .int .u32 0, .int .u32 0, .int .u32 0, .int .u32 0, .int .u32 0, .int .u32 0, .int .u32 0,
  .int .u32 0, .int .u32 0, .int .u32 0, .int .u32 0, .int .u32 0, .int .u32 0, .int .u32 0, .int .u32 0,
  .int .u32 0, .int .u32 0, .int .u32 0, .int .u32 0, .int .u32 0, .int .u32 0, .int .u32 0, .int .u32 0,
  .int .u32 0, .int .u32 0, .int .u32 0, .int .u32 0, .int .u32 0, .int .u32 0, .int .u32 0, .int .u32 0] : Array Value) = ws (List.replicate 64 0) := by rfl

theorem sz45 : (Tryz.prog.info? 121).map (·.size) = some 64 := by kernel_rfl

theorem inv_start (w : World) (blk : List Int) : Inv1 w blk 16 (.int .i64 0) (((w.alloc (.cells (bs blk) 173)).alloc (.cells (ws (List.replicate 64 0)) 121)).alloc (.cells (ws (List.replicate 64 0)) 121)) := by
  refine ⟨0, by omega, rfl, ?_, by simp, ?_, ?_, ?_⟩
  · exact (((Below.refl _ _).alloc (Nat.le_refl _) _).alloc (by simp) _).alloc (by simp; omega) _
  · exact ((At.new _ _ _).alloc _).alloc _
  · have := (At.new (w.alloc (.cells (bs blk) 173)) (ws (List.replicate 64 0)) 121).alloc (.cells (ws (List.replicate 64 0)) 121)
    simpa using this
  · rw [schA_zero]
    have := At.new ((w.alloc (.cells (bs blk) 173)).alloc (.cells (ws (List.replicate 64 0)) 121)) (ws (List.replicate 64 0)) 121
    simpa using this

theorem inv_step (w wr : World) (blk : List Int) (m k : Nat) (v : Int) (hk : k < m) (hm : m ≤ 64) (hB : Below w.heap.size w wr) (hz : wr.heap.size = w.heap.size + 3)
    (h0 : At wr w.heap.size (bs blk) 173) (h1 : At wr (w.heap.size + 1) (ws (List.replicate 64 0)) 121) (h2 : At wr (w.heap.size + 2) (ws (schA blk k)) 121)
    (hv : v = if k < 16 then word0 blk k else wordN (sch blk k) k) :
    Inv1 w blk m (.int .i64 ((k + 1 : Nat) : Int)) (wr.setCell ⟨w.heap.size + 1 + 1, k, none⟩ (.int .u32 v)).drew := by
  refine ⟨k + 1, by omega, rfl, ?_, ?_, ?_, ?_, ?_⟩
  · exact (hB.setCell (p := ⟨w.heap.size + 1 + 1, k, none⟩) (by show w.heap.size ≤ w.heap.size + 1 + 1; omega) _).drew
  · simpa using hz
  · exact (h0.set_other _ _ _ (by omega)).drew
  · exact (h1.set_other _ _ _ (by omega)).drew
  · have := (h2.set k (.int .u32 v)).drew
    rw [ws_set, schA_set blk k (by omega) v hv] at this
    exact this

set_option maxHeartbeats 1000000 in
set_option maxRecDepth 100000 in
theorem sched_any (blk : List Int) (w : World) (hn : blk.length = 64) :
    Calls Tryz.prog 164 #[.agg (bs blk)] w fun e w' => e = .returned (.agg (ws (sch blk 64))) ∧ Below w.heap.size w w' := by
  have Hn := Lib.hid hn; clear hn
  go_enter Tryz.func164, Tryz.ntmps164
  go_wp2
  go_loopw [13] (fun i wr => Inv1 w blk 16 i wr) (fun i _ => 16 - (intOf i).toNat)
  case atStart => rw [zeros64]; exact inv_start w blk
  case round =>
    obtain ⟨k, hk, rfl, hB, hz, h0, h1, h2⟩ := hrel
    have Hz := Lib.hid hz; clear hz
    by_cases hlt : k < 16
    · have e1 : IntKind.i64.wrap ((k : Int) * 4) = (k : Int) * 4 := IntWalk.i64_in _ (by omega)
      have a0 : IntKind.i64.wrap ((k : Int) * 4 + 1) = (k : Int) * 4 + 1 := IntWalk.i64_in _ (by omega)
      have a1 : IntKind.i64.wrap ((k : Int) * 4 + 2) = (k : Int) * 4 + 2 := IntWalk.i64_in _ (by omega)
      have a2 : IntKind.i64.wrap ((k : Int) * 4 + 3) = (k : Int) * 4 + 3 := IntWalk.i64_in _ (by omega)
      have c0 : wr.cell? ⟨w.heap.size, k * 4, none⟩ = some (.int .u8 (blk.getD (k * 4) 0)) := by rw [h0.cell, bs_get _ _ (by have := Hn.out; omega)]
      have c1 : wr.cell? ⟨w.heap.size, k * 4 + 1, none⟩ = some (.int .u8 (blk.getD (k * 4 + 1) 0)) := by rw [h0.cell, bs_get _ _ (by have := Hn.out; omega)]
      have c2 : wr.cell? ⟨w.heap.size, k * 4 + 2, none⟩ = some (.int .u8 (blk.getD (k * 4 + 2) 0)) := by rw [h0.cell, bs_get _ _ (by have := Hn.out; omega)]
      have c3 : wr.cell? ⟨w.heap.size, k * 4 + 3, none⟩ = some (.int .u8 (blk.getD (k * 4 + 3) 0)) := by rw [h0.cell, bs_get _ _ (by have := Hn.out; omega)]
      have t0 : ((k : Int) * 4).toNat = k * 4 := by omega
      have t1 : ((k : Int) * 4 + 1).toNat = k * 4 + 1 := by omega
      have t2 : ((k : Int) * 4 + 2).toNat = k * 4 + 2 := by omega
      have t3 : ((k : Int) * 4 + 3).toNat = k * 4 + 3 := by omega
      have l0 : (k : Int) * 4 < 64 := by omega
      have l1 : (k : Int) * 4 + 1 < 64 := by omega
      have l2 : (k : Int) * 4 + 2 < 64 := by omega
      have l3 : (k : Int) * 4 + 3 < 64 := by omega
      have p0 : 0 ≤ (k : Int) * 4 := by omega
      have p1 : 0 ≤ (k : Int) * 4 + 1 := by omega
      have p2 : 0 ≤ (k : Int) * 4 + 2 := by omega
      have p3 : 0 ≤ (k : Int) * 4 + 3 := by omega
      have q0 : (k : Int) < 64 := by omega
      have q1 : (0 : Int) ≤ (k : Int) := by omega
      have f0 : wr.frozen? ⟨w.heap.size + 1 + 1, k, none⟩ = false := h2.frozen k
      have g0 : wr.cell? ⟨w.heap.size + 1 + 1, k, none⟩ = some (.int .u32 ((schA blk k).getD k 0)) := by rw [h2.cell, ws_get _ _ (by rw [schA_length _ _ (by omega)]; omega)]
      go_wp2
      go_still_tail 27, (by kernel_rfl)
      change wpList _ _ _ _ _ wr.drew
      go_wp2
      refine ⟨by have := inv_step w wr blk 16 k _ hlt (by omega) hB Hz.out h0 h1 h2 rfl; rw [if_pos hlt] at this; exact this, by simp [intOf]; omega⟩
    · have hk16 : k = 16 := by omega
      have Hk := Lib.hid hk16; clear hk16
      go_wp2
      clear hlt hk
      go_loopw [7] (fun i wr => ∃ j : Nat, 16 ≤ j ∧ Inv1 w blk 64 (.int .i64 j) wr ∧ i = .int .i64 j) (fun i _ => 64 - (intOf i).toNat)
      case atStart => exact ⟨16, by omega, ⟨16, by omega, rfl, hB, Hz.out, h0, h1, Hk.out ▸ h2⟩, rfl⟩
      case round =>
        clear hB Hz h0 h1 h2 Hk
        obtain ⟨j, hj16, ⟨j', hj, hjj, hB, hz, h0, h1, h2⟩, rfl⟩ := hrel
        obtain rfl : j' = j := by simp at hjj; omega
        clear hjj
        have Hz := Lib.hid hz; clear hz
        by_cases hlt : j' < 64
        · have q0 : (j' : Int) < 64 := by omega
          have d15 : IntKind.i64.wrap ((j' : Int) - 15) = ((j' - 15 : Nat) : Int) := by rw [IntWalk.i64_in] <;> omega
          have d2 : IntKind.i64.wrap ((j' : Int) - 2) = ((j' - 2 : Nat) : Int) := by rw [IntWalk.i64_in] <;> omega
          have d16 : IntKind.i64.wrap ((j' : Int) - 16) = ((j' - 16 : Nat) : Int) := by rw [IntWalk.i64_in] <;> omega
          have d7 : IntKind.i64.wrap ((j' : Int) - 7) = ((j' - 7 : Nat) : Int) := by rw [IntWalk.i64_in] <;> omega
          have z15 : (0 : Int) ≤ ((j' - 15 : Nat) : Int) := by omega
          have z2 : (0 : Int) ≤ ((j' - 2 : Nat) : Int) := by omega
          have z16 : (0 : Int) ≤ ((j' - 16 : Nat) : Int) := by omega
          have z7 : (0 : Int) ≤ ((j' - 7 : Nat) : Int) := by omega
          have y15 : ((j' - 15 : Nat) : Int) < 64 := by omega
          have y2 : ((j' - 2 : Nat) : Int) < 64 := by omega
          have y16 : ((j' - 16 : Nat) : Int) < 64 := by omega
          have y7 : ((j' - 7 : Nat) : Int) < 64 := by omega
          have z0 : (0 : Int) ≤ (j' : Int) := by omega
          have c15 : wr.cell? ⟨w.heap.size + 1 + 1, j' - 15, none⟩ = some (.int .u32 ((sch blk j')[j' - 15]?.getD 0)) := by rw [h2.cell, ws_get _ _ (by rw [schA_length _ _ (by omega)]; omega), ← schA_get blk j' _ (by omega)]; rfl
          have c2 : wr.cell? ⟨w.heap.size + 1 + 1, j' - 2, none⟩ = some (.int .u32 ((sch blk j')[j' - 2]?.getD 0)) := by rw [h2.cell, ws_get _ _ (by rw [schA_length _ _ (by omega)]; omega), ← schA_get blk j' _ (by omega)]; rfl
          have c16 : wr.cell? ⟨w.heap.size + 1 + 1, j' - 16, none⟩ = some (.int .u32 ((sch blk j')[j' - 16]?.getD 0)) := by rw [h2.cell, ws_get _ _ (by rw [schA_length _ _ (by omega)]; omega), ← schA_get blk j' _ (by omega)]; rfl
          have c7 : wr.cell? ⟨w.heap.size + 1 + 1, j' - 7, none⟩ = some (.int .u32 ((sch blk j')[j' - 7]?.getD 0)) := by rw [h2.cell, ws_get _ _ (by rw [schA_length _ _ (by omega)]; omega), ← schA_get blk j' _ (by omega)]; rfl
          have g0 : wr.cell? ⟨w.heap.size + 1 + 1, j', none⟩ = some (.int .u32 ((schA blk j').getD j' 0)) := by rw [h2.cell, ws_get _ _ (by rw [schA_length _ _ (by omega)]; omega)]
          have f0 : wr.frozen? ⟨w.heap.size + 1 + 1, j', none⟩ = false := h2.frozen j'
          go_wp2
          go_quiet (fail)
          replace c16 : (wr.drewN nq).cell? ⟨w.heap.size + 1 + 1, j' - 16, none⟩ = some (.int .u32 ((sch blk j')[j' - 16]?.getD 0)) := c16
          replace c7 : (wr.drewN nq).cell? ⟨w.heap.size + 1 + 1, j' - 7, none⟩ = some (.int .u32 ((sch blk j')[j' - 7]?.getD 0)) := c7
          replace g0 : (wr.drewN nq).cell? ⟨w.heap.size + 1 + 1, j', none⟩ = some (.int .u32 ((schA blk j').getD j' 0)) := g0
          replace f0 : (wr.drewN nq).frozen? ⟨w.heap.size + 1 + 1, j', none⟩ = false := f0
          replace hB : Below w.heap.size w (wr.drewN nq) := below_drewN hB nq
          replace Hz : Hid ((wr.drewN nq).heap.size = w.heap.size + 3) := Hz
          replace h0 : At (wr.drewN nq) w.heap.size (bs blk) 173 := h0
          replace h1 : At (wr.drewN nq) (w.heap.size + 1) (ws (List.replicate 64 0)) 121 := h1
          replace h2 : At (wr.drewN nq) (w.heap.size + 2) (ws (schA blk j')) 121 := h2
          clear c15 c2
          generalize wr.drewN nq = w1 at *
          go_wp2_with (go_at_call 165; (first | (with_reducible refine (rotl7 _ _).mono ?_) | (with_reducible refine (rotl18 _ _).mono ?_) | (with_reducible refine (rotl17 _ _).mono ?_) | (with_reducible refine (rotl19 _ _).mono ?_)); rintro e w' ⟨rfl, rfl⟩)
          go_still_tail 15, (by kernel_rfl)
          change wpList _ _ _ _ _ w1.drew
          go_wp2
          refine ⟨⟨j' + 1, by omega, inv_step w w1 blk 64 j' _ hlt (by omega) hB Hz.out h0 h1 h2 ?_, by go_num⟩, by simp [intOf]; omega⟩
          rw [if_neg (by omega)]; rfl
        · obtain rfl : j' = 64 := by omega
          rw [schA_full] at h2
          go_wp2_with (first | (refine wpList_load_row rfl 121 _ rfl (w.heap.size + 2) rfl 121 _ (0, 0) _ h2 Tryz.underlying121 rfl (by rw [ws_size, sch_length]; exact sz45) ?_) | (refine wpList_store_row rfl 121 _ _ rfl (w.heap.size + 1) _ rfl rfl 121 _ h1 (by rw [ws_size, sch_length]; exact sz45) (by rw [ws_size, ws_size, sch_length]; rfl) (ws_one _) ?_))
          exact bodyPost_ret (v := .agg (ws (sch blk 64))) (results_cell_row Tryz.results164 _ _ (w.heap.size + 1) 121 _ (0, 0) _ rfl (h1.row _) Tryz.underlying121 rfl (by rw [ws_size, sch_length]; exact sz45)) rfl ⟨rfl, below_setRow hB (by omega) _⟩
end Go.Proofs.YtnhokjnmpdiokaaGreatDoor

namespace Go.Proofs.YtnhokjnmpdiokaaGreatDoor
open Go.RowKit Go.Sha

theorem sz28 : (Tryz.prog.info? 171).map (·.size) = some 8 := by kernel_rfl
theorem sz30 : (Tryz.prog.info? 173).map (·.size) = some 64 := by kernel_rfl

theorem zeros8 : (#[Value.int .u32 0, .int .u32 0, .int .u32 0, .int .u32 0, .int .u32 0, .int .u32 0, .int .u32 0, .int .u32 0] : Array Value) = ws (List.replicate 8 0) := by rfl

theorem mix_pre (w w4 : World) (ch blk : List Int) (z : Array Value) (hK : KAt w)
    (hb : Below (((w.alloc (.cells (ws ch) 171)).alloc (.cells (bs blk) 173)).alloc (.cells z 171)).heap.size (((w.alloc (.cells (ws ch) 171)).alloc (.cells (bs blk) 173)).alloc (.cells z 171)) w4) :
    Below w.heap.size w w4 ∧ w.heap.size + 3 ≤ w4.heap.size ∧ At w4 w.heap.size (ws ch) 171 ∧ At w4 (w.heap.size + 1 + 1) z 171 ∧ KAt w4 := by
  have b0 : Below w.heap.size w (((w.alloc (.cells (ws ch) 171)).alloc (.cells (bs blk) 173)).alloc (.cells z 171)) :=
    (((Below.refl _ _).alloc (Nat.le_refl _) _).alloc (by simp) _).alloc (by simp; omega) _
  have b1 : Below w.heap.size w w4 := b0.trans (hb.mono (by simp; omega))
  refine ⟨b1, ?_, ?_, ?_, hK.below b1 hK.lt⟩
  · have := hb.size; simp at this; omega
  · exact (((At.new w _ _).alloc _).alloc _).below hb (by simp; omega)
  · exact (At.new2 w _ _ z 171).below hb (by simp)

def InvM (w : World) (W : Nat) (ch blk : List Int) (i a b c d e f g h : Value) (wr : World) : Prop :=
  ∃ k : Nat, k ≤ 64 ∧ i = .int .i64 k ∧ a = .int .u32 (rnds ch blk k).a ∧ b = .int .u32 (rnds ch blk k).b ∧ c = .int .u32 (rnds ch blk k).c ∧ d = .int .u32 (rnds ch blk k).d
    ∧ e = .int .u32 (rnds ch blk k).e ∧ f = .int .u32 (rnds ch blk k).f ∧ g = .int .u32 (rnds ch blk k).g ∧ h = .int .u32 (rnds ch blk k).h
    ∧ Below w.heap.size w wr ∧ At wr w.heap.size (ws ch) 171 ∧ At wr (w.heap.size + 1 + 1) (ws (List.replicate 8 0)) 171 ∧ At wr W (ws (sch blk 64)) 121 ∧ KAt wr

set_option maxHeartbeats 1000000 in
set_option maxRecDepth 100000 in
theorem mix_any (ch blk : List Int) (w : World) (hch : ch.length = 8) (hn : blk.length = 64) (hK : KAt w) :
    Calls Tryz.prog 158 #[.agg (ws ch), .agg (bs blk)] w fun e w' => e = .returned (.agg (ws (mixL ch blk))) ∧ Below w.heap.size w w' := by
  have Hn := Lib.hid hn; clear hn
  have Hc := Lib.hid hch; clear hch
  have HK := Lib.hid hK; clear hK
  have hA := (At.new1 w (.cells (ws ch) 171) (bs blk) 173).alloc (.cells #[Value.int .u32 0, .int .u32 0, .int .u32 0, .int .u32 0, .int .u32 0, .int .u32 0, .int .u32 0, .int .u32 0] 171)
  go_enter Tryz.func158, Tryz.ntmps158
  go_wp2_with (refine wpList_load_row rfl 173 _ rfl (w.heap.size + 1) rfl 173 (bs blk) (0, 0) _ hA Tryz.underlying173 rfl (by rw [bs_size, Hn.out]; exact sz30) ?_)
  refine (sched_any blk _ Hn.out).mono ?_
  rintro e w4 ⟨rfl, hb4⟩
  clear hA
  obtain ⟨hB, hz, a0, a2, k4⟩ := mix_pre w w4 ch blk _ HK.out hb4
  clear hb4
  rw [zeros8] at a2
  have a5 := At.new w4 (ws (List.replicate 64 0)) 121
  rw [← zeros64] at a5
  go_wp2_with (refine wpList_store_row rfl 121 _ _ rfl w4.heap.size (ws (sch blk 64)) rfl rfl 121 _ a5 (by rw [ws_size, sch_length]; exact sz45) (by rw [ws_size, sch_length]; rfl) (ws_one _) ?_)
  rw [World.setRow_alloc_new]
  clear a5
  have hW : w.heap.size + 3 ≤ w4.heap.size := hz
  replace hB := hB.alloc (by omega) (.cells (ws (sch blk 64)) 121)
  have a5 := At.new w4 (ws (sch blk 64)) 121
  replace a0 := a0.alloc (.cells (ws (sch blk 64)) 121)
  replace a2 := a2.alloc (.cells (ws (sch blk 64)) 121)
  replace k4 : KAt (w4.alloc (.cells (ws (sch blk 64)) 121)) := k4.below (Below.alloc (Below.refl w4.heap.size w4) (Nat.le_refl _) _)  k4.lt
  generalize w4.heap.size = W at *
  generalize w4.alloc (.cells (ws (sch blk 64)) 121) = w5 at *
  have c0 := a0.get_ws 0 (by rw [Hc.out]; omega)
  have c1 := a0.get_ws 1 (by rw [Hc.out]; omega)
  have c2 := a0.get_ws 2 (by rw [Hc.out]; omega)
  have c3 := a0.get_ws 3 (by rw [Hc.out]; omega)
  have c4 := a0.get_ws 4 (by rw [Hc.out]; omega)
  have c5 := a0.get_ws 5 (by rw [Hc.out]; omega)
  have c6 := a0.get_ws 6 (by rw [Hc.out]; omega)
  have c7 := a0.get_ws 7 (by rw [Hc.out]; omega)
  simp only [Act.put]
  go_quiet (fail)
  replace hB := below_drewN hB nq
  replace a0 := a0.drewN nq
  replace a2 := a2.drewN nq
  replace a5 := a5.drewN nq
  replace k4 : KAt (w5.drewN nq) := k4
  clear c0 c1 c2 c3 c4 c5 c6 c7
  generalize w5.drewN nq = w55 at *
  clear nq
  have c4 := a0.get_ws 4 (by rw [Hc.out]; omega)
  have c5 := a0.get_ws 5 (by rw [Hc.out]; omega)
  have c6 := a0.get_ws 6 (by rw [Hc.out]; omega)
  have c7 := a0.get_ws 7 (by rw [Hc.out]; omega)
  go_wp2
  go_quiet (fail)
  replace hB := below_drewN hB nq
  replace a0 := a0.drewN nq
  replace a2 := a2.drewN nq
  replace a5 := a5.drewN nq
  replace k4 : KAt (w55.drewN nq) := k4
  clear c4 c5 c6 c7
  generalize w55.drewN nq = w6 at *
  clear nq
  go_wp2
  go_loopw [38, 6, 7, 8, 9, 10, 11, 12, 13] (fun i a b c d e f g h wr => InvM w W ch blk i a b c d e f g h wr) (fun i _ _ _ _ _ _ _ _ _ => 64 - (intOf i).toNat)
  case atStart => exact ⟨0, by omega, rfl, rfl, rfl, rfl, rfl, rfl, rfl, rfl, rfl, hB, a0, a2, a5, k4⟩
  case round =>
    clear hB a0 a2 a5 k4
    obtain ⟨k, hk, rfl, rfl, rfl, rfl, rfl, rfl, rfl, rfl, rfl, hB, a0, a2, a5, k4⟩ := hrel
    by_cases hlt : k < 64
    · have q0 : (k : Int) < 64 := by omega
      have q1 : (0 : Int) ≤ (k : Int) := by omega
      have ck := k4 k hlt
      have cw := a5.get_ws k (by rw [sch_length]; exact hlt)
      generalize hs : rnds ch blk k = s at *
      have Hs := Lib.hid hs; clear hs
      go_wp2_with (go_at_call 165; (first | (with_reducible refine (rotl6 _ _).mono ?_) | (with_reducible refine (rotl11 _ _).mono ?_) | (with_reducible refine (rotl25 _ _).mono ?_) | (with_reducible refine (rotl2 _ _).mono ?_) | (with_reducible refine (rotl13 _ _).mono ?_) | (with_reducible refine (rotl22 _ _).mono ?_)); rintro e w' ⟨rfl, rfl⟩)
      go_quiet (fail)
      replace hB := below_drewN hB nq
      replace a0 := a0.drewN nq
      replace a2 := a2.drewN nq
      replace a5 := a5.drewN nq
      replace k4 : KAt (wr.drewN nq) := k4
      clear ck cw
      generalize wr.drewN nq = w7 at *
      go_wp2_with (go_at_call 165; (first | (with_reducible refine (rotl6 _ _).mono ?_) | (with_reducible refine (rotl11 _ _).mono ?_) | (with_reducible refine (rotl25 _ _).mono ?_) | (with_reducible refine (rotl2 _ _).mono ?_) | (with_reducible refine (rotl13 _ _).mono ?_) | (with_reducible refine (rotl22 _ _).mono ?_)); rintro e w' ⟨rfl, rfl⟩)
      refine ⟨⟨k + 1, by omega, by go_num, ?_, ?_, ?_, ?_, ?_, ?_, ?_, ?_, hB, a0, a2, a5, k4⟩, by simp [intOf]; omega⟩
      all_goals (rw [rnds, Hs.out]; rfl)
    · obtain rfl : k = 64 := by omega
      have c0 := a0.get_ws 0 (by rw [Hc.out]; omega)
      have c1 := a0.get_ws 1 (by rw [Hc.out]; omega)
      have c2 := a0.get_ws 2 (by rw [Hc.out]; omega)
      have c3 := a0.get_ws 3 (by rw [Hc.out]; omega)
      have c4 := a0.get_ws 4 (by rw [Hc.out]; omega)
      have c5 := a0.get_ws 5 (by rw [Hc.out]; omega)
      have c6 := a0.get_ws 6 (by rw [Hc.out]; omega)
      have c7 := a0.get_ws 7 (by rw [Hc.out]; omega)
      go_wp2_with (refine wpList_store_row rfl 171 _ _ rfl (w.heap.size + 1 + 1) (ws (mixL ch blk)) rfl rfl 171 _ a2 sz28 rfl (ws_one _) ?_)
      exact bodyPost_ret (v := .agg (ws (mixL ch blk))) (results_cell_row Tryz.results158 _ _ (w.heap.size + 1 + 1) 171 _ (0, 0) _ rfl (a2.row _) Tryz.underlying171 rfl sz28) rfl ⟨rfl, below_setRow hB (by omega) _⟩

set_option maxHeartbeats 400000 in
theorem first_any (w : World) :
    Calls Tryz.prog 157 #[] w fun e w' => e = .returned (.agg (ws iv)) ∧ Below w.heap.size w w' := by
  have a0 := At.new w (ws (List.replicate 8 0)) 171
  rw [← zeros8] at a0
  go_enter Tryz.func157, Tryz.ntmps157
  go_wp2_with (refine wpList_store_row rfl 171 _ _ rfl (w.heap.size) (ws iv) rfl rfl 171 _ a0 sz28 rfl (ws_one _) ?_)
  exact bodyPost_ret (v := .agg (ws iv)) (results_cell_row Tryz.results157 _ _ w.heap.size 171 _ (0, 0) _ rfl (a0.row _) Tryz.underlying171 rfl sz28) rfl ⟨rfl, below_setRow ((Below.refl _ _).alloc (Nat.le_refl _) _) (Nat.le_refl _) _⟩
end Go.Proofs.YtnhokjnmpdiokaaGreatDoor

namespace Go.Proofs.YtnhokjnmpdiokaaGreatDoor
open Go.RowKit Go.Sha

theorem zerosB : (#[Value.int .u8 0, .int .u8 0, .int .u8 0, .int .u8 0, .int .u8 0, .int .u8 0, .int .u8 0, .int .u8 0, .int .u8 0, .int .u8 0, .int .u8 0, .int .u8 0, .int .u8 0, .int .u8 0, .int .u8 0, .int .u8 0, .int .u8 0, .int .u8 0, .int .u8 0, .int .u8 0, .int .u8 0, .int .u8 0, .int .u8 0, .int .u8 0, .int .u8 0, .int .u8 0, .int .u8 0, .int .u8 0, .int .u8 0, .int .u8 0, .int .u8 0, .int .u8 0, .int .u8 0, .int .u8 0, .int .u8 0, .int .u8 0, .int .u8 0, .int .u8 0, .int .u8 0, .int .u8 0, .int .u8 0, .int .u8 0, .int .u8 0, .int .u8 0, .int .u8 0, .int .u8 0, .int .u8 0, .int .u8 0, .int .u8 0, .int .u8 0, .int .u8 0, .int .u8 0, .int .u8 0, .int .u8 0, .int .u8 0, .int .u8 0, .int .u8 0, .int .u8 0, .int .u8 0, .int .u8 0, .int .u8 0, .int .u8 0, .int .u8 0, .int .u8 0] : Array Value) = bs (List.replicate 64 0) := by rfl

set_option maxHeartbeats 1000000 in
set_option maxRecDepth 100000 in
theorem take_any (b n k : Nat) (ch wt : List Int) (w : World) (hK : KAt w) (hb0 : b ≠ 3) (hn2 : n < 4611686018427387904) (h : Hat w b ch n wt k) :
    Calls Tryz.prog 144 #[.pointer (some ⟨b, 0, none⟩)] w fun e w' => e = .returned (.tuple #[]) ∧ Only b w w' ∧ Hat w' b (mixL (if n = 0 then iv else ch) wt) (n + 1) (List.replicate 64 0) 0 := by
  have HK := Lib.hid hK; clear hK
  have c8 := h.cell_n
  by_cases hn0 : n = 0
  · have t8 : ((n : Int) == 0) = true := beq_iff_eq.2 (by omega)
    rw [if_pos hn0]
    clear hn0
    go_enter Tryz.func144, Tryz.ntmps144
    go_wp2_with fail
    refine (first_any w).mono ?_
    rintro e w0 ⟨rfl, hb⟩
    have hA := h.below hb
    have oA : Only b w w0 := Only.of_below hb
    have t0 := hA.there 0 8 (by omega)
    clear h c8 hb
    go_upto_region 2 with (refine wpList_store_mid rfl 171 _ _ rfl b 0 (ws iv) rfl rfl t0 sz28 (ws_one _) ?_)
    replace hA := hA.set_ch iv iv_length
    change Code.wp _ _ _ _ (w0.setCells b 0 (iv.map (Value.int .u32)))
    replace oA := oA.trans (Only.cells b (iv.map (Value.int .u32)) 0 w0)
    simp only [Act.put]
    have kA := oA.k HK.out hb0
    generalize w0.setCells b 0 (iv.map (Value.int .u32)) = wA at *
    clear t0
    have s28 : (Tryz.prog.info? 171).map (·.size) = some (iv.map (Value.int .u32)).length := by rw [List.length_map, hA.h8]; exact sz28
    have s30 : (Tryz.prog.info? 173).map (·.size) = some (wt.map (Value.int .u8)).length := by rw [List.length_map, hA.h64]; exact sz30
    refine wp_region_any (by kernel_rfl) ?_
    change wpAny _ _ _ _ _ _ _ (World.drew _)
    refine take_at 0 (some 11) (.pointer (some ⟨b, 0, none⟩)) rfl rfl (by kernel_rfl) (by kernel_rfl) (by kernel_rfl) (fun _ _ _ h => h) rfl (fun _ => by go_simp) ?_
    simp only [Act.put, List.setIfInBounds_toArray, List.set_cons_zero, List.set_cons_succ]
    refine take_at 1 (some 12) (.pointer (some ⟨b, 0, none⟩)) rfl rfl (by kernel_rfl) (by kernel_rfl) (by kernel_rfl) (fun _ _ _ h => h) rfl (fun _ => by go_simp) ?_
    simp only [Act.put, List.setIfInBounds_toArray, List.set_cons_zero, List.set_cons_succ]
    refine take_at 2 (some 13) (.pointer (some ⟨b, 0, none⟩)) rfl rfl (by kernel_rfl) (by kernel_rfl) (by kernel_rfl) (fun _ _ _ h => h) rfl (fun _ => by go_simp) ?_
    simp only [Act.put, List.setIfInBounds_toArray, List.set_cons_zero, List.set_cons_succ]
    refine take_at 3 (some 14) (.pointer (some ⟨b, 0, none⟩)) rfl rfl (by kernel_rfl) (by kernel_rfl) (by kernel_rfl) (fun _ _ _ h => h) rfl (fun _ => by go_simp) ?_
    simp only [Act.put, List.setIfInBounds_toArray, List.set_cons_zero, List.set_cons_succ]
    refine take_at 5 (some 16) (.pointer (some ⟨b, 0, none⟩)) rfl rfl (by kernel_rfl) (by kernel_rfl) (by kernel_rfl) (fun _ _ _ h => h) rfl (fun _ => by go_simp) ?_
    simp only [Act.put, List.setIfInBounds_toArray, List.set_cons_zero, List.set_cons_succ]
    refine take_at 6 (some 17) (.pointer (some ⟨b, 0, none⟩)) rfl rfl (by kernel_rfl) (by kernel_rfl) (by kernel_rfl) (fun _ _ _ h => h) rfl (fun _ => by go_simp) ?_
    simp only [Act.put, List.setIfInBounds_toArray, List.set_cons_zero, List.set_cons_succ]
    refine take_at 7 (some 18) (.pointer (some ⟨b, 9, none⟩)) rfl rfl (by kernel_rfl) (by kernel_rfl) (by kernel_rfl) (fun _ _ _ h => h) rfl (fun _ => by go_simp) ?_
    simp only [Act.put, List.setIfInBounds_toArray, List.set_cons_zero, List.set_cons_succ]
    refine next_two 4 8 rfl rfl (by kernel_rfl) rfl rfl (fun K hK => ?_) (fun K hK => ?_)
    all_goals
      first
      | (refine at_load_mid (some 15) rfl 171 _ rfl b 0 rfl _ _ hA.drew.range_ch Tryz.underlying171 rfl s28 ?_; refine hK _ _ ?_; clear hK K; simp only [Act.put, List.setIfInBounds_toArray, List.set_cons_zero, List.set_cons_succ]; refine next_one 8 rfl (by kernel_rfl) rfl (fun K hK => ?_); refine at_load_mid (some 19) rfl 173 _ rfl b 9 rfl _ _ hA.drew.range_wt Tryz.underlying173 rfl s30 ?_; refine hK _ _ ?_; clear hK K; simp only [Act.put, List.setIfInBounds_toArray, List.set_cons_zero, List.set_cons_succ])
      | (refine at_load_mid (some 19) rfl 173 _ rfl b 9 rfl _ _ hA.drew.range_wt Tryz.underlying173 rfl s30 ?_; refine hK _ _ ?_; clear hK K; simp only [Act.put, List.setIfInBounds_toArray, List.set_cons_zero, List.set_cons_succ]; refine next_one 4 rfl (by kernel_rfl) rfl (fun K hK => ?_); refine at_load_mid (some 15) rfl 171 _ rfl b 0 rfl _ _ hA.drew.range_ch Tryz.underlying171 rfl s28 ?_; refine hK _ _ ?_; clear hK K; simp only [Act.put, List.setIfInBounds_toArray, List.set_cons_zero, List.set_cons_succ])
      refine next_one 9 rfl (by kernel_rfl) rfl (fun K hK => ?_)
      refine at_call (some 20) rfl 158 #[.agg (ws iv), .agg (bs wt)] (fun _ => by go_simp; exact ⟨rfl, rfl⟩) (fun v w' => v = .agg (ws (mixL iv wt)) ∧ Below wA.drew.heap.size wA.drew w') ((mix_any iv wt wA.drew hA.h8 hA.h64 kA).mono fun e w' he => ⟨_, he.1, rfl, he.2⟩) ?_
      rintro v w1 ⟨rfl, hb1⟩
      refine hK _ _ ?_; clear hK K; simp only [Act.put, List.setIfInBounds_toArray, List.set_cons_zero, List.set_cons_succ]
      have h1 := hA.drew.below hb1
      have o1 : Only b w w1 := oA.drew.trans (Only.of_below hb1)
      refine take_at 10 (some 21) (.pointer (some ⟨b, 0, none⟩)) rfl rfl (by kernel_rfl) (by kernel_rfl) (by kernel_rfl) (fun _ _ _ h => h) rfl (fun _ => by go_simp) ?_
      simp only [Act.put, List.setIfInBounds_toArray, List.set_cons_zero, List.set_cons_succ]
      refine take_at 11 (some 22) (.pointer (some ⟨b, 0, none⟩)) rfl rfl (by kernel_rfl) (by kernel_rfl) (by kernel_rfl) (fun _ _ _ h => h) rfl (fun _ => by go_simp) ?_
      simp only [Act.put, List.setIfInBounds_toArray, List.set_cons_zero, List.set_cons_succ]
      refine next_one 12 rfl (by kernel_rfl) rfl (fun K hK => ?_)
      refine at_store_mid rfl 171 _ _ rfl b 0 (ws (mixL iv wt)) rfl rfl (by rw [ws_size, mixL_length]; exact h1.there 0 8 (by omega)) sz28 (ws_one _) ?_
      refine hK _ _ ?_
      clear hK K
      refine wpAny_done (by kernel_rfl) ?_ _
      have h2 := h1.set_ch (mixL iv wt) (mixL_length _ _)
      have o2 := o1.trans (Only.cells b (ws (mixL iv wt)).toList 0 w1)
      change Hat (w1.setCells b 0 (ws (mixL iv wt)).toList) b _ _ _ _ at h2
      generalize w1.setCells b 0 (ws (mixL iv wt)).toList = w2 at *
      have c2 := h2.cell_n
      have f2 := h2.frozen 8
      have h3 : Hat (w2.setCell ⟨b, 8, none⟩ (.int .i64 ((n : Int) + 1))) b (mixL iv wt) (n + 1) wt k := h2.set_n (n + 1)
      have o3 := o2.trans (Only.set b 8 w2 (.int .i64 ((n : Int) + 1)))
      clear hA h1 o1 o2 hb1 h2
      go_upto_region 4 with (fail)
      generalize w2.setCell ⟨b, 8, none⟩ (.int .i64 ((n : Int) + 1)) = w3 at *
      have t3 := h3.there 9 64 (by omega)
      go_upto_region 5 with (refine wpList_store_mid rfl 173 _ _ rfl b 9 _ rfl rfl (by exact t3) (by exact sz30) (by rw [zerosB]; exact bs_one _) ?_)
      change Code.wp _ _ _ _ (w3.setCells b 9 ((List.replicate 64 0).map (Value.int .u8)))
      have h4 := h3.set_wt (List.replicate 64 0) (by simp)
      have o4 := o3.trans (Only.cells b ((List.replicate 64 0).map (Value.int .u8)) 9 w3)
      clear h3 o3 t3
      generalize w3.setCells b 9 ((List.replicate 64 0).map (Value.int .u8)) = w4 at *
      simp only [Act.put]
      have c4 := h4.cell_k
      have f4 := h4.frozen 73
      go_wp2
      go_end0
      exact ⟨rfl, o4.trans (Only.set _ _ _ _), h4.set_k 0⟩
  · have t8 : ((n : Int) == 0) = false := beq_eq_false_iff_ne.2 (by omega)
    rw [if_neg hn0]
    clear hn0
    go_enter Tryz.func144, Tryz.ntmps144
    go_wp2
    have hA := h
    have oA := Only.refl b w
    have kA := HK.out
    clear h c8
    have s28 : (Tryz.prog.info? 171).map (·.size) = some (ch.map (Value.int .u32)).length := by rw [List.length_map, hA.h8]; exact sz28
    have s30 : (Tryz.prog.info? 173).map (·.size) = some (wt.map (Value.int .u8)).length := by rw [List.length_map, hA.h64]; exact sz30
    refine wp_region_any (by kernel_rfl) ?_
    change wpAny _ _ _ _ _ _ _ (World.drew _)
    refine take_at 0 (some 11) (.pointer (some ⟨b, 0, none⟩)) rfl rfl (by kernel_rfl) (by kernel_rfl) (by kernel_rfl) (fun _ _ _ h => h) rfl (fun _ => by go_simp) ?_
    simp only [Act.put, List.setIfInBounds_toArray, List.set_cons_zero, List.set_cons_succ]
    refine take_at 1 (some 12) (.pointer (some ⟨b, 0, none⟩)) rfl rfl (by kernel_rfl) (by kernel_rfl) (by kernel_rfl) (fun _ _ _ h => h) rfl (fun _ => by go_simp) ?_
    simp only [Act.put, List.setIfInBounds_toArray, List.set_cons_zero, List.set_cons_succ]
    refine take_at 2 (some 13) (.pointer (some ⟨b, 0, none⟩)) rfl rfl (by kernel_rfl) (by kernel_rfl) (by kernel_rfl) (fun _ _ _ h => h) rfl (fun _ => by go_simp) ?_
    simp only [Act.put, List.setIfInBounds_toArray, List.set_cons_zero, List.set_cons_succ]
    refine take_at 3 (some 14) (.pointer (some ⟨b, 0, none⟩)) rfl rfl (by kernel_rfl) (by kernel_rfl) (by kernel_rfl) (fun _ _ _ h => h) rfl (fun _ => by go_simp) ?_
    simp only [Act.put, List.setIfInBounds_toArray, List.set_cons_zero, List.set_cons_succ]
    refine take_at 5 (some 16) (.pointer (some ⟨b, 0, none⟩)) rfl rfl (by kernel_rfl) (by kernel_rfl) (by kernel_rfl) (fun _ _ _ h => h) rfl (fun _ => by go_simp) ?_
    simp only [Act.put, List.setIfInBounds_toArray, List.set_cons_zero, List.set_cons_succ]
    refine take_at 6 (some 17) (.pointer (some ⟨b, 0, none⟩)) rfl rfl (by kernel_rfl) (by kernel_rfl) (by kernel_rfl) (fun _ _ _ h => h) rfl (fun _ => by go_simp) ?_
    simp only [Act.put, List.setIfInBounds_toArray, List.set_cons_zero, List.set_cons_succ]
    refine take_at 7 (some 18) (.pointer (some ⟨b, 9, none⟩)) rfl rfl (by kernel_rfl) (by kernel_rfl) (by kernel_rfl) (fun _ _ _ h => h) rfl (fun _ => by go_simp) ?_
    simp only [Act.put, List.setIfInBounds_toArray, List.set_cons_zero, List.set_cons_succ]
    refine next_two 4 8 rfl rfl (by kernel_rfl) rfl rfl (fun K hK => ?_) (fun K hK => ?_)
    all_goals
      first
      | (refine at_load_mid (some 15) rfl 171 _ rfl b 0 rfl _ _ hA.drew.range_ch Tryz.underlying171 rfl s28 ?_; refine hK _ _ ?_; clear hK K; simp only [Act.put, List.setIfInBounds_toArray, List.set_cons_zero, List.set_cons_succ]; refine next_one 8 rfl (by kernel_rfl) rfl (fun K hK => ?_); refine at_load_mid (some 19) rfl 173 _ rfl b 9 rfl _ _ hA.drew.range_wt Tryz.underlying173 rfl s30 ?_; refine hK _ _ ?_; clear hK K; simp only [Act.put, List.setIfInBounds_toArray, List.set_cons_zero, List.set_cons_succ])
      | (refine at_load_mid (some 19) rfl 173 _ rfl b 9 rfl _ _ hA.drew.range_wt Tryz.underlying173 rfl s30 ?_; refine hK _ _ ?_; clear hK K; simp only [Act.put, List.setIfInBounds_toArray, List.set_cons_zero, List.set_cons_succ]; refine next_one 4 rfl (by kernel_rfl) rfl (fun K hK => ?_); refine at_load_mid (some 15) rfl 171 _ rfl b 0 rfl _ _ hA.drew.range_ch Tryz.underlying171 rfl s28 ?_; refine hK _ _ ?_; clear hK K; simp only [Act.put, List.setIfInBounds_toArray, List.set_cons_zero, List.set_cons_succ])
      refine next_one 9 rfl (by kernel_rfl) rfl (fun K hK => ?_)
      refine at_call (some 20) rfl 158 #[.agg (ws ch), .agg (bs wt)] (fun _ => by go_simp; exact ⟨rfl, rfl⟩) (fun v w' => v = .agg (ws (mixL ch wt)) ∧ Below w.drew.heap.size w.drew w') ((mix_any ch wt w.drew hA.h8 hA.h64 kA).mono fun e w' he => ⟨_, he.1, rfl, he.2⟩) ?_
      rintro v w1 ⟨rfl, hb1⟩
      refine hK _ _ ?_; clear hK K; simp only [Act.put, List.setIfInBounds_toArray, List.set_cons_zero, List.set_cons_succ]
      have h1 := hA.drew.below hb1
      have o1 : Only b w w1 := oA.drew.trans (Only.of_below hb1)
      refine take_at 10 (some 21) (.pointer (some ⟨b, 0, none⟩)) rfl rfl (by kernel_rfl) (by kernel_rfl) (by kernel_rfl) (fun _ _ _ h => h) rfl (fun _ => by go_simp) ?_
      simp only [Act.put, List.setIfInBounds_toArray, List.set_cons_zero, List.set_cons_succ]
      refine take_at 11 (some 22) (.pointer (some ⟨b, 0, none⟩)) rfl rfl (by kernel_rfl) (by kernel_rfl) (by kernel_rfl) (fun _ _ _ h => h) rfl (fun _ => by go_simp) ?_
      simp only [Act.put, List.setIfInBounds_toArray, List.set_cons_zero, List.set_cons_succ]
      refine next_one 12 rfl (by kernel_rfl) rfl (fun K hK => ?_)
      refine at_store_mid rfl 171 _ _ rfl b 0 (ws (mixL ch wt)) rfl rfl (by rw [ws_size, mixL_length]; exact h1.there 0 8 (by omega)) sz28 (ws_one _) ?_
      refine hK _ _ ?_
      clear hK K
      refine wpAny_done (by kernel_rfl) ?_ _
      have h2 := h1.set_ch (mixL ch wt) (mixL_length _ _)
      have o2 := o1.trans (Only.cells b (ws (mixL ch wt)).toList 0 w1)
      change Hat (w1.setCells b 0 (ws (mixL ch wt)).toList) b _ _ _ _ at h2
      generalize w1.setCells b 0 (ws (mixL ch wt)).toList = w2 at *
      have c2 := h2.cell_n
      have f2 := h2.frozen 8
      have h3 : Hat (w2.setCell ⟨b, 8, none⟩ (.int .i64 ((n : Int) + 1))) b (mixL ch wt) (n + 1) wt k := h2.set_n (n + 1)
      have o3 := o2.trans (Only.set b 8 w2 (.int .i64 ((n : Int) + 1)))
      clear hA h1 o1 o2 hb1 h2
      go_upto_region 4 with (fail)
      generalize w2.setCell ⟨b, 8, none⟩ (.int .i64 ((n : Int) + 1)) = w3 at *
      have t3 := h3.there 9 64 (by omega)
      go_upto_region 5 with (refine wpList_store_mid rfl 173 _ _ rfl b 9 _ rfl rfl (by exact t3) (by exact sz30) (by rw [zerosB]; exact bs_one _) ?_)
      change Code.wp _ _ _ _ (w3.setCells b 9 ((List.replicate 64 0).map (Value.int .u8)))
      have h4 := h3.set_wt (List.replicate 64 0) (by simp)
      have o4 := o3.trans (Only.cells b ((List.replicate 64 0).map (Value.int .u8)) 9 w3)
      clear h3 o3 t3
      generalize w3.setCells b 9 ((List.replicate 64 0).map (Value.int .u8)) = w4 at *
      simp only [Act.put]
      have c4 := h4.cell_k
      have f4 := h4.frozen 73
      go_wp2
      go_end0
      exact ⟨rfl, o4.trans (Only.set _ _ _ _), h4.set_k 0⟩
end Go.Proofs.YtnhokjnmpdiokaaGreatDoor
