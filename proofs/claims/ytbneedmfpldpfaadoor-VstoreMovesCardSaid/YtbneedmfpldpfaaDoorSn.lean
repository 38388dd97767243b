/- Contract of awake. -/
import Derived.Test.YtbneedmfpldpfaaDoorSm
import Derived.Lib.SlBytesConst
import Derived.Test.YtbneedmfpldpfaaDoorSl
set_option linter.unusedSimpArgs false
namespace Go.Proofs.YtbneedmfpldpfaaDoor
open Go.RowKit Go.Pth

def SA (a : Nat) : SV := ((SV.new 100).beg.made a [97] 1).beg.wrote a 0 [120]
theorem SA_nd (a : Nat) : (SA a).nd a = ⟨1, 0, 2, [120], [0], [true]⟩ := by
  unfold SA SV.wrote
  simp only [upd_same]
  have b1 := beg_same ((SV.new 100).beg.made a [97] 1)
  have b0 := beg_same (SV.new 100)
  rw [b1.2.1, b1.2.2.2.1]
  have e1 : ((SV.new 100).beg.made a [97] 1).nd a = newN 1 1 := by unfold SV.made; simp only [upd_same]; rw [b0.2.2.2.1]; rfl
  have e2 : ((SV.new 100).beg.made a [97] 1).clock = 1 := by unfold SV.made; simp only []; rw [b0.2.2.2.1]; rfl
  rw [e1, e2, write_new 1 1 [120] (by simp)]
  rfl
theorem SA_names (a : Nat) : (SA a).names = [([97], a)] := by
  unfold SA SV.wrote
  simp only [(beg_same _).1]
  unfold SV.made
  simp only [(beg_same _).1]
  rfl
theorem SA_acts (a : Nat) : (SA a).acts = [⟨[], [97], some a⟩] := by
  unfold SA SV.wrote
  simp only [(beg_same _).2.2.2.2.1]
  unfold SV.made
  simp only [(beg_same _).2.2.2.2.1]
  rfl
theorem SA_kept (a : Nat) : (SA a).kept = [] := by
  unfold SA SV.wrote
  simp only [(beg_same _).2.2.2.2.2.2]
  unfold SV.made
  simp only [(beg_same _).2.2.2.2.2.2]
  rfl
theorem SA_ids (a : Nat) : (SA a).ids = [a] := by
  unfold SA SV.wrote
  simp only [(beg_same _).2.2.1]
  unfold SV.made
  simp only [(beg_same _).2.2.1]
  rfl
theorem SA_clock (a : Nat) : (SA a).clock = 2 := by
  unfold SA SV.wrote
  simp only [(beg_same _).2.2.2.1]
  unfold SV.made
  simp only [(beg_same _).2.2.2.1]
  rfl
theorem SM_power (a : Nat) (p : B) (room : Int) : ((SV.new room).beg.made a p 1).power = 0 := by
  unfold SV.made; simp only []; exact beg_power0 rfl
theorem SA_power (a : Nat) : (SA a).power = 0 := by
  unfold SA SV.wrote; simp only []; exact beg_power0 (SM_power a _ _)
theorem SA_fit (a : Nat) : (SA a).Fit := by
  refine ⟨?_, ?_, by rw [SA_clock]; omega, by rw [SA_names]; simp, by rw [SA_acts]; simp⟩
  · unfold SA SV.wrote
    simp only [beg_left (SM_power a _ _)]
    unfold SV.made
    simp only [beg_left (show (SV.new 100).power = 0 from rfl)]
    simp [SV.new]
  · unfold SA SV.wrote
    simp only [beg_ops (SM_power a _ _)]
    unfold SV.made
    simp only [beg_ops (show (SV.new 100).power = 0 from rfl)]
    simp [SV.new]
theorem SM_fit (a : Nat) (p : B) (room : Int) : ((SV.new room).beg.made a p 1).Fit := by
  refine ⟨?_, ?_, ?_, ?_, ?_⟩
  · unfold SV.made; simp only [beg_left (show (SV.new room).power = 0 from rfl)]; simp [SV.new]
  · unfold SV.made; simp only [beg_ops (show (SV.new room).power = 0 from rfl)]; simp [SV.new]
  · unfold SV.made; simp only [(beg_same _).2.2.2.1]; simp [SV.new]
  · unfold SV.made; simp only [(beg_same _).1]; simp [SV.new]
  · unfold SV.made; simp only [(beg_same _).2.2.2.2.1]; simp [SV.new]
theorem SM_used (a : Nat) (p : B) (room : Int) : used ((SV.new room).beg.made a p 1).nd ((SV.new room).beg.made a p 1).names = 0 ∧ (((SV.new room).beg.made a p 1).nd a).now.length = 0 ∧ ((SV.new room).beg.made a p 1).room = room := by
  unfold SV.made
  simp only [(beg_same _).1, (beg_same _).2.2.2.2.2.1]
  simp [SV.new, used, upd_same, newN]
theorem tl97 : (⟨#[97]⟩ : ByteArray).toList = [97] := ByteArray.toList_mk [97]
theorem tl979 : (⟨#[97, 47, 98]⟩ : ByteArray).toList = [97, 47, 98] := ByteArray.toList_mk [97, 47, 98]

theorem bin_one (w : World) (x : Int) : Bin (w.alloc (.cells #[.int .u8 x] 5 (1, 2))) (.slice (some ⟨w.heap.size, 0, none⟩) 1 1) [x] (some ⟨w.heap.size, 0, none⟩) 1 w.heap.size 0 :=
  ⟨rfl, fun _ => rfl, fun j u hu => by
    have : (w.alloc (.cells #[.int .u8 x] 5 (1, 2))).heap[w.heap.size]? = some (.cells #[.int .u8 x] 5 (1, 2)) := heap_alloc_last w _
    rw [Nat.zero_add]
    simp only [World.cell?, this]
    rw [← hu]; simp [bts]⟩
theorem ints_two (w : World) (x y : Int) : IntsIn (w.alloc (.cells #[.int .i64 x, .int .i64 y] 3)) (.slice (some ⟨w.heap.size, 0, none⟩) 2 2) [x, y] :=
  ⟨_, 2, w.heap.size, 0, rfl, by simp, fun _ => rfl, fun j hj => by
    rw [Nat.zero_add, (At.new w #[.int .i64 x, .int .i64 y] 3).cell]
    match j, hj with
    | 0, _ => rfl
    | 1, _ => rfl⟩
theorem SA_any (a : Nat) : ((SA a).nd a).loose.any id = true := by rw [SA_nd]; rfl
theorem SA_takes_ab (a : Nat) : takes (SA a).names (kinds (SA a)) [97, 47, 98] = 8 := by
  unfold takes
  rw [SA_names, look_other _ _ _ (by decide), pab, if_neg (by decide), look_one]
  simp [kinds, SA_nd]
theorem SA_takes_a (a : Nat) : takes (SA a).beg.names (kinds (SA a).beg) [97] = 6 := by
  unfold takes
  rw [(beg_same _).1, SA_names, look_one]
theorem SB_fit (a : Nat) : (SA a).beg.Fit := by
  have h := SA_fit a
  have b := beg_same (SA a)
  have hp := SA_power a
  refine ⟨by rw [beg_left hp]; exact h.left, ?_, by rw [b.2.2.2.1]; exact h.clock, by rw [b.1]; exact h.names, by rw [b.2.2.2.2.1]; exact h.acts⟩
  rw [beg_ops hp]
  have : (SA a).ops = 2 := by
    unfold SA SV.wrote
    simp only [beg_ops (SM_power a _ _)]
    unfold SV.made
    simp only [beg_ops (show (SV.new 100).power = 0 from rfl)]
    rfl
  omega
theorem S5_file (a' : Nat) (room clock : Int) (nd : Nat → NV) (N : NV) (hk : N.kind = 1) : (SV.left1 room clock [a'] (upd nd a' N) [([97], a')] [([97], a')]).file [97] = (some a', 0) := by
  unfold SV.file SV.left1
  simp only [look_one, upd_same, hk, if_true]
set_option maxRecDepth 100000 in
set_option maxHeartbeats 8000000 in
theorem awake_any (w : World) : Calls Tryd.prog 6 #[] w fun e w' => e = .returned (.bool true) ∧ Ext w w' := by
  have N0 := Lib.hid (fun w => new_ok 100 w (by omega) (by omega))
  have N1 := Lib.hid new_neg
  go_enter Tryd.func6, Tryd.ntmps6
  go_wp2_with fail
  refine (N0.out w).mono ?_
  rintro e w1 ⟨rfl, e1, V1, L1, r1, l1⟩
  have R1 := Lib.hid r1
  have E1 := Lib.hid e1
  have L1h := Lib.hid l1
  have hsz := r1.cell.lt
  obtain ⟨b, hb⟩ : ∃ b, b = w.heap.size := ⟨_, rfl⟩
  rw [← hb] at R1 ⊢
  clear r1 e1 l1 hb N0
  have CA := Lib.hid (create_of b ⟨#[97]⟩ 0 w1 (add_ok b (SV.new 100) V1 L1 ⟨#[97]⟩ 1 w1 R1.out (new_fit 100) (by rw [tl97]; exact begE_ok rfl _ va) (by rw [tl97]; exact new_takes 100 _ pa) rfl))
  simp only [tl97] at CA
  unfold ptr at *
  go_wp2_with (go_at_call 9; refine (N1.out _).mono ?_; rintro e w' ⟨rfl, rfl⟩)
  refine (CA.out).mono ?_
  rintro e w2 ⟨rfl, a, V2, L2, na, r2, t2⟩
  have O2 := Lib.hid (own_step E1.out L1h.out t2)
  have R2 := Lib.hid r2
  have WR := write_ok b ((SV.new 100).beg.made a [97] 1) V2 L2 ⟨#[97]⟩ 0 [120] _ _ _ _ _ a (w2.alloc (.cells #[.int .u8 120] 5 (1, 2))) (r2.ext (Ext.alloc _ _)) (SM_fit a _ _) (by rw [tl97]; exact begE_ok (SM_power a _ _) _ va) (by rw [tl97]; exact made_file a _ rfl) (bin_one w2 120) (none_new r2) (by simp) (by simp) (by rw [(SM_used a _ _).1, (SM_used a _ _).2.1, (SM_used a _ _).2.2]; decide)
  rw [show ((0 : Nat) : Int) = 0 from rfl] at WR
  have HWR := Lib.hid WR
  unfold ptr at HWR
  clear WR r2 t2 CA na R1 N1 hsz
  have cv := Lib.run_convert_bytes_const (P := Tryd.prog) w2 22 5 #[.int .u8 120] 1 1 Tryd.underlying22 Tryd.underlying5
  go_wp2_with fail
  refine (HWR.out).mono ?_
  rintro e w3 ⟨rfl, V3, L3, r3, t3⟩
  have O3 := Lib.hid (own_step (O2.out.1.trans (Ext.alloc w2 (.cells #[.int .u8 120] 5 (1, 2)))) O2.out.2 t3)
  have r3 : Rep w3 b (SA a) V3 L3 := r3
  have R3 := Lib.hid r3
  have CO := crash_one b (SA a) V3 L3 _ 1 0 [97] a (w3.alloc (.cells #[.int .i64 1, .int .i64 0] 3)) (r3.ext (Ext.alloc _ _)) (ints_two w3 1 0) (by rw [SA_ids]; simp) (by omega) (fun w' he => by
    have := held_one b (SA a) V3 L3 [97] a w' ((r3.ext (Ext.alloc _ _)).ext he) (SA_acts a) (by rw [SA_kept]; simp) (by rw [SA_kept]; rfl)
    rw [SA_kept] at this
    exact this) (SA_any a)
  have HCO := Lib.hid CO
  unfold ptr at HCO
  clear CO r3 t3 HWR O2 R2 cv
  go_wp2_with fail
  refine (HCO.out).mono ?_
  rintro e w5 ⟨b5, a5, V5, L5, rfl, e5, r5⟩
  have E5 := Lib.hid (O3.out.1.trans ((Ext.alloc w3 (.cells #[.int .i64 1, .int .i64 0] 3)).trans e5))
  have X5 := Lib.hid ((Ext.alloc w3 (.cells #[.int .i64 1, .int .i64 0] 3)).trans e5)
  have RD := read_ok b5 _ V5 L5 ⟨#[97]⟩ a5 w5 r5 (by simp [SV.left1]) (by rw [tl97]; exact S5_file _ _ _ _ _ (by rw [SA_nd]; rfl))
  have hnow : (((SA a).nd a).crash 0).now = [0] := by rw [SA_nd, crash_a]
  simp only [SV.left1, upd_same, hnow] at RD
  have HRD := Lib.hid RD
  unfold ptr at HRD
  clear RD r5 e5 HCO hnow
  go_wp2_with fail
  refine (HRD.out).mono ?_
  rintro e w6 ⟨v6, rfl, rv6, e6, f6⟩
  have rv6' : Row w6 5 1 v6 1 (bts [0]) := rv6
  obtain ⟨g6, c6, hv6, hc6, -⟩ := Row.own rv6' (by omega)
  subst hv6
  have cl6 : w6.cell? ⟨g6, 0, none⟩ = some (.int .u8 0) := by rw [(Row.cell rv6' 0 (by omega)).1]; rfl
  have R6 := Lib.hid (R3.out.ext (X5.out.trans e6))
  have E6 := Lib.hid (E5.out.trans e6)
  have CK := Lib.hid (clock_any b (SA a) V3 L3 w6 R6.out)
  rw [SA_clock] at CK
  have C8 := Lib.hid (create_of b ⟨#[97, 47, 98]⟩ 8 w6 (add_err b (SA a) V3 L3 ⟨#[97, 47, 98]⟩ 1 8 w6 R6.out (SA_fit a) (by rw [tl979]; exact begE_ok (SA_power a) _ vab) (by rw [tl979]; exact SA_takes_ab a) (by omega)))
  have C6 := Lib.hid (fun w7 (r : Rep w7 b (SA a).beg V3 L3) => create_of b ⟨#[97]⟩ 6 w7 (add_err b (SA a).beg V3 L3 ⟨#[97]⟩ 1 6 w7 r (SB_fit a) (by rw [tl97]; exact begE_ok (beg_power0 (SA_power a)) _ va) (by rw [tl97]; exact SA_takes_a a) (by omega)))
  unfold ptr at CK C8 C6
  clear rv6 rv6' e6 f6 HRD hc6
  go_wp2_with (first | (go_at_call 16; refine (CK.out).mono ?_; rintro e w' ⟨rfl, rfl⟩) | (go_at_call 10; first | (refine (C8.out).mono ?_; rintro e w7 ⟨rfl, r7, t7⟩; have O7 := Lib.hid (own_step E6.out O3.out.2 t7); have R7 := Lib.hid r7; clear r7 t7) | (refine (C6.out _ R7.out).mono ?_; rintro e w8 ⟨rfl, r8, t8⟩; have O8 := Lib.hid (own_step O7.out.1 O7.out.2 t8); clear r8 t8)))
  go_ret
  exact ⟨rfl, O8.out.1⟩
end Go.Proofs.YtbneedmfpldpfaaDoor
