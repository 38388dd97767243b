/- The contracts of Len, padding and asBytes. -/
import Derived.Test.YtblhipdcgdhmiaaDoorWe
import Derived.Deep.OwnRows
namespace Go.Proofs.YtblhipdcgdhmiaaDoor
open Go.RowKit Go.Sha

theorem len_nil (w : World) : Calls Tryd.prog 60 #[.pointer none] w fun e w' => e = .returned (.int .i64 0) ∧ w = w' := by
  go_enter Tryd.func60, Tryd.ntmps60
  go_wp2
  go_ret
  exact ⟨rfl, rfl⟩
theorem sum_nil (w : World) : Calls Tryd.prog 55 #[.pointer none] w fun e w' => e = .returned (.slice none 0 0) ∧ w = w' := by
  go_enter Tryd.func55, Tryd.ntmps55
  go_wp2
  go_ret
  exact ⟨rfl, rfl⟩
set_option maxHeartbeats 400000 in
theorem len_any (bh : Nat) (l : List Int) (w : World) (hr : Rep w bh l) (hlen : l.length < 4611686018427387904) :
    Calls Tryd.prog 60 #[.pointer (some ⟨bh, 0, none⟩)] w fun e w' => e = .returned (.int .i64 l.length) ∧ ∃ n, w' = w.drewN n := by
  obtain ⟨bks, t, ch, h⟩ := hr
  have hl := h.len
  have cn := h.hat.cell_n
  have ck := h.hat.cell_k
  have ht := h.ht
  clear h
  generalize bks.length = n at *
  generalize t.length = k at *
  have w1 : IntKind.i64.wrap ((n : Int) * 64) = (n : Int) * 64 := IntWalk.i64_in _ (by omega)
  have w2 : IntKind.i64.wrap ((n : Int) * 64 + (k : Int)) = (n : Int) * 64 + (k : Int) := IntWalk.i64_in _ (by omega)
  have Hl := Lib.hid hl; clear hl
  go_enter Tryd.func60, Tryd.ntmps60
  go_wp2
  go_quiet (fail)
  go_wp2
  go_ret
  refine ⟨?_, _, rfl⟩
  rw [show (l.length : Int) = (n : Int) * 64 + (k : Int) by have := Hl.out; omega]
  rfl

theorem sz32 : (Tryd.prog.info? 96).map (·.size) = some 74 := by kernel_rfl

/-- A zero Hasher. -/
def zeroH : List Value := hcl (List.replicate 8 0) 0 (List.replicate 64 0) 0
theorem z32 : ∀ w, (zeroValue 96).run Tryd.prog w = .ok (.agg zeroH.toArray) w := (zero_of_info (n := 74) (by kernel_rfl)).1
theorem hcl_one (ch : List Int) (n : Nat) (wt : List Int) (k : Nat) : (hcl ch n wt k).toArray.all (·.oneCell') = true := by
  simp [hcl, Value.oneCell']
theorem rep_zero (w : World) : Rep (w.alloc (.cells zeroH.toArray 96)) w.heap.size [] :=
  ⟨[], [], List.replicate 8 0, by simp, rfl, by simp, Or.inl rfl, ⟨by simp, by simp [pad64], At.new w _ 96⟩⟩
theorem Hat.sized {w : World} {b : Nat} {ch : List Int} {n : Nat} {wt : List Int} {k : Nat} (h : Hat w b ch n wt k) : (Tryd.prog.info? 96).map (·.size) = some (hcl ch n wt k).toArray.size := by
  rw [List.size_toArray, hcl_length ch n wt k h.h8 h.h64]; exact sz32

theorem u8zero : (Tryd.prog.info? 5).map (fun i => (i.zero, i.size, i.bytes)) = some (some (.int .u8 0), 1, 1) := by kernel_rfl

def InvP (w : World) (n : Nat) (i : Value) (wr : World) : Prop := ∃ k : Nat, k ≤ 8 ∧ i = .int .i64 k ∧ Below w.heap.size w wr ∧ wr.heap.size = w.heap.size + 1 ∧ At wr w.heap.size (bs (padAt n k)) 5

theorem invP_start (w : World) (n S : Nat) (hS : S = padSize n) : InvP w n (.int .i64 0) (w.alloc (.cells ((madeCells #[Value.int .u8 0] S).setIfInBounds 0 (.int .u8 128)) 5)) := by
  refine ⟨0, by omega, rfl, (Below.refl _ _).alloc (Nat.le_refl _) _, by simp, ?_⟩
  rw [made_bs, bs_set, hS]
  exact At.new w _ 5
theorem invP_step (w wr : World) (n S k : Nat) (v : Int) (hk : k < 8) (hS : S = padSize n) (hv : v = cntByte n k) (hB : Below w.heap.size w wr) (hz : wr.heap.size = w.heap.size + 1) (h0 : At wr w.heap.size (bs (padAt n k)) 5) :
    InvP w n (.int .i64 ((k + 1 : Nat) : Int)) (wr.setCell ⟨w.heap.size, S - 1 - k, none⟩ (.int .u8 v)) := by
  subst hv hS
  refine ⟨k + 1, by omega, rfl, hB.setCell (Nat.le_refl _) _, by simpa using hz, ?_⟩
  have := h0.set (padSize n - 1 - k) (.int .u8 (cntByte n k))
  rwa [bs_set] at this

set_option maxHeartbeats 1000000 in
theorem pad_any (n : Nat) (w : World) (hn : n < 4611686018427387904) :
    Calls Tryd.prog 59 #[.int .i64 n] w fun e w' => e = .returned (.slice (some ⟨w.heap.size, 0, none⟩) (padSize n) (padSize n)) ∧ Below w.heap.size w w' ∧ w'.heap.size = w.heap.size + 1 ∧ At w' w.heap.size (bs (padL n)) 5 := by
  have hp := padSize_pos n
  have hmk := fun w => run_make_row' (P := Tryd.prog) 22 5 (.int .u8 0) 1 Tryd.underlying22 u8zero rfl .i64 .i64 (padSize n) (by omega) (by omega) w
  have n0 : (0 : Int) ≤ (n : Int) := by omega
  obtain ⟨r, hr⟩ : ∃ r, r = n % 64 := ⟨_, rfl⟩
  have hm : (n : Int) % 64 = (r : Int) := by omega
  have hr2 : r < 64 := by omega
  obtain ⟨S, hS⟩ : ∃ S, S = padSize n := ⟨_, rfl⟩
  rw [← hS] at hmk hp ⊢
  have m0 : (madeCells #[Value.int .u8 0] S)[0]? = some (.int .u8 0) := by rw [made_bs, bs_get _ _ (by simp; omega), show (List.replicate S (0 : Int)).getD 0 0 = 0 by simp [List.getElem?_replicate]; split <;> rfl]
  by_cases hs : 64 - r < 9
  · have e1 : (64 : Int) - (r : Int) + 64 = (S : Int) := by rw [hS]; unfold padSize; rw [← hr, if_pos hs]; omega
    have d1 : decide ((64 : Int) - (r : Int) < 9) = true := by simp; omega
    have HS := Lib.hid hS; clear hS
    have Hr := Lib.hid hr; clear hr
    go_enter Tryd.func59, Tryd.ntmps59
    go_wp2
    go_loopw [21] (fun i wr => InvP w n i wr) (fun i _ => 8 - (intOf i).toNat)
    case atStart => exact invP_start w n S HS.out
    case round =>
      obtain ⟨k, hk, rfl, hB, hz, h0⟩ := hrel
      have Hz := Lib.hid hz; clear hz
      by_cases hlt : k < 8
      · have q1 : (0 : Int) ≤ (k : Int) := by omega
        have q2 : (0 : Int) ≤ 8 * (k : Int) := by omega
        have q3 : ((8 : Int) * (k : Int)).toNat = 8 * k := by omega
        have q4 : min (8 * k) 64 = 8 * k := by omega
        have p1 : (0 : Int) ≤ (S : Int) - 1 - (k : Int) := by omega
        have p2 : (S : Int) - 1 - (k : Int) < (S : Int) := by omega
        have p3 : ((S : Int) - 1 - (k : Int)).toNat = S - 1 - k := by omega
        have c0 : wr.cell? ⟨w.heap.size, S - 1 - k, none⟩ = some (.int .u8 ((padAt n k)[S - 1 - k]?.getD 0)) := h0.get_bs _ (by rw [padAt_length, ← HS.out]; omega)
        have f0 := h0.frozen (S - 1 - k)
        go_wp2
        exact ⟨invP_step w wr n S k _ hlt HS.out rfl hB Hz.out h0, by simp [intOf]; omega⟩
      · obtain rfl : k = 8 := by omega
        go_wp2
        go_ret
        exact ⟨rfl, hB, Hz.out, h0⟩
  · have e1 : (64 : Int) - (r : Int) = (S : Int) := by rw [hS]; unfold padSize; rw [← hr, if_neg hs]; omega
    have HS := Lib.hid hS; clear hS
    have Hr := Lib.hid hr; clear hr
    have d1 : decide ((S : Int) < 9) = false := by simp; omega
    go_enter Tryd.func59, Tryd.ntmps59
    go_wp2
    go_loopw [21] (fun i wr => InvP w n i wr) (fun i _ => 8 - (intOf i).toNat)
    case atStart => exact invP_start w n S HS.out
    case round =>
      obtain ⟨k, hk, rfl, hB, hz, h0⟩ := hrel
      have Hz := Lib.hid hz; clear hz
      by_cases hlt : k < 8
      · have q1 : (0 : Int) ≤ (k : Int) := by omega
        have q2 : (0 : Int) ≤ 8 * (k : Int) := by omega
        have q3 : ((8 : Int) * (k : Int)).toNat = 8 * k := by omega
        have q4 : min (8 * k) 64 = 8 * k := by omega
        have p1 : (0 : Int) ≤ (S : Int) - 1 - (k : Int) := by omega
        have p2 : (S : Int) - 1 - (k : Int) < (S : Int) := by omega
        have p3 : ((S : Int) - 1 - (k : Int)).toNat = S - 1 - k := by omega
        have c0 : wr.cell? ⟨w.heap.size, S - 1 - k, none⟩ = some (.int .u8 ((padAt n k)[S - 1 - k]?.getD 0)) := h0.get_bs _ (by rw [padAt_length, ← HS.out]; omega)
        have f0 := h0.frozen (S - 1 - k)
        go_wp2
        exact ⟨invP_step w wr n S k _ hlt HS.out rfl hB Hz.out h0, by simp [intOf]; omega⟩
      · obtain rfl : k = 8 := by omega
        go_wp2
        go_ret
        exact ⟨rfl, hB, Hz.out, h0⟩

def bytesA (ch : List Int) (k : Nat) : List Int := wordsB (ch.take k) ++ List.replicate (32 - 4 * k) 0
def InvB (w : World) (ch : List Int) (o i : Value) (wr : World) : Prop :=
  ∃ k : Nat, k ≤ 8 ∧ i = .int .i64 k ∧ o = .slice (some ⟨w.heap.size + 1, 0, none⟩) (4 * k) 32 ∧ Below w.heap.size w wr ∧ w.heap.size + 2 ≤ wr.heap.size ∧ At wr (w.heap.size + 1) (bs (bytesA ch k)) 5

theorem u32one : Tryd.prog.underlying 90 = some (.int .u32) := by kernel_rfl
theorem sz26 : (Tryd.prog.info? 90).map (·.size) = some 1 := by kernel_rfl

theorem bytesA_step (ch : List Int) (k : Nat) (h8 : ch.length = 8) (hk : k < 8) : (bytesA ch k).take (4 * k) ++ wbytes (ch[k]?.getD 0) ++ (bytesA ch k).drop (4 * k + 4) = bytesA ch (k + 1) := by
  have hl : (wordsB (ch.take k)).length = 4 * k := by rw [wordsB_length, List.length_take]; omega
  have ht : ch.take (k + 1) = ch.take k ++ [ch[k]?.getD 0] := by
    rw [List.take_succ_eq_append_getElem (by omega), List.getElem?_eq_getElem (by omega)]; rfl
  unfold bytesA
  rw [List.take_append_of_le_length (by omega), List.take_of_length_le (by omega), List.drop_append, List.drop_of_length_le (by omega), ht, wordsB_snoc, hl]
  simp; omega
theorem invB_step (w wr : World) (ch : List Int) (k : Nat) (x : Int) (hx : x = ch[k]?.getD 0) (h8 : ch.length = 8) (hk : k < 8) (hB : Below w.heap.size w wr) (hz : w.heap.size + 2 ≤ wr.heap.size) (h0 : At wr (w.heap.size + 1) (bs (bytesA ch k)) 5) :
    InvB w ch (.slice (some ⟨w.heap.size + 1, 0, none⟩) (4 * k + 4) 32) (.int .i64 ((k + 1 : Nat) : Int)) ((wr.alloc (.cells (bs (wbytes x)) 5)).setCells (w.heap.size + 1) (4 * k) ((wbytes x).map (Value.int .u8))) := by
  subst hx
  refine ⟨k + 1, by omega, rfl, by rw [show 4 * (k + 1) = 4 * k + 4 by omega], below_setCells _ _ _ (hB.alloc (by omega) _) (by omega), by rw [size_setCells]; simp; omega, ?_⟩
  have := (h0.alloc (.cells (bs (wbytes (ch[k]?.getD 0))) 5)).put_bs (4 * k) (wbytes (ch[k]?.getD 0)) (by simp [bytesA, wordsB_length, wbytes]; omega)
  rw [← bytesA_step ch k h8 hk]
  exact this

set_option maxHeartbeats 1000000 in
theorem bytes_any (ch : List Int) (w : World) (h8 : ch.length = 8) :
    Calls Tryd.prog 61 #[.agg (ws ch)] w fun e w' => e = .returned (.slice (some ⟨w.heap.size + 1, 0, none⟩) 32 32) ∧ Below w.heap.size w w' ∧ At w' (w.heap.size + 1) (bs (wordsB ch)) 5 := by
  have H8 := Lib.hid h8; clear h8
  have a0 := (At.new w (ws ch) 92).alloc (.cells (bs (List.replicate 32 0)) 5)
  have hmk : ∀ w, (Instr.makeSlice 22 (.int .i64 0) (.int .i64 32)).run Tryd.prog w = .ok (.slice (some ⟨w.heap.size, 0, none⟩) 0 32) (w.alloc (.cells (bs (List.replicate 32 0)) 5)) := fun _ => by kernel_rfl
  go_enter Tryd.func61, Tryd.ntmps61
  go_wp2_with (refine wpList_load_row rfl 92 _ rfl w.heap.size rfl 92 (ws ch) (0, 0) _ a0 Tryd.underlying92 rfl (by rw [ws_size, H8.out]; exact sz28) ?_)
  go_loopw [3, 8] (fun o i wr => InvB w ch o i wr) (fun _ i _ => 8 - (intOf i).toNat)
  case atStart => exact ⟨0, by omega, rfl, rfl, ((Below.refl _ _).alloc (Nat.le_refl _) _).alloc (by simp) _, by simp, At.new1 w _ _ 5⟩
  case round =>
    clear a0
    obtain ⟨k, hk, rfl, rfl, hB, hz, h0⟩ := hrel
    by_cases hlt : k < 8
    · have hix : ∀ w, (Instr.index 92 (.agg (ws ch)) (.int .i64 (k : Int))).run Tryd.prog w = .ok (.int .u32 (ch[k]?.getD 0)) w := fun w => run_index_ws 92 90 8 ch k w H8.out Tryd.underlying92 u32one sz26 hlt
      obtain ⟨x, hx⟩ : ∃ x, x = ch[k]?.getD 0 := ⟨_, rfl⟩
      rw [← hx] at hix
      have Hx := Lib.hid hx; clear hx
      have k8 : (k : Int) < 8 := by omega
      have h1 := h0.alloc (.cells (bs (wbytes x)) 5)
      have h2 := At.new wr (bs (wbytes x)) 5
      have hth := h1.there_bs (4 * k) 4 (by simp [bytesA, wordsB_length, H8.out]; omega)
      have hsrc := h2.range_bs
      have Hs := Lib.hid hsrc; clear hsrc
      have Hh := Lib.hid hth; clear hth
      go_wp2_with (refine list_append_room rfl (.tmp 11) (.tmp 23) 22 rfl 5 Tryd.underlying22 sz5 (w.heap.size + 1) 0 (4 * k) 32 rfl ⟨wr.heap.size, 0, none⟩ 4 4 ((wbytes x).map (Value.int .u8)) rfl rfl Hs.out (by simp [Value.oneCell']) (by omega) (by rw [Nat.zero_add]; exact Hh.out) ?_; rw [Nat.zero_add])
      exact ⟨invB_step w wr ch k x Hx.out H8.out hlt hB hz h0, by simp [intOf]; omega⟩
    · obtain rfl : k = 8 := by omega
      go_wp2
      go_ret
      refine ⟨rfl, hB, ?_⟩
      have e : bytesA ch 8 = wordsB ch := by
        unfold bytesA
        rw [List.take_of_length_le (by rw [H8.out]; omega)]; simp
      rw [← e]; exact h0

end Go.Proofs.YtblhipdcgdhmiaaDoor
