/- The contracts of Count, piece and Block, the code's and the document's. -/
import Derived.Test.YtfhgoedonjcekaaDoorWq
namespace Go.Proofs.YtfhgoedonjcekaaDoor
open Go.RowKit Go.Sha

theorem cntM (s b : Int) (w : World) : Calls Tryd.prog 62 #[.int .i64 s, .int .i64 b] w fun e w' => e = .returned (.int .i64 (cntL s b)) ∧ w = w' := by
  unfold cntL
  by_cases h1 : s < 0
  · rw [if_pos (by omega)]
    have d1 : decide (s < 0) = true := by simpa using h1
    go_enter Tryd.func62, Tryd.ntmps62
    go_wp2
    go_ret
    exact ⟨rfl, rfl⟩
  have d1 : decide (s < 0) = false := by simpa using h1
  by_cases h2 : 1048576 < s
  · rw [if_pos (by omega)]
    have d2 : decide (1048576 < s) = true := by simpa using h2
    go_enter Tryd.func62, Tryd.ntmps62
    go_wp2
    go_ret
    exact ⟨rfl, rfl⟩
  have d2 : decide (1048576 < s) = false := by simpa using h2
  by_cases h3 : b < 1
  · rw [if_pos (by omega)]
    have d3 : decide (b < 1) = true := by simpa using h3
    go_enter Tryd.func62, Tryd.ntmps62
    go_wp2
    go_ret
    exact ⟨rfl, rfl⟩
  have d3 : decide (b < 1) = false := by simpa using h3
  by_cases h4 : 4096 < b
  · rw [if_pos (by omega)]
    have d4 : decide (4096 < b) = true := by simpa using h4
    go_enter Tryd.func62, Tryd.ntmps62
    go_wp2
    go_ret
    exact ⟨rfl, rfl⟩
  have d4 : decide (4096 < b) = false := by simpa using h4
  rw [if_neg (by omega)]
  have b0 : ¬ b = 0 := by omega
  have w1 : IntKind.i64.wrap (s + b) = s + b := IntWalk.i64_in _ (by omega)
  have w2 : IntKind.i64.wrap (s + b - 1) = s + b - 1 := IntWalk.i64_in _ (by omega)
  have q0 : (s + b - 1).tdiv b = (s + b - 1) / b := Int.tdiv_eq_ediv_of_nonneg (by omega)
  have q1 : 0 ≤ (s + b - 1) / b := Int.ediv_nonneg (by omega) (by omega)
  have q2 : (s + b - 1) / b ≤ s + b - 1 := Int.ediv_le_self _ (by omega)
  have w3 : IntKind.i64.wrap ((s + b - 1) / b) = (s + b - 1) / b := IntWalk.i64_in _ (by omega)
  go_enter Tryd.func62, Tryd.ntmps62
  go_wp2
  go_ret
  exact ⟨rfl, rfl⟩
theorem cntR (s b : Int) (w : World) : Calls Tryd.prog 52 #[.int .i64 s, .int .i64 b] w fun e w' => e = .returned (.int .i64 (cntL s b)) ∧ w = w' := by
  unfold cntL
  by_cases h1 : s < 0
  · rw [if_pos (by omega)]
    have d1 : decide (s < 0) = true := by simpa using h1
    go_enter Tryd.func52, Tryd.ntmps52
    go_wp2
    go_ret
    exact ⟨rfl, rfl⟩
  have d1 : decide (s < 0) = false := by simpa using h1
  by_cases h2 : 1048576 < s
  · rw [if_pos (by omega)]
    have d2 : decide (1048576 < s) = true := by simpa using h2
    go_enter Tryd.func52, Tryd.ntmps52
    go_wp2
    go_ret
    exact ⟨rfl, rfl⟩
  have d2 : decide (1048576 < s) = false := by simpa using h2
  by_cases h3 : b < 1
  · rw [if_pos (by omega)]
    have d3 : decide (b < 1) = true := by simpa using h3
    go_enter Tryd.func52, Tryd.ntmps52
    go_wp2
    go_ret
    exact ⟨rfl, rfl⟩
  have d3 : decide (b < 1) = false := by simpa using h3
  by_cases h4 : 4096 < b
  · rw [if_pos (by omega)]
    have d4 : decide (4096 < b) = true := by simpa using h4
    go_enter Tryd.func52, Tryd.ntmps52
    go_wp2
    go_ret
    exact ⟨rfl, rfl⟩
  have d4 : decide (4096 < b) = false := by simpa using h4
  rw [if_neg (by omega)]
  have b0 : ¬ b = 0 := by omega
  have w1 : IntKind.i64.wrap (s + b) = s + b := IntWalk.i64_in _ (by omega)
  have w2 : IntKind.i64.wrap (s + b - 1) = s + b - 1 := IntWalk.i64_in _ (by omega)
  have q0 : (s + b - 1).tdiv b = (s + b - 1) / b := Int.tdiv_eq_ediv_of_nonneg (by omega)
  have q1 : 0 ≤ (s + b - 1) / b := Int.ediv_nonneg (by omega) (by omega)
  have q2 : (s + b - 1) / b ≤ s + b - 1 := Int.ediv_le_self _ (by omega)
  have w3 : IntKind.i64.wrap ((s + b - 1) / b) = (s + b - 1) / b := IntWalk.i64_in _ (by omega)
  go_enter Tryd.func52, Tryd.ntmps52
  go_wp2
  go_ret
  exact ⟨rfl, rfl⟩

/-- A block that there is. -/
theorem cnt_lt (n : Nat) (B k : Int) (hk0 : 0 ≤ k) (hk : k < cntL n B) : 1 ≤ B ∧ B ≤ 4096 ∧ k.toNat * B.toNat < n := by
  unfold cntL at hk
  by_cases h : (n : Int) < 0 ∨ (n : Int) > 1048576 ∨ B < 1 ∨ B > 4096
  · rw [if_pos h] at hk; omega
  · rw [if_neg h] at hk
    refine ⟨by omega, by omega, ?_⟩
    obtain ⟨b, rfl⟩ := Int.eq_ofNat_of_zero_le (show 0 ≤ B by omega)
    obtain ⟨q, rfl⟩ := Int.eq_ofNat_of_zero_le hk0
    have h1 : (q + 1 : Int) * b ≤ (n : Int) + b - 1 := by
      have := (Int.le_ediv_iff_mul_le (c := (b : Int)) (a := (q + 1 : Int)) (b := (n : Int) + b - 1) (by omega)).1 (by omega)
      exact this
    rw [Int.add_mul] at h1
    simp only [Int.toNat_natCast]
    have h2 : ((q * b : Nat) : Int) = (q : Int) * (b : Int) := by push_cast; rfl
    omega
theorem blk_src {w : World} {ad : Option Addr} {m : List Int} {cap bh : Nat} (B k : Nat) (h : Src w (.slice ad m.length cap) m bh) (hk : k * B < m.length) : ∃ sb so, ad = some ⟨sb, so, none⟩ ∧ m.length ≤ cap ∧
    ∀ n, n = min B (m.length - k * B) → Src w (.slice (some ⟨sb, so + k * B, none⟩) n (cap - k * B)) (blkL m B k) bh := by
  obtain ⟨ad', cap', sb, so, e, x2, x3, x4, x5, x6⟩ := h
  injection e with e1 _ e3
  subst e1 e3
  obtain rfl := x3 (by omega)
  have hl : (blkL m B k).length = min B (m.length - k * B) := by rw [blkL, List.length_take, List.length_drop]
  refine ⟨sb, so, rfl, x2, fun n hn => ⟨_, cap - k * B, sb, so + k * B, by rw [hl, hn], by rw [hl]; omega, fun _ => rfl, x4, fun j hj => ?_, fun h => by cases h⟩⟩
  rw [hl] at hj
  rw [Nat.add_assoc, x5 (k * B + j) (by omega), blkL, List.getElem?_take_of_lt (by omega), List.getElem?_drop]

set_option maxHeartbeats 400000 in
theorem piece_any (v : Value) (m : List Int) (B k : Nat) (w : World) (bh : Nat) (hs : Src w v m bh) (hB : 1 ≤ B) (hB2 : B ≤ 4096) (hk : k * B < m.length) (hm : m.length ≤ 1048576) :
    Calls Tryd.prog 64 #[v, .int .i64 B, .int .i64 k] w fun e w' => w = w' ∧ ∃ v', e = .returned v' ∧ ∀ c, Src w v m c → Src w v' (blkL m B k) c := by
  obtain ⟨ad, cap, rfl⟩ := hs.len
  obtain ⟨sb, so, rfl, hc, hx⟩ := blk_src B k hs hk
  have H : ∀ c, Src w (.slice (some ⟨sb, so, none⟩) m.length cap) m c → ∀ n, n = min B (m.length - k * B) → Src w (.slice (some ⟨sb, so + k * B, none⟩) n (cap - k * B)) (blkL m B k) c := fun c h => by
    obtain ⟨sb', so', e, _, hx'⟩ := blk_src B k h hk
    injection e with e
    injection e with e1 e2
    subst e1 e2
    exact hx'
  have HH := Lib.hid H; clear H hx hs
  have hkB : ((k * B : Nat) : Int) = (k : Int) * (B : Int) := by push_cast; rfl
  have l1 : (0 : Int) ≤ (k : Int) * (B : Int) := by omega
  generalize m.length = N at *
  go_enter Tryd.func64, Tryd.ntmps64
  go_wp2
  all_goals go_ret
  all_goals exact ⟨rfl, _, rfl, fun c h => HH.out c h _ (by omega)⟩

/-- The k-th block, none if there is none. -/
def blockT (m : List Int) (B k : Int) : List Int := if 0 ≤ k ∧ k < cntL m.length B then blkL m B.toNat k.toNat else []

set_option maxHeartbeats 1000000 in
theorem block_any (v : Value) (m : List Int) (B k : Int) (w : World) (hs : Src w v m w.heap.size) (hm : m.length ≤ 1048576) :
    Calls Tryd.prog 81 #[v, .int .i64 B, .int .i64 k] w (BPost w (blockT m B k)) := by
  obtain ⟨ad, cap, ev⟩ := hs.len
  subst ev
  by_cases hk0 : 0 ≤ k
  · have d1 : decide (k < 0) = false := by simp; omega
    by_cases hk : k < cntL m.length B
    · obtain ⟨hB1, hB2, hkB⟩ := cnt_lt m.length B k hk0 hk
      rw [blockT, if_pos ⟨hk0, hk⟩]
      obtain ⟨b, rfl⟩ := Int.eq_ofNat_of_zero_le (show 0 ≤ B by omega)
      obtain ⟨q, rfl⟩ := Int.eq_ofNat_of_zero_le hk0
      simp only [Int.toNat_natCast] at hkB ⊢
      have d2 : decide (cntL (m.length : Int) b ≤ q) = false := by simp; omega
      go_enter Tryd.func81, Tryd.ntmps81
      go_wp2_with fail
      refine (cntM m.length b w).mono ?_
      rintro e w' ⟨rfl, rfl⟩
      go_wp2_with fail
      refine (piece_any _ m b q w _ hs (by omega) (by omega) hkB hm).mono ?_
      rintro e w' ⟨rfl, v', rfl, hv⟩
      go_wp2_with fail
      refine (clone_any v' _ w (hv _ hs) (by rw [blkL, List.length_take]; omega)).mono ?_
      rintro e w' ⟨v2, rfl, e2, o2⟩
      go_wp2
      go_ret
      exact ⟨v2, rfl, e2, o2⟩
    · rw [blockT, if_neg (by omega)]
      have d2 : decide (cntL (m.length : Int) B ≤ k) = true := by simp; omega
      have d3 : cntL (m.length : Int) B ≤ k := by omega
      clear hk
      go_enter Tryd.func81, Tryd.ntmps81
      go_wp2_with fail
      refine (cntM m.length B w).mono ?_
      rintro e w' ⟨rfl, rfl⟩
      go_wp2
      go_ret
      exact ⟨_, rfl, Ext.refl w, OwnB.nil w _⟩
  · have d1 : decide (k < 0) = true := by simp; omega
    rw [blockT, if_neg (by omega)]
    clear hk0
    go_enter Tryd.func81, Tryd.ntmps81
    go_wp2
    go_ret
    exact ⟨_, rfl, Ext.refl w, OwnB.nil w _⟩

set_option maxHeartbeats 1000000 in
theorem rblock_any (v : Value) (m : List Int) (B k : Int) (w : World) (bh : Nat) (hs : Src w v m bh) (hm : m.length ≤ 1048576) :
    Calls Tryd.prog 57 #[v, .int .i64 B, .int .i64 k] w fun e w' => w = w' ∧ ∃ v', e = .returned v' ∧ ∀ c, Src w v m c → Src w v' (blockT m B k) c := by
  obtain ⟨ad, cap, ev⟩ := hs.len
  subst ev
  have snil : ∀ c, Src w (.slice ad m.length cap) m c → Src w (.slice none 0 0) [] c := fun c _ => ⟨none, 0, c + 1, 0, rfl, by simp, fun h => by simp at h, by omega, fun j hj => by simp at hj, fun _ => rfl⟩
  by_cases hk0 : 0 ≤ k
  · have d1 : decide (k < 0) = false := by simp; omega
    by_cases hk : k < cntL m.length B
    · obtain ⟨hB1, hB2, hkB⟩ := cnt_lt m.length B k hk0 hk
      rw [blockT, if_pos ⟨hk0, hk⟩]
      obtain ⟨b, rfl⟩ := Int.eq_ofNat_of_zero_le (show 0 ≤ B by omega)
      obtain ⟨q, rfl⟩ := Int.eq_ofNat_of_zero_le hk0
      simp only [Int.toNat_natCast] at hkB ⊢
      have d2 : decide (cntL (m.length : Int) b ≤ q) = false := by simp; omega
      obtain ⟨sb, so, rfl, hc, hx⟩ := blk_src b q hs hkB
      have H : ∀ c, Src w (.slice (some ⟨sb, so, none⟩) m.length cap) m c → ∀ n, n = min b (m.length - q * b) → Src w (.slice (some ⟨sb, so + q * b, none⟩) n (cap - q * b)) (blkL m b q) c := fun c h => by
        obtain ⟨sb', so', e, _, hx'⟩ := blk_src b q h hkB
        injection e with e
        injection e with e1 e2
        subst e1 e2
        exact hx'
      have HH := Lib.hid H; clear H hx hs snil
      have hqb : ((q * b : Nat) : Int) = (q : Int) * (b : Int) := by push_cast; rfl
      have l1 : (0 : Int) ≤ (q : Int) * (b : Int) := by omega
      have e1 : ((q : Int) + 1) * (b : Int) = (q : Int) * b + b := by rw [Int.add_mul, Int.one_mul]
      have q1 : q * 1 ≤ q * b := Nat.mul_le_mul_left q (by omega)
      replace q1 : (q : Int) ≤ (q : Int) * b := by omega
      generalize m.length = N at *
      clear d1 hk0
      go_enter Tryd.func57, Tryd.ntmps57
      go_wp2_with fail
      refine (cntR N b w).mono ?_
      rintro e w' ⟨rfl, rfl⟩
      go_wp2
      all_goals go_ret
      all_goals exact ⟨rfl, _, rfl, fun c h => HH.out c h _ (by omega)⟩
    · rw [blockT, if_neg (by omega)]
      have d2 : decide (cntL (m.length : Int) B ≤ k) = true := by simp; omega
      have d3 : cntL (m.length : Int) B ≤ k := by omega
      clear hk
      go_enter Tryd.func57, Tryd.ntmps57
      go_wp2_with fail
      refine (cntR m.length B w).mono ?_
      rintro e w' ⟨rfl, rfl⟩
      go_wp2
      go_ret
      exact ⟨rfl, _, rfl, snil⟩
  · have d1 : decide (k < 0) = true := by simp; omega
    rw [blockT, if_neg (by omega)]
    clear hk0
    go_enter Tryd.func57, Tryd.ntmps57
    go_wp2
    go_ret
    exact ⟨rfl, _, rfl, snil⟩
end Go.Proofs.YtfhgoedonjcekaaDoor
