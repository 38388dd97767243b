/- The contracts of the Reader's small functions: Err, Left, fail, take, Clone. The contracts of asNumber, and of the Reader's Num, Word, counted, Bytes, Text, NewReader. -/
import Derived.Test.YtnhokjnmpdiokaaGreatDoorRows
import Derived.Test.YtnhokjnmpdiokaaGreatDoorCa
import Derived.Laws.Cover3
namespace Go.Proofs.YtnhokjnmpdiokaaGreatDoor
open Go.RowKit Go.Sha

theorem err_any (b : Nat) (l : List Int) (er : Int) (w : World) (h : RSt w b l er) : Calls Tryz.prog 97 #[.pointer (some ⟨b, 0, none⟩)] w fun e w' => e = .returned (.int .i64 er) ∧ w = w' := by
  obtain ⟨v, h1, h2, h3⟩ := h
  have c1 : w.cell? ⟨b, 1, none⟩ = some (.int .i64 er) := by rw [h1.cell]; rfl
  clear h1 h2 h3
  go_enter Tryz.func97, Tryz.ntmps97
  go_wp2
  go_ret
  exact ⟨rfl, rfl⟩
theorem left_any (b : Nat) (l : List Int) (er : Int) (w : World) (h : RSt w b l er) : Calls Tryz.prog 92 #[.pointer (some ⟨b, 0, none⟩)] w fun e w' => e = .returned (.int .i64 (l.length : Int)) ∧ w = w' := by
  obtain ⟨v, h1, h2, h3⟩ := h
  obtain ⟨ad, cap, rfl⟩ := (h2 b (Nat.le_refl _)).len
  have c1 : w.cell? ⟨b, 0, none⟩ = some (.slice ad l.length cap) := by rw [h1.cell]; rfl
  clear h1 h2 h3
  go_enter Tryz.func92, Tryz.ntmps92
  go_wp2
  go_ret
  exact ⟨rfl, rfl⟩
theorem fail_err (b : Nat) (l : List Int) (er y : Int) (w : World) (h : RSt w b l er) (he : er ≠ 0) : Calls Tryz.prog 118 #[.pointer (some ⟨b, 0, none⟩), .int .i64 y] w fun e w' => e = .returned (.tuple #[]) ∧ w = w' := by
  have t1 : (er == 0) = false := beq_eq_false_iff_ne.2 he
  clear he
  go_enter Tryz.func118, Tryz.ntmps118
  go_wp2_with fail
  refine (err_any b l er w h).mono ?_
  rintro e w' ⟨rfl, rfl⟩
  clear h
  go_wp2
  go_end0
  exact ⟨rfl, rfl⟩
theorem sz67 : (Tryz.prog.info? 161).map (·.size) = some 2 := by kernel_rfl
theorem fail_ok (b : Nat) (l : List Int) (y : Int) (w : World) (h : RSt w b l 0) : Calls Tryz.prog 118 #[.pointer (some ⟨b, 0, none⟩), .int .i64 y] w fun e w' => e = .returned (.tuple #[]) ∧ Only b w w' ∧ RSt w' b [] y := by
  go_enter Tryz.func118, Tryz.ntmps118
  go_wp2_with fail
  refine (err_any b l 0 w h).mono ?_
  rintro e w' ⟨rfl, rfl⟩
  obtain ⟨v, h1, h2, h3⟩ := h
  have h4 : At w b [v, .int .i64 0].toArray 161 := h1
  have t1 : w.there b 0 2 := fun j hj => ⟨by rw [h1.cell]; simp; omega, h1.frozen _⟩
  clear h2 h3
  go_wp2_with (refine wpList_store_mid rfl 161 _ _ rfl b 0 #[.slice none 0 0, .int .i64 y] rfl rfl t1 sz67 (by simp [Value.oneCell']) ?_)
  go_end0
  refine ⟨rfl, Only.cells b _ 0 w, .slice none 0 0, ?_, fun bh _ => Src.nil _ bh, fun _ => rfl⟩
  exact At.cells (t := 161) [.slice none 0 0, .int .i64 y] [v, .int .i64 0] 0 w h4 (by simp)

theorem clone_at (v : Value) (m : List Int) (b : Nat) (w : World) (hs : Src w v m b) (hl : m.length ≤ 70368744177664) : Calls Tryz.prog 59 #[v] w (BPost w m) := by
  have hs' := hs
  obtain ⟨ad, cap, xb, xo, rfl, x2, x3, x4, x5, x6⟩ := hs
  cases ad with
  | none =>
    have h0 : m = [] := List.length_eq_zero_iff.1 (Nat.eq_zero_of_not_pos fun hp => by cases x3 hp)
    subst h0
    obtain rfl := x6 rfl
    clear x2 x3 x4 x5 x6 hs'
    have hq := eql_nil
    go_enter Tryz.func59, Tryz.ntmps59
    go_wp2
    go_ret
    exact ⟨_, rfl, Ext.refl w, OwnB.nil w _⟩
  | some A =>
    have hown := OwnB.made w
    have e1 : Ext w (w.alloc (.cells #[] 5)) := Ext.alloc w _
    have s1 := hs'.now e1
    have hB0 : w.heap.size ≤ (w.alloc (.cells #[] 5)).heap.size := by simp
    clear x2 x3 x4 x5 x6 hs'
    have hq := eql_nil
    go_enter Tryz.func59, Tryz.ntmps59
    go_wp2_with (refine list_append_bytes rfl (.tmp 5) (.tmp 6) 50 rfl Tryz.underlying50 u8zero w.heap.size (.slice (some ⟨w.heap.size, 0, none⟩) 0 0) [] rfl hown _ m _ rfl s1 (by rw [List.length_nil]; omega) hB0 ?_; intro vx w4 ox gx; have b4 := hown.grown gx hB0; rw [List.nil_append] at ox)
    go_ret
    exact ⟨_, rfl, Below.trans e1 b4, ox⟩

theorem take_err (b : Nat) (er : Int) (n : Nat) (w : World) (h : RSt w b [] er) (he : er ≠ 0) : Calls Tryz.prog 117 #[.pointer (some ⟨b, 0, none⟩), .int .i64 (n : Int)] w fun e w' => e = .returned (.slice none 0 0) ∧ w = w' := by
  have t2 : (er == 0) = false := beq_eq_false_iff_ne.2 he
  have H := Lib.hid h; clear h
  have He := Lib.hid he; clear he
  by_cases h : 0 < n
  · have t1 : decide (0 < n) = true := by simp; omega
    clear h
    go_enter Tryz.func117, Tryz.ntmps117
    go_wp2_with fail
    refine (left_any b _ _ w H.out).mono ?_
    rintro e w' ⟨rfl, rfl⟩
    go_wp2_with fail
    refine (fail_err b _ _ 2 w H.out He.out).mono ?_
    rintro e w' ⟨rfl, rfl⟩
    go_wp2_with fail
    refine (err_any b _ _ w H.out).mono ?_
    rintro e w' ⟨rfl, rfl⟩
    go_wp2
    go_ret
    exact ⟨rfl, rfl⟩
  · have t1 : decide (0 < n) = false := by simp; omega
    clear h
    go_enter Tryz.func117, Tryz.ntmps117
    go_wp2_with fail
    refine (left_any b _ _ w H.out).mono ?_
    rintro e w' ⟨rfl, rfl⟩
    go_wp2_with fail
    refine (err_any b _ _ w H.out).mono ?_
    rintro e w' ⟨rfl, rfl⟩
    go_wp2
    go_ret
    exact ⟨rfl, rfl⟩
theorem take_short (b : Nat) (l : List Int) (n : Nat) (w : World) (h : RSt w b l 0) (hn : l.length < n) : Calls Tryz.prog 117 #[.pointer (some ⟨b, 0, none⟩), .int .i64 (n : Int)] w fun e w' => e = .returned (.slice none 0 0) ∧ Only b w w' ∧ RSt w' b [] 2 := by
  have H := Lib.hid h; clear h
  have t1 : decide (l.length < n) = true := by simp; omega
  clear hn
  go_enter Tryz.func117, Tryz.ntmps117
  go_wp2_with fail
  refine (left_any b _ _ w H.out).mono ?_
  rintro e w' ⟨rfl, rfl⟩
  go_wp2_with fail
  refine (fail_ok b _ 2 w H.out).mono ?_
  rintro e w' ⟨rfl, ho, hr⟩
  have Hr := Lib.hid hr; clear hr
  go_wp2_with fail
  refine (err_any b _ _ w' Hr.out).mono ?_
  rintro e w' ⟨rfl, rfl⟩
  go_wp2
  go_ret
  exact ⟨rfl, ho, Hr.out⟩
set_option maxHeartbeats 400000 in
theorem take_ok (b : Nat) (l : List Int) (n : Nat) (w : World) (h : RSt w b l 0) (hn : n ≤ l.length) : Calls Tryz.prog 117 #[.pointer (some ⟨b, 0, none⟩), .int .i64 (n : Int)] w fun e w' => ∃ v, e = .returned v ∧ Only b w w' ∧ RSt w' b (l.drop n) 0 ∧ Src w' v (l.take n) b := by
  have H := Lib.hid h; clear h
  have t1 : decide (l.length < n) = false := by simp; omega
  have Hn := Lib.hid hn; clear hn
  go_enter Tryz.func117, Tryz.ntmps117
  go_wp2_with fail
  refine (left_any b _ _ w H.out).mono ?_
  rintro e w' ⟨rfl, rfl⟩
  go_wp2_with fail
  refine (err_any b _ _ w H.out).mono ?_
  rintro e w' ⟨rfl, rfl⟩
  obtain ⟨v, h1, h2, h3⟩ := H.out
  have SU := Lib.hid h2
  replace h2 := h2 b (Nat.le_refl _)
  have S2 := Lib.hid h2
  obtain ⟨ad, cap, sb, so, rfl, x2, x3, x4, x5, x6⟩ := h2
  clear H
  have hn := Hn.out
  have c0 : w.cell? ⟨b, 0, none⟩ = some (.slice ad l.length cap) := by rw [h1.cell]; rfl
  have f0 := h1.frozen 0
  have n0 : (0 : Int) ≤ (n : Int) := by omega
  have n1 : (n : Int) ≤ (l.length : Int) := by omega
  have n2 : (n : Int) ≤ (cap : Int) := by omega
  have H1 := Lib.hid h1; clear h1
  clear h3 hn x3 x4 x5 x6
  go_wp2
  all_goals go_ret
  · subst h
    exact ⟨_, rfl, Only.set b 0 w _, RSt.set H1.out (fun bh hbh => src_back0 (SU.out bh hbh) rfl), (src_front S2.out Hn.out).only (Only.set b 0 w _)⟩
  · exact ⟨_, rfl, Only.set b 0 w _, RSt.set H1.out (fun bh hbh => src_back (SU.out bh hbh) Hn.out), (src_front S2.out Hn.out).only (Only.set b 0 w _)⟩
end Go.Proofs.YtnhokjnmpdiokaaGreatDoor

namespace Go.Proofs.YtnhokjnmpdiokaaGreatDoor
open Go.RowKit Go.Sha

theorem pow_256 (k : Nat) : (2 : Int) ^ (8 * k) = 256 ^ k := by rw [Int.pow_mul]; rfl
theorem asn_step (m : List Int) (k : Nat) (hk : k < m.length) (h8 : m.length ≤ 8) (hb : Byt m) (x : Int) (hx : x = m[k]?.getD 0) : bits .or .u64 (leN (m.take k)) (IntKind.u64.wrap (IntKind.u64.wrap x * 2 ^ (8 * k))) = leN (m.take (k + 1)) := by
  have h1 := hb.get k hk
  have h2 := leN_range (m.take k) (hb.take k)
  rw [List.length_take, Nat.min_eq_left (by omega)] at h2
  rw [take_snoc k hk, leN_snoc, List.length_take, Nat.min_eq_left (by omega), ← hx]
  rw [← hx] at h1
  have h3 : (2 : Int) ^ (8 * k) * 256 ≤ 18446744073709551616 := by
    have : k = 0 ∨ k = 1 ∨ k = 2 ∨ k = 3 ∨ k = 4 ∨ k = 5 ∨ k = 6 ∨ k = 7 := by omega
    rcases this with h | h | h | h | h | h | h | h <;> rw [h] <;> decide
  have h4 : (0 : Int) < 2 ^ (8 * k) := by rw [pow_256]; exact Int.pow_pos (by omega)
  have h5 : (x + 1) * 2 ^ (8 * k) ≤ 256 * 2 ^ (8 * k) := Int.mul_le_mul_of_nonneg_right (by omega) (by omega)
  have h6 : 0 ≤ x * 2 ^ (8 * k) := Int.mul_nonneg h1.1 (by omega)
  rw [Int.add_mul] at h5
  rw [← pow_256] at h2 ⊢
  rw [IntWalk.u64_in x (by omega), IntWalk.u64_in _ (by omega)]
  exact or_apart _ x (8 * k) h2 h1.1 (by omega)
def InvN (w : World) (m : List Int) (n i : Value) (wr : World) : Prop := ∃ k : Nat, k ≤ m.length ∧ i = .int .i64 k ∧ n = .int .u64 (leN (m.take k)) ∧ wr = w
set_option maxHeartbeats 400000 in
theorem asn_any (v : Value) (m : List Int) (b : Nat) (w : World) (hs : Src w v m b) (hb : Byt m) (h8 : m.length ≤ 8) : Calls Tryz.prog 116 #[v] w fun e w' => e = .returned (.int .u64 (leN m)) ∧ w = w' := by
  obtain ⟨ad, cap, sb, so, rfl, x2, x3, x4, x5, x6⟩ := hs
  have X3 := Lib.hid x3; clear x3
  have X5 := Lib.hid x5; clear x5
  have Hb := Lib.hid hb; clear hb
  clear x2 x4 x6
  go_enter Tryz.func116, Tryz.ntmps116
  go_wp2
  go_loopw [3, 8] (fun n i wr => InvN w m n i wr) (fun _ i _ => m.length - (intOf i).toNat)
  case atStart => exact ⟨0, by omega, rfl, rfl, rfl⟩
  case round =>
    obtain ⟨k, hk, rfl, rfl, rfl⟩ := hrel
    by_cases hlt : k < m.length
    · have e := X3.out (by omega)
      subst e
      have c0 := X5.out k hlt
      have q1 : (0 : Int) ≤ (k : Int) := by omega
      have q2 : (0 : Int) ≤ 8 * (k : Int) := by omega
      have q3 : ((8 : Int) * (k : Int)).toNat = 8 * k := by omega
      have q4 : min (8 * k) 64 = 8 * k := by omega
      have q5 : (k : Int) < (m.length : Int) := by omega
      go_wp2
      exact ⟨⟨k + 1, by omega, rfl, by rw [asn_step m k hlt h8 Hb.out _ (by rw [List.getElem?_eq_getElem hlt]; rfl)], rfl⟩, by simp [intOf]; omega⟩
    · obtain rfl : k = m.length := by omega
      rw [List.take_length]
      go_wp2
      go_ret
      exact ⟨rfl, rfl⟩

def rNum (l : List Int) (e : Int) : Int × List Int × Int :=
  if e ≠ 0 then (0, [], e) else if l.length < 4 then (0, [], 2) else if 2147483647 < leN (l.take 4) then (0, [], 2) else (leN (l.take 4), l.drop 4, 0)
def rWord (l : List Int) (e : Int) : Int × List Int × Int :=
  if e ≠ 0 then (0, [], e) else if l.length < 8 then (0, [], 2) else (leN (l.take 8), l.drop 8, 0)
def rCnt (l : List Int) (e : Int) (most : Nat) : List Int × List Int × Int :=
  if (rNum l e).2.2 ≠ 0 then ([], [], (rNum l e).2.2) else if (rNum l e).2.1.length < (rNum l e).1.toNat then ([], [], 2) else if most < (rNum l e).1.toNat then ([], [], 3)
  else ((rNum l e).2.1.take (rNum l e).1.toNat, (rNum l e).2.1.drop (rNum l e).1.toNat, 0)
theorem rst_nil {w : World} {b : Nat} {l : List Int} {e : Int} (h : RSt w b l e) (he : e ≠ 0) : l = [] := by
  obtain ⟨v, _, _, h3⟩ := h
  exact h3 he
theorem rNum_range (l : List Int) (e : Int) (hb : Byt l) : 0 ≤ (rNum l e).1 ∧ (rNum l e).1 ≤ 2147483647 := by
  unfold rNum
  split
  · simp
  · split
    · simp
    · split
      · simp
      · exact ⟨(leN_range _ (hb.take 4)).1, by simp only; omega⟩
theorem rNum_byt (l : List Int) (e : Int) (hb : Byt l) : Byt (rNum l e).2.1 := by
  unfold rNum
  split
  · intro x hx; simp at hx
  · split
    · intro x hx; simp at hx
    · split
      · intro x hx; simp at hx
      · exact hb.drop 4

set_option maxHeartbeats 400000 in
theorem num_any (b : Nat) (l : List Int) (er : Int) (w : World) (h : RSt w b l er) (hb : Byt l) :
    Calls Tryz.prog 94 #[.pointer (some ⟨b, 0, none⟩)] w fun e w' => e = .returned (.int .i64 (rNum l er).1) ∧ Only b w w' ∧ RSt w' b (rNum l er).2.1 (rNum l er).2.2 := by
  by_cases he : er ≠ 0
  · have hl := rst_nil h he
    subst hl
    rw [rNum, if_pos he]
    have H := Lib.hid h; clear h
    have He := Lib.hid he; clear he hb
    go_enter Tryz.func94, Tryz.ntmps94
    go_wp2_with fail
    refine (take_err b er 4 w H.out He.out).mono ?_
    rintro e w' ⟨rfl, rfl⟩
    go_wp2_with fail
    refine (asn_any _ [] 0 w (Src.nil w 0) (fun x hx => by simp at hx) (by simp)).mono ?_
    rintro e w' ⟨rfl, rfl⟩
    rw [leN]
    go_wp2
    go_ret
    exact ⟨rfl, Only.refl b w, H.out⟩
  · rw [rNum, if_neg he]
    obtain rfl : er = 0 := Classical.not_not.1 he
    clear he
    by_cases h4 : l.length < 4
    · rw [if_pos h4]
      have H := Lib.hid h; clear h
      have Hb := Lib.hid hb; clear hb
      have H4 := Lib.hid h4; clear h4
      go_enter Tryz.func94, Tryz.ntmps94
      go_wp2_with fail
      refine (take_short b l 4 w H.out H4.out).mono ?_
      rintro e w' ⟨rfl, ho, hr⟩
      have Hr := Lib.hid hr; clear hr
      go_wp2_with fail
      refine (asn_any _ [] 0 w' (Src.nil w' 0) (fun x hx => by simp at hx) (by simp)).mono ?_
      rintro e w' ⟨rfl, rfl⟩
      rw [leN]
      go_wp2
      go_ret
      exact ⟨rfl, ho, Hr.out⟩
    · rw [if_neg h4]
      have hl : (l.take 4).length = 4 := by rw [List.length_take]; omega
      have hR := leN_range (l.take 4) (hb.take 4)
      rw [hl] at hR
      have hR2 : leN (l.take 4) < 4294967296 := hR.2
      have hw : IntKind.i64.wrap (leN (l.take 4)) = leN (l.take 4) := IntWalk.i64_in _ (by omega)
      by_cases hg : 2147483647 < leN (l.take 4)
      · rw [if_pos hg]
        have t1 : decide (2147483647 < leN (l.take 4)) = true := decide_eq_true hg
        have H := Lib.hid h; clear h
        have Hb := Lib.hid hb; clear hb
        have H4 := Lib.hid h4; clear h4
        have Hl := Lib.hid hl; clear hl hR hR2 hg
        go_enter Tryz.func94, Tryz.ntmps94
        go_wp2_with fail
        refine (take_ok b l 4 w H.out (by have := H4.out; omega)).mono ?_
        rintro e w' ⟨v, rfl, ho, hr, hs⟩
        have Hr := Lib.hid hr; clear hr
        have Hs := Lib.hid hs; clear hs
        go_wp2_with fail
        refine (asn_any v _ b w' Hs.out (Hb.out.take 4) (by rw [Hl.out]; omega)).mono ?_
        rintro e w' ⟨rfl, rfl⟩
        go_wp2_with fail
        refine (fail_ok b _ 2 _ Hr.out).mono ?_
        rintro e w2 ⟨rfl, ho2, hr2⟩
        go_wp2
        go_ret
        exact ⟨rfl, ho.trans ho2, hr2⟩
      · rw [if_neg hg]
        have t1 : decide (2147483647 < leN (l.take 4)) = false := decide_eq_false hg
        have H := Lib.hid h; clear h
        have Hb := Lib.hid hb; clear hb
        have H4 := Lib.hid h4; clear h4
        have Hl := Lib.hid hl; clear hl hR hR2 hg
        go_enter Tryz.func94, Tryz.ntmps94
        go_wp2_with fail
        refine (take_ok b l 4 w H.out (by have := H4.out; omega)).mono ?_
        rintro e w' ⟨v, rfl, ho, hr, hs⟩
        have Hr := Lib.hid hr; clear hr
        have Hs := Lib.hid hs; clear hs
        go_wp2_with fail
        refine (asn_any v _ b w' Hs.out (Hb.out.take 4) (by rw [Hl.out]; omega)).mono ?_
        rintro e w' ⟨rfl, rfl⟩
        go_wp2
        go_ret
        exact ⟨rfl, ho, Hr.out⟩
theorem word_any (b : Nat) (l : List Int) (er : Int) (w : World) (h : RSt w b l er) (hb : Byt l) :
    Calls Tryz.prog 95 #[.pointer (some ⟨b, 0, none⟩)] w fun e w' => e = .returned (.int .u64 (rWord l er).1) ∧ Only b w w' ∧ RSt w' b (rWord l er).2.1 (rWord l er).2.2 := by
  by_cases he : er ≠ 0
  · have hl := rst_nil h he
    subst hl
    rw [rWord, if_pos he]
    have H := Lib.hid h; clear h
    have He := Lib.hid he; clear he hb
    go_enter Tryz.func95, Tryz.ntmps95
    go_wp2_with fail
    refine (take_err b er 8 w H.out He.out).mono ?_
    rintro e w' ⟨rfl, rfl⟩
    go_wp2_with fail
    refine (asn_any _ [] 0 w (Src.nil w 0) (fun x hx => by simp at hx) (by simp)).mono ?_
    rintro e w' ⟨rfl, rfl⟩
    rw [leN]
    go_wp2
    go_ret
    exact ⟨rfl, Only.refl b w, H.out⟩
  · rw [rWord, if_neg he]
    obtain rfl : er = 0 := Classical.not_not.1 he
    clear he
    by_cases h4 : l.length < 8
    · rw [if_pos h4]
      have H := Lib.hid h; clear h
      have Hb := Lib.hid hb; clear hb
      have H4 := Lib.hid h4; clear h4
      go_enter Tryz.func95, Tryz.ntmps95
      go_wp2_with fail
      refine (take_short b l 8 w H.out H4.out).mono ?_
      rintro e w' ⟨rfl, ho, hr⟩
      have Hr := Lib.hid hr; clear hr
      go_wp2_with fail
      refine (asn_any _ [] 0 w' (Src.nil w' 0) (fun x hx => by simp at hx) (by simp)).mono ?_
      rintro e w' ⟨rfl, rfl⟩
      rw [leN]
      go_wp2
      go_ret
      exact ⟨rfl, ho, Hr.out⟩
    · rw [if_neg h4]
      have hl : (l.take 8).length = 8 := by rw [List.length_take]; omega
      have H := Lib.hid h; clear h
      have Hb := Lib.hid hb; clear hb
      have H4 := Lib.hid h4; clear h4
      have Hl := Lib.hid hl; clear hl
      go_enter Tryz.func95, Tryz.ntmps95
      go_wp2_with fail
      refine (take_ok b l 8 w H.out (by have := H4.out; omega)).mono ?_
      rintro e w' ⟨v, rfl, ho, hr, hs⟩
      have Hr := Lib.hid hr; clear hr
      have Hs := Lib.hid hs; clear hs
      go_wp2_with fail
      refine (asn_any v _ b w' Hs.out (Hb.out.take 8) (by rw [Hl.out]; omega)).mono ?_
      rintro e w' ⟨rfl, rfl⟩
      go_wp2
      go_ret
      exact ⟨rfl, ho, Hr.out⟩

theorem int_nat (x : Int) (h : 0 ≤ x) : x = (x.toNat : Int) := by omega
set_option maxHeartbeats 400000 in
theorem cnt_any (b : Nat) (l : List Int) (er : Int) (most : Nat) (w : World) (h : RSt w b l er) (hb : Byt l) :
    Calls Tryz.prog 115 #[.pointer (some ⟨b, 0, none⟩), .int .i64 (most : Int)] w fun e w' => ∃ v, e = .returned v ∧ Only b w w' ∧ RSt w' b (rCnt l er most).2.1 (rCnt l er most).2.2 ∧ Src w' v (rCnt l er most).1 b := by
  have hR := rNum_range l er hb
  have hB := rNum_byt l er hb
  have hN := num_any b l er w h hb
  clear h hb
  unfold rCnt
  generalize rNum l er = R at *
  obtain ⟨N, l', e'⟩ := R
  simp only at hR hB hN ⊢
  obtain ⟨n, rfl⟩ : ∃ n : Nat, N = (n : Int) := ⟨N.toNat, int_nat N hR.1⟩
  rw [Int.toNat_natCast]
  have HN := Lib.hid hN; clear hN hB
  by_cases he : e' ≠ 0
  · rw [if_pos he]
    have He := Lib.hid he; clear he hR
    have t1 : decide ((most : Int) < 0) = false := by simp
    go_enter Tryz.func115, Tryz.ntmps115
    go_wp2_with fail
    refine HN.out.mono ?_
    rintro e w' ⟨rfl, ho, hr⟩
    have hl := rst_nil hr He.out
    subst hl
    have Hr := Lib.hid hr; clear hr
    go_wp2_with fail
    refine (take_err b e' n w' Hr.out He.out).mono ?_
    rintro e w2 ⟨rfl, rfl⟩
    go_wp2
    go_ret
    exact ⟨_, rfl, ho, Hr.out, Src.nil _ _⟩
  · rw [if_neg he]
    obtain rfl : e' = 0 := Classical.not_not.1 he
    clear he
    by_cases h2 : l'.length < n
    · rw [if_pos h2]
      have H2 := Lib.hid h2; clear h2 hR
      have t1 : decide ((most : Int) < 0) = false := by simp
      go_enter Tryz.func115, Tryz.ntmps115
      go_wp2_with fail
      refine HN.out.mono ?_
      rintro e w' ⟨rfl, ho, hr⟩
      have Hr := Lib.hid hr; clear hr
      go_wp2_with fail
      refine (take_short b l' n w' Hr.out H2.out).mono ?_
      rintro e w2 ⟨rfl, ho2, hr2⟩
      have Hr2 := Lib.hid hr2; clear hr2
      go_wp2
      go_ret
      exact ⟨_, rfl, ho.trans ho2, Hr2.out, Src.nil _ _⟩
    · rw [if_neg h2]
      have hl : (l'.take n).length = n := by rw [List.length_take]; omega
      by_cases h3 : most < n
      · rw [if_pos h3]
        have H2 := Lib.hid h2; clear h2 hR
        have Hl := Lib.hid hl; clear hl
        have t1 : decide (most < n) = true := decide_eq_true h3
        clear h3
        go_enter Tryz.func115, Tryz.ntmps115
        go_wp2_with fail
        refine HN.out.mono ?_
        rintro e w' ⟨rfl, ho, hr⟩
        have Hr := Lib.hid hr; clear hr
        go_wp2_with fail
        refine (take_ok b l' n w' Hr.out (by have := H2.out; omega)).mono ?_
        rintro e w2 ⟨v, rfl, ho2, hr2, hs2⟩
        obtain ⟨ad, cap, rfl⟩ := hs2.len
        have Hr2 := Lib.hid hr2; clear hr2 hs2
        rw [Hl.out]
        go_wp2_with fail
        refine (fail_ok b _ 3 _ Hr2.out).mono ?_
        rintro e w3 ⟨rfl, ho3, hr3⟩
        have Hr3 := Lib.hid hr3; clear hr3
        go_wp2
        go_ret
        exact ⟨_, rfl, (ho.trans ho2).trans ho3, Hr3.out, Src.nil _ _⟩
      · rw [if_neg h3]
        have H2 := Lib.hid h2; clear h2 hR
        have Hl := Lib.hid hl; clear hl
        have t1 : decide (most < n) = false := decide_eq_false h3
        clear h3
        go_enter Tryz.func115, Tryz.ntmps115
        go_wp2_with fail
        refine HN.out.mono ?_
        rintro e w' ⟨rfl, ho, hr⟩
        have Hr := Lib.hid hr; clear hr
        go_wp2_with fail
        refine (take_ok b l' n w' Hr.out (by have := H2.out; omega)).mono ?_
        rintro e w2 ⟨v, rfl, ho2, hr2, hs2⟩
        obtain ⟨ad, cap, rfl⟩ := hs2.len
        have Hr2 := Lib.hid hr2; clear hr2
        have Hs2 := Lib.hid hs2; clear hs2
        rw [Hl.out]
        go_wp2
        go_ret
        refine ⟨_, rfl, ho.trans ho2, Hr2.out, ?_⟩
        have := Hs2.out
        rwa [Hl.out] at this
theorem rCnt_short (l : List Int) (e : Int) (most : Nat) : (rCnt l e most).1.length ≤ most := by
  unfold rCnt
  split
  · simp
  · split
    · simp
    · split
      · simp
      · simp only [List.length_take]; omega
theorem rbytes_any (b : Nat) (l : List Int) (er : Int) (most : Nat) (w : World) (h : RSt w b l er) (hb : Byt l) (hm : most ≤ 1000000000) :
    Calls Tryz.prog 96 #[.pointer (some ⟨b, 0, none⟩), .int .i64 (most : Int)] w fun e w' => ∃ v, e = .returned v ∧ Only b w w' ∧ RSt w' b (rCnt l er most).2.1 (rCnt l er most).2.2 ∧ (∀ bh, bh < w.heap.size ∨ w'.heap.size ≤ bh → Src w' v (rCnt l er most).1 bh) := by
  have H := Lib.hid h; clear h
  have Hb := Lib.hid hb; clear hb
  go_enter Tryz.func96, Tryz.ntmps96
  go_wp2_with fail
  refine (cnt_any b l er most w H.out Hb.out).mono ?_
  rintro e w1 ⟨v, rfl, ho, hr, hs⟩
  have Hr := Lib.hid hr; clear hr
  have Hs := Lib.hid hs; clear hs
  go_wp2_with fail
  refine (clone_at _ _ b w1 Hs.out (by have := rCnt_short l er most; omega)).mono ?_
  rintro e w2 ⟨u, rfl, h1, h2⟩
  have Hr2 := Lib.hid (Hr.out.below h1)
  have S2 := Lib.hid (fun (bh : Nat) (hbh : bh < w.heap.size ∨ w2.heap.size ≤ bh) => h2.srcs bh (hbh.imp_left fun h => Nat.lt_of_lt_of_le h ho.size))
  clear h2
  go_wp2
  go_ret
  exact ⟨u, rfl, ho.trans (Only.of_below h1), Hr2.out, S2.out⟩
theorem text_any (b : Nat) (l : List Int) (er : Int) (most : Nat) (w : World) (h : RSt w b l er) (hb : Byt l) :
    Calls Tryz.prog 93 #[.pointer (some ⟨b, 0, none⟩), .int .i64 (most : Int)] w fun e w' => e = .returned (.string (strOfNums (rCnt l er most).1)) ∧ Only b w w' ∧ RSt w' b (rCnt l er most).2.1 (rCnt l er most).2.2 := by
  have H := Lib.hid h; clear h
  have Hb := Lib.hid hb; clear hb
  go_enter Tryz.func93, Tryz.ntmps93
  go_wp2_with fail
  refine (cnt_any b l er most w H.out Hb.out).mono ?_
  rintro e w1 ⟨v, rfl, ho, hr, hs⟩
  have c1 := conv_src (P := Tryz.prog) 50 9 5 Tryz.underlying50 Tryz.underlying5 Tryz.underlying9 hs
  have Hr := Lib.hid hr; clear hr hs
  go_wp2
  go_ret
  exact ⟨rfl, ho, Hr.out⟩
theorem newr_any (v : Value) (m : List Int) (b : Nat) (w : World) (hs : Src w v m b) (hl : m.length ≤ 1000000000) : Calls Tryz.prog 91 #[v] w fun e w' => ∃ g, e = .returned (.pointer (some ⟨g, 0, none⟩)) ∧ Ext w w' ∧ RSt w' g m 0 ∧ w.heap.size ≤ g := by
  have Hs := Lib.hid hs; clear hs
  go_enter Tryz.func91, Tryz.ntmps91
  go_wp2_with fail
  refine (clone_at v m b w Hs.out (by omega)).mono ?_
  rintro e w1 ⟨u, rfl, h1, h2⟩
  have S2 := Lib.hid (fun (bh : Nat) (hbh : w1.heap.size ≤ bh) => h2.srcs bh (Or.inr hbh))
  obtain ⟨ad, cap, rfl⟩ := h2.len
  clear h2
  go_wp2
  go_ret
  refine ⟨w1.heap.size, rfl, h1.trans (Ext.alloc w1 _), ⟨_, At.new w1 _ 161, fun bh hbh => (S2.out bh hbh).ext (Ext.alloc w1 _), fun h => absurd rfl h⟩, h1.size⟩
end Go.Proofs.YtnhokjnmpdiokaaGreatDoor
