/- Numbers read as they were written; Round; and the walk of CodecLimits. -/
import Derived.Test.YtcdaecnpohfchaaDoorCh
namespace Go.Proofs.YtcdaecnpohfchaaDoor
open Go.RowKit Go.Sha

theorem lf_byt (n : Int) (k : Nat) : Byt (lf n k) := by
  induction k with
  | zero => intro x hx; simp [lf] at hx
  | succ k ih =>
    intro x hx
    rw [lf] at hx
    rcases List.mem_append.1 hx with hx | hx
    · exact ih x hx
    · simp at hx; subst hx; omega
theorem leN_lf_mod (n : Nat) (k : Nat) : leN (lf (n : Int) k) = ((n % 256 ^ k : Nat) : Int) := by
  induction k with
  | zero => simp [lf, leN, Nat.mod_one]
  | succ k ih =>
    rw [lf, leN_snoc, ih, lf_length, pow_256, Nat.pow_succ, Nat.mod_mul]
    rw [Int.natCast_add, Int.natCast_mul, Int.natCast_pow, Int.natCast_emod (n / 256 ^ k), Int.natCast_ediv, Int.natCast_pow, Int.mul_comm]
    rfl
theorem leN_lf (n : Nat) (k : Nat) (h : n < 256 ^ k) : leN (lf (n : Int) k) = (n : Int) := by rw [leN_lf_mod, Nat.mod_eq_of_lt h]
theorem byt_app {a b : List Int} (ha : Byt a) (hb : Byt b) : Byt (a ++ b) := fun x hx => (List.mem_append.1 hx).elim (ha x) (hb x)
/-- A number that was written is read. -/
theorem rNum_lf (n : Nat) (l : List Int) (h : n ≤ 2147483647) : rNum (lf (n : Int) 4 ++ l) 0 = ((n : Int), l, 0) := by
  have h4 : (lf (n : Int) 4).length = 4 := lf_length _ _
  have ht : (lf (n : Int) 4 ++ l).take 4 = lf (n : Int) 4 := by rw [List.take_append_of_le_length (by omega), List.take_of_length_le (by omega)]
  have hd : (lf (n : Int) 4 ++ l).drop 4 = l := by rw [List.drop_append_of_le_length (by omega), List.drop_of_length_le (by omega)]; rfl
  have hN : leN (lf (n : Int) 4) = (n : Int) := leN_lf n 4 (by have : (256 : Nat) ^ 4 = 4294967296 := rfl; omega)
  rw [rNum, if_neg (by simp), if_neg (by rw [List.length_append]; omega), ht, hN, if_neg (by omega), hd]
theorem rWord_lf (n : Nat) (l : List Int) (h : n < 18446744073709551616) : rWord (lf (n : Int) 8 ++ l) 0 = ((n : Int), l, 0) := by
  have h4 : (lf (n : Int) 8).length = 8 := lf_length _ _
  have ht : (lf (n : Int) 8 ++ l).take 8 = lf (n : Int) 8 := by rw [List.take_append_of_le_length (by omega), List.take_of_length_le (by omega)]
  have hd : (lf (n : Int) 8 ++ l).drop 8 = l := by rw [List.drop_append_of_le_length (by omega), List.drop_of_length_le (by omega)]; rfl
  have hN : leN (lf (n : Int) 8) = (n : Int) := leN_lf n 8 (by have : (256 : Nat) ^ 8 = 18446744073709551616 := rfl; omega)
  rw [rWord, if_neg (by simp), if_neg (by rw [List.length_append]; omega), ht, hN, hd]
/-- Bytes that were written are read. -/
theorem rCnt_enc (m l : List Int) (most : Nat) (h : m.length ≤ 1000000) (hm : m.length ≤ most) : rCnt (encB m ++ l) 0 most = (m, l, 0) := by
  have e : rNum (encB m ++ l) 0 = ((m.length : Int), m ++ l, 0) := by unfold encB; rw [List.append_assoc]; exact rNum_lf m.length (m ++ l) (by omega)
  unfold rCnt
  rw [e]
  simp only [Int.toNat_natCast]
  rw [if_neg (by simp), if_neg (by rw [List.length_append]; omega), if_neg (by omega)]
  rw [List.take_append_of_le_length (Nat.le_refl _), List.take_length, List.drop_append_of_le_length (Nat.le_refl _), List.drop_length]; rfl
theorem rCnt_big (m l : List Int) (most : Nat) (h : m.length ≤ 1000000) (hm : most < m.length) : rCnt (encB m ++ l) 0 most = ([], [], 3) := by
  have e : rNum (encB m ++ l) 0 = ((m.length : Int), m ++ l, 0) := by unfold encB; rw [List.append_assoc]; exact rNum_lf m.length (m ++ l) (by omega)
  unfold rCnt
  rw [e]
  simp only [Int.toNat_natCast]
  rw [if_neg (by simp), if_neg (by rw [List.length_append]; omega), if_pos hm]
/-- What was cut off is missed. -/
theorem rCnt_cut (m l : List Int) (c : Nat) (most : Nat) (h : m.length ≤ 1000000) (hc : c < m.length + 4) : rCnt ((encB m ++ l).take c) 0 most = ([], [], 2) := by
  have hl : (encB m).length = m.length + 4 := by rw [encB, List.length_append, lf_length]; omega
  by_cases h4 : c < 4
  · have e : rNum ((encB m ++ l).take c) 0 = (0, [], 2) := by
      rw [rNum, if_neg (by simp), if_pos (by rw [List.length_take]; omega)]
    unfold rCnt
    rw [e, if_pos (by simp)]
  · have e : rNum ((encB m ++ l).take c) 0 = ((m.length : Int), m.take (c - 4), 0) := by
      rw [List.take_append_of_le_length (by omega), encB, List.take_append, List.take_of_length_le (by rw [lf_length]; omega), lf_length]
      exact rNum_lf m.length _ (by omega)
    unfold rCnt
    rw [e]
    simp only [Int.toNat_natCast]
    rw [if_neg (by simp), if_pos (by rw [List.length_take]; omega)]

theorem tmod_pos (k n : Int) (hn : 0 < n) : -n < k.tmod n ∧ k.tmod n < n := by
  have h1 := Int.tmod_lt_of_pos k hn
  refine ⟨?_, h1⟩
  have h2 := Int.tmod_lt_of_pos (-k) hn
  rw [Int.neg_tmod] at h2
  omega
theorem round_any (k n : Int) (w : World) (hn : 0 < n) (hn2 : n ≤ 1000000) : Calls Tryd.prog 14 #[.int .i64 k, .int .i64 n] w fun e w' => (∃ c : Nat, e = .returned (.int .i64 (c : Int)) ∧ (c : Int) < n ∧ (c : Int) = k % n) ∧ w = w' := by
  have h1 := tmod_pos k n hn
  have h0 : ¬ (n = 0) := by omega
  have hE : k % n = if k.tmod n < 0 then k.tmod n + n else k.tmod n := by
    rw [Int.tmod_eq_emod]
    have e1 := Int.emod_nonneg k h0
    have e2 := Int.emod_lt_of_pos k hn
    split
    · rw [if_neg (by omega)]; omega
    · rename_i hh
      have : k % n ≠ 0 := fun h => hh (Or.inr (Int.dvd_of_emod_eq_zero h))
      rw [if_pos (by omega)]; omega
  have HE := Lib.hid hE; clear hE
  by_cases hs : k.tmod n < 0
  · have t1 : decide (k.tmod n < 0) = true := decide_eq_true hs
    have w1 : IntKind.i64.wrap (k.tmod n + n) = k.tmod n + n := IntWalk.i64_in _ (by omega)
    go_enter Tryd.func14, Tryd.ntmps14
    go_wp2
    go_ret
    refine ⟨⟨(k.tmod n + n).toNat, by rw [← int_nat _ (by omega)]; rfl, by omega, ?_⟩, rfl⟩
    rw [← int_nat _ (by omega), HE.out, if_pos hs]
  · have t1 : decide (k.tmod n < 0) = false := decide_eq_false hs
    go_enter Tryd.func14, Tryd.ntmps14
    go_wp2
    go_ret
    refine ⟨⟨(k.tmod n).toNat, by rw [← int_nat _ (by omega)]; rfl, by omega, ?_⟩, rfl⟩
    rw [← int_nat _ (by omega), HE.out, if_neg (by omega)]

theorem oadd_some (l m : List Int) : oadd (some l) m = some (l ++ m) := rfl
theorem wNum_some (l : List Int) (n : Nat) (h : n ≤ 2147483647) : wNum (some l) (n : Int) = some (l ++ lf (n : Int) 4) := by rw [wNum, if_neg (by omega), oadd_some]
theorem wNum_seven (l : List Int) : wNum (some l) 7 = some (l ++ lf 7 4) := wNum_some l 7 (by omega)
theorem fits_some (l : List Int) (n : Nat) (h : l.length + n < 4611686018427387904) : Fits (some l) n := fun x hx => by injection hx with hx; subst hx; exact h
theorem rn7 : rNum (lf 7 4) 0 = (7, [], 0) := by decide
theorem rn0 : rNum [] 3 = (0, [], 3) := by decide
theorem conv_empty : (strOfNums []) = (⟨#[]⟩ : ByteArray) := rfl
theorem byt_rep (n : Nat) : Byt (List.replicate n 0) := fun x hx => by
  have := List.eq_of_mem_replicate hx
  omega
theorem src_made (w : World) (n b : Nat) (hb : b < w.heap.size) : Src (w.alloc (.cells (madeCells #[Value.int .u8 0] n) 5)) (.slice (some ⟨w.heap.size, 0, none⟩) n n) (List.replicate n 0) b := by
  have a1 := At.new w (bs (List.replicate n 0)) 5
  rw [← made_bs] at a1
  rw [made_bs] at a1 ⊢
  have := Src.of_at (m := List.replicate n 0) (bh := b) a1 (by omega) n (by simp)
  simpa using this

/-- A Reader of which nothing lies in block b'. -/
def RFar (w : World) (b : Nat) (l : List Int) (e : Int) (b' : Nat) : Prop := ∃ v, At w b #[v, .int .i64 e] 67 ∧ Src w v l b ∧ Src w v l b' ∧ (e ≠ 0 → l = [])
theorem far_only {w w' : World} {b b' : Nat} {l : List Int} {e : Int} (h : RFar w b l e b') (ho : Only b' w w') (hb : b ≠ b') : RFar w' b l e b' := by
  obtain ⟨v, h1, h2, h3, h4⟩ := h
  exact ⟨v, ho.at h1 hb, src_keep h3 h2 ho, src_keep h3 h3 ho, h4⟩
theorem far_st {w : World} {b b' : Nat} {l : List Int} {e : Int} (h : RFar w b l e b') : RSt w b l e := by
  obtain ⟨v, h1, h2, h3, h4⟩ := h
  exact ⟨v, h1, h2, h4⟩
theorem newr2_any (v : Value) (m : List Int) (b b' : Nat) (w : World) (hs : Src w v m b) (hl : m.length ≤ 1000000000) (hb' : b' < w.heap.size) : Calls Tryd.prog 13 #[v] w fun e w' => ∃ g, e = .returned (.pointer (some ⟨g, 0, none⟩)) ∧ Ext w w' ∧ RFar w' g m 0 b' ∧ w.heap.size ≤ g := by
  have Hs := Lib.hid hs; clear hs
  have Hb := Lib.hid hb'; clear hb'
  go_enter Tryd.func13, Tryd.ntmps13
  go_wp2_with fail
  refine (clone_any v m b w Hs.out (by omega)).mono ?_
  rintro e w1 ⟨u, rfl, h1, h2⟩
  have S2 := Lib.hid (h2.srcs w1.heap.size (Or.inr (Nat.le_refl _)))
  have S3 := Lib.hid (h2.srcs b' (Or.inl Hb.out))
  obtain ⟨ad, cap, rfl⟩ := h2.len
  clear h2
  go_wp2
  go_ret
  exact ⟨w1.heap.size, rfl, h1.trans (Ext.alloc w1 _), ⟨_, At.new w1 _ 67, S2.out.ext (Ext.alloc w1 _), S3.out.ext (Ext.alloc w1 _), fun h => absurd rfl h⟩, h1.size⟩

set_option maxHeartbeats 1000000 in
set_option maxRecDepth 100000 in
theorem limits_any (n most cut : Int) (w : World) : Calls Tryd.prog 6 #[.int .i64 n, .int .i64 most, .int .i64 cut] w fun e w' => e = .returned (.bool true) ∧ Ext w w' := by
  by_cases hA : n < 0 ∨ 500 < n ∨ most < 0 ∨ 600 < most
  · by_cases h1 : n < 0
    · have d1 : decide (n < 0) = true := decide_eq_true h1
      go_enter Tryd.func6, Tryd.ntmps6
      go_wp2_with fail
      refine (awake_any w).mono ?_
      rintro e w' ⟨rfl, e1⟩
      go_wp2
      go_ret
      exact ⟨rfl, e1⟩
    · have d1 : decide (n < 0) = false := decide_eq_false h1
      by_cases h2 : 500 < n
      · have d2 : decide (500 < n) = true := decide_eq_true h2
        go_enter Tryd.func6, Tryd.ntmps6
        go_wp2_with fail
        refine (awake_any w).mono ?_
        rintro e w' ⟨rfl, e1⟩
        go_wp2
        go_ret
        exact ⟨rfl, e1⟩
      · have d2 : decide (500 < n) = false := decide_eq_false h2
        by_cases h3 : most < 0
        · have d3 : decide (most < 0) = true := decide_eq_true h3
          go_enter Tryd.func6, Tryd.ntmps6
          go_wp2_with fail
          refine (awake_any w).mono ?_
          rintro e w' ⟨rfl, e1⟩
          go_wp2
          go_ret
          exact ⟨rfl, e1⟩
        · have d3 : decide (most < 0) = false := decide_eq_false h3
          have h4 : 600 < most := by omega
          have d4 : decide (600 < most) = true := decide_eq_true h4
          go_enter Tryd.func6, Tryd.ntmps6
          go_wp2_with fail
          refine (awake_any w).mono ?_
          rintro e w' ⟨rfl, e1⟩
          go_wp2
          go_ret
          exact ⟨rfl, e1⟩
  · obtain ⟨N, rfl⟩ : ∃ N : Nat, n = (N : Int) := ⟨n.toNat, int_nat n (by omega)⟩
    obtain ⟨M, rfl⟩ : ∃ M : Nat, most = (M : Int) := ⟨most.toNat, int_nat most (by omega)⟩
    have hN : N ≤ 500 := by omega
    have hM : M ≤ 600 := by omega
    have d2 : decide ((500 : Int) < (N : Int)) = false := decide_eq_false (by omega)
    have d4 : decide ((600 : Int) < (M : Int)) = false := decide_eq_false (by omega)
    clear hA
    have n0 : (0 : Int) ≤ (N : Int) := by omega
    have m0 : (0 : Int) ≤ (M : Int) := by omega
    have zz := z52
    have hmk := fun w => run_make_row' (P := Tryd.prog) 25 5 (.int .u8 0) 1 Tryd.underlying25 u8zero rfl .i64 .i64 N (by omega) (by omega) w
    go_enter Tryd.func6, Tryd.ntmps6
    go_wp2_with fail
    have w0 := wst_zero w _ rfl
    have E0 : Ext w (w.alloc (.cells (zeroW false).toArray 52)) := Ext.alloc w _
    have hb0 : w.heap.size < (w.alloc (.cells (zeroW false).toArray 52)).heap.size := by rw [size_alloc]; omega
    have hsz : (w.alloc (.cells (zeroW false).toArray 52)).heap.size = w.heap.size + 1 := size_alloc _ _
    generalize w.alloc (.cells (zeroW false).toArray 52) = W0 at *
    have w1 := w0.below (Ext.alloc W0 (.cells (madeCells #[Value.int .u8 0] N) 5))
    have s1 := src_made W0 N w.heap.size hb0
    rw [hsz] at s1
    have E1 := E0.trans (Ext.alloc W0 (.cells (madeCells #[Value.int .u8 0] N) 5))
    have hm : (List.replicate N (0 : Int)).length = N := List.length_replicate ..
    have hbm := byt_rep N
    generalize List.replicate N (0 : Int) = m at *
    have hfit : Fits (some []) (4 + m.length) := fits_nil _ (by omega)
    have hc := wbytes_any w.heap.size (some []) m _ _ w1 hfit (by omega) s1
    refine hc.mono ?_
    rintro e w2 ⟨rfl, o2, h2⟩
    have E2 := ext_only E1 o2 (Nat.le_refl _)
    rw [oadd_some, List.nil_append] at h2
    have hl : (encB m).length = N + 4 := by rw [encB, List.length_append, lf_length, hm]; omega
    have H2 := Lib.hid h2; have Hm := Lib.hid hm; have Hbm := Lib.hid hbm; have Hl := Lib.hid hl
    clear w0 w1 s1 E1 o2 h2 hm hbm hl zz hmk E0 hb0 hsz hc hfit
    go_wp2_with fail
    refine (wnum_any w.heap.size (some (encB m)) 7 w2 H2.out (fits_some _ _ (by rw [Hl.out]; omega))).mono ?_
    rw [wNum_seven]
    rintro e w3 ⟨rfl, o3, h3⟩
    have E3 := ext_only E2 o3 (Nat.le_refl _)
    have H3 := Lib.hid h3
    clear E2 o3 h3 H2
    go_wp2_with fail
    refine (done_any w.heap.size _ w3 H3.out (by rw [List.length_append, Hl.out, lf_length]; omega)).mono ?_
    rintro e w4 ⟨v4, rfl, e4, o4⟩
    have E4 := E3.trans e4
    obtain ⟨ad4, cap4, rfl⟩ := o4.len
    have hL : (encB m ++ lf 7 4).length = N + 8 := by rw [List.length_append, Hl.out, lf_length]
    have S4 := Lib.hid (o4.srcs w4.heap.size (Or.inr (Nat.le_refl _)))
    have HL := Lib.hid hL
    have hBy : Byt (encB m ++ lf 7 4) := byt_app (byt_app (lf_byt _ _) Hbm.out) (lf_byt _ _)
    have HBy := Lib.hid hBy
    rw [hL]
    clear E3 e4 o4 H3 hL hBy
    go_wp2_with fail
    have s4 := S4.out
    rw [HL.out] at s4
    refine (newr_any _ _ _ w4 s4 (by rw [HL.out]; omega)).mono ?_
    rintro e w5 ⟨g5, rfl, e5, r5, hg5⟩
    have hgw : w.heap.size ≤ g5 := Nat.le_trans E4.size hg5
    have E5 := E4.trans e5
    have S5 := Lib.hid (S4.out.ext e5)
    have R5 := Lib.hid r5
    have hcap : N + 8 ≤ cap4 := by obtain ⟨_, _, _, _, q1, q2, _⟩ := s4; rw [HL.out] at q1 q2; injection q1 with _ _ q3; omega
    have lt5 := r5.lt
    clear s4 S4 e5 r5 hg5 E4
    go_wp2_with fail
    refine (round_any cut (N + 4) w5 (by omega) (by omega)).mono ?_
    rintro e w' ⟨⟨c, rfl, hc, hcm⟩, rfl⟩
    clear hcm
    have c0 : (0 : Int) ≤ (c : Int) := by omega
    have c1 : (c : Int) ≤ (cap4 : Int) := by omega
    have hc2 : c < N + 4 := by omega
    have Hc2 := Lib.hid hc2; clear hc2 hc
    go_wp2_with fail
    have s5 := src_front S5.out (n := c) (by rw [HL.out]; have := Hc2.out; omega)
    refine (newr2_any _ _ _ g5 w5 s5 (by rw [List.length_take, HL.out]; omega) lt5).mono ?_
    rintro e w6 ⟨g6, rfl, e6, r6, hg6⟩
    have hgw6 : w.heap.size ≤ g6 := Nat.le_trans E5.size hg6
    have hne : g6 ≠ g5 := by omega
    have E6 := E5.trans e6
    have R56 := Lib.hid (R5.out.below e6)
    have R6 := Lib.hid r6
    clear s5 S5 R5 e6 r6 hg6 E5 lt5 c0 c1 hcap
    go_wp2_with fail
    refine (rbytes_any g5 _ _ M w6 R56.out HBy.out (by omega)).mono ?_
    rintro e w7 ⟨v7, rfl, o7, r7, s7⟩
    have E7 := ext_only E6 o7 hgw
    have F7 := Lib.hid (far_only R6.out o7 hne)
    clear R6 R56 E6 o7
    obtain ⟨ad7, cap7, rfl⟩ := s7.len
    clear s7
    by_cases hb : M < N
    · have t1 : decide (M < N) = true := decide_eq_true hb
      rw [rCnt_big m (lf 7 4) M (by rw [Hm.out]; omega) (by rw [Hm.out]; exact hb)] at r7 ⊢
      have R7 := Lib.hid r7
      clear r7 hb
      rw [List.length_nil]
      go_wp2_with fail
      refine (err_any g5 _ _ w7 R7.out).mono ?_
      rintro e w' ⟨rfl, rfl⟩
      go_wp2_with fail
      refine (num_any g5 _ _ w7 R7.out (fun x hx => by simp at hx)).mono ?_
      rw [rn0]
      rintro e w8 ⟨rfl, o8, r8⟩
      have E8 := ext_only E7 o8 hgw
      have F8 := Lib.hid (far_st (far_only F7.out o8 hne))
      have R8 := Lib.hid r8
      clear F7 R7 E7 o8 r8
      go_wp2_with fail
      refine (left_any g5 _ _ w8 R8.out).mono ?_
      rintro e w' ⟨rfl, rfl⟩
      clear R8
      go_wp2_with fail
      refine (text_any g6 _ _ 600 w8 F8.out (HBy.out.take c)).mono ?_
      rw [rCnt_cut m (lf 7 4) c 600 (by rw [Hm.out]; omega) (by rw [Hm.out]; exact Hc2.out)]
      rintro e w9 ⟨rfl, o9, r9⟩
      have E9 := ext_only E8 o9 hgw6
      have R9 := Lib.hid r9
      clear F8 E8 o9 r9
      rw [conv_empty]
      go_wp2_with fail
      refine (err_any g6 _ _ w9 R9.out).mono ?_
      rintro e w' ⟨rfl, rfl⟩
      go_wp2_with fail
      refine (awake_any w9).mono ?_
      rintro e w10 ⟨rfl, e10⟩
      go_wp2
      go_ret
      exact ⟨rfl, E9.trans e10⟩
    · have t1 : decide (M < N) = false := decide_eq_false hb
      rw [rCnt_enc m (lf 7 4) M (by rw [Hm.out]; omega) (by rw [Hm.out]; omega)] at r7 ⊢
      have R7 := Lib.hid r7
      clear r7 hb
      rw [Hm.out]
      go_wp2_with fail
      refine (num_any g5 _ _ w7 R7.out (lf_byt _ _)).mono ?_
      rw [rn7]
      rintro e w8 ⟨rfl, o8, r8⟩
      have E8 := ext_only E7 o8 hgw
      have F8 := Lib.hid (far_st (far_only F7.out o8 hne))
      have R8 := Lib.hid r8
      clear F7 R7 E7 o8 r8
      go_wp2_with fail
      refine (err_any g5 _ _ w8 R8.out).mono ?_
      rintro e w' ⟨rfl, rfl⟩
      clear R8
      go_wp2_with fail
      refine (text_any g6 _ _ 600 w8 F8.out (HBy.out.take c)).mono ?_
      rw [rCnt_cut m (lf 7 4) c 600 (by rw [Hm.out]; omega) (by rw [Hm.out]; exact Hc2.out)]
      rintro e w9 ⟨rfl, o9, r9⟩
      have E9 := ext_only E8 o9 hgw6
      have R9 := Lib.hid r9
      clear F8 E8 o9 r9
      rw [conv_empty]
      go_wp2_with fail
      refine (err_any g6 _ _ w9 R9.out).mono ?_
      rintro e w' ⟨rfl, rfl⟩
      go_wp2_with fail
      refine (awake_any w9).mono ?_
      rintro e w10 ⟨rfl, e10⟩
      go_wp2
      go_ret
      exact ⟨rfl, E9.trans e10⟩
end Go.Proofs.YtcdaecnpohfchaaDoor
