/- The Reader's contracts once more: its bytes lie apart from all blocks from the Reader's own on. No conditions: contracts. -/
import Derived.Test.YtnhokjnmpdiokaaGreatDoorKa
namespace Go.Proofs.YtnhokjnmpdiokaaGreatDoor.Q
open Go.RowKit Go.Sha Go.Pth
set_option linter.unusedSimpArgs false
set_option linter.unusedVariables false

def RSt (w : World) (b : Nat) (l : List Int) (e : Int) : Prop := ∃ v, At w b #[v, .int .i64 e] 161 ∧ (∀ i, b ≤ i → Sha.Src w v l i) ∧ (e ≠ 0 → l = [])
theorem RSt.below {w w' : World} {b : Nat} (hb : Below w.heap.size w w') {l : List Int} {e : Int} (h : RSt w b l e) : RSt w' b l e := by
  obtain ⟨v, h1, h2, h3⟩ := h
  exact ⟨v, h1.below hb h1.lt, fun i hi => (h2 i hi).below hb, h3⟩
theorem RSt.lt {w : World} {b : Nat} {l : List Int} {e : Int} (h : RSt w b l e) : b < w.heap.size := by
  obtain ⟨v, h1, h2, h3⟩ := h
  exact h1.lt
theorem RSt.set {w : World} {b : Nat} {v u : Value} {m : List Int} (h : At w b #[v, .int .i64 0] 161) (hs : ∀ i, b ≤ i → Sha.Src w u m i) : RSt (w.setCell ⟨b, 0, none⟩ u) b m 0 := by
  refine ⟨u, ?_, fun i hi => src_keep (hs b (Nat.le_refl b)) (hs i hi) (Only.set b 0 w u), fun h => absurd rfl h⟩
  have := h.set 0 u
  simpa using this
theorem RSt.only {w w' : World} {b c : Nat} {l : List Int} {e : Int} (h : RSt w b l e) (o : Only c w w') (hc : b < c) : RSt w' b l e := by
  obtain ⟨v, h1, h2, h3⟩ := h
  exact ⟨v, o.at h1 (by omega), fun i hi => src_keep (h2 c (by omega)) (h2 i hi) o, h3⟩
theorem RSt.low {w w' : World} {b n : Nat} {l : List Int} {e : Int} (h : RSt w b l e) (o : Below n w w') (hn : b < n) : RSt w' b l e := by
  obtain ⟨v, h1, h2, h3⟩ := h
  refine ⟨v, h1.below o hn, fun i hi => ?_, h3⟩
  obtain ⟨ad, cap, sb, so, x1, x2, x3, x4, x5, x6⟩ := h2 i hi
  refine ⟨ad, cap, sb, so, x1, x2, x3, x4, fun j hj => ?_, x6⟩
  have hlt : sb < b := by
    rcases Nat.lt_or_ge sb b with q | q
    · exact q
    · obtain ⟨ad', cap', sb', so', y1, y2, y3, y4, y5, y6⟩ := h2 sb q
      rw [x1] at y1
      injection y1 with ha
      rw [x3 (by omega), y3 (by omega)] at ha
      injection ha with ha
      injection ha with ha
      exact absurd ha.symm y4
  rw [← x5 j hj]
  exact o.cell (p := ⟨sb, so + j, none⟩) (by simp only; omega)
theorem err_any (b : Nat) (l : List Int) (er : Int) (w : World) (h : RSt w b l er) : Calls Tryz.prog 97 #[.pointer (some ⟨b, 0, none⟩)] w fun e w' => e = .returned (.int .i64 er) ∧ w = w' := by
  obtain ⟨v, h1, h2, h3⟩ := h
  have c1 : w.cell? ⟨b, 1, none⟩ = some (.int .i64 er) := by rw [h1.cell]; rfl
  clear h1 h2 h3
  go_enter Tryz.func97, Tryz.ntmps97
  go_wp2
  go_ret
  exact ⟨rfl, rfl⟩
theorem left_any (b : Nat) (l : List Int) (er : Int) (w : World) (h : RSt w b l er) : Calls Tryz.prog 92 #[.pointer (some ⟨b, 0, none⟩)] w fun e w' => e = .returned (.int .i64 (l.length : Int)) ∧ w = w' := by
  obtain ⟨v, h1, h2, h3⟩ := h
  obtain ⟨ad, cap, rfl⟩ := (h2 b (Nat.le_refl b)).len
  have c1 : w.cell? ⟨b, 0, none⟩ = some (.slice ad l.length cap) := by rw [h1.cell]; rfl
  clear h1 h2 h3
  go_enter Tryz.func92, Tryz.ntmps92
  go_wp2
  go_ret
  exact ⟨rfl, rfl⟩
theorem fail_err (b : Nat) (l : List Int) (er y : Int) (w : World) (h : RSt w b l er) (he : er ≠ 0) : Calls Tryz.prog 118 #[.pointer (some ⟨b, 0, none⟩), .int .i64 y] w fun e w' => e = .returned (.tuple #[]) ∧ w = w' := by
  have t1 : (er == 0) = false := beq_eq_false_iff_ne.2 he
  clear he
  go_enter Tryz.func118, Tryz.ntmps118
  go_wp2_with fail
  refine (err_any b l er w h).mono ?_
  rintro e w' ⟨rfl, rfl⟩
  clear h
  go_wp2
  go_end0
  exact ⟨rfl, rfl⟩
theorem fail_ok (b : Nat) (l : List Int) (y : Int) (w : World) (h : RSt w b l 0) : Calls Tryz.prog 118 #[.pointer (some ⟨b, 0, none⟩), .int .i64 y] w fun e w' => e = .returned (.tuple #[]) ∧ Only b w w' ∧ RSt w' b [] y := by
  go_enter Tryz.func118, Tryz.ntmps118
  go_wp2_with fail
  refine (err_any b l 0 w h).mono ?_
  rintro e w' ⟨rfl, rfl⟩
  obtain ⟨v, h1, h2, h3⟩ := h
  have h4 : At w b [v, .int .i64 0].toArray 161 := h1
  have t1 : w.there b 0 2 := fun j hj => ⟨by rw [h1.cell]; simp; omega, h1.frozen _⟩
  clear h2 h3
  go_wp2_with (refine wpList_store_mid rfl 161 _ _ rfl b 0 #[.slice none 0 0, .int .i64 y] rfl rfl t1 sz67 (by simp [Value.oneCell']) ?_)
  go_end0
  refine ⟨rfl, Only.cells b _ 0 w, .slice none 0 0, ?_, fun i _ => Sha.Src.nil _ i, fun _ => rfl⟩
  exact At.cells (t := 161) [.slice none 0 0, .int .i64 y] [v, .int .i64 0] 0 w h4 (by simp)
theorem take_err (b : Nat) (er : Int) (n : Nat) (w : World) (h : RSt w b [] er) (he : er ≠ 0) : Calls Tryz.prog 117 #[.pointer (some ⟨b, 0, none⟩), .int .i64 (n : Int)] w fun e w' => e = .returned (.slice none 0 0) ∧ w = w' := by
  have t2 : (er == 0) = false := beq_eq_false_iff_ne.2 he
  have H := Lib.hid h; clear h
  have He := Lib.hid he; clear he
  by_cases h : 0 < n
  · have t1 : decide (0 < n) = true := by simp; omega
    clear h
    go_enter Tryz.func117, Tryz.ntmps117
    go_wp2_with fail
    refine (left_any b _ _ w H.out).mono ?_
    rintro e w' ⟨rfl, rfl⟩
    go_wp2_with fail
    refine (fail_err b _ _ 2 w H.out He.out).mono ?_
    rintro e w' ⟨rfl, rfl⟩
    go_wp2_with fail
    refine (err_any b _ _ w H.out).mono ?_
    rintro e w' ⟨rfl, rfl⟩
    go_wp2
    go_ret
    exact ⟨rfl, rfl⟩
  · have t1 : decide (0 < n) = false := by simp; omega
    clear h
    go_enter Tryz.func117, Tryz.ntmps117
    go_wp2_with fail
    refine (left_any b _ _ w H.out).mono ?_
    rintro e w' ⟨rfl, rfl⟩
    go_wp2_with fail
    refine (err_any b _ _ w H.out).mono ?_
    rintro e w' ⟨rfl, rfl⟩
    go_wp2
    go_ret
    exact ⟨rfl, rfl⟩
theorem take_short (b : Nat) (l : List Int) (n : Nat) (w : World) (h : RSt w b l 0) (hn : l.length < n) : Calls Tryz.prog 117 #[.pointer (some ⟨b, 0, none⟩), .int .i64 (n : Int)] w fun e w' => e = .returned (.slice none 0 0) ∧ Only b w w' ∧ RSt w' b [] 2 := by
  have H := Lib.hid h; clear h
  have t1 : decide (l.length < n) = true := by simp; omega
  clear hn
  go_enter Tryz.func117, Tryz.ntmps117
  go_wp2_with fail
  refine (left_any b _ _ w H.out).mono ?_
  rintro e w' ⟨rfl, rfl⟩
  go_wp2_with fail
  refine (fail_ok b _ 2 w H.out).mono ?_
  rintro e w' ⟨rfl, ho, hr⟩
  have Hr := Lib.hid hr; clear hr
  go_wp2_with fail
  refine (err_any b _ _ w' Hr.out).mono ?_
  rintro e w' ⟨rfl, rfl⟩
  go_wp2
  go_ret
  exact ⟨rfl, ho, Hr.out⟩
set_option maxHeartbeats 400000 in
theorem take_ok (b : Nat) (l : List Int) (n : Nat) (w : World) (h : RSt w b l 0) (hn : n ≤ l.length) : Calls Tryz.prog 117 #[.pointer (some ⟨b, 0, none⟩), .int .i64 (n : Int)] w fun e w' => ∃ v, e = .returned v ∧ Only b w w' ∧ RSt w' b (l.drop n) 0 ∧ Sha.Src w' v (l.take n) b := by
  have H := Lib.hid h; clear h
  have t1 : decide (l.length < n) = false := by simp; omega
  have Hn := Lib.hid hn; clear hn
  go_enter Tryz.func117, Tryz.ntmps117
  go_wp2_with fail
  refine (left_any b _ _ w H.out).mono ?_
  rintro e w' ⟨rfl, rfl⟩
  go_wp2_with fail
  refine (err_any b _ _ w H.out).mono ?_
  rintro e w' ⟨rfl, rfl⟩
  obtain ⟨v, h1, h2, h3⟩ := H.out
  have S2 := Lib.hid h2
  obtain ⟨ad, cap, sb, so, rfl, x2, x3, x4, x5, x6⟩ := h2 b (Nat.le_refl b)
  clear H
  have hn := Hn.out
  have c0 : w.cell? ⟨b, 0, none⟩ = some (.slice ad l.length cap) := by rw [h1.cell]; rfl
  have f0 := h1.frozen 0
  have n0 : (0 : Int) ≤ (n : Int) := by omega
  have n1 : (n : Int) ≤ (l.length : Int) := by omega
  have n2 : (n : Int) ≤ (cap : Int) := by omega
  have H1 := Lib.hid h1; clear h1
  clear h3 hn x3 x4 x5 x6
  go_wp2
  all_goals go_ret
  · subst h
    exact ⟨_, rfl, Only.set b 0 w _, RSt.set H1.out (fun i hi => src_back0 (S2.out i hi) rfl), (src_front (S2.out b (Nat.le_refl b)) Hn.out).only (Only.set b 0 w _)⟩
  · exact ⟨_, rfl, Only.set b 0 w _, RSt.set H1.out (fun i hi => src_back (S2.out i hi) Hn.out), (src_front (S2.out b (Nat.le_refl b)) Hn.out).only (Only.set b 0 w _)⟩
theorem rst_nil {w : World} {b : Nat} {l : List Int} {e : Int} (h : RSt w b l e) (he : e ≠ 0) : l = [] := by
  obtain ⟨v, _, _, h3⟩ := h
  exact h3 he
set_option maxHeartbeats 400000 in
theorem num_any (b : Nat) (l : List Int) (er : Int) (w : World) (h : RSt w b l er) (hb : Byt l) :
    Calls Tryz.prog 94 #[.pointer (some ⟨b, 0, none⟩)] w fun e w' => e = .returned (.int .i64 (rNum l er).1) ∧ Only b w w' ∧ RSt w' b (rNum l er).2.1 (rNum l er).2.2 := by
  by_cases he : er ≠ 0
  · have hl := rst_nil h he
    subst hl
    rw [rNum, if_pos he]
    have H := Lib.hid h; clear h
    have He := Lib.hid he; clear he hb
    go_enter Tryz.func94, Tryz.ntmps94
    go_wp2_with fail
    refine (take_err b er 4 w H.out He.out).mono ?_
    rintro e w' ⟨rfl, rfl⟩
    go_wp2_with fail
    refine (asn_any _ [] 0 w (Sha.Src.nil w 0) (fun x hx => by simp at hx) (by simp)).mono ?_
    rintro e w' ⟨rfl, rfl⟩
    rw [leN]
    go_wp2
    go_ret
    exact ⟨rfl, Only.refl b w, H.out⟩
  · rw [rNum, if_neg he]
    obtain rfl : er = 0 := Classical.not_not.1 he
    clear he
    by_cases h4 : l.length < 4
    · rw [if_pos h4]
      have H := Lib.hid h; clear h
      have Hb := Lib.hid hb; clear hb
      have H4 := Lib.hid h4; clear h4
      go_enter Tryz.func94, Tryz.ntmps94
      go_wp2_with fail
      refine (take_short b l 4 w H.out H4.out).mono ?_
      rintro e w' ⟨rfl, ho, hr⟩
      have Hr := Lib.hid hr; clear hr
      go_wp2_with fail
      refine (asn_any _ [] 0 w' (Sha.Src.nil w' 0) (fun x hx => by simp at hx) (by simp)).mono ?_
      rintro e w' ⟨rfl, rfl⟩
      rw [leN]
      go_wp2
      go_ret
      exact ⟨rfl, ho, Hr.out⟩
    · rw [if_neg h4]
      have hl : (l.take 4).length = 4 := by rw [List.length_take]; omega
      have hR := leN_range (l.take 4) (hb.take 4)
      rw [hl] at hR
      have hR2 : leN (l.take 4) < 4294967296 := hR.2
      have hw : IntKind.i64.wrap (leN (l.take 4)) = leN (l.take 4) := IntWalk.i64_in _ (by omega)
      by_cases hg : 2147483647 < leN (l.take 4)
      · rw [if_pos hg]
        have t1 : decide (2147483647 < leN (l.take 4)) = true := decide_eq_true hg
        have H := Lib.hid h; clear h
        have Hb := Lib.hid hb; clear hb
        have H4 := Lib.hid h4; clear h4
        have Hl := Lib.hid hl; clear hl hR hR2 hg
        go_enter Tryz.func94, Tryz.ntmps94
        go_wp2_with fail
        refine (take_ok b l 4 w H.out (by have := H4.out; omega)).mono ?_
        rintro e w' ⟨v, rfl, ho, hr, hs⟩
        have Hr := Lib.hid hr; clear hr
        have Hs := Lib.hid hs; clear hs
        go_wp2_with fail
        refine (asn_any v _ b w' Hs.out (Hb.out.take 4) (by rw [Hl.out]; omega)).mono ?_
        rintro e w' ⟨rfl, rfl⟩
        go_wp2_with fail
        refine (fail_ok b _ 2 _ Hr.out).mono ?_
        rintro e w2 ⟨rfl, ho2, hr2⟩
        go_wp2
        go_ret
        exact ⟨rfl, ho.trans ho2, hr2⟩
      · rw [if_neg hg]
        have t1 : decide (2147483647 < leN (l.take 4)) = false := decide_eq_false hg
        have H := Lib.hid h; clear h
        have Hb := Lib.hid hb; clear hb
        have H4 := Lib.hid h4; clear h4
        have Hl := Lib.hid hl; clear hl hR hR2 hg
        go_enter Tryz.func94, Tryz.ntmps94
        go_wp2_with fail
        refine (take_ok b l 4 w H.out (by have := H4.out; omega)).mono ?_
        rintro e w' ⟨v, rfl, ho, hr, hs⟩
        have Hr := Lib.hid hr; clear hr
        have Hs := Lib.hid hs; clear hs
        go_wp2_with fail
        refine (asn_any v _ b w' Hs.out (Hb.out.take 4) (by rw [Hl.out]; omega)).mono ?_
        rintro e w' ⟨rfl, rfl⟩
        go_wp2
        go_ret
        exact ⟨rfl, ho, Hr.out⟩
theorem word_any (b : Nat) (l : List Int) (er : Int) (w : World) (h : RSt w b l er) (hb : Byt l) :
    Calls Tryz.prog 95 #[.pointer (some ⟨b, 0, none⟩)] w fun e w' => e = .returned (.int .u64 (rWord l er).1) ∧ Only b w w' ∧ RSt w' b (rWord l er).2.1 (rWord l er).2.2 := by
  by_cases he : er ≠ 0
  · have hl := rst_nil h he
    subst hl
    rw [rWord, if_pos he]
    have H := Lib.hid h; clear h
    have He := Lib.hid he; clear he hb
    go_enter Tryz.func95, Tryz.ntmps95
    go_wp2_with fail
    refine (take_err b er 8 w H.out He.out).mono ?_
    rintro e w' ⟨rfl, rfl⟩
    go_wp2_with fail
    refine (asn_any _ [] 0 w (Sha.Src.nil w 0) (fun x hx => by simp at hx) (by simp)).mono ?_
    rintro e w' ⟨rfl, rfl⟩
    rw [leN]
    go_wp2
    go_ret
    exact ⟨rfl, Only.refl b w, H.out⟩
  · rw [rWord, if_neg he]
    obtain rfl : er = 0 := Classical.not_not.1 he
    clear he
    by_cases h4 : l.length < 8
    · rw [if_pos h4]
      have H := Lib.hid h; clear h
      have Hb := Lib.hid hb; clear hb
      have H4 := Lib.hid h4; clear h4
      go_enter Tryz.func95, Tryz.ntmps95
      go_wp2_with fail
      refine (take_short b l 8 w H.out H4.out).mono ?_
      rintro e w' ⟨rfl, ho, hr⟩
      have Hr := Lib.hid hr; clear hr
      go_wp2_with fail
      refine (asn_any _ [] 0 w' (Sha.Src.nil w' 0) (fun x hx => by simp at hx) (by simp)).mono ?_
      rintro e w' ⟨rfl, rfl⟩
      rw [leN]
      go_wp2
      go_ret
      exact ⟨rfl, ho, Hr.out⟩
    · rw [if_neg h4]
      have hl : (l.take 8).length = 8 := by rw [List.length_take]; omega
      have H := Lib.hid h; clear h
      have Hb := Lib.hid hb; clear hb
      have H4 := Lib.hid h4; clear h4
      have Hl := Lib.hid hl; clear hl
      go_enter Tryz.func95, Tryz.ntmps95
      go_wp2_with fail
      refine (take_ok b l 8 w H.out (by have := H4.out; omega)).mono ?_
      rintro e w' ⟨v, rfl, ho, hr, hs⟩
      have Hr := Lib.hid hr; clear hr
      have Hs := Lib.hid hs; clear hs
      go_wp2_with fail
      refine (asn_any v _ b w' Hs.out (Hb.out.take 8) (by rw [Hl.out]; omega)).mono ?_
      rintro e w' ⟨rfl, rfl⟩
      go_wp2
      go_ret
      exact ⟨rfl, ho, Hr.out⟩
set_option maxHeartbeats 400000 in
theorem cnt_any (b : Nat) (l : List Int) (er : Int) (most : Nat) (w : World) (h : RSt w b l er) (hb : Byt l) :
    Calls Tryz.prog 115 #[.pointer (some ⟨b, 0, none⟩), .int .i64 (most : Int)] w fun e w' => ∃ v, e = .returned v ∧ Only b w w' ∧ RSt w' b (rCnt l er most).2.1 (rCnt l er most).2.2 ∧ Sha.Src w' v (rCnt l er most).1 b := by
  have hR := rNum_range l er hb
  have hB := rNum_byt l er hb
  have hN := num_any b l er w h hb
  clear h hb
  unfold rCnt
  generalize rNum l er = R at *
  obtain ⟨N, l', e'⟩ := R
  simp only at hR hB hN ⊢
  obtain ⟨n, rfl⟩ : ∃ n : Nat, N = (n : Int) := ⟨N.toNat, int_nat N hR.1⟩
  rw [Int.toNat_natCast]
  have HN := Lib.hid hN; clear hN hB
  by_cases he : e' ≠ 0
  · rw [if_pos he]
    have He := Lib.hid he; clear he hR
    have t1 : decide ((most : Int) < 0) = false := by simp
    go_enter Tryz.func115, Tryz.ntmps115
    go_wp2_with fail
    refine HN.out.mono ?_
    rintro e w' ⟨rfl, ho, hr⟩
    have hl := rst_nil hr He.out
    subst hl
    have Hr := Lib.hid hr; clear hr
    go_wp2_with fail
    refine (take_err b e' n w' Hr.out He.out).mono ?_
    rintro e w2 ⟨rfl, rfl⟩
    go_wp2
    go_ret
    exact ⟨_, rfl, ho, Hr.out, Sha.Src.nil _ _⟩
  · rw [if_neg he]
    obtain rfl : e' = 0 := Classical.not_not.1 he
    clear he
    by_cases h2 : l'.length < n
    · rw [if_pos h2]
      have H2 := Lib.hid h2; clear h2 hR
      have t1 : decide ((most : Int) < 0) = false := by simp
      go_enter Tryz.func115, Tryz.ntmps115
      go_wp2_with fail
      refine HN.out.mono ?_
      rintro e w' ⟨rfl, ho, hr⟩
      have Hr := Lib.hid hr; clear hr
      go_wp2_with fail
      refine (take_short b l' n w' Hr.out H2.out).mono ?_
      rintro e w2 ⟨rfl, ho2, hr2⟩
      have Hr2 := Lib.hid hr2; clear hr2
      go_wp2
      go_ret
      exact ⟨_, rfl, ho.trans ho2, Hr2.out, Sha.Src.nil _ _⟩
    · rw [if_neg h2]
      have hl : (l'.take n).length = n := by rw [List.length_take]; omega
      by_cases h3 : most < n
      · rw [if_pos h3]
        have H2 := Lib.hid h2; clear h2 hR
        have Hl := Lib.hid hl; clear hl
        have t1 : decide (most < n) = true := decide_eq_true h3
        clear h3
        go_enter Tryz.func115, Tryz.ntmps115
        go_wp2_with fail
        refine HN.out.mono ?_
        rintro e w' ⟨rfl, ho, hr⟩
        have Hr := Lib.hid hr; clear hr
        go_wp2_with fail
        refine (take_ok b l' n w' Hr.out (by have := H2.out; omega)).mono ?_
        rintro e w2 ⟨v, rfl, ho2, hr2, hs2⟩
        obtain ⟨ad, cap, rfl⟩ := hs2.len
        have Hr2 := Lib.hid hr2; clear hr2 hs2
        rw [Hl.out]
        go_wp2_with fail
        refine (fail_ok b _ 3 _ Hr2.out).mono ?_
        rintro e w3 ⟨rfl, ho3, hr3⟩
        have Hr3 := Lib.hid hr3; clear hr3
        go_wp2
        go_ret
        exact ⟨_, rfl, (ho.trans ho2).trans ho3, Hr3.out, Sha.Src.nil _ _⟩
      · rw [if_neg h3]
        have H2 := Lib.hid h2; clear h2 hR
        have Hl := Lib.hid hl; clear hl
        have t1 : decide (most < n) = false := decide_eq_false h3
        clear h3
        go_enter Tryz.func115, Tryz.ntmps115
        go_wp2_with fail
        refine HN.out.mono ?_
        rintro e w' ⟨rfl, ho, hr⟩
        have Hr := Lib.hid hr; clear hr
        go_wp2_with fail
        refine (take_ok b l' n w' Hr.out (by have := H2.out; omega)).mono ?_
        rintro e w2 ⟨v, rfl, ho2, hr2, hs2⟩
        obtain ⟨ad, cap, rfl⟩ := hs2.len
        have Hr2 := Lib.hid hr2; clear hr2
        have Hs2 := Lib.hid hs2; clear hs2
        rw [Hl.out]
        go_wp2
        go_ret
        refine ⟨_, rfl, ho.trans ho2, Hr2.out, ?_⟩
        have := Hs2.out
        rwa [Hl.out] at this
theorem rbytes_any (b : Nat) (l : List Int) (er : Int) (most : Nat) (w : World) (h : RSt w b l er) (hb : Byt l) (hm : most ≤ 1000000000) :
    Calls Tryz.prog 96 #[.pointer (some ⟨b, 0, none⟩), .int .i64 (most : Int)] w fun e w' => ∃ v, e = .returned v ∧ Only b w w' ∧ RSt w' b (rCnt l er most).2.1 (rCnt l er most).2.2 ∧ OwnB w' w.heap.size v (rCnt l er most).1 := by
  have H := Lib.hid h; clear h
  have Hb := Lib.hid hb; clear hb
  go_enter Tryz.func96, Tryz.ntmps96
  go_wp2_with fail
  refine (cnt_any b l er most w H.out Hb.out).mono ?_
  rintro e w1 ⟨v, rfl, ho, hr, hs⟩
  have Hr := Lib.hid hr; clear hr
  have Hs := Lib.hid hs; clear hs
  go_wp2_with fail
  refine (clone_at _ _ b w1 Hs.out (by have := rCnt_short l er most; omega)).mono ?_
  rintro e w2 ⟨u, rfl, h1, h2⟩
  have Hr2 := Lib.hid (Hr.out.below h1)
  have S2 := Lib.hid (own_less h2 ho.size)
  clear h2
  go_wp2
  go_ret
  exact ⟨u, rfl, ho.trans (Only.of_below h1), Hr2.out, S2.out⟩
theorem text_any (b : Nat) (l : List Int) (er : Int) (most : Nat) (w : World) (h : RSt w b l er) (hb : Byt l) :
    Calls Tryz.prog 93 #[.pointer (some ⟨b, 0, none⟩), .int .i64 (most : Int)] w fun e w' => e = .returned (.string (strOfNums (rCnt l er most).1)) ∧ Only b w w' ∧ RSt w' b (rCnt l er most).2.1 (rCnt l er most).2.2 := by
  have H := Lib.hid h; clear h
  have Hb := Lib.hid hb; clear hb
  go_enter Tryz.func93, Tryz.ntmps93
  go_wp2_with fail
  refine (cnt_any b l er most w H.out Hb.out).mono ?_
  rintro e w1 ⟨v, rfl, ho, hr, hs⟩
  have c1 := conv_src (P := Tryz.prog) 50 9 5 Tryz.underlying50 Tryz.underlying5 Tryz.underlying9 hs
  have Hr := Lib.hid hr; clear hr hs
  go_wp2
  go_ret
  exact ⟨rfl, ho, Hr.out⟩
theorem newr_any (v : Value) (m : List Int) (b : Nat) (w : World) (hs : Sha.Src w v m b) (hl : m.length ≤ 1000000000) : Calls Tryz.prog 91 #[v] w fun e w' => ∃ g, e = .returned (.pointer (some ⟨g, 0, none⟩)) ∧ Ext w w' ∧ RSt w' g m 0 ∧ w.heap.size ≤ g := by
  have Hs := Lib.hid hs; clear hs
  go_enter Tryz.func91, Tryz.ntmps91
  go_wp2_with fail
  refine (clone_at v m b w Hs.out (by omega)).mono ?_
  rintro e w1 ⟨u, rfl, h1, h2⟩
  have S2 := Lib.hid (fun (i : Nat) (hi : w1.heap.size ≤ i) => h2.srcs i (Or.inr hi))
  obtain ⟨ad, cap, rfl⟩ := h2.len
  clear h2
  go_wp2
  go_ret
  refine ⟨w1.heap.size, rfl, h1.trans (Ext.alloc w1 _), ⟨_, At.new w1 _ 161, fun i hi => (S2.out i hi).ext (Ext.alloc w1 _), fun h => absurd rfl h⟩, h1.size⟩
end Go.Proofs.YtnhokjnmpdiokaaGreatDoor.Q
