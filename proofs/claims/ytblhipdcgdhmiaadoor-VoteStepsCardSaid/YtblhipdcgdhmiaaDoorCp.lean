/- The contracts of the document's GetNum and GetBytes. -/
import Derived.Test.YtblhipdcgdhmiaaDoorCk
namespace Go.Proofs.YtblhipdcgdhmiaaDoor
open Go.RowKit Go.Sha

theorem i64_or_nat (a b : Nat) (ha : a < 9223372036854775808) (hb : b < 9223372036854775808) : bits .or .i64 (a : Int) (b : Int) = ((a ||| b : Nat) : Int) := by
  have hx : a ||| b < 2 ^ 63 := Nat.or_lt_two_pow (by omega) (by omega)
  show IntKind.i64.wrap ((BitVec.ofInt 64 (a : Int) ||| BitVec.ofInt 64 (b : Int)).toNat : Int) = _
  rw [BitVec.toNat_or, ofInt_u64 a (by omega), ofInt_u64 b (by omega), IntWalk.i64_in _ (by omega)]
theorem or_apart_i (a x : Int) (k : Nat) (ha : 0 ≤ a ∧ a < 2 ^ k) (hx : 0 ≤ x) (hb : a + x * 2 ^ k < 9223372036854775808) : bits .or .i64 a (x * 2 ^ k) = a + x * 2 ^ k := by
  obtain ⟨a, rfl⟩ := Int.eq_ofNat_of_zero_le ha.1
  obtain ⟨x, rfl⟩ := Int.eq_ofNat_of_zero_le hx
  have e0 : ((2 : Int) ^ k) = ((2 ^ k : Nat) : Int) := by rw [Int.natCast_pow]; rfl
  rw [e0] at ha hb ⊢
  rw [← Int.natCast_mul] at hb ⊢
  generalize hy : x * 2 ^ k = y at *
  have ha2 : a < 2 ^ k := by omega
  have e2 : (a ||| y) = a + y := by
    have := Nat.two_pow_add_eq_or_of_lt ha2 x
    rw [← hy, Nat.or_comm, Nat.mul_comm x, ← this, Nat.add_comm]
  rw [i64_or_nat a y (by omega) (by omega), e2, Int.natCast_add]
theorem ext_drewN (w : World) (n : Nat) : Ext w (w.drewN n) := ⟨rfl, rfl, rfl, Nat.le_refl _, fun _ _ => rfl⟩
/-- What GetNum answers. -/
def gNum (l : List Int) : Int := if (rNum l 0).2.2 = 0 then (rNum l 0).1 else -1
theorem take4 (l : List Int) (h : 4 ≤ l.length) : l.take 4 = [l[0]?.getD 0, l[1]?.getD 0, l[2]?.getD 0, l[3]?.getD 0] := by
  match l, h with
  | a :: b :: c :: d :: r, _ => rfl
theorem leN4 (l : List Int) (h : 4 ≤ l.length) : leN (l.take 4) = l[0]?.getD 0 + l[1]?.getD 0 * 256 + l[2]?.getD 0 * 65536 + l[3]?.getD 0 * 16777216 := by
  rw [take4 l h]
  simp only [leN]
  omega
theorem or4 (a b c d : Int) (ha : 0 ≤ a ∧ a < 256) (hb : 0 ≤ b ∧ b < 256) (hc : 0 ≤ c ∧ c < 256) (hd : 0 ≤ d ∧ d < 256) : bits .or .i64 (bits .or .i64 (bits .or .i64 a (b * 256)) (c * 65536)) (d * 16777216) = a + b * 256 + c * 65536 + d * 16777216 := by
  have h1 : bits .or .i64 a (b * 256) = a + b * 256 := or_apart_i a b 8 (by omega) hb.1 (by omega)
  rw [h1]
  have h2 : bits .or .i64 (a + b * 256) (c * 65536) = a + b * 256 + c * 65536 := or_apart_i _ c 16 (by omega) hc.1 (by omega)
  rw [h2]
  exact or_apart_i _ d 24 (by omega) hd.1 (by omega)
theorem gNum_short (l : List Int) (h : l.length < 4) : gNum l = -1 := by
  have e : rNum l 0 = (0, [], 2) := by rw [rNum, if_neg (by simp), if_pos h]
  unfold gNum
  rw [e]
  rfl
theorem gNum_big (l : List Int) (h : 4 ≤ l.length) (hb : Byt l) (h3 : (127 : Int) < l[3]?.getD 0) : gNum l = -1 := by
  have h0 := hb.get 0 (by omega)
  have h1 := hb.get 1 (by omega)
  have h2 := hb.get 2 (by omega)
  have e : rNum l 0 = (0, [], 2) := by rw [rNum, if_neg (by simp), if_neg (by omega), if_pos (by rw [leN4 l h]; omega)]
  unfold gNum
  rw [e]
  rfl
theorem gNum_ok (l : List Int) (h : 4 ≤ l.length) (hb : Byt l) (h3 : ¬ (127 : Int) < l[3]?.getD 0) : gNum l = l[0]?.getD 0 + l[1]?.getD 0 * 256 + l[2]?.getD 0 * 65536 + l[3]?.getD 0 * 16777216 := by
  have h0 := hb.get 0 (by omega)
  have h1 := hb.get 1 (by omega)
  have h2 := hb.get 2 (by omega)
  have e : rNum l 0 = (leN (l.take 4), l.drop 4, 0) := by rw [rNum, if_neg (by simp), if_neg (by omega), if_neg (by rw [leN4 l h]; omega)]
  unfold gNum
  rw [e, if_pos rfl, leN4 l h]
set_option maxHeartbeats 1000000 in
set_option maxRecDepth 100000 in
theorem getn_any (v : Value) (l : List Int) (b : Nat) (w : World) (hs : Src w v l b) (hb : Byt l) (hl : l.length ≤ 1000000) : Calls Tryd.prog 34 #[v] w fun e w' => e = .returned (.int .i64 (gNum l)) ∧ Ext w w' := by
  obtain ⟨ad, cap, sb, so, rfl, x2, x3, x4, x5, x6⟩ := hs
  obtain ⟨L, hL⟩ : ∃ L, L = l.length := ⟨_, rfl⟩
  rw [← hL] at hl x2 x3 x5 ⊢
  by_cases h4 : L < 4
  · have hg := gNum_short l (by omega)
    rw [hg]
    have t1 : decide ((L : Int) < 4) = true := decide_eq_true (by omega)
    clear hL hg x2 x3 x4 x5 x6 hb
    go_enter Tryd.func34, Tryd.ntmps34
    go_wp2
    go_ret
    exact ⟨rfl, Ext.refl w⟩
  · have e := x3 (by omega)
    subst e
    have t1 : decide ((L : Int) < 4) = false := decide_eq_false (by omega)
    have c0 := x5 0 (by omega)
    have c1 := x5 1 (by omega)
    have c2 := x5 2 (by omega)
    have c3 := x5 3 (by omega)
    have q0 := hb.get 0 (by omega)
    have q1 := hb.get 1 (by omega)
    have q2 := hb.get 2 (by omega)
    have q3 := hb.get 3 (by omega)
    have i0 : (0 : Int) < (L : Int) := by omega
    have i1 : (1 : Int) < (L : Int) := by omega
    have i2 : (2 : Int) < (L : Int) := by omega
    have i3 : (3 : Int) < (L : Int) := by omega
    rw [Nat.add_zero] at c0
    by_cases h127 : (127 : Int) < l[3]?.getD 0
    · have hg := gNum_big l (by omega) hb h127
      rw [hg]
      have t2 : decide ((127 : Int) < l[3]?.getD 0) = true := decide_eq_true h127
      generalize l[3]?.getD 0 = y3 at *
      clear hL hg x2 x3 x4 x5 x6 hb h127 h4 c0 c1 c2
      go_enter Tryd.func34, Tryd.ntmps34
      go_wp2
      go_ret
      exact ⟨rfl, Ext.refl w⟩
    · have hg := gNum_ok l (by omega) hb h127
      rw [hg]
      have t2 : decide ((127 : Int) < l[3]?.getD 0) = false := decide_eq_false h127
      have ho := or4 _ _ _ _ q0 q1 q2 q3
      generalize l[0]?.getD 0 = y0 at *
      generalize l[1]?.getD 0 = y1 at *
      generalize l[2]?.getD 0 = y2 at *
      generalize l[3]?.getD 0 = y3 at *
      have Ho := Lib.hid ho
      have W1 : IntKind.i64.wrap (y1 * 256) = y1 * 256 := IntWalk.i64_in _ (by omega)
      have W2 : IntKind.i64.wrap (y2 * 65536) = y2 * 65536 := IntWalk.i64_in _ (by omega)
      have W3 : IntKind.i64.wrap (y3 * 16777216) = y3 * 16777216 := IntWalk.i64_in _ (by omega)
      clear ho hL hg x2 x3 x4 x5 x6 hb h127 h4
      go_enter Tryd.func34, Tryd.ntmps34
      go_wp2
      go_quiet (fail)
      go_wp2
      go_ret
      refine ⟨?_, ext_drewN w _⟩
      rw [← Ho.out]
      rfl

theorem rNum_cases (l : List Int) (hb : Byt l) : (gNum l = -1 ∧ rNum l 0 = (0, [], 2)) ∨ ∃ n : Nat, gNum l = (n : Int) ∧ n ≤ 2147483647 ∧ rNum l 0 = ((n : Int), l.drop 4, 0) ∧ 4 ≤ l.length := by
  have hR := rNum_range l 0 hb
  unfold gNum
  by_cases h4 : l.length < 4
  · have e : rNum l 0 = (0, [], 2) := by rw [rNum, if_neg (by simp), if_pos h4]
    rw [e]; exact Or.inl ⟨rfl, rfl⟩
  · by_cases hg : 2147483647 < leN (l.take 4)
    · have e : rNum l 0 = (0, [], 2) := by rw [rNum, if_neg (by simp), if_neg h4, if_pos hg]
      rw [e]; exact Or.inl ⟨rfl, rfl⟩
    · have e : rNum l 0 = (leN (l.take 4), l.drop 4, 0) := by rw [rNum, if_neg (by simp), if_neg h4, if_neg hg]
      rw [e] at hR ⊢
      refine Or.inr ⟨(leN (l.take 4)).toNat, ?_, by simp only at hR; omega, ?_, by omega⟩
      · rw [if_pos rfl]; exact int_nat _ hR.1
      · rw [← int_nat _ hR.1]
/-- s[4:4+n] -/
theorem src_mid4 {w : World} {ad : Option Addr} {l : List Int} {cap b n : Nat} (h : Src w (.slice ad l.length cap) l b) (hn : 4 + n ≤ l.length) : Src w (.slice (Option.map (fun x => x.add 4) ad) n (cap - 4)) ((l.drop 4).take n) b := by
  have h1 := src_back h (n := 4) (by omega)
  have hd : (l.drop 4).length = l.length - 4 := List.length_drop
  rw [← hd] at h1
  exact src_front h1 (by rw [hd]; omega)
theorem src_none (w : World) (ad : Option Addr) (b : Nat) : Src w (.slice ad 0 0) [] b := ⟨ad, 0, b + 1, 0, rfl, by simp, fun h => by simp at h, by omega, fun j hj => by simp at hj, fun _ => rfl⟩
set_option maxHeartbeats 1000000 in
set_option maxRecDepth 100000 in
theorem getb_any (v : Value) (l : List Int) (b most : Nat) (w : World) (hs : Src w v l b) (hb : Byt l) (hl : l.length ≤ 1000000) : Calls Tryd.prog 33 #[v, .int .i64 (most : Int)] w fun e w' => ∃ v1 v2, e = .returned (.tuple #[v1, v2, .int .i64 (rCnt l 0 most).2.2]) ∧ Ext w w' ∧
    ∀ W b, Src W v l b → Src W v1 (rCnt l 0 most).1 b ∧ Src W v2 (rCnt l 0 most).2.1 b := by
  have hN := getn_any v l b w hs hb hl
  obtain ⟨ad, cap, rfl⟩ := hs.len
  have hcap : l.length ≤ cap := by obtain ⟨_, _, _, _, e, x2, _⟩ := hs; injection e with _ _ e3; omega
  have HN := Lib.hid hN
  obtain ⟨L, hL⟩ : ∃ L, L = l.length := ⟨_, rfl⟩
  have HL := Lib.hid hL
  rcases rNum_cases l hb with ⟨hg, hr⟩ | ⟨n, hg, hn, hr, h4⟩
  · have hR : rCnt l 0 most = ([], [], 2) := by unfold rCnt; rw [hr, if_pos (by simp)]
    rw [hR]
    rw [hg] at HN
    rw [← hL] at HN ⊢
    clear hs hb hl hN hg hr hR hL hcap
    go_enter Tryd.func33, Tryd.ntmps33
    go_wp2_with fail
    refine HN.out.mono ?_
    rintro e w1 ⟨rfl, e1⟩
    go_wp2
    go_ret3
    exact ⟨_, _, rfl, e1, fun W b _ => ⟨Src.nil _ _, Src.nil _ _⟩⟩
  · have hd : (l.drop 4).length = l.length - 4 := List.length_drop
    rw [hg] at HN
    have n0 : (0 : Int) ≤ (n : Int) := by omega
    by_cases h5 : l.length - 4 < n
    · have hR : rCnt l 0 most = ([], [], 2) := by
        unfold rCnt
        rw [hr]
        simp only [Int.toNat_natCast]
        rw [if_neg (by simp), if_pos (by rw [hd]; omega)]
      rw [hR]
      rw [← hL] at HN hl h4 h5 ⊢
      have t2 : decide ((L : Int) - 4 < (n : Int)) = true := decide_eq_true (by omega)
      clear hs hb hN hg hr hR hL hd h5 hcap
      go_enter Tryd.func33, Tryd.ntmps33
      go_wp2_with fail
      refine HN.out.mono ?_
      rintro e w1 ⟨rfl, e1⟩
      go_wp2
      go_ret3
      exact ⟨_, _, rfl, e1, fun W b _ => ⟨Src.nil _ _, Src.nil _ _⟩⟩
    · by_cases h6 : most < n
      · have hR : rCnt l 0 most = ([], [], 3) := by
          unfold rCnt
          rw [hr]
          simp only [Int.toNat_natCast]
          rw [if_neg (by simp), if_neg (by rw [hd]; omega), if_pos h6]
        rw [hR]
        rw [← hL] at HN hl h4 h5 ⊢
        have t2 : decide ((L : Int) - 4 < (n : Int)) = false := decide_eq_false (by omega)
        have t3 : decide (most < n) = true := decide_eq_true h6
        clear hs hb hN hg hr hR hL hd h5 hcap
        go_enter Tryd.func33, Tryd.ntmps33
        go_wp2_with fail
        refine HN.out.mono ?_
        rintro e w1 ⟨rfl, e1⟩
        go_wp2
        go_ret3
        exact ⟨_, _, rfl, e1, fun W b _ => ⟨Src.nil _ _, Src.nil _ _⟩⟩
      · have hR : rCnt l 0 most = ((l.drop 4).take n, l.drop (4 + n), 0) := by
          unfold rCnt
          rw [hr]
          simp only [Int.toNat_natCast]
          rw [if_neg (by simp), if_neg (by rw [hd]; omega), if_neg h6, List.drop_drop]
        rw [hR]
        have hln : 4 + n ≤ l.length := by omega
        have Hln := Lib.hid hln
        rw [← hL] at HN hl h4 h5 hcap hln ⊢
        have t2 : decide ((L : Int) - 4 < (n : Int)) = false := decide_eq_false (by omega)
        have t3 : decide (most < n) = false := decide_eq_false h6
        have i1 : (4 : Int) ≤ (cap : Int) := by omega
        have i2 : (4 : Int) + (n : Int) ≤ (cap : Int) := by omega
        have i3 : (4 : Int) + (n : Int) ≤ (L : Int) := by omega
        have i4 : ((4 : Int) + (n : Int)).toNat = 4 + n := by omega
        have i5 : (0 : Int) ≤ 4 + (n : Int) := by omega
        clear hs hb hN hg hr hR hL hd h5
        go_enter Tryd.func33, Tryd.ntmps33
        go_wp2_with fail
        refine HN.out.mono ?_
        rintro e w1 ⟨rfl, e1⟩
        go_wp2
        go_quiet (fail)
        go_wp2
        · go_ret3
          refine ⟨_, _, rfl, e1.trans (ext_drewN _ _), fun W b h => ?_⟩
          rw [HL.out] at h ⊢
          exact ⟨src_none _ _ _, src_back0 h rfl⟩
        · go_ret3
          refine ⟨_, _, rfl, e1.trans (ext_drewN _ _), fun W b h => ?_⟩
          rw [HL.out] at h ⊢
          have h1 := src_mid4 h Hln.out
          rw [show 4 + n - 4 = n by omega] at h1
          exact ⟨h1, src_back0 h rfl⟩
        · go_ret3
          refine ⟨_, _, rfl, e1.trans (ext_drewN _ _), fun W b h => ?_⟩
          rw [HL.out] at h ⊢
          exact ⟨src_mid4 h Hln.out, src_back h Hln.out⟩
end Go.Proofs.YtblhipdcgdhmiaaDoor
