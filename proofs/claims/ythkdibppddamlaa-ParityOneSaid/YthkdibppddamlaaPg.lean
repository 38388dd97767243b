/- The walk of ParityOne. -/
import Derived.Test.YthkdibppddamlaaPf
namespace Go.Proofs.Ythkdibppddamlaa
open Go.RowKit Go.Sha
set_option linter.unusedSimpArgs false

theorem grps_one (s B : Int) : grpsN s B 1 = cntL s B := by
  unfold grpsN
  rw [if_neg (by omega), Int.ediv_one]; omega
theorem blockT_byt (m : List Int) (B k : Int) (h : Byt m) : Byt (blockT m B k) := by
  intro x hx
  unfold blockT at hx
  split at hx
  · exact h x (List.mem_of_mem_drop (List.mem_of_mem_take hx))
  · simp at hx
theorem par_one (m : List Int) (B : Int) (g : Nat) : parL m B 1 g = xorL (List.replicate B.toNat 0) (blockT m B g) := by
  unfold parL gb
  simp [List.range_succ, grp]
theorem fitZ_byt (a : List Int) (S : Nat) (h : Byt a) : Byt (fitZ a S) := by
  intro x hx
  unfold fitZ at hx
  rcases List.mem_append.1 hx with hx | hx
  · exact h x (List.mem_of_mem_take hx)
  · exact zeros_byt _ x hx
theorem cnt_two (b : Nat) (h1 : 1 ≤ b) (h2 : b ≤ 500) : cntL ((b + b : Nat) : Int) b = 2 := by
  unfold cntL
  rw [if_neg (by omega)]
  have : ((b + b : Nat) : Int) + b - 1 = (b - 1) + 2 * b := by omega
  rw [this, Int.add_mul_ediv_right _ _ (by omega), Int.ediv_eq_zero_of_lt (by omega) (by omega)]; rfl
theorem twice (F : List Int) (b : Nat) (hF : Byt F) (hl : F.length = b) (h1 : 1 ≤ b) (h2 : b ≤ 500) : buildL (F ++ F) b 2 = [List.replicate b 0] := by
  have hc := cnt_two b h1 h2
  have hL : (F ++ F).length = b + b := by simp [hl]
  have hg : grpsN ((F ++ F).length : Int) b 2 = 1 := by
    unfold grpsN
    rw [hL, hc]; rfl
  have e0 : blockT (F ++ F) b (0 : Nat) = F := by
    unfold blockT
    rw [hL, hc, if_pos (by omega)]
    simp [blkL, ← hl]
  have e1 : blockT (F ++ F) b (1 : Nat) = F := by
    unfold blockT
    rw [hL, hc, if_pos (by omega)]
    simp [blkL, ← hl]
  unfold buildL
  rw [hg]
  have hp : parL (F ++ F) b (2 : Int).toNat 0 = List.replicate b 0 := by
    unfold parL gb
    have hr : List.range (2 : Int).toNat = [0, 1] := rfl
    rw [hr]
    show grp _ [blockT (F ++ F) b ((0 * 2 + 0 : Nat) : Int), blockT (F ++ F) b ((0 * 2 + 1 : Nat) : Int)] = _
    rw [show (0 * 2 + 0 : Nat) = 0 from rfl, show (0 * 2 + 1 : Nat) = 1 from rfl, e0, e1, Int.toNat_natCast]
    show xorL (xorL (List.replicate b 0) F) F = _
    rw [← hl, zero_xorL F hF, xorL_self]
  have hr : List.range (1 : Int).toNat = [0] := rfl
  rw [hr, List.map_cons, List.map_nil, hp]

def InvO1 (w : World) (n : Nat) (i : Value) (wr : World) : Prop := ∃ k : Nat, k ≤ n ∧ i = .int .i64 k ∧ Ext w wr
def InvO2 (w : World) (n : Nat) (i : Value) (wr : World) : Prop := ∃ k : Nat, k ≤ n ∧ i = .int .i64 k ∧ w = wr
def True' (w : World) (e : Ending) (w' : World) : Prop := e = .returned (.bool true) ∧ Ext w w'

theorem one_small (v : Value) (a : List Int) (B : Int) (w : World) (hs : Src w v a w.heap.size) (h : a.length = 0 ∨ 500 < a.length ∨ B < 1 ∨ 500 < B) :
    Calls Try.prog 4 #[v, .int .i64 B] w (True' w) := by
  obtain ⟨ad, cap, ev⟩ := hs.len
  subst ev
  clear hs
  generalize a.length = N at *
  have C := awake_any w
  by_cases h1 : N = 0
  · subst h1
    go_enter Try.func4, Try.ntmps4
    go_wp2_with fail
    refine C.mono ?_
    rintro e w' ⟨rfl, ex⟩
    go_wp2
    go_ret
    exact ⟨rfl, ex⟩
  have t1 : ((N : Int) == 0) = false := by simp; omega
  by_cases h2 : 500 < N
  · have d2 : decide ((500 : Int) < (N : Int)) = true := by simp; omega
    clear h h1 h2
    go_enter Try.func4, Try.ntmps4
    go_wp2_with fail
    refine C.mono ?_
    rintro e w' ⟨rfl, ex⟩
    go_wp2
    go_ret
    exact ⟨rfl, ex⟩
  have d2 : decide ((500 : Int) < (N : Int)) = false := by simp; omega
  by_cases h3 : B < 1
  · have d3 : decide (B < 1) = true := by simpa using h3
    clear h h1 h2 h3
    go_enter Try.func4, Try.ntmps4
    go_wp2_with fail
    refine C.mono ?_
    rintro e w' ⟨rfl, ex⟩
    go_wp2
    go_ret
    exact ⟨rfl, ex⟩
  have d3 : decide (B < 1) = false := by simpa using h3
  have d4 : decide (500 < B) = true := by simp; omega
  clear h h1 h2 h3
  go_enter Try.func4, Try.ntmps4
  go_wp2_with fail
  refine C.mono ?_
  rintro e w' ⟨rfl, ex⟩
  go_wp2
  go_ret
  exact ⟨rfl, ex⟩

set_option maxHeartbeats 8000000 in
theorem one_great (v : Value) (a : List Int) (b : Nat) (w : World) (hs : Src w v a w.heap.size) (hby : Byt a) (h0 : 0 < a.length) (h5 : a.length ≤ 500) (hb1 : 1 ≤ b) (hb5 : b ≤ 500) :
    Calls Try.prog 4 #[v, .int .i64 b] w (True' w) := by
  obtain ⟨ad, cap, ev⟩ := hs.len
  subst ev
  obtain ⟨n, hn⟩ : ∃ n : Nat, cntL a.length b = n := Int.eq_ofNat_of_zero_le (cntL_nonneg _ _)
  have hnb : n ≤ 1048576 := by have := cntL_le a.length b; omega
  have hL := buildL_length a b 1
  rw [grps_one, hn, Int.toNat_natCast] at hL
  have hget : ∀ k, k < n → (buildL a b 1)[k]? = some (xorL (List.replicate b 0) (blockT a b k)) := fun k hk => by
    rw [buildL_get a b 1 k (by rw [grps_one, hn]; simpa using hk)]
    rw [show (1 : Int).toNat = 1 from rfl, par_one, Int.toNat_natCast]
  have HGet := Lib.hid hget; clear hget
  have Hby := Lib.hid hby; clear hby
  have Hn := Lib.hid hn; clear hn
  obtain ⟨N, hN⟩ : ∃ N, N = a.length := ⟨_, rfl⟩
  have HN := Lib.hid hN
  have t1 : ((N : Int) == 0) = false := by simp; omega
  have d2 : decide ((500 : Int) < (N : Int)) = false := by simp; omega
  have d3 : decide ((b : Int) < 1) = false := by simp; omega
  have d4 : decide ((500 : Int) < (b : Int)) = false := by simp; omega
  rw [← hN] at hs h0 h5 ⊢
  clear hN
  have HS := Lib.hid hs; clear hs
  go_enter Try.func4, Try.ntmps4
  go_wp2_with fail
  refine (build_any _ a b 1 w HS.out (by rw [← HN.out]; omega)).mono ?_
  rintro e w1 ⟨p, rfl, e1, l1⟩
  replace l1 := l1 w1.heap.size (Or.inr (Nat.le_refl _))
  obtain ⟨adp, capp, ep⟩ := l1.len
  subst ep
  rw [hL] at l1 ⊢
  have HL := Lib.hid hL; clear hL
  have L1 := Lib.hid l1; clear l1
  have i5 : ¬ ((b : Int) < 1) := by omega
  have i6 : ¬ ((500 : Int) < (b : Int)) := by omega
  go_wp2
  go_loopw [6] (fun i wr => InvO1 w1 n i wr) (fun i _ => n - (intOf i).toNat)
  case atStart => exact ⟨0, by omega, rfl, Ext.refl _⟩
  case round =>
    obtain ⟨k, hk, rfl, ex⟩ := hrel
    by_cases hlt : k < n
    · have i0 : (k : Int) < (n : Int) := by omega
      obtain ⟨x, hx⟩ : ∃ x, x = blockT a b k := ⟨_, rfl⟩
      have hxl := blockT_length a b k
      have hxb := blockT_byt a b k Hby.out
      have hz := zero_xorL_le b x (by rw [hx]; exact hxb) (by rw [hx]; simpa using hxl)
      rw [← hx, Int.toNat_natCast] at hxl
      have hsr : Src wr (.slice ad N cap) a wr.heap.size := HS.out.now (e1.trans ex)
      go_wp2_with fail
      refine (rblock_any _ a b k wr _ hsr (by rw [← HN.out]; omega)).mono ?_
      rintro e w2 ⟨rfl, vx, rfl, hv⟩
      have sx := hv wr.heap.size hsr
      rw [← hx] at sx
      have l2 := L1.out
      rw [← HL.out] at l2
      obtain ⟨capq, pb, po, ev1, _, hc⟩ := lr_at l2 (by rw [HL.out]; omega)
      injection ev1 with q1 _ q2
      subst q1 q2
      obtain ⟨y, c1, sy⟩ := hc k _ (HGet.out k hlt)
      rw [← hx] at sy
      have hpl : (xorL (List.replicate b 0) x).length = b := by rw [xorL_length, List.length_replicate]
      obtain ⟨ady, capy, yb, yo, ey, y2, y3, y4, y5, y6⟩ := sy
      subst ey
      obtain rfl := y3 (by rw [hpl]; omega)
      rw [hpl] at c1 y2 y5
      have sy2 : Src w1 (.slice (some ⟨yb, yo, none⟩) x.length capy) x w1.heap.size := by
        refine ⟨_, capy, yb, yo, rfl, by omega, fun _ => rfl, y4, fun j hj => ?_, fun h => by cases h⟩
        rw [y5 j (by omega), ← hz, List.getElem?_take_of_lt hj, hz]
      obtain ⟨adx, capx, evx⟩ := sx.len
      subst evx
      obtain ⟨X, hX⟩ : ∃ X, X = x.length := ⟨_, rfl⟩
      have xb0 : X ≤ b := by omega
      rw [← hX] at sx sy2 ⊢
      have c1' : wr.cell? ⟨pb, po + k, none⟩ = some (.slice (some ⟨yb, yo, none⟩) b capy) := by rw [Below.cell (p := ⟨pb, po + k, none⟩) ex (World.block_lt_of_cell? w1 _ c1)]; exact c1
      have v1 : ∀ n, (convert 25 9 (.slice (some ⟨yb, yo, none⟩) X capy)).run Try.prog (wr.drewN n) = .ok (.string (strOfNums x)) (wr.drewN n) := fun n => convB (sy2.ext (belowN ex n))
      have v2 : ∀ n, (convert 25 9 (.slice adx X capx)).run Try.prog (wr.drewN n) = .ok (.string (strOfNums x)) (wr.drewN n) := fun n => convB (sx.ext (belowN (Ext.refl wr) n))
      have t5 : ((b : Int) != (b : Int)) = false := by simp
      have xc : X ≤ capy := by omega
      clear hv hx hxl hxb hz hsr sx l2 hc hpl y3 y4 y5 y6 sy2 c1 hX
      generalize strOfNums x = str at *
      go_wp2
      go_quiet (fail)
      go_wp2
      exact ⟨⟨k + 1, by omega, by go_num, belowN ex _⟩, by simp [intOf]; omega⟩
    · obtain rfl : k = n := by omega
      replace e1 : Ext w wr := e1.trans ex
      have sa : Src wr (.slice ad N cap) a wr.heap.size := HS.out.now e1
      go_wp2_with fail
      refine (fit_any _ a b wr sa (by rw [← HN.out]; omega) (by rw [← HN.out]; omega) (by omega) (by omega)).mono ?_
      rintro e w2 ⟨vf, rfl, e2, of⟩
      obtain ⟨F, hF⟩ : ∃ F, F = fitZ a b := ⟨_, rfl⟩
      have hFl : F.length = b := by rw [hF]; exact fitZ_length a b
      have hFb : Byt F := by rw [hF]; exact fitZ_byt a b Hby.out
      rw [← hF] at of
      have htw := twice F b hFb hFl hb1 hb5
      clear hF hFb sa
      obtain ⟨adf, capf, ef⟩ := of.len
      subst ef
      rw [hFl] at of ⊢
      have sf := of.srcs w2.heap.size (Or.inr (Nat.le_refl _))
      have x1 : Ext w2 (w2.alloc (.cells #[] 5)) := Ext.alloc w2 _
      have hown := OwnB.made w2
      have hB0 : w2.heap.size ≤ (w2.alloc (.cells #[] 5)).heap.size := by simp
      have s1 := sf.now x1
      have HFl := Lib.hid hFl; clear hFl of
      go_wp2_with (first
        | (refine list_append_bytes rfl (.tmp 64) (.tmp 65) 25 rfl Try.underlying25 u8zero w2.heap.size (.slice (some ⟨w2.heap.size, 0, none⟩) 0 0) [] rfl hown _ F _ rfl s1 (by rw [List.length_nil, HFl.out]; omega) hB0 ?_; intro vg w4 ox gx; have b4 := hown.grown gx hB0; rw [List.nil_append] at ox; have x4 : Ext w2 w4 := Below.trans x1 b4; have s4 := sf.now x4; have z4 := x4.size)
        | (refine list_append_bytes rfl (.tmp 66) (.tmp 67) 25 rfl Try.underlying25 u8zero w2.heap.size vg F rfl ox _ F _ rfl s4 (by rw [HFl.out]; omega) z4 ?_; intro vh w5 oy gy; have b5 := ox.grown gy z4; have x5 : Ext w2 w5 := Below.trans x4 b5; have s5 := oy.srcs w5.heap.size (Or.inr (Nat.le_refl _)))
        | fail)
      refine (build_any _ (F ++ F) b 2 w5 s5 (by rw [List.length_append, HFl.out]; omega)).mono ?_
      rintro e w6 ⟨q, rfl, e6, l6⟩
      rw [htw] at l6
      replace l6 := l6 w6.heap.size (Or.inr (Nat.le_refl _))
      replace e1 := ((e1.trans e2).trans x5).trans e6
      clear e2 x5 e6 s5 oy gy b5 s4 z4 x4 ox gx b4 s1 hown hB0 x1 sf htw HFl ex
      obtain ⟨capq, qb, qo, rfl, _, hq⟩ := lr_at l6 (by simp)
      obtain ⟨x0, c0, sx0⟩ := hq 0 _ rfl
      obtain ⟨ady, capy, yb, yo, rfl, _, y3, _, y5, _⟩ := sx0
      rw [List.length_replicate] at y3 y5 c0
      obtain rfl := y3 (by omega)
      replace c0 : w6.cell? ⟨qb, qo, none⟩ = some (.slice (some ⟨yb, yo, none⟩) b capy) := c0
      have y7 : ∀ j, j < b → w6.cell? ⟨yb, yo + j, none⟩ = some (.int .u8 0) := fun j hj => by
        rw [y5 j hj, List.getElem?_replicate]; simp [hj]
      have Y7 := Lib.hid y7
      have t5 : ((b : Int) != (b : Int)) = false := by simp
      clear y3 y5 y7 hq l6
      go_wp2
      go_loopw [10] (fun i wr => InvO2 w6 b i wr) (fun i _ => b - (intOf i).toNat)
      case atStart => exact ⟨0, by omega, rfl, rfl⟩
      case round =>
        obtain ⟨i, hi, rfl, rfl⟩ := hrel
        by_cases hlt2 : i < b
        · have i0 : (i : Int) < (b : Int) := by omega
          have c7 := Y7.out i hlt2
          go_wp2
          exact ⟨⟨i + 1, by omega, by go_num, rfl⟩, by simp [intOf]; omega⟩
        · obtain rfl : i = b := by omega
          have t6 : ((k : Int) == (k : Int)) = true := by simp
          have C := Lib.hid (cntR N i w6)
          have hcn : cntL (N : Int) i = (k : Int) := by rw [HN.out]; exact Hn.out
          rw [hcn] at C
          clear hcn
          go_wp2_with fail
          refine C.out.mono ?_
          rintro e w7 ⟨rfl, rfl⟩
          go_wp2_with fail
          refine (awake_any w6).mono ?_
          rintro e w7 ⟨rfl, e7⟩
          go_wp2
          go_ret
          exact ⟨rfl, e1.trans e7⟩

theorem one_any (v : Value) (a : List Int) (B : Int) (w : World) (hs : Src w v a w.heap.size) (hby : Byt a) (_ : a.length ≤ 9223372036854775807) (_ : -9223372036854775808 ≤ B ∧ B ≤ 9223372036854775807) :
    Calls Try.prog 4 #[v, .int .i64 B] w (True' w) := by
  by_cases h : a.length = 0 ∨ 500 < a.length ∨ B < 1 ∨ 500 < B
  · exact one_small v a B w hs h
  · obtain ⟨b, rfl⟩ := Int.eq_ofNat_of_zero_le (show 0 ≤ B by omega)
    exact one_great v a b w hs hby (by omega) (by omega) (by omega) (by omega)
end Go.Proofs.Ythkdibppddamlaa
