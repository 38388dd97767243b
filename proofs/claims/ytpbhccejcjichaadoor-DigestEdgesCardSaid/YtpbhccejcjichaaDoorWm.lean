/- The walk of the law DigestEdges. -/
import Derived.Test.YtpbhccejcjichaaDoorWl
import Derived.Test.YtpbhccejcjichaaDoorWj
namespace Go.Proofs.YtpbhccejcjichaaDoor
open Go.RowKit Go.Sha

def RoundPost (n : Int) (w : World) (e : Ending) (w' : World) : Prop := ∃ r : Nat, (r : Int) < n ∧ e = .returned (.int .i64 r) ∧ w = w'
set_option maxHeartbeats 400000 in
theorem round_any (k n : Int) (w : World) (hn : 0 < n) (hn2 : n ≤ 1000) :
    Calls Tryd.prog 15 #[.int .i64 k, .int .i64 n] w (RoundPost n w) := by
  have h1 : k.tmod n < n := Int.tmod_lt_of_pos k hn
  have h2 : -n < k.tmod n := by
    have := Int.lt_tmod_of_pos k hn
    omega
  have hne : (n == 0) = false := beq_eq_false_iff_ne.2 (by omega)
  have hw : IntKind.i64.wrap (k.tmod n) = k.tmod n := IntWalk.i64_in _ (by omega)
  by_cases h0 : k.tmod n < 0
  · go_enter Tryd.func15, Tryd.ntmps15
    go_wp2
    go_ret
    exact ⟨(k.tmod n + n).toNat, by omega, by rw [Int.toNat_of_nonneg (by omega)]; rfl, rfl⟩
  · go_enter Tryd.func15, Tryd.ntmps15
    go_wp2
    go_ret
    exact ⟨(k.tmod n).toNat, by omega, by rw [Int.toNat_of_nonneg (by omega)]; rfl, rfl⟩

/-- string(b) of a row of the call's own. -/
theorem conv_own {w : World} {base : Nat} {v : Value} {m : List Int} (h : OwnB w base v m) (hm : 0 < m.length) : (convert 25 9 v).run Tryd.prog w = .ok (.string (strOfNums m)) w := by
  obtain ⟨g, cap, cur, rfl, _, ha, hc⟩ := h.block hm
  exact run_convert_bytes_arg w 25 5 Tryd.underlying25 Tryd.underlying5 g 0 m.length cap m rfl (fun i hi => by rw [Nat.zero_add, ha.cell, hc i hi]; rfl) 9 Tryd.underlying9

def InvE (w : World) (M N : Nat) (i : Value) (wr : World) : Prop := ∃ (j : Nat) (z : List Int), j ≤ N ∧ i = .int .i64 j ∧ z.length = N ∧ Below w.heap.size w wr ∧ At wr M (bs z) 5

set_option maxHeartbeats 2000000 in
set_option maxRecDepth 100000 in
theorem edges_in (N : Nat) (k x : Int) (w : World) (hK : KAt w) (hN : N ≤ 300) :
    Calls Tryd.prog 5 #[.int .i64 N, .int .i64 k, .int .u8 x] w fun e w' => e = .returned (.bool true) ∧ Below w.heap.size w w' := by
  have hz := z32
  have d1 : decide ((N : Int) < 0) = false := by simp
  have d2 : decide ((300 : Int) < (N : Int)) = false := by simp; omega
  have hmk := fun w => run_make_row' (P := Tryd.prog) 25 5 (.int .u8 0) 1 Tryd.underlying25 u8zero rfl .i64 .i64 N (by omega) (by omega) w
  go_enter Tryd.func5, Tryd.ntmps5
  go_wp2
  have a0 := At.new w (madeCells #[Value.int .u8 0] N) 5
  rw [made_bs] at a0 ⊢
  have e0 : Below w.heap.size w (w.alloc (.cells (bs (List.replicate N 0)) 5)) := Ext.alloc _ _
  obtain ⟨M, hM⟩ : ∃ M, M = w.heap.size := ⟨_, rfl⟩
  rw [← hM] at a0 ⊢
  have hM2 : w.heap.size ≤ M := by omega
  have hMe := Lib.hid hM; clear hM
  generalize w.alloc (.cells (bs (List.replicate N 0)) 5) = w1 at *
  go_loopw [8] (fun i wr => InvE w M N i wr) (fun i _ => N - (intOf i).toNat)
  case atStart => exact ⟨0, _, by omega, rfl, by simp, e0, a0⟩
  case round =>
    clear e0 a0
    obtain ⟨j, z, hj, rfl, hz1, e0, a0⟩ := hrel
    have Hz1 := Lib.hid hz1; clear hz1
    by_cases hlt : j < N
    · have i0 : (j : Int) < (N : Int) := by omega
      have i1 : (0 : Int) ≤ (j : Int) := by omega
      have c0 := a0.get_bs j (by rw [Hz1.out]; omega)
      have f0 := a0.frozen j
      go_wp2
      have a1 := a0.set j (.int .u8 ((x + (j : Int)) % 256))
      rw [bs_set] at a1
      exact ⟨⟨j + 1, z.set j ((x + (j : Int)) % 256), by omega, by go_num, by rw [List.length_set]; exact Hz1.out, e0.setCell (p := ⟨M, j, none⟩) hM2 _, a1⟩, by simp [intOf]; omega⟩
    · have dj : decide ((j : Int) < (N : Int)) = false := by simp; omega
      have tj : ¬ ((j : Int) < (N : Int)) := by omega
      clear hlt hj
      have hlz := Hz1.out
      have hlz0 := Hz1.out
      have sM : Src wr (.slice (some ⟨M, 0, none⟩) N N) z wr.heap.size := by
        have := Src.of_at (bh := wr.heap.size) a0 (by have := a0.lt; omega) N (by omega)
        rwa [hlz] at this
      go_wp2_with fail
      refine (ref_any _ z wr sM (by omega)).mono ?_
      rintro e w2 ⟨v2, rfl, b2, o2⟩
      have e2 : Below w.heap.size w w2 := e0.trans (b2.mono e0.size)
      have a2 := a0.below b2 a0.lt
      have hcv := conv_own o2 (by rw [shaL_length]; omega)
      clear e0 a0 sM hlz
      have r1 := (rep_zero w2).below (Ext.alloc (w2.alloc (.cells zeroH.toArray 32)) (.cells zeroH.toArray 32))
      have r2 := rep_zero (w2.alloc (.cells zeroH.toArray 32))
      rw [size_alloc] at r2
      have e3 : Below w.heap.size w ((w2.alloc (.cells zeroH.toArray 32)).alloc (.cells zeroH.toArray 32)) := (e2.alloc e2.size _).alloc (by rw [size_alloc]; have := e2.size; omega) _
      have a3 := (a2.alloc (.cells zeroH.toArray 32)).alloc (.cells zeroH.toArray 32)
      have hMH : M < w2.heap.size := a2.lt
      go_wp2_with fail
      clear hcv o2 b2 e2 a2
      obtain ⟨H1, hH1⟩ : ∃ H1, H1 = w2.heap.size := ⟨_, rfl⟩
      rw [← hH1] at r1 r2 hMH ⊢
      clear hH1
      generalize (w2.alloc (.cells zeroH.toArray 32)).alloc (.cells zeroH.toArray 32) = w3 at *
      have hH0 : H1 ≠ 0 := by omega
      have hHw : w.heap.size < H1 := by omega
      have z3 : H1 + 1 < w3.heap.size := r2.lt
      clear tj dj Hz1
      have Hz1 := Lib.hid hlz0; clear hlz0
      go_loopw [12] (fun i wr => ∃ q : Nat, q ≤ N ∧ i = .int .i64 q ∧ Below w.heap.size w wr ∧ At wr M (bs z) 5 ∧ Rep wr H1 (z.take q) ∧ Rep wr (H1 + 1) []) (fun i _ => N - (intOf i).toNat)
      case atStart => exact ⟨0, by omega, rfl, e3, a3, r1, r2⟩
      case round =>
        clear e3 a3 r1 r2
        obtain ⟨q, hq, rfl, e3, a3, r1, r2⟩ := hrel
        have k3 := hK.below e3 hK.lt
        by_cases hlt : q < N
        · have i0 : (q : Int) < (N : Int) := by omega
          have i1 : (0 : Int) ≤ (q : Int) := by omega
          have i2 : (q : Int) + 1 ≤ (N : Int) := by omega
          have hne : ¬ (N = q) := by omega
          have hs : Src wr (.slice (some ⟨M, q, none⟩) 1 (N - q)) [z[q]?.getD 0] H1 :=
            ⟨_, N - q, M, q, rfl, by show 1 ≤ N - q; omega, fun _ => rfl, by omega, fun i hi => by
              have : i = 0 := by simpa using hi
              subst this
              exact a3.get_bs q (by rw [Hz1.out]; omega), fun h => by cases h⟩
          have ht : z.take (q + 1) = z.take q ++ [z[q]?.getD 0] := by rw [List.take_succ_eq_append_getElem (by rw [Hz1.out]; omega), List.getElem?_eq_getElem (by rw [Hz1.out]; omega)]; rfl
          have Ht := Lib.hid ht; clear ht
          have hl1 : (z.take q).length ≤ 300 := by rw [List.length_take]; omega
          go_wp2_with fail
          refine (add_src H1 (z.take q) [z[q]?.getD 0] _ wr k3 hH0 r1 (by rw [List.length_singleton]; omega) hs).mono ?_
          rintro e w4 ⟨rfl, o4, r4⟩
          have a4 := o4.at a3 (by omega)
          have r5 := r2.only o4 (by omega)
          have e4 : Below w.heap.size w w4 := o4.below e3 (by omega) e3.size
          rw [← Ht.out] at r4
          clear hs
          go_wp2
          exact ⟨⟨q + 1, by omega, by go_num, e4, a4, r4, r5⟩, by simp [intOf]; omega⟩
        · have dq : decide ((q : Int) < (N : Int)) = false := by simp; omega
          have tq : ¬ ((q : Int) < (N : Int)) := by omega
          have r1' : Rep wr H1 z := by
            have e : z.take q = z := List.take_of_length_le (by rw [Hz1.out]; omega)
            rwa [e] at r1
          clear hlt hq r1
          go_wp2_with fail
          refine (round_any k ((N : Int) + 1) wr (by omega) (by omega)).mono ?_
          rintro e w5 ⟨kk, hkk, rfl, rfl⟩
          have j0 : (0 : Int) ≤ (kk : Int) := by omega
          have j1 : (kk : Int) ≤ (N : Int) := by omega
          have hkN : kk ≤ N := by omega
          clear hkk
          go_wp2_with fail
          by_cases hNk : N = kk
          · subst hNk
            have lt1 : (z.take N).length = N := by rw [List.length_take, Hz1.out]; omega
            have lt2 : (z.drop N).length = N - N := by rw [List.length_drop, Hz1.out]
            have srcB : ∀ w', At w' M (bs z) 5 → Src w' (Value.slice (some ⟨M, 0, none⟩) N N) z w'.heap.size := fun w' ha => by
              have := Src.of_at (bh := w'.heap.size) ha (by have := ha.lt; omega) N (by rw [Hz1.out]; omega)
              rwa [Hz1.out] at this
            have srcF' : ∀ w' bh, At w' M (bs z) 5 → M ≠ bh → Src w' (Value.slice (some ⟨M, 0, none⟩) N N) (z.take N) bh := fun w' bh ha hb =>
              ⟨_, N, M, 0, by rw [lt1], by omega, fun _ => rfl, hb, fun i hi => by rw [Nat.zero_add, ha.get_bs i (by rw [Hz1.out]; omega), List.getElem?_take_of_lt (by omega)], fun h => by cases h⟩
            have srcS' : ∀ w' bh, At w' M (bs z) 5 → M ≠ bh → Src w' (Value.slice (some ⟨M, 0, none⟩) 0 0) (z.drop N) bh := fun w' bh _ hb =>
              ⟨_, 0, M, 0, by rw [lt2, Nat.sub_self], by omega, fun h => by omega, hb, fun i hi => by omega, fun h => by cases h⟩
            have srcF : ∀ w', At w' M (bs z) 5 → Src w' (Value.slice (some ⟨M, 0, none⟩) N N) (z.take N) w'.heap.size := fun w' ha => srcF' w' _ ha (by have := ha.lt; omega)
            have srcS : ∀ w', At w' M (bs z) 5 → Src w' (Value.slice (some ⟨M, 0, none⟩) 0 0) (z.drop N) w'.heap.size := fun w' ha => srcS' w' _ ha (by have := ha.lt; omega)
            have HB := Lib.hid srcB; clear srcB
            have HF := Lib.hid srcF; clear srcF
            have HS := Lib.hid srcS; clear srcS
            have HF' := Lib.hid srcF'; clear srcF'
            have HS' := Lib.hid srcS'; clear srcS'
            have L1 := Lib.hid lt1; clear lt1
            have L2 := Lib.hid lt2; clear lt2
            refine (add_src (H1 + 1) [] (z.take N) _ wr k3 (by omega) r2 (by rw [L1.out, List.length_nil]; omega) (HF'.out wr _ a3 (by omega))).mono ?_
            rintro e w6 ⟨rfl, o6, t6⟩
            rw [List.nil_append] at t6
            have a6 := o6.at a3 (by omega)
            have r6 := r1'.only o6 (by omega)
            have e6 : Below w.heap.size w w6 := o6.below e3 (by omega) e3.size
            have k6 := hK.below e6 hK.lt
            clear o6 e3 a3 r1' r2 k3
            go_wp2_with fail
            refine (add_src (H1 + 1) (z.take N) (z.drop N) _ w6 k6 (by omega) t6 (by rw [L1.out, L2.out]; omega) (HS'.out w6 _ a6 (by omega))).mono ?_
            rintro e w7 ⟨rfl, o7, t7⟩
            rw [List.take_append_drop] at t7
            have a7 := o7.at a6 (by omega)
            have r7 := r6.only o7 (by omega)
            have e7 : Below w.heap.size w w7 := o7.below e6 (by omega) e6.size
            have k7 := hK.below e7 hK.lt
            clear o7 e6 a6 r6 t6 k6
            go_wp2_with fail
            refine wp_region_held (S := Ext w7.drew) (by kernel_rfl) ?_
            change wpAnyH _ _ _ _ _ _ _ _ w7.drew
            have x0 : Ext w w7.drew := Below.drew e7
            have xd : Below w7.heap.size w7 w7.drew := (Below.refl _ _).drew
            have r0 := r7.below xd
            have t0 := t7.below xd
            have m0 := a7.below xd a7.lt
            have k0 := hK.below x0 hK.lt
            clear xd e7 r7 t7 a7 k7
            generalize w7.drew = W at *
            refine takeH 0 (some 60) (Value.slice (some ⟨M, 0, none⟩) N N) rfl rfl (by kernel_rfl) (by kernel_rfl) (by kernel_rfl) (fun _ _ _ h => h) rfl (fun w' hw' => by go_simp) ?_
            simp only [Act.put, List.setIfInBounds_toArray, List.set_cons_zero, List.set_cons_succ]
            refine takeH 4 (some 64) (Value.string (strOfNums (shaL z))) rfl rfl (by kernel_rfl) (by kernel_rfl) (by kernel_rfl) (fun _ _ _ h => h) rfl (fun w' hw' => by go_simp) ?_
            simp only [Act.put, List.setIfInBounds_toArray, List.set_cons_zero, List.set_cons_succ]
            refine nextH 1 rfl (by kernel_rfl) rfl (makeH (some 61) rfl (.slice (some ⟨W.heap.size, 0, none⟩) 1 1) (w1 := W.alloc (.cells #[Value.slice (some ⟨M, 0, none⟩) N N] 25)) (by go_simp) (Ext.alloc _ _) ?_)
            simp only [Act.put, List.setIfInBounds_toArray, List.set_cons_zero, List.set_cons_succ]
            have xb : Ext W (W.alloc (.cells #[Value.slice (some ⟨M, 0, none⟩) N N] 25)) := Ext.alloc _ _
            have bk := At.new W #[Value.slice (some ⟨M, 0, none⟩) N N] 25
            replace r0 := r0.below xb
            replace t0 := t0.below xb
            replace k0 := k0.below xb k0.lt
            replace m0 := m0.below xb m0.lt
            replace x0 := x0.trans xb
            clear xb
            generalize hBk : W.heap.size = Bk61 at *
            generalize W.alloc (.cells #[Value.slice (some ⟨M, 0, none⟩) N N] 25) = Wa at *
            clear hBk
            refine nextH 2 rfl (by kernel_rfl) rfl (callH (some 62) rfl 10 #[.slice (some ⟨Bk61, 0, none⟩) 1 1] (by go_simp) (fun v w' => ∃ g, v = .slice (some ⟨g, 0, none⟩) 32 32 ∧ At w' g (bs (shaL z)) 5) (dsumH _ [((Value.slice (some ⟨M, 0, none⟩) N N), z)] z Wa k0 (srcs1 _ Bk61 _ z bk (HB.out Wa m0)) (flat_one _ _) (by have := Hz1.out; omega) (by simp)) ?_)
            rintro v W1 x2 ⟨g1, rfl, h1⟩
            simp only [Act.put, List.setIfInBounds_toArray, List.set_cons_zero, List.set_cons_succ]
            replace r0 := r0.below x2
            replace t0 := t0.below x2
            replace k0 := k0.below x2 k0.lt
            replace m0 := m0.below x2 m0.lt
            replace x0 := x0.trans x2
            clear bk x2
            refine takeH 3 (some 63) (Value.string (strOfNums (shaL z))) rfl rfl (by kernel_rfl) (by kernel_rfl) (by kernel_rfl) (fun _ _ _ h => h) rfl (fun w' hw' => by have := conv_at 25 9 5 Tryd.underlying25 Tryd.underlying5 Tryd.underlying9 w' g1 (shaL z) 5 32 32 (shaL_length _) (h1.below hw' h1.lt); go_simp) ?_
            simp only [Act.put, List.setIfInBounds_toArray, List.set_cons_zero, List.set_cons_succ]
            refine takeH 5 (some 65) (.bool true) rfl rfl (by kernel_rfl) (by kernel_rfl) (by kernel_rfl) (fun _ _ _ h => h) rfl (fun w' hw' => by go_simp) ?_
            simp only [Act.put, List.setIfInBounds_toArray, List.set_cons_zero, List.set_cons_succ]
            refine takeH 6 (some 66) (.bool true) rfl rfl (by kernel_rfl) (by kernel_rfl) (by kernel_rfl) (fun _ _ _ h => h) rfl (fun w' hw' => by go_simp) ?_
            simp only [Act.put, List.setIfInBounds_toArray, List.set_cons_zero, List.set_cons_succ]
            clear h1
            refine takeH 7 (some 67) (Value.slice (some ⟨M, 0, none⟩) N N) rfl rfl (by kernel_rfl) (by kernel_rfl) (by kernel_rfl) (fun _ _ _ h => h) rfl (fun w' hw' => by go_simp) ?_
            simp only [Act.put, List.setIfInBounds_toArray, List.set_cons_zero, List.set_cons_succ]
            refine takeH 8 (some 68) (.int .i64 N) rfl rfl (by kernel_rfl) (by kernel_rfl) (by kernel_rfl) (fun _ _ _ h => h) rfl (fun w' hw' => by go_simp) ?_
            simp only [Act.put, List.setIfInBounds_toArray, List.set_cons_zero, List.set_cons_succ]
            refine takeH 9 (some 69) (Value.slice (some ⟨M, 0, none⟩) N N) rfl rfl (by kernel_rfl) (by kernel_rfl) (by kernel_rfl) (fun _ _ _ h => h) rfl (fun w' hw' => by go_simp) ?_
            simp only [Act.put, List.setIfInBounds_toArray, List.set_cons_zero, List.set_cons_succ]
            refine takeH 10 (some 70) (Value.slice (some ⟨M, 0, none⟩) N N) rfl rfl (by kernel_rfl) (by kernel_rfl) (by kernel_rfl) (fun _ _ _ h => h) rfl (fun w' hw' => by go_simp) ?_
            simp only [Act.put, List.setIfInBounds_toArray, List.set_cons_zero, List.set_cons_succ]
            refine takeH 11 (some 71) (.int .i64 N) rfl rfl (by kernel_rfl) (by kernel_rfl) (by kernel_rfl) (fun _ _ _ h => h) rfl (fun w' hw' => by go_simp) ?_
            simp only [Act.put, List.setIfInBounds_toArray, List.set_cons_zero, List.set_cons_succ]
            refine takeH 12 (some 72) (Value.slice (some ⟨M, 0, none⟩) 0 0) rfl rfl (by kernel_rfl) (by kernel_rfl) (by kernel_rfl) (fun _ _ _ h => h) rfl (fun w' hw' => by go_simp) ?_
            simp only [Act.put, List.setIfInBounds_toArray, List.set_cons_zero, List.set_cons_succ]
            refine takeH 16 (some 76) (Value.string (strOfNums (shaL z))) rfl rfl (by kernel_rfl) (by kernel_rfl) (by kernel_rfl) (fun _ _ _ h => h) rfl (fun w' hw' => by go_simp) ?_
            simp only [Act.put, List.setIfInBounds_toArray, List.set_cons_zero, List.set_cons_succ]
            refine nextH 13 rfl (by kernel_rfl) rfl (makeH (some 73) rfl (.slice (some ⟨W1.heap.size, 0, none⟩) 2 2) (w1 := W1.alloc (.cells #[Value.slice (some ⟨M, 0, none⟩) N N, Value.slice (some ⟨M, 0, none⟩) 0 0] 25)) (by go_simp) (Ext.alloc _ _) ?_)
            simp only [Act.put, List.setIfInBounds_toArray, List.set_cons_zero, List.set_cons_succ]
            have xb : Ext W1 (W1.alloc (.cells #[Value.slice (some ⟨M, 0, none⟩) N N, Value.slice (some ⟨M, 0, none⟩) 0 0] 25)) := Ext.alloc _ _
            have bk := At.new W1 #[Value.slice (some ⟨M, 0, none⟩) N N, Value.slice (some ⟨M, 0, none⟩) 0 0] 25
            replace r0 := r0.below xb
            replace t0 := t0.below xb
            replace k0 := k0.below xb k0.lt
            replace m0 := m0.below xb m0.lt
            replace x0 := x0.trans xb
            clear xb
            generalize hBk : W1.heap.size = Bk73 at *
            generalize W1.alloc (.cells #[Value.slice (some ⟨M, 0, none⟩) N N, Value.slice (some ⟨M, 0, none⟩) 0 0] 25) = W1a at *
            clear hBk
            refine nextH 14 rfl (by kernel_rfl) rfl (callH (some 74) rfl 10 #[.slice (some ⟨Bk73, 0, none⟩) 2 2] (by go_simp) (fun v w' => ∃ g, v = .slice (some ⟨g, 0, none⟩) 32 32 ∧ At w' g (bs (shaL z)) 5) (dsumH _ [((Value.slice (some ⟨M, 0, none⟩) N N), z.take N), ((Value.slice (some ⟨M, 0, none⟩) 0 0), z.drop N)] z W1a k0 (srcs2 _ Bk73 _ _ _ _ bk (HF.out W1a m0) (HS.out W1a m0)) (by rw [flat_two, List.take_append_drop]) (by have := Hz1.out; omega) (by simp)) ?_)
            rintro v W2 x2 ⟨g2, rfl, h2⟩
            simp only [Act.put, List.setIfInBounds_toArray, List.set_cons_zero, List.set_cons_succ]
            replace r0 := r0.below x2
            replace t0 := t0.below x2
            replace k0 := k0.below x2 k0.lt
            replace m0 := m0.below x2 m0.lt
            replace x0 := x0.trans x2
            clear bk x2
            refine takeH 15 (some 75) (Value.string (strOfNums (shaL z))) rfl rfl (by kernel_rfl) (by kernel_rfl) (by kernel_rfl) (fun _ _ _ h => h) rfl (fun w' hw' => by have := conv_at 25 9 5 Tryd.underlying25 Tryd.underlying5 Tryd.underlying9 w' g2 (shaL z) 5 32 32 (shaL_length _) (h2.below hw' h2.lt); go_simp) ?_
            simp only [Act.put, List.setIfInBounds_toArray, List.set_cons_zero, List.set_cons_succ]
            refine takeH 17 (some 77) (.bool true) rfl rfl (by kernel_rfl) (by kernel_rfl) (by kernel_rfl) (fun _ _ _ h => h) rfl (fun w' hw' => by go_simp) ?_
            simp only [Act.put, List.setIfInBounds_toArray, List.set_cons_zero, List.set_cons_succ]
            refine takeH 18 (some 78) (.bool true) rfl rfl (by kernel_rfl) (by kernel_rfl) (by kernel_rfl) (fun _ _ _ h => h) rfl (fun w' hw' => by go_simp) ?_
            simp only [Act.put, List.setIfInBounds_toArray, List.set_cons_zero, List.set_cons_succ]
            refine takeH 19 (some 79) (.bool true) rfl rfl (by kernel_rfl) (by kernel_rfl) (by kernel_rfl) (fun _ _ _ h => h) rfl (fun w' hw' => by go_simp) ?_
            simp only [Act.put, List.setIfInBounds_toArray, List.set_cons_zero, List.set_cons_succ]
            clear h2
            refine takeH 22 (some 82) (Value.string (strOfNums (shaL z))) rfl rfl (by kernel_rfl) (by kernel_rfl) (by kernel_rfl) (fun _ _ _ h => h) rfl (fun w' hw' => by go_simp) ?_
            simp only [Act.put, List.setIfInBounds_toArray, List.set_cons_zero, List.set_cons_succ]
            refine nextH 20 rfl (by kernel_rfl) rfl (callH (some 80) rfl 11 #[.pointer (some ⟨H1, 0, none⟩)] (by go_simp) (fun v w' => ∃ g, v = .slice (some ⟨g, 0, none⟩) 32 32 ∧ At w' g (bs (shaL z)) 5) (hsumH (H1) z W2 k0 r0 (by have := Hz1.out; omega)) ?_)
            rintro v W3 x2 ⟨g3, rfl, h3⟩
            simp only [Act.put, List.setIfInBounds_toArray, List.set_cons_zero, List.set_cons_succ]
            replace r0 := r0.below x2
            replace t0 := t0.below x2
            replace k0 := k0.below x2 k0.lt
            replace m0 := m0.below x2 m0.lt
            replace x0 := x0.trans x2
            clear x2
            refine takeH 21 (some 81) (Value.string (strOfNums (shaL z))) rfl rfl (by kernel_rfl) (by kernel_rfl) (by kernel_rfl) (fun _ _ _ h => h) rfl (fun w' hw' => by have := conv_at 25 9 5 Tryd.underlying25 Tryd.underlying5 Tryd.underlying9 w' g3 (shaL z) 5 32 32 (shaL_length _) (h3.below hw' h3.lt); go_simp) ?_
            simp only [Act.put, List.setIfInBounds_toArray, List.set_cons_zero, List.set_cons_succ]
            refine takeH 23 (some 83) (.bool true) rfl rfl (by kernel_rfl) (by kernel_rfl) (by kernel_rfl) (fun _ _ _ h => h) rfl (fun w' hw' => by go_simp) ?_
            simp only [Act.put, List.setIfInBounds_toArray, List.set_cons_zero, List.set_cons_succ]
            refine takeH 24 (some 84) (.bool true) rfl rfl (by kernel_rfl) (by kernel_rfl) (by kernel_rfl) (fun _ _ _ h => h) rfl (fun w' hw' => by go_simp) ?_
            simp only [Act.put, List.setIfInBounds_toArray, List.set_cons_zero, List.set_cons_succ]
            refine takeH 25 (some 85) (.bool true) rfl rfl (by kernel_rfl) (by kernel_rfl) (by kernel_rfl) (fun _ _ _ h => h) rfl (fun w' hw' => by go_simp) ?_
            simp only [Act.put, List.setIfInBounds_toArray, List.set_cons_zero, List.set_cons_succ]
            clear h3
            refine takeH 28 (some 88) (Value.string (strOfNums (shaL z))) rfl rfl (by kernel_rfl) (by kernel_rfl) (by kernel_rfl) (fun _ _ _ h => h) rfl (fun w' hw' => by go_simp) ?_
            simp only [Act.put, List.setIfInBounds_toArray, List.set_cons_zero, List.set_cons_succ]
            refine nextH 26 rfl (by kernel_rfl) rfl (callH (some 86) rfl 11 #[.pointer (some ⟨H1 + 1, 0, none⟩)] (by go_simp) (fun v w' => ∃ g, v = .slice (some ⟨g, 0, none⟩) 32 32 ∧ At w' g (bs (shaL z)) 5) (hsumH (H1 + 1) z W3 k0 t0 (by have := Hz1.out; omega)) ?_)
            rintro v W4 x2 ⟨g4, rfl, h4⟩
            simp only [Act.put, List.setIfInBounds_toArray, List.set_cons_zero, List.set_cons_succ]
            replace r0 := r0.below x2
            replace t0 := t0.below x2
            replace k0 := k0.below x2 k0.lt
            replace m0 := m0.below x2 m0.lt
            replace x0 := x0.trans x2
            clear x2
            refine takeH 27 (some 87) (Value.string (strOfNums (shaL z))) rfl rfl (by kernel_rfl) (by kernel_rfl) (by kernel_rfl) (fun _ _ _ h => h) rfl (fun w' hw' => by have := conv_at 25 9 5 Tryd.underlying25 Tryd.underlying5 Tryd.underlying9 w' g4 (shaL z) 5 32 32 (shaL_length _) (h4.below hw' h4.lt); go_simp) ?_
            simp only [Act.put, List.setIfInBounds_toArray, List.set_cons_zero, List.set_cons_succ]
            refine takeH 29 (some 89) (.bool true) rfl rfl (by kernel_rfl) (by kernel_rfl) (by kernel_rfl) (fun _ _ _ h => h) rfl (fun w' hw' => by go_simp) ?_
            simp only [Act.put, List.setIfInBounds_toArray, List.set_cons_zero, List.set_cons_succ]
            refine takeH 30 (some 90) (.bool true) rfl rfl (by kernel_rfl) (by kernel_rfl) (by kernel_rfl) (fun _ _ _ h => h) rfl (fun w' hw' => by go_simp) ?_
            simp only [Act.put, List.setIfInBounds_toArray, List.set_cons_zero, List.set_cons_succ]
            refine takeH 31 (some 91) (.bool true) rfl rfl (by kernel_rfl) (by kernel_rfl) (by kernel_rfl) (fun _ _ _ h => h) rfl (fun w' hw' => by go_simp) ?_
            simp only [Act.put, List.setIfInBounds_toArray, List.set_cons_zero, List.set_cons_succ]
            clear h4
            refine takeH 33 (some 93) (.int .i64 N) rfl rfl (by kernel_rfl) (by kernel_rfl) (by kernel_rfl) (fun _ _ _ h => h) rfl (fun w' hw' => by go_simp) ?_
            simp only [Act.put, List.setIfInBounds_toArray, List.set_cons_zero, List.set_cons_succ]
            refine nextH 32 rfl (by kernel_rfl) rfl (callH (some 92) rfl 12 #[.pointer (some ⟨H1, 0, none⟩)] (by go_simp) (fun v w' => v = .int .i64 (N : Int)) ((len_any H1 z W4 r0 (by have := Hz1.out; omega)).mono fun _ _ he => by obtain ⟨rfl, n, rfl⟩ := he; exact ⟨_, rfl, below_drewN (Below.refl _ _) n, by rw [Hz1.out]⟩) ?_)
            rintro v W5 x2 rfl
            simp only [Act.put, List.setIfInBounds_toArray, List.set_cons_zero, List.set_cons_succ]
            replace r0 := r0.below x2
            replace t0 := t0.below x2
            replace k0 := k0.below x2 k0.lt
            replace m0 := m0.below x2 m0.lt
            replace x0 := x0.trans x2
            clear x2
            refine takeH 34 (some 94) (.bool true) rfl rfl (by kernel_rfl) (by kernel_rfl) (by kernel_rfl) (fun _ _ _ h => h) rfl (fun w' hw' => by go_simp) ?_
            simp only [Act.put, List.setIfInBounds_toArray, List.set_cons_zero, List.set_cons_succ]
            refine takeH 35 (some 95) (.bool true) rfl rfl (by kernel_rfl) (by kernel_rfl) (by kernel_rfl) (fun _ _ _ h => h) rfl (fun w' hw' => by go_simp) ?_
            simp only [Act.put, List.setIfInBounds_toArray, List.set_cons_zero, List.set_cons_succ]
            refine takeH 36 (some 96) (.bool true) rfl rfl (by kernel_rfl) (by kernel_rfl) (by kernel_rfl) (fun _ _ _ h => h) rfl (fun w' hw' => by go_simp) ?_
            simp only [Act.put, List.setIfInBounds_toArray, List.set_cons_zero, List.set_cons_succ]
            refine nextH 37 rfl (by kernel_rfl) rfl (callH (some 97) rfl 7 #[] (by go_simp) (fun v w' => v = .bool true) ((awake_any W5 k0).mono fun _ _ he => ⟨_, he.1, he.2, rfl⟩) ?_)
            rintro v W6 x2 rfl
            simp only [Act.put, List.setIfInBounds_toArray, List.set_cons_zero, List.set_cons_succ]
            replace x0 := x0.trans x2
            refine takeH 38 (some 98) (.bool true) rfl rfl (by kernel_rfl) (by kernel_rfl) (by kernel_rfl) (fun _ _ _ h => h) rfl (fun w' hw' => by go_simp) ?_
            simp only [Act.put, List.setIfInBounds_toArray, List.set_cons_zero, List.set_cons_succ]
            refine takeH 39 (some 6) (.bool true) rfl rfl (by kernel_rfl) (by kernel_rfl) (by kernel_rfl) (fun _ _ _ h => h) rfl (fun w' hw' => by go_simp) ?_
            simp only [Act.put, List.setIfInBounds_toArray, List.set_cons_zero, List.set_cons_succ]
            refine wpAnyH_done (by kernel_rfl) ?_ _
            go_wp2
            go_ret
            exact ⟨rfl, x0⟩
          · have hne2 : ¬ (kk = N) := fun e => hNk e.symm
            have lt1 : (z.take kk).length = kk := by rw [List.length_take, Hz1.out]; omega
            have lt2 : (z.drop kk).length = N - kk := by rw [List.length_drop, Hz1.out]
            have srcB : ∀ w', At w' M (bs z) 5 → Src w' (Value.slice (some ⟨M, 0, none⟩) N N) z w'.heap.size := fun w' ha => by
              have := Src.of_at (bh := w'.heap.size) ha (by have := ha.lt; omega) N (by rw [Hz1.out]; omega)
              rwa [Hz1.out] at this
            have srcF' : ∀ w' bh, At w' M (bs z) 5 → M ≠ bh → Src w' (Value.slice (some ⟨M, 0, none⟩) kk N) (z.take kk) bh := fun w' bh ha hb =>
              ⟨_, N, M, 0, by rw [lt1], by omega, fun _ => rfl, hb, fun i hi => by rw [Nat.zero_add, ha.get_bs i (by rw [Hz1.out]; omega), List.getElem?_take_of_lt (by omega)], fun h => by cases h⟩
            have srcS' : ∀ w' bh, At w' M (bs z) 5 → M ≠ bh → Src w' (Value.slice (some ⟨M, kk, none⟩) (N - kk) (N - kk)) (z.drop kk) bh := fun w' bh ha hb =>
              ⟨_, N - kk, M, kk, by rw [lt2], by omega, fun h => rfl, hb, fun i hi => by rw [ha.get_bs (kk + i) (by rw [Hz1.out]; omega), List.getElem?_drop], fun h => by cases h⟩
            have srcF : ∀ w', At w' M (bs z) 5 → Src w' (Value.slice (some ⟨M, 0, none⟩) kk N) (z.take kk) w'.heap.size := fun w' ha => srcF' w' _ ha (by have := ha.lt; omega)
            have srcS : ∀ w', At w' M (bs z) 5 → Src w' (Value.slice (some ⟨M, kk, none⟩) (N - kk) (N - kk)) (z.drop kk) w'.heap.size := fun w' ha => srcS' w' _ ha (by have := ha.lt; omega)
            have HB := Lib.hid srcB; clear srcB
            have HF := Lib.hid srcF; clear srcF
            have HS := Lib.hid srcS; clear srcS
            have HF' := Lib.hid srcF'; clear srcF'
            have HS' := Lib.hid srcS'; clear srcS'
            have L1 := Lib.hid lt1; clear lt1
            have L2 := Lib.hid lt2; clear lt2
            refine (add_src (H1 + 1) [] (z.take kk) _ wr k3 (by omega) r2 (by rw [L1.out, List.length_nil]; omega) (HF'.out wr _ a3 (by omega))).mono ?_
            rintro e w6 ⟨rfl, o6, t6⟩
            rw [List.nil_append] at t6
            have a6 := o6.at a3 (by omega)
            have r6 := r1'.only o6 (by omega)
            have e6 : Below w.heap.size w w6 := o6.below e3 (by omega) e3.size
            have k6 := hK.below e6 hK.lt
            clear o6 e3 a3 r1' r2 k3
            go_wp2_with fail
            refine (add_src (H1 + 1) (z.take kk) (z.drop kk) _ w6 k6 (by omega) t6 (by rw [L1.out, L2.out]; omega) (HS'.out w6 _ a6 (by omega))).mono ?_
            rintro e w7 ⟨rfl, o7, t7⟩
            rw [List.take_append_drop] at t7
            have a7 := o7.at a6 (by omega)
            have r7 := r6.only o7 (by omega)
            have e7 : Below w.heap.size w w7 := o7.below e6 (by omega) e6.size
            have k7 := hK.below e7 hK.lt
            clear o7 e6 a6 r6 t6 k6
            go_wp2_with fail
            refine wp_region_held (S := Ext w7.drew) (by kernel_rfl) ?_
            change wpAnyH _ _ _ _ _ _ _ _ w7.drew
            have x0 : Ext w w7.drew := Below.drew e7
            have xd : Below w7.heap.size w7 w7.drew := (Below.refl _ _).drew
            have r0 := r7.below xd
            have t0 := t7.below xd
            have m0 := a7.below xd a7.lt
            have k0 := hK.below x0 hK.lt
            clear xd e7 r7 t7 a7 k7
            generalize w7.drew = W at *
            refine takeH 0 (some 60) (Value.slice (some ⟨M, 0, none⟩) N N) rfl rfl (by kernel_rfl) (by kernel_rfl) (by kernel_rfl) (fun _ _ _ h => h) rfl (fun w' hw' => by go_simp) ?_
            simp only [Act.put, List.setIfInBounds_toArray, List.set_cons_zero, List.set_cons_succ]
            refine takeH 4 (some 64) (Value.string (strOfNums (shaL z))) rfl rfl (by kernel_rfl) (by kernel_rfl) (by kernel_rfl) (fun _ _ _ h => h) rfl (fun w' hw' => by go_simp) ?_
            simp only [Act.put, List.setIfInBounds_toArray, List.set_cons_zero, List.set_cons_succ]
            refine nextH 1 rfl (by kernel_rfl) rfl (makeH (some 61) rfl (.slice (some ⟨W.heap.size, 0, none⟩) 1 1) (w1 := W.alloc (.cells #[Value.slice (some ⟨M, 0, none⟩) N N] 25)) (by go_simp) (Ext.alloc _ _) ?_)
            simp only [Act.put, List.setIfInBounds_toArray, List.set_cons_zero, List.set_cons_succ]
            have xb : Ext W (W.alloc (.cells #[Value.slice (some ⟨M, 0, none⟩) N N] 25)) := Ext.alloc _ _
            have bk := At.new W #[Value.slice (some ⟨M, 0, none⟩) N N] 25
            replace r0 := r0.below xb
            replace t0 := t0.below xb
            replace k0 := k0.below xb k0.lt
            replace m0 := m0.below xb m0.lt
            replace x0 := x0.trans xb
            clear xb
            generalize hBk : W.heap.size = Bk61 at *
            generalize W.alloc (.cells #[Value.slice (some ⟨M, 0, none⟩) N N] 25) = Wa at *
            clear hBk
            refine nextH 2 rfl (by kernel_rfl) rfl (callH (some 62) rfl 10 #[.slice (some ⟨Bk61, 0, none⟩) 1 1] (by go_simp) (fun v w' => ∃ g, v = .slice (some ⟨g, 0, none⟩) 32 32 ∧ At w' g (bs (shaL z)) 5) (dsumH _ [((Value.slice (some ⟨M, 0, none⟩) N N), z)] z Wa k0 (srcs1 _ Bk61 _ z bk (HB.out Wa m0)) (flat_one _ _) (by have := Hz1.out; omega) (by simp)) ?_)
            rintro v W1 x2 ⟨g1, rfl, h1⟩
            simp only [Act.put, List.setIfInBounds_toArray, List.set_cons_zero, List.set_cons_succ]
            replace r0 := r0.below x2
            replace t0 := t0.below x2
            replace k0 := k0.below x2 k0.lt
            replace m0 := m0.below x2 m0.lt
            replace x0 := x0.trans x2
            clear bk x2
            refine takeH 3 (some 63) (Value.string (strOfNums (shaL z))) rfl rfl (by kernel_rfl) (by kernel_rfl) (by kernel_rfl) (fun _ _ _ h => h) rfl (fun w' hw' => by have := conv_at 25 9 5 Tryd.underlying25 Tryd.underlying5 Tryd.underlying9 w' g1 (shaL z) 5 32 32 (shaL_length _) (h1.below hw' h1.lt); go_simp) ?_
            simp only [Act.put, List.setIfInBounds_toArray, List.set_cons_zero, List.set_cons_succ]
            refine takeH 5 (some 65) (.bool true) rfl rfl (by kernel_rfl) (by kernel_rfl) (by kernel_rfl) (fun _ _ _ h => h) rfl (fun w' hw' => by go_simp) ?_
            simp only [Act.put, List.setIfInBounds_toArray, List.set_cons_zero, List.set_cons_succ]
            refine takeH 6 (some 66) (.bool true) rfl rfl (by kernel_rfl) (by kernel_rfl) (by kernel_rfl) (fun _ _ _ h => h) rfl (fun w' hw' => by go_simp) ?_
            simp only [Act.put, List.setIfInBounds_toArray, List.set_cons_zero, List.set_cons_succ]
            clear h1
            refine takeH 7 (some 67) (Value.slice (some ⟨M, 0, none⟩) N N) rfl rfl (by kernel_rfl) (by kernel_rfl) (by kernel_rfl) (fun _ _ _ h => h) rfl (fun w' hw' => by go_simp) ?_
            simp only [Act.put, List.setIfInBounds_toArray, List.set_cons_zero, List.set_cons_succ]
            refine takeH 8 (some 68) (.int .i64 kk) rfl rfl (by kernel_rfl) (by kernel_rfl) (by kernel_rfl) (fun _ _ _ h => h) rfl (fun w' hw' => by go_simp) ?_
            simp only [Act.put, List.setIfInBounds_toArray, List.set_cons_zero, List.set_cons_succ]
            refine takeH 9 (some 69) (Value.slice (some ⟨M, 0, none⟩) kk N) rfl rfl (by kernel_rfl) (by kernel_rfl) (by kernel_rfl) (fun _ _ _ h => h) rfl (fun w' hw' => by go_simp) ?_
            simp only [Act.put, List.setIfInBounds_toArray, List.set_cons_zero, List.set_cons_succ]
            refine takeH 10 (some 70) (Value.slice (some ⟨M, 0, none⟩) N N) rfl rfl (by kernel_rfl) (by kernel_rfl) (by kernel_rfl) (fun _ _ _ h => h) rfl (fun w' hw' => by go_simp) ?_
            simp only [Act.put, List.setIfInBounds_toArray, List.set_cons_zero, List.set_cons_succ]
            refine takeH 11 (some 71) (.int .i64 kk) rfl rfl (by kernel_rfl) (by kernel_rfl) (by kernel_rfl) (fun _ _ _ h => h) rfl (fun w' hw' => by go_simp) ?_
            simp only [Act.put, List.setIfInBounds_toArray, List.set_cons_zero, List.set_cons_succ]
            refine takeH 12 (some 72) (Value.slice (some ⟨M, kk, none⟩) (N - kk) (N - kk)) rfl rfl (by kernel_rfl) (by kernel_rfl) (by kernel_rfl) (fun _ _ _ h => h) rfl (fun w' hw' => by go_simp) ?_
            simp only [Act.put, List.setIfInBounds_toArray, List.set_cons_zero, List.set_cons_succ]
            refine takeH 16 (some 76) (Value.string (strOfNums (shaL z))) rfl rfl (by kernel_rfl) (by kernel_rfl) (by kernel_rfl) (fun _ _ _ h => h) rfl (fun w' hw' => by go_simp) ?_
            simp only [Act.put, List.setIfInBounds_toArray, List.set_cons_zero, List.set_cons_succ]
            refine nextH 13 rfl (by kernel_rfl) rfl (makeH (some 73) rfl (.slice (some ⟨W1.heap.size, 0, none⟩) 2 2) (w1 := W1.alloc (.cells #[Value.slice (some ⟨M, 0, none⟩) kk N, Value.slice (some ⟨M, kk, none⟩) (N - kk) (N - kk)] 25)) (by go_simp) (Ext.alloc _ _) ?_)
            simp only [Act.put, List.setIfInBounds_toArray, List.set_cons_zero, List.set_cons_succ]
            have xb : Ext W1 (W1.alloc (.cells #[Value.slice (some ⟨M, 0, none⟩) kk N, Value.slice (some ⟨M, kk, none⟩) (N - kk) (N - kk)] 25)) := Ext.alloc _ _
            have bk := At.new W1 #[Value.slice (some ⟨M, 0, none⟩) kk N, Value.slice (some ⟨M, kk, none⟩) (N - kk) (N - kk)] 25
            replace r0 := r0.below xb
            replace t0 := t0.below xb
            replace k0 := k0.below xb k0.lt
            replace m0 := m0.below xb m0.lt
            replace x0 := x0.trans xb
            clear xb
            generalize hBk : W1.heap.size = Bk73 at *
            generalize W1.alloc (.cells #[Value.slice (some ⟨M, 0, none⟩) kk N, Value.slice (some ⟨M, kk, none⟩) (N - kk) (N - kk)] 25) = W1a at *
            clear hBk
            refine nextH 14 rfl (by kernel_rfl) rfl (callH (some 74) rfl 10 #[.slice (some ⟨Bk73, 0, none⟩) 2 2] (by go_simp) (fun v w' => ∃ g, v = .slice (some ⟨g, 0, none⟩) 32 32 ∧ At w' g (bs (shaL z)) 5) (dsumH _ [((Value.slice (some ⟨M, 0, none⟩) kk N), z.take kk), ((Value.slice (some ⟨M, kk, none⟩) (N - kk) (N - kk)), z.drop kk)] z W1a k0 (srcs2 _ Bk73 _ _ _ _ bk (HF.out W1a m0) (HS.out W1a m0)) (by rw [flat_two, List.take_append_drop]) (by have := Hz1.out; omega) (by simp)) ?_)
            rintro v W2 x2 ⟨g2, rfl, h2⟩
            simp only [Act.put, List.setIfInBounds_toArray, List.set_cons_zero, List.set_cons_succ]
            replace r0 := r0.below x2
            replace t0 := t0.below x2
            replace k0 := k0.below x2 k0.lt
            replace m0 := m0.below x2 m0.lt
            replace x0 := x0.trans x2
            clear bk x2
            refine takeH 15 (some 75) (Value.string (strOfNums (shaL z))) rfl rfl (by kernel_rfl) (by kernel_rfl) (by kernel_rfl) (fun _ _ _ h => h) rfl (fun w' hw' => by have := conv_at 25 9 5 Tryd.underlying25 Tryd.underlying5 Tryd.underlying9 w' g2 (shaL z) 5 32 32 (shaL_length _) (h2.below hw' h2.lt); go_simp) ?_
            simp only [Act.put, List.setIfInBounds_toArray, List.set_cons_zero, List.set_cons_succ]
            refine takeH 17 (some 77) (.bool true) rfl rfl (by kernel_rfl) (by kernel_rfl) (by kernel_rfl) (fun _ _ _ h => h) rfl (fun w' hw' => by go_simp) ?_
            simp only [Act.put, List.setIfInBounds_toArray, List.set_cons_zero, List.set_cons_succ]
            refine takeH 18 (some 78) (.bool true) rfl rfl (by kernel_rfl) (by kernel_rfl) (by kernel_rfl) (fun _ _ _ h => h) rfl (fun w' hw' => by go_simp) ?_
            simp only [Act.put, List.setIfInBounds_toArray, List.set_cons_zero, List.set_cons_succ]
            refine takeH 19 (some 79) (.bool true) rfl rfl (by kernel_rfl) (by kernel_rfl) (by kernel_rfl) (fun _ _ _ h => h) rfl (fun w' hw' => by go_simp) ?_
            simp only [Act.put, List.setIfInBounds_toArray, List.set_cons_zero, List.set_cons_succ]
            clear h2
            refine takeH 22 (some 82) (Value.string (strOfNums (shaL z))) rfl rfl (by kernel_rfl) (by kernel_rfl) (by kernel_rfl) (fun _ _ _ h => h) rfl (fun w' hw' => by go_simp) ?_
            simp only [Act.put, List.setIfInBounds_toArray, List.set_cons_zero, List.set_cons_succ]
            refine nextH 20 rfl (by kernel_rfl) rfl (callH (some 80) rfl 11 #[.pointer (some ⟨H1, 0, none⟩)] (by go_simp) (fun v w' => ∃ g, v = .slice (some ⟨g, 0, none⟩) 32 32 ∧ At w' g (bs (shaL z)) 5) (hsumH (H1) z W2 k0 r0 (by have := Hz1.out; omega)) ?_)
            rintro v W3 x2 ⟨g3, rfl, h3⟩
            simp only [Act.put, List.setIfInBounds_toArray, List.set_cons_zero, List.set_cons_succ]
            replace r0 := r0.below x2
            replace t0 := t0.below x2
            replace k0 := k0.below x2 k0.lt
            replace m0 := m0.below x2 m0.lt
            replace x0 := x0.trans x2
            clear x2
            refine takeH 21 (some 81) (Value.string (strOfNums (shaL z))) rfl rfl (by kernel_rfl) (by kernel_rfl) (by kernel_rfl) (fun _ _ _ h => h) rfl (fun w' hw' => by have := conv_at 25 9 5 Tryd.underlying25 Tryd.underlying5 Tryd.underlying9 w' g3 (shaL z) 5 32 32 (shaL_length _) (h3.below hw' h3.lt); go_simp) ?_
            simp only [Act.put, List.setIfInBounds_toArray, List.set_cons_zero, List.set_cons_succ]
            refine takeH 23 (some 83) (.bool true) rfl rfl (by kernel_rfl) (by kernel_rfl) (by kernel_rfl) (fun _ _ _ h => h) rfl (fun w' hw' => by go_simp) ?_
            simp only [Act.put, List.setIfInBounds_toArray, List.set_cons_zero, List.set_cons_succ]
            refine takeH 24 (some 84) (.bool true) rfl rfl (by kernel_rfl) (by kernel_rfl) (by kernel_rfl) (fun _ _ _ h => h) rfl (fun w' hw' => by go_simp) ?_
            simp only [Act.put, List.setIfInBounds_toArray, List.set_cons_zero, List.set_cons_succ]
            refine takeH 25 (some 85) (.bool true) rfl rfl (by kernel_rfl) (by kernel_rfl) (by kernel_rfl) (fun _ _ _ h => h) rfl (fun w' hw' => by go_simp) ?_
            simp only [Act.put, List.setIfInBounds_toArray, List.set_cons_zero, List.set_cons_succ]
            clear h3
            refine takeH 28 (some 88) (Value.string (strOfNums (shaL z))) rfl rfl (by kernel_rfl) (by kernel_rfl) (by kernel_rfl) (fun _ _ _ h => h) rfl (fun w' hw' => by go_simp) ?_
            simp only [Act.put, List.setIfInBounds_toArray, List.set_cons_zero, List.set_cons_succ]
            refine nextH 26 rfl (by kernel_rfl) rfl (callH (some 86) rfl 11 #[.pointer (some ⟨H1 + 1, 0, none⟩)] (by go_simp) (fun v w' => ∃ g, v = .slice (some ⟨g, 0, none⟩) 32 32 ∧ At w' g (bs (shaL z)) 5) (hsumH (H1 + 1) z W3 k0 t0 (by have := Hz1.out; omega)) ?_)
            rintro v W4 x2 ⟨g4, rfl, h4⟩
            simp only [Act.put, List.setIfInBounds_toArray, List.set_cons_zero, List.set_cons_succ]
            replace r0 := r0.below x2
            replace t0 := t0.below x2
            replace k0 := k0.below x2 k0.lt
            replace m0 := m0.below x2 m0.lt
            replace x0 := x0.trans x2
            clear x2
            refine takeH 27 (some 87) (Value.string (strOfNums (shaL z))) rfl rfl (by kernel_rfl) (by kernel_rfl) (by kernel_rfl) (fun _ _ _ h => h) rfl (fun w' hw' => by have := conv_at 25 9 5 Tryd.underlying25 Tryd.underlying5 Tryd.underlying9 w' g4 (shaL z) 5 32 32 (shaL_length _) (h4.below hw' h4.lt); go_simp) ?_
            simp only [Act.put, List.setIfInBounds_toArray, List.set_cons_zero, List.set_cons_succ]
            refine takeH 29 (some 89) (.bool true) rfl rfl (by kernel_rfl) (by kernel_rfl) (by kernel_rfl) (fun _ _ _ h => h) rfl (fun w' hw' => by go_simp) ?_
            simp only [Act.put, List.setIfInBounds_toArray, List.set_cons_zero, List.set_cons_succ]
            refine takeH 30 (some 90) (.bool true) rfl rfl (by kernel_rfl) (by kernel_rfl) (by kernel_rfl) (fun _ _ _ h => h) rfl (fun w' hw' => by go_simp) ?_
            simp only [Act.put, List.setIfInBounds_toArray, List.set_cons_zero, List.set_cons_succ]
            refine takeH 31 (some 91) (.bool true) rfl rfl (by kernel_rfl) (by kernel_rfl) (by kernel_rfl) (fun _ _ _ h => h) rfl (fun w' hw' => by go_simp) ?_
            simp only [Act.put, List.setIfInBounds_toArray, List.set_cons_zero, List.set_cons_succ]
            clear h4
            refine takeH 33 (some 93) (.int .i64 N) rfl rfl (by kernel_rfl) (by kernel_rfl) (by kernel_rfl) (fun _ _ _ h => h) rfl (fun w' hw' => by go_simp) ?_
            simp only [Act.put, List.setIfInBounds_toArray, List.set_cons_zero, List.set_cons_succ]
            refine nextH 32 rfl (by kernel_rfl) rfl (callH (some 92) rfl 12 #[.pointer (some ⟨H1, 0, none⟩)] (by go_simp) (fun v w' => v = .int .i64 (N : Int)) ((len_any H1 z W4 r0 (by have := Hz1.out; omega)).mono fun _ _ he => by obtain ⟨rfl, n, rfl⟩ := he; exact ⟨_, rfl, below_drewN (Below.refl _ _) n, by rw [Hz1.out]⟩) ?_)
            rintro v W5 x2 rfl
            simp only [Act.put, List.setIfInBounds_toArray, List.set_cons_zero, List.set_cons_succ]
            replace r0 := r0.below x2
            replace t0 := t0.below x2
            replace k0 := k0.below x2 k0.lt
            replace m0 := m0.below x2 m0.lt
            replace x0 := x0.trans x2
            clear x2
            refine takeH 34 (some 94) (.bool true) rfl rfl (by kernel_rfl) (by kernel_rfl) (by kernel_rfl) (fun _ _ _ h => h) rfl (fun w' hw' => by go_simp) ?_
            simp only [Act.put, List.setIfInBounds_toArray, List.set_cons_zero, List.set_cons_succ]
            refine takeH 35 (some 95) (.bool true) rfl rfl (by kernel_rfl) (by kernel_rfl) (by kernel_rfl) (fun _ _ _ h => h) rfl (fun w' hw' => by go_simp) ?_
            simp only [Act.put, List.setIfInBounds_toArray, List.set_cons_zero, List.set_cons_succ]
            refine takeH 36 (some 96) (.bool true) rfl rfl (by kernel_rfl) (by kernel_rfl) (by kernel_rfl) (fun _ _ _ h => h) rfl (fun w' hw' => by go_simp) ?_
            simp only [Act.put, List.setIfInBounds_toArray, List.set_cons_zero, List.set_cons_succ]
            refine nextH 37 rfl (by kernel_rfl) rfl (callH (some 97) rfl 7 #[] (by go_simp) (fun v w' => v = .bool true) ((awake_any W5 k0).mono fun _ _ he => ⟨_, he.1, he.2, rfl⟩) ?_)
            rintro v W6 x2 rfl
            simp only [Act.put, List.setIfInBounds_toArray, List.set_cons_zero, List.set_cons_succ]
            replace x0 := x0.trans x2
            refine takeH 38 (some 98) (.bool true) rfl rfl (by kernel_rfl) (by kernel_rfl) (by kernel_rfl) (fun _ _ _ h => h) rfl (fun w' hw' => by go_simp) ?_
            simp only [Act.put, List.setIfInBounds_toArray, List.set_cons_zero, List.set_cons_succ]
            refine takeH 39 (some 6) (.bool true) rfl rfl (by kernel_rfl) (by kernel_rfl) (by kernel_rfl) (fun _ _ _ h => h) rfl (fun w' hw' => by go_simp) ?_
            simp only [Act.put, List.setIfInBounds_toArray, List.set_cons_zero, List.set_cons_succ]
            refine wpAnyH_done (by kernel_rfl) ?_ _
            go_wp2
            go_ret
            exact ⟨rfl, x0⟩

set_option maxHeartbeats 1000000 in
theorem edges_out (n k x : Int) (w : World) (hK : KAt w) (h : n < 0 ∨ 300 < n) :
    Calls Tryd.prog 5 #[.int .i64 n, .int .i64 k, .int .u8 x] w fun e w' => e = .returned (.bool true) ∧ Below w.heap.size w w' := by
  by_cases h0 : n < 0
  · have d1 : decide (n < 0) = true := by simpa using h0
    go_enter Tryd.func5, Tryd.ntmps5
    go_wp2_with fail
    refine (awake_any w hK).mono ?_
    rintro e w2 ⟨rfl, b2⟩
    go_wp2
    go_ret
    exact ⟨rfl, b2⟩
  · have d1 : decide (n < 0) = false := by simpa using h0
    have d2 : decide ((300 : Int) < n) = true := by simp; omega
    go_enter Tryd.func5, Tryd.ntmps5
    go_wp2_with fail
    refine (awake_any w hK).mono ?_
    rintro e w2 ⟨rfl, b2⟩
    go_wp2
    go_ret
    exact ⟨rfl, b2⟩

theorem edges_any (n k x : Int) (w : World) (hK : KAt w) :
    Calls Tryd.prog 5 #[.int .i64 n, .int .i64 k, .int .u8 x] w fun e w' => e = .returned (.bool true) ∧ Below w.heap.size w w' := by
  by_cases h : n < 0 ∨ 300 < n
  · exact edges_out n k x w hK h
  · obtain ⟨N, rfl⟩ := Int.eq_ofNat_of_zero_le (show 0 ≤ n by omega)
    exact edges_in N k x w hK (by omega)

end Go.Proofs.YtpbhccejcjichaaDoor
