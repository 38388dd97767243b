/- Contract of the document's own with, whatever names: a copy with one more. -/
import Derived.Test.YtbneedmfpldpfaaGreatDoorReM
set_option linter.unusedSimpArgs false
set_option linter.unusedVariables false
namespace Go.Proofs.YtbneedmfpldpfaaGreatDoor
open Go.RowKit Go.Pth

theorem Grew.ne {w w' : World} {v v' : Value} {b : Nat} (g : Grew w w' v v') (h : ∀ i, v.ownBlock = some i → i ≠ b) (hb : b < w.heap.size) : ∀ i, v'.ownBlock = some i → i ≠ b := by
  intro i hi
  rcases g.own with q | ⟨j, q1, q2⟩
  · rw [q] at hi; exact h i hi
  · rw [q1] at hi; injection hi with hi; omega
def Base (w : World) : Nat := w.heap.size
def backV (K : Nat) (ad : Option Addr) (n cap k : Nat) : Value := if cap = k then .slice ad (n - k) 0 else .slice (Option.map (fun x => x.add (k * K)) ad) (n - k) (cap - k)
theorem back_src {w : World} {e : TypeId} {K : Nat} {ad : Option Addr} {n cap : Nat} {xs : List Value} (h : Row w e K (.slice ad n cap) n xs) (h1 : ∀ u ∈ xs, u.oneCell' = true) {tx e' : TypeId} (hk : Tryz.prog.underlying tx = some (.slice e')) (k : Nat) (hj : k ≤ n) : Src Tryz.prog K tx (backV K ad n cap k) (n - k) (xs.drop (k * K)) w := by
  unfold backV
  rcases h.2 with ⟨h2, rfl⟩ | ⟨g, cap', cur, h2, _, _, hn, _⟩
  · injection h2 with h2 _ h3
    subst h2 h3
    obtain rfl : k = 0 := by omega
    rw [if_pos rfl]
    have hx : xs = [] := List.eq_nil_of_length_eq_zero (by simpa using h.1)
    subst hx
    simp only [Nat.zero_mul, List.drop_zero]
    exact Src.ofNil w hk 0
  · injection h2 with h2 _ h3
    subst h2 h3
    by_cases hc : cap = k
    · rw [if_pos hc]
      have hn0 : n - k = 0 := by omega
      rw [hn0]
      have hx : xs.drop (k * K) = [] := List.drop_of_length_le (by rw [h.1]; exact Nat.mul_le_mul_right _ (by omega))
      rw [hx]
      exact Src.ofSlice w hk ⟨g, 0, none⟩ 0 0 [] (by simp) (fun q u hu => by simp at hu) (by simp)
    · rw [if_neg hc]
      have := row_back h h1 hk k (cap - k) hj
      rw [show (Option.map (fun x : Addr => x.add (k * K)) (some ⟨g, 0, none⟩)) = some ⟨g, k * K, none⟩ by rw [Option.map_some, Addr.add_lit, Nat.zero_add]]
      exact this
def InvWi (n : Nat) (w : World) (s5 : Value) (wr : World) : Prop := ∃ k : Nat, k ≤ n ∧ s5 = .int .i64 k ∧ Ext w wr
theorem bools (b : Bool) : b = true ∨ b = false := by cases b <;> simp

set_option maxRecDepth 100000 in
set_option maxHeartbeats 8000000 in
theorem rwith_any (v : Value) (l : List Nm) (p : ByteArray) (fn : Nat) (w : World) (hr : Row w 111 2 v l.length (rns l)) (hl : l.length ≤ 100000) :
    Calls Tryz.prog 97 #[v, .agg #[.string p, .int .i64 fn]] w fun e w' => ∃ v' k, e = .returned v' ∧ Row w' 111 2 v' (l.length + 1) (rns (l.take k ++ [(p.toList, fn)] ++ l.drop k)) ∧ Ext w w' ∧ ∀ i, v'.ownBlock = some i → w.heap.size ≤ i := by
  obtain ⟨ad, cap, b, o, hx⟩ := RNs.of_row hr
  have hcap := hr.shape
  obtain ⟨rfl, hadr, hnm, -⟩ := hx
  obtain ⟨ad', cap', hv', hnc, hcm, -, -⟩ := hcap
  injection hv' with hv1 _ hv3
  subst hv1 hv3

  have FIN0 : Hid (∀ (k : Nat), k ≤ l.length → ∀ (w0 W' : World) (v' : Value), Ext w w0 → Ext w0 W' → Row W' 111 2 v' (0 + k + 1 + (l.length - k)) ([] ++ (rns l).take (k * 2) ++ [.string p, .int .i64 fn] ++ (rns l).drop (k * 2)) → (∀ i, v'.ownBlock = some i → w0.heap.size ≤ i) →
      ∃ v'' k, (Ending.returned v') = .returned v'' ∧ Row W' 111 2 v'' (l.length + 1) (rns (l.take k ++ [(p.toList, fn)] ++ l.drop k)) ∧ Ext w W' ∧ ∀ i, v''.ownBlock = some i → Base w ≤ i) := Lib.hid fun k hk w0 W' v' e0 e1 r hz => by
    refine ⟨v', k, rfl, ?_, e0.trans e1, fun i hi => Nat.le_trans e0.size (hz i hi)⟩
    have e : [] ++ (rns l).take (k * 2) ++ [.string p, .int .i64 fn] ++ (rns l).drop (k * 2) = rns (l.take k ++ [(p.toList, fn)] ++ l.drop k) := by
      unfold rns
      rw [flat_take rnc 2 rnc_len, flat_drop rnc 2 rnc_len, List.flatMap_append, List.flatMap_append, List.nil_append]
      congr 2
      simp [rnc, list_tx]
    rw [e, show 0 + k + 1 + (l.length - k) = l.length + 1 by omega] at r
    exact r
  have SA0 := Lib.hid (fun (k : Nat) (hk : k ≤ l.length) (W' : World) (e : Ext w W') => row_front (hr.ext e) (rns_one l) Tryz.underlying59 k cap hk)
  have SB0 := Lib.hid (fun (k : Nat) (hk : k ≤ l.length) (W' : World) (e : Ext w W') => back_src (hr.ext e) (rns_one l) Tryz.underlying59 k hk)
  have CM : Hid (∀ j, j < l.length → ∃ z, w.cell? ⟨b, o + j * 2, none⟩ = some (.string z)) := Lib.hid fun j hj => ⟨_, hnm j hj⟩
  have HAD := Lib.hid hadr
  simp only [maxLen] at hcm
  clear hadr hnm
  generalize l.length = n at *
  generalize hf : ((fn : Nat) : Int) = f at *
  have LE := Lib.hid (fun a b (w1 w2 : World) (h : Ext w1 w2) => ((rless_any a b w2).mono fun _ _ (h' : _ ∧ _) => (⟨⟨_, h'.1⟩, h.trans h'.2⟩ : (∃ r : Bool, _ = Ending.returned (.bool r)) ∧ Ext w1 _)))
  clear hr hf
  have e0 : Ext w (w.alloc (.cells #[.string p, .int .i64 f] 111)) := Ext.alloc w _
  have a0 := At.new w #[.string p, .int .i64 f] 111
  go_enter Tryz.func97, Tryz.ntmps97
  go_wp2
  generalize w.alloc (.cells #[.string p, .int .i64 f] 111) = w0 at *
  generalize w.heap.size = g0 at *
  have CM2 := Lib.hid (fun (wr : World) (ex : Ext w0 wr) j hj => (⟨(CM.out j hj).choose, (e0.trans ex).cell (CM.out j hj).choose_spec⟩ : ∃ z, wr.cell? ⟨b, o + j * 2, none⟩ = some (.string z)))
  have E0 := Lib.hid e0
  have A0 := Lib.hid (fun (wr : World) (ex : Ext w0 wr) => a0.ext ex)
  clear CM e0 a0
  go_loopw [5] (fun s5 wr => InvWi n w0 s5 wr) (fun s5 _ => (intOf s5).toNat)
  case atStart => exact ⟨n, Nat.le_refl _, rfl, Ext.refl _⟩
  case round =>
    obtain ⟨k, hk, rfl, ex⟩ := hrel
    rcases Nat.eq_zero_or_pos k with hk0 | hk0
    · have g0_ : decide ((k : Int) > 0) = false := by simp; omega
      have g1_ : decide ((0 : Int) < (k : Int)) = false := by simp; omega
      have g2_ : decide (0 < k) = false := by simp; omega
      clear hk0
      go_wp2
      go_quiet (fail)
      have E1 := Lib.hid (ex.trans (⟨rfl, rfl, rfl, Nat.le_refl _, fun _ _ => rfl⟩ : Ext wr (wr.drewN nq)))
      generalize wr.drewN nq = wq at *
      clear ex nq
      go_wp2_with fail
      have a1 := A0.out wq E1.out
      have EW := Lib.hid (E0.out.trans E1.out)
      have FIN := Lib.hid (fun (W' : World) (v' : Value) (e1 : Ext wq.drew W') r (hz : ∀ i, v'.ownBlock = some i → Base wq.drew ≤ i) => FIN0.out k hk wq.drew W' v' (EW.out.trans (Ext.drew wq)) e1 r hz)
      have SA := Lib.hid (fun (W' : World) (e1 : Ext wq.drew W') => SA0.out k hk W' ((EW.out.trans (Ext.drew wq)).trans e1))
      have SB := Lib.hid (fun (W' : World) (e1 : Ext wq.drew W') => SB0.out k hk W' ((EW.out.trans (Ext.drew wq)).trans e1))
      have HA := Lib.hid (fun (w' : World) (hw' : Ext wq.drew w') => (At.ext (w := wq.drew) a1 hw'))
      clear a1
      have k0_ : (0 : Int) ≤ (k : Int) := by omega
      have k1_ : (k : Int) ≤ (n : Int) := by omega
      have k2_ : (k : Int) ≤ (cap : Int) := by omega
      have k3_ : (n : Int) ≤ (cap : Int) := by omega
      refine wp_region_held (S := Ext wq.drew) (by kernel_rfl) ?_
      change wpAnyH _ _ _ _ _ _ _ _ wq.drew
      have S0 : Ext wq.drew wq.drew := Ext.refl _
      generalize wq.drew = W0 at *
      refine takeS 1 (some 24) (.slice ad n cap) rfl rfl (by kernel_rfl) (by kernel_rfl) (by kernel_rfl) (fun _ _ _ h => h) rfl S0 (fun w' hw' => by go_simp) ?_
      simp only [Act.put, List.setIfInBounds_toArray, List.set_cons_zero, List.set_cons_succ]
      refine takeS 2 (some 25) (.int .i64 k) rfl rfl (by kernel_rfl) (by kernel_rfl) (by kernel_rfl) (fun _ _ _ h => h) rfl S0 (fun w' hw' => by go_simp) ?_
      simp only [Act.put, List.setIfInBounds_toArray, List.set_cons_zero, List.set_cons_succ]
      refine takeS 3 (some 26) (.slice ad k cap) rfl rfl (by kernel_rfl) (by kernel_rfl) (by kernel_rfl) (fun _ _ _ h => h) rfl S0 (fun w' hw' => by go_simp) ?_
      simp only [Act.put, List.setIfInBounds_toArray, List.set_cons_zero, List.set_cons_succ]
      refine takeS 5 (some 28) (.agg #[.string p, .int .i64 f]) rfl rfl (by kernel_rfl) (by kernel_rfl) (by kernel_rfl) (fun _ _ _ h => h) rfl S0 (fun w' hw' => by have c0 := (HA.out w' hw').cell 0; have c1 := (HA.out w' hw').cell 1; go_simp) ?_
      simp only [Act.put, List.setIfInBounds_toArray, List.set_cons_zero, List.set_cons_succ]
      refine takeS 8 (some 31) (.slice ad n cap) rfl rfl (by kernel_rfl) (by kernel_rfl) (by kernel_rfl) (fun _ _ _ h => h) rfl S0 (fun w' hw' => by go_simp) ?_
      simp only [Act.put, List.setIfInBounds_toArray, List.set_cons_zero, List.set_cons_succ]
      refine takeS 9 (some 32) (.int .i64 k) rfl rfl (by kernel_rfl) (by kernel_rfl) (by kernel_rfl) (fun _ _ _ h => h) rfl S0 (fun w' hw' => by go_simp) ?_
      simp only [Act.put, List.setIfInBounds_toArray, List.set_cons_zero, List.set_cons_succ]
      refine takeS 10 (some 33) (backV 2 ad n cap k) rfl rfl (by kernel_rfl) (by kernel_rfl) (by kernel_rfl) (fun _ _ _ h => h) rfl S0 (fun w' hw' => by unfold backV; by_cases hc_ : cap = k <;> go_simp) ?_
      simp only [Act.put, List.setIfInBounds_toArray, List.set_cons_zero, List.set_cons_succ]
      refine nextR2 0 6 rfl rfl (by kernel_rfl) rfl rfl ?_ ?_
      · skip
        refine (makeR (some 23) rfl (.slice (some ⟨W0.heap.size, 0, none⟩) 0 0) (w1 := W0.alloc (.cells #[] 111)) (by go_simp) ?_)
        simp only [Act.put, List.setIfInBounds_toArray, List.set_cons_zero, List.set_cons_succ]
        have x_ : Ext W0 (W0.alloc (.cells #[] 111)) := Ext.alloc W0 _
        have z4 : Row (W0.alloc (.cells #[] 111)) 111 2 (.slice (some ⟨W0.heap.size, 0, none⟩) 0 0) 0 [] := empty_row W0 111 2
        have hz5 : ∀ i, (Value.slice (some ⟨W0.heap.size, 0, none⟩) 0 0).ownBlock = some i → Base W0 ≤ i := fun i hi => by have q_ : some W0.heap.size = some i := hi; injection q_ with q_; have := S0.size; unfold Base; omega
        have S2 := S0.trans x_
        clear x_
        generalize W0.alloc (.cells #[] 111) = W1 at *
        generalize W0.heap.size = g3 at *
        refine ⟨S2, ?_⟩
        refine nextR2 4 6 rfl rfl (by kernel_rfl) rfl rfl ?_ ?_
        · skip
          obtain ⟨v17, W10, h14, z12, gr15⟩ := row_copy 59 Tryz.underlying59 info113 rfl z4 (SA.out W1 S2) (by omega) (by omega)
          have ff16 := Grew.fresh gr15 S2 hz5
          have S11 := ff16.1
          have hz13 : ∀ i, v17.ownBlock = some i → Base W0 ≤ i := ff16.2
          clear ff16
          clear gr15
          obtain ⟨ad18, cp19, ev_, -⟩ := z12.shape
          subst ev_
          refine (appR (some 27) rfl (.tmp 23) (.tmp 26) 59 59 rfl _ _ rfl rfl _ _ h14 ?_)
          simp only [Act.put, List.setIfInBounds_toArray, List.set_cons_zero, List.set_cons_succ]
          clear h14 z4 hz5
          refine ⟨S11, ?_⟩
          refine nextS 6 rfl (by kernel_rfl) rfl (makeR (some 29) rfl (.slice (some ⟨W10.heap.size, 0, none⟩) 1 1) (w1 := W10.alloc (.cells #[.string p, .int .i64 f] 111)) (by go_simp) ?_)
          simp only [Act.put, List.setIfInBounds_toArray, List.set_cons_zero, List.set_cons_succ]
          have x_ : Ext W10 (W10.alloc (.cells #[.string p, .int .i64 f] 111)) := Ext.alloc W10 _
          have a28 : At (W10.alloc (.cells #[.string p, .int .i64 f] 111)) W10.heap.size #[.string p, .int .i64 f] 111 := At.new W10 _ _
          have ne29 : ∀ i, (.slice ad18 (0 + k) cp19 : Value).ownBlock = some i → i ≠ W10.heap.size := fun i hi => by have := z12.lt i hi; omega
          replace z12 := z12.ext x_
          have S26 := S11.trans x_
          clear x_
          generalize W10.alloc (.cells #[.string p, .int .i64 f] 111) = W25 at *
          generalize W10.heap.size = g27 at *
          refine ⟨S26, ?_⟩
          obtain ⟨v37, W30, h34, z32, gr35⟩ := row_copy 59 Tryz.underlying59 info113 rfl z12 (Src.ofSlice W25 Tryz.underlying59 ⟨g27, 0, none⟩ 1 1 [.string p, .int .i64 f] rfl (fun q u hu => by rw [Addr.add_lit, Nat.zero_add, a28.cell, ← hu]; simp) (by simp [Value.oneCell'])) (by omega) (by omega)
          have ff36 := Grew.fresh gr35 S26 hz13
          have S31 := ff36.1
          have hz33 : ∀ i, v37.ownBlock = some i → Base W0 ≤ i := ff36.2
          clear ff36
          clear gr35
          obtain ⟨ad38, cp39, ev_, -⟩ := z32.shape
          subst ev_
          refine nextS 7 rfl (by kernel_rfl) rfl (appR (some 30) rfl (.tmp 27) (.tmp 29) 59 59 rfl _ _ rfl rfl _ _ h34 ?_)
          simp only [Act.put, List.setIfInBounds_toArray, List.set_cons_zero, List.set_cons_succ]
          clear h34 z12 hz13
          refine ⟨S31, ?_⟩
          obtain ⟨v47, W40, h44, z42, gr45⟩ := row_copy 59 Tryz.underlying59 info113 rfl z32 (SB.out W30 S31) (by omega) (by omega)
          have ff46 := Grew.fresh gr45 S31 hz33
          have S41 := ff46.1
          have hz43 : ∀ i, v47.ownBlock = some i → Base W0 ≤ i := ff46.2
          clear ff46
          clear gr45
          obtain ⟨ad48, cp49, ev_, -⟩ := z42.shape
          subst ev_
          refine nextS 11 rfl (by kernel_rfl) rfl (appR (some 34) rfl (.tmp 30) (.tmp 33) 59 59 rfl _ _ rfl rfl _ _ h44 ?_)
          simp only [Act.put, List.setIfInBounds_toArray, List.set_cons_zero, List.set_cons_succ]
          clear h44 z32 hz33
          refine ⟨S41, ?_⟩
          refine takeS 12 (some 4) (.slice ad48 (((0 + k) + 1) + (n - k)) cp49) rfl rfl (by kernel_rfl) (by kernel_rfl) (by kernel_rfl) (fun _ _ _ h => h) rfl S41 (fun w' hw' => by go_simp) ?_
          simp only [Act.put, List.setIfInBounds_toArray, List.set_cons_zero, List.set_cons_succ]
          refine wpAnyH_done (by kernel_rfl) ?_ _
          go_wp2
          go_ret
          exact FIN.out _ _ S41 z42 hz43
        · skip
          refine (makeR (some 29) rfl (.slice (some ⟨W1.heap.size, 0, none⟩) 1 1) (w1 := W1.alloc (.cells #[.string p, .int .i64 f] 111)) (by go_simp) ?_)
          simp only [Act.put, List.setIfInBounds_toArray, List.set_cons_zero, List.set_cons_succ]
          have x_ : Ext W1 (W1.alloc (.cells #[.string p, .int .i64 f] 111)) := Ext.alloc W1 _
          have a23 : At (W1.alloc (.cells #[.string p, .int .i64 f] 111)) W1.heap.size #[.string p, .int .i64 f] 111 := At.new W1 _ _
          have ne24 : ∀ i, (.slice (some ⟨g3, 0, none⟩) 0 0 : Value).ownBlock = some i → i ≠ W1.heap.size := fun i hi => by have := z4.lt i hi; omega
          replace z4 := z4.ext x_
          have S21 := S2.trans x_
          clear x_
          generalize W1.alloc (.cells #[.string p, .int .i64 f] 111) = W20 at *
          generalize W1.heap.size = g22 at *
          refine ⟨S21, ?_⟩
          obtain ⟨v57, W50, h54, z52, gr55⟩ := row_copy 59 Tryz.underlying59 info113 rfl z4 (SA.out W20 S21) (by omega) (by omega)
          have ff56 := Grew.fresh gr55 S21 hz5
          have S51 := ff56.1
          have hz53 : ∀ i, v57.ownBlock = some i → Base W0 ≤ i := ff56.2
          clear ff56
          have ne58 := Grew.ne gr55 ne24 a23.lt
          have a_ := gr55.chg.at a23 (fun q => ne24 _ q rfl)
          clear a23
          have a23 := a_
          clear a_
          clear gr55
          obtain ⟨ad59, cp60, ev_, -⟩ := z52.shape
          subst ev_
          refine nextS 4 rfl (by kernel_rfl) rfl (appR (some 27) rfl (.tmp 23) (.tmp 26) 59 59 rfl _ _ rfl rfl _ _ h54 ?_)
          simp only [Act.put, List.setIfInBounds_toArray, List.set_cons_zero, List.set_cons_succ]
          clear h54 z4 hz5
          refine ⟨S51, ?_⟩
          obtain ⟨v68, W61, h65, z63, gr66⟩ := row_copy 59 Tryz.underlying59 info113 rfl z52 (Src.ofSlice W50 Tryz.underlying59 ⟨g22, 0, none⟩ 1 1 [.string p, .int .i64 f] rfl (fun q u hu => by rw [Addr.add_lit, Nat.zero_add, a23.cell, ← hu]; simp) (by simp [Value.oneCell'])) (by omega) (by omega)
          have ff67 := Grew.fresh gr66 S51 hz53
          have S62 := ff67.1
          have hz64 : ∀ i, v68.ownBlock = some i → Base W0 ≤ i := ff67.2
          clear ff67
          clear gr66
          obtain ⟨ad69, cp70, ev_, -⟩ := z63.shape
          subst ev_
          refine nextS 7 rfl (by kernel_rfl) rfl (appR (some 30) rfl (.tmp 27) (.tmp 29) 59 59 rfl _ _ rfl rfl _ _ h65 ?_)
          simp only [Act.put, List.setIfInBounds_toArray, List.set_cons_zero, List.set_cons_succ]
          clear h65 z52 hz53
          refine ⟨S62, ?_⟩
          obtain ⟨v78, W71, h75, z73, gr76⟩ := row_copy 59 Tryz.underlying59 info113 rfl z63 (SB.out W61 S62) (by omega) (by omega)
          have ff77 := Grew.fresh gr76 S62 hz64
          have S72 := ff77.1
          have hz74 : ∀ i, v78.ownBlock = some i → Base W0 ≤ i := ff77.2
          clear ff77
          clear gr76
          obtain ⟨ad79, cp80, ev_, -⟩ := z73.shape
          subst ev_
          refine nextS 11 rfl (by kernel_rfl) rfl (appR (some 34) rfl (.tmp 30) (.tmp 33) 59 59 rfl _ _ rfl rfl _ _ h75 ?_)
          simp only [Act.put, List.setIfInBounds_toArray, List.set_cons_zero, List.set_cons_succ]
          clear h75 z63 hz64
          refine ⟨S72, ?_⟩
          refine takeS 12 (some 4) (.slice ad79 (((0 + k) + 1) + (n - k)) cp80) rfl rfl (by kernel_rfl) (by kernel_rfl) (by kernel_rfl) (fun _ _ _ h => h) rfl S72 (fun w' hw' => by go_simp) ?_
          simp only [Act.put, List.setIfInBounds_toArray, List.set_cons_zero, List.set_cons_succ]
          refine wpAnyH_done (by kernel_rfl) ?_ _
          go_wp2
          go_ret
          exact FIN.out _ _ S72 z73 hz74
      · skip
        refine (makeR (some 29) rfl (.slice (some ⟨W0.heap.size, 0, none⟩) 1 1) (w1 := W0.alloc (.cells #[.string p, .int .i64 f] 111)) (by go_simp) ?_)
        simp only [Act.put, List.setIfInBounds_toArray, List.set_cons_zero, List.set_cons_succ]
        have x_ : Ext W0 (W0.alloc (.cells #[.string p, .int .i64 f] 111)) := Ext.alloc W0 _
        have a9 : At (W0.alloc (.cells #[.string p, .int .i64 f] 111)) W0.heap.size #[.string p, .int .i64 f] 111 := At.new W0 _ _
        have S7 := S0.trans x_
        clear x_
        generalize W0.alloc (.cells #[.string p, .int .i64 f] 111) = W6 at *
        generalize W0.heap.size = g8 at *
        refine ⟨S7, ?_⟩
        refine nextS 0 rfl (by kernel_rfl) rfl (makeR (some 23) rfl (.slice (some ⟨W6.heap.size, 0, none⟩) 0 0) (w1 := W6.alloc (.cells #[] 111)) (by go_simp) ?_)
        simp only [Act.put, List.setIfInBounds_toArray, List.set_cons_zero, List.set_cons_succ]
        have x_ : Ext W6 (W6.alloc (.cells #[] 111)) := Ext.alloc W6 _
        have z84 : Row (W6.alloc (.cells #[] 111)) 111 2 (.slice (some ⟨W6.heap.size, 0, none⟩) 0 0) 0 [] := empty_row W6 111 2
        have hz85 : ∀ i, (Value.slice (some ⟨W6.heap.size, 0, none⟩) 0 0).ownBlock = some i → Base W0 ≤ i := fun i hi => by have q_ : some W6.heap.size = some i := hi; injection q_ with q_; have := S7.size; unfold Base; omega
        have ne86 : ∀ i, (Value.slice (some ⟨W6.heap.size, 0, none⟩) 0 0).ownBlock = some i → i ≠ g8 := fun i hi => by have q_ : some W6.heap.size = some i := hi; injection q_ with q_; have := a9.lt; omega
        replace a9 := a9.ext x_
        have S82 := S7.trans x_
        clear x_
        generalize W6.alloc (.cells #[] 111) = W81 at *
        generalize W6.heap.size = g83 at *
        refine ⟨S82, ?_⟩
        obtain ⟨v94, W87, h91, z89, gr92⟩ := row_copy 59 Tryz.underlying59 info113 rfl z84 (SA.out W81 S82) (by omega) (by omega)
        have ff93 := Grew.fresh gr92 S82 hz85
        have S88 := ff93.1
        have hz90 : ∀ i, v94.ownBlock = some i → Base W0 ≤ i := ff93.2
        clear ff93
        have ne95 := Grew.ne gr92 ne86 a9.lt
        have a_ := gr92.chg.at a9 (fun q => ne86 _ q rfl)
        clear a9
        have a9 := a_
        clear a_
        clear gr92
        obtain ⟨ad96, cp97, ev_, -⟩ := z89.shape
        subst ev_
        refine nextS 4 rfl (by kernel_rfl) rfl (appR (some 27) rfl (.tmp 23) (.tmp 26) 59 59 rfl _ _ rfl rfl _ _ h91 ?_)
        simp only [Act.put, List.setIfInBounds_toArray, List.set_cons_zero, List.set_cons_succ]
        clear h91 z84 hz85
        refine ⟨S88, ?_⟩
        obtain ⟨v105, W98, h102, z100, gr103⟩ := row_copy 59 Tryz.underlying59 info113 rfl z89 (Src.ofSlice W87 Tryz.underlying59 ⟨g8, 0, none⟩ 1 1 [.string p, .int .i64 f] rfl (fun q u hu => by rw [Addr.add_lit, Nat.zero_add, a9.cell, ← hu]; simp) (by simp [Value.oneCell'])) (by omega) (by omega)
        have ff104 := Grew.fresh gr103 S88 hz90
        have S99 := ff104.1
        have hz101 : ∀ i, v105.ownBlock = some i → Base W0 ≤ i := ff104.2
        clear ff104
        clear gr103
        obtain ⟨ad106, cp107, ev_, -⟩ := z100.shape
        subst ev_
        refine nextS 7 rfl (by kernel_rfl) rfl (appR (some 30) rfl (.tmp 27) (.tmp 29) 59 59 rfl _ _ rfl rfl _ _ h102 ?_)
        simp only [Act.put, List.setIfInBounds_toArray, List.set_cons_zero, List.set_cons_succ]
        clear h102 z89 hz90
        refine ⟨S99, ?_⟩
        obtain ⟨v115, W108, h112, z110, gr113⟩ := row_copy 59 Tryz.underlying59 info113 rfl z100 (SB.out W98 S99) (by omega) (by omega)
        have ff114 := Grew.fresh gr113 S99 hz101
        have S109 := ff114.1
        have hz111 : ∀ i, v115.ownBlock = some i → Base W0 ≤ i := ff114.2
        clear ff114
        clear gr113
        obtain ⟨ad116, cp117, ev_, -⟩ := z110.shape
        subst ev_
        refine nextS 11 rfl (by kernel_rfl) rfl (appR (some 34) rfl (.tmp 30) (.tmp 33) 59 59 rfl _ _ rfl rfl _ _ h112 ?_)
        simp only [Act.put, List.setIfInBounds_toArray, List.set_cons_zero, List.set_cons_succ]
        clear h112 z100 hz101
        refine ⟨S109, ?_⟩
        refine takeS 12 (some 4) (.slice ad116 (((0 + k) + 1) + (n - k)) cp117) rfl rfl (by kernel_rfl) (by kernel_rfl) (by kernel_rfl) (fun _ _ _ h => h) rfl S109 (fun w' hw' => by go_simp) ?_
        simp only [Act.put, List.setIfInBounds_toArray, List.set_cons_zero, List.set_cons_succ]
        refine wpAnyH_done (by kernel_rfl) ?_ _
        go_wp2
        go_ret
        exact FIN.out _ _ S109 z110 hz111
    · obtain ⟨j, rfl⟩ : ∃ j, k = j + 1 := ⟨k - 1, by omega⟩
      have hjn : j < n := by omega
      obtain ⟨z, cz⟩ := CM2.out wr ex j hjn
      have hb := HAD.out (by omega)
      subst hb
      have a3 := A0.out wr ex
      have i0 : (0 : Int) ≤ (j : Int) := by omega
      have i1 : (j : Int) < (n : Int) := by omega
      have hw : IntKind.i64.wrap (((j + 1 : Nat) : Int) - 1) = (j : Int) := by rw [IntKind.wrap_i64]; omega
      have g0_ : decide (((j + 1 : Nat) : Int) > 0) = true := by first | (simp; done) | (simp; omega)
      have hpos : ((j + 1 : Nat) : Int) > 0 := by omega
      generalize hK : ((j + 1 : Nat) : Int) = K at *
      go_wp2_with fail
      refine wp_region_held (S := Ext wr.drew) (by kernel_rfl) ?_
      change wpAnyH _ _ _ _ _ _ _ _ wr.drew
      have S0 : Ext w0 wr.drew := Below.drew ex
      have HZ := Lib.hid (fun (w' : World) (hw' : Ext wr.drew w') => hw'.cell (show wr.drew.cell? ⟨b, o + j * 2, none⟩ = some (.string z) from cz))
      have A3 := Lib.hid (fun (w' : World) (hw' : Ext wr.drew w') => (At.ext (w := wr.drew) a3 hw'))
      clear cz a3 ex
      have S1 : Ext wr.drew wr.drew := Ext.refl _
      generalize wr.drew = W0 at *
      refine takeS 0 (some 8) (.int .i64 K) rfl rfl (by kernel_rfl) (by kernel_rfl) (by kernel_rfl) (fun _ _ _ h => h) rfl S1 (fun w' hw' => by go_simp) ?_
      simp only [Act.put, List.setIfInBounds_toArray, List.set_cons_zero, List.set_cons_succ]
      refine takeS 1 (some 9) (.bool true) rfl rfl (by kernel_rfl) (by kernel_rfl) (by kernel_rfl) (fun _ _ _ h => h) rfl S1 (fun w' hw' => by go_simp) ?_
      simp only [Act.put, List.setIfInBounds_toArray, List.set_cons_zero, List.set_cons_succ]
      refine takeS 2 (some 10) (.bool true) rfl rfl (by kernel_rfl) (by kernel_rfl) (by kernel_rfl) (fun _ _ _ h => h) rfl S1 (fun w' hw' => by go_simp) ?_
      simp only [Act.put, List.setIfInBounds_toArray, List.set_cons_zero, List.set_cons_succ]
      refine takeS 3 (some 11) (.pointer (some ⟨g0, 0, none⟩)) rfl rfl (by kernel_rfl) (by kernel_rfl) (by kernel_rfl) (fun _ _ _ h => h) rfl S1 (fun w' hw' => by go_simp) ?_
      simp only [Act.put, List.setIfInBounds_toArray, List.set_cons_zero, List.set_cons_succ]
      refine takeS 4 (some 12) (.string p) rfl rfl (by kernel_rfl) (by kernel_rfl) (by kernel_rfl) (fun _ _ _ h => h) rfl S1 (fun w' hw' => by have c0 := (A3.out w' hw').cell 0; go_simp) ?_
      simp only [Act.put, List.setIfInBounds_toArray, List.set_cons_zero, List.set_cons_succ]
      refine takeS 5 (some 13) (.slice (some ⟨b, o, none⟩) n cap) rfl rfl (by kernel_rfl) (by kernel_rfl) (by kernel_rfl) (fun _ _ _ h => h) rfl S1 (fun w' hw' => by go_simp) ?_
      simp only [Act.put, List.setIfInBounds_toArray, List.set_cons_zero, List.set_cons_succ]
      refine takeS 6 (some 14) (.int .i64 K) rfl rfl (by kernel_rfl) (by kernel_rfl) (by kernel_rfl) (fun _ _ _ h => h) rfl S1 (fun w' hw' => by go_simp) ?_
      simp only [Act.put, List.setIfInBounds_toArray, List.set_cons_zero, List.set_cons_succ]
      refine takeS 7 (some 15) (.int .i64 j) rfl rfl (by kernel_rfl) (by kernel_rfl) (by kernel_rfl) (fun _ _ _ h => h) rfl S1 (fun w' hw' => by go_simp) ?_
      simp only [Act.put, List.setIfInBounds_toArray, List.set_cons_zero, List.set_cons_succ]
      refine takeS 8 (some 16) (.pointer (some ⟨b, o + j * 2, none⟩)) rfl rfl (by kernel_rfl) (by kernel_rfl) (by kernel_rfl) (fun _ _ _ h => h) rfl S1 (fun w' hw' => by go_simp) ?_
      simp only [Act.put, List.setIfInBounds_toArray, List.set_cons_zero, List.set_cons_succ]
      refine takeS 9 (some 17) (.pointer (some ⟨b, o + j * 2, none⟩)) rfl rfl (by kernel_rfl) (by kernel_rfl) (by kernel_rfl) (fun _ _ _ h => h) rfl S1 (fun w' hw' => by go_simp) ?_
      simp only [Act.put, List.setIfInBounds_toArray, List.set_cons_zero, List.set_cons_succ]
      refine takeS 10 (some 18) (.string z) rfl rfl (by kernel_rfl) (by kernel_rfl) (by kernel_rfl) (fun _ _ _ h => h) rfl S1 (fun w' hw' => by have := HZ.out w' hw'; go_simp) ?_
      simp only [Act.put, List.setIfInBounds_toArray, List.set_cons_zero, List.set_cons_succ]
      refine nextS 11 rfl (by kernel_rfl) rfl ?_
      refine callS (some 19) rfl 103 #[.string p, .string z] (by go_simp) (fun v w' => (∃ r : Bool, v = .bool r) ∧ Ext W0 w') ((LE.out _ _ _ _ S1).mono fun e w' he => by obtain ⟨⟨r, hr⟩, hx⟩ := he; exact ⟨_, hr, ⟨r, rfl⟩, hx⟩) ?_
      rintro v3 w3 ⟨⟨r, rfl⟩, hS3⟩
      have S3 : Ext w0 w3 := S0.trans hS3
      refine ⟨hS3, ?_⟩
      simp only [Act.put, List.setIfInBounds_toArray, List.set_cons_zero, List.set_cons_succ]
      refine takeS 12 (some 20) (.bool r) rfl rfl (by kernel_rfl) (by kernel_rfl) (by kernel_rfl) (fun _ _ _ h => h) rfl hS3 (fun w' hw' => by go_simp) ?_
      simp only [Act.put, List.setIfInBounds_toArray, List.set_cons_zero, List.set_cons_succ]
      refine wpAnyH_done (by kernel_rfl) ?_ _
      cases r with
      | true =>
        go_wp2
        exact ⟨⟨j, by omega, rfl, S3⟩, by rw [← hK]; simp [intOf]⟩
      | false =>
        have E1 := Lib.hid S3
        generalize w3 = wq at *
        obtain ⟨k, hkk⟩ : ∃ k, k = j + 1 := ⟨_, rfl⟩
        rw [← hkk] at hK hk
        subst hK
        clear S3 HZ A3 S0 S1 hw g0_ hpos i0 i1 hkk hjn
        go_wp2_with fail
        have a1 := A0.out wq E1.out
        have EW := Lib.hid (E0.out.trans E1.out)
        have FIN := Lib.hid (fun (W' : World) (v' : Value) (e1 : Ext wq.drew W') r (hz : ∀ i, v'.ownBlock = some i → Base wq.drew ≤ i) => FIN0.out k hk wq.drew W' v' (EW.out.trans (Ext.drew wq)) e1 r hz)
        have SA := Lib.hid (fun (W' : World) (e1 : Ext wq.drew W') => SA0.out k hk W' ((EW.out.trans (Ext.drew wq)).trans e1))
        have SB := Lib.hid (fun (W' : World) (e1 : Ext wq.drew W') => SB0.out k hk W' ((EW.out.trans (Ext.drew wq)).trans e1))
        have HA := Lib.hid (fun (w' : World) (hw' : Ext wq.drew w') => (At.ext (w := wq.drew) a1 hw'))
        clear a1
        have k0_ : (0 : Int) ≤ (k : Int) := by omega
        have k1_ : (k : Int) ≤ (n : Int) := by omega
        have k2_ : (k : Int) ≤ (cap : Int) := by omega
        have k3_ : (n : Int) ≤ (cap : Int) := by omega
        refine wp_region_held (S := Ext wq.drew) (by kernel_rfl) ?_
        change wpAnyH _ _ _ _ _ _ _ _ wq.drew
        have S0 : Ext wq.drew wq.drew := Ext.refl _
        generalize wq.drew = W0 at *
        refine takeS 1 (some 24) (.slice (some ⟨b, o, none⟩) n cap) rfl rfl (by kernel_rfl) (by kernel_rfl) (by kernel_rfl) (fun _ _ _ h => h) rfl S0 (fun w' hw' => by go_simp) ?_
        simp only [Act.put, List.setIfInBounds_toArray, List.set_cons_zero, List.set_cons_succ]
        refine takeS 2 (some 25) (.int .i64 k) rfl rfl (by kernel_rfl) (by kernel_rfl) (by kernel_rfl) (fun _ _ _ h => h) rfl S0 (fun w' hw' => by go_simp) ?_
        simp only [Act.put, List.setIfInBounds_toArray, List.set_cons_zero, List.set_cons_succ]
        refine takeS 3 (some 26) (.slice (some ⟨b, o, none⟩) k cap) rfl rfl (by kernel_rfl) (by kernel_rfl) (by kernel_rfl) (fun _ _ _ h => h) rfl S0 (fun w' hw' => by go_simp) ?_
        simp only [Act.put, List.setIfInBounds_toArray, List.set_cons_zero, List.set_cons_succ]
        refine takeS 5 (some 28) (.agg #[.string p, .int .i64 f]) rfl rfl (by kernel_rfl) (by kernel_rfl) (by kernel_rfl) (fun _ _ _ h => h) rfl S0 (fun w' hw' => by have c0 := (HA.out w' hw').cell 0; have c1 := (HA.out w' hw').cell 1; go_simp) ?_
        simp only [Act.put, List.setIfInBounds_toArray, List.set_cons_zero, List.set_cons_succ]
        refine takeS 8 (some 31) (.slice (some ⟨b, o, none⟩) n cap) rfl rfl (by kernel_rfl) (by kernel_rfl) (by kernel_rfl) (fun _ _ _ h => h) rfl S0 (fun w' hw' => by go_simp) ?_
        simp only [Act.put, List.setIfInBounds_toArray, List.set_cons_zero, List.set_cons_succ]
        refine takeS 9 (some 32) (.int .i64 k) rfl rfl (by kernel_rfl) (by kernel_rfl) (by kernel_rfl) (fun _ _ _ h => h) rfl S0 (fun w' hw' => by go_simp) ?_
        simp only [Act.put, List.setIfInBounds_toArray, List.set_cons_zero, List.set_cons_succ]
        refine takeS 10 (some 33) (backV 2 (some ⟨b, o, none⟩) n cap k) rfl rfl (by kernel_rfl) (by kernel_rfl) (by kernel_rfl) (fun _ _ _ h => h) rfl S0 (fun w' hw' => by unfold backV; by_cases hc_ : cap = k <;> go_simp) ?_
        simp only [Act.put, List.setIfInBounds_toArray, List.set_cons_zero, List.set_cons_succ]
        refine nextR2 0 6 rfl rfl (by kernel_rfl) rfl rfl ?_ ?_
        · skip
          refine (makeR (some 23) rfl (.slice (some ⟨W0.heap.size, 0, none⟩) 0 0) (w1 := W0.alloc (.cells #[] 111)) (by go_simp) ?_)
          simp only [Act.put, List.setIfInBounds_toArray, List.set_cons_zero, List.set_cons_succ]
          have x_ : Ext W0 (W0.alloc (.cells #[] 111)) := Ext.alloc W0 _
          have z121 : Row (W0.alloc (.cells #[] 111)) 111 2 (.slice (some ⟨W0.heap.size, 0, none⟩) 0 0) 0 [] := empty_row W0 111 2
          have hz122 : ∀ i, (Value.slice (some ⟨W0.heap.size, 0, none⟩) 0 0).ownBlock = some i → Base W0 ≤ i := fun i hi => by have q_ : some W0.heap.size = some i := hi; injection q_ with q_; have := S0.size; unfold Base; omega
          have S119 := S0.trans x_
          clear x_
          generalize W0.alloc (.cells #[] 111) = W118 at *
          generalize W0.heap.size = g120 at *
          refine ⟨S119, ?_⟩
          refine nextR2 4 6 rfl rfl (by kernel_rfl) rfl rfl ?_ ?_
          · skip
            obtain ⟨v134, W127, h131, z129, gr132⟩ := row_copy 59 Tryz.underlying59 info113 rfl z121 (SA.out W118 S119) (by omega) (by omega)
            have ff133 := Grew.fresh gr132 S119 hz122
            have S128 := ff133.1
            have hz130 : ∀ i, v134.ownBlock = some i → Base W0 ≤ i := ff133.2
            clear ff133
            clear gr132
            obtain ⟨ad135, cp136, ev_, -⟩ := z129.shape
            subst ev_
            refine (appR (some 27) rfl (.tmp 23) (.tmp 26) 59 59 rfl _ _ rfl rfl _ _ h131 ?_)
            simp only [Act.put, List.setIfInBounds_toArray, List.set_cons_zero, List.set_cons_succ]
            clear h131 z121 hz122
            refine ⟨S128, ?_⟩
            refine nextS 6 rfl (by kernel_rfl) rfl (makeR (some 29) rfl (.slice (some ⟨W127.heap.size, 0, none⟩) 1 1) (w1 := W127.alloc (.cells #[.string p, .int .i64 f] 111)) (by go_simp) ?_)
            simp only [Act.put, List.setIfInBounds_toArray, List.set_cons_zero, List.set_cons_succ]
            have x_ : Ext W127 (W127.alloc (.cells #[.string p, .int .i64 f] 111)) := Ext.alloc W127 _
            have a145 : At (W127.alloc (.cells #[.string p, .int .i64 f] 111)) W127.heap.size #[.string p, .int .i64 f] 111 := At.new W127 _ _
            have ne146 : ∀ i, (.slice ad135 (0 + k) cp136 : Value).ownBlock = some i → i ≠ W127.heap.size := fun i hi => by have := z129.lt i hi; omega
            replace z129 := z129.ext x_
            have S143 := S128.trans x_
            clear x_
            generalize W127.alloc (.cells #[.string p, .int .i64 f] 111) = W142 at *
            generalize W127.heap.size = g144 at *
            refine ⟨S143, ?_⟩
            obtain ⟨v154, W147, h151, z149, gr152⟩ := row_copy 59 Tryz.underlying59 info113 rfl z129 (Src.ofSlice W142 Tryz.underlying59 ⟨g144, 0, none⟩ 1 1 [.string p, .int .i64 f] rfl (fun q u hu => by rw [Addr.add_lit, Nat.zero_add, a145.cell, ← hu]; simp) (by simp [Value.oneCell'])) (by omega) (by omega)
            have ff153 := Grew.fresh gr152 S143 hz130
            have S148 := ff153.1
            have hz150 : ∀ i, v154.ownBlock = some i → Base W0 ≤ i := ff153.2
            clear ff153
            clear gr152
            obtain ⟨ad155, cp156, ev_, -⟩ := z149.shape
            subst ev_
            refine nextS 7 rfl (by kernel_rfl) rfl (appR (some 30) rfl (.tmp 27) (.tmp 29) 59 59 rfl _ _ rfl rfl _ _ h151 ?_)
            simp only [Act.put, List.setIfInBounds_toArray, List.set_cons_zero, List.set_cons_succ]
            clear h151 z129 hz130
            refine ⟨S148, ?_⟩
            obtain ⟨v164, W157, h161, z159, gr162⟩ := row_copy 59 Tryz.underlying59 info113 rfl z149 (SB.out W147 S148) (by omega) (by omega)
            have ff163 := Grew.fresh gr162 S148 hz150
            have S158 := ff163.1
            have hz160 : ∀ i, v164.ownBlock = some i → Base W0 ≤ i := ff163.2
            clear ff163
            clear gr162
            obtain ⟨ad165, cp166, ev_, -⟩ := z159.shape
            subst ev_
            refine nextS 11 rfl (by kernel_rfl) rfl (appR (some 34) rfl (.tmp 30) (.tmp 33) 59 59 rfl _ _ rfl rfl _ _ h161 ?_)
            simp only [Act.put, List.setIfInBounds_toArray, List.set_cons_zero, List.set_cons_succ]
            clear h161 z149 hz150
            refine ⟨S158, ?_⟩
            refine takeS 12 (some 4) (.slice ad165 (((0 + k) + 1) + (n - k)) cp166) rfl rfl (by kernel_rfl) (by kernel_rfl) (by kernel_rfl) (fun _ _ _ h => h) rfl S158 (fun w' hw' => by go_simp) ?_
            simp only [Act.put, List.setIfInBounds_toArray, List.set_cons_zero, List.set_cons_succ]
            refine wpAnyH_done (by kernel_rfl) ?_ _
            go_wp2
            go_ret
            exact FIN.out _ _ S158 z159 hz160
          · skip
            refine (makeR (some 29) rfl (.slice (some ⟨W118.heap.size, 0, none⟩) 1 1) (w1 := W118.alloc (.cells #[.string p, .int .i64 f] 111)) (by go_simp) ?_)
            simp only [Act.put, List.setIfInBounds_toArray, List.set_cons_zero, List.set_cons_succ]
            have x_ : Ext W118 (W118.alloc (.cells #[.string p, .int .i64 f] 111)) := Ext.alloc W118 _
            have a140 : At (W118.alloc (.cells #[.string p, .int .i64 f] 111)) W118.heap.size #[.string p, .int .i64 f] 111 := At.new W118 _ _
            have ne141 : ∀ i, (.slice (some ⟨g120, 0, none⟩) 0 0 : Value).ownBlock = some i → i ≠ W118.heap.size := fun i hi => by have := z121.lt i hi; omega
            replace z121 := z121.ext x_
            have S138 := S119.trans x_
            clear x_
            generalize W118.alloc (.cells #[.string p, .int .i64 f] 111) = W137 at *
            generalize W118.heap.size = g139 at *
            refine ⟨S138, ?_⟩
            obtain ⟨v174, W167, h171, z169, gr172⟩ := row_copy 59 Tryz.underlying59 info113 rfl z121 (SA.out W137 S138) (by omega) (by omega)
            have ff173 := Grew.fresh gr172 S138 hz122
            have S168 := ff173.1
            have hz170 : ∀ i, v174.ownBlock = some i → Base W0 ≤ i := ff173.2
            clear ff173
            have ne175 := Grew.ne gr172 ne141 a140.lt
            have a_ := gr172.chg.at a140 (fun q => ne141 _ q rfl)
            clear a140
            have a140 := a_
            clear a_
            clear gr172
            obtain ⟨ad176, cp177, ev_, -⟩ := z169.shape
            subst ev_
            refine nextS 4 rfl (by kernel_rfl) rfl (appR (some 27) rfl (.tmp 23) (.tmp 26) 59 59 rfl _ _ rfl rfl _ _ h171 ?_)
            simp only [Act.put, List.setIfInBounds_toArray, List.set_cons_zero, List.set_cons_succ]
            clear h171 z121 hz122
            refine ⟨S168, ?_⟩
            obtain ⟨v185, W178, h182, z180, gr183⟩ := row_copy 59 Tryz.underlying59 info113 rfl z169 (Src.ofSlice W167 Tryz.underlying59 ⟨g139, 0, none⟩ 1 1 [.string p, .int .i64 f] rfl (fun q u hu => by rw [Addr.add_lit, Nat.zero_add, a140.cell, ← hu]; simp) (by simp [Value.oneCell'])) (by omega) (by omega)
            have ff184 := Grew.fresh gr183 S168 hz170
            have S179 := ff184.1
            have hz181 : ∀ i, v185.ownBlock = some i → Base W0 ≤ i := ff184.2
            clear ff184
            clear gr183
            obtain ⟨ad186, cp187, ev_, -⟩ := z180.shape
            subst ev_
            refine nextS 7 rfl (by kernel_rfl) rfl (appR (some 30) rfl (.tmp 27) (.tmp 29) 59 59 rfl _ _ rfl rfl _ _ h182 ?_)
            simp only [Act.put, List.setIfInBounds_toArray, List.set_cons_zero, List.set_cons_succ]
            clear h182 z169 hz170
            refine ⟨S179, ?_⟩
            obtain ⟨v195, W188, h192, z190, gr193⟩ := row_copy 59 Tryz.underlying59 info113 rfl z180 (SB.out W178 S179) (by omega) (by omega)
            have ff194 := Grew.fresh gr193 S179 hz181
            have S189 := ff194.1
            have hz191 : ∀ i, v195.ownBlock = some i → Base W0 ≤ i := ff194.2
            clear ff194
            clear gr193
            obtain ⟨ad196, cp197, ev_, -⟩ := z190.shape
            subst ev_
            refine nextS 11 rfl (by kernel_rfl) rfl (appR (some 34) rfl (.tmp 30) (.tmp 33) 59 59 rfl _ _ rfl rfl _ _ h192 ?_)
            simp only [Act.put, List.setIfInBounds_toArray, List.set_cons_zero, List.set_cons_succ]
            clear h192 z180 hz181
            refine ⟨S189, ?_⟩
            refine takeS 12 (some 4) (.slice ad196 (((0 + k) + 1) + (n - k)) cp197) rfl rfl (by kernel_rfl) (by kernel_rfl) (by kernel_rfl) (fun _ _ _ h => h) rfl S189 (fun w' hw' => by go_simp) ?_
            simp only [Act.put, List.setIfInBounds_toArray, List.set_cons_zero, List.set_cons_succ]
            refine wpAnyH_done (by kernel_rfl) ?_ _
            go_wp2
            go_ret
            exact FIN.out _ _ S189 z190 hz191
        · skip
          refine (makeR (some 29) rfl (.slice (some ⟨W0.heap.size, 0, none⟩) 1 1) (w1 := W0.alloc (.cells #[.string p, .int .i64 f] 111)) (by go_simp) ?_)
          simp only [Act.put, List.setIfInBounds_toArray, List.set_cons_zero, List.set_cons_succ]
          have x_ : Ext W0 (W0.alloc (.cells #[.string p, .int .i64 f] 111)) := Ext.alloc W0 _
          have a126 : At (W0.alloc (.cells #[.string p, .int .i64 f] 111)) W0.heap.size #[.string p, .int .i64 f] 111 := At.new W0 _ _
          have S124 := S0.trans x_
          clear x_
          generalize W0.alloc (.cells #[.string p, .int .i64 f] 111) = W123 at *
          generalize W0.heap.size = g125 at *
          refine ⟨S124, ?_⟩
          refine nextS 0 rfl (by kernel_rfl) rfl (makeR (some 23) rfl (.slice (some ⟨W123.heap.size, 0, none⟩) 0 0) (w1 := W123.alloc (.cells #[] 111)) (by go_simp) ?_)
          simp only [Act.put, List.setIfInBounds_toArray, List.set_cons_zero, List.set_cons_succ]
          have x_ : Ext W123 (W123.alloc (.cells #[] 111)) := Ext.alloc W123 _
          have z201 : Row (W123.alloc (.cells #[] 111)) 111 2 (.slice (some ⟨W123.heap.size, 0, none⟩) 0 0) 0 [] := empty_row W123 111 2
          have hz202 : ∀ i, (Value.slice (some ⟨W123.heap.size, 0, none⟩) 0 0).ownBlock = some i → Base W0 ≤ i := fun i hi => by have q_ : some W123.heap.size = some i := hi; injection q_ with q_; have := S124.size; unfold Base; omega
          have ne203 : ∀ i, (Value.slice (some ⟨W123.heap.size, 0, none⟩) 0 0).ownBlock = some i → i ≠ g125 := fun i hi => by have q_ : some W123.heap.size = some i := hi; injection q_ with q_; have := a126.lt; omega
          replace a126 := a126.ext x_
          have S199 := S124.trans x_
          clear x_
          generalize W123.alloc (.cells #[] 111) = W198 at *
          generalize W123.heap.size = g200 at *
          refine ⟨S199, ?_⟩
          obtain ⟨v211, W204, h208, z206, gr209⟩ := row_copy 59 Tryz.underlying59 info113 rfl z201 (SA.out W198 S199) (by omega) (by omega)
          have ff210 := Grew.fresh gr209 S199 hz202
          have S205 := ff210.1
          have hz207 : ∀ i, v211.ownBlock = some i → Base W0 ≤ i := ff210.2
          clear ff210
          have ne212 := Grew.ne gr209 ne203 a126.lt
          have a_ := gr209.chg.at a126 (fun q => ne203 _ q rfl)
          clear a126
          have a126 := a_
          clear a_
          clear gr209
          obtain ⟨ad213, cp214, ev_, -⟩ := z206.shape
          subst ev_
          refine nextS 4 rfl (by kernel_rfl) rfl (appR (some 27) rfl (.tmp 23) (.tmp 26) 59 59 rfl _ _ rfl rfl _ _ h208 ?_)
          simp only [Act.put, List.setIfInBounds_toArray, List.set_cons_zero, List.set_cons_succ]
          clear h208 z201 hz202
          refine ⟨S205, ?_⟩
          obtain ⟨v222, W215, h219, z217, gr220⟩ := row_copy 59 Tryz.underlying59 info113 rfl z206 (Src.ofSlice W204 Tryz.underlying59 ⟨g125, 0, none⟩ 1 1 [.string p, .int .i64 f] rfl (fun q u hu => by rw [Addr.add_lit, Nat.zero_add, a126.cell, ← hu]; simp) (by simp [Value.oneCell'])) (by omega) (by omega)
          have ff221 := Grew.fresh gr220 S205 hz207
          have S216 := ff221.1
          have hz218 : ∀ i, v222.ownBlock = some i → Base W0 ≤ i := ff221.2
          clear ff221
          clear gr220
          obtain ⟨ad223, cp224, ev_, -⟩ := z217.shape
          subst ev_
          refine nextS 7 rfl (by kernel_rfl) rfl (appR (some 30) rfl (.tmp 27) (.tmp 29) 59 59 rfl _ _ rfl rfl _ _ h219 ?_)
          simp only [Act.put, List.setIfInBounds_toArray, List.set_cons_zero, List.set_cons_succ]
          clear h219 z206 hz207
          refine ⟨S216, ?_⟩
          obtain ⟨v232, W225, h229, z227, gr230⟩ := row_copy 59 Tryz.underlying59 info113 rfl z217 (SB.out W215 S216) (by omega) (by omega)
          have ff231 := Grew.fresh gr230 S216 hz218
          have S226 := ff231.1
          have hz228 : ∀ i, v232.ownBlock = some i → Base W0 ≤ i := ff231.2
          clear ff231
          clear gr230
          obtain ⟨ad233, cp234, ev_, -⟩ := z227.shape
          subst ev_
          refine nextS 11 rfl (by kernel_rfl) rfl (appR (some 34) rfl (.tmp 30) (.tmp 33) 59 59 rfl _ _ rfl rfl _ _ h229 ?_)
          simp only [Act.put, List.setIfInBounds_toArray, List.set_cons_zero, List.set_cons_succ]
          clear h229 z217 hz218
          refine ⟨S226, ?_⟩
          refine takeS 12 (some 4) (.slice ad233 (((0 + k) + 1) + (n - k)) cp234) rfl rfl (by kernel_rfl) (by kernel_rfl) (by kernel_rfl) (fun _ _ _ h => h) rfl S226 (fun w' hw' => by go_simp) ?_
          simp only [Act.put, List.setIfInBounds_toArray, List.set_cons_zero, List.set_cons_succ]
          refine wpAnyH_done (by kernel_rfl) ?_ _
          go_wp2
          go_ret
          exact FIN.out _ _ S226 z227 hz228
end Go.Proofs.YtbneedmfpldpfaaGreatDoor
