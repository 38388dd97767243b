/- The contracts of isGood and Bad, Leaf and Bad of the document, Ints. -/
import Derived.Test.YtdohngjhfonifaaDoorQa
import Derived.Test.YtdohngjhfonifaaDoorWv
import Derived.BigQuiet
namespace Go.Proofs.YtdohngjhfonifaaDoor
open Go.RowKit Go.Sha
set_option linter.unusedSimpArgs false

def RI : World → Value → Int → Nat → Prop := fun _ v a _ => v = .int .i64 a
theorem ri_kept : Kept RI := ⟨fun h _ _ => h, fun h _ => h⟩
abbrev OwnI := OwnG (α := Int) 3 RI
theorem u3zero : (Tryd.prog.info? 3).map (fun i => (i.zero, i.size, i.bytes)) = some (some (.int .i64 0), 1, 8) := by kernel_rfl
/-- A slice of numbers. -/
def IR (w : World) (v : Value) (l : List Int) : Prop := ∃ ad cap pb po, v = .slice ad l.length cap ∧ (0 < l.length → ad = some ⟨pb, po, none⟩) ∧ ∀ j a, l[j]? = some a → w.cell? ⟨pb, po + j, none⟩ = some (.int .i64 a)
theorem ir_ext {w w' : World} {v : Value} {l : List Int} (h : IR w v l) (he : Ext w w') : IR w' v l := by
  obtain ⟨ad, cap, pb, po, h1, h2, h3⟩ := h
  exact ⟨ad, cap, pb, po, h1, h2, fun j a hj => by rw [Below.cell (p := ⟨pb, po + j, none⟩) he (World.block_lt_of_cell? w _ (h3 j a hj))]; exact h3 j a hj⟩
theorem ir_len {w : World} {v : Value} {l : List Int} (h : IR w v l) : ∃ ad cap, v = .slice ad l.length cap := by
  obtain ⟨ad, cap, _, _, h, _⟩ := h
  exact ⟨ad, cap, h⟩
theorem own_ir {w : World} {base : Nat} {v : Value} {ps : List (Value × Int)} (h : OwnI w base v ps (fun _ => False)) : IR w v (ps.map (·.2)) := by
  obtain ⟨ad, cap, pb, po, rfl, h1, _, h3⟩ := h.cells w.heap.size (Or.inr (Nat.le_refl _))
  refine ⟨ad, cap, pb, po, by simp, by simpa using h1, fun j a hj => ?_⟩
  rw [List.getElem?_map] at hj
  obtain ⟨x, hx, rfl⟩ := Option.map_eq_some_iff.1 hj
  obtain ⟨c, r⟩ := h3 j x hx
  rw [c]; exact congrArg some r
def DPost (w : World) (l : List Int) (e : Ending) (w' : World) : Prop := ∃ v, e = .returned v ∧ Ext w w' ∧ IR w' v l

set_option maxHeartbeats 1000000 in
theorem ints_any (v u : Value) (l : List Int) (w : World) (hv : IR w v l) (hu : IR w u l) (hl : l.length ≤ 1000000000) : Calls Tryd.prog 25 #[v, u] w fun e w' => e = .returned (.bool true) ∧ Ext w w' := by
  obtain ⟨adv, capv, ev⟩ := ir_len hv
  subst ev
  obtain ⟨adu, capu, eu⟩ := ir_len hu
  subst eu
  obtain ⟨N, hN⟩ : ∃ N, N = l.length := ⟨_, rfl⟩
  have t0 : ((N : Int) == (N : Int)) = true := by simp
  have HV := Lib.hid hv; clear hv
  have HU := Lib.hid hu; clear hu
  rw [← hN] at HV HU hl ⊢
  have HN := Lib.hid hN; clear hN
  go_enter Tryd.func25, Tryd.ntmps25
  go_wp2
  go_loopw [5] (fun i wr => InvC w N i wr) (fun i _ => N - (intOf i).toNat)
  case atStart => exact ⟨0, by omega, rfl, Ext.refl w⟩
  case round =>
    obtain ⟨k, hk, rfl, ex⟩ := hrel
    by_cases hlt : k < N
    · have i0 : (k : Int) < (N : Int) := by omega
      have i1 : (0 : Int) ≤ (k : Int) := by omega
      obtain ⟨m1, hm1⟩ : ∃ m, l[k]? = some m := ⟨_, List.getElem?_eq_getElem (by rw [← HN.out]; exact hlt)⟩
      obtain ⟨_, _, pb, po, ev1, g1, hc1⟩ := HV.out
      obtain ⟨_, _, qb, qo, ev2, g2, hc2⟩ := HU.out
      injection ev1 with a1 _ a2
      injection ev2 with a3 _ a4
      have g1' := g1 (by rw [← HN.out]; omega)
      have g2' := g2 (by rw [← HN.out]; omega)
      subst a1 a2 a3 a4 g1' g2'
      have c1 := hc1 k m1 hm1
      have c2 := hc2 k m1 hm1
      have c1' : wr.cell? ⟨pb, po + k, none⟩ = some (.int .i64 m1) := by rw [Below.cell (p := ⟨pb, po + k, none⟩) ex (World.block_lt_of_cell? w _ c1)]; exact c1
      have c2' : wr.cell? ⟨qb, qo + k, none⟩ = some (.int .i64 m1) := by rw [Below.cell (p := ⟨qb, qo + k, none⟩) ex (World.block_lt_of_cell? w _ c2)]; exact c2
      clear hc1 hc2 c1 c2 HV HU hm1 g1 g2
      go_wp2
      go_quiet (fail)
      go_wp2
      refine ⟨⟨k + 1, by omega, by go_num, belowN ex _⟩, by simp [intOf]; omega⟩
    · have i0 : ¬ ((k : Int) < (N : Int)) := by omega
      have d0 : decide ((k : Int) < (N : Int)) = false := by simp; omega
      clear hlt
      go_wp2
      go_ret
      exact ⟨rfl, ex⟩

def GPost (w : World) (b : Bool) (e : Ending) (w' : World) : Prop := e = .returned (.bool b) ∧ Ext w w'

set_option maxHeartbeats 4000000 in
set_option maxRecDepth 100000 in
theorem isGood_any (v : Value) (one : List Int) (i : Nat) (vl : Value) (leaves : List (List Int)) (w : World) (hK : KAt w) (hs : Src w v one w.heap.size) (hl : LR w vl leaves w.heap.size) (h1 : one.length ≤ 1000000000) (hi : i ≤ 1000000000) (hll : leaves.length ≤ 1000000000) :
    Calls Tryd.prog 80 #[v, .int .i64 i, vl] w (GPost w (goodL one i leaves)) := by
  obtain ⟨ad, cap, ev⟩ := hs.len
  subst ev
  obtain ⟨adl, capl, ev⟩ := hl.len
  subst ev
  obtain ⟨N, hN⟩ : ∃ N, N = leaves.length := ⟨_, rfl⟩
  have HN := Lib.hid hN
  obtain ⟨n, hn⟩ : ∃ n, n = one.length := ⟨_, rfl⟩
  have Hn := Lib.hid hn
  rw [← hn] at hs h1 ⊢
  rw [← hN] at hl hll ⊢
  clear hn hN
  by_cases hlt : i < N
  · have hl' := hl
    rw [HN.out] at hl'
    obtain ⟨cap1, pb, po, ev1, _, hc1⟩ := lr_at hl' (by rw [← HN.out]; omega)
    injection ev1 with q1 _ q2
    subst q1 q2
    obtain ⟨m1, hm1⟩ : ∃ m, leaves[i]? = some m := ⟨_, List.getElem?_eq_getElem (by rw [← HN.out]; exact hlt)⟩
    obtain ⟨x1, c1, s1⟩ := hc1 i m1 hm1
    have hc : ∀ w', Ext w w' → w'.cell? ⟨pb, po + i, none⟩ = some x1 := fun w' h => by rw [Below.cell (p := ⟨pb, po + i, none⟩) h (World.block_lt_of_cell? w _ c1)]; exact c1
    have HC := Lib.hid hc
    have hgd : goodL one i leaves = eqS (leafL one) m1 := by
      unfold goodL
      rw [hm1, ← HN.out]
      simp [hlt]
    rw [hgd]
    clear hgd hc hc1 hm1 hl hl' c1
    obtain ⟨E, hE⟩ : ∃ E, E = eqS (leafL one) m1 := ⟨_, rfl⟩
    rw [← hE]
    have HE := Lib.hid hE; clear hE
    have i0 : (i : Int) < (N : Int) := by omega
    have i1 : (0 : Int) ≤ (i : Int) := by omega
    have HS := Lib.hid hs; clear hs
    go_enter Tryd.func80, Tryd.ntmps80
    go_wp2
    refine wp_region_held (S := Ext w) (by kernel_rfl) ?_
    change wpAnyH _ _ _ _ _ _ _ _ w.drew
    have S0 : Ext w w.drew := Below.drew (Below.refl _ _)
    have sV := HS.out.now S0
    have sX := s1.now S0
    have kW := hK.below S0 hK.lt
    clear s1 hK
    generalize w.drew = W at *
    refine takeS 0 (some 7) (.int .i64 (i : Int)) rfl rfl (by kernel_rfl) (by kernel_rfl) (by kernel_rfl) (fun _ _ _ h => h) rfl S0 (fun w' hw' => by go_simp) ?_
    simp only [Act.put, List.setIfInBounds_toArray, List.set_cons_zero, List.set_cons_succ]
    refine takeS 1 (some 8) (.slice (some ⟨pb, po, none⟩) N capl) rfl rfl (by kernel_rfl) (by kernel_rfl) (by kernel_rfl) (fun _ _ _ h => h) rfl S0 (fun w' hw' => by go_simp) ?_
    simp only [Act.put, List.setIfInBounds_toArray, List.set_cons_zero, List.set_cons_succ]
    refine takeS 2 (some 9) (.int .i64 (N : Int)) rfl rfl (by kernel_rfl) (by kernel_rfl) (by kernel_rfl) (fun _ _ _ h => h) rfl S0 (fun w' hw' => by go_simp) ?_
    simp only [Act.put, List.setIfInBounds_toArray, List.set_cons_zero, List.set_cons_succ]
    refine takeS 3 (some 10) (.bool true) rfl rfl (by kernel_rfl) (by kernel_rfl) (by kernel_rfl) (fun _ _ _ h => h) rfl S0 (fun w' hw' => by go_simp) ?_
    simp only [Act.put, List.setIfInBounds_toArray, List.set_cons_zero, List.set_cons_succ]
    refine takeS 4 (some 11) (.bool true) rfl rfl (by kernel_rfl) (by kernel_rfl) (by kernel_rfl) (fun _ _ _ h => h) rfl S0 (fun w' hw' => by go_simp) ?_
    simp only [Act.put, List.setIfInBounds_toArray, List.set_cons_zero, List.set_cons_succ]
    refine takeS 5 (some 12) (.slice ad n cap) rfl rfl (by kernel_rfl) (by kernel_rfl) (by kernel_rfl) (fun _ _ _ h => h) rfl S0 (fun w' hw' => by go_simp) ?_
    simp only [Act.put, List.setIfInBounds_toArray, List.set_cons_zero, List.set_cons_succ]
    refine takeS 7 (some 14) (.slice (some ⟨pb, po, none⟩) N capl) rfl rfl (by kernel_rfl) (by kernel_rfl) (by kernel_rfl) (fun _ _ _ h => h) rfl S0 (fun w' hw' => by go_simp) ?_
    simp only [Act.put, List.setIfInBounds_toArray, List.set_cons_zero, List.set_cons_succ]
    refine takeS 8 (some 15) (.int .i64 (i : Int)) rfl rfl (by kernel_rfl) (by kernel_rfl) (by kernel_rfl) (fun _ _ _ h => h) rfl S0 (fun w' hw' => by go_simp) ?_
    simp only [Act.put, List.setIfInBounds_toArray, List.set_cons_zero, List.set_cons_succ]
    refine takeS 9 (some 16) (.pointer (some ⟨pb, po + i, none⟩)) rfl rfl (by kernel_rfl) (by kernel_rfl) (by kernel_rfl) (fun _ _ _ h => h) rfl S0 (fun w' hw' => by go_simp) ?_
    simp only [Act.put, List.setIfInBounds_toArray, List.set_cons_zero, List.set_cons_succ]
    refine takeS 10 (some 17) (x1) rfl rfl (by kernel_rfl) (by kernel_rfl) (by kernel_rfl) (fun _ _ _ h => h) rfl S0 (fun w' hw' => by have cc := HC.out w' hw'; go_simp) ?_
    simp only [Act.put, List.setIfInBounds_toArray, List.set_cons_zero, List.set_cons_succ]
    refine nextS 6 rfl (by kernel_rfl) rfl (callS (some 13) rfl 63 #[.slice ad n cap] (by go_simp) (fun v w' => Ext W w' ∧ OwnB w' W.heap.size v (leafL one)) ((leaf_any _ one W kW sV (by rw [← Hn.out]; exact h1)).mono fun _ _ he => he) ?_)
    rintro v2 W2 ⟨e2, o2⟩
    simp only [Act.put, List.setIfInBounds_toArray, List.set_cons_zero, List.set_cons_succ]
    have S2 : Ext w W2 := S0.trans e2
    refine ⟨S2, ?_⟩
    refine nextS 11 rfl (by kernel_rfl) rfl (callS (some 18) rfl 72 #[v2, x1] (by go_simp) (fun v w' => v = .bool E ∧ W2 = w') ((beq_any v2 x1 (leafL one) m1 W2 (o2.srcs _ (Or.inr (Nat.le_refl _))) (sX.now e2)).mono fun _ _ he => ⟨_, by rw [HE.out]; exact he.1, rfl, he.2⟩) ?_)
    rintro v3 W3 ⟨rfl, rfl⟩
    simp only [Act.put, List.setIfInBounds_toArray, List.set_cons_zero, List.set_cons_succ]
    refine ⟨S2, ?_⟩
    refine takeS 12 (some 19) (.bool E) rfl rfl (by kernel_rfl) (by kernel_rfl) (by kernel_rfl) (fun _ _ _ h => h) rfl S2 (fun w' hw' => by go_simp) ?_
    simp only [Act.put, List.setIfInBounds_toArray, List.set_cons_zero, List.set_cons_succ]
    refine takeS 13 (some 6) (.bool E) rfl rfl (by kernel_rfl) (by kernel_rfl) (by kernel_rfl) (fun _ _ _ h => h) rfl S2 (fun w' hw' => by go_simp) ?_
    simp only [Act.put, List.setIfInBounds_toArray, List.set_cons_zero, List.set_cons_succ]
    refine wpAnyH_done (by kernel_rfl) ?_ _
    go_wp2
    go_ret
    exact ⟨rfl, S2⟩
  · have hgd : goodL one i leaves = false := by
      unfold goodL
      rw [← HN.out]
      simp [hlt]
    rw [hgd]
    have d0 : decide ((i : Int) < (N : Int)) = false := by simp; omega
    have d1 : decide (i < N) = false := by simpa using hlt
    have i0 : ¬ ((i : Int) < (N : Int)) := by omega
    clear hgd hl hs hlt
    go_enter Tryd.func80, Tryd.ntmps80
    go_wp2
    go_quiet (fail)
    go_wp2
    go_ret
    exact ⟨rfl, belowN (Ext.refl w) _⟩

def InvBad (w : World) (m : List Int) (B : Int) (leaves : List (List Int)) (n : Nat) (l i : Value) (wr : World) : Prop :=
  ∃ (k : Nat) (ps : List (Value × Int)), k ≤ n ∧ i = .int .i64 k ∧ ps.length ≤ k ∧ ps.map (·.2) = badN m B leaves k ∧ OwnI wr w.heap.size l ps (fun _ => False) ∧ Ext w wr

set_option maxHeartbeats 4000000 in
theorem bad_any (v : Value) (m : List Int) (B : Int) (vl : Value) (leaves : List (List Int)) (w : World) (hK : KAt w) (hs : Src w v m w.heap.size) (hl : LR w vl leaves w.heap.size) (hm : m.length ≤ 1048576) (hll : leaves.length ≤ 1000000000) :
    Calls Tryd.prog 58 #[v, .int .i64 B, vl] w (DPost w (badL m B leaves)) := by
  obtain ⟨ad, cap, ev⟩ := hs.len
  subst ev
  obtain ⟨n, hn⟩ : ∃ n : Nat, cntL m.length B = n := Int.eq_ofNat_of_zero_le (cntL_nonneg _ _)
  have hnb : n ≤ 1048576 := by have := cntL_le m.length B; omega
  have hbl : badL m B leaves = badN m B leaves n := by rw [badL, hn, Int.toNat_natCast]
  rw [hbl]
  clear hbl
  go_enter Tryd.func58, Tryd.ntmps58
  go_wp2_with fail
  refine (cntM m.length B w).mono ?_
  rintro e w' ⟨rfl, rfl⟩
  rw [hn]
  have Hn := Lib.hid hn; clear hn
  go_wp2
  go_loopw [7, 13] (fun l i wr => InvBad w m B leaves n l i wr) (fun _ i _ => n - (intOf i).toNat)
  case atStart => exact ⟨0, [], by omega, rfl, by simp, by simp [badN], OwnG.nil _ _ _ _ _, Ext.refl w⟩
  case round =>
    obtain ⟨k, ps, hk, rfl, hpl, hps, ow, ex⟩ := hrel
    obtain ⟨adl, capl, el⟩ := ow.len
    subst el
    obtain ⟨q, hq⟩ : ∃ q, q = ps.length := ⟨_, rfl⟩
    rw [← hq] at ow hpl ⊢
    have Hq := Lib.hid hq; clear hq
    by_cases hlt : k < n
    · have i0 : (k : Int) < (n : Int) := by omega
      have hds := badN_succ m B leaves k
      rw [← hps] at hds
      have hbb : badB m B leaves k = !goodL (blockT m B k) k leaves := rfl
      obtain ⟨E, hE⟩ : ∃ E, E = goodL (blockT m B k) k leaves := ⟨_, rfl⟩
      rw [← hE] at hbb
      rw [hbb] at hds
      have HE := Lib.hid hE; clear hE hbb
      have hsr := hs.now ex
      have hlr := hl.now ex
      have kr := hK.below ex hK.lt
      have hbt := blockT_length m B k
      have hbt2 : (blockT m B k).length ≤ 4096 := by
        obtain ⟨_, h2, _⟩ := cnt_lt m.length B k (by omega) (by rw [Hn.out]; omega)
        omega
      go_wp2_with fail
      refine (block_any _ m B k wr hsr hm).mono ?_
      rintro e w2 ⟨v2, rfl, e2, o2⟩
      go_wp2_with fail
      refine (isGood_any v2 _ k vl leaves w2 (kr.below e2 kr.lt) (o2.srcs _ (Or.inr (Nat.le_refl _))) (hlr.now e2) (by omega) (by omega) hll).mono ?_
      rintro e w3 ⟨rfl, e3⟩
      rw [← HE.out]
      have S0 : Ext w w3 := (ex.trans e2).trans e3
      have ow0 : OwnI w3 w.heap.size (.slice adl q capl) ps (fun _ => False) := ow.ext ri_kept (e2.trans e3)
      clear ow ex o2 e2 e3 hsr hlr kr
      cases E with
      | true =>
        rw [show (!true) = false from rfl] at hds
        have hds' : badN m B leaves (k + 1) = ps.map (·.2) := by rw [hds]; simp
        have Hds := Lib.hid hds'; clear hds hds'
        go_wp2
        exact ⟨⟨k + 1, ps, by omega, by go_num, by have := Hq.out; omega, Hds.out.symm, ow0, S0⟩, by simp [intOf]; omega⟩
      | false =>
        rw [show (!false) = true from rfl] at hds
        have hds' : badN m B leaves (k + 1) = ps.map (·.2) ++ [(k : Int)] := by rw [hds]; simp
        have Hds := Lib.hid hds'; clear hds hds'
        have cI := cell_one w3 (.int .i64 (k : Int)) 3
        have S3 : Ext w (w3.alloc (.cells #[.int .i64 (k : Int)] 3)) := Ext.trans S0 (Ext.alloc w3 _)
        go_wp2_with (refine list_append_g ri_kept rfl (.tmp 24) (.tmp 26) 47 rfl (.int .i64 0) 8 Tryd.underlying47 u3zero rfl (by omega) w.heap.size (.slice adl q capl) ps (fun _ => False) rfl (own_one ri_kept ow0 _ 3) w3.heap.size 1 _ (k : Int) rfl cI rfl (fun _ _ => rfl) (by have := Hq.out; omega) S3.size ?_; intro v3 w4 o3 b3)
        have S4 : Ext w w4 := Below.trans S3 b3
        exact ⟨⟨k + 1, _, by omega, by go_num, by have := Hq.out; simp; omega, by rw [Hds.out, List.map_append]; rfl, o3, S4⟩, by simp [intOf]; omega⟩
    · have ek : k = n := by omega
      have i0 : ¬ ((k : Int) < (n : Int)) := by omega
      have hfin : IR wr (.slice adl q capl) (badN m B leaves n) := by rw [← ek, ← hps]; have := own_ir ow; rw [Hq.out] at *; exact this
      clear ek hlt
      go_wp2
      go_ret
      exact ⟨_, rfl, ex, hfin⟩
end Go.Proofs.YtdohngjhfonifaaDoor
