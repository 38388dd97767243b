/- The contracts of Differ (the code's) and of Ints. -/
import Derived.Test.YtmplnlcmdcogmaaDoorWy
namespace Go.Proofs.YtmplnlcmdcogmaaDoor
open Go.RowKit Go.Sha
set_option linter.unusedSimpArgs false

def RI : World → Value → Int → Nat → Prop := fun _ v a _ => v = .int .i64 a
theorem ri_kept : Kept RI := ⟨fun h _ _ => h, fun h _ => h⟩
abbrev OwnI := OwnG (α := Int) 3 RI
theorem u3zero : (Tryd.prog.info? 3).map (fun i => (i.zero, i.size, i.bytes)) = some (some (.int .i64 0), 1, 8) := by kernel_rfl
/-- A slice of numbers. -/
def IR (w : World) (v : Value) (l : List Int) : Prop := ∃ ad cap pb po, v = .slice ad l.length cap ∧ (0 < l.length → ad = some ⟨pb, po, none⟩) ∧ ∀ j a, l[j]? = some a → w.cell? ⟨pb, po + j, none⟩ = some (.int .i64 a)
theorem ir_ext {w w' : World} {v : Value} {l : List Int} (h : IR w v l) (he : Ext w w') : IR w' v l := by
  obtain ⟨ad, cap, pb, po, h1, h2, h3⟩ := h
  exact ⟨ad, cap, pb, po, h1, h2, fun j a hj => by rw [Below.cell (p := ⟨pb, po + j, none⟩) he (World.block_lt_of_cell? w _ (h3 j a hj))]; exact h3 j a hj⟩
theorem ir_len {w : World} {v : Value} {l : List Int} (h : IR w v l) : ∃ ad cap, v = .slice ad l.length cap := by
  obtain ⟨ad, cap, _, _, h, _⟩ := h
  exact ⟨ad, cap, h⟩
theorem own_ir {w : World} {base : Nat} {v : Value} {ps : List (Value × Int)} (h : OwnI w base v ps No) : IR w v (ps.map (·.2)) := by
  obtain ⟨ad, cap, pb, po, rfl, h1, _, h3⟩ := h.cells w.heap.size (Or.inr (Nat.le_refl _))
  refine ⟨ad, cap, pb, po, by simp, by simpa using h1, fun j a hj => ?_⟩
  rw [List.getElem?_map] at hj
  obtain ⟨x, hx, rfl⟩ := Option.map_eq_some_iff.1 hj
  obtain ⟨c, r⟩ := h3 j x hx
  rw [c]; exact congrArg some r
def DPost (w : World) (l : List Int) (e : Ending) (w' : World) : Prop := ∃ v, e = .returned v ∧ Ext w w' ∧ IR w' v l
/-- While the places are gathered. -/
def InvD (w : World) (a b : List (List Int)) (lo hi : Nat) (l i : Value) (wr : World) : Prop :=
  ∃ (k : Nat) (ps : List (Value × Int)), lo ≤ k ∧ k ≤ hi ∧ i = .int .i64 k ∧ ps.length ≤ k ∧ ps.map (·.2) = diffL a b k ∧ OwnI wr w.heap.size l ps No ∧ Ext w wr

set_option maxHeartbeats 4000000 in
set_option maxRecDepth 100000 in
theorem differ_any (va vb : Value) (a b : List (List Int)) (w : World) (ha : LR w va a w.heap.size) (hb : LR w vb b w.heap.size) (hla : a.length ≤ 1000000) (hlb : b.length ≤ 1000000) : Calls Tryd.prog 25 #[va, vb] w (DPost w (diffL a b (max a.length b.length))) := by
  obtain ⟨ada, capa, eva⟩ := ha.len
  subst eva
  obtain ⟨adb, capb, evb⟩ := hb.len
  subst evb
  have HA := Lib.hid ha; clear ha
  have HB := Lib.hid hb; clear hb
  obtain ⟨LA, hLA⟩ : ∃ LA, LA = a.length := ⟨_, rfl⟩
  obtain ⟨LB, hLB⟩ : ∃ LB, LB = b.length := ⟨_, rfl⟩
  rw [← hLA] at HA hla ⊢
  rw [← hLB] at HB hlb ⊢
  have HLA := Lib.hid hLA; clear hLA
  have HLB := Lib.hid hLB; clear hLB
  obtain ⟨M, hM⟩ : ∃ M, M = min LA LB := ⟨_, rfl⟩
  obtain ⟨X, hX⟩ : ∃ X, X = max LA LB := ⟨_, rfl⟩
  rw [← hX]
  have eM : ∀ w, (Builtin.min_ #[3, 3] 3 #[.int .i64 (LA : Int), .int .i64 (LB : Int)]).run Tryd.prog w = .ok (.int .i64 (M : Int)) w := fun w => by
    rw [run_min_int2]
    have : (if (LB : Int) < (LA : Int) then (LB : Int) else (LA : Int)) = (M : Int) := by split <;> omega
    rw [this]
  have eX : ∀ w, (Builtin.max_ #[3, 3] 3 #[.int .i64 (LA : Int), .int .i64 (LB : Int)]).run Tryd.prog w = .ok (.int .i64 (X : Int)) w := fun w => by
    rw [run_max_int2]
    congr 2
    split <;> omega
  have hMA : M ≤ LA := by omega
  have hMB : M ≤ LB := by omega
  have hMX : M ≤ X := by omega
  have hXl : X ≤ 1000000 := by omega
  have HM := Lib.hid hM; clear hM
  have HX := Lib.hid hX; clear hX
  go_enter Tryd.func25, Tryd.ntmps25
  go_wp2
  go_loopw [5, 15] (fun l i wr => InvD w a b 0 M l i wr) (fun _ i _ => M - (intOf i).toNat)
  case atStart => exact ⟨0, [], by omega, by omega, rfl, by simp, by simp [diffL], OwnG.nil _ _ _ _ _, Ext.refl w⟩
  case round =>
    obtain ⟨k, ps, _, hk, rfl, hpl, hps, ow, ex⟩ := hrel
    obtain ⟨adl, capl, el⟩ := ow.len
    subst el
    obtain ⟨q, hq⟩ : ∃ q, q = ps.length := ⟨_, rfl⟩
    rw [← hq] at ow hpl ⊢
    have Hq := Lib.hid hq; clear hq
    by_cases hlt : k < M
    · have i0 : (k : Int) < (M : Int) := by omega
      have i1 : (0 : Int) ≤ (k : Int) := by omega
      have i2 : (k : Int) < (LA : Int) := by omega
      have i3 : (k : Int) < (LB : Int) := by omega
      obtain ⟨m1, hm1⟩ : ∃ m, a[k]? = some m := ⟨_, List.getElem?_eq_getElem (by rw [← HLA.out]; omega)⟩
      obtain ⟨m2, hm2⟩ : ∃ m, b[k]? = some m := ⟨_, List.getElem?_eq_getElem (by rw [← HLB.out]; omega)⟩
      have h1 := HA.out
      have h2 := HB.out
      rw [HLA.out] at h1
      rw [HLB.out] at h2
      obtain ⟨cap1, pb, po, ev1, _, hc1⟩ := lr_get h1 (by rw [← HLA.out]; omega)
      obtain ⟨cap2, qb, qo, ev2, _, hc2⟩ := lr_get h2 (by rw [← HLB.out]; omega)
      injection ev1 with a1 _ a2
      injection ev2 with a3 _ a4
      subst a1 a2 a3 a4
      obtain ⟨x1, c1, s1⟩ := hc1 k m1 hm1
      obtain ⟨x2, c2, s2⟩ := hc2 k m2 hm2
      have hc1' : ∀ w', Ext w w' → w'.cell? ⟨pb, po + k, none⟩ = some x1 := fun w' h => by rw [Below.cell (p := ⟨pb, po + k, none⟩) h (World.block_lt_of_cell? w _ c1)]; exact c1
      have hc2' : ∀ w', Ext w w' → w'.cell? ⟨qb, qo + k, none⟩ = some x2 := fun w' h => by rw [Below.cell (p := ⟨qb, qo + k, none⟩) h (World.block_lt_of_cell? w _ c2)]; exact c2
      have HC1 := Lib.hid hc1'; clear hc1' c1
      have HC2 := Lib.hid hc2'; clear hc2' c2
      have hds := diffL_succ a b k
      have hun : unlike a b k = !(eqS m1 m2) := by
        unfold unlike
        rw [hm1, hm2, show decide (k < a.length) = true by rw [← HLA.out]; simp; omega, show decide (k < b.length) = true by rw [← HLB.out]; simp; omega]
        simp
      rw [hun, ← hps] at hds
      obtain ⟨E, hE⟩ : ∃ E, E = eqS m1 m2 := ⟨_, rfl⟩
      rw [← hE] at hds
      have HE := Lib.hid hE; clear hE
      clear h1 h2 hc1 hc2 hm1 hm2 hun HA HB
      go_wp2
      refine wp_region_held (S := Ext w) (by kernel_rfl) ?_
      change wpAnyH _ _ _ _ _ _ _ _ wr.drew
      have S0 : Ext w wr.drew := Below.drew ex
      have sA := s1.now S0
      have sB := s2.now S0
      have ow0 : OwnI wr.drew w.heap.size (.slice adl q capl) ps No := ow.ext ri_kept (Below.drew (Below.refl _ _))
      clear ow ex s1 s2
      generalize wr.drew = W at *
      refine takeS 0 (some 18) (Value.slice (some ⟨pb, po, none⟩) LA capa) rfl rfl (by kernel_rfl) (by kernel_rfl) (by kernel_rfl) (fun _ _ _ h => h) rfl S0 (fun w' hw' => by go_simp) ?_
      simp only [Act.put, List.setIfInBounds_toArray, List.set_cons_zero, List.set_cons_succ]
      refine takeS 1 (some 19) (.int .i64 (k : Int)) rfl rfl (by kernel_rfl) (by kernel_rfl) (by kernel_rfl) (fun _ _ _ h => h) rfl S0 (fun w' hw' => by go_simp) ?_
      simp only [Act.put, List.setIfInBounds_toArray, List.set_cons_zero, List.set_cons_succ]
      refine takeS 2 (some 20) (.pointer (some ⟨pb, po + k, none⟩)) rfl rfl (by kernel_rfl) (by kernel_rfl) (by kernel_rfl) (fun _ _ _ h => h) rfl S0 (fun w' hw' => by go_simp) ?_
      simp only [Act.put, List.setIfInBounds_toArray, List.set_cons_zero, List.set_cons_succ]
      refine takeS 3 (some 21) (x1) rfl rfl (by kernel_rfl) (by kernel_rfl) (by kernel_rfl) (fun _ _ _ h => h) rfl S0 (fun w' hw' => by have cc := HC1.out w' hw'; go_simp) ?_
      simp only [Act.put, List.setIfInBounds_toArray, List.set_cons_zero, List.set_cons_succ]
      refine takeS 4 (some 22) (Value.slice (some ⟨qb, qo, none⟩) LB capb) rfl rfl (by kernel_rfl) (by kernel_rfl) (by kernel_rfl) (fun _ _ _ h => h) rfl S0 (fun w' hw' => by go_simp) ?_
      simp only [Act.put, List.setIfInBounds_toArray, List.set_cons_zero, List.set_cons_succ]
      refine takeS 5 (some 23) (.int .i64 (k : Int)) rfl rfl (by kernel_rfl) (by kernel_rfl) (by kernel_rfl) (fun _ _ _ h => h) rfl S0 (fun w' hw' => by go_simp) ?_
      simp only [Act.put, List.setIfInBounds_toArray, List.set_cons_zero, List.set_cons_succ]
      refine takeS 6 (some 24) (.pointer (some ⟨qb, qo + k, none⟩)) rfl rfl (by kernel_rfl) (by kernel_rfl) (by kernel_rfl) (fun _ _ _ h => h) rfl S0 (fun w' hw' => by go_simp) ?_
      simp only [Act.put, List.setIfInBounds_toArray, List.set_cons_zero, List.set_cons_succ]
      refine takeS 7 (some 25) (x2) rfl rfl (by kernel_rfl) (by kernel_rfl) (by kernel_rfl) (fun _ _ _ h => h) rfl S0 (fun w' hw' => by have cc := HC2.out w' hw'; go_simp) ?_
      simp only [Act.put, List.setIfInBounds_toArray, List.set_cons_zero, List.set_cons_succ]
      refine nextS 8 rfl (by kernel_rfl) rfl (callS (some 26) rfl 38 #[x1, x2] (by go_simp) (fun v w' => v = .bool E ∧ W = w') ((deq_any x1 x2 m1 m2 W sA sB).mono fun _ _ he => ⟨_, by rw [HE.out]; exact he.1, rfl, he.2⟩) ?_)
      rintro v3 W2 ⟨rfl, rfl⟩
      simp only [Act.put, List.setIfInBounds_toArray, List.set_cons_zero, List.set_cons_succ]
      refine ⟨S0, ?_⟩
      refine takeS 9 (some 27) (.bool (!E)) rfl rfl (by kernel_rfl) (by kernel_rfl) (by kernel_rfl) (fun _ _ _ h => h) rfl S0 (fun w' hw' => by go_simp) ?_
      simp only [Act.put, List.setIfInBounds_toArray, List.set_cons_zero, List.set_cons_succ]
      refine wpAnyH_done (by kernel_rfl) ?_ _

      cases E with
      | true =>
        rw [show (!true) = false from rfl] at hds ⊢
        have hds' : diffL a b (k + 1) = ps.map (·.2) := by rw [hds]; simp
        have Hds := Lib.hid hds'; clear hds hds' sA sB
        go_wp2
        exact ⟨⟨k + 1, ps, by omega, by omega, by go_num, by have := Hq.out; omega, Hds.out.symm, ow0, S0⟩, by simp [intOf]; omega⟩
      | false =>
        rw [show (!false) = true from rfl] at hds ⊢
        have hds' : diffL a b (k + 1) = ps.map (·.2) ++ [(k : Int)] := by rw [hds]; simp
        have Hds := Lib.hid hds'; clear hds hds' sA sB
        have cI := cell_one W (.int .i64 (k : Int)) 3
        have S3 : Ext w (W.alloc (.cells #[.int .i64 (k : Int)] 3)) := Ext.trans S0 (Ext.alloc W _)
        go_wp2_with (refine list_append_g ri_kept rfl (.tmp 28) (.tmp 30) 42 rfl (.int .i64 0) 8 Tryd.underlying42 u3zero rfl (by omega) w.heap.size (.slice adl q capl) ps No rfl (own_one ri_kept ow0 _ 3) W.heap.size 1 _ (k : Int) rfl cI rfl (fun _ _ => rfl) (by have := Hq.out; omega) S3.size ?_; intro v3 w3 o3 b3)
        have S4 : Ext w w3 := Below.trans S3 b3
        exact ⟨⟨k + 1, _, by omega, by omega, by go_num, by have := Hq.out; simp; omega, by rw [Hds.out, List.map_append]; rfl, o3, S4⟩, by simp [intOf]; omega⟩
    · have ek : k = M := by omega
      subst ek
      obtain ⟨M, hMk⟩ : ∃ M, M = k := ⟨_, rfl⟩
      have c0 : InvD w a b M X (.slice adl q capl) (.int .i64 k) wr := ⟨k, ps, by omega, hMX, rfl, by have := Hq.out; omega, hps, ow, ex⟩
      rw [← hMk] at HM
      clear hMk hps ow ex Hq
      go_wp2
      go_loopw [5, 8] (fun l i wr => InvD w a b M X l i wr) (fun _ i _ => X - (intOf i).toNat)
      case atStart => exact c0
      case round =>
        clear c0
        obtain ⟨k, ps, hlo, hk, rfl, hpl, hps, ow, ex⟩ := hrel
        obtain ⟨adl, capl, el⟩ := ow.len
        subst el
        obtain ⟨q, hq⟩ : ∃ q, q = ps.length := ⟨_, rfl⟩
        rw [← hq] at ow hpl ⊢
        have Hq := Lib.hid hq; clear hq
        by_cases hlt : k < X
        · have i0 : (k : Int) < (X : Int) := by omega
          have hds := diffL_succ a b k
          have hun : unlike a b k = true := by
            unfold unlike
            have : ¬ (k < a.length ∧ k < b.length) := by rw [← HLA.out, ← HLB.out]; have := HM.out; omega
            by_cases h1 : k < a.length
            · have h2 : ¬ k < b.length := fun h => this ⟨h1, h⟩
              simp [h2]
            · simp [h1]
          rw [hun, if_pos rfl, ← hps] at hds
          have Hds := Lib.hid hds; clear hds hun
          have cI := cell_one wr (.int .i64 (k : Int)) 3
          have S3 : Ext w (wr.alloc (.cells #[.int .i64 (k : Int)] 3)) := Ext.trans ex (Ext.alloc wr _)
          go_wp2_with (refine list_append_g ri_kept rfl (.tmp 43) (.tmp 45) 42 rfl (.int .i64 0) 8 Tryd.underlying42 u3zero rfl (by omega) w.heap.size (.slice adl q capl) ps No rfl (own_one ri_kept ow _ 3) wr.heap.size 1 _ (k : Int) rfl cI rfl (fun _ _ => rfl) (by have := Hq.out; omega) S3.size ?_; intro v3 w3 o3 b3)
          have S4 : Ext w w3 := Below.trans S3 b3
          exact ⟨⟨k + 1, _, by omega, by omega, by go_num, by have := Hq.out; simp; omega, by rw [Hds.out, List.map_append]; rfl, o3, S4⟩, by simp [intOf]; omega⟩
        · have ek : k = X := by omega
          have i0 : ¬ ((k : Int) < (X : Int)) := by omega
          have d0 : decide ((k : Int) < (X : Int)) = false := by simp; omega
          have hfin : IR wr (.slice adl q capl) (diffL a b X) := by rw [← ek, ← hps]; exact own_ir ow
          clear ek hlt
          go_wp2
          go_ret
          exact ⟨_, rfl, ex, hfin⟩

set_option maxHeartbeats 1000000 in
theorem ints_any (v u : Value) (l : List Int) (w : World) (hv : IR w v l) (hu : IR w u l) (hl : l.length ≤ 1000000000) : Calls Tryd.prog 24 #[v, u] w fun e w' => e = .returned (.bool true) ∧ Ext w w' := by
  obtain ⟨adv, capv, ev⟩ := ir_len hv
  subst ev
  obtain ⟨adu, capu, eu⟩ := ir_len hu
  subst eu
  obtain ⟨N, hN⟩ : ∃ N, N = l.length := ⟨_, rfl⟩
  have t0 : ((N : Int) == (N : Int)) = true := by simp
  have HV := Lib.hid hv; clear hv
  have HU := Lib.hid hu; clear hu
  rw [← hN] at HV HU hl ⊢
  have HN := Lib.hid hN; clear hN
  go_enter Tryd.func24, Tryd.ntmps24
  go_wp2
  go_loopw [5] (fun i wr => InvC w N i wr) (fun i _ => N - (intOf i).toNat)
  case atStart => exact ⟨0, by omega, rfl, Ext.refl w⟩
  case round =>
    obtain ⟨k, hk, rfl, ex⟩ := hrel
    by_cases hlt : k < N
    · have i0 : (k : Int) < (N : Int) := by omega
      have i1 : (0 : Int) ≤ (k : Int) := by omega
      obtain ⟨m1, hm1⟩ : ∃ m, l[k]? = some m := ⟨_, List.getElem?_eq_getElem (by rw [← HN.out]; exact hlt)⟩
      obtain ⟨_, _, pb, po, ev1, g1, hc1⟩ := HV.out
      obtain ⟨_, _, qb, qo, ev2, g2, hc2⟩ := HU.out
      injection ev1 with a1 _ a2
      injection ev2 with a3 _ a4
      have g1' := g1 (by rw [← HN.out]; omega)
      have g2' := g2 (by rw [← HN.out]; omega)
      subst a1 a2 a3 a4 g1' g2'
      have c1 := hc1 k m1 hm1
      have c2 := hc2 k m1 hm1
      have c1' : wr.cell? ⟨pb, po + k, none⟩ = some (.int .i64 m1) := by rw [Below.cell (p := ⟨pb, po + k, none⟩) ex (World.block_lt_of_cell? w _ c1)]; exact c1
      have c2' : wr.cell? ⟨qb, qo + k, none⟩ = some (.int .i64 m1) := by rw [Below.cell (p := ⟨qb, qo + k, none⟩) ex (World.block_lt_of_cell? w _ c2)]; exact c2
      clear hc1 hc2 c1 c2 HV HU hm1 g1 g2
      go_wp2
      go_quiet (fail)
      go_wp2
      refine ⟨⟨k + 1, by omega, by go_num, below_drewN ex _⟩, by simp [intOf]; omega⟩
    · have i0 : ¬ ((k : Int) < (N : Int)) := by omega
      have d0 : decide ((k : Int) < (N : Int)) = false := by simp; omega
      clear hlt
      go_wp2
      go_ret
      exact ⟨rfl, ex⟩
end Go.Proofs.YtmplnlcmdcogmaaDoor
