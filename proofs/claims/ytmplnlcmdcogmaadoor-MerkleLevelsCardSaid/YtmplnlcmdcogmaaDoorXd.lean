/- The contract of the document's own Differ. -/
import Derived.Test.YtmplnlcmdcogmaaDoorXc
namespace Go.Proofs.YtmplnlcmdcogmaaDoor
open Go.RowKit Go.Sha
set_option linter.unusedSimpArgs false

/-- An operation that is not wanted is passed over. -/
theorem skipS {P : Program} {ops : Array Oper} {Q : Exit → Act → World → Prop} {md : Region.Mode} {S : World → Prop} (i : Nat) (d : Option Tmp) {oi : Oper} {fuel : Nat} {listed : Array Bool} {a : Act} {w : World} (hi : ops[i]? = some oi) (hd : oi.dst = d)
    (hs : Region.noSelect ops = true) (hf : Region.free md ops listed i = true) (hr : (Region.ready md ops listed).contains i = true)
    (hQ : ∀ c a w, Q (.panic c) (a.put d undef) w → Q (.panic c) a w) (hw : Region.wanted oi (yielded ops a.tmps) = false) (hS : S w)
    (h : wpAnyH P md ops Q S fuel (listed.setIfInBounds i true) (a.put d undef) w) : wpAnyH P md ops Q S (fuel + 1) listed a w := by
  subst hd
  exact wpAnyH_take hi hs hf hr hQ (Or.inr ⟨hw, rfl⟩) hS h

set_option maxHeartbeats 4000000 in
set_option maxRecDepth 100000 in
theorem rdiffer_any (va vb : Value) (a b : List (List Int)) (w : World) (ha : LR w va a w.heap.size) (hb : LR w vb b w.heap.size) (hla : a.length ≤ 1000000) (hlb : b.length ≤ 1000000) : Calls Tryd.prog 26 #[va, vb] w (DPost w (diffL a b (max a.length b.length))) := by
  obtain ⟨ada, capa, eva⟩ := ha.len
  subst eva
  obtain ⟨adb, capb, evb⟩ := hb.len
  subst evb
  have HA := Lib.hid ha; clear ha
  have HB := Lib.hid hb; clear hb
  obtain ⟨LA, hLA⟩ : ∃ LA, LA = a.length := ⟨_, rfl⟩
  obtain ⟨LB, hLB⟩ : ∃ LB, LB = b.length := ⟨_, rfl⟩
  rw [← hLA] at HA hla ⊢
  rw [← hLB] at HB hlb ⊢
  have HLA := Lib.hid hLA; clear hLA
  have HLB := Lib.hid hLB; clear hLB
  obtain ⟨X, hX⟩ : ∃ X, X = max LA LB := ⟨_, rfl⟩
  rw [← hX]
  have eX : ∀ w, (Builtin.max_ #[3, 3] 3 #[.int .i64 (LA : Int), .int .i64 (LB : Int)]).run Tryd.prog w = .ok (.int .i64 (X : Int)) w := fun w => by
    rw [run_max_int2]
    congr 2
    split <;> omega
  have hXl : X ≤ 1000000 := by omega
  have HX := Lib.hid hX; clear hX
  go_enter Tryd.func26, Tryd.ntmps26
  go_wp2
  go_loopw [5, 6] (fun l i wr => InvD w a b 0 X l i wr) (fun _ i _ => X - (intOf i).toNat)
  case atStart => exact ⟨0, [], by omega, by omega, rfl, by simp, by simp [diffL], OwnG.nil _ _ _ _ _, Ext.refl w⟩
  case round =>
    obtain ⟨k, ps, _, hk, rfl, hpl, hps, ow, ex⟩ := hrel
    obtain ⟨adl, capl, el⟩ := ow.len
    subst el
    obtain ⟨q, hq⟩ : ∃ q, q = ps.length := ⟨_, rfl⟩
    rw [← hq] at ow hpl ⊢
    have Hq := Lib.hid hq; clear hq
    by_cases hlt : k < X
    · have i0 : (k : Int) < (X : Int) := by omega
      have i1 : (0 : Int) ≤ (k : Int) := by omega
      have hds := diffL_succ a b k
      rw [← hps] at hds
      by_cases hA : LA ≤ k
      · have u0 : unlike a b k = true := by
          unfold unlike
          have : ¬ (k < a.length) := by rw [← HLA.out]; omega
          simp [this]
        rw [u0, if_pos rfl] at hds
        have Hds := Lib.hid hds; clear hds u0
        have i2 : (LA : Int) ≤ (k : Int) := by omega
        have d2 : decide ((LA : Int) ≤ (k : Int)) = true := by simpa using i2
        clear hA
        go_wp2
        go_quiet (fail)
        have ow0 : OwnI (wr.drewN nq) w.heap.size (.slice adl q capl) ps No := ow.ext ri_kept (below_drewN (Below.refl _ _) _)
        have ex0 : Ext w (wr.drewN nq) := below_drewN ex _
        generalize wr.drewN nq = W at *
        have cI := cell_one W (.int .i64 (k : Int)) 3
        have S3 : Ext w (W.alloc (.cells #[.int .i64 (k : Int)] 3)) := Ext.trans ex0 (Ext.alloc W _)
        go_wp2_with (refine list_append_g ri_kept rfl (.tmp 39) (.tmp 41) 42 rfl (.int .i64 0) 8 Tryd.underlying42 u3zero rfl (by omega) w.heap.size (.slice adl q capl) ps No rfl (own_one ri_kept ow0 _ 3) W.heap.size 1 _ (k : Int) rfl cI rfl (fun _ _ => rfl) (by have := Hq.out; omega) S3.size ?_; intro v3 w3 o3 b3)
        have S4 : Ext w w3 := Below.trans S3 b3
        exact ⟨⟨k + 1, _, by omega, by omega, by go_num, by have := Hq.out; simp; omega, by rw [Hds.out, List.map_append]; rfl, o3, S4⟩, by simp [intOf]; omega⟩
      have i2 : ¬ ((LA : Int) ≤ (k : Int)) := by omega
      have d2 : decide ((LA : Int) ≤ (k : Int)) = false := by simp; omega
      have j2 : (k : Int) < (LA : Int) := by omega
      have n2 : k < LA := by omega
      by_cases hB : LB ≤ k
      · have u0 : unlike a b k = true := by
          unfold unlike
          have : ¬ (k < b.length) := by rw [← HLB.out]; omega
          simp [this]
        rw [u0, if_pos rfl] at hds
        have Hds := Lib.hid hds; clear hds u0
        have i3 : (LB : Int) ≤ (k : Int) := by omega
        have d3 : decide ((LB : Int) ≤ (k : Int)) = true := by simpa using i3
        clear hB hA
        go_wp2
        refine wp_region_held (S := Ext w) (by kernel_rfl) ?_
        change wpAnyH _ _ _ _ _ _ _ _ wr.drew
        have S0 : Ext w wr.drew := Below.drew ex
        have ow0 : OwnI wr.drew w.heap.size (.slice adl q capl) ps No := ow.ext ri_kept (Below.drew (Below.refl _ _))
        clear ow ex
        generalize wr.drew = W at *
        refine takeS 0 (some 16) (.int .i64 (k : Int)) rfl rfl (by kernel_rfl) (by kernel_rfl) (by kernel_rfl) (fun _ _ _ h => h) rfl S0 (fun w' hw' => by go_simp) ?_
        simp only [Act.put, List.setIfInBounds_toArray, List.set_cons_zero, List.set_cons_succ]
        refine takeS 1 (some 17) (Value.slice ada LA capa) rfl rfl (by kernel_rfl) (by kernel_rfl) (by kernel_rfl) (fun _ _ _ h => h) rfl S0 (fun w' hw' => by go_simp) ?_
        simp only [Act.put, List.setIfInBounds_toArray, List.set_cons_zero, List.set_cons_succ]
        refine takeS 2 (some 18) (.int .i64 (LA : Int)) rfl rfl (by kernel_rfl) (by kernel_rfl) (by kernel_rfl) (fun _ _ _ h => h) rfl S0 (fun w' hw' => by go_simp) ?_
        simp only [Act.put, List.setIfInBounds_toArray, List.set_cons_zero, List.set_cons_succ]
        refine takeS 3 (some 19) (.bool false) rfl rfl (by kernel_rfl) (by kernel_rfl) (by kernel_rfl) (fun _ _ _ h => h) rfl S0 (fun w' hw' => by go_simp) ?_
        simp only [Act.put, List.setIfInBounds_toArray, List.set_cons_zero, List.set_cons_succ]
        refine takeS 4 (some 20) (.bool false) rfl rfl (by kernel_rfl) (by kernel_rfl) (by kernel_rfl) (fun _ _ _ h => h) rfl S0 (fun w' hw' => by go_simp) ?_
        simp only [Act.put, List.setIfInBounds_toArray, List.set_cons_zero, List.set_cons_succ]
        refine takeS 5 (some 21) (.int .i64 (k : Int)) rfl rfl (by kernel_rfl) (by kernel_rfl) (by kernel_rfl) (fun _ _ _ h => h) rfl S0 (fun w' hw' => by go_simp) ?_
        simp only [Act.put, List.setIfInBounds_toArray, List.set_cons_zero, List.set_cons_succ]
        refine takeS 6 (some 22) (Value.slice adb LB capb) rfl rfl (by kernel_rfl) (by kernel_rfl) (by kernel_rfl) (fun _ _ _ h => h) rfl S0 (fun w' hw' => by go_simp) ?_
        simp only [Act.put, List.setIfInBounds_toArray, List.set_cons_zero, List.set_cons_succ]
        refine takeS 7 (some 23) (.int .i64 (LB : Int)) rfl rfl (by kernel_rfl) (by kernel_rfl) (by kernel_rfl) (fun _ _ _ h => h) rfl S0 (fun w' hw' => by go_simp) ?_
        simp only [Act.put, List.setIfInBounds_toArray, List.set_cons_zero, List.set_cons_succ]
        refine takeS 8 (some 24) (.bool true) rfl rfl (by kernel_rfl) (by kernel_rfl) (by kernel_rfl) (fun _ _ _ h => h) rfl S0 (fun w' hw' => by go_simp) ?_
        simp only [Act.put, List.setIfInBounds_toArray, List.set_cons_zero, List.set_cons_succ]
        refine takeS 9 (some 25) (.bool true) rfl rfl (by kernel_rfl) (by kernel_rfl) (by kernel_rfl) (fun _ _ _ h => h) rfl S0 (fun w' hw' => by go_simp) ?_
        simp only [Act.put, List.setIfInBounds_toArray, List.set_cons_zero, List.set_cons_succ]
        refine takeS 10 (some 26) (.bool true) rfl rfl (by kernel_rfl) (by kernel_rfl) (by kernel_rfl) (fun _ _ _ h => h) rfl S0 (fun w' hw' => by go_simp) ?_
        simp only [Act.put, List.setIfInBounds_toArray, List.set_cons_zero, List.set_cons_succ]
        refine skipS 11 (some 27) rfl rfl (by kernel_rfl) (by kernel_rfl) (by kernel_rfl) (fun _ _ _ h => h) rfl S0 ?_
        simp only [Act.put, List.setIfInBounds_toArray, List.set_cons_zero, List.set_cons_succ]
        refine skipS 12 (some 28) rfl rfl (by kernel_rfl) (by kernel_rfl) (by kernel_rfl) (fun _ _ _ h => h) rfl S0 ?_
        simp only [Act.put, List.setIfInBounds_toArray, List.set_cons_zero, List.set_cons_succ]
        refine skipS 13 (some 29) rfl rfl (by kernel_rfl) (by kernel_rfl) (by kernel_rfl) (fun _ _ _ h => h) rfl S0 ?_
        simp only [Act.put, List.setIfInBounds_toArray, List.set_cons_zero, List.set_cons_succ]
        refine skipS 14 (some 30) rfl rfl (by kernel_rfl) (by kernel_rfl) (by kernel_rfl) (fun _ _ _ h => h) rfl S0 ?_
        simp only [Act.put, List.setIfInBounds_toArray, List.set_cons_zero, List.set_cons_succ]
        refine skipS 15 (some 31) rfl rfl (by kernel_rfl) (by kernel_rfl) (by kernel_rfl) (fun _ _ _ h => h) rfl S0 ?_
        simp only [Act.put, List.setIfInBounds_toArray, List.set_cons_zero, List.set_cons_succ]
        refine skipS 16 (some 32) rfl rfl (by kernel_rfl) (by kernel_rfl) (by kernel_rfl) (fun _ _ _ h => h) rfl S0 ?_
        simp only [Act.put, List.setIfInBounds_toArray, List.set_cons_zero, List.set_cons_succ]
        refine skipS 17 (some 33) rfl rfl (by kernel_rfl) (by kernel_rfl) (by kernel_rfl) (fun _ _ _ h => h) rfl S0 ?_
        simp only [Act.put, List.setIfInBounds_toArray, List.set_cons_zero, List.set_cons_succ]
        refine skipS 18 (some 34) rfl rfl (by kernel_rfl) (by kernel_rfl) (by kernel_rfl) (fun _ _ _ h => h) rfl S0 ?_
        simp only [Act.put, List.setIfInBounds_toArray, List.set_cons_zero, List.set_cons_succ]
        refine skipS 19 (some 35) rfl rfl (by kernel_rfl) (by kernel_rfl) (by kernel_rfl) (fun _ _ _ h => h) rfl S0 ?_
        simp only [Act.put, List.setIfInBounds_toArray, List.set_cons_zero, List.set_cons_succ]
        refine skipS 20 (some 36) rfl rfl (by kernel_rfl) (by kernel_rfl) (by kernel_rfl) (fun _ _ _ h => h) rfl S0 ?_
        simp only [Act.put, List.setIfInBounds_toArray, List.set_cons_zero, List.set_cons_succ]
        refine skipS 21 (some 37) rfl rfl (by kernel_rfl) (by kernel_rfl) (by kernel_rfl) (fun _ _ _ h => h) rfl S0 ?_
        simp only [Act.put, List.setIfInBounds_toArray, List.set_cons_zero, List.set_cons_succ]
        refine takeS 22 (some 38) (.bool true) rfl rfl (by kernel_rfl) (by kernel_rfl) (by kernel_rfl) (fun _ _ _ h => h) rfl S0 (fun w' hw' => by go_simp) ?_
        simp only [Act.put, List.setIfInBounds_toArray, List.set_cons_zero, List.set_cons_succ]
        refine wpAnyH_done (by kernel_rfl) ?_ _
        have cI := cell_one W (.int .i64 (k : Int)) 3
        have S3 : Ext w (W.alloc (.cells #[.int .i64 (k : Int)] 3)) := Ext.trans S0 (Ext.alloc W _)
        go_wp2_with (refine list_append_g ri_kept rfl (.tmp 39) (.tmp 41) 42 rfl (.int .i64 0) 8 Tryd.underlying42 u3zero rfl (by omega) w.heap.size (.slice adl q capl) ps No rfl (own_one ri_kept ow0 _ 3) W.heap.size 1 _ (k : Int) rfl cI rfl (fun _ _ => rfl) (by have := Hq.out; omega) S3.size ?_; intro v3 w3 o3 b3)
        have S4 : Ext w w3 := Below.trans S3 b3
        exact ⟨⟨k + 1, _, by omega, by omega, by go_num, by have := Hq.out; simp; omega, by rw [Hds.out, List.map_append]; rfl, o3, S4⟩, by simp [intOf]; omega⟩
      have i3 : ¬ ((LB : Int) ≤ (k : Int)) := by omega
      have d3 : decide ((LB : Int) ≤ (k : Int)) = false := by simp; omega
      have j3 : (k : Int) < (LB : Int) := by omega
      have n3 : k < LB := by omega
      obtain ⟨m1, hm1⟩ : ∃ m, a[k]? = some m := ⟨_, List.getElem?_eq_getElem (by rw [← HLA.out]; omega)⟩
      obtain ⟨m2, hm2⟩ : ∃ m, b[k]? = some m := ⟨_, List.getElem?_eq_getElem (by rw [← HLB.out]; omega)⟩
      have h1 := HA.out
      have h2 := HB.out
      rw [HLA.out] at h1
      rw [HLB.out] at h2
      obtain ⟨cap1, pb, po, ev1, _, hc1⟩ := lr_get h1 (by rw [← HLA.out]; omega)
      obtain ⟨cap2, qb, qo, ev2, _, hc2⟩ := lr_get h2 (by rw [← HLB.out]; omega)
      injection ev1 with a1 _ a2
      injection ev2 with a3 _ a4
      subst a1 a2 a3 a4
      obtain ⟨x1, c1, s1⟩ := hc1 k m1 hm1
      obtain ⟨x2, c2, s2⟩ := hc2 k m2 hm2
      have hc1' : ∀ w', Ext w w' → w'.cell? ⟨pb, po + k, none⟩ = some x1 := fun w' h => by rw [Below.cell (p := ⟨pb, po + k, none⟩) h (World.block_lt_of_cell? w _ c1)]; exact c1
      have hc2' : ∀ w', Ext w w' → w'.cell? ⟨qb, qo + k, none⟩ = some x2 := fun w' h => by rw [Below.cell (p := ⟨qb, qo + k, none⟩) h (World.block_lt_of_cell? w _ c2)]; exact c2
      have HC1 := Lib.hid hc1'; clear hc1'
      have HC2 := Lib.hid hc2'; clear hc2'
      have v1 : ∀ w', Ext w w' → (convert 22 9 x1).run Tryd.prog w' = .ok (.string (strOfNums m1)) w' := fun w' h => conv22 (s1.ext h)
      have v2 : ∀ w', Ext w w' → (convert 22 9 x2).run Tryd.prog w' = .ok (.string (strOfNums m2)) w' := fun w' h => conv22 (s2.ext h)
      have HV1 := Lib.hid v1; clear v1
      have HV2 := Lib.hid v2; clear v2
      have hun : unlike a b k = !(eqS m1 m2) := by
        unfold unlike
        rw [hm1, hm2, show decide (k < a.length) = true by rw [← HLA.out]; simp; omega, show decide (k < b.length) = true by rw [← HLB.out]; simp; omega]
        simp
      rw [hun] at hds
      clear h1 h2 hc1 hc2 hm1 hm2 hun HA HB c1 c2 s1 s2 hA hB
      cases hE : eqS m1 m2 with
      | true =>
        rw [hE] at hds
        have hds' : diffL a b (k + 1) = ps.map (·.2) := by rw [hds]; simp
        have Hds := Lib.hid hds'; clear hds hds'
        have e1 : ((strOfNums m1).toList == (strOfNums m2).toList) = true := hE
        have e2 : (strOfNums m1).toList = (strOfNums m2).toList := by simpa using e1
        clear hE
        go_wp2
        refine wp_region_held (S := Ext w) (by kernel_rfl) ?_
        change wpAnyH _ _ _ _ _ _ _ _ wr.drew
        have S0 : Ext w wr.drew := Below.drew ex
        have ow0 : OwnI wr.drew w.heap.size (.slice adl q capl) ps No := ow.ext ri_kept (Below.drew (Below.refl _ _))
        clear ow ex
        generalize wr.drew = W at *
        refine takeS 0 (some 16) (.int .i64 (k : Int)) rfl rfl (by kernel_rfl) (by kernel_rfl) (by kernel_rfl) (fun _ _ _ h => h) rfl S0 (fun w' hw' => by go_simp) ?_
        simp only [Act.put, List.setIfInBounds_toArray, List.set_cons_zero, List.set_cons_succ]
        refine takeS 1 (some 17) (Value.slice (some ⟨pb, po, none⟩) LA capa) rfl rfl (by kernel_rfl) (by kernel_rfl) (by kernel_rfl) (fun _ _ _ h => h) rfl S0 (fun w' hw' => by go_simp) ?_
        simp only [Act.put, List.setIfInBounds_toArray, List.set_cons_zero, List.set_cons_succ]
        refine takeS 2 (some 18) (.int .i64 (LA : Int)) rfl rfl (by kernel_rfl) (by kernel_rfl) (by kernel_rfl) (fun _ _ _ h => h) rfl S0 (fun w' hw' => by go_simp) ?_
        simp only [Act.put, List.setIfInBounds_toArray, List.set_cons_zero, List.set_cons_succ]
        refine takeS 3 (some 19) (.bool false) rfl rfl (by kernel_rfl) (by kernel_rfl) (by kernel_rfl) (fun _ _ _ h => h) rfl S0 (fun w' hw' => by go_simp) ?_
        simp only [Act.put, List.setIfInBounds_toArray, List.set_cons_zero, List.set_cons_succ]
        refine takeS 4 (some 20) (.bool false) rfl rfl (by kernel_rfl) (by kernel_rfl) (by kernel_rfl) (fun _ _ _ h => h) rfl S0 (fun w' hw' => by go_simp) ?_
        simp only [Act.put, List.setIfInBounds_toArray, List.set_cons_zero, List.set_cons_succ]
        refine takeS 5 (some 21) (.int .i64 (k : Int)) rfl rfl (by kernel_rfl) (by kernel_rfl) (by kernel_rfl) (fun _ _ _ h => h) rfl S0 (fun w' hw' => by go_simp) ?_
        simp only [Act.put, List.setIfInBounds_toArray, List.set_cons_zero, List.set_cons_succ]
        refine takeS 6 (some 22) (Value.slice (some ⟨qb, qo, none⟩) LB capb) rfl rfl (by kernel_rfl) (by kernel_rfl) (by kernel_rfl) (fun _ _ _ h => h) rfl S0 (fun w' hw' => by go_simp) ?_
        simp only [Act.put, List.setIfInBounds_toArray, List.set_cons_zero, List.set_cons_succ]
        refine takeS 7 (some 23) (.int .i64 (LB : Int)) rfl rfl (by kernel_rfl) (by kernel_rfl) (by kernel_rfl) (fun _ _ _ h => h) rfl S0 (fun w' hw' => by go_simp) ?_
        simp only [Act.put, List.setIfInBounds_toArray, List.set_cons_zero, List.set_cons_succ]
        refine takeS 8 (some 24) (.bool false) rfl rfl (by kernel_rfl) (by kernel_rfl) (by kernel_rfl) (fun _ _ _ h => h) rfl S0 (fun w' hw' => by go_simp) ?_
        simp only [Act.put, List.setIfInBounds_toArray, List.set_cons_zero, List.set_cons_succ]
        refine takeS 9 (some 25) (.bool false) rfl rfl (by kernel_rfl) (by kernel_rfl) (by kernel_rfl) (fun _ _ _ h => h) rfl S0 (fun w' hw' => by go_simp) ?_
        simp only [Act.put, List.setIfInBounds_toArray, List.set_cons_zero, List.set_cons_succ]
        refine takeS 10 (some 26) (.bool false) rfl rfl (by kernel_rfl) (by kernel_rfl) (by kernel_rfl) (fun _ _ _ h => h) rfl S0 (fun w' hw' => by go_simp) ?_
        simp only [Act.put, List.setIfInBounds_toArray, List.set_cons_zero, List.set_cons_succ]
        refine takeS 11 (some 27) (Value.slice (some ⟨pb, po, none⟩) LA capa) rfl rfl (by kernel_rfl) (by kernel_rfl) (by kernel_rfl) (fun _ _ _ h => h) rfl S0 (fun w' hw' => by go_simp) ?_
        simp only [Act.put, List.setIfInBounds_toArray, List.set_cons_zero, List.set_cons_succ]
        refine takeS 12 (some 28) (.int .i64 (k : Int)) rfl rfl (by kernel_rfl) (by kernel_rfl) (by kernel_rfl) (fun _ _ _ h => h) rfl S0 (fun w' hw' => by go_simp) ?_
        simp only [Act.put, List.setIfInBounds_toArray, List.set_cons_zero, List.set_cons_succ]
        refine takeS 13 (some 29) (.pointer (some ⟨pb, po + k, none⟩)) rfl rfl (by kernel_rfl) (by kernel_rfl) (by kernel_rfl) (fun _ _ _ h => h) rfl S0 (fun w' hw' => by go_simp) ?_
        simp only [Act.put, List.setIfInBounds_toArray, List.set_cons_zero, List.set_cons_succ]
        refine takeS 14 (some 30) (x1) rfl rfl (by kernel_rfl) (by kernel_rfl) (by kernel_rfl) (fun _ _ _ h => h) rfl S0 (fun w' hw' => by have cc := HC1.out w' hw'; go_simp) ?_
        simp only [Act.put, List.setIfInBounds_toArray, List.set_cons_zero, List.set_cons_succ]
        refine takeS 15 (some 31) (.string (strOfNums m1)) rfl rfl (by kernel_rfl) (by kernel_rfl) (by kernel_rfl) (fun _ _ _ h => h) rfl S0 (fun w' hw' => by have cc := HV1.out w' hw'; go_simp) ?_
        simp only [Act.put, List.setIfInBounds_toArray, List.set_cons_zero, List.set_cons_succ]
        refine takeS 16 (some 32) (Value.slice (some ⟨qb, qo, none⟩) LB capb) rfl rfl (by kernel_rfl) (by kernel_rfl) (by kernel_rfl) (fun _ _ _ h => h) rfl S0 (fun w' hw' => by go_simp) ?_
        simp only [Act.put, List.setIfInBounds_toArray, List.set_cons_zero, List.set_cons_succ]
        refine takeS 17 (some 33) (.int .i64 (k : Int)) rfl rfl (by kernel_rfl) (by kernel_rfl) (by kernel_rfl) (fun _ _ _ h => h) rfl S0 (fun w' hw' => by go_simp) ?_
        simp only [Act.put, List.setIfInBounds_toArray, List.set_cons_zero, List.set_cons_succ]
        refine takeS 18 (some 34) (.pointer (some ⟨qb, qo + k, none⟩)) rfl rfl (by kernel_rfl) (by kernel_rfl) (by kernel_rfl) (fun _ _ _ h => h) rfl S0 (fun w' hw' => by go_simp) ?_
        simp only [Act.put, List.setIfInBounds_toArray, List.set_cons_zero, List.set_cons_succ]
        refine takeS 19 (some 35) (x2) rfl rfl (by kernel_rfl) (by kernel_rfl) (by kernel_rfl) (fun _ _ _ h => h) rfl S0 (fun w' hw' => by have cc := HC2.out w' hw'; go_simp) ?_
        simp only [Act.put, List.setIfInBounds_toArray, List.set_cons_zero, List.set_cons_succ]
        refine takeS 20 (some 36) (.string (strOfNums m2)) rfl rfl (by kernel_rfl) (by kernel_rfl) (by kernel_rfl) (fun _ _ _ h => h) rfl S0 (fun w' hw' => by have cc := HV2.out w' hw'; go_simp) ?_
        simp only [Act.put, List.setIfInBounds_toArray, List.set_cons_zero, List.set_cons_succ]
        refine takeS 21 (some 37) (.bool false) rfl rfl (by kernel_rfl) (by kernel_rfl) (by kernel_rfl) (fun _ _ _ h => h) rfl S0 (fun w' hw' => by go_simp) ?_
        simp only [Act.put, List.setIfInBounds_toArray, List.set_cons_zero, List.set_cons_succ]
        refine takeS 22 (some 38) (.bool false) rfl rfl (by kernel_rfl) (by kernel_rfl) (by kernel_rfl) (fun _ _ _ h => h) rfl S0 (fun w' hw' => by go_simp) ?_
        simp only [Act.put, List.setIfInBounds_toArray, List.set_cons_zero, List.set_cons_succ]
        refine wpAnyH_done (by kernel_rfl) ?_ _
        go_wp2
        exact ⟨⟨k + 1, ps, by omega, by omega, by go_num, by have := Hq.out; omega, Hds.out.symm, ow0, S0⟩, by simp [intOf]; omega⟩
      | false =>
        rw [hE] at hds
        have hds' : diffL a b (k + 1) = ps.map (·.2) ++ [(k : Int)] := by rw [hds]; simp
        have Hds := Lib.hid hds'; clear hds hds'
        have e1 : ((strOfNums m1).toList == (strOfNums m2).toList) = false := hE
        have e2 : ¬ ((strOfNums m1).toList = (strOfNums m2).toList) := by simpa using e1
        clear hE
        go_wp2
        refine wp_region_held (S := Ext w) (by kernel_rfl) ?_
        change wpAnyH _ _ _ _ _ _ _ _ wr.drew
        have S0 : Ext w wr.drew := Below.drew ex
        have ow0 : OwnI wr.drew w.heap.size (.slice adl q capl) ps No := ow.ext ri_kept (Below.drew (Below.refl _ _))
        clear ow ex
        generalize wr.drew = W at *
        refine takeS 0 (some 16) (.int .i64 (k : Int)) rfl rfl (by kernel_rfl) (by kernel_rfl) (by kernel_rfl) (fun _ _ _ h => h) rfl S0 (fun w' hw' => by go_simp) ?_
        simp only [Act.put, List.setIfInBounds_toArray, List.set_cons_zero, List.set_cons_succ]
        refine takeS 1 (some 17) (Value.slice (some ⟨pb, po, none⟩) LA capa) rfl rfl (by kernel_rfl) (by kernel_rfl) (by kernel_rfl) (fun _ _ _ h => h) rfl S0 (fun w' hw' => by go_simp) ?_
        simp only [Act.put, List.setIfInBounds_toArray, List.set_cons_zero, List.set_cons_succ]
        refine takeS 2 (some 18) (.int .i64 (LA : Int)) rfl rfl (by kernel_rfl) (by kernel_rfl) (by kernel_rfl) (fun _ _ _ h => h) rfl S0 (fun w' hw' => by go_simp) ?_
        simp only [Act.put, List.setIfInBounds_toArray, List.set_cons_zero, List.set_cons_succ]
        refine takeS 3 (some 19) (.bool false) rfl rfl (by kernel_rfl) (by kernel_rfl) (by kernel_rfl) (fun _ _ _ h => h) rfl S0 (fun w' hw' => by go_simp) ?_
        simp only [Act.put, List.setIfInBounds_toArray, List.set_cons_zero, List.set_cons_succ]
        refine takeS 4 (some 20) (.bool false) rfl rfl (by kernel_rfl) (by kernel_rfl) (by kernel_rfl) (fun _ _ _ h => h) rfl S0 (fun w' hw' => by go_simp) ?_
        simp only [Act.put, List.setIfInBounds_toArray, List.set_cons_zero, List.set_cons_succ]
        refine takeS 5 (some 21) (.int .i64 (k : Int)) rfl rfl (by kernel_rfl) (by kernel_rfl) (by kernel_rfl) (fun _ _ _ h => h) rfl S0 (fun w' hw' => by go_simp) ?_
        simp only [Act.put, List.setIfInBounds_toArray, List.set_cons_zero, List.set_cons_succ]
        refine takeS 6 (some 22) (Value.slice (some ⟨qb, qo, none⟩) LB capb) rfl rfl (by kernel_rfl) (by kernel_rfl) (by kernel_rfl) (fun _ _ _ h => h) rfl S0 (fun w' hw' => by go_simp) ?_
        simp only [Act.put, List.setIfInBounds_toArray, List.set_cons_zero, List.set_cons_succ]
        refine takeS 7 (some 23) (.int .i64 (LB : Int)) rfl rfl (by kernel_rfl) (by kernel_rfl) (by kernel_rfl) (fun _ _ _ h => h) rfl S0 (fun w' hw' => by go_simp) ?_
        simp only [Act.put, List.setIfInBounds_toArray, List.set_cons_zero, List.set_cons_succ]
        refine takeS 8 (some 24) (.bool false) rfl rfl (by kernel_rfl) (by kernel_rfl) (by kernel_rfl) (fun _ _ _ h => h) rfl S0 (fun w' hw' => by go_simp) ?_
        simp only [Act.put, List.setIfInBounds_toArray, List.set_cons_zero, List.set_cons_succ]
        refine takeS 9 (some 25) (.bool false) rfl rfl (by kernel_rfl) (by kernel_rfl) (by kernel_rfl) (fun _ _ _ h => h) rfl S0 (fun w' hw' => by go_simp) ?_
        simp only [Act.put, List.setIfInBounds_toArray, List.set_cons_zero, List.set_cons_succ]
        refine takeS 10 (some 26) (.bool false) rfl rfl (by kernel_rfl) (by kernel_rfl) (by kernel_rfl) (fun _ _ _ h => h) rfl S0 (fun w' hw' => by go_simp) ?_
        simp only [Act.put, List.setIfInBounds_toArray, List.set_cons_zero, List.set_cons_succ]
        refine takeS 11 (some 27) (Value.slice (some ⟨pb, po, none⟩) LA capa) rfl rfl (by kernel_rfl) (by kernel_rfl) (by kernel_rfl) (fun _ _ _ h => h) rfl S0 (fun w' hw' => by go_simp) ?_
        simp only [Act.put, List.setIfInBounds_toArray, List.set_cons_zero, List.set_cons_succ]
        refine takeS 12 (some 28) (.int .i64 (k : Int)) rfl rfl (by kernel_rfl) (by kernel_rfl) (by kernel_rfl) (fun _ _ _ h => h) rfl S0 (fun w' hw' => by go_simp) ?_
        simp only [Act.put, List.setIfInBounds_toArray, List.set_cons_zero, List.set_cons_succ]
        refine takeS 13 (some 29) (.pointer (some ⟨pb, po + k, none⟩)) rfl rfl (by kernel_rfl) (by kernel_rfl) (by kernel_rfl) (fun _ _ _ h => h) rfl S0 (fun w' hw' => by go_simp) ?_
        simp only [Act.put, List.setIfInBounds_toArray, List.set_cons_zero, List.set_cons_succ]
        refine takeS 14 (some 30) (x1) rfl rfl (by kernel_rfl) (by kernel_rfl) (by kernel_rfl) (fun _ _ _ h => h) rfl S0 (fun w' hw' => by have cc := HC1.out w' hw'; go_simp) ?_
        simp only [Act.put, List.setIfInBounds_toArray, List.set_cons_zero, List.set_cons_succ]
        refine takeS 15 (some 31) (.string (strOfNums m1)) rfl rfl (by kernel_rfl) (by kernel_rfl) (by kernel_rfl) (fun _ _ _ h => h) rfl S0 (fun w' hw' => by have cc := HV1.out w' hw'; go_simp) ?_
        simp only [Act.put, List.setIfInBounds_toArray, List.set_cons_zero, List.set_cons_succ]
        refine takeS 16 (some 32) (Value.slice (some ⟨qb, qo, none⟩) LB capb) rfl rfl (by kernel_rfl) (by kernel_rfl) (by kernel_rfl) (fun _ _ _ h => h) rfl S0 (fun w' hw' => by go_simp) ?_
        simp only [Act.put, List.setIfInBounds_toArray, List.set_cons_zero, List.set_cons_succ]
        refine takeS 17 (some 33) (.int .i64 (k : Int)) rfl rfl (by kernel_rfl) (by kernel_rfl) (by kernel_rfl) (fun _ _ _ h => h) rfl S0 (fun w' hw' => by go_simp) ?_
        simp only [Act.put, List.setIfInBounds_toArray, List.set_cons_zero, List.set_cons_succ]
        refine takeS 18 (some 34) (.pointer (some ⟨qb, qo + k, none⟩)) rfl rfl (by kernel_rfl) (by kernel_rfl) (by kernel_rfl) (fun _ _ _ h => h) rfl S0 (fun w' hw' => by go_simp) ?_
        simp only [Act.put, List.setIfInBounds_toArray, List.set_cons_zero, List.set_cons_succ]
        refine takeS 19 (some 35) (x2) rfl rfl (by kernel_rfl) (by kernel_rfl) (by kernel_rfl) (fun _ _ _ h => h) rfl S0 (fun w' hw' => by have cc := HC2.out w' hw'; go_simp) ?_
        simp only [Act.put, List.setIfInBounds_toArray, List.set_cons_zero, List.set_cons_succ]
        refine takeS 20 (some 36) (.string (strOfNums m2)) rfl rfl (by kernel_rfl) (by kernel_rfl) (by kernel_rfl) (fun _ _ _ h => h) rfl S0 (fun w' hw' => by have cc := HV2.out w' hw'; go_simp) ?_
        simp only [Act.put, List.setIfInBounds_toArray, List.set_cons_zero, List.set_cons_succ]
        refine takeS 21 (some 37) (.bool true) rfl rfl (by kernel_rfl) (by kernel_rfl) (by kernel_rfl) (fun _ _ _ h => h) rfl S0 (fun w' hw' => by go_simp) ?_
        simp only [Act.put, List.setIfInBounds_toArray, List.set_cons_zero, List.set_cons_succ]
        refine takeS 22 (some 38) (.bool true) rfl rfl (by kernel_rfl) (by kernel_rfl) (by kernel_rfl) (fun _ _ _ h => h) rfl S0 (fun w' hw' => by go_simp) ?_
        simp only [Act.put, List.setIfInBounds_toArray, List.set_cons_zero, List.set_cons_succ]
        refine wpAnyH_done (by kernel_rfl) ?_ _
        have cI := cell_one W (.int .i64 (k : Int)) 3
        have S3 : Ext w (W.alloc (.cells #[.int .i64 (k : Int)] 3)) := Ext.trans S0 (Ext.alloc W _)
        go_wp2_with (refine list_append_g ri_kept rfl (.tmp 39) (.tmp 41) 42 rfl (.int .i64 0) 8 Tryd.underlying42 u3zero rfl (by omega) w.heap.size (.slice adl q capl) ps No rfl (own_one ri_kept ow0 _ 3) W.heap.size 1 _ (k : Int) rfl cI rfl (fun _ _ => rfl) (by have := Hq.out; omega) S3.size ?_; intro v3 w3 o3 b3)
        have S4 : Ext w w3 := Below.trans S3 b3
        exact ⟨⟨k + 1, _, by omega, by omega, by go_num, by have := Hq.out; simp; omega, by rw [Hds.out, List.map_append]; rfl, o3, S4⟩, by simp [intOf]; omega⟩
    · have ek : k = X := by omega
      have i0 : ¬ ((k : Int) < (X : Int)) := by omega
      have d0 : decide ((k : Int) < (X : Int)) = false := by simp; omega
      have hfin : IR wr (.slice adl q capl) (diffL a b X) := by rw [← ek, ← hps]; exact own_ir ow
      clear ek hlt
      go_wp2
      go_ret
      exact ⟨_, rfl, ex, hfin⟩

end Go.Proofs.YtmplnlcmdcogmaaDoor
