/- Contract of change: one act that moves names. -/
import Derived.Test.YtbneedmfpldpfaaDoorGh
import Derived.Test.YtbneedmfpldpfaaDoorSf
set_option linter.unusedSimpArgs false
namespace Go.Proofs.YtbneedmfpldpfaaDoor
open Go.RowKit Go.Pth

set_option maxRecDepth 100000 in
set_option maxHeartbeats 8000000 in
theorem change_moved (b g cap k : Nat) (S : SV) (V : SW) (L : Nat → Option Role) (f t : ByteArray) (w : World) (h : Rep w b S V L) (hac : S.acts.length ≤ 100000) (hvn : V.n = .slice (some ⟨g, 0, none⟩) S.names.length cap) (hf0 : (f.toList == []) = false) (ht0 : (t.toList == []) = false)
    (hst : ∀ w', Rep w' b S V L → Steps w' b 2 g cap S.names f t k) (hms : Srt (mvl S.names f.toList t.toList k)) (hmr : ∀ p ∈ mvl S.names f.toList t.toList k, p.2 ∈ S.ids) :
    Calls Tryd.prog 45 #[ptr b, .agg #[.string f, .string t, .pointer none]] w fun e w' => e = .returned (.tuple #[]) ∧ ∃ V' L', Rep w' b { S with names := mvl S.names f.toList t.toList k, acts := S.acts ++ [⟨f.toList, t.toList, none⟩] } V' L' ∧ StTo w w' L L' := by
  obtain ⟨W1, hW1⟩ : ∃ W1, W1 = w.alloc (.cells #[.string f, .string t, .pointer none] 87) := ⟨_, rfl⟩
  have e1 : Ext w W1.drew := by rw [hW1]; exact (Ext.alloc _ _).trans (Ext.drew _)
  have hat1 : At W1 w.heap.size #[.string f, .string t, .pointer none] 87 := by rw [hW1]; exact At.new _ _ _
  obtain ⟨W2, hW2⟩ : ∃ W2, W2 = W1.drew.alloc (.cells #[.string f, .string t, .pointer none] 87) := ⟨_, rfl⟩
  have s1 : W1.heap.size = w.heap.size + 1 := by rw [hW1]; exact size_alloc _ _
  have e2 : Ext W1 W2 := by rw [hW2]; exact (Ext.drew _).trans (Ext.alloc _ _)
  have e12 : Ext w W2 := by refine Ext.trans ?_ e2; rw [hW1]; exact Ext.alloc _ _
  have hat2 : At W2 (w.heap.size + 1) #[.string f, .string t, .pointer none] 87 := by rw [hW2, ← s1]; exact At.new _ _ _
  have h2 := h.ext e12
  have hgb : V.n.ownBlock = some g := by rw [hvn]; rfl
  have AP := apply_moved b 2 g cap k (scells S V) 68 S.names f t (w.heap.size + 1) 0 1 W2 h2.cell (h2.nm.lt g hgb) hf0 ht0 (fun w' he => hst w' (h2.ext he)) (by rw [hat2.cell]; rfl) (by rw [hat2.cell]; rfl) (by rw [hat2.cell]; rfl)
  have AP2 : Calls Tryd.prog 33 #[.pointer (some ⟨b, 2, none⟩), .slice (some ⟨w.heap.size + 1, 0, none⟩) 1 1] W2 fun e w' => e = .returned (.tuple #[]) ∧ ∃ V' L', Rep w' b { S with names := mvl S.names f.toList t.toList k } V' L' ∧ StTo w w' L L' ∧ w'.cell? ⟨w.heap.size, 0, none⟩ = some (.string f) ∧ w'.cell? ⟨w.heap.size, 1, none⟩ = some (.string t) ∧ w'.cell? ⟨w.heap.size, 2, none⟩ = some (.pointer none) :=
    AP.mono fun e w' ⟨q1, v', w1, q2, q3, q4⟩ => by
      rw [← hvn] at q3
      have r := h2.setNames (l' := mvl S.names f.toList t.toList k) (by rw [mvl_len]; exact q2) q3 hms hmr
      have hL : ¬ L w.heap.size ≠ none := fun e => by have := h.lt _ e; omega
      have hc := r.2.chg.at (hat1.ext e2) hL
      subst q4
      exact ⟨q1, _, _, r.1, (StTo.of_ext e12).trans r.2, by rw [hc.cell]; rfl, by rw [hc.cell]; rfl, by rw [hc.cell]; rfl⟩
  have HP := Lib.hid AP2
  have C0 : W1.drew.cell? ⟨w.heap.size, 0, none⟩ = some (.string f) := by rw [show W1.drew.cell? ⟨w.heap.size, 0, none⟩ = W1.cell? ⟨w.heap.size, 0, none⟩ from rfl, hat1.cell]; rfl
  have C1 : W1.drew.cell? ⟨w.heap.size, 1, none⟩ = some (.string t) := by rw [show W1.drew.cell? ⟨w.heap.size, 1, none⟩ = W1.cell? ⟨w.heap.size, 1, none⟩ from rfl, hat1.cell]; rfl
  have C2 : W1.drew.cell? ⟨w.heap.size, 2, none⟩ = some (.pointer none) := by rw [show W1.drew.cell? ⟨w.heap.size, 2, none⟩ = W1.cell? ⟨w.heap.size, 2, none⟩ from rfl, hat1.cell]; rfl
  have HW1 := Lib.hid hW1
  have HW2 := Lib.hid hW2
  have S1 := Lib.hid s1
  clear AP AP2 h2 hat1 hat2 e1 e2 e12 h hst hvn hms hmr hf0 ht0 hgb s1
  unfold ptr at *
  go_enter Tryd.func45, Tryd.ntmps45
  go_upto_region 1 with fail
  rw [← HW1.out]
  refine wp_region_any (by kernel_rfl) ?_
  change wpAny _ _ _ _ _ _ _ (World.drew _)
  refine take_at 0 (some 4) (.pointer (some ⟨b, 0, none⟩)) rfl rfl (by kernel_rfl) (by kernel_rfl) (by kernel_rfl) (fun _ _ _ h => h) rfl (fun _ => by go_simp) ?_
  simp only [Act.put, List.setIfInBounds_toArray, List.set_cons_zero, List.set_cons_succ]
  refine take_at 1 (some 5) (.pointer (some ⟨b, 0, none⟩)) rfl rfl (by kernel_rfl) (by kernel_rfl) (by kernel_rfl) (fun _ _ _ h => h) rfl (fun _ => by go_simp) ?_
  simp only [Act.put, List.setIfInBounds_toArray, List.set_cons_zero, List.set_cons_succ]
  refine take_at 2 (some 6) (.pointer (some ⟨b, 2, none⟩)) rfl rfl (by kernel_rfl) (by kernel_rfl) (by kernel_rfl) (fun _ _ _ h => h) rfl (fun _ => by go_simp) ?_
  simp only [Act.put, List.setIfInBounds_toArray, List.set_cons_zero, List.set_cons_succ]
  refine next_one 3 rfl (by kernel_rfl) rfl (fun K hK => ?_)
  refine runL (some 7) rfl (.agg #[.string f, .string t, .pointer none]) (by go_simp) ?_
  refine hK _ _ ?_
  clear hK K
  simp only [Act.put, List.setIfInBounds_toArray, List.set_cons_zero, List.set_cons_succ]
  refine next_one 4 rfl (by kernel_rfl) rfl (fun K hK => ?_)
  refine runV (some 8) rfl (.slice (some ⟨w.heap.size + 1, 0, none⟩) 1 1) W2 (by have h1 := HW2.out; have h2 := S1.out; go_simp) ?_
  refine hK _ _ ?_
  clear hK K
  simp only [Act.put, List.setIfInBounds_toArray, List.set_cons_zero, List.set_cons_succ]
  refine next_one 5 rfl (by kernel_rfl) rfl (fun K hK => ?_)
  refine callS (some 9) rfl 33 #[.pointer (some ⟨b, 2, none⟩), .slice (some ⟨w.heap.size + 1, 0, none⟩) 1 1] (by go_simp) (fun v w' => v = .tuple #[] ∧ ∃ V' L', Rep w' b { S with names := mvl S.names f.toList t.toList k } V' L' ∧ StTo w w' L L' ∧ w'.cell? ⟨w.heap.size, 0, none⟩ = some (.string f) ∧ w'.cell? ⟨w.heap.size, 1, none⟩ = some (.string t) ∧ w'.cell? ⟨w.heap.size, 2, none⟩ = some (.pointer none)) ((HP.out).mono fun e w' he => ⟨_, he.1, rfl, he.2⟩) ?_
  rintro v3 W3 ⟨rfl, V3, L3, r3, t3, k0, k1, k2⟩
  refine hK _ _ ?_
  clear hK K
  simp only [Act.put, List.setIfInBounds_toArray, List.set_cons_zero, List.set_cons_succ]
  refine wpAny_done (by kernel_rfl) ?_ _
  clear HP HW1 HW2 S1 C0 C1 C2 hW1 hW2 W1 W2
  have D0 : W3.drew.cell? ⟨w.heap.size, 0, none⟩ = some (.string f) := k0
  have D1 : W3.drew.cell? ⟨w.heap.size, 1, none⟩ = some (.string t) := k1
  have D2 : W3.drew.cell? ⟨w.heap.size, 2, none⟩ = some (.pointer none) := k2
  have ca : W3.drew.cell? ⟨b, 4, none⟩ = some V3.a := by rw [show W3.drew.cell? ⟨b, 4, none⟩ = W3.cell? ⟨b, 4, none⟩ from rfl, r3.c 4]; rfl
  obtain ⟨W4, hW4⟩ : ∃ W4, W4 = W3.drew.alloc (.cells #[.string f, .string t, .pointer none] 87) := ⟨_, rfl⟩
  have e4 : Ext W3.drew W4 := by rw [hW4]; exact Ext.alloc _ _
  have r4 := (r3.ext (Ext.drew W3)).ext e4
  have hat4 : At W4 W3.heap.size #[.string f, .string t, .pointer none] 87 := by rw [hW4]; exact At.new W3.drew _ _
  obtain ⟨i, hi1, hi2, hi3, hi4⟩ := info_of info87
  obtain ⟨v5, W5, hrun, hrow, hg⟩ := run_append_row (P := Tryd.prog) W4 66 66 66 87 i _ Tryd.underlying66 hi1 hi2 (by rw [hi3]; rfl) V3.a S.acts.length (acells S.acts) (by rw [hi3]; exact r4.ac) (.slice (some ⟨W3.heap.size, 0, none⟩) 1 1) 1 [.string f, .string t, .pointer none] (by
    rw [hi3]
    refine Src.ofSlice W4 Tryd.underlying66 ⟨W3.heap.size, 0, none⟩ 1 1 _ rfl (fun q u hu => ?_) (by simp [Value.oneCell'])
    rw [Addr.add_lit, Nat.zero_add, hat4.cell, ← hu]; simp) (by simp only [maxLen]; omega) (by rw [hi4]; omega)
  rw [hi3] at hrow
  have hac2 : acells S.acts ++ [.string f, .string t, .pointer none] = acells (S.acts ++ [⟨f.toList, t.toList, none⟩]) := by rw [acells_app]; simp [acells, list_tx, optr]
  rw [hac2] at hrow
  obtain ⟨d5, k5, hv5, -⟩ := hrow.shape
  subst hv5
  have FN := r4.setActs (l' := S.acts ++ [⟨f.toList, t.toList, none⟩]) (by simpa using hrow) hg
  have FIN := Lib.hid (⟨_, _, FN.1, t3.trans (((StTo.of_ext (Ext.drew W3)).trans (StTo.of_ext e4)).trans FN.2)⟩ : ∃ V' L', Rep (W5.setCell ⟨b, 4, none⟩ (.slice d5 (S.acts.length + 1) k5)) b { S with names := mvl S.names f.toList t.toList k, acts := S.acts ++ [⟨f.toList, t.toList, none⟩] } V' L' ∧ StTo w _ L L')
  have at5 := hg.chg.at r4.cell (fun e => by have := r4.la b e; rw [r4.lb] at this; cases this)
  have c5 := at5.cell 4
  simp only [scells] at c5
  have f5 := at5.frozen 4
  have ca4 := e4.cell ca
  have HR := Lib.hid hrun
  have E4 := Lib.hid e4
  have HW4 := Lib.hid hW4
  clear FN hrow hg at5 hrun hat4 r4 r3 t3 hi1 hi2 hi3 hi4 e4 hac2 k0 k1 k2 hW4
  generalize S.acts.length = na at *
  go_upto_region 2 with fail
  refine wp_region_any (by kernel_rfl) ?_
  change wpAny _ _ _ _ _ _ _ (World.drew _)
  refine take_at 0 (some 10) (.pointer (some ⟨b, 0, none⟩)) rfl rfl (by kernel_rfl) (by kernel_rfl) (by kernel_rfl) (fun _ _ _ h => h) rfl (fun _ => by go_simp) ?_
  simp only [Act.put, List.setIfInBounds_toArray, List.set_cons_zero, List.set_cons_succ]
  refine take_at 1 (some 11) (.pointer (some ⟨b, 0, none⟩)) rfl rfl (by kernel_rfl) (by kernel_rfl) (by kernel_rfl) (fun _ _ _ h => h) rfl (fun _ => by go_simp) ?_
  simp only [Act.put, List.setIfInBounds_toArray, List.set_cons_zero, List.set_cons_succ]
  refine take_at 2 (some 12) (.pointer (some ⟨b, 0, none⟩)) rfl rfl (by kernel_rfl) (by kernel_rfl) (by kernel_rfl) (fun _ _ _ h => h) rfl (fun _ => by go_simp) ?_
  simp only [Act.put, List.setIfInBounds_toArray, List.set_cons_zero, List.set_cons_succ]
  refine take_at 3 (some 13) (.pointer (some ⟨b, 4, none⟩)) rfl rfl (by kernel_rfl) (by kernel_rfl) (by kernel_rfl) (fun _ _ _ h => h) rfl (fun _ => by go_simp) ?_
  simp only [Act.put, List.setIfInBounds_toArray, List.set_cons_zero, List.set_cons_succ]
  refine next_two 4 5 rfl rfl (by kernel_rfl) rfl rfl (fun K hK => ?_) (fun K hK => ?_)
  · first | (refine runL (some 14) rfl V3.a (by go_simp) ?_; refine hK _ _ ?_; clear hK K; simp only [Act.put, List.setIfInBounds_toArray, List.set_cons_zero, List.set_cons_succ])
    refine next_one 5 rfl (by kernel_rfl) rfl (fun K hK => ?_)
    refine runL (some 15) rfl (.agg #[.string f, .string t, .pointer none]) (by go_simp) ?_
    refine hK _ _ ?_
    clear hK K
    simp only [Act.put, List.setIfInBounds_toArray, List.set_cons_zero, List.set_cons_succ]
    refine next_one 6 rfl (by kernel_rfl) rfl (fun K hK => ?_)
    refine runV (some 16) rfl (.slice (some ⟨W3.heap.size, 0, none⟩) 1 1) W4 (by have h1 := HW4.out; go_simp) ?_
    refine hK _ _ ?_
    clear hK K
    simp only [Act.put, List.setIfInBounds_toArray, List.set_cons_zero, List.set_cons_succ]
    refine next_one 7 rfl (by kernel_rfl) rfl (fun K hK => ?_)
    refine Lib.wp_append_run _ (.tmp 14) (.tmp 16) 66 66 rfl V3.a (.slice (some ⟨W3.heap.size, 0, none⟩) 1 1) rfl rfl _ _ HR.out ?_
    refine hK _ _ ?_
    clear hK K
    simp only [Act.put, List.setIfInBounds_toArray, List.set_cons_zero, List.set_cons_succ]
    refine take_at 8 (some 18) (.pointer (some ⟨b, 0, none⟩)) rfl rfl (by kernel_rfl) (by kernel_rfl) (by kernel_rfl) (fun _ _ _ h => h) rfl (fun _ => by go_simp) ?_
    simp only [Act.put, List.setIfInBounds_toArray, List.set_cons_zero, List.set_cons_succ]
    refine take_at 9 (some 19) (.pointer (some ⟨b, 4, none⟩)) rfl rfl (by kernel_rfl) (by kernel_rfl) (by kernel_rfl) (fun _ _ _ h => h) rfl (fun _ => by go_simp) ?_
    simp only [Act.put, List.setIfInBounds_toArray, List.set_cons_zero, List.set_cons_succ]
    refine next_one 10 rfl (by kernel_rfl) rfl (fun K hK => ?_)
    refine runN rfl (W5.setCell ⟨b, 4, none⟩ (.slice d5 (na + 1) k5)) (by go_simp) ?_
    refine hK _ _ ?_
    clear hK K
    refine wpAny_done (by kernel_rfl) ?_ _
    go_wp2
    go_end0
    exact ⟨rfl, FIN.out⟩
  · refine runL (some 15) rfl (.agg #[.string f, .string t, .pointer none]) (by go_simp) ?_
    refine hK _ _ ?_
    clear hK K
    simp only [Act.put, List.setIfInBounds_toArray, List.set_cons_zero, List.set_cons_succ]
    refine next_two 4 6 rfl rfl (by kernel_rfl) rfl rfl (fun K hK => ?_) (fun K hK => ?_)
    · first | (refine runL (some 14) rfl V3.a (by go_simp) ?_; refine hK _ _ ?_; clear hK K; simp only [Act.put, List.setIfInBounds_toArray, List.set_cons_zero, List.set_cons_succ])
      refine next_one 6 rfl (by kernel_rfl) rfl (fun K hK => ?_)
      refine runV (some 16) rfl (.slice (some ⟨W3.heap.size, 0, none⟩) 1 1) W4 (by have h1 := HW4.out; go_simp) ?_
      refine hK _ _ ?_
      clear hK K
      simp only [Act.put, List.setIfInBounds_toArray, List.set_cons_zero, List.set_cons_succ]
      refine next_one 7 rfl (by kernel_rfl) rfl (fun K hK => ?_)
      refine Lib.wp_append_run _ (.tmp 14) (.tmp 16) 66 66 rfl V3.a (.slice (some ⟨W3.heap.size, 0, none⟩) 1 1) rfl rfl _ _ HR.out ?_
      refine hK _ _ ?_
      clear hK K
      simp only [Act.put, List.setIfInBounds_toArray, List.set_cons_zero, List.set_cons_succ]
      refine take_at 8 (some 18) (.pointer (some ⟨b, 0, none⟩)) rfl rfl (by kernel_rfl) (by kernel_rfl) (by kernel_rfl) (fun _ _ _ h => h) rfl (fun _ => by go_simp) ?_
      simp only [Act.put, List.setIfInBounds_toArray, List.set_cons_zero, List.set_cons_succ]
      refine take_at 9 (some 19) (.pointer (some ⟨b, 4, none⟩)) rfl rfl (by kernel_rfl) (by kernel_rfl) (by kernel_rfl) (fun _ _ _ h => h) rfl (fun _ => by go_simp) ?_
      simp only [Act.put, List.setIfInBounds_toArray, List.set_cons_zero, List.set_cons_succ]
      refine next_one 10 rfl (by kernel_rfl) rfl (fun K hK => ?_)
      refine runN rfl (W5.setCell ⟨b, 4, none⟩ (.slice d5 (na + 1) k5)) (by go_simp) ?_
      refine hK _ _ ?_
      clear hK K
      refine wpAny_done (by kernel_rfl) ?_ _
      go_wp2
      go_end0
      exact ⟨rfl, FIN.out⟩
    · refine runV (some 16) rfl (.slice (some ⟨W3.heap.size, 0, none⟩) 1 1) W4 (by have h1 := HW4.out; go_simp) ?_
      refine hK _ _ ?_
      clear hK K
      simp only [Act.put, List.setIfInBounds_toArray, List.set_cons_zero, List.set_cons_succ]
      refine next_one 4 rfl (by kernel_rfl) rfl (fun K hK => ?_)
      first | (refine runL (some 14) rfl V3.a (by go_simp) ?_; refine hK _ _ ?_; clear hK K; simp only [Act.put, List.setIfInBounds_toArray, List.set_cons_zero, List.set_cons_succ])
      refine next_one 7 rfl (by kernel_rfl) rfl (fun K hK => ?_)
      refine Lib.wp_append_run _ (.tmp 14) (.tmp 16) 66 66 rfl V3.a (.slice (some ⟨W3.heap.size, 0, none⟩) 1 1) rfl rfl _ _ HR.out ?_
      refine hK _ _ ?_
      clear hK K
      simp only [Act.put, List.setIfInBounds_toArray, List.set_cons_zero, List.set_cons_succ]
      refine take_at 8 (some 18) (.pointer (some ⟨b, 0, none⟩)) rfl rfl (by kernel_rfl) (by kernel_rfl) (by kernel_rfl) (fun _ _ _ h => h) rfl (fun _ => by go_simp) ?_
      simp only [Act.put, List.setIfInBounds_toArray, List.set_cons_zero, List.set_cons_succ]
      refine take_at 9 (some 19) (.pointer (some ⟨b, 4, none⟩)) rfl rfl (by kernel_rfl) (by kernel_rfl) (by kernel_rfl) (fun _ _ _ h => h) rfl (fun _ => by go_simp) ?_
      simp only [Act.put, List.setIfInBounds_toArray, List.set_cons_zero, List.set_cons_succ]
      refine next_one 10 rfl (by kernel_rfl) rfl (fun K hK => ?_)
      refine runN rfl (W5.setCell ⟨b, 4, none⟩ (.slice d5 (na + 1) k5)) (by go_simp) ?_
      refine hK _ _ ?_
      clear hK K
      refine wpAny_done (by kernel_rfl) ?_ _
      go_wp2
      go_end0
      exact ⟨rfl, FIN.out⟩
end Go.Proofs.YtbneedmfpldpfaaDoor
