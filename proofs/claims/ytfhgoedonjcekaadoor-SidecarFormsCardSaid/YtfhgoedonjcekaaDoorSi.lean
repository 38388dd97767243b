/- The contract of the document's own Sound. -/
import Derived.Test.YtfhgoedonjcekaaDoorSb
import Derived.Test.YtfhgoedonjcekaaDoorWw
import Derived.Test.YtfhgoedonjcekaaDoorPe
namespace Go.Proofs.YtfhgoedonjcekaaDoor
open Go.RowKit Go.Sha
set_option linter.unusedSimpArgs false
set_option linter.unusedVariables false

theorem eqS_comm (a b : List Int) : eqS a b = eqS b a := by
  unfold eqS
  rw [Bool.eq_iff_iff]
  simp only [beq_iff_eq]
  exact eq_comm
def InvSd (w : World) (ls : List (List Int)) (s : Int) (n : Nat) (i : Value) (wr : World) : Prop := ∃ k : Nat, k ≤ n ∧ i = .int .i64 k ∧ Ext w wr ∧ allS (ls.take k) s = true

set_option maxHeartbeats 16000000 in
set_option maxRecDepth 100000 in
theorem rsound_any (s : Sd) (vr vl vp : Value) (w : World) (h : SR w s vr vl vp) (hll : s.leaves.length ≤ 9223372036854775807) (hlp : s.parity.length ≤ 9223372036854775807) :
    Calls Tryd.prog 18 #[.agg #[.int .i64 s.size, .int .i64 s.block, .int .i64 s.k, vr, vl, vp]] w fun e w' => e = .returned (.bool (soundL s)) ∧ Ext w w' := by
  obtain ⟨adr, capr, ev⟩ := h.r.len
  subst ev
  obtain ⟨adl, capl, ev⟩ := h.l.len
  subst ev
  obtain ⟨adp, capp, ev⟩ := h.p.len
  subst ev
  obtain ⟨z, b, k, rt, ls, ps⟩ := s
  simp only at *
  obtain ⟨nr, hnr⟩ : ∃ n, n = rt.length := ⟨_, rfl⟩
  obtain ⟨nl, hnl⟩ : ∃ n, n = ls.length := ⟨_, rfl⟩
  obtain ⟨np, hnp⟩ : ∃ n, n = ps.length := ⟨_, rfl⟩
  obtain ⟨E, hE⟩ : ∃ E, E = eqS (rootL ls) rt := ⟨_, rfl⟩
  obtain ⟨C1, hC1⟩ : ∃ E, E = cntL z b := ⟨_, rfl⟩
  obtain ⟨C2, hC2⟩ : ∃ E, E = grpsN z b k := ⟨_, rfl⟩
  have F : soundL ⟨z, b, k, rt, ls, ps⟩ = (mayL z b k && (allS ls 32 && ((nl : Int) == C1)) && (allS ps b && ((np : Int) == C2)) && E) := by
    rw [soundL, hE, eqS_comm, hC1, hC2, hnl, hnp]; rfl
  rw [F]
  clear F
  have hl6 : mayL z b k = true → (nl : Int) = C1 → ls.length ≤ 1000000 := fun h1 h2 => by
    have h4 := (mayL_iff _ _ _).1 h1
    have h5 : cntL z b ≤ 20000 := by
      unfold cntL
      split
      · omega
      · exact Int.le_trans (Int.ediv_le_self _ (by omega)) (by omega)
    omega
  have hb6 : allS ls 32 = true → ∀ m ∈ ls, m.length ≤ 14000 := fun h2 m hm => by
    unfold allS at h2
    have := List.all_eq_true.1 h2 m hm
    simp at this
    omega
  rw [← hnr, ← hnl, ← hnp] at h ⊢
  rw [← hnl] at hll
  rw [← hnp] at hlp
  have HNL := Lib.hid hnl
  have HNP := Lib.hid hnp
  have HE := Lib.hid hE
  have HC1 := Lib.hid hC1
  have HC2 := Lib.hid hC2
  clear hnr hnl hnp hE hC1 hC2
  have e0 : Ext w (w.alloc (.cells #[.int .i64 z, .int .i64 b, .int .i64 k, .slice adr nr capr, .slice adl nl capl, .slice adp np capp] 30)) := Ext.alloc w _
  have a0 := At.new w #[.int .i64 z, .int .i64 b, .int .i64 k, .slice adr nr capr, .slice adl nl capl, .slice adp np capp] 30
  have R := h.ext e0
  obtain ⟨w0, hw0⟩ : ∃ w0, w0 = w.alloc (.cells #[.int .i64 z, .int .i64 b, .int .i64 k, .slice adr nr capr, .slice adl nl capl, .slice adp np capp] 30) := ⟨_, rfl⟩
  rw [← hw0] at e0 a0 R
  have HB := Lib.hid (fun (w' : World) (hw' : Ext w0 w') => at_ext a0 hw')
  have HRR := Lib.hid R
  clear h R
  by_cases c1 : z < 0
  · have d1 : decide (z < 0) = true := by simpa using c1
    have M : mayL z b k = false := by
      rw [Bool.eq_false_iff]
      intro h
      have := (mayL_iff _ _ _).1 h
      omega
    rw [M, Bool.false_and, Bool.false_and, Bool.false_and]
    clear M hl6 hb6 hll hlp
    subst hw0
    have f0 := a0.cell 0
    have f1 := a0.cell 1
    have f2 := a0.cell 2
    go_enter Tryd.func18, Tryd.ntmps18
    go_wp2
    go_quiet (fail)
    go_wp2
    go_ret
    exact ⟨rfl, e0.trans (belowN (Ext.refl _) _)⟩
  have d1 : decide (z < 0) = false := by simpa using c1
  by_cases c2 : 8192 < z
  · have d2 : decide (8192 < z) = true := by simpa using c2
    have M : mayL z b k = false := by
      rw [Bool.eq_false_iff]
      intro h
      have := (mayL_iff _ _ _).1 h
      omega
    rw [M, Bool.false_and, Bool.false_and, Bool.false_and]
    clear M hl6 hb6 hll hlp
    subst hw0
    have f0 := a0.cell 0
    have f1 := a0.cell 1
    have f2 := a0.cell 2
    go_enter Tryd.func18, Tryd.ntmps18
    go_wp2
    go_quiet (fail)
    go_wp2
    go_ret
    exact ⟨rfl, e0.trans (belowN (Ext.refl _) _)⟩
  have d2 : decide (8192 < z) = false := by simpa using c2
  by_cases c3 : b < 16
  · have d3 : decide (b < 16) = true := by simpa using c3
    have M : mayL z b k = false := by
      rw [Bool.eq_false_iff]
      intro h
      have := (mayL_iff _ _ _).1 h
      omega
    rw [M, Bool.false_and, Bool.false_and, Bool.false_and]
    clear M hl6 hb6 hll hlp
    subst hw0
    have f0 := a0.cell 0
    have f1 := a0.cell 1
    have f2 := a0.cell 2
    go_enter Tryd.func18, Tryd.ntmps18
    go_wp2
    go_quiet (fail)
    go_wp2
    go_ret
    exact ⟨rfl, e0.trans (belowN (Ext.refl _) _)⟩
  have d3 : decide (b < 16) = false := by simpa using c3
  by_cases c4 : 4096 < b
  · have d4 : decide (4096 < b) = true := by simpa using c4
    have M : mayL z b k = false := by
      rw [Bool.eq_false_iff]
      intro h
      have := (mayL_iff _ _ _).1 h
      omega
    rw [M, Bool.false_and, Bool.false_and, Bool.false_and]
    clear M hl6 hb6 hll hlp
    subst hw0
    have f0 := a0.cell 0
    have f1 := a0.cell 1
    have f2 := a0.cell 2
    go_enter Tryd.func18, Tryd.ntmps18
    go_wp2
    go_quiet (fail)
    go_wp2
    go_ret
    exact ⟨rfl, e0.trans (belowN (Ext.refl _) _)⟩
  have d4 : decide (4096 < b) = false := by simpa using c4
  by_cases c5 : k < 1
  · have d5 : decide (k < 1) = true := by simpa using c5
    have M : mayL z b k = false := by
      rw [Bool.eq_false_iff]
      intro h
      have := (mayL_iff _ _ _).1 h
      omega
    rw [M, Bool.false_and, Bool.false_and, Bool.false_and]
    clear M hl6 hb6 hll hlp
    subst hw0
    have f0 := a0.cell 0
    have f1 := a0.cell 1
    have f2 := a0.cell 2
    go_enter Tryd.func18, Tryd.ntmps18
    go_wp2
    go_quiet (fail)
    go_wp2
    go_ret
    exact ⟨rfl, e0.trans (belowN (Ext.refl _) _)⟩
  have d5 : decide (k < 1) = false := by simpa using c5
  by_cases c6 : 8 < k
  · have d6 : decide (8 < k) = true := by simpa using c6
    have M : mayL z b k = false := by
      rw [Bool.eq_false_iff]
      intro h
      have := (mayL_iff _ _ _).1 h
      omega
    rw [M, Bool.false_and, Bool.false_and, Bool.false_and]
    clear M hl6 hb6 hll hlp
    subst hw0
    have f0 := a0.cell 0
    have f1 := a0.cell 1
    have f2 := a0.cell 2
    go_enter Tryd.func18, Tryd.ntmps18
    go_wp2
    go_quiet (fail)
    go_wp2
    go_ret
    exact ⟨rfl, e0.trans (belowN (Ext.refl _) _)⟩
  have d6 : decide (8 < k) = false := by simpa using c6
  have M : mayL z b k = true := (mayL_iff _ _ _).2 (by omega)
  rw [M, Bool.true_and]
  replace hl6 := hl6 M
  clear c1 c2 c3 c4 c5 c6 M a0
  by_cases c7 : (nl : Int) = C1
  rotate_left
  · have t7 : ((nl : Int) == C1) = false := by simpa using c7
    have t7' : ((nl : Int) != C1) = true := by simpa using c7
    rw [t7, Bool.and_false, Bool.false_and, Bool.false_and]
    clear c7 hl6 hb6
    go_enter Tryd.func18, Tryd.ntmps18
    go_wp2
    rw [← hw0]
    refine wp_region_held (S := Ext w0) (by kernel_rfl) ?_
    change wpAnyH _ _ _ _ _ _ _ _ w0.drew
    have S0 : Ext w0 w0.drew := Below.drew (Below.refl _ _)
    generalize w0.drew = W at *
    refine takeS 0 (some 5) (.pointer (some ⟨w.heap.size, 0, none⟩)) rfl rfl (by kernel_rfl) (by kernel_rfl) (by kernel_rfl) (fun _ _ _ h => h) rfl S0 (fun w' hw' => by go_simp) ?_
    simp only [Act.put, List.setIfInBounds_toArray, List.set_cons_zero, List.set_cons_succ]
    refine takeS 1 (some 6) (.int .i64 z) rfl rfl (by kernel_rfl) (by kernel_rfl) (by kernel_rfl) (fun _ _ _ h => h) rfl S0 (fun w' hw' => by have cc : w'.cell? ⟨w.heap.size, 0, none⟩ = some (.int .i64 z) := ((HB.out w' hw').cell 0).trans rfl; go_simp) ?_
    simp only [Act.put, List.setIfInBounds_toArray, List.set_cons_zero, List.set_cons_succ]
    refine takeS 2 (some 7) (.bool false) rfl rfl (by kernel_rfl) (by kernel_rfl) (by kernel_rfl) (fun _ _ _ h => h) rfl S0 (fun w' hw' => by go_simp) ?_
    simp only [Act.put, List.setIfInBounds_toArray, List.set_cons_zero, List.set_cons_succ]
    refine takeS 3 (some 8) (.bool false) rfl rfl (by kernel_rfl) (by kernel_rfl) (by kernel_rfl) (fun _ _ _ h => h) rfl S0 (fun w' hw' => by go_simp) ?_
    simp only [Act.put, List.setIfInBounds_toArray, List.set_cons_zero, List.set_cons_succ]
    refine takeS 4 (some 9) (.pointer (some ⟨w.heap.size, 0, none⟩)) rfl rfl (by kernel_rfl) (by kernel_rfl) (by kernel_rfl) (fun _ _ _ h => h) rfl S0 (fun w' hw' => by go_simp) ?_
    simp only [Act.put, List.setIfInBounds_toArray, List.set_cons_zero, List.set_cons_succ]
    refine takeS 5 (some 10) (.int .i64 z) rfl rfl (by kernel_rfl) (by kernel_rfl) (by kernel_rfl) (fun _ _ _ h => h) rfl S0 (fun w' hw' => by have cc : w'.cell? ⟨w.heap.size, 0, none⟩ = some (.int .i64 z) := ((HB.out w' hw').cell 0).trans rfl; go_simp) ?_
    simp only [Act.put, List.setIfInBounds_toArray, List.set_cons_zero, List.set_cons_succ]
    refine takeS 6 (some 11) (.bool false) rfl rfl (by kernel_rfl) (by kernel_rfl) (by kernel_rfl) (fun _ _ _ h => h) rfl S0 (fun w' hw' => by go_simp) ?_
    simp only [Act.put, List.setIfInBounds_toArray, List.set_cons_zero, List.set_cons_succ]
    refine takeS 7 (some 12) (.bool false) rfl rfl (by kernel_rfl) (by kernel_rfl) (by kernel_rfl) (fun _ _ _ h => h) rfl S0 (fun w' hw' => by go_simp) ?_
    simp only [Act.put, List.setIfInBounds_toArray, List.set_cons_zero, List.set_cons_succ]
    refine takeS 8 (some 13) (.bool false) rfl rfl (by kernel_rfl) (by kernel_rfl) (by kernel_rfl) (fun _ _ _ h => h) rfl S0 (fun w' hw' => by go_simp) ?_
    simp only [Act.put, List.setIfInBounds_toArray, List.set_cons_zero, List.set_cons_succ]
    refine takeS 9 (some 14) (.pointer (some ⟨w.heap.size, 1, none⟩)) rfl rfl (by kernel_rfl) (by kernel_rfl) (by kernel_rfl) (fun _ _ _ h => h) rfl S0 (fun w' hw' => by go_simp) ?_
    simp only [Act.put, List.setIfInBounds_toArray, List.set_cons_zero, List.set_cons_succ]
    refine takeS 10 (some 15) (.int .i64 b) rfl rfl (by kernel_rfl) (by kernel_rfl) (by kernel_rfl) (fun _ _ _ h => h) rfl S0 (fun w' hw' => by have cc : w'.cell? ⟨w.heap.size, 1, none⟩ = some (.int .i64 b) := ((HB.out w' hw').cell 1).trans rfl; go_simp) ?_
    simp only [Act.put, List.setIfInBounds_toArray, List.set_cons_zero, List.set_cons_succ]
    refine takeS 11 (some 16) (.bool false) rfl rfl (by kernel_rfl) (by kernel_rfl) (by kernel_rfl) (fun _ _ _ h => h) rfl S0 (fun w' hw' => by go_simp) ?_
    simp only [Act.put, List.setIfInBounds_toArray, List.set_cons_zero, List.set_cons_succ]
    refine takeS 12 (some 17) (.bool false) rfl rfl (by kernel_rfl) (by kernel_rfl) (by kernel_rfl) (fun _ _ _ h => h) rfl S0 (fun w' hw' => by go_simp) ?_
    simp only [Act.put, List.setIfInBounds_toArray, List.set_cons_zero, List.set_cons_succ]
    refine takeS 13 (some 18) (.bool false) rfl rfl (by kernel_rfl) (by kernel_rfl) (by kernel_rfl) (fun _ _ _ h => h) rfl S0 (fun w' hw' => by go_simp) ?_
    simp only [Act.put, List.setIfInBounds_toArray, List.set_cons_zero, List.set_cons_succ]
    refine takeS 14 (some 19) (.pointer (some ⟨w.heap.size, 1, none⟩)) rfl rfl (by kernel_rfl) (by kernel_rfl) (by kernel_rfl) (fun _ _ _ h => h) rfl S0 (fun w' hw' => by go_simp) ?_
    simp only [Act.put, List.setIfInBounds_toArray, List.set_cons_zero, List.set_cons_succ]
    refine takeS 15 (some 20) (.int .i64 b) rfl rfl (by kernel_rfl) (by kernel_rfl) (by kernel_rfl) (fun _ _ _ h => h) rfl S0 (fun w' hw' => by have cc : w'.cell? ⟨w.heap.size, 1, none⟩ = some (.int .i64 b) := ((HB.out w' hw').cell 1).trans rfl; go_simp) ?_
    simp only [Act.put, List.setIfInBounds_toArray, List.set_cons_zero, List.set_cons_succ]
    refine takeS 16 (some 21) (.bool false) rfl rfl (by kernel_rfl) (by kernel_rfl) (by kernel_rfl) (fun _ _ _ h => h) rfl S0 (fun w' hw' => by go_simp) ?_
    simp only [Act.put, List.setIfInBounds_toArray, List.set_cons_zero, List.set_cons_succ]
    refine takeS 17 (some 22) (.bool false) rfl rfl (by kernel_rfl) (by kernel_rfl) (by kernel_rfl) (fun _ _ _ h => h) rfl S0 (fun w' hw' => by go_simp) ?_
    simp only [Act.put, List.setIfInBounds_toArray, List.set_cons_zero, List.set_cons_succ]
    refine takeS 18 (some 23) (.bool false) rfl rfl (by kernel_rfl) (by kernel_rfl) (by kernel_rfl) (fun _ _ _ h => h) rfl S0 (fun w' hw' => by go_simp) ?_
    simp only [Act.put, List.setIfInBounds_toArray, List.set_cons_zero, List.set_cons_succ]
    refine takeS 19 (some 24) (.pointer (some ⟨w.heap.size, 2, none⟩)) rfl rfl (by kernel_rfl) (by kernel_rfl) (by kernel_rfl) (fun _ _ _ h => h) rfl S0 (fun w' hw' => by go_simp) ?_
    simp only [Act.put, List.setIfInBounds_toArray, List.set_cons_zero, List.set_cons_succ]
    refine takeS 20 (some 25) (.int .i64 k) rfl rfl (by kernel_rfl) (by kernel_rfl) (by kernel_rfl) (fun _ _ _ h => h) rfl S0 (fun w' hw' => by have cc : w'.cell? ⟨w.heap.size, 2, none⟩ = some (.int .i64 k) := ((HB.out w' hw').cell 2).trans rfl; go_simp) ?_
    simp only [Act.put, List.setIfInBounds_toArray, List.set_cons_zero, List.set_cons_succ]
    refine takeS 21 (some 26) (.bool false) rfl rfl (by kernel_rfl) (by kernel_rfl) (by kernel_rfl) (fun _ _ _ h => h) rfl S0 (fun w' hw' => by go_simp) ?_
    simp only [Act.put, List.setIfInBounds_toArray, List.set_cons_zero, List.set_cons_succ]
    refine takeS 22 (some 27) (.bool false) rfl rfl (by kernel_rfl) (by kernel_rfl) (by kernel_rfl) (fun _ _ _ h => h) rfl S0 (fun w' hw' => by go_simp) ?_
    simp only [Act.put, List.setIfInBounds_toArray, List.set_cons_zero, List.set_cons_succ]
    refine takeS 23 (some 28) (.bool false) rfl rfl (by kernel_rfl) (by kernel_rfl) (by kernel_rfl) (fun _ _ _ h => h) rfl S0 (fun w' hw' => by go_simp) ?_
    simp only [Act.put, List.setIfInBounds_toArray, List.set_cons_zero, List.set_cons_succ]
    refine takeS 24 (some 29) (.pointer (some ⟨w.heap.size, 2, none⟩)) rfl rfl (by kernel_rfl) (by kernel_rfl) (by kernel_rfl) (fun _ _ _ h => h) rfl S0 (fun w' hw' => by go_simp) ?_
    simp only [Act.put, List.setIfInBounds_toArray, List.set_cons_zero, List.set_cons_succ]
    refine takeS 25 (some 30) (.int .i64 k) rfl rfl (by kernel_rfl) (by kernel_rfl) (by kernel_rfl) (fun _ _ _ h => h) rfl S0 (fun w' hw' => by have cc : w'.cell? ⟨w.heap.size, 2, none⟩ = some (.int .i64 k) := ((HB.out w' hw').cell 2).trans rfl; go_simp) ?_
    simp only [Act.put, List.setIfInBounds_toArray, List.set_cons_zero, List.set_cons_succ]
    refine takeS 26 (some 31) (.bool false) rfl rfl (by kernel_rfl) (by kernel_rfl) (by kernel_rfl) (fun _ _ _ h => h) rfl S0 (fun w' hw' => by go_simp) ?_
    simp only [Act.put, List.setIfInBounds_toArray, List.set_cons_zero, List.set_cons_succ]
    refine takeS 27 (some 32) (.bool false) rfl rfl (by kernel_rfl) (by kernel_rfl) (by kernel_rfl) (fun _ _ _ h => h) rfl S0 (fun w' hw' => by go_simp) ?_
    simp only [Act.put, List.setIfInBounds_toArray, List.set_cons_zero, List.set_cons_succ]
    refine takeS 28 (some 33) (.bool false) rfl rfl (by kernel_rfl) (by kernel_rfl) (by kernel_rfl) (fun _ _ _ h => h) rfl S0 (fun w' hw' => by go_simp) ?_
    simp only [Act.put, List.setIfInBounds_toArray, List.set_cons_zero, List.set_cons_succ]
    refine takeS 29 (some 34) (.pointer (some ⟨w.heap.size, 4, none⟩)) rfl rfl (by kernel_rfl) (by kernel_rfl) (by kernel_rfl) (fun _ _ _ h => h) rfl S0 (fun w' hw' => by go_simp) ?_
    simp only [Act.put, List.setIfInBounds_toArray, List.set_cons_zero, List.set_cons_succ]
    refine takeS 30 (some 35) (.slice adl nl capl) rfl rfl (by kernel_rfl) (by kernel_rfl) (by kernel_rfl) (fun _ _ _ h => h) rfl S0 (fun w' hw' => by have cc : w'.cell? ⟨w.heap.size, 4, none⟩ = some (.slice adl nl capl) := ((HB.out w' hw').cell 4).trans rfl; go_simp) ?_
    simp only [Act.put, List.setIfInBounds_toArray, List.set_cons_zero, List.set_cons_succ]
    refine takeS 31 (some 36) (.int .i64 (nl : Int)) rfl rfl (by kernel_rfl) (by kernel_rfl) (by kernel_rfl) (fun _ _ _ h => h) rfl S0 (fun w' hw' => by go_simp) ?_
    simp only [Act.put, List.setIfInBounds_toArray, List.set_cons_zero, List.set_cons_succ]
    refine takeS 32 (some 37) (.pointer (some ⟨w.heap.size, 0, none⟩)) rfl rfl (by kernel_rfl) (by kernel_rfl) (by kernel_rfl) (fun _ _ _ h => h) rfl S0 (fun w' hw' => by go_simp) ?_
    simp only [Act.put, List.setIfInBounds_toArray, List.set_cons_zero, List.set_cons_succ]
    refine takeS 33 (some 38) (.int .i64 z) rfl rfl (by kernel_rfl) (by kernel_rfl) (by kernel_rfl) (fun _ _ _ h => h) rfl S0 (fun w' hw' => by have cc : w'.cell? ⟨w.heap.size, 0, none⟩ = some (.int .i64 z) := ((HB.out w' hw').cell 0).trans rfl; go_simp) ?_
    simp only [Act.put, List.setIfInBounds_toArray, List.set_cons_zero, List.set_cons_succ]
    refine takeS 34 (some 39) (.pointer (some ⟨w.heap.size, 1, none⟩)) rfl rfl (by kernel_rfl) (by kernel_rfl) (by kernel_rfl) (fun _ _ _ h => h) rfl S0 (fun w' hw' => by go_simp) ?_
    simp only [Act.put, List.setIfInBounds_toArray, List.set_cons_zero, List.set_cons_succ]
    refine takeS 35 (some 40) (.int .i64 b) rfl rfl (by kernel_rfl) (by kernel_rfl) (by kernel_rfl) (fun _ _ _ h => h) rfl S0 (fun w' hw' => by have cc : w'.cell? ⟨w.heap.size, 1, none⟩ = some (.int .i64 b) := ((HB.out w' hw').cell 1).trans rfl; go_simp) ?_
    simp only [Act.put, List.setIfInBounds_toArray, List.set_cons_zero, List.set_cons_succ]
    refine nextS 36 rfl (by kernel_rfl) rfl (callS (some 41) rfl 52 #[.int .i64 z, .int .i64 b] (by go_simp) (fun v w' => v = .int .i64 C1 ∧ W = w') ((cntR z b W).mono fun _ _ he => ⟨_, he.1.trans (by rw [HC1.out]), rfl, he.2⟩) ?_)
    rintro v1 W1 ⟨rfl, rfl⟩
    simp only [Act.put, List.setIfInBounds_toArray, List.set_cons_zero, List.set_cons_succ]
    refine ⟨S0, ?_⟩
    refine takeS 37 (some 42) (.bool true) rfl rfl (by kernel_rfl) (by kernel_rfl) (by kernel_rfl) (fun _ _ _ h => h) rfl S0 (fun w' hw' => by go_simp) ?_
    simp only [Act.put, List.setIfInBounds_toArray, List.set_cons_zero, List.set_cons_succ]
    refine takeS 38 (some 43) (.bool true) rfl rfl (by kernel_rfl) (by kernel_rfl) (by kernel_rfl) (fun _ _ _ h => h) rfl S0 (fun w' hw' => by go_simp) ?_
    simp only [Act.put, List.setIfInBounds_toArray, List.set_cons_zero, List.set_cons_succ]
    refine takeS 39 (some 44) (.bool true) rfl rfl (by kernel_rfl) (by kernel_rfl) (by kernel_rfl) (fun _ _ _ h => h) rfl S0 (fun w' hw' => by go_simp) ?_
    simp only [Act.put, List.setIfInBounds_toArray, List.set_cons_zero, List.set_cons_succ]
    refine skipS 40 (some 45) rfl rfl (by kernel_rfl) (by kernel_rfl) (by kernel_rfl) (fun _ _ _ h => h) rfl S0 ?_
    simp only [Act.put, List.setIfInBounds_toArray, List.set_cons_zero, List.set_cons_succ]
    refine skipS 41 (some 46) rfl rfl (by kernel_rfl) (by kernel_rfl) (by kernel_rfl) (fun _ _ _ h => h) rfl S0 ?_
    simp only [Act.put, List.setIfInBounds_toArray, List.set_cons_zero, List.set_cons_succ]
    refine skipS 42 (some 47) rfl rfl (by kernel_rfl) (by kernel_rfl) (by kernel_rfl) (fun _ _ _ h => h) rfl S0 ?_
    simp only [Act.put, List.setIfInBounds_toArray, List.set_cons_zero, List.set_cons_succ]
    refine skipS 43 (some 48) rfl rfl (by kernel_rfl) (by kernel_rfl) (by kernel_rfl) (fun _ _ _ h => h) rfl S0 ?_
    simp only [Act.put, List.setIfInBounds_toArray, List.set_cons_zero, List.set_cons_succ]
    refine skipS 44 (some 49) rfl rfl (by kernel_rfl) (by kernel_rfl) (by kernel_rfl) (fun _ _ _ h => h) rfl S0 ?_
    simp only [Act.put, List.setIfInBounds_toArray, List.set_cons_zero, List.set_cons_succ]
    refine skipS 45 (some 50) rfl rfl (by kernel_rfl) (by kernel_rfl) (by kernel_rfl) (fun _ _ _ h => h) rfl S0 ?_
    simp only [Act.put, List.setIfInBounds_toArray, List.set_cons_zero, List.set_cons_succ]
    refine skipS 46 (some 51) rfl rfl (by kernel_rfl) (by kernel_rfl) (by kernel_rfl) (fun _ _ _ h => h) rfl S0 ?_
    simp only [Act.put, List.setIfInBounds_toArray, List.set_cons_zero, List.set_cons_succ]
    refine skipS 47 (some 52) rfl rfl (by kernel_rfl) (by kernel_rfl) (by kernel_rfl) (fun _ _ _ h => h) rfl S0 ?_
    simp only [Act.put, List.setIfInBounds_toArray, List.set_cons_zero, List.set_cons_succ]
    refine skipS 48 (some 53) rfl rfl (by kernel_rfl) (by kernel_rfl) (by kernel_rfl) (fun _ _ _ h => h) rfl S0 ?_
    simp only [Act.put, List.setIfInBounds_toArray, List.set_cons_zero, List.set_cons_succ]
    refine skipS 49 (some 54) rfl rfl (by kernel_rfl) (by kernel_rfl) (by kernel_rfl) (fun _ _ _ h => h) rfl S0 ?_
    simp only [Act.put, List.setIfInBounds_toArray, List.set_cons_zero, List.set_cons_succ]
    refine skipS 50 (some 55) rfl rfl (by kernel_rfl) (by kernel_rfl) (by kernel_rfl) (fun _ _ _ h => h) rfl S0 ?_
    simp only [Act.put, List.setIfInBounds_toArray, List.set_cons_zero, List.set_cons_succ]
    refine takeS 51 (some 56) (.bool true) rfl rfl (by kernel_rfl) (by kernel_rfl) (by kernel_rfl) (fun _ _ _ h => h) rfl S0 (fun w' hw' => by go_simp) ?_
    simp only [Act.put, List.setIfInBounds_toArray, List.set_cons_zero, List.set_cons_succ]
    refine wpAnyH_done (by kernel_rfl) ?_ _
    go_wp2
    go_ret
    exact ⟨rfl, e0.trans S0⟩
  have t7 : ((nl : Int) == C1) = true := by simpa using c7
  have t7' : ((nl : Int) != C1) = false := by simpa using c7
  rw [t7, Bool.and_true]
  replace hl6 := hl6 c7
  clear c7
  by_cases c8 : (np : Int) = C2
  rotate_left
  · have t8 : ((np : Int) == C2) = false := by simpa using c8
    have t8' : ((np : Int) != C2) = true := by simpa using c8
    rw [t8, Bool.and_false, Bool.and_false, Bool.false_and]
    clear c8 hl6 hb6
    go_enter Tryd.func18, Tryd.ntmps18
    go_wp2
    rw [← hw0]
    refine wp_region_held (S := Ext w0) (by kernel_rfl) ?_
    change wpAnyH _ _ _ _ _ _ _ _ w0.drew
    have S0 : Ext w0 w0.drew := Below.drew (Below.refl _ _)
    generalize w0.drew = W at *
    refine takeS 0 (some 5) (.pointer (some ⟨w.heap.size, 0, none⟩)) rfl rfl (by kernel_rfl) (by kernel_rfl) (by kernel_rfl) (fun _ _ _ h => h) rfl S0 (fun w' hw' => by go_simp) ?_
    simp only [Act.put, List.setIfInBounds_toArray, List.set_cons_zero, List.set_cons_succ]
    refine takeS 1 (some 6) (.int .i64 z) rfl rfl (by kernel_rfl) (by kernel_rfl) (by kernel_rfl) (fun _ _ _ h => h) rfl S0 (fun w' hw' => by have cc : w'.cell? ⟨w.heap.size, 0, none⟩ = some (.int .i64 z) := ((HB.out w' hw').cell 0).trans rfl; go_simp) ?_
    simp only [Act.put, List.setIfInBounds_toArray, List.set_cons_zero, List.set_cons_succ]
    refine takeS 2 (some 7) (.bool false) rfl rfl (by kernel_rfl) (by kernel_rfl) (by kernel_rfl) (fun _ _ _ h => h) rfl S0 (fun w' hw' => by go_simp) ?_
    simp only [Act.put, List.setIfInBounds_toArray, List.set_cons_zero, List.set_cons_succ]
    refine takeS 3 (some 8) (.bool false) rfl rfl (by kernel_rfl) (by kernel_rfl) (by kernel_rfl) (fun _ _ _ h => h) rfl S0 (fun w' hw' => by go_simp) ?_
    simp only [Act.put, List.setIfInBounds_toArray, List.set_cons_zero, List.set_cons_succ]
    refine takeS 4 (some 9) (.pointer (some ⟨w.heap.size, 0, none⟩)) rfl rfl (by kernel_rfl) (by kernel_rfl) (by kernel_rfl) (fun _ _ _ h => h) rfl S0 (fun w' hw' => by go_simp) ?_
    simp only [Act.put, List.setIfInBounds_toArray, List.set_cons_zero, List.set_cons_succ]
    refine takeS 5 (some 10) (.int .i64 z) rfl rfl (by kernel_rfl) (by kernel_rfl) (by kernel_rfl) (fun _ _ _ h => h) rfl S0 (fun w' hw' => by have cc : w'.cell? ⟨w.heap.size, 0, none⟩ = some (.int .i64 z) := ((HB.out w' hw').cell 0).trans rfl; go_simp) ?_
    simp only [Act.put, List.setIfInBounds_toArray, List.set_cons_zero, List.set_cons_succ]
    refine takeS 6 (some 11) (.bool false) rfl rfl (by kernel_rfl) (by kernel_rfl) (by kernel_rfl) (fun _ _ _ h => h) rfl S0 (fun w' hw' => by go_simp) ?_
    simp only [Act.put, List.setIfInBounds_toArray, List.set_cons_zero, List.set_cons_succ]
    refine takeS 7 (some 12) (.bool false) rfl rfl (by kernel_rfl) (by kernel_rfl) (by kernel_rfl) (fun _ _ _ h => h) rfl S0 (fun w' hw' => by go_simp) ?_
    simp only [Act.put, List.setIfInBounds_toArray, List.set_cons_zero, List.set_cons_succ]
    refine takeS 8 (some 13) (.bool false) rfl rfl (by kernel_rfl) (by kernel_rfl) (by kernel_rfl) (fun _ _ _ h => h) rfl S0 (fun w' hw' => by go_simp) ?_
    simp only [Act.put, List.setIfInBounds_toArray, List.set_cons_zero, List.set_cons_succ]
    refine takeS 9 (some 14) (.pointer (some ⟨w.heap.size, 1, none⟩)) rfl rfl (by kernel_rfl) (by kernel_rfl) (by kernel_rfl) (fun _ _ _ h => h) rfl S0 (fun w' hw' => by go_simp) ?_
    simp only [Act.put, List.setIfInBounds_toArray, List.set_cons_zero, List.set_cons_succ]
    refine takeS 10 (some 15) (.int .i64 b) rfl rfl (by kernel_rfl) (by kernel_rfl) (by kernel_rfl) (fun _ _ _ h => h) rfl S0 (fun w' hw' => by have cc : w'.cell? ⟨w.heap.size, 1, none⟩ = some (.int .i64 b) := ((HB.out w' hw').cell 1).trans rfl; go_simp) ?_
    simp only [Act.put, List.setIfInBounds_toArray, List.set_cons_zero, List.set_cons_succ]
    refine takeS 11 (some 16) (.bool false) rfl rfl (by kernel_rfl) (by kernel_rfl) (by kernel_rfl) (fun _ _ _ h => h) rfl S0 (fun w' hw' => by go_simp) ?_
    simp only [Act.put, List.setIfInBounds_toArray, List.set_cons_zero, List.set_cons_succ]
    refine takeS 12 (some 17) (.bool false) rfl rfl (by kernel_rfl) (by kernel_rfl) (by kernel_rfl) (fun _ _ _ h => h) rfl S0 (fun w' hw' => by go_simp) ?_
    simp only [Act.put, List.setIfInBounds_toArray, List.set_cons_zero, List.set_cons_succ]
    refine takeS 13 (some 18) (.bool false) rfl rfl (by kernel_rfl) (by kernel_rfl) (by kernel_rfl) (fun _ _ _ h => h) rfl S0 (fun w' hw' => by go_simp) ?_
    simp only [Act.put, List.setIfInBounds_toArray, List.set_cons_zero, List.set_cons_succ]
    refine takeS 14 (some 19) (.pointer (some ⟨w.heap.size, 1, none⟩)) rfl rfl (by kernel_rfl) (by kernel_rfl) (by kernel_rfl) (fun _ _ _ h => h) rfl S0 (fun w' hw' => by go_simp) ?_
    simp only [Act.put, List.setIfInBounds_toArray, List.set_cons_zero, List.set_cons_succ]
    refine takeS 15 (some 20) (.int .i64 b) rfl rfl (by kernel_rfl) (by kernel_rfl) (by kernel_rfl) (fun _ _ _ h => h) rfl S0 (fun w' hw' => by have cc : w'.cell? ⟨w.heap.size, 1, none⟩ = some (.int .i64 b) := ((HB.out w' hw').cell 1).trans rfl; go_simp) ?_
    simp only [Act.put, List.setIfInBounds_toArray, List.set_cons_zero, List.set_cons_succ]
    refine takeS 16 (some 21) (.bool false) rfl rfl (by kernel_rfl) (by kernel_rfl) (by kernel_rfl) (fun _ _ _ h => h) rfl S0 (fun w' hw' => by go_simp) ?_
    simp only [Act.put, List.setIfInBounds_toArray, List.set_cons_zero, List.set_cons_succ]
    refine takeS 17 (some 22) (.bool false) rfl rfl (by kernel_rfl) (by kernel_rfl) (by kernel_rfl) (fun _ _ _ h => h) rfl S0 (fun w' hw' => by go_simp) ?_
    simp only [Act.put, List.setIfInBounds_toArray, List.set_cons_zero, List.set_cons_succ]
    refine takeS 18 (some 23) (.bool false) rfl rfl (by kernel_rfl) (by kernel_rfl) (by kernel_rfl) (fun _ _ _ h => h) rfl S0 (fun w' hw' => by go_simp) ?_
    simp only [Act.put, List.setIfInBounds_toArray, List.set_cons_zero, List.set_cons_succ]
    refine takeS 19 (some 24) (.pointer (some ⟨w.heap.size, 2, none⟩)) rfl rfl (by kernel_rfl) (by kernel_rfl) (by kernel_rfl) (fun _ _ _ h => h) rfl S0 (fun w' hw' => by go_simp) ?_
    simp only [Act.put, List.setIfInBounds_toArray, List.set_cons_zero, List.set_cons_succ]
    refine takeS 20 (some 25) (.int .i64 k) rfl rfl (by kernel_rfl) (by kernel_rfl) (by kernel_rfl) (fun _ _ _ h => h) rfl S0 (fun w' hw' => by have cc : w'.cell? ⟨w.heap.size, 2, none⟩ = some (.int .i64 k) := ((HB.out w' hw').cell 2).trans rfl; go_simp) ?_
    simp only [Act.put, List.setIfInBounds_toArray, List.set_cons_zero, List.set_cons_succ]
    refine takeS 21 (some 26) (.bool false) rfl rfl (by kernel_rfl) (by kernel_rfl) (by kernel_rfl) (fun _ _ _ h => h) rfl S0 (fun w' hw' => by go_simp) ?_
    simp only [Act.put, List.setIfInBounds_toArray, List.set_cons_zero, List.set_cons_succ]
    refine takeS 22 (some 27) (.bool false) rfl rfl (by kernel_rfl) (by kernel_rfl) (by kernel_rfl) (fun _ _ _ h => h) rfl S0 (fun w' hw' => by go_simp) ?_
    simp only [Act.put, List.setIfInBounds_toArray, List.set_cons_zero, List.set_cons_succ]
    refine takeS 23 (some 28) (.bool false) rfl rfl (by kernel_rfl) (by kernel_rfl) (by kernel_rfl) (fun _ _ _ h => h) rfl S0 (fun w' hw' => by go_simp) ?_
    simp only [Act.put, List.setIfInBounds_toArray, List.set_cons_zero, List.set_cons_succ]
    refine takeS 24 (some 29) (.pointer (some ⟨w.heap.size, 2, none⟩)) rfl rfl (by kernel_rfl) (by kernel_rfl) (by kernel_rfl) (fun _ _ _ h => h) rfl S0 (fun w' hw' => by go_simp) ?_
    simp only [Act.put, List.setIfInBounds_toArray, List.set_cons_zero, List.set_cons_succ]
    refine takeS 25 (some 30) (.int .i64 k) rfl rfl (by kernel_rfl) (by kernel_rfl) (by kernel_rfl) (fun _ _ _ h => h) rfl S0 (fun w' hw' => by have cc : w'.cell? ⟨w.heap.size, 2, none⟩ = some (.int .i64 k) := ((HB.out w' hw').cell 2).trans rfl; go_simp) ?_
    simp only [Act.put, List.setIfInBounds_toArray, List.set_cons_zero, List.set_cons_succ]
    refine takeS 26 (some 31) (.bool false) rfl rfl (by kernel_rfl) (by kernel_rfl) (by kernel_rfl) (fun _ _ _ h => h) rfl S0 (fun w' hw' => by go_simp) ?_
    simp only [Act.put, List.setIfInBounds_toArray, List.set_cons_zero, List.set_cons_succ]
    refine takeS 27 (some 32) (.bool false) rfl rfl (by kernel_rfl) (by kernel_rfl) (by kernel_rfl) (fun _ _ _ h => h) rfl S0 (fun w' hw' => by go_simp) ?_
    simp only [Act.put, List.setIfInBounds_toArray, List.set_cons_zero, List.set_cons_succ]
    refine takeS 28 (some 33) (.bool false) rfl rfl (by kernel_rfl) (by kernel_rfl) (by kernel_rfl) (fun _ _ _ h => h) rfl S0 (fun w' hw' => by go_simp) ?_
    simp only [Act.put, List.setIfInBounds_toArray, List.set_cons_zero, List.set_cons_succ]
    refine takeS 29 (some 34) (.pointer (some ⟨w.heap.size, 4, none⟩)) rfl rfl (by kernel_rfl) (by kernel_rfl) (by kernel_rfl) (fun _ _ _ h => h) rfl S0 (fun w' hw' => by go_simp) ?_
    simp only [Act.put, List.setIfInBounds_toArray, List.set_cons_zero, List.set_cons_succ]
    refine takeS 30 (some 35) (.slice adl nl capl) rfl rfl (by kernel_rfl) (by kernel_rfl) (by kernel_rfl) (fun _ _ _ h => h) rfl S0 (fun w' hw' => by have cc : w'.cell? ⟨w.heap.size, 4, none⟩ = some (.slice adl nl capl) := ((HB.out w' hw').cell 4).trans rfl; go_simp) ?_
    simp only [Act.put, List.setIfInBounds_toArray, List.set_cons_zero, List.set_cons_succ]
    refine takeS 31 (some 36) (.int .i64 (nl : Int)) rfl rfl (by kernel_rfl) (by kernel_rfl) (by kernel_rfl) (fun _ _ _ h => h) rfl S0 (fun w' hw' => by go_simp) ?_
    simp only [Act.put, List.setIfInBounds_toArray, List.set_cons_zero, List.set_cons_succ]
    refine takeS 32 (some 37) (.pointer (some ⟨w.heap.size, 0, none⟩)) rfl rfl (by kernel_rfl) (by kernel_rfl) (by kernel_rfl) (fun _ _ _ h => h) rfl S0 (fun w' hw' => by go_simp) ?_
    simp only [Act.put, List.setIfInBounds_toArray, List.set_cons_zero, List.set_cons_succ]
    refine takeS 33 (some 38) (.int .i64 z) rfl rfl (by kernel_rfl) (by kernel_rfl) (by kernel_rfl) (fun _ _ _ h => h) rfl S0 (fun w' hw' => by have cc : w'.cell? ⟨w.heap.size, 0, none⟩ = some (.int .i64 z) := ((HB.out w' hw').cell 0).trans rfl; go_simp) ?_
    simp only [Act.put, List.setIfInBounds_toArray, List.set_cons_zero, List.set_cons_succ]
    refine takeS 34 (some 39) (.pointer (some ⟨w.heap.size, 1, none⟩)) rfl rfl (by kernel_rfl) (by kernel_rfl) (by kernel_rfl) (fun _ _ _ h => h) rfl S0 (fun w' hw' => by go_simp) ?_
    simp only [Act.put, List.setIfInBounds_toArray, List.set_cons_zero, List.set_cons_succ]
    refine takeS 35 (some 40) (.int .i64 b) rfl rfl (by kernel_rfl) (by kernel_rfl) (by kernel_rfl) (fun _ _ _ h => h) rfl S0 (fun w' hw' => by have cc : w'.cell? ⟨w.heap.size, 1, none⟩ = some (.int .i64 b) := ((HB.out w' hw').cell 1).trans rfl; go_simp) ?_
    simp only [Act.put, List.setIfInBounds_toArray, List.set_cons_zero, List.set_cons_succ]
    refine nextS 36 rfl (by kernel_rfl) rfl (callS (some 41) rfl 52 #[.int .i64 z, .int .i64 b] (by go_simp) (fun v w' => v = .int .i64 C1 ∧ W = w') ((cntR z b W).mono fun _ _ he => ⟨_, he.1.trans (by rw [HC1.out]), rfl, he.2⟩) ?_)
    rintro v1 W1 ⟨rfl, rfl⟩
    simp only [Act.put, List.setIfInBounds_toArray, List.set_cons_zero, List.set_cons_succ]
    refine ⟨S0, ?_⟩
    refine takeS 37 (some 42) (.bool false) rfl rfl (by kernel_rfl) (by kernel_rfl) (by kernel_rfl) (fun _ _ _ h => h) rfl S0 (fun w' hw' => by go_simp) ?_
    simp only [Act.put, List.setIfInBounds_toArray, List.set_cons_zero, List.set_cons_succ]
    refine takeS 38 (some 43) (.bool false) rfl rfl (by kernel_rfl) (by kernel_rfl) (by kernel_rfl) (fun _ _ _ h => h) rfl S0 (fun w' hw' => by go_simp) ?_
    simp only [Act.put, List.setIfInBounds_toArray, List.set_cons_zero, List.set_cons_succ]
    refine takeS 39 (some 44) (.bool false) rfl rfl (by kernel_rfl) (by kernel_rfl) (by kernel_rfl) (fun _ _ _ h => h) rfl S0 (fun w' hw' => by go_simp) ?_
    simp only [Act.put, List.setIfInBounds_toArray, List.set_cons_zero, List.set_cons_succ]
    refine takeS 40 (some 45) (.pointer (some ⟨w.heap.size, 5, none⟩)) rfl rfl (by kernel_rfl) (by kernel_rfl) (by kernel_rfl) (fun _ _ _ h => h) rfl S0 (fun w' hw' => by go_simp) ?_
    simp only [Act.put, List.setIfInBounds_toArray, List.set_cons_zero, List.set_cons_succ]
    refine takeS 41 (some 46) (.slice adp np capp) rfl rfl (by kernel_rfl) (by kernel_rfl) (by kernel_rfl) (fun _ _ _ h => h) rfl S0 (fun w' hw' => by have cc : w'.cell? ⟨w.heap.size, 5, none⟩ = some (.slice adp np capp) := ((HB.out w' hw').cell 5).trans rfl; go_simp) ?_
    simp only [Act.put, List.setIfInBounds_toArray, List.set_cons_zero, List.set_cons_succ]
    refine takeS 42 (some 47) (.int .i64 (np : Int)) rfl rfl (by kernel_rfl) (by kernel_rfl) (by kernel_rfl) (fun _ _ _ h => h) rfl S0 (fun w' hw' => by go_simp) ?_
    simp only [Act.put, List.setIfInBounds_toArray, List.set_cons_zero, List.set_cons_succ]
    refine takeS 43 (some 48) (.pointer (some ⟨w.heap.size, 0, none⟩)) rfl rfl (by kernel_rfl) (by kernel_rfl) (by kernel_rfl) (fun _ _ _ h => h) rfl S0 (fun w' hw' => by go_simp) ?_
    simp only [Act.put, List.setIfInBounds_toArray, List.set_cons_zero, List.set_cons_succ]
    refine takeS 44 (some 49) (.int .i64 z) rfl rfl (by kernel_rfl) (by kernel_rfl) (by kernel_rfl) (fun _ _ _ h => h) rfl S0 (fun w' hw' => by have cc : w'.cell? ⟨w.heap.size, 0, none⟩ = some (.int .i64 z) := ((HB.out w' hw').cell 0).trans rfl; go_simp) ?_
    simp only [Act.put, List.setIfInBounds_toArray, List.set_cons_zero, List.set_cons_succ]
    refine takeS 45 (some 50) (.pointer (some ⟨w.heap.size, 1, none⟩)) rfl rfl (by kernel_rfl) (by kernel_rfl) (by kernel_rfl) (fun _ _ _ h => h) rfl S0 (fun w' hw' => by go_simp) ?_
    simp only [Act.put, List.setIfInBounds_toArray, List.set_cons_zero, List.set_cons_succ]
    refine takeS 46 (some 51) (.int .i64 b) rfl rfl (by kernel_rfl) (by kernel_rfl) (by kernel_rfl) (fun _ _ _ h => h) rfl S0 (fun w' hw' => by have cc : w'.cell? ⟨w.heap.size, 1, none⟩ = some (.int .i64 b) := ((HB.out w' hw').cell 1).trans rfl; go_simp) ?_
    simp only [Act.put, List.setIfInBounds_toArray, List.set_cons_zero, List.set_cons_succ]
    refine takeS 47 (some 52) (.pointer (some ⟨w.heap.size, 2, none⟩)) rfl rfl (by kernel_rfl) (by kernel_rfl) (by kernel_rfl) (fun _ _ _ h => h) rfl S0 (fun w' hw' => by go_simp) ?_
    simp only [Act.put, List.setIfInBounds_toArray, List.set_cons_zero, List.set_cons_succ]
    refine takeS 48 (some 53) (.int .i64 k) rfl rfl (by kernel_rfl) (by kernel_rfl) (by kernel_rfl) (fun _ _ _ h => h) rfl S0 (fun w' hw' => by have cc : w'.cell? ⟨w.heap.size, 2, none⟩ = some (.int .i64 k) := ((HB.out w' hw').cell 2).trans rfl; go_simp) ?_
    simp only [Act.put, List.setIfInBounds_toArray, List.set_cons_zero, List.set_cons_succ]
    refine nextS 49 rfl (by kernel_rfl) rfl (callS (some 54) rfl 53 #[.int .i64 z, .int .i64 b, .int .i64 k] (by go_simp) (fun v w' => v = .int .i64 C2 ∧ W = w') ((rgroups_any z b k W).mono fun _ _ he => ⟨_, he.1.trans (by rw [HC2.out]), rfl, he.2⟩) ?_)
    rintro v2 W2 ⟨rfl, rfl⟩
    simp only [Act.put, List.setIfInBounds_toArray, List.set_cons_zero, List.set_cons_succ]
    refine ⟨S0, ?_⟩
    refine takeS 50 (some 55) (.bool true) rfl rfl (by kernel_rfl) (by kernel_rfl) (by kernel_rfl) (fun _ _ _ h => h) rfl S0 (fun w' hw' => by go_simp) ?_
    simp only [Act.put, List.setIfInBounds_toArray, List.set_cons_zero, List.set_cons_succ]
    refine takeS 51 (some 56) (.bool true) rfl rfl (by kernel_rfl) (by kernel_rfl) (by kernel_rfl) (fun _ _ _ h => h) rfl S0 (fun w' hw' => by go_simp) ?_
    simp only [Act.put, List.setIfInBounds_toArray, List.set_cons_zero, List.set_cons_succ]
    refine wpAnyH_done (by kernel_rfl) ?_ _
    go_wp2
    go_ret
    exact ⟨rfl, e0.trans S0⟩
  have t8 : ((np : Int) == C2) = true := by simpa using c8
  have t8' : ((np : Int) != C2) = false := by simpa using c8
  rw [t8, Bool.and_true]
  clear c8
  · skip
    go_enter Tryd.func18, Tryd.ntmps18
    go_wp2
    rw [← hw0]
    refine wp_region_held (S := Ext w0) (by kernel_rfl) ?_
    change wpAnyH _ _ _ _ _ _ _ _ w0.drew
    have S0 : Ext w0 w0.drew := Below.drew (Below.refl _ _)
    generalize w0.drew = W at *
    refine takeS 0 (some 5) (.pointer (some ⟨w.heap.size, 0, none⟩)) rfl rfl (by kernel_rfl) (by kernel_rfl) (by kernel_rfl) (fun _ _ _ h => h) rfl S0 (fun w' hw' => by go_simp) ?_
    simp only [Act.put, List.setIfInBounds_toArray, List.set_cons_zero, List.set_cons_succ]
    refine takeS 1 (some 6) (.int .i64 z) rfl rfl (by kernel_rfl) (by kernel_rfl) (by kernel_rfl) (fun _ _ _ h => h) rfl S0 (fun w' hw' => by have cc : w'.cell? ⟨w.heap.size, 0, none⟩ = some (.int .i64 z) := ((HB.out w' hw').cell 0).trans rfl; go_simp) ?_
    simp only [Act.put, List.setIfInBounds_toArray, List.set_cons_zero, List.set_cons_succ]
    refine takeS 2 (some 7) (.bool false) rfl rfl (by kernel_rfl) (by kernel_rfl) (by kernel_rfl) (fun _ _ _ h => h) rfl S0 (fun w' hw' => by go_simp) ?_
    simp only [Act.put, List.setIfInBounds_toArray, List.set_cons_zero, List.set_cons_succ]
    refine takeS 3 (some 8) (.bool false) rfl rfl (by kernel_rfl) (by kernel_rfl) (by kernel_rfl) (fun _ _ _ h => h) rfl S0 (fun w' hw' => by go_simp) ?_
    simp only [Act.put, List.setIfInBounds_toArray, List.set_cons_zero, List.set_cons_succ]
    refine takeS 4 (some 9) (.pointer (some ⟨w.heap.size, 0, none⟩)) rfl rfl (by kernel_rfl) (by kernel_rfl) (by kernel_rfl) (fun _ _ _ h => h) rfl S0 (fun w' hw' => by go_simp) ?_
    simp only [Act.put, List.setIfInBounds_toArray, List.set_cons_zero, List.set_cons_succ]
    refine takeS 5 (some 10) (.int .i64 z) rfl rfl (by kernel_rfl) (by kernel_rfl) (by kernel_rfl) (fun _ _ _ h => h) rfl S0 (fun w' hw' => by have cc : w'.cell? ⟨w.heap.size, 0, none⟩ = some (.int .i64 z) := ((HB.out w' hw').cell 0).trans rfl; go_simp) ?_
    simp only [Act.put, List.setIfInBounds_toArray, List.set_cons_zero, List.set_cons_succ]
    refine takeS 6 (some 11) (.bool false) rfl rfl (by kernel_rfl) (by kernel_rfl) (by kernel_rfl) (fun _ _ _ h => h) rfl S0 (fun w' hw' => by go_simp) ?_
    simp only [Act.put, List.setIfInBounds_toArray, List.set_cons_zero, List.set_cons_succ]
    refine takeS 7 (some 12) (.bool false) rfl rfl (by kernel_rfl) (by kernel_rfl) (by kernel_rfl) (fun _ _ _ h => h) rfl S0 (fun w' hw' => by go_simp) ?_
    simp only [Act.put, List.setIfInBounds_toArray, List.set_cons_zero, List.set_cons_succ]
    refine takeS 8 (some 13) (.bool false) rfl rfl (by kernel_rfl) (by kernel_rfl) (by kernel_rfl) (fun _ _ _ h => h) rfl S0 (fun w' hw' => by go_simp) ?_
    simp only [Act.put, List.setIfInBounds_toArray, List.set_cons_zero, List.set_cons_succ]
    refine takeS 9 (some 14) (.pointer (some ⟨w.heap.size, 1, none⟩)) rfl rfl (by kernel_rfl) (by kernel_rfl) (by kernel_rfl) (fun _ _ _ h => h) rfl S0 (fun w' hw' => by go_simp) ?_
    simp only [Act.put, List.setIfInBounds_toArray, List.set_cons_zero, List.set_cons_succ]
    refine takeS 10 (some 15) (.int .i64 b) rfl rfl (by kernel_rfl) (by kernel_rfl) (by kernel_rfl) (fun _ _ _ h => h) rfl S0 (fun w' hw' => by have cc : w'.cell? ⟨w.heap.size, 1, none⟩ = some (.int .i64 b) := ((HB.out w' hw').cell 1).trans rfl; go_simp) ?_
    simp only [Act.put, List.setIfInBounds_toArray, List.set_cons_zero, List.set_cons_succ]
    refine takeS 11 (some 16) (.bool false) rfl rfl (by kernel_rfl) (by kernel_rfl) (by kernel_rfl) (fun _ _ _ h => h) rfl S0 (fun w' hw' => by go_simp) ?_
    simp only [Act.put, List.setIfInBounds_toArray, List.set_cons_zero, List.set_cons_succ]
    refine takeS 12 (some 17) (.bool false) rfl rfl (by kernel_rfl) (by kernel_rfl) (by kernel_rfl) (fun _ _ _ h => h) rfl S0 (fun w' hw' => by go_simp) ?_
    simp only [Act.put, List.setIfInBounds_toArray, List.set_cons_zero, List.set_cons_succ]
    refine takeS 13 (some 18) (.bool false) rfl rfl (by kernel_rfl) (by kernel_rfl) (by kernel_rfl) (fun _ _ _ h => h) rfl S0 (fun w' hw' => by go_simp) ?_
    simp only [Act.put, List.setIfInBounds_toArray, List.set_cons_zero, List.set_cons_succ]
    refine takeS 14 (some 19) (.pointer (some ⟨w.heap.size, 1, none⟩)) rfl rfl (by kernel_rfl) (by kernel_rfl) (by kernel_rfl) (fun _ _ _ h => h) rfl S0 (fun w' hw' => by go_simp) ?_
    simp only [Act.put, List.setIfInBounds_toArray, List.set_cons_zero, List.set_cons_succ]
    refine takeS 15 (some 20) (.int .i64 b) rfl rfl (by kernel_rfl) (by kernel_rfl) (by kernel_rfl) (fun _ _ _ h => h) rfl S0 (fun w' hw' => by have cc : w'.cell? ⟨w.heap.size, 1, none⟩ = some (.int .i64 b) := ((HB.out w' hw').cell 1).trans rfl; go_simp) ?_
    simp only [Act.put, List.setIfInBounds_toArray, List.set_cons_zero, List.set_cons_succ]
    refine takeS 16 (some 21) (.bool false) rfl rfl (by kernel_rfl) (by kernel_rfl) (by kernel_rfl) (fun _ _ _ h => h) rfl S0 (fun w' hw' => by go_simp) ?_
    simp only [Act.put, List.setIfInBounds_toArray, List.set_cons_zero, List.set_cons_succ]
    refine takeS 17 (some 22) (.bool false) rfl rfl (by kernel_rfl) (by kernel_rfl) (by kernel_rfl) (fun _ _ _ h => h) rfl S0 (fun w' hw' => by go_simp) ?_
    simp only [Act.put, List.setIfInBounds_toArray, List.set_cons_zero, List.set_cons_succ]
    refine takeS 18 (some 23) (.bool false) rfl rfl (by kernel_rfl) (by kernel_rfl) (by kernel_rfl) (fun _ _ _ h => h) rfl S0 (fun w' hw' => by go_simp) ?_
    simp only [Act.put, List.setIfInBounds_toArray, List.set_cons_zero, List.set_cons_succ]
    refine takeS 19 (some 24) (.pointer (some ⟨w.heap.size, 2, none⟩)) rfl rfl (by kernel_rfl) (by kernel_rfl) (by kernel_rfl) (fun _ _ _ h => h) rfl S0 (fun w' hw' => by go_simp) ?_
    simp only [Act.put, List.setIfInBounds_toArray, List.set_cons_zero, List.set_cons_succ]
    refine takeS 20 (some 25) (.int .i64 k) rfl rfl (by kernel_rfl) (by kernel_rfl) (by kernel_rfl) (fun _ _ _ h => h) rfl S0 (fun w' hw' => by have cc : w'.cell? ⟨w.heap.size, 2, none⟩ = some (.int .i64 k) := ((HB.out w' hw').cell 2).trans rfl; go_simp) ?_
    simp only [Act.put, List.setIfInBounds_toArray, List.set_cons_zero, List.set_cons_succ]
    refine takeS 21 (some 26) (.bool false) rfl rfl (by kernel_rfl) (by kernel_rfl) (by kernel_rfl) (fun _ _ _ h => h) rfl S0 (fun w' hw' => by go_simp) ?_
    simp only [Act.put, List.setIfInBounds_toArray, List.set_cons_zero, List.set_cons_succ]
    refine takeS 22 (some 27) (.bool false) rfl rfl (by kernel_rfl) (by kernel_rfl) (by kernel_rfl) (fun _ _ _ h => h) rfl S0 (fun w' hw' => by go_simp) ?_
    simp only [Act.put, List.setIfInBounds_toArray, List.set_cons_zero, List.set_cons_succ]
    refine takeS 23 (some 28) (.bool false) rfl rfl (by kernel_rfl) (by kernel_rfl) (by kernel_rfl) (fun _ _ _ h => h) rfl S0 (fun w' hw' => by go_simp) ?_
    simp only [Act.put, List.setIfInBounds_toArray, List.set_cons_zero, List.set_cons_succ]
    refine takeS 24 (some 29) (.pointer (some ⟨w.heap.size, 2, none⟩)) rfl rfl (by kernel_rfl) (by kernel_rfl) (by kernel_rfl) (fun _ _ _ h => h) rfl S0 (fun w' hw' => by go_simp) ?_
    simp only [Act.put, List.setIfInBounds_toArray, List.set_cons_zero, List.set_cons_succ]
    refine takeS 25 (some 30) (.int .i64 k) rfl rfl (by kernel_rfl) (by kernel_rfl) (by kernel_rfl) (fun _ _ _ h => h) rfl S0 (fun w' hw' => by have cc : w'.cell? ⟨w.heap.size, 2, none⟩ = some (.int .i64 k) := ((HB.out w' hw').cell 2).trans rfl; go_simp) ?_
    simp only [Act.put, List.setIfInBounds_toArray, List.set_cons_zero, List.set_cons_succ]
    refine takeS 26 (some 31) (.bool false) rfl rfl (by kernel_rfl) (by kernel_rfl) (by kernel_rfl) (fun _ _ _ h => h) rfl S0 (fun w' hw' => by go_simp) ?_
    simp only [Act.put, List.setIfInBounds_toArray, List.set_cons_zero, List.set_cons_succ]
    refine takeS 27 (some 32) (.bool false) rfl rfl (by kernel_rfl) (by kernel_rfl) (by kernel_rfl) (fun _ _ _ h => h) rfl S0 (fun w' hw' => by go_simp) ?_
    simp only [Act.put, List.setIfInBounds_toArray, List.set_cons_zero, List.set_cons_succ]
    refine takeS 28 (some 33) (.bool false) rfl rfl (by kernel_rfl) (by kernel_rfl) (by kernel_rfl) (fun _ _ _ h => h) rfl S0 (fun w' hw' => by go_simp) ?_
    simp only [Act.put, List.setIfInBounds_toArray, List.set_cons_zero, List.set_cons_succ]
    refine takeS 29 (some 34) (.pointer (some ⟨w.heap.size, 4, none⟩)) rfl rfl (by kernel_rfl) (by kernel_rfl) (by kernel_rfl) (fun _ _ _ h => h) rfl S0 (fun w' hw' => by go_simp) ?_
    simp only [Act.put, List.setIfInBounds_toArray, List.set_cons_zero, List.set_cons_succ]
    refine takeS 30 (some 35) (.slice adl nl capl) rfl rfl (by kernel_rfl) (by kernel_rfl) (by kernel_rfl) (fun _ _ _ h => h) rfl S0 (fun w' hw' => by have cc : w'.cell? ⟨w.heap.size, 4, none⟩ = some (.slice adl nl capl) := ((HB.out w' hw').cell 4).trans rfl; go_simp) ?_
    simp only [Act.put, List.setIfInBounds_toArray, List.set_cons_zero, List.set_cons_succ]
    refine takeS 31 (some 36) (.int .i64 (nl : Int)) rfl rfl (by kernel_rfl) (by kernel_rfl) (by kernel_rfl) (fun _ _ _ h => h) rfl S0 (fun w' hw' => by go_simp) ?_
    simp only [Act.put, List.setIfInBounds_toArray, List.set_cons_zero, List.set_cons_succ]
    refine takeS 32 (some 37) (.pointer (some ⟨w.heap.size, 0, none⟩)) rfl rfl (by kernel_rfl) (by kernel_rfl) (by kernel_rfl) (fun _ _ _ h => h) rfl S0 (fun w' hw' => by go_simp) ?_
    simp only [Act.put, List.setIfInBounds_toArray, List.set_cons_zero, List.set_cons_succ]
    refine takeS 33 (some 38) (.int .i64 z) rfl rfl (by kernel_rfl) (by kernel_rfl) (by kernel_rfl) (fun _ _ _ h => h) rfl S0 (fun w' hw' => by have cc : w'.cell? ⟨w.heap.size, 0, none⟩ = some (.int .i64 z) := ((HB.out w' hw').cell 0).trans rfl; go_simp) ?_
    simp only [Act.put, List.setIfInBounds_toArray, List.set_cons_zero, List.set_cons_succ]
    refine takeS 34 (some 39) (.pointer (some ⟨w.heap.size, 1, none⟩)) rfl rfl (by kernel_rfl) (by kernel_rfl) (by kernel_rfl) (fun _ _ _ h => h) rfl S0 (fun w' hw' => by go_simp) ?_
    simp only [Act.put, List.setIfInBounds_toArray, List.set_cons_zero, List.set_cons_succ]
    refine takeS 35 (some 40) (.int .i64 b) rfl rfl (by kernel_rfl) (by kernel_rfl) (by kernel_rfl) (fun _ _ _ h => h) rfl S0 (fun w' hw' => by have cc : w'.cell? ⟨w.heap.size, 1, none⟩ = some (.int .i64 b) := ((HB.out w' hw').cell 1).trans rfl; go_simp) ?_
    simp only [Act.put, List.setIfInBounds_toArray, List.set_cons_zero, List.set_cons_succ]
    refine nextS 36 rfl (by kernel_rfl) rfl (callS (some 41) rfl 52 #[.int .i64 z, .int .i64 b] (by go_simp) (fun v w' => v = .int .i64 C1 ∧ W = w') ((cntR z b W).mono fun _ _ he => ⟨_, he.1.trans (by rw [HC1.out]), rfl, he.2⟩) ?_)
    rintro v1 W1 ⟨rfl, rfl⟩
    simp only [Act.put, List.setIfInBounds_toArray, List.set_cons_zero, List.set_cons_succ]
    refine ⟨S0, ?_⟩
    refine takeS 37 (some 42) (.bool false) rfl rfl (by kernel_rfl) (by kernel_rfl) (by kernel_rfl) (fun _ _ _ h => h) rfl S0 (fun w' hw' => by go_simp) ?_
    simp only [Act.put, List.setIfInBounds_toArray, List.set_cons_zero, List.set_cons_succ]
    refine takeS 38 (some 43) (.bool false) rfl rfl (by kernel_rfl) (by kernel_rfl) (by kernel_rfl) (fun _ _ _ h => h) rfl S0 (fun w' hw' => by go_simp) ?_
    simp only [Act.put, List.setIfInBounds_toArray, List.set_cons_zero, List.set_cons_succ]
    refine takeS 39 (some 44) (.bool false) rfl rfl (by kernel_rfl) (by kernel_rfl) (by kernel_rfl) (fun _ _ _ h => h) rfl S0 (fun w' hw' => by go_simp) ?_
    simp only [Act.put, List.setIfInBounds_toArray, List.set_cons_zero, List.set_cons_succ]
    refine takeS 40 (some 45) (.pointer (some ⟨w.heap.size, 5, none⟩)) rfl rfl (by kernel_rfl) (by kernel_rfl) (by kernel_rfl) (fun _ _ _ h => h) rfl S0 (fun w' hw' => by go_simp) ?_
    simp only [Act.put, List.setIfInBounds_toArray, List.set_cons_zero, List.set_cons_succ]
    refine takeS 41 (some 46) (.slice adp np capp) rfl rfl (by kernel_rfl) (by kernel_rfl) (by kernel_rfl) (fun _ _ _ h => h) rfl S0 (fun w' hw' => by have cc : w'.cell? ⟨w.heap.size, 5, none⟩ = some (.slice adp np capp) := ((HB.out w' hw').cell 5).trans rfl; go_simp) ?_
    simp only [Act.put, List.setIfInBounds_toArray, List.set_cons_zero, List.set_cons_succ]
    refine takeS 42 (some 47) (.int .i64 (np : Int)) rfl rfl (by kernel_rfl) (by kernel_rfl) (by kernel_rfl) (fun _ _ _ h => h) rfl S0 (fun w' hw' => by go_simp) ?_
    simp only [Act.put, List.setIfInBounds_toArray, List.set_cons_zero, List.set_cons_succ]
    refine takeS 43 (some 48) (.pointer (some ⟨w.heap.size, 0, none⟩)) rfl rfl (by kernel_rfl) (by kernel_rfl) (by kernel_rfl) (fun _ _ _ h => h) rfl S0 (fun w' hw' => by go_simp) ?_
    simp only [Act.put, List.setIfInBounds_toArray, List.set_cons_zero, List.set_cons_succ]
    refine takeS 44 (some 49) (.int .i64 z) rfl rfl (by kernel_rfl) (by kernel_rfl) (by kernel_rfl) (fun _ _ _ h => h) rfl S0 (fun w' hw' => by have cc : w'.cell? ⟨w.heap.size, 0, none⟩ = some (.int .i64 z) := ((HB.out w' hw').cell 0).trans rfl; go_simp) ?_
    simp only [Act.put, List.setIfInBounds_toArray, List.set_cons_zero, List.set_cons_succ]
    refine takeS 45 (some 50) (.pointer (some ⟨w.heap.size, 1, none⟩)) rfl rfl (by kernel_rfl) (by kernel_rfl) (by kernel_rfl) (fun _ _ _ h => h) rfl S0 (fun w' hw' => by go_simp) ?_
    simp only [Act.put, List.setIfInBounds_toArray, List.set_cons_zero, List.set_cons_succ]
    refine takeS 46 (some 51) (.int .i64 b) rfl rfl (by kernel_rfl) (by kernel_rfl) (by kernel_rfl) (fun _ _ _ h => h) rfl S0 (fun w' hw' => by have cc : w'.cell? ⟨w.heap.size, 1, none⟩ = some (.int .i64 b) := ((HB.out w' hw').cell 1).trans rfl; go_simp) ?_
    simp only [Act.put, List.setIfInBounds_toArray, List.set_cons_zero, List.set_cons_succ]
    refine takeS 47 (some 52) (.pointer (some ⟨w.heap.size, 2, none⟩)) rfl rfl (by kernel_rfl) (by kernel_rfl) (by kernel_rfl) (fun _ _ _ h => h) rfl S0 (fun w' hw' => by go_simp) ?_
    simp only [Act.put, List.setIfInBounds_toArray, List.set_cons_zero, List.set_cons_succ]
    refine takeS 48 (some 53) (.int .i64 k) rfl rfl (by kernel_rfl) (by kernel_rfl) (by kernel_rfl) (fun _ _ _ h => h) rfl S0 (fun w' hw' => by have cc : w'.cell? ⟨w.heap.size, 2, none⟩ = some (.int .i64 k) := ((HB.out w' hw').cell 2).trans rfl; go_simp) ?_
    simp only [Act.put, List.setIfInBounds_toArray, List.set_cons_zero, List.set_cons_succ]
    refine nextS 49 rfl (by kernel_rfl) rfl (callS (some 54) rfl 53 #[.int .i64 z, .int .i64 b, .int .i64 k] (by go_simp) (fun v w' => v = .int .i64 C2 ∧ W = w') ((rgroups_any z b k W).mono fun _ _ he => ⟨_, he.1.trans (by rw [HC2.out]), rfl, he.2⟩) ?_)
    rintro v2 W2 ⟨rfl, rfl⟩
    simp only [Act.put, List.setIfInBounds_toArray, List.set_cons_zero, List.set_cons_succ]
    refine ⟨S0, ?_⟩
    refine takeS 50 (some 55) (.bool false) rfl rfl (by kernel_rfl) (by kernel_rfl) (by kernel_rfl) (fun _ _ _ h => h) rfl S0 (fun w' hw' => by go_simp) ?_
    simp only [Act.put, List.setIfInBounds_toArray, List.set_cons_zero, List.set_cons_succ]
    refine takeS 51 (some 56) (.bool false) rfl rfl (by kernel_rfl) (by kernel_rfl) (by kernel_rfl) (fun _ _ _ h => h) rfl S0 (fun w' hw' => by go_simp) ?_
    simp only [Act.put, List.setIfInBounds_toArray, List.set_cons_zero, List.set_cons_succ]
    refine wpAnyH_done (by kernel_rfl) ?_ _
    clear t7 t7' t8 t8' d1 d2 d3 d4 d5 d6
    have RW := HRR.out.ext S0
    have e1 := e0.trans S0
    have AW := HB.out W S0
    clear HB HRR S0 e0
    go_wp2
    go_loopw [3] (fun i wr => InvSd W ls 32 nl i wr) (fun i _ => nl - (intOf i).toNat)
    case atStart => exact ⟨0, by omega, rfl, Ext.refl W, by simp [allS]⟩
    case round =>
      obtain ⟨j, hj, rfl, ex, hall⟩ := hrel
      have ar := at_ext AW ex
      have f4 := ar.cell 4
      by_cases hlt : j < nl
      · have hv := RW.l
        rw [HNL.out] at hv
        simp only at hv
        obtain ⟨cap1, pb, po, ev1, _, hc1⟩ := lr_at hv (by rw [← HNL.out]; omega)
        injection ev1 with a1 _ a2
        subst a1 a2
        obtain ⟨m1, hm1⟩ : ∃ m, ls[j]? = some m := ⟨_, List.getElem?_eq_getElem (by rw [← HNL.out]; exact hlt)⟩
        obtain ⟨x1, c1, s1⟩ := hc1 j m1 hm1
        obtain ⟨adx, capx, ex1⟩ := s1.len
        subst ex1
        have c1' : wr.cell? ⟨pb, po + j, none⟩ = some (.slice adx m1.length capx) := by rw [Below.cell (p := ⟨pb, po + j, none⟩) ex (World.block_lt_of_cell? W _ c1)]; exact c1
        clear hv hc1 s1 c1 ar
        have i0 : (j : Int) < (nl : Int) := by omega
        have hstep : allS (ls.take (j + 1)) 32 = ((m1.length : Int) == 32) := by
          unfold allS at hall ⊢
          rw [List.take_add_one, hm1, List.all_append, hall]; simp
        have hmem := List.mem_of_getElem? hm1
        have Hs := Lib.hid hstep; clear hstep hm1 hall
        by_cases hb : (m1.length : Int) = 32
        · have t3 : ((m1.length : Int) == 32) = true := by simpa using hb
          rw [t3] at Hs
          replace t3 : ((m1.length : Int) != 32) = false := by simpa using hb
          have Hb := Lib.hid hb; clear hb hmem
          go_wp2
          exact ⟨⟨j + 1, by omega, by go_num, ex, Hs.out⟩, by simp [intOf]; omega⟩
        · have t3 : ((m1.length : Int) == 32) = false := by simpa using hb
          have fin : allS ls 32 = false := by
            unfold allS
            rw [List.all_eq_false]
            exact ⟨m1, hmem, by simpa using hb⟩
          replace t3 : ((m1.length : Int) != 32) = true := by simpa using hb
          have Hf := Lib.hid fin
          clear hb fin hmem
          go_wp2
          go_ret
          exact ⟨by rw [Hf.out]; rfl, e1.trans ex⟩
      · obtain rfl : nl = j := by omega
        rw [List.take_of_length_le (by rw [← HNL.out]; omega)] at hall
        have e2 := e1.trans ex
        have R2 := RW.ext ex
        replace hb6 := hb6 hall
        have Hall := Lib.hid hall
        clear hall RW e1 ex AW hlt hj
        go_wp2
        clear f4
        obtain ⟨W, rfl⟩ : ∃ V, V = wr := ⟨_, rfl⟩
        go_loopw [4] (fun i wr => InvSd W ps b np i wr) (fun i _ => np - (intOf i).toNat)
        case atStart => exact ⟨0, by omega, rfl, Ext.refl W, by simp [allS]⟩
        case round =>
          obtain ⟨j, hj, rfl, ex, hall⟩ := hrel
          have ar2 := at_ext ar ex
          have f5 := ar2.cell 5
          have f1 := ar2.cell 1
          by_cases hlt : j < np
          · have hv := R2.p
            rw [HNP.out] at hv
            simp only at hv
            obtain ⟨cap1, pb, po, ev1, _, hc1⟩ := lr_at hv (by rw [← HNP.out]; omega)
            injection ev1 with a1 _ a2
            subst a1 a2
            obtain ⟨m1, hm1⟩ : ∃ m, ps[j]? = some m := ⟨_, List.getElem?_eq_getElem (by rw [← HNP.out]; exact hlt)⟩
            obtain ⟨x1, c1, s1⟩ := hc1 j m1 hm1
            obtain ⟨adx, capx, ex1⟩ := s1.len
            subst ex1
            have c1' : wr.cell? ⟨pb, po + j, none⟩ = some (.slice adx m1.length capx) := by rw [Below.cell (p := ⟨pb, po + j, none⟩) ex (World.block_lt_of_cell? W _ c1)]; exact c1
            clear hv hc1 s1 c1 ar2
            have i0 : (j : Int) < (np : Int) := by omega
            have i1 : (0 : Int) ≤ (j : Int) := by omega
            have hstep : allS (ps.take (j + 1)) b = ((m1.length : Int) == b) := by
              unfold allS at hall ⊢
              rw [List.take_add_one, hm1, List.all_append, hall]; simp
            have hmem := List.mem_of_getElem? hm1
            have Hs := Lib.hid hstep; clear hstep hm1 hall
            obtain ⟨nm, hnm⟩ : ∃ n, n = m1.length := ⟨_, rfl⟩
            rw [← hnm] at Hs c1'
            by_cases hb : (nm : Int) = b
            · have t3 : ((nm : Int) == b) = true := by simpa using hb
              rw [t3] at Hs
              replace t3 : ((nm : Int) != b) = false := by simpa using hb
              have Hb := Lib.hid hb
              have Hnm := Lib.hid hnm
              clear hb hmem hnm
              go_wp2
              go_quiet (fail)
              go_wp2
              exact ⟨⟨j + 1, by omega, by go_num, belowN ex _, Hs.out⟩, by simp [intOf]; omega⟩
            · have t3 : ((nm : Int) == b) = false := by simpa using hb
              have fin : allS ps b = false := by
                unfold allS
                rw [List.all_eq_false]
                exact ⟨m1, hmem, by rw [hnm] at hb; simpa using hb⟩
              replace t3 : ((nm : Int) != b) = true := by simpa using hb
              have Hf := Lib.hid fin
              have Hnm := Lib.hid hnm
              clear hb fin hmem hnm
              go_wp2
              go_quiet (fail)
              go_wp2
              go_ret
              exact ⟨by rw [Hf.out, Hall.out]; rfl, e2.trans (belowN ex _)⟩
          · obtain rfl : np = j := by omega
            rw [List.take_of_length_le (by rw [← HNP.out]; omega)] at hall
            have e3 := e2.trans ex
            have R3 := R2.ext ex
            have Hps := Lib.hid hall
            clear hall e2 ex ar R2 hlt hj f1
            go_wp2
            clear f5
            have HB := Lib.hid (fun (w' : World) (hw' : Ext wr w') => at_ext ar2 hw')
            have HR := Lib.hid (fun (w' : World) (hw' : Ext wr w') => convB (R3.r.ext hw'))
            clear ar2
            simp only at HR
            obtain ⟨SA, hSA⟩ : ∃ A, A = strOfNums (rootL ls) := ⟨_, rfl⟩
            obtain ⟨SB, hSB⟩ : ∃ A, A = strOfNums rt := ⟨_, rfl⟩
            have HAB : Hid ((SA.toList == SB.toList) = E) := Lib.hid (by rw [hSA, hSB]; exact HE.out.symm)
            rw [← hSB] at HR
            have HSA := Lib.hid hSA
            clear hSA hSB
            refine wp_region_held (S := Ext wr) (by kernel_rfl) ?_
            change wpAnyH _ _ _ _ _ _ _ _ wr.drew
            have S0 : Ext wr wr.drew := Below.drew (Below.refl _ _)
            have R0 := R3.ext S0
            clear R3
            generalize wr.drew = W at *
            refine takeS 0 (some 87) (.pointer (some ⟨w.heap.size, 4, none⟩)) rfl rfl (by kernel_rfl) (by kernel_rfl) (by kernel_rfl) (fun _ _ _ h => h) rfl S0 (fun w' hw' => by go_simp) ?_
            simp only [Act.put, List.setIfInBounds_toArray, List.set_cons_zero, List.set_cons_succ]
            refine takeS 1 (some 88) (.slice adl nl capl) rfl rfl (by kernel_rfl) (by kernel_rfl) (by kernel_rfl) (fun _ _ _ h => h) rfl S0 (fun w' hw' => by have cc : w'.cell? ⟨w.heap.size, 4, none⟩ = some (.slice adl nl capl) := ((HB.out w' hw').cell 4).trans rfl; go_simp) ?_
            simp only [Act.put, List.setIfInBounds_toArray, List.set_cons_zero, List.set_cons_succ]
            refine takeS 4 (some 91) (.pointer (some ⟨w.heap.size, 3, none⟩)) rfl rfl (by kernel_rfl) (by kernel_rfl) (by kernel_rfl) (fun _ _ _ h => h) rfl S0 (fun w' hw' => by go_simp) ?_
            simp only [Act.put, List.setIfInBounds_toArray, List.set_cons_zero, List.set_cons_succ]
            refine takeS 5 (some 92) (.slice adr nr capr) rfl rfl (by kernel_rfl) (by kernel_rfl) (by kernel_rfl) (fun _ _ _ h => h) rfl S0 (fun w' hw' => by have cc : w'.cell? ⟨w.heap.size, 3, none⟩ = some (.slice adr nr capr) := ((HB.out w' hw').cell 3).trans rfl; go_simp) ?_
            simp only [Act.put, List.setIfInBounds_toArray, List.set_cons_zero, List.set_cons_succ]
            refine takeS 6 (some 93) (.string SB) rfl rfl (by kernel_rfl) (by kernel_rfl) (by kernel_rfl) (fun _ _ _ h => h) rfl S0 (fun w' hw' => by have cc := HR.out w' hw'; go_simp) ?_
            simp only [Act.put, List.setIfInBounds_toArray, List.set_cons_zero, List.set_cons_succ]
            refine nextS 2 rfl (by kernel_rfl) rfl (callS (some 89) rfl 31 #[.slice adl nl capl] (by go_simp) (fun v w' => Ext W w' ∧ Src w' v (rootL ls) w'.heap.size) ((rroot_any _ ls W R0.l hl6 hb6).mono fun _ _ he => he) ?_)
            rintro v1 W1 ⟨e1, s1⟩
            simp only [Act.put, List.setIfInBounds_toArray, List.set_cons_zero, List.set_cons_succ]
            have S1 := S0.trans e1
            clear e1 R0 S0
            refine ⟨S1, ?_⟩
            refine nextS 3 rfl (by kernel_rfl) rfl (makeS (some 90) rfl (.string SA) (w1 := W1) (by have cc := convB s1; rw [← HSA.out] at cc; go_simp) ?_)
            simp only [Act.put, List.setIfInBounds_toArray, List.set_cons_zero, List.set_cons_succ]
            refine ⟨S1, ?_⟩
            refine takeS 7 (some 94) (.bool E) rfl rfl (by kernel_rfl) (by kernel_rfl) (by kernel_rfl) (fun _ _ _ h => h) rfl S1 (fun w' hw' => by have cc : (SA.toList == SB.toList) = E := HAB.out; go_simp) ?_
            simp only [Act.put, List.setIfInBounds_toArray, List.set_cons_zero, List.set_cons_succ]
            refine takeS 8 (some 2) (.bool E) rfl rfl (by kernel_rfl) (by kernel_rfl) (by kernel_rfl) (fun _ _ _ h => h) rfl S1 (fun w' hw' => by go_simp) ?_
            simp only [Act.put, List.setIfInBounds_toArray, List.set_cons_zero, List.set_cons_succ]
            refine wpAnyH_done (by kernel_rfl) ?_ _
            go_wp2
            go_ret
            exact ⟨by rw [Hall.out, Hps.out]; rfl, e3.trans S1⟩
end Go.Proofs.YtfhgoedonjcekaaDoor
