/- The law's small, and the walk of the law SidecarChecks. -/
import Derived.Test.YtdohngjhfonifaaDoorSk
import Derived.Test.YtdohngjhfonifaaDoorSd
import Derived.Test.YtdohngjhfonifaaDoorSg
import Derived.Test.YtdohngjhfonifaaDoorWn
import Derived.Test.YtdohngjhfonifaaDoorRw
namespace Go.Proofs.YtdohngjhfonifaaDoor
open Go.RowKit Go.Sha
set_option linter.unusedSimpArgs false
set_option linter.unusedVariables false

theorem srcs_ext {w w' : World} {v : Value} {ps : List (Value × List Int)} (h : Srcs w v ps) (he : Ext w w') : Srcs w' v ps := by
  obtain ⟨ad, cap, pb, po, h1, h2, h3⟩ := h
  refine ⟨ad, cap, pb, po, h1, h2, fun j x hx => ?_⟩
  obtain ⟨c, s⟩ := h3 j x hx
  exact ⟨by rw [Below.cell (p := ⟨pb, po + j, none⟩) he (World.block_lt_of_cell? w _ c)]; exact c, s.now he⟩
/-- A sidecar that came in. -/
structure ArgS (w : World) (rt : List Int) (pl pp : List (Value × List Int)) (vr vl vp : Value) : Prop where
  r : Src w vr rt w.heap.size
  rb : Byt rt
  rl : rt.length ≤ 9223372036854775807
  l : Arg w vl pl
  p : Arg w vp pp
theorem ArgS.ext {w w' : World} {rt : List Int} {pl pp : List (Value × List Int)} {vr vl vp : Value} (h : ArgS w rt pl pp vr vl vp) (he : Ext w w') : ArgS w' rt pl pp vr vl vp :=
  ⟨h.r.now he, h.rb, h.rl, ⟨srcs_ext h.l.1 he, h.l.2⟩, ⟨srcs_ext h.p.1 he, h.p.2⟩⟩
theorem ArgS.sr {w : World} {rt : List Int} {pl pp : List (Value × List Int)} {vr vl vp : Value} (h : ArgS w rt pl pp vr vl vp) (z b k : Int) : SR w ⟨z, b, k, rt, pl.map (·.2), pp.map (·.2)⟩ vr vl vp :=
  ⟨h.r, LR.of_srcs h.l.1, LR.of_srcs h.p.1⟩
theorem Srcs.len {w : World} {v : Value} {ps : List (Value × List Int)} (h : Srcs w v ps) : ∃ ad cap, v = .slice ad ps.length cap := by
  obtain ⟨ad, cap, _, _, h, _⟩ := h
  exact ⟨ad, cap, h⟩
def SmallPost (w : World) (rt : List Int) (pl pp : List (Value × List Int)) (e : Ending) (w' : World) : Prop := ∃ c : Bool, e = .returned (.bool c) ∧ (c = true → tot pl ≤ 6000 ∧ tot pp ≤ 6000 ∧ rt.length ≤ 100) ∧ Ext w w'

set_option maxHeartbeats 2000000 in
theorem small_any (z b k : Int) (rt : List Int) (pl pp : List (Value × List Int)) (vr vl vp : Value) (w : World) (h : ArgS w rt pl pp vr vl vp) :
    Calls Tryd.prog 12 #[.agg #[.int .i64 z, .int .i64 b, .int .i64 k, vr, vl, vp]] w (SmallPost w rt pl pp) := by
  obtain ⟨adr, capr, ev⟩ := h.r.len
  subst ev
  obtain ⟨adl, capl, ev⟩ := Srcs.len h.l.1
  subst ev
  obtain ⟨adp, capp, ev⟩ := Srcs.len h.p.1
  subst ev
  obtain ⟨nr, hnr⟩ : ∃ n, n = rt.length := ⟨_, rfl⟩
  obtain ⟨nl, hnl⟩ : ∃ n, n = pl.length := ⟨_, rfl⟩
  obtain ⟨np, hnp⟩ : ∃ n, n = pp.length := ⟨_, rfl⟩
  rw [← hnr, ← hnl, ← hnp] at h ⊢
  have Hnr := Lib.hid hnr
  clear hnr hnl hnp
  have e0 : Ext w (w.alloc (.cells #[.int .i64 z, .int .i64 b, .int .i64 k, .slice adr nr capr, .slice adl nl capl, .slice adp np capp] 30)) := Ext.alloc w _
  have a1 := At.new w #[.int .i64 z, .int .i64 b, .int .i64 k, .slice adr nr capr, .slice adl nl capl, .slice adp np capp] 30
  have H := Lib.hid (h.ext e0)
  clear h
  go_enter Tryd.func12, Tryd.ntmps12
  go_wp2_with fail
  refine (abytes_any 6000 (by omega) _ pl _ H.out.l.1 H.out.l.2.1 H.out.l.2.2.1).mono ?_
  rintro e w1 ⟨n1, h1, rfl, e1⟩
  replace a1 := at_ext a1 e1
  have H1 := Lib.hid (H.out.ext e1)
  replace e0 := e0.trans e1
  have f3 := a1.cell 3
  have f5 := a1.cell 5
  clear H e1 a1
  rcases h1 with ⟨t1, q1⟩ | ⟨t1, q1⟩
  · have d1 : decide (n1 ≤ 6000) = true := by simp; omega
    clear q1
    go_wp2_with fail
    refine (abytes_any 6000 (by omega) _ pp _ H1.out.p.1 H1.out.p.2.1 H1.out.p.2.2.1).mono ?_
    rintro e w2 ⟨n2, h2, rfl, e1⟩
    have f3' : w2.cell? ⟨w.heap.size, 3, none⟩ = some (.slice adr nr capr) := by rw [Below.cell (p := ⟨w.heap.size, 3, none⟩) e1 (World.block_lt_of_cell? w1 _ f3)]; exact f3
    replace e0 := e0.trans e1
    clear H1 e1 f3 f5
    rcases h2 with ⟨t2, q2⟩ | ⟨t2, q2⟩
    · have d2 : decide (n2 ≤ 6000) = true := by simp; omega
      clear q2
      by_cases h3 : nr ≤ 100
      · have d3 : decide ((nr : Int) ≤ 100) = true := by simp; omega
        have d3' : decide (nr ≤ 100) = true := by simpa using h3
        have Hc := Lib.hid (And.intro t1 (And.intro t2 h3))
        clear t1 t2 h3
        go_wp2
        go_ret
        exact ⟨true, rfl, fun _ => ⟨Hc.out.1, Hc.out.2.1, by rw [← Hnr.out]; exact Hc.out.2.2⟩, e0⟩
      · have d3 : decide ((nr : Int) ≤ 100) = false := by simp; omega
        have d3' : decide (nr ≤ 100) = false := by simpa using h3
        clear h3
        go_wp2
        go_ret
        exact ⟨false, rfl, fun h => by simp at h, e0⟩
    · have d2 : decide (n2 ≤ 6000) = false := by simp; omega
      clear q2
      go_wp2
      go_ret
      exact ⟨false, rfl, fun h => by simp at h, e0⟩
  · have d1 : decide (n1 ≤ 6000) = false := by simp; omega
    clear q1
    go_wp2
    go_ret
    exact ⟨false, rfl, fun h => by simp at h, e0⟩
theorem tot_len (ps : List (Value × List Int)) : ps.length ≤ tot ps := by have := flat_tot ps; omega
theorem tot_mem (ps : List (Value × List Int)) : ∀ x ∈ ps, x.2.length ≤ tot ps := by
  intro x hx
  obtain ⟨i, h1, h2⟩ := List.mem_iff_getElem.1 hx
  have := tot_take ps i x (by rw [List.getElem?_eq_getElem h1, h2])
  have := tot_le ps (i + 1)
  omega


set_option maxHeartbeats 8000000 in
set_option maxRecDepth 100000 in
theorem checks_any (z b k : Int) (rt : List Int) (pl pp : List (Value × List Int)) (vr vl vp v : Value) (m : List Int) (w : World) (hK : KAt w) (h : ArgS w rt pl pp vr vl vp) (hs : Src w v m w.heap.size) :
    Calls Tryd.prog 5 #[.agg #[.int .i64 z, .int .i64 b, .int .i64 k, vr, vl, vp], v] w fun e w' => e = .returned (.bool true) ∧ Ext w w' := by
  obtain ⟨adr, capr, ev⟩ := h.r.len
  subst ev
  obtain ⟨adl, capl, ev⟩ := Srcs.len h.l.1
  subst ev
  obtain ⟨adp, capp, ev⟩ := Srcs.len h.p.1
  subst ev
  obtain ⟨ad, cap, ev⟩ := hs.len
  subst ev
  obtain ⟨nr, hnr⟩ : ∃ n, n = rt.length := ⟨_, rfl⟩
  obtain ⟨nl, hnl⟩ : ∃ n, n = pl.length := ⟨_, rfl⟩
  obtain ⟨np, hnp⟩ : ∃ n, n = pp.length := ⟨_, rfl⟩
  obtain ⟨M, hM⟩ : ∃ n, n = m.length := ⟨_, rfl⟩
  rw [← hnr, ← hnl, ← hnp] at h ⊢
  rw [← hM] at hs ⊢
  have HM := Lib.hid hM
  clear hnr hnl hnp hM
  have e0 : Ext w (w.alloc (.cells #[.int .i64 z, .int .i64 b, .int .i64 k, .slice adr nr capr, .slice adl nl capl, .slice adp np capp] 30)) := Ext.alloc w _
  have a1 := At.new w #[.int .i64 z, .int .i64 b, .int .i64 k, .slice adr nr capr, .slice adl nl capl, .slice adp np capp] 30
  have f0 := a1.cell 0
  have f1 := a1.cell 1
  have f2 := a1.cell 2
  have f3 := a1.cell 3
  have f4 := a1.cell 4
  have f5 := a1.cell 5
  go_enter Tryd.func5, Tryd.ntmps5
  go_wp2_with fail
  clear f0 f1 f2 f3 f4 f5
  refine (small_any z b k rt pl pp _ _ _ _ (h.ext e0)).mono ?_
  rintro e w1 ⟨c, rfl, hc, e1⟩
  replace a1 := at_ext a1 e1
  replace e0 := e0.trans e1
  clear e1
  cases c
  · clear hc
    go_wp2_with fail
    refine (awake_any _ (hK.below e0 hK.lt)).mono ?_
    rintro e w9 ⟨rfl, e9⟩
    go_wp2
    go_ret
    exact ⟨rfl, e0.trans e9⟩
  obtain ⟨t1, t2, t3⟩ := hc rfl
  clear hc
  by_cases c1 : 3000 < M
  · have d1 : decide (3000 < M) = true := by simpa using c1
    have d1' : decide ((3000 : Int) < (M : Int)) = true := by simp; omega
    clear t1 t2 t3 c1
    go_wp2_with fail
    refine (awake_any _ (hK.below e0 hK.lt)).mono ?_
    rintro e w9 ⟨rfl, e9⟩
    go_wp2
    go_ret
    exact ⟨rfl, e0.trans e9⟩
  have d1 : decide (3000 < M) = false := by simpa using c1
  have d1' : decide ((3000 : Int) < (M : Int)) = false := by simp; omega
  have hl1 : (pl.map (·.2)).length ≤ 6000 := by rw [List.length_map]; have := tot_len pl; omega
  have hl2 : (pp.map (·.2)).length ≤ 6000 := by rw [List.length_map]; have := tot_len pp; omega
  have hpb : ∀ x ∈ pp.map (·.2), Byt x := fun x hx => by
    obtain ⟨y, hy, rfl⟩ := List.mem_map.1 hx
    exact h.p.2.2.2 y hy
  have HP := Lib.hid hpb
  have R1 := (h.ext e0).sr z b k
  generalize pl.map (·.2) = ls at *
  generalize pp.map (·.2) = ps at *
  have HL := Lib.hid (And.intro hl1 hl2)
  clear t1 t2 t3 c1 h hpb hl1 hl2
  have f0 := a1.cell 0
  have f1 := a1.cell 1
  have f2 := a1.cell 2
  have f3 := a1.cell 3
  have f4 := a1.cell 4
  have f5 := a1.cell 5
  go_wp2_with fail
  clear f0 f1 f2 f3 f4 f5 d1 d1'
  refine (rsound_any ⟨z, b, k, rt, ls, ps⟩ _ _ _ w1 R1 (by have := HL.out.1; simp only; omega) (by have := HL.out.2; simp only; omega)).mono ?_
  rintro e w2 ⟨rfl, e1⟩
  replace a1 := at_ext a1 e1
  replace e0 := e0.trans e1
  have R2 := R1.ext e1
  clear e1 R1
  obtain ⟨SO, so⟩ : ∃ B, soundL ⟨z, b, k, rt, ls, ps⟩ = B := ⟨_, rfl⟩
  rw [so]
  cases SO
  · clear a1 R2
    go_wp2_with fail
    refine (awake_any _ (hK.below e0 hK.lt)).mono ?_
    rintro e w9 ⟨rfl, e9⟩
    go_wp2
    go_ret
    exact ⟨rfl, e0.trans e9⟩
  have hm6 := (mayL_iff z b k).1 (by
    unfold soundL at so
    simp only [Bool.and_eq_true] at so
    exact so.1.1.1)
  obtain ⟨n, rfl⟩ := Int.eq_ofNat_of_zero_le hm6.1
  obtain ⟨bb, rfl⟩ := Int.eq_ofNat_of_zero_le (show 0 ≤ b by omega)
  obtain ⟨kk, rfl⟩ := Int.eq_ofNat_of_zero_le (show 0 ≤ k by omega)
  have Hm := Lib.hid hm6
  clear hm6
  go_upto_region 6 with (fail)
  have HB := Lib.hid (fun (w' : World) (hw' : Ext w2 w') => at_ext a1 hw')
  have s2 := hs.now e0
  refine wp_region_held (S := Ext w2) (by kernel_rfl) ?_
  change wpAnyH _ _ _ _ _ _ _ _ w2.drew
  have S0 : Ext w2 w2.drew := Below.drew (Below.refl _ _)
  have R0 := R2.ext S0
  have q0 := s2.now S0
  clear R2 s2
  generalize w2.drew = W at *
  refine takeS 0 (some 24) (.slice ad M cap) rfl rfl (by kernel_rfl) (by kernel_rfl) (by kernel_rfl) (fun _ _ _ h => h) rfl S0 (fun w' hw' => by go_simp) ?_
  simp only [Act.put, List.setIfInBounds_toArray, List.set_cons_zero, List.set_cons_succ]
  refine takeS 1 (some 25) (.pointer (some ⟨w.heap.size, 0, none⟩)) rfl rfl (by kernel_rfl) (by kernel_rfl) (by kernel_rfl) (fun _ _ _ h => h) rfl S0 (fun w' hw' => by go_simp) ?_
  simp only [Act.put, List.setIfInBounds_toArray, List.set_cons_zero, List.set_cons_succ]
  refine takeS 2 (some 26) (.int .i64 (n : Int)) rfl rfl (by kernel_rfl) (by kernel_rfl) (by kernel_rfl) (fun _ _ _ h => h) rfl S0 (fun w' hw' => by have cc : w'.cell? ⟨w.heap.size, 0, none⟩ = some (.int .i64 (n : Int)) := ((HB.out w' hw').cell 0).trans rfl; go_simp) ?_
  simp only [Act.put, List.setIfInBounds_toArray, List.set_cons_zero, List.set_cons_succ]
  refine takeS 4 (some 28) (.pointer (some ⟨w.heap.size, 1, none⟩)) rfl rfl (by kernel_rfl) (by kernel_rfl) (by kernel_rfl) (fun _ _ _ h => h) rfl S0 (fun w' hw' => by go_simp) ?_
  simp only [Act.put, List.setIfInBounds_toArray, List.set_cons_zero, List.set_cons_succ]
  refine takeS 5 (some 29) (.int .i64 (bb : Int)) rfl rfl (by kernel_rfl) (by kernel_rfl) (by kernel_rfl) (fun _ _ _ h => h) rfl S0 (fun w' hw' => by have cc : w'.cell? ⟨w.heap.size, 1, none⟩ = some (.int .i64 (bb : Int)) := ((HB.out w' hw').cell 1).trans rfl; go_simp) ?_
  simp only [Act.put, List.setIfInBounds_toArray, List.set_cons_zero, List.set_cons_succ]
  refine takeS 6 (some 30) (.pointer (some ⟨w.heap.size, 4, none⟩)) rfl rfl (by kernel_rfl) (by kernel_rfl) (by kernel_rfl) (fun _ _ _ h => h) rfl S0 (fun w' hw' => by go_simp) ?_
  simp only [Act.put, List.setIfInBounds_toArray, List.set_cons_zero, List.set_cons_succ]
  refine takeS 7 (some 31) (.slice adl nl capl) rfl rfl (by kernel_rfl) (by kernel_rfl) (by kernel_rfl) (fun _ _ _ h => h) rfl S0 (fun w' hw' => by have cc : w'.cell? ⟨w.heap.size, 4, none⟩ = some (.slice adl nl capl) := ((HB.out w' hw').cell 4).trans rfl; go_simp) ?_
  simp only [Act.put, List.setIfInBounds_toArray, List.set_cons_zero, List.set_cons_succ]
  refine nextS 3 rfl (by kernel_rfl) rfl (callS (some 27) rfl 21 #[.slice ad M cap, .int .i64 (n : Int)] (by go_simp) (fun v w' => Ext W w' ∧ OwnB w' W.heap.size v (fitL m n)) ((rfit_any _ m n W q0 (by have := Hm.out; omega)).mono fun _ _ he => he) ?_)
  rintro v1 W1 ⟨e1, o1⟩
  simp only [Act.put, List.setIfInBounds_toArray, List.set_cons_zero, List.set_cons_succ]
  have S1 := S0.trans e1
  have R1 := R0.ext e1
  have t1 := o1.srcs _ (Or.inr (Nat.le_refl _))
  clear e1 R0 S0 o1 q0
  refine ⟨S1, ?_⟩
  refine nextS 8 rfl (by kernel_rfl) rfl (callS (some 32) rfl 20 #[v1, .int .i64 (bb : Int), .slice adl nl capl] (by go_simp) (fun v w' => Ext W1 w' ∧ IR w' v (badL (fitL m n) bb ls)) ((rbad_any _ (fitL m n) bb _ ls W1 t1 R1.l (by rw [fitL_length]; have := Hm.out; omega) (by have := HL.out.1; omega)).mono fun _ _ he => he) ?_)
  rintro v2 W2 ⟨e1, i2⟩
  simp only [Act.put, List.setIfInBounds_toArray, List.set_cons_zero, List.set_cons_succ]
  have S2 := S1.trans e1
  have R2 := R1.ext e1
  clear e1 R1 t1
  refine ⟨S2, ?_⟩
  refine takeS 9 (some 5) (v2) rfl rfl (by kernel_rfl) (by kernel_rfl) (by kernel_rfl) (fun _ _ _ h => h) rfl S2 (fun w' hw' => by go_simp) ?_
  simp only [Act.put, List.setIfInBounds_toArray, List.set_cons_zero, List.set_cons_succ]
  refine wpAnyH_done (by kernel_rfl) ?_ _
  replace a1 := HB.out W2 S2
  replace e0 := e0.trans S2
  clear HB S2 S1
  obtain ⟨L, hL⟩ : ∃ L, L = badL (fitL m n) bb ls := ⟨_, rfl⟩
  rw [← hL] at i2
  have hLl : L.length ≤ 1000000000 := by
    rw [hL, badL]
    have h1 := badN_len (fitL m n) bb ls (cntL (fitL m n).length bb).toNat
    have h2 := cntL_le (fitL m n).length bb
    omega
  obtain ⟨adb, capb, ev⟩ := ir_len i2
  subst ev
  obtain ⟨nb, hnb⟩ : ∃ x, x = L.length := ⟨_, rfl⟩
  have hok : okL m n L = (((M : Int) == (n : Int)) && ((nb : Int) == 0)) := by rw [okL, ← HM.out, ← hnb]
  rw [← hnb] at i2 ⊢
  have f0 := a1.cell 0
  obtain ⟨OK, hOK⟩ : ∃ B, okL m n L = B := ⟨_, rfl⟩
  have HLx := Lib.hid (And.intro hL (And.intro hLl hOK))
  have HI := Lib.hid i2
  clear hL hLl hnb i2
  have cut : ∀ B : Bool, B = OK → Code.wp Tryd.prog = Code.wp Tryd.prog := fun _ _ => rfl
  clear cut
  rw [hok] at hOK
  clear hok
  obtain ⟨B1, d1⟩ : ∃ B, ((M : Int) == (n : Int)) = B := ⟨_, rfl⟩
  obtain ⟨B2, d2⟩ : ∃ B, ((nb : Int) == 0) = B := ⟨_, rfl⟩
  rw [d1, d2] at hOK
  have fin : Hid (∀ (a : Act) (W3 : World), a = a) := Lib.hid (fun _ _ => rfl)
  clear fin
  cases B1 <;> cases B2 <;> (simp only [Bool.true_and, Bool.false_and, Bool.and_true] at hOK; subst hOK)
  all_goals
    go_upto_region 9 with (fail)
    clear f0 d1 d2
    have f0 := a1.cell 0
    have f1 := a1.cell 1
    have f2 := a1.cell 2
    have f3 := a1.cell 3
    have f4 := a1.cell 4
    have f5 := a1.cell 5
    go_wp2_with fail
    clear f0 f1 f2 f3 f4 f5
    refine (made_any _ _ _ _ _ _ _ _ _ _ _ _ W2).mono ?_
    rintro e w3 ⟨rfl, e1⟩
    replace a1 := at_ext a1 e1
    replace e0 := e0.trans e1
    replace R2 := R2.ext e1
    have HI3 := Lib.hid (ir_ext HI.out e1)
    clear e1 HI
    go_wp2_with fail
    refine (check_ok n bb kk rt ls ps _ _ _ _ m w3 (hK.below e0 hK.lt) R2 (hs.now e0) so).mono ?_
    rintro e w4 ⟨v4, rfl, e1, i4⟩
    rw [← HLx.out.1] at i4
    rw [← HLx.out.1, HLx.out.2.2]
    replace a1 := at_ext a1 e1
    replace e0 := e0.trans e1
    replace R2 := R2.ext e1
    have HI4 := Lib.hid (ir_ext HI3.out e1)
    have HJ4 := Lib.hid i4
    clear e1 HI3 i4
    have f0 := a1.cell 0
    have f1 := a1.cell 1
    have f2 := a1.cell 2
    have f3 := a1.cell 3
    have f4 := a1.cell 4
    have f5 := a1.cell 5
    go_wp2_with fail
    clear f0 f1 f2 f3 f4 f5
    refine (made_any _ _ _ _ _ _ _ _ _ _ _ _ w4).mono ?_
    rintro e w5 ⟨rfl, e1⟩
    replace a1 := at_ext a1 e1
    replace e0 := e0.trans e1
    replace R2 := R2.ext e1
    have HI5 := Lib.hid (ir_ext HI4.out e1)
    have HJ5 := Lib.hid (ir_ext HJ4.out e1)
    clear e1 HI4 HJ4
    go_wp2_with fail
    refine (repair_ok n bb kk rt ls ps _ _ _ _ m w5 (hK.below e0 hK.lt) R2 (hs.now e0) so HP.out).mono ?_
    rintro e w6 ⟨v6, u6, rfl, e1, p6, q6⟩
    replace a1 := at_ext a1 e1
    replace e0 := e0.trans e1
    replace R2 := R2.ext e1
    have HI6 := Lib.hid (ir_ext HI5.out e1)
    have HJ6 := Lib.hid (ir_ext HJ5.out e1)
    have HP6 := Lib.hid p6
    have HQ6 := Lib.hid q6
    clear e1 HI5 HJ5 p6 q6
    have f0 := a1.cell 0
    have f1 := a1.cell 1
    have f2 := a1.cell 2
    have f3 := a1.cell 3
    have f4 := a1.cell 4
    have f5 := a1.cell 5
    go_wp2_with fail
    clear f0 f1 f2 f3 f4 f5
    refine (rrepair_ok n bb kk rt ls ps _ _ _ _ m w6 (hK.below e0 hK.lt) R2 (hs.now e0) so).mono ?_
    rintro e w7 ⟨v7, u7, rfl, e1, p7, q7⟩
    replace e0 := e0.trans e1
    have HI7 := Lib.hid (ir_ext HI6.out e1)
    have HJ7 := Lib.hid (ir_ext HJ6.out e1)
    have HP7 := Lib.hid (HP6.out.now e1)
    have HQ7 := Lib.hid (ir_ext HQ6.out e1)
    have HR7 := Lib.hid p7
    have HS7 := Lib.hid q7
    clear e1 HI6 HJ6 p7 q7 HP6 HQ6 a1 R2
    go_wp2_with fail
    refine (ints_any _ _ L w7 HJ7.out HI7.out HLx.out.2.1).mono ?_
    rintro e w8 ⟨rfl, e1⟩
    replace e0 := e0.trans e1
    have x1 := convB (HP7.out.now e1)
    have x2 := convB (HR7.out.now e1)
    have HQ8 := Lib.hid (ir_ext HQ7.out e1)
    have HS8 := Lib.hid (ir_ext HS7.out e1)
    clear e1 HI7 HJ7 HP7 HR7 HQ7 HS7
    generalize fixL (fitL m n) bb kk ls ps = FX at *
    generalize strOfNums FX = SX at *
    go_wp2_with fail
    clear x1 x2
    refine (ints_any _ _ _ w8 HQ8.out HS8.out ?_).mono ?_
    · rw [badL]
      have h1 := badN_len FX bb ls (cntL FX.length bb).toNat
      have h2 := cntL_le FX.length bb
      omega
    rintro e w9 ⟨rfl, e1⟩
    replace e0 := e0.trans e1
    clear e1
    go_wp2_with fail
    refine (awake_any _ (hK.below e0 hK.lt)).mono ?_
    rintro e wz ⟨rfl, ez⟩
    go_wp2
    go_ret
    exact ⟨rfl, e0.trans ez⟩
end Go.Proofs.YtdohngjhfonifaaDoor
