/- The contracts of Check and Repair of a sidecar that is sound (the code's), and of the document's own Repair. -/
import Derived.Test.YtdohngjhfonifaaDoorSi
import Derived.Test.YtdohngjhfonifaaDoorSj
import Derived.Test.YtdohngjhfonifaaDoorQi
namespace Go.Proofs.YtdohngjhfonifaaDoor
open Go.RowKit Go.Sha
set_option linter.unusedSimpArgs false
set_option linter.unusedVariables false

/-- The bad places, and whether all is as it was. -/
def okL (m : List Int) (n : Nat) (l : List Int) : Bool := ((m.length : Int) == (n : Int)) && ((l.length : Int) == 0)
def CPost (w : World) (l : List Int) (o : Bool) (e : Ending) (w' : World) : Prop := ∃ v, e = .returned (.tuple #[v, .bool o]) ∧ Ext w w' ∧ IR w' v l
theorem fpu {w : World} {f l : List Int} {e : Ending} {w' : World} (h : FPost w f l e w') : ∃ v, e = .returned v ∧ ∃ v3 v4, v = .tuple #[v3, v4] ∧ Ext w w' ∧ Src w' v3 f w'.heap.size ∧ IR w' v4 l := by
  obtain ⟨v, u, h1, h2, h3, h4⟩ := h
  exact ⟨_, h1, v, u, rfl, h2, h3, h4⟩

set_option maxHeartbeats 4000000 in
set_option maxRecDepth 100000 in
theorem check_ok (n b k : Nat) (rt : List Int) (ls ps : List (List Int)) (vr vl vp v : Value) (m : List Int) (w : World) (hK : KAt w) (h : SR w (⟨(n : Int), (b : Int), (k : Int), rt, ls, ps⟩ : Sd) vr vl vp) (hs : Src w v m w.heap.size) (so : soundL (⟨(n : Int), (b : Int), (k : Int), rt, ls, ps⟩ : Sd) = true) :
    Calls Tryd.prog 22 #[.agg #[.int .i64 (n : Int), .int .i64 (b : Int), .int .i64 (k : Int), vr, vl, vp], v] w (CPost w (badL (fitL m n) b ls) (okL m n (badL (fitL m n) b ls))) := by
  have hmay : mayL n b k = true := by
    unfold soundL at so
    simp only [Bool.and_eq_true] at so
    exact so.1.1.1
  have hm6 := (mayL_iff _ _ _).1 hmay
  have hlls : (ls.length : Int) = cntL n b := by
    unfold soundL at so
    simp only [Bool.and_eq_true] at so
    exact (allL_len so.1.1.2).1
  have hlps : (ps.length : Int) = grpsN n b k := by
    unfold soundL at so
    simp only [Bool.and_eq_true] at so
    exact (allL_len so.1.2).1
  have hl1 : ls.length ≤ 1000000000 := by have := cntL_le n b; omega
  have hl2 : ps.length ≤ 1000000000 := by have := grpsN_le n b k; omega
  have hn8 : n ≤ 8192 := by omega
  clear hmay hlls hlps
  obtain ⟨adr, capr, ev⟩ := h.r.len
  subst ev
  obtain ⟨adl, capl, ev⟩ := h.l.len
  subst ev
  obtain ⟨adp, capp, ev⟩ := h.p.len
  subst ev
  obtain ⟨ad, cap, ev⟩ := hs.len
  subst ev
  simp only at h ⊢
  obtain ⟨nr, hnr⟩ : ∃ n, n = rt.length := ⟨_, rfl⟩
  obtain ⟨nl, hnl⟩ : ∃ n, n = ls.length := ⟨_, rfl⟩
  obtain ⟨np, hnp⟩ : ∃ n, n = ps.length := ⟨_, rfl⟩
  obtain ⟨M, hM⟩ : ∃ n, n = m.length := ⟨_, rfl⟩
  rw [← hnr, ← hnl, ← hnp] at h ⊢
  rw [← hM] at hs ⊢
  have HM := Lib.hid hM
  have Hl := Lib.hid (And.intro hl1 (And.intro hl2 (And.intro hm6 hn8)))
  clear hnr hnl hnp hM hm6 hn8 hl1 hl2
  have e0 : Ext w (w.alloc (.cells #[.int .i64 (n : Int), .int .i64 (b : Int), .int .i64 (k : Int), .slice adr nr capr, .slice adl nl capl, .slice adp np capp] 26)) := Ext.alloc w _
  have a0 := At.new w #[.int .i64 (n : Int), .int .i64 (b : Int), .int .i64 (k : Int), .slice adr nr capr, .slice adl nl capl, .slice adp np capp] 26
  have R := h.ext e0
  have Kw := hK.below e0 hK.lt
  have s0 := hs.now e0
  obtain ⟨w0, hw0⟩ : ∃ w0, w0 = w.alloc (.cells #[.int .i64 (n : Int), .int .i64 (b : Int), .int .i64 (k : Int), .slice adr nr capr, .slice adl nl capl, .slice adp np capp] 26) := ⟨_, rfl⟩
  rw [← hw0] at e0 a0 R Kw s0
  clear h hK hs
  have f0 := a0.cell 0
  have f1 := a0.cell 1
  have f2 := a0.cell 2
  have f3 := a0.cell 3
  have f4 := a0.cell 4
  have f5 := a0.cell 5
  rw [hw0] at f0 f1 f2 f3 f4 f5
  go_enter Tryd.func22, Tryd.ntmps22
  go_wp2_with fail
  rw [← hw0]
  clear f0 f1 f2 f3 f4 f5 hw0
  refine (sound_any (⟨(n : Int), (b : Int), (k : Int), rt, ls, ps⟩ : Sd) _ _ _ w0 Kw R (by have := Hl.out.1; simp only; omega) (by have := Hl.out.2.1; simp only; omega)).mono ?_
  rintro e w1 ⟨rfl, e1⟩
  rw [so]
  have HB := Lib.hid (fun (w' : World) (hw' : Ext w1 w') => at_ext a0 (e1.trans hw'))
  have R1 := R.ext e1
  have k1 := Kw.below e1 Kw.lt
  have s1 := s0.now e1
  have e01 := e0.trans e1
  clear R Kw s0 e0 e1 a0
  go_wp2
  refine wp_region_held (S := Ext w1) (by kernel_rfl) ?_
  change wpAnyH _ _ _ _ _ _ _ _ w1.drew
  have S0 : Ext w1 w1.drew := Below.drew (Below.refl _ _)
  have R0 := R1.ext S0
  have K0 := k1.below S0 k1.lt
  have q0 := s1.now S0
  clear R1 s1 k1
  generalize w1.drew = W at *
  refine takeS 0 (some 9) (.slice ad M cap) rfl rfl (by kernel_rfl) (by kernel_rfl) (by kernel_rfl) (fun _ _ _ h => h) rfl S0 (fun w' hw' => by go_simp) ?_
  simp only [Act.put, List.setIfInBounds_toArray, List.set_cons_zero, List.set_cons_succ]
  refine takeS 1 (some 10) (.pointer (some ⟨w.heap.size, 0, none⟩)) rfl rfl (by kernel_rfl) (by kernel_rfl) (by kernel_rfl) (fun _ _ _ h => h) rfl S0 (fun w' hw' => by go_simp) ?_
  simp only [Act.put, List.setIfInBounds_toArray, List.set_cons_zero, List.set_cons_succ]
  refine takeS 2 (some 11) (.int .i64 (n : Int)) rfl rfl (by kernel_rfl) (by kernel_rfl) (by kernel_rfl) (fun _ _ _ h => h) rfl S0 (fun w' hw' => by have cc : w'.cell? ⟨w.heap.size, 0, none⟩ = some (.int .i64 (n : Int)) := ((HB.out w' hw').cell 0).trans rfl; go_simp) ?_
  simp only [Act.put, List.setIfInBounds_toArray, List.set_cons_zero, List.set_cons_succ]
  refine takeS 4 (some 13) (.pointer (some ⟨w.heap.size, 1, none⟩)) rfl rfl (by kernel_rfl) (by kernel_rfl) (by kernel_rfl) (fun _ _ _ h => h) rfl S0 (fun w' hw' => by go_simp) ?_
  simp only [Act.put, List.setIfInBounds_toArray, List.set_cons_zero, List.set_cons_succ]
  refine takeS 5 (some 14) (.int .i64 (b : Int)) rfl rfl (by kernel_rfl) (by kernel_rfl) (by kernel_rfl) (fun _ _ _ h => h) rfl S0 (fun w' hw' => by have cc : w'.cell? ⟨w.heap.size, 1, none⟩ = some (.int .i64 (b : Int)) := ((HB.out w' hw').cell 1).trans rfl; go_simp) ?_
  simp only [Act.put, List.setIfInBounds_toArray, List.set_cons_zero, List.set_cons_succ]
  refine takeS 6 (some 15) (.pointer (some ⟨w.heap.size, 4, none⟩)) rfl rfl (by kernel_rfl) (by kernel_rfl) (by kernel_rfl) (fun _ _ _ h => h) rfl S0 (fun w' hw' => by go_simp) ?_
  simp only [Act.put, List.setIfInBounds_toArray, List.set_cons_zero, List.set_cons_succ]
  refine takeS 7 (some 16) (.slice adl nl capl) rfl rfl (by kernel_rfl) (by kernel_rfl) (by kernel_rfl) (fun _ _ _ h => h) rfl S0 (fun w' hw' => by have cc : w'.cell? ⟨w.heap.size, 4, none⟩ = some (.slice adl nl capl) := ((HB.out w' hw').cell 4).trans rfl; go_simp) ?_
  simp only [Act.put, List.setIfInBounds_toArray, List.set_cons_zero, List.set_cons_succ]
  refine nextS 3 rfl (by kernel_rfl) rfl (callS (some 12) rfl 59 #[.slice ad M cap, .int .i64 (n : Int)] (by go_simp) (fun v w' => Ext W w' ∧ OwnB w' W.heap.size v (fitL m n)) ((fitted_any _ m n W q0 (by have := Hl.out.2.2.2; omega)).mono fun _ _ he => he) ?_)
  rintro v1 W1 ⟨e1, o1⟩
  simp only [Act.put, List.setIfInBounds_toArray, List.set_cons_zero, List.set_cons_succ]
  have S1 := S0.trans e1
  have R1 := R0.ext e1
  have K1 := K0.below e1 K0.lt
  have t1 := o1.srcs _ (Or.inr (Nat.le_refl _))
  clear e1 R0 S0 o1 q0
  refine ⟨S1, ?_⟩
  refine nextS 8 rfl (by kernel_rfl) rfl (callS (some 17) rfl 58 #[v1, .int .i64 (b : Int), .slice adl nl capl] (by go_simp) (fun v w' => Ext W1 w' ∧ IR w' v (badL (fitL m n) b ls)) ((bad_any _ (fitL m n) b _ ls W1 K1 t1 R1.l (by rw [fitL_length]; have := Hl.out.2.2.2; omega) Hl.out.1).mono fun _ _ he => he) ?_)
  rintro v2 W2 ⟨e1, i2⟩
  simp only [Act.put, List.setIfInBounds_toArray, List.set_cons_zero, List.set_cons_succ]
  have S2 := S1.trans e1
  clear e1 R1 t1
  refine ⟨S2, ?_⟩
  refine takeS 9 (some 4) (v2) rfl rfl (by kernel_rfl) (by kernel_rfl) (by kernel_rfl) (fun _ _ _ h => h) rfl S2 (fun w' hw' => by go_simp) ?_
  simp only [Act.put, List.setIfInBounds_toArray, List.set_cons_zero, List.set_cons_succ]
  refine wpAnyH_done (by kernel_rfl) ?_ _
  have aW := HB.out W2 S2
  have f0 := aW.cell 0
  clear aW HB
  obtain ⟨adb, capb, ev⟩ := ir_len i2
  subst ev
  obtain ⟨nb, hnb⟩ : ∃ x, x = (badL (fitL m n) b ls).length := ⟨_, rfl⟩
  have hok : okL m n (badL (fitL m n) b ls) = (((M : Int) == (n : Int)) && ((nb : Int) == 0)) := by rw [okL, ← HM.out, ← hnb]
  rw [← hnb] at i2 ⊢
  have Hok := Lib.hid hok
  have HI := Lib.hid i2
  clear hok hnb i2
  obtain ⟨B1, d1⟩ : ∃ B, ((M : Int) == (n : Int)) = B := ⟨_, rfl⟩
  obtain ⟨B2, d2⟩ : ∃ B, ((nb : Int) == 0) = B := ⟨_, rfl⟩
  cases B1
  · go_wp2
    go_ret2
    exact ⟨_, by rw [Hok.out, d1]; rfl, e01.trans S2, HI.out⟩
  · cases B2
    · go_wp2
      go_ret2
      exact ⟨_, by rw [Hok.out, d1, d2]; rfl, e01.trans S2, HI.out⟩
    · go_wp2
      go_ret2
      exact ⟨_, by rw [Hok.out, d1, d2]; rfl, e01.trans S2, HI.out⟩

set_option maxHeartbeats 4000000 in
set_option maxRecDepth 100000 in
theorem repair_ok (n b k : Nat) (rt : List Int) (ls ps : List (List Int)) (vr vl vp v : Value) (m : List Int) (w : World) (hK : KAt w) (h : SR w (⟨(n : Int), (b : Int), (k : Int), rt, ls, ps⟩ : Sd) vr vl vp) (hs : Src w v m w.heap.size) (so : soundL (⟨(n : Int), (b : Int), (k : Int), rt, ls, ps⟩ : Sd) = true) (hpb : ∀ x ∈ ps, Byt x) :
    Calls Tryd.prog 23 #[.agg #[.int .i64 (n : Int), .int .i64 (b : Int), .int .i64 (k : Int), vr, vl, vp], v] w (FPost w (fixL (fitL m n) b k ls ps) (badL (fixL (fitL m n) b k ls ps) b ls)) := by
  have hmay : mayL n b k = true := by
    unfold soundL at so
    simp only [Bool.and_eq_true] at so
    exact so.1.1.1
  have hm6 := (mayL_iff _ _ _).1 hmay
  have hlls : (ls.length : Int) = cntL n b := by
    unfold soundL at so
    simp only [Bool.and_eq_true] at so
    exact (allL_len so.1.1.2).1
  have hlps : (ps.length : Int) = grpsN n b k := by
    unfold soundL at so
    simp only [Bool.and_eq_true] at so
    exact (allL_len so.1.2).1
  have hl1 : ls.length ≤ 1000000000 := by have := cntL_le n b; omega
  have hl2 : ps.length ≤ 1000000000 := by have := grpsN_le n b k; omega
  have hn8 : n ≤ 8192 := by omega
  clear hmay hlls hlps
  obtain ⟨adr, capr, ev⟩ := h.r.len
  subst ev
  obtain ⟨adl, capl, ev⟩ := h.l.len
  subst ev
  obtain ⟨adp, capp, ev⟩ := h.p.len
  subst ev
  obtain ⟨ad, cap, ev⟩ := hs.len
  subst ev
  simp only at h ⊢
  obtain ⟨nr, hnr⟩ : ∃ n, n = rt.length := ⟨_, rfl⟩
  obtain ⟨nl, hnl⟩ : ∃ n, n = ls.length := ⟨_, rfl⟩
  obtain ⟨np, hnp⟩ : ∃ n, n = ps.length := ⟨_, rfl⟩
  obtain ⟨M, hM⟩ : ∃ n, n = m.length := ⟨_, rfl⟩
  rw [← hnr, ← hnl, ← hnp] at h ⊢
  rw [← hM] at hs ⊢
  have HM := Lib.hid hM
  have Hl := Lib.hid (And.intro hl1 (And.intro hl2 (And.intro hm6 hn8)))
  clear hnr hnl hnp hM hm6 hn8 hl1 hl2
  have e0 : Ext w (w.alloc (.cells #[.int .i64 (n : Int), .int .i64 (b : Int), .int .i64 (k : Int), .slice adr nr capr, .slice adl nl capl, .slice adp np capp] 26)) := Ext.alloc w _
  have a0 := At.new w #[.int .i64 (n : Int), .int .i64 (b : Int), .int .i64 (k : Int), .slice adr nr capr, .slice adl nl capl, .slice adp np capp] 26
  have R := h.ext e0
  have Kw := hK.below e0 hK.lt
  have s0 := hs.now e0
  obtain ⟨w0, hw0⟩ : ∃ w0, w0 = w.alloc (.cells #[.int .i64 (n : Int), .int .i64 (b : Int), .int .i64 (k : Int), .slice adr nr capr, .slice adl nl capl, .slice adp np capp] 26) := ⟨_, rfl⟩
  rw [← hw0] at e0 a0 R Kw s0
  clear h hK hs
  have f0 := a0.cell 0
  have f1 := a0.cell 1
  have f2 := a0.cell 2
  have f3 := a0.cell 3
  have f4 := a0.cell 4
  have f5 := a0.cell 5
  rw [hw0] at f0 f1 f2 f3 f4 f5
  go_enter Tryd.func23, Tryd.ntmps23
  go_wp2_with fail
  rw [← hw0]
  clear f0 f1 f2 f3 f4 f5 hw0
  refine (sound_any (⟨(n : Int), (b : Int), (k : Int), rt, ls, ps⟩ : Sd) _ _ _ w0 Kw R (by have := Hl.out.1; simp only; omega) (by have := Hl.out.2.1; simp only; omega)).mono ?_
  rintro e w1 ⟨rfl, e1⟩
  rw [so]
  have HB := Lib.hid (fun (w' : World) (hw' : Ext w1 w') => at_ext a0 (e1.trans hw'))
  have R1 := R.ext e1
  have k1 := Kw.below e1 Kw.lt
  have s1 := s0.now e1
  have e01 := e0.trans e1
  clear R Kw s0 e0 e1 a0
  go_wp2
  refine wp_region_held (S := Ext w1) (by kernel_rfl) ?_
  change wpAnyH _ _ _ _ _ _ _ _ w1.drew
  have S0 : Ext w1 w1.drew := Below.drew (Below.refl _ _)
  have R0 := R1.ext S0
  have K0 := k1.below S0 k1.lt
  have q0 := s1.now S0
  clear R1 s1 k1
  generalize w1.drew = W at *
  refine takeS 0 (some 9) (.slice ad M cap) rfl rfl (by kernel_rfl) (by kernel_rfl) (by kernel_rfl) (fun _ _ _ h => h) rfl S0 (fun w' hw' => by go_simp) ?_
  simp only [Act.put, List.setIfInBounds_toArray, List.set_cons_zero, List.set_cons_succ]
  refine takeS 1 (some 10) (.pointer (some ⟨w.heap.size, 0, none⟩)) rfl rfl (by kernel_rfl) (by kernel_rfl) (by kernel_rfl) (fun _ _ _ h => h) rfl S0 (fun w' hw' => by go_simp) ?_
  simp only [Act.put, List.setIfInBounds_toArray, List.set_cons_zero, List.set_cons_succ]
  refine takeS 2 (some 11) (.int .i64 (n : Int)) rfl rfl (by kernel_rfl) (by kernel_rfl) (by kernel_rfl) (fun _ _ _ h => h) rfl S0 (fun w' hw' => by have cc : w'.cell? ⟨w.heap.size, 0, none⟩ = some (.int .i64 (n : Int)) := ((HB.out w' hw').cell 0).trans rfl; go_simp) ?_
  simp only [Act.put, List.setIfInBounds_toArray, List.set_cons_zero, List.set_cons_succ]
  refine takeS 4 (some 13) (.pointer (some ⟨w.heap.size, 1, none⟩)) rfl rfl (by kernel_rfl) (by kernel_rfl) (by kernel_rfl) (fun _ _ _ h => h) rfl S0 (fun w' hw' => by go_simp) ?_
  simp only [Act.put, List.setIfInBounds_toArray, List.set_cons_zero, List.set_cons_succ]
  refine takeS 5 (some 14) (.int .i64 (b : Int)) rfl rfl (by kernel_rfl) (by kernel_rfl) (by kernel_rfl) (fun _ _ _ h => h) rfl S0 (fun w' hw' => by have cc : w'.cell? ⟨w.heap.size, 1, none⟩ = some (.int .i64 (b : Int)) := ((HB.out w' hw').cell 1).trans rfl; go_simp) ?_
  simp only [Act.put, List.setIfInBounds_toArray, List.set_cons_zero, List.set_cons_succ]
  refine takeS 6 (some 15) (.pointer (some ⟨w.heap.size, 2, none⟩)) rfl rfl (by kernel_rfl) (by kernel_rfl) (by kernel_rfl) (fun _ _ _ h => h) rfl S0 (fun w' hw' => by go_simp) ?_
  simp only [Act.put, List.setIfInBounds_toArray, List.set_cons_zero, List.set_cons_succ]
  refine takeS 7 (some 16) (.int .i64 (k : Int)) rfl rfl (by kernel_rfl) (by kernel_rfl) (by kernel_rfl) (fun _ _ _ h => h) rfl S0 (fun w' hw' => by have cc : w'.cell? ⟨w.heap.size, 2, none⟩ = some (.int .i64 (k : Int)) := ((HB.out w' hw').cell 2).trans rfl; go_simp) ?_
  simp only [Act.put, List.setIfInBounds_toArray, List.set_cons_zero, List.set_cons_succ]
  refine takeS 8 (some 17) (.pointer (some ⟨w.heap.size, 4, none⟩)) rfl rfl (by kernel_rfl) (by kernel_rfl) (by kernel_rfl) (fun _ _ _ h => h) rfl S0 (fun w' hw' => by go_simp) ?_
  simp only [Act.put, List.setIfInBounds_toArray, List.set_cons_zero, List.set_cons_succ]
  refine takeS 9 (some 18) (.slice adl nl capl) rfl rfl (by kernel_rfl) (by kernel_rfl) (by kernel_rfl) (fun _ _ _ h => h) rfl S0 (fun w' hw' => by have cc : w'.cell? ⟨w.heap.size, 4, none⟩ = some (.slice adl nl capl) := ((HB.out w' hw').cell 4).trans rfl; go_simp) ?_
  simp only [Act.put, List.setIfInBounds_toArray, List.set_cons_zero, List.set_cons_succ]
  refine takeS 10 (some 19) (.pointer (some ⟨w.heap.size, 5, none⟩)) rfl rfl (by kernel_rfl) (by kernel_rfl) (by kernel_rfl) (fun _ _ _ h => h) rfl S0 (fun w' hw' => by go_simp) ?_
  simp only [Act.put, List.setIfInBounds_toArray, List.set_cons_zero, List.set_cons_succ]
  refine takeS 11 (some 20) (.slice adp np capp) rfl rfl (by kernel_rfl) (by kernel_rfl) (by kernel_rfl) (fun _ _ _ h => h) rfl S0 (fun w' hw' => by have cc : w'.cell? ⟨w.heap.size, 5, none⟩ = some (.slice adp np capp) := ((HB.out w' hw').cell 5).trans rfl; go_simp) ?_
  simp only [Act.put, List.setIfInBounds_toArray, List.set_cons_zero, List.set_cons_succ]
  refine nextS 3 rfl (by kernel_rfl) rfl (callS (some 12) rfl 59 #[.slice ad M cap, .int .i64 (n : Int)] (by go_simp) (fun v w' => Ext W w' ∧ OwnB w' W.heap.size v (fitL m n)) ((fitted_any _ m n W q0 (by have := Hl.out.2.2.2; omega)).mono fun _ _ he => he) ?_)
  rintro v1 W1 ⟨e1, o1⟩
  simp only [Act.put, List.setIfInBounds_toArray, List.set_cons_zero, List.set_cons_succ]
  have S1 := S0.trans e1
  have R1 := R0.ext e1
  have K1 := K0.below e1 K0.lt
  have t1 := o1.srcs _ (Or.inr (Nat.le_refl _))
  clear e1 R0 S0 o1 q0
  refine ⟨S1, ?_⟩
  refine nextS 12 rfl (by kernel_rfl) rfl (callS (some 21) rfl 60 #[v1, .int .i64 (b : Int), .int .i64 (k : Int), .slice adl nl capl, .slice adp np capp] (by go_simp) (fun v w' => ∃ v3 v4, v = .tuple #[v3, v4] ∧ Ext W1 w' ∧ Src w' v3 (fixL (fitL m n) b k ls ps) w'.heap.size ∧ IR w' v4 (badL (fixL (fitL m n) b k ls ps) b ls)) ((fix_any _ _ _ (fitL m n) b k ls ps W1 K1 t1 R1.l R1.p (by rw [fitL_length]; have := Hl.out.2.2.2; omega) Hl.out.1 Hl.out.2.1 hpb (by have := Hl.out.2.2.1; omega) (by have := Hl.out.2.2.1; omega) (by have := Hl.out.2.2.1; omega) (by have := Hl.out.2.2.1; omega)).mono fun _ _ he => fpu he) ?_)
  rintro vt W2 ⟨v3, v4, rfl, e1, p3, p4⟩
  simp only [Act.put, List.setIfInBounds_toArray, List.set_cons_zero, List.set_cons_succ]
  have S2 := S1.trans e1
  clear e1 R1 t1
  refine ⟨S2, ?_⟩
  refine takeS 13 (some 22) (v3) rfl rfl (by kernel_rfl) (by kernel_rfl) (by kernel_rfl) (fun _ _ _ h => h) rfl S2 (fun w' hw' => by go_simp) ?_
  simp only [Act.put, List.setIfInBounds_toArray, List.set_cons_zero, List.set_cons_succ]
  refine takeS 14 (some 23) (v4) rfl rfl (by kernel_rfl) (by kernel_rfl) (by kernel_rfl) (fun _ _ _ h => h) rfl S2 (fun w' hw' => by go_simp) ?_
  simp only [Act.put, List.setIfInBounds_toArray, List.set_cons_zero, List.set_cons_succ]
  refine takeS 15 (some 4) (v3) rfl rfl (by kernel_rfl) (by kernel_rfl) (by kernel_rfl) (fun _ _ _ h => h) rfl S2 (fun w' hw' => by go_simp) ?_
  simp only [Act.put, List.setIfInBounds_toArray, List.set_cons_zero, List.set_cons_succ]
  refine takeS 16 (some 5) (v4) rfl rfl (by kernel_rfl) (by kernel_rfl) (by kernel_rfl) (fun _ _ _ h => h) rfl S2 (fun w' hw' => by go_simp) ?_
  simp only [Act.put, List.setIfInBounds_toArray, List.set_cons_zero, List.set_cons_succ]
  refine wpAnyH_done (by kernel_rfl) ?_ _
  go_wp2
  go_ret2
  exact ⟨_, _, rfl, e01.trans S2, p3, p4⟩

set_option maxHeartbeats 4000000 in
set_option maxRecDepth 100000 in
theorem rrepair_ok (n b k : Nat) (rt : List Int) (ls ps : List (List Int)) (vr vl vp v : Value) (m : List Int) (w : World) (hK : KAt w) (h : SR w (⟨(n : Int), (b : Int), (k : Int), rt, ls, ps⟩ : Sd) vr vl vp) (hs : Src w v m w.heap.size) (so : soundL (⟨(n : Int), (b : Int), (k : Int), rt, ls, ps⟩ : Sd) = true) :
    Calls Tryd.prog 24 #[.agg #[.int .i64 (n : Int), .int .i64 (b : Int), .int .i64 (k : Int), vr, vl, vp], v] w (FPost w (fixL (fitL m n) b k ls ps) (badL (fixL (fitL m n) b k ls ps) b ls)) := by
  have hmay : mayL n b k = true := by
    unfold soundL at so
    simp only [Bool.and_eq_true] at so
    exact so.1.1.1
  have hm6 := (mayL_iff _ _ _).1 hmay
  have hlls : (ls.length : Int) = cntL n b := by
    unfold soundL at so
    simp only [Bool.and_eq_true] at so
    exact (allL_len so.1.1.2).1
  have hlps : (ps.length : Int) = grpsN n b k := by
    unfold soundL at so
    simp only [Bool.and_eq_true] at so
    exact (allL_len so.1.2).1
  have hl1 : ls.length ≤ 1000000000 := by have := cntL_le n b; omega
  have hl2 : ps.length ≤ 1000000000 := by have := grpsN_le n b k; omega
  have hn8 : n ≤ 8192 := by omega
  clear hmay hlls hlps
  obtain ⟨adr, capr, ev⟩ := h.r.len
  subst ev
  obtain ⟨adl, capl, ev⟩ := h.l.len
  subst ev
  obtain ⟨adp, capp, ev⟩ := h.p.len
  subst ev
  obtain ⟨ad, cap, ev⟩ := hs.len
  subst ev
  simp only at h ⊢
  obtain ⟨nr, hnr⟩ : ∃ n, n = rt.length := ⟨_, rfl⟩
  obtain ⟨nl, hnl⟩ : ∃ n, n = ls.length := ⟨_, rfl⟩
  obtain ⟨np, hnp⟩ : ∃ n, n = ps.length := ⟨_, rfl⟩
  obtain ⟨M, hM⟩ : ∃ n, n = m.length := ⟨_, rfl⟩
  rw [← hnr, ← hnl, ← hnp] at h ⊢
  rw [← hM] at hs ⊢
  have HM := Lib.hid hM
  have Hl := Lib.hid (And.intro hl1 (And.intro hl2 (And.intro hm6 hn8)))
  clear hnr hnl hnp hM hm6 hn8 hl1 hl2
  have e0 : Ext w (w.alloc (.cells #[.int .i64 (n : Int), .int .i64 (b : Int), .int .i64 (k : Int), .slice adr nr capr, .slice adl nl capl, .slice adp np capp] 30)) := Ext.alloc w _
  have a0 := At.new w #[.int .i64 (n : Int), .int .i64 (b : Int), .int .i64 (k : Int), .slice adr nr capr, .slice adl nl capl, .slice adp np capp] 30
  have R := h.ext e0
  have Kw := hK.below e0 hK.lt
  have s0 := hs.now e0
  obtain ⟨w0, hw0⟩ : ∃ w0, w0 = w.alloc (.cells #[.int .i64 (n : Int), .int .i64 (b : Int), .int .i64 (k : Int), .slice adr nr capr, .slice adl nl capl, .slice adp np capp] 30) := ⟨_, rfl⟩
  rw [← hw0] at e0 a0 R Kw s0
  clear h hK hs
  have f0 := a0.cell 0
  have f1 := a0.cell 1
  have f2 := a0.cell 2
  have f3 := a0.cell 3
  have f4 := a0.cell 4
  have f5 := a0.cell 5
  rw [hw0] at f0 f1 f2 f3 f4 f5
  go_enter Tryd.func24, Tryd.ntmps24
  go_wp2_with fail
  rw [← hw0]
  clear f0 f1 f2 f3 f4 f5 hw0
  refine (rsound_any (⟨(n : Int), (b : Int), (k : Int), rt, ls, ps⟩ : Sd) _ _ _ w0 R (by have := Hl.out.1; simp only; omega) (by have := Hl.out.2.1; simp only; omega)).mono ?_
  rintro e w1 ⟨rfl, e1⟩
  rw [so]
  have HB := Lib.hid (fun (w' : World) (hw' : Ext w1 w') => at_ext a0 (e1.trans hw'))
  have R1 := R.ext e1
  have s1 := s0.now e1
  have e01 := e0.trans e1
  clear R Kw s0 e0 e1 a0
  go_wp2
  refine wp_region_held (S := Ext w1) (by kernel_rfl) ?_
  change wpAnyH _ _ _ _ _ _ _ _ w1.drew
  have S0 : Ext w1 w1.drew := Below.drew (Below.refl _ _)
  have R0 := R1.ext S0
  have q0 := s1.now S0
  clear R1 s1
  generalize w1.drew = W at *
  refine takeS 0 (some 9) (.slice ad M cap) rfl rfl (by kernel_rfl) (by kernel_rfl) (by kernel_rfl) (fun _ _ _ h => h) rfl S0 (fun w' hw' => by go_simp) ?_
  simp only [Act.put, List.setIfInBounds_toArray, List.set_cons_zero, List.set_cons_succ]
  refine takeS 1 (some 10) (.pointer (some ⟨w.heap.size, 0, none⟩)) rfl rfl (by kernel_rfl) (by kernel_rfl) (by kernel_rfl) (fun _ _ _ h => h) rfl S0 (fun w' hw' => by go_simp) ?_
  simp only [Act.put, List.setIfInBounds_toArray, List.set_cons_zero, List.set_cons_succ]
  refine takeS 2 (some 11) (.int .i64 (n : Int)) rfl rfl (by kernel_rfl) (by kernel_rfl) (by kernel_rfl) (fun _ _ _ h => h) rfl S0 (fun w' hw' => by have cc : w'.cell? ⟨w.heap.size, 0, none⟩ = some (.int .i64 (n : Int)) := ((HB.out w' hw').cell 0).trans rfl; go_simp) ?_
  simp only [Act.put, List.setIfInBounds_toArray, List.set_cons_zero, List.set_cons_succ]
  refine takeS 4 (some 13) (.pointer (some ⟨w.heap.size, 1, none⟩)) rfl rfl (by kernel_rfl) (by kernel_rfl) (by kernel_rfl) (fun _ _ _ h => h) rfl S0 (fun w' hw' => by go_simp) ?_
  simp only [Act.put, List.setIfInBounds_toArray, List.set_cons_zero, List.set_cons_succ]
  refine takeS 5 (some 14) (.int .i64 (b : Int)) rfl rfl (by kernel_rfl) (by kernel_rfl) (by kernel_rfl) (fun _ _ _ h => h) rfl S0 (fun w' hw' => by have cc : w'.cell? ⟨w.heap.size, 1, none⟩ = some (.int .i64 (b : Int)) := ((HB.out w' hw').cell 1).trans rfl; go_simp) ?_
  simp only [Act.put, List.setIfInBounds_toArray, List.set_cons_zero, List.set_cons_succ]
  refine takeS 6 (some 15) (.pointer (some ⟨w.heap.size, 2, none⟩)) rfl rfl (by kernel_rfl) (by kernel_rfl) (by kernel_rfl) (fun _ _ _ h => h) rfl S0 (fun w' hw' => by go_simp) ?_
  simp only [Act.put, List.setIfInBounds_toArray, List.set_cons_zero, List.set_cons_succ]
  refine takeS 7 (some 16) (.int .i64 (k : Int)) rfl rfl (by kernel_rfl) (by kernel_rfl) (by kernel_rfl) (fun _ _ _ h => h) rfl S0 (fun w' hw' => by have cc : w'.cell? ⟨w.heap.size, 2, none⟩ = some (.int .i64 (k : Int)) := ((HB.out w' hw').cell 2).trans rfl; go_simp) ?_
  simp only [Act.put, List.setIfInBounds_toArray, List.set_cons_zero, List.set_cons_succ]
  refine takeS 8 (some 17) (.pointer (some ⟨w.heap.size, 4, none⟩)) rfl rfl (by kernel_rfl) (by kernel_rfl) (by kernel_rfl) (fun _ _ _ h => h) rfl S0 (fun w' hw' => by go_simp) ?_
  simp only [Act.put, List.setIfInBounds_toArray, List.set_cons_zero, List.set_cons_succ]
  refine takeS 9 (some 18) (.slice adl nl capl) rfl rfl (by kernel_rfl) (by kernel_rfl) (by kernel_rfl) (fun _ _ _ h => h) rfl S0 (fun w' hw' => by have cc : w'.cell? ⟨w.heap.size, 4, none⟩ = some (.slice adl nl capl) := ((HB.out w' hw').cell 4).trans rfl; go_simp) ?_
  simp only [Act.put, List.setIfInBounds_toArray, List.set_cons_zero, List.set_cons_succ]
  refine takeS 10 (some 19) (.pointer (some ⟨w.heap.size, 5, none⟩)) rfl rfl (by kernel_rfl) (by kernel_rfl) (by kernel_rfl) (fun _ _ _ h => h) rfl S0 (fun w' hw' => by go_simp) ?_
  simp only [Act.put, List.setIfInBounds_toArray, List.set_cons_zero, List.set_cons_succ]
  refine takeS 11 (some 20) (.slice adp np capp) rfl rfl (by kernel_rfl) (by kernel_rfl) (by kernel_rfl) (fun _ _ _ h => h) rfl S0 (fun w' hw' => by have cc : w'.cell? ⟨w.heap.size, 5, none⟩ = some (.slice adp np capp) := ((HB.out w' hw').cell 5).trans rfl; go_simp) ?_
  simp only [Act.put, List.setIfInBounds_toArray, List.set_cons_zero, List.set_cons_succ]
  refine nextS 3 rfl (by kernel_rfl) rfl (callS (some 12) rfl 21 #[.slice ad M cap, .int .i64 (n : Int)] (by go_simp) (fun v w' => Ext W w' ∧ OwnB w' W.heap.size v (fitL m n)) ((rfit_any _ m n W q0 (by have := Hl.out.2.2.2; omega)).mono fun _ _ he => he) ?_)
  rintro v1 W1 ⟨e1, o1⟩
  simp only [Act.put, List.setIfInBounds_toArray, List.set_cons_zero, List.set_cons_succ]
  have S1 := S0.trans e1
  have R1 := R0.ext e1
  have t1 := o1.srcs _ (Or.inr (Nat.le_refl _))
  clear e1 R0 S0 o1 q0
  refine ⟨S1, ?_⟩
  refine nextS 12 rfl (by kernel_rfl) rfl (callS (some 21) rfl 61 #[v1, .int .i64 (b : Int), .int .i64 (k : Int), .slice adl nl capl, .slice adp np capp] (by go_simp) (fun v w' => ∃ v3 v4, v = .tuple #[v3, v4] ∧ Ext W1 w' ∧ Src w' v3 (fixL (fitL m n) b k ls ps) w'.heap.size ∧ IR w' v4 (badL (fixL (fitL m n) b k ls ps) b ls)) ((rfix_any _ _ _ (fitL m n) b k ls ps W1 t1 R1.l R1.p (by rw [fitL_length]; have := Hl.out.2.2.2; omega) Hl.out.1 Hl.out.2.1 (by have := Hl.out.2.2.1; omega) (by have := Hl.out.2.2.1; omega) (by have := Hl.out.2.2.1; omega) (by have := Hl.out.2.2.1; omega)).mono fun _ _ he => fpu he) ?_)
  rintro vt W2 ⟨v3, v4, rfl, e1, p3, p4⟩
  simp only [Act.put, List.setIfInBounds_toArray, List.set_cons_zero, List.set_cons_succ]
  have S2 := S1.trans e1
  clear e1 R1 t1
  refine ⟨S2, ?_⟩
  refine takeS 13 (some 22) (v3) rfl rfl (by kernel_rfl) (by kernel_rfl) (by kernel_rfl) (fun _ _ _ h => h) rfl S2 (fun w' hw' => by go_simp) ?_
  simp only [Act.put, List.setIfInBounds_toArray, List.set_cons_zero, List.set_cons_succ]
  refine takeS 14 (some 23) (v4) rfl rfl (by kernel_rfl) (by kernel_rfl) (by kernel_rfl) (fun _ _ _ h => h) rfl S2 (fun w' hw' => by go_simp) ?_
  simp only [Act.put, List.setIfInBounds_toArray, List.set_cons_zero, List.set_cons_succ]
  refine takeS 15 (some 4) (v3) rfl rfl (by kernel_rfl) (by kernel_rfl) (by kernel_rfl) (fun _ _ _ h => h) rfl S2 (fun w' hw' => by go_simp) ?_
  simp only [Act.put, List.setIfInBounds_toArray, List.set_cons_zero, List.set_cons_succ]
  refine takeS 16 (some 5) (v4) rfl rfl (by kernel_rfl) (by kernel_rfl) (by kernel_rfl) (fun _ _ _ h => h) rfl S2 (fun w' hw' => by go_simp) ?_
  simp only [Act.put, List.setIfInBounds_toArray, List.set_cons_zero, List.set_cons_succ]
  refine wpAnyH_done (by kernel_rfl) ?_ _
  go_wp2
  go_ret2
  exact ⟨_, _, rfl, e01.trans S2, p3, p4⟩
end Go.Proofs.YtdohngjhfonifaaDoor
