/- The contracts of the sidecar's small functions and of Sound (the code's). -/
import Derived.Test.YtfhgoedonjcekaaDoorSa
import Derived.Test.YtfhgoedonjcekaaDoorPd
import Derived.Test.YtfhgoedonjcekaaDoorWu
import Derived.BigQuiet
namespace Go.Proofs.YtfhgoedonjcekaaDoor
open Go.RowKit Go.Sha
set_option linter.unusedSimpArgs false

/-- In a region that draws: an operation that is not wanted. -/
theorem skipS {P : Program} {ops : Array Oper} {Q : Exit → Act → World → Prop} {md : Region.Mode} {S : World → Prop} (i : Nat) (d : Option Tmp) {oi : Oper} {fuel : Nat} {listed : Array Bool} {a : Act} {w : World} (hi : ops[i]? = some oi) (hd : oi.dst = d)
    (hs : Region.noSelect ops = true) (hf : Region.free md ops listed i = true) (hr : (Region.ready md ops listed).contains i = true)
    (hQ : ∀ c a w, Q (.panic c) (a.put d undef) w → Q (.panic c) a w) (hw : Region.wanted oi (yielded ops a.tmps) = false) (hS : S w)
    (h : wpAnyH P md ops Q S fuel (listed.setIfInBounds i true) (a.put d undef) w) : wpAnyH P md ops Q S (fuel + 1) listed a w := by
  subst hd
  exact wpAnyH_take hi hs hf hr hQ (Or.inr ⟨hw, rfl⟩) hS h
/-- A whole struct, loaded. -/
theorem exec_load_row {P : Program} {op : Oper} {a : Act} {w : World} (ty : TypeId) (x : Operand) (ho : op.op = .load ty x) (g : Nat) (hx : a.eval x = .pointer (some ⟨g, 0, none⟩)) (t : TypeId) (cs : Array Value) {d : TypeDesc} (hg : At w g cs t)
    (hu : P.underlying ty = some d) (hd : (match d with | .struct _ | .array _ _ => true | _ => false) = true) (hi : (P.info? ty).map (·.size) = some cs.size) : (execOp a.eval op).run P w = .ok (.value (.agg cs)) w := by
  unfold execOp
  simp only [ho, hx, Instr.loadAt, Instr.sureAddr, Sem.run_bind, Sem.run_pure, Result.andThen_ok, run_loadVar_row w g t ty cs (0, 0) d hg hu hd hi]

/-- A sidecar's cells. -/
def sideC (s : Sd) (vr vl vp : Value) : Array Value := #[.int .i64 s.size, .int .i64 s.block, .int .i64 s.k, vr, vl, vp]
/-- A sidecar in memory. -/
structure SR (w : World) (s : Sd) (vr vl vp : Value) : Prop where
  r : Src w vr s.root w.heap.size
  l : LR w vl s.leaves w.heap.size
  p : LR w vp s.parity w.heap.size
theorem SR.ext {w w' : World} {s : Sd} {vr vl vp : Value} (h : SR w s vr vl vp) (he : Ext w w') : SR w' s vr vl vp := ⟨h.r.now he, h.l.now he, h.p.now he⟩

set_option maxHeartbeats 1000000 in
theorem mayBe_any (z b k : Int) (vr vl vp : Value) (w : World) :
    Calls Tryd.prog 26 #[.agg #[.int .i64 z, .int .i64 b, .int .i64 k, vr, vl, vp]] w fun e w' => e = .returned (.bool (mayL z b k)) ∧ Ext w w' := by
  unfold mayL
  obtain ⟨B1, h1⟩ : ∃ B, B = decide (0 ≤ z) := ⟨_, rfl⟩
  obtain ⟨B2, h2⟩ : ∃ B, B = decide (z ≤ 8192) := ⟨_, rfl⟩
  obtain ⟨B3, h3⟩ : ∃ B, B = decide (16 ≤ b) := ⟨_, rfl⟩
  obtain ⟨B4, h4⟩ : ∃ B, B = decide (b ≤ 4096) := ⟨_, rfl⟩
  obtain ⟨B5, h5⟩ : ∃ B, B = decide (1 ≤ k) := ⟨_, rfl⟩
  obtain ⟨B6, h6⟩ : ∃ B, B = decide (k ≤ 8) := ⟨_, rfl⟩
  replace h1 := h1.symm
  replace h2 := h2.symm
  replace h3 := h3.symm
  replace h4 := h4.symm
  replace h5 := h5.symm
  replace h6 := h6.symm
  rw [h1, h2, h3, h4, h5, h6]
  cases B1
  · clear h2 h3 h4 h5 h6
    go_enter Tryd.func26, Tryd.ntmps26
    go_wp2
    go_ret
    exact ⟨rfl, Ext.alloc w _⟩
  cases B2
  · clear h3 h4 h5 h6
    go_enter Tryd.func26, Tryd.ntmps26
    go_wp2
    go_ret
    exact ⟨rfl, Ext.alloc w _⟩
  cases B3
  · clear h4 h5 h6
    go_enter Tryd.func26, Tryd.ntmps26
    go_wp2
    go_ret
    exact ⟨rfl, Ext.alloc w _⟩
  cases B4
  · clear h5 h6
    go_enter Tryd.func26, Tryd.ntmps26
    go_wp2
    go_ret
    exact ⟨rfl, Ext.alloc w _⟩
  cases B5
  · clear h6
    go_enter Tryd.func26, Tryd.ntmps26
    go_wp2
    go_ret
    exact ⟨rfl, Ext.alloc w _⟩
  cases B6
  · go_enter Tryd.func26, Tryd.ntmps26
    go_wp2
    go_ret
    exact ⟨rfl, Ext.alloc w _⟩
  · go_enter Tryd.func26, Tryd.ntmps26
    go_wp2
    go_ret
    exact ⟨rfl, Ext.alloc w _⟩

theorem leafCount_any (z b k : Int) (vr vl vp : Value) (w : World) :
    Calls Tryd.prog 35 #[.agg #[.int .i64 z, .int .i64 b, .int .i64 k, vr, vl, vp]] w fun e w' => e = .returned (.int .i64 (cntL z b)) ∧ Ext w w' := by
  go_enter Tryd.func35, Tryd.ntmps35
  go_wp2_with fail
  refine (cntM z b _).mono ?_
  rintro e w' ⟨rfl, rfl⟩
  go_wp2
  go_ret
  exact ⟨rfl, Ext.alloc w _⟩
theorem parityCount_any (z b k : Int) (vr vl vp : Value) (w : World) :
    Calls Tryd.prog 36 #[.agg #[.int .i64 z, .int .i64 b, .int .i64 k, vr, vl, vp]] w fun e w' => e = .returned (.int .i64 (grpsN z b k)) ∧ Ext w w' := by
  go_enter Tryd.func36, Tryd.ntmps36
  go_wp2_with fail
  refine (groups_any z b k _).mono ?_
  rintro e w' ⟨rfl, rfl⟩
  go_wp2
  go_ret
  exact ⟨rfl, Ext.alloc w _⟩

def InvAll (w : World) (ls : List (List Int)) (s : Int) (i : Value) (wr : World) : Prop := ∃ k : Nat, k ≤ ls.length ∧ i = .int .i64 k ∧ w = wr ∧ allS (ls.take k) s = true
set_option maxHeartbeats 1000000 in
theorem allOf_any (v : Value) (ls : List (List Int)) (n s : Int) (w : World) (bh : Nat) (hv : LR w v ls bh) (hl : ls.length ≤ 9223372036854775807) :
    Calls Tryd.prog 34 #[v, .int .i64 n, .int .i64 s] w fun e w' => e = .returned (.bool (allL ls n s)) ∧ w = w' := by
  obtain ⟨ad, cap, ev⟩ := hv.len
  subst ev
  obtain ⟨N, hN⟩ : ∃ N, N = ls.length := ⟨_, rfl⟩
  have HN := Lib.hid hN
  have F : allL ls n s = (allS ls s && ((N : Int) == n)) := by rw [allL, hN]
  rw [F]
  clear F
  rw [← hN] at hl hv ⊢
  clear hN
  have HV := Lib.hid hv; clear hv
  go_enter Tryd.func34, Tryd.ntmps34
  go_wp2
  go_loopw [11] (fun i wr => InvAll w ls s i wr) (fun i _ => N - (intOf i).toNat)
  case atStart => exact ⟨0, by omega, rfl, rfl, by simp [allS]⟩
  case round =>
    obtain ⟨k, hk, rfl, rfl, hall⟩ := hrel
    rw [← HN.out] at hk
    by_cases hlt : k < N
    · have hv := HV.out
      rw [HN.out] at hv
      obtain ⟨cap1, pb, po, ev1, _, hc1⟩ := lr_at hv (by rw [← HN.out]; omega)
      injection ev1 with a1 _ a2
      subst a1 a2
      obtain ⟨m1, hm1⟩ : ∃ m, ls[k]? = some m := ⟨_, List.getElem?_eq_getElem (by rw [← HN.out]; exact hlt)⟩
      obtain ⟨x1, c1, s1⟩ := hc1 k m1 hm1
      obtain ⟨adx, capx, ex1⟩ := s1.len
      subst ex1
      clear hv hc1 s1
      have i0 : (k : Int) < (N : Int) := by omega
      have hstep : allS (ls.take (k + 1)) s = ((m1.length : Int) == s) := by
        unfold allS at hall ⊢
        rw [List.take_add_one, hm1, List.all_append, hall]; simp
      have hmem := List.mem_of_getElem? hm1
      have Hs := Lib.hid hstep; clear hstep hm1 hall
      by_cases hb : (m1.length : Int) = s
      · have t3 : ((m1.length : Int) == s) = true := by simpa using hb
        rw [t3] at Hs
        replace t3 : ((m1.length : Int) != s) = false := by simpa using hb
        have Hb := Lib.hid hb; clear hb hmem
        go_wp2
        exact ⟨⟨k + 1, by rw [← HN.out]; omega, by go_num, rfl, Hs.out⟩, by simp [intOf]; omega⟩
      · have t3 : ((m1.length : Int) == s) = false := by simpa using hb
        have fin : allS ls s = false := by
          unfold allS
          rw [List.all_eq_false]
          exact ⟨m1, hmem, by simpa using hb⟩
        replace t3 : ((m1.length : Int) != s) = true := by simpa using hb
        have Hf := Lib.hid fin
        clear hb fin hmem
        go_wp2
        go_ret
        exact ⟨by rw [Hf.out]; rfl, rfl⟩
    · obtain rfl : k = N := by omega
      rw [List.take_of_length_le (by rw [← HN.out]; omega)] at hall
      have Hf := Lib.hid hall
      clear hall
      go_wp2
      go_ret
      exact ⟨by rw [Hf.out]; rfl, rfl⟩

/-- What stays true of the box. -/
theorem at_ext {w w' : World} {b : Nat} {c : Array Value} {t : TypeId} (h : At w b c t) (he : Ext w w') : At w' b c t := h.below he h.lt
set_option maxHeartbeats 8000000 in
set_option maxRecDepth 100000 in
theorem sound_any (s : Sd) (vr vl vp : Value) (w : World) (hK : KAt w) (h : SR w s vr vl vp) (hll : s.leaves.length ≤ 9223372036854775807) (hlp : s.parity.length ≤ 9223372036854775807) :
    Calls Tryd.prog 11 #[.agg #[.int .i64 s.size, .int .i64 s.block, .int .i64 s.k, vr, vl, vp]] w fun e w' => e = .returned (.bool (soundL s)) ∧ Ext w w' := by
  obtain ⟨adr, capr, ev⟩ := h.r.len
  subst ev
  obtain ⟨adl, capl, ev⟩ := h.l.len
  subst ev
  obtain ⟨adp, capp, ev⟩ := h.p.len
  subst ev
  obtain ⟨nr, hnr⟩ : ∃ n, n = s.root.length := ⟨_, rfl⟩
  obtain ⟨nl, hnl⟩ : ∃ n, n = s.leaves.length := ⟨_, rfl⟩
  obtain ⟨np, hnp⟩ : ∃ n, n = s.parity.length := ⟨_, rfl⟩
  obtain ⟨z, hz⟩ : ∃ n, n = s.size := ⟨_, rfl⟩
  obtain ⟨b, hbk⟩ : ∃ n, n = s.block := ⟨_, rfl⟩
  obtain ⟨k, hk⟩ : ∃ n, n = s.k := ⟨_, rfl⟩
  have F : soundL s = (mayL z b k && allL s.leaves (cntL z b) 32 && allL s.parity (grpsN z b k) b && eqS s.root (rootL s.leaves)) := by rw [soundL, hz, hbk, hk]
  rw [F]
  clear F
  have hl6 : mayL z b k = true → allL s.leaves (cntL z b) 32 = true → s.leaves.length ≤ 1000000 := fun h1 h2 => by
    have h3 := (allL_len h2).1
    have h4 := (mayL_iff _ _ _).1 h1
    have h5 : cntL z b ≤ 20000 := by
      unfold cntL
      split
      · omega
      · exact Int.le_trans (Int.ediv_le_self _ (by omega)) (by omega)
    omega
  have hb6 : allL s.leaves (cntL z b) 32 = true → ∀ m ∈ s.leaves, m.length ≤ 1000000 := fun h2 m hm => by
    have := (allL_len h2).2 m hm
    omega
  rw [← hnr, ← hnl, ← hnp] at h ⊢
  rw [← hz, ← hbk, ← hk]
  have Hx := Lib.hid (And.intro hnr (And.intro hnl (And.intro hnp (And.intro hz (And.intro hbk hk)))))
  clear hnr hnl hnp hz hbk hk
  have e0 : Ext w (w.alloc (.cells #[.int .i64 z, .int .i64 b, .int .i64 k, .slice adr nr capr, .slice adl nl capl, .slice adp np capp] 26)) := Ext.alloc w _
  have a0 := At.new w #[.int .i64 z, .int .i64 b, .int .i64 k, .slice adr nr capr, .slice adl nl capl, .slice adp np capp] 26
  have R := h.ext e0
  have Kw := hK.below e0 hK.lt
  obtain ⟨w0, hw0⟩ : ∃ w0, w0 = w.alloc (.cells #[.int .i64 z, .int .i64 b, .int .i64 k, .slice adr nr capr, .slice adl nl capl, .slice adp np capp] 26) := ⟨_, rfl⟩
  rw [← hw0] at e0 a0 R Kw
  have HB := Lib.hid (fun (w' : World) (hw' : Ext w0 w') => at_ext a0 hw')
  clear h hK a0
  obtain ⟨M, d1⟩ : ∃ M, mayL z b k = M := ⟨_, rfl⟩
  obtain ⟨A, d2⟩ : ∃ M, allL s.leaves (cntL z b) 32 = M := ⟨_, rfl⟩
  obtain ⟨B, d3⟩ : ∃ M, allL s.parity (grpsN z b k) b = M := ⟨_, rfl⟩
  obtain ⟨E, hE⟩ : ∃ E, E = eqS s.root (rootL s.leaves) := ⟨_, rfl⟩
  rw [← hE]
  have HE := Lib.hid hE; clear hE
  cases M
  · rw [d1]
    clear d2 d3 hl6 hb6
    go_enter Tryd.func11, Tryd.ntmps11
    go_wp2
    rw [← hw0]
    refine wp_region_held (S := Ext w0) (by kernel_rfl) ?_
    change wpAnyH _ _ _ _ _ _ _ _ w0.drew
    have S0 : Ext w0 w0.drew := Below.drew (Below.refl _ _)
    have R0 := R.ext S0
    have K0 := Kw.below S0 Kw.lt
    clear R Kw
    generalize w0.drew = W at *
    refine takeS 0 (some 3) (.agg #[.int .i64 z, .int .i64 b, .int .i64 k, .slice adr nr capr, .slice adl nl capl, .slice adp np capp]) rfl rfl (by kernel_rfl) (by kernel_rfl) (by kernel_rfl) (fun _ _ _ h => h) rfl S0 (fun w' hw' => exec_load_row 26 _ rfl w.heap.size rfl 26 _ (HB.out w' hw') Tryd.underlying26 rfl (by kernel_rfl)) ?_
    simp only [Act.put, List.setIfInBounds_toArray, List.set_cons_zero, List.set_cons_succ]
    refine nextS 1 rfl (by kernel_rfl) rfl (callS (some 4) rfl 26 #[.agg #[.int .i64 z, .int .i64 b, .int .i64 k, .slice adr nr capr, .slice adl nl capl, .slice adp np capp]] (by go_simp) (fun v w' => v = .bool false ∧ Ext W w') ((mayBe_any z b k _ _ _ W).mono fun _ _ he => ⟨_, he.1.trans (by rw [d1]), rfl, he.2⟩) ?_)
    rintro v1 W1 ⟨rfl, e1⟩
    simp only [Act.put, List.setIfInBounds_toArray, List.set_cons_zero, List.set_cons_succ]
    have S1 := S0.trans e1
    have K1 := K0.below e1 K0.lt
    have R1 := R0.ext e1
    clear e1 K0 R0 S0
    refine ⟨S1, ?_⟩
    refine takeS 2 (some 5) (.bool false) rfl rfl (by kernel_rfl) (by kernel_rfl) (by kernel_rfl) (fun _ _ _ h => h) rfl S1 (fun w' hw' => by go_simp) ?_
    simp only [Act.put, List.setIfInBounds_toArray, List.set_cons_zero, List.set_cons_succ]
    refine skipS 3 (some 6) rfl rfl (by kernel_rfl) (by kernel_rfl) (by kernel_rfl) (fun _ _ _ h => h) rfl S1 ?_
    simp only [Act.put, List.setIfInBounds_toArray, List.set_cons_zero, List.set_cons_succ]
    refine skipS 4 (some 7) rfl rfl (by kernel_rfl) (by kernel_rfl) (by kernel_rfl) (fun _ _ _ h => h) rfl S1 ?_
    simp only [Act.put, List.setIfInBounds_toArray, List.set_cons_zero, List.set_cons_succ]
    refine skipS 5 (some 8) rfl rfl (by kernel_rfl) (by kernel_rfl) (by kernel_rfl) (fun _ _ _ h => h) rfl S1 ?_
    simp only [Act.put, List.setIfInBounds_toArray, List.set_cons_zero, List.set_cons_succ]
    refine skipS 6 (some 9) rfl rfl (by kernel_rfl) (by kernel_rfl) (by kernel_rfl) (fun _ _ _ h => h) rfl S1 ?_
    simp only [Act.put, List.setIfInBounds_toArray, List.set_cons_zero, List.set_cons_succ]
    refine skipS 7 (some 10) rfl rfl (by kernel_rfl) (by kernel_rfl) (by kernel_rfl) (fun _ _ _ h => h) rfl S1 ?_
    simp only [Act.put, List.setIfInBounds_toArray, List.set_cons_zero, List.set_cons_succ]
    refine takeS 8 (some 11) (.bool false) rfl rfl (by kernel_rfl) (by kernel_rfl) (by kernel_rfl) (fun _ _ _ h => h) rfl S1 (fun w' hw' => by go_simp) ?_
    simp only [Act.put, List.setIfInBounds_toArray, List.set_cons_zero, List.set_cons_succ]
    refine takeS 9 (some 12) (.bool false) rfl rfl (by kernel_rfl) (by kernel_rfl) (by kernel_rfl) (fun _ _ _ h => h) rfl S1 (fun w' hw' => by go_simp) ?_
    simp only [Act.put, List.setIfInBounds_toArray, List.set_cons_zero, List.set_cons_succ]
    refine skipS 10 (some 13) rfl rfl (by kernel_rfl) (by kernel_rfl) (by kernel_rfl) (fun _ _ _ h => h) rfl S1 ?_
    simp only [Act.put, List.setIfInBounds_toArray, List.set_cons_zero, List.set_cons_succ]
    refine skipS 11 (some 14) rfl rfl (by kernel_rfl) (by kernel_rfl) (by kernel_rfl) (fun _ _ _ h => h) rfl S1 ?_
    simp only [Act.put, List.setIfInBounds_toArray, List.set_cons_zero, List.set_cons_succ]
    refine skipS 12 (some 15) rfl rfl (by kernel_rfl) (by kernel_rfl) (by kernel_rfl) (fun _ _ _ h => h) rfl S1 ?_
    simp only [Act.put, List.setIfInBounds_toArray, List.set_cons_zero, List.set_cons_succ]
    refine skipS 13 (some 16) rfl rfl (by kernel_rfl) (by kernel_rfl) (by kernel_rfl) (fun _ _ _ h => h) rfl S1 ?_
    simp only [Act.put, List.setIfInBounds_toArray, List.set_cons_zero, List.set_cons_succ]
    refine skipS 14 (some 17) rfl rfl (by kernel_rfl) (by kernel_rfl) (by kernel_rfl) (fun _ _ _ h => h) rfl S1 ?_
    simp only [Act.put, List.setIfInBounds_toArray, List.set_cons_zero, List.set_cons_succ]
    refine skipS 15 (some 18) rfl rfl (by kernel_rfl) (by kernel_rfl) (by kernel_rfl) (fun _ _ _ h => h) rfl S1 ?_
    simp only [Act.put, List.setIfInBounds_toArray, List.set_cons_zero, List.set_cons_succ]
    refine skipS 16 (some 19) rfl rfl (by kernel_rfl) (by kernel_rfl) (by kernel_rfl) (fun _ _ _ h => h) rfl S1 ?_
    simp only [Act.put, List.setIfInBounds_toArray, List.set_cons_zero, List.set_cons_succ]
    refine takeS 17 (some 20) (.bool false) rfl rfl (by kernel_rfl) (by kernel_rfl) (by kernel_rfl) (fun _ _ _ h => h) rfl S1 (fun w' hw' => by go_simp) ?_
    simp only [Act.put, List.setIfInBounds_toArray, List.set_cons_zero, List.set_cons_succ]
    refine takeS 18 (some 21) (.bool false) rfl rfl (by kernel_rfl) (by kernel_rfl) (by kernel_rfl) (fun _ _ _ h => h) rfl S1 (fun w' hw' => by go_simp) ?_
    simp only [Act.put, List.setIfInBounds_toArray, List.set_cons_zero, List.set_cons_succ]
    refine skipS 19 (some 22) rfl rfl (by kernel_rfl) (by kernel_rfl) (by kernel_rfl) (fun _ _ _ h => h) rfl S1 ?_
    simp only [Act.put, List.setIfInBounds_toArray, List.set_cons_zero, List.set_cons_succ]
    refine skipS 20 (some 23) rfl rfl (by kernel_rfl) (by kernel_rfl) (by kernel_rfl) (fun _ _ _ h => h) rfl S1 ?_
    simp only [Act.put, List.setIfInBounds_toArray, List.set_cons_zero, List.set_cons_succ]
    refine skipS 21 (some 24) rfl rfl (by kernel_rfl) (by kernel_rfl) (by kernel_rfl) (fun _ _ _ h => h) rfl S1 ?_
    simp only [Act.put, List.setIfInBounds_toArray, List.set_cons_zero, List.set_cons_succ]
    refine skipS 22 (some 25) rfl rfl (by kernel_rfl) (by kernel_rfl) (by kernel_rfl) (fun _ _ _ h => h) rfl S1 ?_
    simp only [Act.put, List.setIfInBounds_toArray, List.set_cons_zero, List.set_cons_succ]
    refine skipS 23 (some 26) rfl rfl (by kernel_rfl) (by kernel_rfl) (by kernel_rfl) (fun _ _ _ h => h) rfl S1 ?_
    simp only [Act.put, List.setIfInBounds_toArray, List.set_cons_zero, List.set_cons_succ]
    refine skipS 24 (some 27) rfl rfl (by kernel_rfl) (by kernel_rfl) (by kernel_rfl) (fun _ _ _ h => h) rfl S1 ?_
    simp only [Act.put, List.setIfInBounds_toArray, List.set_cons_zero, List.set_cons_succ]
    refine takeS 25 (some 28) (.bool false) rfl rfl (by kernel_rfl) (by kernel_rfl) (by kernel_rfl) (fun _ _ _ h => h) rfl S1 (fun w' hw' => by go_simp) ?_
    simp only [Act.put, List.setIfInBounds_toArray, List.set_cons_zero, List.set_cons_succ]
    refine takeS 26 (some 2) (.bool false) rfl rfl (by kernel_rfl) (by kernel_rfl) (by kernel_rfl) (fun _ _ _ h => h) rfl S1 (fun w' hw' => by go_simp) ?_
    simp only [Act.put, List.setIfInBounds_toArray, List.set_cons_zero, List.set_cons_succ]
    refine wpAnyH_done (by kernel_rfl) ?_ _
    go_wp2
    go_ret
    exact ⟨rfl, e0.trans S1⟩
  cases A
  · rw [d1, d2]
    clear d3 hl6 hb6
    go_enter Tryd.func11, Tryd.ntmps11
    go_wp2
    rw [← hw0]
    refine wp_region_held (S := Ext w0) (by kernel_rfl) ?_
    change wpAnyH _ _ _ _ _ _ _ _ w0.drew
    have S0 : Ext w0 w0.drew := Below.drew (Below.refl _ _)
    have R0 := R.ext S0
    have K0 := Kw.below S0 Kw.lt
    clear R Kw
    generalize w0.drew = W at *
    refine takeS 0 (some 3) (.agg #[.int .i64 z, .int .i64 b, .int .i64 k, .slice adr nr capr, .slice adl nl capl, .slice adp np capp]) rfl rfl (by kernel_rfl) (by kernel_rfl) (by kernel_rfl) (fun _ _ _ h => h) rfl S0 (fun w' hw' => exec_load_row 26 _ rfl w.heap.size rfl 26 _ (HB.out w' hw') Tryd.underlying26 rfl (by kernel_rfl)) ?_
    simp only [Act.put, List.setIfInBounds_toArray, List.set_cons_zero, List.set_cons_succ]
    refine nextS 1 rfl (by kernel_rfl) rfl (callS (some 4) rfl 26 #[.agg #[.int .i64 z, .int .i64 b, .int .i64 k, .slice adr nr capr, .slice adl nl capl, .slice adp np capp]] (by go_simp) (fun v w' => v = .bool true ∧ Ext W w') ((mayBe_any z b k _ _ _ W).mono fun _ _ he => ⟨_, he.1.trans (by rw [d1]), rfl, he.2⟩) ?_)
    rintro v1 W1 ⟨rfl, e1⟩
    simp only [Act.put, List.setIfInBounds_toArray, List.set_cons_zero, List.set_cons_succ]
    have S1 := S0.trans e1
    have K1 := K0.below e1 K0.lt
    have R1 := R0.ext e1
    clear e1 K0 R0 S0
    refine ⟨S1, ?_⟩
    refine takeS 2 (some 5) (.bool true) rfl rfl (by kernel_rfl) (by kernel_rfl) (by kernel_rfl) (fun _ _ _ h => h) rfl S1 (fun w' hw' => by go_simp) ?_
    simp only [Act.put, List.setIfInBounds_toArray, List.set_cons_zero, List.set_cons_succ]
    refine takeS 3 (some 6) (.pointer (some ⟨w.heap.size, 4, none⟩)) rfl rfl (by kernel_rfl) (by kernel_rfl) (by kernel_rfl) (fun _ _ _ h => h) rfl S1 (fun w' hw' => by go_simp) ?_
    simp only [Act.put, List.setIfInBounds_toArray, List.set_cons_zero, List.set_cons_succ]
    refine takeS 4 (some 7) (.slice adl nl capl) rfl rfl (by kernel_rfl) (by kernel_rfl) (by kernel_rfl) (fun _ _ _ h => h) rfl S1 (fun w' hw' => by have cc : w'.cell? ⟨w.heap.size, 4, none⟩ = some (.slice adl nl capl) := ((HB.out w' hw').cell 4).trans rfl; go_simp) ?_
    simp only [Act.put, List.setIfInBounds_toArray, List.set_cons_zero, List.set_cons_succ]
    refine takeS 5 (some 8) (.agg #[.int .i64 z, .int .i64 b, .int .i64 k, .slice adr nr capr, .slice adl nl capl, .slice adp np capp]) rfl rfl (by kernel_rfl) (by kernel_rfl) (by kernel_rfl) (fun _ _ _ h => h) rfl S1 (fun w' hw' => exec_load_row 26 _ rfl w.heap.size rfl 26 _ (HB.out w' hw') Tryd.underlying26 rfl (by kernel_rfl)) ?_
    simp only [Act.put, List.setIfInBounds_toArray, List.set_cons_zero, List.set_cons_succ]
    refine nextS 6 rfl (by kernel_rfl) rfl (callS (some 9) rfl 35 #[.agg #[.int .i64 z, .int .i64 b, .int .i64 k, .slice adr nr capr, .slice adl nl capl, .slice adp np capp]] (by go_simp) (fun v w' => v = .int .i64 (cntL z b) ∧ Ext W1 w') ((leafCount_any z b k _ _ _ W1).mono fun _ _ he => ⟨_, he.1, rfl, he.2⟩) ?_)
    rintro v2 W2 ⟨rfl, e1⟩
    simp only [Act.put, List.setIfInBounds_toArray, List.set_cons_zero, List.set_cons_succ]
    have S2 := S1.trans e1
    have K2 := K1.below e1 K1.lt
    have R2 := R1.ext e1
    clear e1 K1 R1 S1
    refine ⟨S2, ?_⟩
    refine nextS 7 rfl (by kernel_rfl) rfl (callS (some 10) rfl 34 #[.slice adl nl capl, .int .i64 (cntL z b), .int .i64 32] (by go_simp) (fun v w' => v = .bool false ∧ W2 = w') ((allOf_any _ s.leaves (cntL z b) 32 W2 _ R2.l hll).mono fun _ _ he => ⟨_, he.1.trans (by rw [d2]), rfl, he.2⟩) ?_)
    rintro v3 W3 ⟨rfl, rfl⟩
    simp only [Act.put, List.setIfInBounds_toArray, List.set_cons_zero, List.set_cons_succ]
    refine ⟨S2, ?_⟩
    refine takeS 8 (some 11) (.bool false) rfl rfl (by kernel_rfl) (by kernel_rfl) (by kernel_rfl) (fun _ _ _ h => h) rfl S2 (fun w' hw' => by go_simp) ?_
    simp only [Act.put, List.setIfInBounds_toArray, List.set_cons_zero, List.set_cons_succ]
    refine takeS 9 (some 12) (.bool false) rfl rfl (by kernel_rfl) (by kernel_rfl) (by kernel_rfl) (fun _ _ _ h => h) rfl S2 (fun w' hw' => by go_simp) ?_
    simp only [Act.put, List.setIfInBounds_toArray, List.set_cons_zero, List.set_cons_succ]
    refine skipS 10 (some 13) rfl rfl (by kernel_rfl) (by kernel_rfl) (by kernel_rfl) (fun _ _ _ h => h) rfl S2 ?_
    simp only [Act.put, List.setIfInBounds_toArray, List.set_cons_zero, List.set_cons_succ]
    refine skipS 11 (some 14) rfl rfl (by kernel_rfl) (by kernel_rfl) (by kernel_rfl) (fun _ _ _ h => h) rfl S2 ?_
    simp only [Act.put, List.setIfInBounds_toArray, List.set_cons_zero, List.set_cons_succ]
    refine skipS 12 (some 15) rfl rfl (by kernel_rfl) (by kernel_rfl) (by kernel_rfl) (fun _ _ _ h => h) rfl S2 ?_
    simp only [Act.put, List.setIfInBounds_toArray, List.set_cons_zero, List.set_cons_succ]
    refine skipS 13 (some 16) rfl rfl (by kernel_rfl) (by kernel_rfl) (by kernel_rfl) (fun _ _ _ h => h) rfl S2 ?_
    simp only [Act.put, List.setIfInBounds_toArray, List.set_cons_zero, List.set_cons_succ]
    refine skipS 14 (some 17) rfl rfl (by kernel_rfl) (by kernel_rfl) (by kernel_rfl) (fun _ _ _ h => h) rfl S2 ?_
    simp only [Act.put, List.setIfInBounds_toArray, List.set_cons_zero, List.set_cons_succ]
    refine skipS 15 (some 18) rfl rfl (by kernel_rfl) (by kernel_rfl) (by kernel_rfl) (fun _ _ _ h => h) rfl S2 ?_
    simp only [Act.put, List.setIfInBounds_toArray, List.set_cons_zero, List.set_cons_succ]
    refine skipS 16 (some 19) rfl rfl (by kernel_rfl) (by kernel_rfl) (by kernel_rfl) (fun _ _ _ h => h) rfl S2 ?_
    simp only [Act.put, List.setIfInBounds_toArray, List.set_cons_zero, List.set_cons_succ]
    refine takeS 17 (some 20) (.bool false) rfl rfl (by kernel_rfl) (by kernel_rfl) (by kernel_rfl) (fun _ _ _ h => h) rfl S2 (fun w' hw' => by go_simp) ?_
    simp only [Act.put, List.setIfInBounds_toArray, List.set_cons_zero, List.set_cons_succ]
    refine takeS 18 (some 21) (.bool false) rfl rfl (by kernel_rfl) (by kernel_rfl) (by kernel_rfl) (fun _ _ _ h => h) rfl S2 (fun w' hw' => by go_simp) ?_
    simp only [Act.put, List.setIfInBounds_toArray, List.set_cons_zero, List.set_cons_succ]
    refine skipS 19 (some 22) rfl rfl (by kernel_rfl) (by kernel_rfl) (by kernel_rfl) (fun _ _ _ h => h) rfl S2 ?_
    simp only [Act.put, List.setIfInBounds_toArray, List.set_cons_zero, List.set_cons_succ]
    refine skipS 20 (some 23) rfl rfl (by kernel_rfl) (by kernel_rfl) (by kernel_rfl) (fun _ _ _ h => h) rfl S2 ?_
    simp only [Act.put, List.setIfInBounds_toArray, List.set_cons_zero, List.set_cons_succ]
    refine skipS 21 (some 24) rfl rfl (by kernel_rfl) (by kernel_rfl) (by kernel_rfl) (fun _ _ _ h => h) rfl S2 ?_
    simp only [Act.put, List.setIfInBounds_toArray, List.set_cons_zero, List.set_cons_succ]
    refine skipS 22 (some 25) rfl rfl (by kernel_rfl) (by kernel_rfl) (by kernel_rfl) (fun _ _ _ h => h) rfl S2 ?_
    simp only [Act.put, List.setIfInBounds_toArray, List.set_cons_zero, List.set_cons_succ]
    refine skipS 23 (some 26) rfl rfl (by kernel_rfl) (by kernel_rfl) (by kernel_rfl) (fun _ _ _ h => h) rfl S2 ?_
    simp only [Act.put, List.setIfInBounds_toArray, List.set_cons_zero, List.set_cons_succ]
    refine skipS 24 (some 27) rfl rfl (by kernel_rfl) (by kernel_rfl) (by kernel_rfl) (fun _ _ _ h => h) rfl S2 ?_
    simp only [Act.put, List.setIfInBounds_toArray, List.set_cons_zero, List.set_cons_succ]
    refine takeS 25 (some 28) (.bool false) rfl rfl (by kernel_rfl) (by kernel_rfl) (by kernel_rfl) (fun _ _ _ h => h) rfl S2 (fun w' hw' => by go_simp) ?_
    simp only [Act.put, List.setIfInBounds_toArray, List.set_cons_zero, List.set_cons_succ]
    refine takeS 26 (some 2) (.bool false) rfl rfl (by kernel_rfl) (by kernel_rfl) (by kernel_rfl) (fun _ _ _ h => h) rfl S2 (fun w' hw' => by go_simp) ?_
    simp only [Act.put, List.setIfInBounds_toArray, List.set_cons_zero, List.set_cons_succ]
    refine wpAnyH_done (by kernel_rfl) ?_ _
    go_wp2
    go_ret
    exact ⟨rfl, e0.trans S2⟩
  cases B
  · rw [d1, d2, d3]
    clear hl6 hb6
    go_enter Tryd.func11, Tryd.ntmps11
    go_wp2
    rw [← hw0]
    refine wp_region_held (S := Ext w0) (by kernel_rfl) ?_
    change wpAnyH _ _ _ _ _ _ _ _ w0.drew
    have S0 : Ext w0 w0.drew := Below.drew (Below.refl _ _)
    have R0 := R.ext S0
    have K0 := Kw.below S0 Kw.lt
    clear R Kw
    generalize w0.drew = W at *
    refine takeS 0 (some 3) (.agg #[.int .i64 z, .int .i64 b, .int .i64 k, .slice adr nr capr, .slice adl nl capl, .slice adp np capp]) rfl rfl (by kernel_rfl) (by kernel_rfl) (by kernel_rfl) (fun _ _ _ h => h) rfl S0 (fun w' hw' => exec_load_row 26 _ rfl w.heap.size rfl 26 _ (HB.out w' hw') Tryd.underlying26 rfl (by kernel_rfl)) ?_
    simp only [Act.put, List.setIfInBounds_toArray, List.set_cons_zero, List.set_cons_succ]
    refine nextS 1 rfl (by kernel_rfl) rfl (callS (some 4) rfl 26 #[.agg #[.int .i64 z, .int .i64 b, .int .i64 k, .slice adr nr capr, .slice adl nl capl, .slice adp np capp]] (by go_simp) (fun v w' => v = .bool true ∧ Ext W w') ((mayBe_any z b k _ _ _ W).mono fun _ _ he => ⟨_, he.1.trans (by rw [d1]), rfl, he.2⟩) ?_)
    rintro v1 W1 ⟨rfl, e1⟩
    simp only [Act.put, List.setIfInBounds_toArray, List.set_cons_zero, List.set_cons_succ]
    have S1 := S0.trans e1
    have K1 := K0.below e1 K0.lt
    have R1 := R0.ext e1
    clear e1 K0 R0 S0
    refine ⟨S1, ?_⟩
    refine takeS 2 (some 5) (.bool true) rfl rfl (by kernel_rfl) (by kernel_rfl) (by kernel_rfl) (fun _ _ _ h => h) rfl S1 (fun w' hw' => by go_simp) ?_
    simp only [Act.put, List.setIfInBounds_toArray, List.set_cons_zero, List.set_cons_succ]
    refine takeS 3 (some 6) (.pointer (some ⟨w.heap.size, 4, none⟩)) rfl rfl (by kernel_rfl) (by kernel_rfl) (by kernel_rfl) (fun _ _ _ h => h) rfl S1 (fun w' hw' => by go_simp) ?_
    simp only [Act.put, List.setIfInBounds_toArray, List.set_cons_zero, List.set_cons_succ]
    refine takeS 4 (some 7) (.slice adl nl capl) rfl rfl (by kernel_rfl) (by kernel_rfl) (by kernel_rfl) (fun _ _ _ h => h) rfl S1 (fun w' hw' => by have cc : w'.cell? ⟨w.heap.size, 4, none⟩ = some (.slice adl nl capl) := ((HB.out w' hw').cell 4).trans rfl; go_simp) ?_
    simp only [Act.put, List.setIfInBounds_toArray, List.set_cons_zero, List.set_cons_succ]
    refine takeS 5 (some 8) (.agg #[.int .i64 z, .int .i64 b, .int .i64 k, .slice adr nr capr, .slice adl nl capl, .slice adp np capp]) rfl rfl (by kernel_rfl) (by kernel_rfl) (by kernel_rfl) (fun _ _ _ h => h) rfl S1 (fun w' hw' => exec_load_row 26 _ rfl w.heap.size rfl 26 _ (HB.out w' hw') Tryd.underlying26 rfl (by kernel_rfl)) ?_
    simp only [Act.put, List.setIfInBounds_toArray, List.set_cons_zero, List.set_cons_succ]
    refine nextS 6 rfl (by kernel_rfl) rfl (callS (some 9) rfl 35 #[.agg #[.int .i64 z, .int .i64 b, .int .i64 k, .slice adr nr capr, .slice adl nl capl, .slice adp np capp]] (by go_simp) (fun v w' => v = .int .i64 (cntL z b) ∧ Ext W1 w') ((leafCount_any z b k _ _ _ W1).mono fun _ _ he => ⟨_, he.1, rfl, he.2⟩) ?_)
    rintro v2 W2 ⟨rfl, e1⟩
    simp only [Act.put, List.setIfInBounds_toArray, List.set_cons_zero, List.set_cons_succ]
    have S2 := S1.trans e1
    have K2 := K1.below e1 K1.lt
    have R2 := R1.ext e1
    clear e1 K1 R1 S1
    refine ⟨S2, ?_⟩
    refine nextS 7 rfl (by kernel_rfl) rfl (callS (some 10) rfl 34 #[.slice adl nl capl, .int .i64 (cntL z b), .int .i64 32] (by go_simp) (fun v w' => v = .bool true ∧ W2 = w') ((allOf_any _ s.leaves (cntL z b) 32 W2 _ R2.l hll).mono fun _ _ he => ⟨_, he.1.trans (by rw [d2]), rfl, he.2⟩) ?_)
    rintro v3 W3 ⟨rfl, rfl⟩
    simp only [Act.put, List.setIfInBounds_toArray, List.set_cons_zero, List.set_cons_succ]
    refine ⟨S2, ?_⟩
    refine takeS 8 (some 11) (.bool true) rfl rfl (by kernel_rfl) (by kernel_rfl) (by kernel_rfl) (fun _ _ _ h => h) rfl S2 (fun w' hw' => by go_simp) ?_
    simp only [Act.put, List.setIfInBounds_toArray, List.set_cons_zero, List.set_cons_succ]
    refine takeS 9 (some 12) (.bool true) rfl rfl (by kernel_rfl) (by kernel_rfl) (by kernel_rfl) (fun _ _ _ h => h) rfl S2 (fun w' hw' => by go_simp) ?_
    simp only [Act.put, List.setIfInBounds_toArray, List.set_cons_zero, List.set_cons_succ]
    refine takeS 10 (some 13) (.pointer (some ⟨w.heap.size, 5, none⟩)) rfl rfl (by kernel_rfl) (by kernel_rfl) (by kernel_rfl) (fun _ _ _ h => h) rfl S2 (fun w' hw' => by go_simp) ?_
    simp only [Act.put, List.setIfInBounds_toArray, List.set_cons_zero, List.set_cons_succ]
    refine takeS 11 (some 14) (.slice adp np capp) rfl rfl (by kernel_rfl) (by kernel_rfl) (by kernel_rfl) (fun _ _ _ h => h) rfl S2 (fun w' hw' => by have cc : w'.cell? ⟨w.heap.size, 5, none⟩ = some (.slice adp np capp) := ((HB.out w' hw').cell 5).trans rfl; go_simp) ?_
    simp only [Act.put, List.setIfInBounds_toArray, List.set_cons_zero, List.set_cons_succ]
    refine takeS 12 (some 15) (.agg #[.int .i64 z, .int .i64 b, .int .i64 k, .slice adr nr capr, .slice adl nl capl, .slice adp np capp]) rfl rfl (by kernel_rfl) (by kernel_rfl) (by kernel_rfl) (fun _ _ _ h => h) rfl S2 (fun w' hw' => exec_load_row 26 _ rfl w.heap.size rfl 26 _ (HB.out w' hw') Tryd.underlying26 rfl (by kernel_rfl)) ?_
    simp only [Act.put, List.setIfInBounds_toArray, List.set_cons_zero, List.set_cons_succ]
    refine takeS 14 (some 17) (.pointer (some ⟨w.heap.size, 1, none⟩)) rfl rfl (by kernel_rfl) (by kernel_rfl) (by kernel_rfl) (fun _ _ _ h => h) rfl S2 (fun w' hw' => by go_simp) ?_
    simp only [Act.put, List.setIfInBounds_toArray, List.set_cons_zero, List.set_cons_succ]
    refine takeS 15 (some 18) (.int .i64 b) rfl rfl (by kernel_rfl) (by kernel_rfl) (by kernel_rfl) (fun _ _ _ h => h) rfl S2 (fun w' hw' => by have cc : w'.cell? ⟨w.heap.size, 1, none⟩ = some (.int .i64 b) := ((HB.out w' hw').cell 1).trans rfl; go_simp) ?_
    simp only [Act.put, List.setIfInBounds_toArray, List.set_cons_zero, List.set_cons_succ]
    refine nextS 13 rfl (by kernel_rfl) rfl (callS (some 16) rfl 36 #[.agg #[.int .i64 z, .int .i64 b, .int .i64 k, .slice adr nr capr, .slice adl nl capl, .slice adp np capp]] (by go_simp) (fun v w' => v = .int .i64 (grpsN z b k) ∧ Ext W2 w') ((parityCount_any z b k _ _ _ W2).mono fun _ _ he => ⟨_, he.1, rfl, he.2⟩) ?_)
    rintro v4 W4 ⟨rfl, e1⟩
    simp only [Act.put, List.setIfInBounds_toArray, List.set_cons_zero, List.set_cons_succ]
    have S4 := S2.trans e1
    have K4 := K2.below e1 K2.lt
    have R4 := R2.ext e1
    clear e1 K2 R2 S2
    refine ⟨S4, ?_⟩
    refine nextS 16 rfl (by kernel_rfl) rfl (callS (some 19) rfl 34 #[.slice adp np capp, .int .i64 (grpsN z b k), .int .i64 b] (by go_simp) (fun v w' => v = .bool false ∧ W4 = w') ((allOf_any _ s.parity (grpsN z b k) b W4 _ R4.p hlp).mono fun _ _ he => ⟨_, he.1.trans (by rw [d3]), rfl, he.2⟩) ?_)
    rintro v5 W5 ⟨rfl, rfl⟩
    simp only [Act.put, List.setIfInBounds_toArray, List.set_cons_zero, List.set_cons_succ]
    refine ⟨S4, ?_⟩
    refine takeS 17 (some 20) (.bool false) rfl rfl (by kernel_rfl) (by kernel_rfl) (by kernel_rfl) (fun _ _ _ h => h) rfl S4 (fun w' hw' => by go_simp) ?_
    simp only [Act.put, List.setIfInBounds_toArray, List.set_cons_zero, List.set_cons_succ]
    refine takeS 18 (some 21) (.bool false) rfl rfl (by kernel_rfl) (by kernel_rfl) (by kernel_rfl) (fun _ _ _ h => h) rfl S4 (fun w' hw' => by go_simp) ?_
    simp only [Act.put, List.setIfInBounds_toArray, List.set_cons_zero, List.set_cons_succ]
    refine skipS 19 (some 22) rfl rfl (by kernel_rfl) (by kernel_rfl) (by kernel_rfl) (fun _ _ _ h => h) rfl S4 ?_
    simp only [Act.put, List.setIfInBounds_toArray, List.set_cons_zero, List.set_cons_succ]
    refine skipS 20 (some 23) rfl rfl (by kernel_rfl) (by kernel_rfl) (by kernel_rfl) (fun _ _ _ h => h) rfl S4 ?_
    simp only [Act.put, List.setIfInBounds_toArray, List.set_cons_zero, List.set_cons_succ]
    refine skipS 21 (some 24) rfl rfl (by kernel_rfl) (by kernel_rfl) (by kernel_rfl) (fun _ _ _ h => h) rfl S4 ?_
    simp only [Act.put, List.setIfInBounds_toArray, List.set_cons_zero, List.set_cons_succ]
    refine skipS 22 (some 25) rfl rfl (by kernel_rfl) (by kernel_rfl) (by kernel_rfl) (fun _ _ _ h => h) rfl S4 ?_
    simp only [Act.put, List.setIfInBounds_toArray, List.set_cons_zero, List.set_cons_succ]
    refine skipS 23 (some 26) rfl rfl (by kernel_rfl) (by kernel_rfl) (by kernel_rfl) (fun _ _ _ h => h) rfl S4 ?_
    simp only [Act.put, List.setIfInBounds_toArray, List.set_cons_zero, List.set_cons_succ]
    refine skipS 24 (some 27) rfl rfl (by kernel_rfl) (by kernel_rfl) (by kernel_rfl) (fun _ _ _ h => h) rfl S4 ?_
    simp only [Act.put, List.setIfInBounds_toArray, List.set_cons_zero, List.set_cons_succ]
    refine takeS 25 (some 28) (.bool false) rfl rfl (by kernel_rfl) (by kernel_rfl) (by kernel_rfl) (fun _ _ _ h => h) rfl S4 (fun w' hw' => by go_simp) ?_
    simp only [Act.put, List.setIfInBounds_toArray, List.set_cons_zero, List.set_cons_succ]
    refine takeS 26 (some 2) (.bool false) rfl rfl (by kernel_rfl) (by kernel_rfl) (by kernel_rfl) (fun _ _ _ h => h) rfl S4 (fun w' hw' => by go_simp) ?_
    simp only [Act.put, List.setIfInBounds_toArray, List.set_cons_zero, List.set_cons_succ]
    refine wpAnyH_done (by kernel_rfl) ?_ _
    go_wp2
    go_ret
    exact ⟨rfl, e0.trans S4⟩
  · rw [d1, d2, d3]
    replace hl6 := hl6 d1 d2
    replace hb6 := hb6 d2
    go_enter Tryd.func11, Tryd.ntmps11
    go_wp2
    rw [← hw0]
    refine wp_region_held (S := Ext w0) (by kernel_rfl) ?_
    change wpAnyH _ _ _ _ _ _ _ _ w0.drew
    have S0 : Ext w0 w0.drew := Below.drew (Below.refl _ _)
    have R0 := R.ext S0
    have K0 := Kw.below S0 Kw.lt
    clear R Kw
    generalize w0.drew = W at *
    refine takeS 0 (some 3) (.agg #[.int .i64 z, .int .i64 b, .int .i64 k, .slice adr nr capr, .slice adl nl capl, .slice adp np capp]) rfl rfl (by kernel_rfl) (by kernel_rfl) (by kernel_rfl) (fun _ _ _ h => h) rfl S0 (fun w' hw' => exec_load_row 26 _ rfl w.heap.size rfl 26 _ (HB.out w' hw') Tryd.underlying26 rfl (by kernel_rfl)) ?_
    simp only [Act.put, List.setIfInBounds_toArray, List.set_cons_zero, List.set_cons_succ]
    refine nextS 1 rfl (by kernel_rfl) rfl (callS (some 4) rfl 26 #[.agg #[.int .i64 z, .int .i64 b, .int .i64 k, .slice adr nr capr, .slice adl nl capl, .slice adp np capp]] (by go_simp) (fun v w' => v = .bool true ∧ Ext W w') ((mayBe_any z b k _ _ _ W).mono fun _ _ he => ⟨_, he.1.trans (by rw [d1]), rfl, he.2⟩) ?_)
    rintro v1 W1 ⟨rfl, e1⟩
    simp only [Act.put, List.setIfInBounds_toArray, List.set_cons_zero, List.set_cons_succ]
    have S1 := S0.trans e1
    have K1 := K0.below e1 K0.lt
    have R1 := R0.ext e1
    clear e1 K0 R0 S0
    refine ⟨S1, ?_⟩
    refine takeS 2 (some 5) (.bool true) rfl rfl (by kernel_rfl) (by kernel_rfl) (by kernel_rfl) (fun _ _ _ h => h) rfl S1 (fun w' hw' => by go_simp) ?_
    simp only [Act.put, List.setIfInBounds_toArray, List.set_cons_zero, List.set_cons_succ]
    refine takeS 3 (some 6) (.pointer (some ⟨w.heap.size, 4, none⟩)) rfl rfl (by kernel_rfl) (by kernel_rfl) (by kernel_rfl) (fun _ _ _ h => h) rfl S1 (fun w' hw' => by go_simp) ?_
    simp only [Act.put, List.setIfInBounds_toArray, List.set_cons_zero, List.set_cons_succ]
    refine takeS 4 (some 7) (.slice adl nl capl) rfl rfl (by kernel_rfl) (by kernel_rfl) (by kernel_rfl) (fun _ _ _ h => h) rfl S1 (fun w' hw' => by have cc : w'.cell? ⟨w.heap.size, 4, none⟩ = some (.slice adl nl capl) := ((HB.out w' hw').cell 4).trans rfl; go_simp) ?_
    simp only [Act.put, List.setIfInBounds_toArray, List.set_cons_zero, List.set_cons_succ]
    refine takeS 5 (some 8) (.agg #[.int .i64 z, .int .i64 b, .int .i64 k, .slice adr nr capr, .slice adl nl capl, .slice adp np capp]) rfl rfl (by kernel_rfl) (by kernel_rfl) (by kernel_rfl) (fun _ _ _ h => h) rfl S1 (fun w' hw' => exec_load_row 26 _ rfl w.heap.size rfl 26 _ (HB.out w' hw') Tryd.underlying26 rfl (by kernel_rfl)) ?_
    simp only [Act.put, List.setIfInBounds_toArray, List.set_cons_zero, List.set_cons_succ]
    refine nextS 6 rfl (by kernel_rfl) rfl (callS (some 9) rfl 35 #[.agg #[.int .i64 z, .int .i64 b, .int .i64 k, .slice adr nr capr, .slice adl nl capl, .slice adp np capp]] (by go_simp) (fun v w' => v = .int .i64 (cntL z b) ∧ Ext W1 w') ((leafCount_any z b k _ _ _ W1).mono fun _ _ he => ⟨_, he.1, rfl, he.2⟩) ?_)
    rintro v2 W2 ⟨rfl, e1⟩
    simp only [Act.put, List.setIfInBounds_toArray, List.set_cons_zero, List.set_cons_succ]
    have S2 := S1.trans e1
    have K2 := K1.below e1 K1.lt
    have R2 := R1.ext e1
    clear e1 K1 R1 S1
    refine ⟨S2, ?_⟩
    refine nextS 7 rfl (by kernel_rfl) rfl (callS (some 10) rfl 34 #[.slice adl nl capl, .int .i64 (cntL z b), .int .i64 32] (by go_simp) (fun v w' => v = .bool true ∧ W2 = w') ((allOf_any _ s.leaves (cntL z b) 32 W2 _ R2.l hll).mono fun _ _ he => ⟨_, he.1.trans (by rw [d2]), rfl, he.2⟩) ?_)
    rintro v3 W3 ⟨rfl, rfl⟩
    simp only [Act.put, List.setIfInBounds_toArray, List.set_cons_zero, List.set_cons_succ]
    refine ⟨S2, ?_⟩
    refine takeS 8 (some 11) (.bool true) rfl rfl (by kernel_rfl) (by kernel_rfl) (by kernel_rfl) (fun _ _ _ h => h) rfl S2 (fun w' hw' => by go_simp) ?_
    simp only [Act.put, List.setIfInBounds_toArray, List.set_cons_zero, List.set_cons_succ]
    refine takeS 9 (some 12) (.bool true) rfl rfl (by kernel_rfl) (by kernel_rfl) (by kernel_rfl) (fun _ _ _ h => h) rfl S2 (fun w' hw' => by go_simp) ?_
    simp only [Act.put, List.setIfInBounds_toArray, List.set_cons_zero, List.set_cons_succ]
    refine takeS 10 (some 13) (.pointer (some ⟨w.heap.size, 5, none⟩)) rfl rfl (by kernel_rfl) (by kernel_rfl) (by kernel_rfl) (fun _ _ _ h => h) rfl S2 (fun w' hw' => by go_simp) ?_
    simp only [Act.put, List.setIfInBounds_toArray, List.set_cons_zero, List.set_cons_succ]
    refine takeS 11 (some 14) (.slice adp np capp) rfl rfl (by kernel_rfl) (by kernel_rfl) (by kernel_rfl) (fun _ _ _ h => h) rfl S2 (fun w' hw' => by have cc : w'.cell? ⟨w.heap.size, 5, none⟩ = some (.slice adp np capp) := ((HB.out w' hw').cell 5).trans rfl; go_simp) ?_
    simp only [Act.put, List.setIfInBounds_toArray, List.set_cons_zero, List.set_cons_succ]
    refine takeS 12 (some 15) (.agg #[.int .i64 z, .int .i64 b, .int .i64 k, .slice adr nr capr, .slice adl nl capl, .slice adp np capp]) rfl rfl (by kernel_rfl) (by kernel_rfl) (by kernel_rfl) (fun _ _ _ h => h) rfl S2 (fun w' hw' => exec_load_row 26 _ rfl w.heap.size rfl 26 _ (HB.out w' hw') Tryd.underlying26 rfl (by kernel_rfl)) ?_
    simp only [Act.put, List.setIfInBounds_toArray, List.set_cons_zero, List.set_cons_succ]
    refine takeS 14 (some 17) (.pointer (some ⟨w.heap.size, 1, none⟩)) rfl rfl (by kernel_rfl) (by kernel_rfl) (by kernel_rfl) (fun _ _ _ h => h) rfl S2 (fun w' hw' => by go_simp) ?_
    simp only [Act.put, List.setIfInBounds_toArray, List.set_cons_zero, List.set_cons_succ]
    refine takeS 15 (some 18) (.int .i64 b) rfl rfl (by kernel_rfl) (by kernel_rfl) (by kernel_rfl) (fun _ _ _ h => h) rfl S2 (fun w' hw' => by have cc : w'.cell? ⟨w.heap.size, 1, none⟩ = some (.int .i64 b) := ((HB.out w' hw').cell 1).trans rfl; go_simp) ?_
    simp only [Act.put, List.setIfInBounds_toArray, List.set_cons_zero, List.set_cons_succ]
    refine nextS 13 rfl (by kernel_rfl) rfl (callS (some 16) rfl 36 #[.agg #[.int .i64 z, .int .i64 b, .int .i64 k, .slice adr nr capr, .slice adl nl capl, .slice adp np capp]] (by go_simp) (fun v w' => v = .int .i64 (grpsN z b k) ∧ Ext W2 w') ((parityCount_any z b k _ _ _ W2).mono fun _ _ he => ⟨_, he.1, rfl, he.2⟩) ?_)
    rintro v4 W4 ⟨rfl, e1⟩
    simp only [Act.put, List.setIfInBounds_toArray, List.set_cons_zero, List.set_cons_succ]
    have S4 := S2.trans e1
    have K4 := K2.below e1 K2.lt
    have R4 := R2.ext e1
    clear e1 K2 R2 S2
    refine ⟨S4, ?_⟩
    refine nextS 16 rfl (by kernel_rfl) rfl (callS (some 19) rfl 34 #[.slice adp np capp, .int .i64 (grpsN z b k), .int .i64 b] (by go_simp) (fun v w' => v = .bool true ∧ W4 = w') ((allOf_any _ s.parity (grpsN z b k) b W4 _ R4.p hlp).mono fun _ _ he => ⟨_, he.1.trans (by rw [d3]), rfl, he.2⟩) ?_)
    rintro v5 W5 ⟨rfl, rfl⟩
    simp only [Act.put, List.setIfInBounds_toArray, List.set_cons_zero, List.set_cons_succ]
    refine ⟨S4, ?_⟩
    refine takeS 17 (some 20) (.bool true) rfl rfl (by kernel_rfl) (by kernel_rfl) (by kernel_rfl) (fun _ _ _ h => h) rfl S4 (fun w' hw' => by go_simp) ?_
    simp only [Act.put, List.setIfInBounds_toArray, List.set_cons_zero, List.set_cons_succ]
    refine takeS 18 (some 21) (.bool true) rfl rfl (by kernel_rfl) (by kernel_rfl) (by kernel_rfl) (fun _ _ _ h => h) rfl S4 (fun w' hw' => by go_simp) ?_
    simp only [Act.put, List.setIfInBounds_toArray, List.set_cons_zero, List.set_cons_succ]
    refine takeS 19 (some 22) (.pointer (some ⟨w.heap.size, 3, none⟩)) rfl rfl (by kernel_rfl) (by kernel_rfl) (by kernel_rfl) (fun _ _ _ h => h) rfl S4 (fun w' hw' => by go_simp) ?_
    simp only [Act.put, List.setIfInBounds_toArray, List.set_cons_zero, List.set_cons_succ]
    refine takeS 20 (some 23) (.slice adr nr capr) rfl rfl (by kernel_rfl) (by kernel_rfl) (by kernel_rfl) (fun _ _ _ h => h) rfl S4 (fun w' hw' => by have cc : w'.cell? ⟨w.heap.size, 3, none⟩ = some (.slice adr nr capr) := ((HB.out w' hw').cell 3).trans rfl; go_simp) ?_
    simp only [Act.put, List.setIfInBounds_toArray, List.set_cons_zero, List.set_cons_succ]
    refine takeS 21 (some 24) (.pointer (some ⟨w.heap.size, 4, none⟩)) rfl rfl (by kernel_rfl) (by kernel_rfl) (by kernel_rfl) (fun _ _ _ h => h) rfl S4 (fun w' hw' => by go_simp) ?_
    simp only [Act.put, List.setIfInBounds_toArray, List.set_cons_zero, List.set_cons_succ]
    refine takeS 22 (some 25) (.slice adl nl capl) rfl rfl (by kernel_rfl) (by kernel_rfl) (by kernel_rfl) (fun _ _ _ h => h) rfl S4 (fun w' hw' => by have cc : w'.cell? ⟨w.heap.size, 4, none⟩ = some (.slice adl nl capl) := ((HB.out w' hw').cell 4).trans rfl; go_simp) ?_
    simp only [Act.put, List.setIfInBounds_toArray, List.set_cons_zero, List.set_cons_succ]
    refine nextS 23 rfl (by kernel_rfl) rfl (callS (some 26) rfl 28 #[.slice adl nl capl] (by go_simp) (fun v w' => Ext W4 w' ∧ OwnB w' W4.heap.size v (rootL s.leaves)) ((root_any _ s.leaves W4 K4 R4.l hl6 hb6).mono fun _ _ he => he) ?_)
    rintro v6 W6 ⟨e1, o6⟩
    simp only [Act.put, List.setIfInBounds_toArray, List.set_cons_zero, List.set_cons_succ]
    have S6 := S4.trans e1
    have R6 := R4.ext e1
    have s6 := o6.srcs _ (Or.inr (Nat.le_refl _))
    clear e1 K4 R4 S4 o6
    refine ⟨S6, ?_⟩
    refine nextS 24 rfl (by kernel_rfl) rfl (callS (some 27) rfl 37 #[.slice adr nr capr, v6] (by go_simp) (fun v w' => v = .bool E ∧ W6 = w') ((deq_any _ v6 s.root (rootL s.leaves) W6 R6.r s6).mono fun _ _ he => ⟨_, he.1.trans (by rw [HE.out]), rfl, he.2⟩) ?_)
    rintro v7 W7 ⟨rfl, rfl⟩
    simp only [Act.put, List.setIfInBounds_toArray, List.set_cons_zero, List.set_cons_succ]
    refine ⟨S6, ?_⟩
    refine takeS 25 (some 28) (.bool E) rfl rfl (by kernel_rfl) (by kernel_rfl) (by kernel_rfl) (fun _ _ _ h => h) rfl S6 (fun w' hw' => by go_simp) ?_
    simp only [Act.put, List.setIfInBounds_toArray, List.set_cons_zero, List.set_cons_succ]
    refine takeS 26 (some 2) (.bool E) rfl rfl (by kernel_rfl) (by kernel_rfl) (by kernel_rfl) (fun _ _ _ h => h) rfl S6 (fun w' hw' => by go_simp) ?_
    simp only [Act.put, List.setIfInBounds_toArray, List.set_cons_zero, List.set_cons_succ]
    refine wpAnyH_done (by kernel_rfl) ?_ _
    go_wp2
    go_ret
    exact ⟨rfl, e0.trans S6⟩
end Go.Proofs.YtfhgoedonjcekaaDoor
