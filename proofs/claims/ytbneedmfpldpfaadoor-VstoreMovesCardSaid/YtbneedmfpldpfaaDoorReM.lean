/- linnetref5's with, apply, names and Make where nothing stands: that they return, and make memory of their own. linnetref5's apply of an act that makes a name, and names, where nothing stands. linnetref5's Make of one name on an empty store: that it returns, and makes memory of its own. -/
import Derived.Test.YtbneedmfpldpfaaDoorRaM
import Derived.Test.YtbneedmfpldpfaaDoorSi
import Derived.BigQuiet
namespace Go.Proofs.YtbneedmfpldpfaaDoor
open Go.RowKit Go.Pth
set_option linter.unusedSimpArgs false
set_option linter.unusedVariables false

/-- In a region that draws: one of two comes up. -/
theorem nextR2 {P : Program} {md : Region.Mode} {ops : Array Oper} {Q : Exit → Act → World → Prop} {S : World → Prop} (i j : Nat) {oi oj : Oper} {fuel : Nat} {listed : Array Bool} {a : Act} {w : World} (hi : ops[i]? = some oi) (hj : ops[j]? = some oj)
    (hr : Region.ready md ops listed = [i, j]) (hwi : Region.wanted oi (yielded ops a.tmps) = true) (hwj : Region.wanted oj (yielded ops a.tmps) = true)
    (h1 : oi.wp P a w (fun a' w' => S w' ∧ wpAnyH P md ops Q S fuel (listed.setIfInBounds i true) a' w') Q)
    (h2 : oj.wp P a w (fun a' w' => S w' ∧ wpAnyH P md ops Q S fuel (listed.setIfInBounds j true) a' w') Q) : wpAnyH P md ops Q S (fuel + 1) listed a w := by
  refine wpAnyH_all hr (by simp) fun k hk => ?_
  have hk : k = i ∨ k = j := by simpa using hk
  rcases hk with rfl | rfl
  · refine wpOp_step hi fun K hK => ?_
    rw [if_pos hwi]
    exact Oper.wp_mono (fun a' w' h' => hK a' w' h') h1
  · refine wpOp_step hj fun K hK => ?_
    rw [if_pos hwj]
    exact Oper.wp_mono (fun a' w' h' => hK a' w' h') h2
theorem makeR {P : Program} {op : Oper} {a : Act} {w w1 : World} {K : Act → World → Prop} {Q : Exit → Act → World → Prop} (d : Option Tmp) (hd : op.dst = d) (v : Value)
    (hx : (execOp a.eval op).run P w = .ok (.value v) w1) (h : K (a.put d v) w1) : op.wp P a w K Q := by
  subst hd
  unfold Oper.wp
  rw [hx]
  exact h

theorem appR {P : Program} {w : World} {o : Oper} {a : Act} {K : Act → World → Prop} {Q : Exit → Act → World → Prop} (d : Option Tmp) (hd : o.dst = d) (s x : Operand) (t tn : TypeId)
    (ho : o.op = .call { callee := .builtin .append, args := #[s, x], argTypes := #[t, tn] }) (vs vx : Value) (hs : a.eval s = vs) (hx : a.eval x = vx)
    (v' : Value) (w' : World) (hr : (Builtin.append_ #[t, tn] o.type #[vs, vx]).run P w = .ok v' w') (h : K (a.put d v') w') : o.wp P a w K Q := by
  subst hd
  exact Lib.wp_append_run w s x t tn ho vs vx hs hx v' w' hr h

theorem info113 : (Tryd.prog.info? 113).map (fun i => (i.zero, i.size, i.bytes)) = some (some (.agg #[.string ByteArray.empty, .int .i64 0]), 2, 24) := by kernel_rfl
theorem info100 : (Tryd.prog.info? 100).map (fun i => (i.zero, i.size, i.bytes)) = some (some (.agg #[.int .i64 0, .string ByteArray.empty, .string ByteArray.empty, .int .i64 0]), 4, 48) := by kernel_rfl
theorem info97 : (Tryd.prog.info? 97).map (fun i => (i.zero, i.size, i.bytes)) = some (some (.agg #[.int .i64 0, .int .i64 0, .int .u64 0, .slice none 0 0, .slice none 0 0, .slice none 0 0]), 6, 96) := by kernel_rfl
/-- append of nil. -/
theorem app_nil {t e : TypeId} (ty : TypeId) {k : Nat} {z : Value} {bytes : Nat} (ht : Tryd.prog.underlying t = some (.slice e)) (hinf : (Tryd.prog.info? e).map (fun i => (i.zero, i.size, i.bytes)) = some (some z, k, bytes)) {w : World} {v : Value} {n : Nat} {xs : List Value} (h : Row w e k v n xs) :
    (Builtin.append_ #[t, t] ty #[v, .slice none 0 0]).run Tryd.prog w = .ok v w := by
  obtain ⟨i, hi1, hi2, hi3, hi4⟩ := info_of hinf
  exact run_append_owned_none (P := Tryd.prog) (w := w) 0 t ty e i k ht hi1 v n xs h
/-- append of one to nothing. -/
theorem app_one {t e : TypeId} (ty : TypeId) {k : Nat} {z : Value} {bytes : Nat} (ht : Tryd.prog.underlying t = some (.slice e)) (hinf : (Tryd.prog.info? e).map (fun i => (i.zero, i.size, i.bytes)) = some (some z, k, bytes)) (hzs : z.cells.size = k) (hb : bytes ≤ 1000) (w : World) (g0 g c : Nat) (news : List Value) (hl : news.length = k) (hone : ∀ u ∈ news, u.oneCell' = true) (hg : At w g news.toArray e) :
    ∃ v' w', (Builtin.append_ #[t, t] ty #[.slice (some ⟨g0, 0, none⟩) 0 0, .slice (some ⟨g, 0, none⟩) 1 c]).run Tryd.prog w = .ok v' w' ∧ Row w' e k v' 1 news ∧ Ext w w' := by
  obtain ⟨i, hi1, hi2, hi3, hi4⟩ := info_of hinf
  have hs : Src Tryd.prog i.size t (.slice (some ⟨g, 0, none⟩) 1 c) 1 news w := by
    refine Src.ofSlice w ht ⟨g, 0, none⟩ 1 c _ (by rw [hl, hi3, Nat.one_mul]) (fun q u hu => ?_) hone
    rw [Addr.add_lit, Nat.zero_add, hg.cell, ← hu]; simp
  have hr := run_append_grow_src (P := Tryd.prog) w t t ty e i z ht hi1 hi2 (some ⟨g0, 0, none⟩) 0 0 [] (run_firstCells_some w.drew i.size 0 ⟨g0, 0, none⟩ 0 0 [] (by simp) (by simp)) (.slice (some ⟨g, 0, none⟩) 1 c) 1 news hs (by omega) (by omega) (growslice_fits (by omega) (by rw [hi4]; omega))
  refine ⟨_, _, hr, ?_, (Ext.drew w).trans (Ext.alloc _ _)⟩
  have := row_grown (w := w) (e := e) (i := i) (z := z) (by rw [hi3]; exact hzs) (n := 0) (m := 1) (old := 0) (xs := []) (news := news) (by simp) (by rw [hl, hi3, Nat.one_mul]) (by simp only [maxLen]; omega)
  rw [hi3] at this
  simpa using this

set_option maxRecDepth 100000 in
set_option maxHeartbeats 4000000 in
theorem rwith_nil (p : ByteArray) (f : Int) (w : World) : Calls Tryd.prog 78 #[.slice none 0 0, .agg #[.string p, .int .i64 f]] w fun e w' => (∃ ad n cap, e = .returned (.slice ad n cap)) ∧ Ext w w' := by
  have e0 : Ext w (w.alloc (.cells #[.string p, .int .i64 f] 113)) := Ext.alloc w _
  have a0 := At.new w #[.string p, .int .i64 f] 113
  go_enter Tryd.func78, Tryd.ntmps78
  go_wp2
  generalize w.alloc (.cells #[.string p, .int .i64 f] 113) = w0 at *
  go_loopw [5] (fun s5 wr => s5 = .int .i64 0 ∧ Ext w0 wr) (fun _ _ => 0)
  case atStart => exact ⟨rfl, Ext.refl _⟩
  case round =>
    obtain ⟨rfl, ex⟩ := hrel
    go_wp2
    go_quiet (fail)
    have e1 := e0.trans (ex.trans (⟨rfl, rfl, rfl, Nat.le_refl _, fun _ _ => rfl⟩ : Ext wr (wr.drewN nq)))
    have a1 := a0.ext (ex.trans (⟨rfl, rfl, rfl, Nat.le_refl _, fun _ _ => rfl⟩ : Ext wr (wr.drewN nq)))
    generalize wr.drewN nq = wq at *
    clear e0 a0 ex nq
    go_wp2_with fail
    have HA := Lib.hid (fun (w' : World) (hw' : Ext wq w') => a1.ext hw')
    refine wp_region_held (S := Ext wq) (by kernel_rfl) ?_
    change wpAnyH _ _ _ _ _ _ _ _ wq.drew
    have S0 : Ext wq wq.drew := Below.drew (Below.refl _ _)
    generalize wq.drew = W0 at *
    refine takeS 1 (some 24) (.slice none 0 0) rfl rfl (by kernel_rfl) (by kernel_rfl) (by kernel_rfl) (fun _ _ _ h => h) rfl S0 (fun w' hw' => by go_simp) ?_
    simp only [Act.put, List.setIfInBounds_toArray, List.set_cons_zero, List.set_cons_succ]
    refine takeS 2 (some 25) (.int .i64 0) rfl rfl (by kernel_rfl) (by kernel_rfl) (by kernel_rfl) (fun _ _ _ h => h) rfl S0 (fun w' hw' => by go_simp) ?_
    simp only [Act.put, List.setIfInBounds_toArray, List.set_cons_zero, List.set_cons_succ]
    refine takeS 3 (some 26) (.slice none 0 0) rfl rfl (by kernel_rfl) (by kernel_rfl) (by kernel_rfl) (fun _ _ _ h => h) rfl S0 (fun w' hw' => by go_simp) ?_
    simp only [Act.put, List.setIfInBounds_toArray, List.set_cons_zero, List.set_cons_succ]
    refine takeS 5 (some 28) (.agg #[.string p, .int .i64 f]) rfl rfl (by kernel_rfl) (by kernel_rfl) (by kernel_rfl) (fun _ _ _ h => h) rfl S0 (fun w' hw' => by have c0 := (HA.out w' hw').cell 0; have c1 := (HA.out w' hw').cell 1; go_simp) ?_
    simp only [Act.put, List.setIfInBounds_toArray, List.set_cons_zero, List.set_cons_succ]
    refine takeS 8 (some 31) (.slice none 0 0) rfl rfl (by kernel_rfl) (by kernel_rfl) (by kernel_rfl) (fun _ _ _ h => h) rfl S0 (fun w' hw' => by go_simp) ?_
    simp only [Act.put, List.setIfInBounds_toArray, List.set_cons_zero, List.set_cons_succ]
    refine takeS 9 (some 32) (.int .i64 0) rfl rfl (by kernel_rfl) (by kernel_rfl) (by kernel_rfl) (fun _ _ _ h => h) rfl S0 (fun w' hw' => by go_simp) ?_
    simp only [Act.put, List.setIfInBounds_toArray, List.set_cons_zero, List.set_cons_succ]
    refine takeS 10 (some 33) (.slice none 0 0) rfl rfl (by kernel_rfl) (by kernel_rfl) (by kernel_rfl) (fun _ _ _ h => h) rfl S0 (fun w' hw' => by go_simp) ?_
    simp only [Act.put, List.setIfInBounds_toArray, List.set_cons_zero, List.set_cons_succ]
    refine nextR2 0 6 rfl rfl (by kernel_rfl) rfl rfl (makeR (some 23) rfl (.slice (some ⟨W0.heap.size, 0, none⟩) 0 0) (w1 := W0.alloc (.cells #[] 113)) (by go_simp) ?_) (makeR (some 29) rfl (.slice (some ⟨W0.heap.size, 0, none⟩) 1 1) (w1 := W0.alloc (.cells #[.string p, .int .i64 f] 113)) (by go_simp) ?_)
    · skip
      simp only [Act.put, List.setIfInBounds_toArray, List.set_cons_zero, List.set_cons_succ]
      have x_ : Ext W0 (W0.alloc (.cells #[] 113)) := Ext.alloc W0 _
      have z0 : Row (W0.alloc (.cells #[] 113)) 113 2 (.slice (some ⟨W0.heap.size, 0, none⟩) 0 0) 0 [] := empty_row W0 113 2
      have S2 := S0.trans x_
      clear x_
      generalize W0.alloc (.cells #[] 113) = W1 at *
      generalize W0.heap.size = g3 at *
      refine ⟨S2, ?_⟩
      refine nextR2 4 6 rfl rfl (by kernel_rfl) rfl rfl (appR (some 27) rfl (.tmp 23) (.tmp 26) 89 89 rfl _ _ rfl rfl _ _ (app_nil _ Tryd.underlying89 info113 z0) ?_) (makeR (some 29) rfl (.slice (some ⟨W1.heap.size, 0, none⟩) 1 1) (w1 := W1.alloc (.cells #[.string p, .int .i64 f] 113)) (by go_simp) ?_)
      · skip
        simp only [Act.put, List.setIfInBounds_toArray, List.set_cons_zero, List.set_cons_succ]
        refine ⟨S2, ?_⟩
        refine nextS 6 rfl (by kernel_rfl) rfl (makeR (some 29) rfl (.slice (some ⟨W1.heap.size, 0, none⟩) 1 1) (w1 := W1.alloc (.cells #[.string p, .int .i64 f] 113)) (by go_simp) ?_)
        simp only [Act.put, List.setIfInBounds_toArray, List.set_cons_zero, List.set_cons_succ]
        have x_ : Ext W1 (W1.alloc (.cells #[.string p, .int .i64 f] 113)) := Ext.alloc W1 _
        replace z0 := z0.ext x_
        have a6 := At.new W1 #[.string p, .int .i64 f] 113
        have S11 := S2.trans x_
        clear x_
        generalize W1.alloc (.cells #[.string p, .int .i64 f] 113) = W10 at *
        generalize W1.heap.size = g12 at *
        refine ⟨S11, ?_⟩
        obtain ⟨v_, W13, h17, r7, x18⟩ := app_one 89 Tryd.underlying89 info113 rfl (by omega) W10 g3 g12 1 [.string p, .int .i64 f] rfl (by simp [Value.oneCell']) a6
        obtain ⟨ad15, cp16, ev_, -⟩ := r7.shape
        subst ev_
        refine nextS 7 rfl (by kernel_rfl) rfl (appR (some 30) rfl (.tmp 27) (.tmp 29) 89 89 rfl _ _ rfl rfl _ _ h17 ?_)
        simp only [Act.put, List.setIfInBounds_toArray, List.set_cons_zero, List.set_cons_succ]
        replace z0 := z0.ext x18
        replace a6 := a6.ext x18
        have S14 := S11.trans x18
        clear h17 x18
        refine ⟨S14, ?_⟩
        refine nextS 11 rfl (by kernel_rfl) rfl (appR (some 34) rfl (.tmp 30) (.tmp 33) 89 89 rfl _ _ rfl rfl _ _ (app_nil _ Tryd.underlying89 info113 r7) ?_)
        simp only [Act.put, List.setIfInBounds_toArray, List.set_cons_zero, List.set_cons_succ]
        refine ⟨S14, ?_⟩
        refine takeS 12 (some 4) (.slice ad15 1 cp16) rfl rfl (by kernel_rfl) (by kernel_rfl) (by kernel_rfl) (fun _ _ _ h => h) rfl S14 (fun w' hw' => by go_simp) ?_
        simp only [Act.put, List.setIfInBounds_toArray, List.set_cons_zero, List.set_cons_succ]
        refine wpAnyH_done (by kernel_rfl) ?_ _
        go_wp2
        go_ret
        exact ⟨⟨_, _, _, rfl⟩, e1.trans S14⟩
      · skip
        simp only [Act.put, List.setIfInBounds_toArray, List.set_cons_zero, List.set_cons_succ]
        have x_ : Ext W1 (W1.alloc (.cells #[.string p, .int .i64 f] 113)) := Ext.alloc W1 _
        replace z0 := z0.ext x_
        have a6 := At.new W1 #[.string p, .int .i64 f] 113
        have S8 := S2.trans x_
        clear x_
        generalize W1.alloc (.cells #[.string p, .int .i64 f] 113) = W7 at *
        generalize W1.heap.size = g9 at *
        refine ⟨S8, ?_⟩
        refine nextS 4 rfl (by kernel_rfl) rfl (appR (some 27) rfl (.tmp 23) (.tmp 26) 89 89 rfl _ _ rfl rfl _ _ (app_nil _ Tryd.underlying89 info113 z0) ?_)
        simp only [Act.put, List.setIfInBounds_toArray, List.set_cons_zero, List.set_cons_succ]
        refine ⟨S8, ?_⟩
        obtain ⟨v_, W19, h23, r7, x24⟩ := app_one 89 Tryd.underlying89 info113 rfl (by omega) W7 g3 g9 1 [.string p, .int .i64 f] rfl (by simp [Value.oneCell']) a6
        obtain ⟨ad21, cp22, ev_, -⟩ := r7.shape
        subst ev_
        refine nextS 7 rfl (by kernel_rfl) rfl (appR (some 30) rfl (.tmp 27) (.tmp 29) 89 89 rfl _ _ rfl rfl _ _ h23 ?_)
        simp only [Act.put, List.setIfInBounds_toArray, List.set_cons_zero, List.set_cons_succ]
        replace z0 := z0.ext x24
        replace a6 := a6.ext x24
        have S20 := S8.trans x24
        clear h23 x24
        refine ⟨S20, ?_⟩
        refine nextS 11 rfl (by kernel_rfl) rfl (appR (some 34) rfl (.tmp 30) (.tmp 33) 89 89 rfl _ _ rfl rfl _ _ (app_nil _ Tryd.underlying89 info113 r7) ?_)
        simp only [Act.put, List.setIfInBounds_toArray, List.set_cons_zero, List.set_cons_succ]
        refine ⟨S20, ?_⟩
        refine takeS 12 (some 4) (.slice ad21 1 cp22) rfl rfl (by kernel_rfl) (by kernel_rfl) (by kernel_rfl) (fun _ _ _ h => h) rfl S20 (fun w' hw' => by go_simp) ?_
        simp only [Act.put, List.setIfInBounds_toArray, List.set_cons_zero, List.set_cons_succ]
        refine wpAnyH_done (by kernel_rfl) ?_ _
        go_wp2
        go_ret
        exact ⟨⟨_, _, _, rfl⟩, e1.trans S20⟩
    · skip
      simp only [Act.put, List.setIfInBounds_toArray, List.set_cons_zero, List.set_cons_succ]
      have x_ : Ext W0 (W0.alloc (.cells #[.string p, .int .i64 f] 113)) := Ext.alloc W0 _
      have a6 := At.new W0 #[.string p, .int .i64 f] 113
      have S5 := S0.trans x_
      clear x_
      generalize W0.alloc (.cells #[.string p, .int .i64 f] 113) = W4 at *
      generalize W0.heap.size = g6 at *
      refine ⟨S5, ?_⟩
      refine nextS 0 rfl (by kernel_rfl) rfl (makeR (some 23) rfl (.slice (some ⟨W4.heap.size, 0, none⟩) 0 0) (w1 := W4.alloc (.cells #[] 113)) (by go_simp) ?_)
      simp only [Act.put, List.setIfInBounds_toArray, List.set_cons_zero, List.set_cons_succ]
      have x_ : Ext W4 (W4.alloc (.cells #[] 113)) := Ext.alloc W4 _
      replace a6 := a6.ext x_
      have z0 : Row (W4.alloc (.cells #[] 113)) 113 2 (.slice (some ⟨W4.heap.size, 0, none⟩) 0 0) 0 [] := empty_row W4 113 2
      have S26 := S5.trans x_
      clear x_
      generalize W4.alloc (.cells #[] 113) = W25 at *
      generalize W4.heap.size = g27 at *
      refine ⟨S26, ?_⟩
      refine nextS 4 rfl (by kernel_rfl) rfl (appR (some 27) rfl (.tmp 23) (.tmp 26) 89 89 rfl _ _ rfl rfl _ _ (app_nil _ Tryd.underlying89 info113 z0) ?_)
      simp only [Act.put, List.setIfInBounds_toArray, List.set_cons_zero, List.set_cons_succ]
      refine ⟨S26, ?_⟩
      obtain ⟨v_, W28, h32, r7, x33⟩ := app_one 89 Tryd.underlying89 info113 rfl (by omega) W25 g27 g6 1 [.string p, .int .i64 f] rfl (by simp [Value.oneCell']) a6
      obtain ⟨ad30, cp31, ev_, -⟩ := r7.shape
      subst ev_
      refine nextS 7 rfl (by kernel_rfl) rfl (appR (some 30) rfl (.tmp 27) (.tmp 29) 89 89 rfl _ _ rfl rfl _ _ h32 ?_)
      simp only [Act.put, List.setIfInBounds_toArray, List.set_cons_zero, List.set_cons_succ]
      replace a6 := a6.ext x33
      replace z0 := z0.ext x33
      have S29 := S26.trans x33
      clear h32 x33
      refine ⟨S29, ?_⟩
      refine nextS 11 rfl (by kernel_rfl) rfl (appR (some 34) rfl (.tmp 30) (.tmp 33) 89 89 rfl _ _ rfl rfl _ _ (app_nil _ Tryd.underlying89 info113 r7) ?_)
      simp only [Act.put, List.setIfInBounds_toArray, List.set_cons_zero, List.set_cons_succ]
      refine ⟨S29, ?_⟩
      refine takeS 12 (some 4) (.slice ad30 1 cp31) rfl rfl (by kernel_rfl) (by kernel_rfl) (by kernel_rfl) (fun _ _ _ h => h) rfl S29 (fun w' hw' => by go_simp) ?_
      simp only [Act.put, List.setIfInBounds_toArray, List.set_cons_zero, List.set_cons_succ]
      refine wpAnyH_done (by kernel_rfl) ?_ _
      go_wp2
      go_ret
      exact ⟨⟨_, _, _, rfl⟩, e1.trans S29⟩
end Go.Proofs.YtbneedmfpldpfaaDoor

namespace Go.Proofs.YtbneedmfpldpfaaDoor
open Go.RowKit Go.Pth
set_option linter.unusedSimpArgs false
set_option linter.unusedVariables false

theorem nextR3 {P : Program} {md : Region.Mode} {ops : Array Oper} {Q : Exit → Act → World → Prop} {S : World → Prop} (i j k : Nat) {oi oj ok : Oper} {fuel : Nat} {listed : Array Bool} {a : Act} {w : World} (hi : ops[i]? = some oi) (hj : ops[j]? = some oj) (hk : ops[k]? = some ok)
    (hr : Region.ready md ops listed = [i, j, k]) (hwi : Region.wanted oi (yielded ops a.tmps) = true) (hwj : Region.wanted oj (yielded ops a.tmps) = true) (hwk : Region.wanted ok (yielded ops a.tmps) = true)
    (h1 : oi.wp P a w (fun a' w' => S w' ∧ wpAnyH P md ops Q S fuel (listed.setIfInBounds i true) a' w') Q)
    (h2 : oj.wp P a w (fun a' w' => S w' ∧ wpAnyH P md ops Q S fuel (listed.setIfInBounds j true) a' w') Q)
    (h3 : ok.wp P a w (fun a' w' => S w' ∧ wpAnyH P md ops Q S fuel (listed.setIfInBounds k true) a' w') Q) : wpAnyH P md ops Q S (fuel + 1) listed a w := by
  refine wpAnyH_all hr (by simp) fun q hq => ?_
  have hq : q = i ∨ q = j ∨ q = k := by simpa using hq
  rcases hq with rfl | rfl | rfl
  · refine wpOp_step hi fun K hK => ?_
    rw [if_pos hwi]
    exact Oper.wp_mono (fun a' w' h' => hK a' w' h') h1
  · refine wpOp_step hj fun K hK => ?_
    rw [if_pos hwj]
    exact Oper.wp_mono (fun a' w' h' => hK a' w' h') h2
  · refine wpOp_step hk fun K hK => ?_
    rw [if_pos hwk]
    exact Oper.wp_mono (fun a' w' h' => hK a' w' h') h3
theorem storeR {P : Program} {op : Oper} {a : Act} {w w1 : World} {K : Act → World → Prop} {Q : Exit → Act → World → Prop}
    (hx : (execOp a.eval op).run P w = .ok .skip w1) (h : K (a.put op.dst undef) w1) : op.wp P a w K Q := by
  unfold Oper.wp
  rw [hx]
  exact h

set_option maxRecDepth 100000 in
set_option maxHeartbeats 4000000 in
theorem rapply_make (p b : ByteArray) (f : Int) (w : World) : Calls Tryd.prog 66 #[.slice none 0 0, .agg #[.int .i64 1, .string p, .string b, .int .i64 f]] w fun e w' => (∃ ad n cap, e = .returned (.slice ad n cap)) ∧ Ext w w' := by
  have e0 : Ext w (w.alloc (.cells #[.int .i64 1, .string p, .string b, .int .i64 f] 100)) := Ext.alloc w _
  have a0 := At.new w #[.int .i64 1, .string p, .string b, .int .i64 f] 100
  have c0 := a0.cell 0
  have c1 := a0.cell 1
  have c2 := a0.cell 2
  have c3 := a0.cell 3
  go_enter Tryd.func66, Tryd.ntmps66
  go_wp2_with fail
  refine (rwith_nil p f _).mono ?_
  rintro e w1 ⟨⟨ad, n, cap, rfl⟩, e1⟩
  go_wp2
  go_ret
  exact ⟨⟨_, _, _, rfl⟩, e0.trans e1⟩

set_option maxRecDepth 100000 in
set_option maxHeartbeats 8000000 in
theorem rnames_make (g : Nat) (c : Int) (fs : Value) (ops : Int) (p b : ByteArray) (f : Int) (w : World) (h : At w g (rcells c fs (.slice none 0 0) (.slice none 0 0) ops) 92) (hf : fs.oneCell' = true) :
    Calls Tryd.prog 50 #[ptr g, .agg #[.int .i64 1, .string p, .string b, .int .i64 f]] w fun e w' => e = .returned (.tuple #[]) ∧ Chg (fun i => i = g) w w' := by
  have e0 : Ext w (w.alloc (.cells #[.int .i64 1, .string p, .string b, .int .i64 f] 100)) := Ext.alloc w _
  have a3 := At.new w #[.int .i64 1, .string p, .string b, .int .i64 f] 100
  have ag := h.ext e0
  have hgw : g < w.heap.size := h.lt
  unfold ptr
  go_enter Tryd.func50, Tryd.ntmps50
  go_upto_region 1 with (fail)
  rename_i K0 hK0
  generalize w.alloc (.cells #[.int .i64 1, .string p, .string b, .int .i64 f] 100) = wq at *
  obtain ⟨b3, hb3⟩ : ∃ b3, b3 = w.heap.size := ⟨_, rfl⟩
  rw [← hb3] at a3 ⊢
  have hne : ¬ b3 = g := by omega
  clear hb3
  have HA := Lib.hid (fun (w' : World) (hw' : Chg (fun i => i = g) wq w') => hw'.at a3 hne)
  have key : ∀ (v5 v12 v13 va : Value) (W : World), va.oneCell' = true → Chg (fun i => i = g) wq W → At W g #[.int .i64 1, .int .u64 c, fs, .slice none 0 0, .slice none 0 0, va, .int .i64 (-1), .bool false, .int .i64 ops] 92 → K0 ⟨#[.pointer (some ⟨g, 0, none⟩), .agg #[.int .i64 1, .string p, .string b, .int .i64 f], undef, .pointer (some ⟨b3, 0, none⟩), .pointer (some ⟨g, 0, none⟩), v5, .pointer (some ⟨g, 0, none⟩), .pointer (some ⟨g, 0, none⟩), .pointer (some ⟨g, 5, none⟩), .slice none 0 0, v5, .agg #[.int .i64 1, .string p, .string b, .int .i64 f], v12, v13, .pointer (some ⟨g, 0, none⟩), .pointer (some ⟨g, 5, none⟩), undef, undef, undef, undef, undef, undef, undef, undef, undef], []⟩ W := by
    intro v5 v12 v13 va W hva SW aW
    refine hK0 _ _ ?_
    have aB := HA.out W SW
    clear HA hK0 ag
    go_upto_region 2 with (fail)
    have HA := Lib.hid (fun (w' : World) (hw' : Chg (fun i => i = g) W w') => hw'.at aB hne)
    refine wp_region_held (S := Chg (fun i => i = g) W) (by kernel_rfl) ?_
    change wpAnyH _ _ _ _ _ _ _ _ W.drew
    have S0 : Chg (fun i => i = g) W W.drew := Chg.of_ext (Ext.drew W)
    have ag := aW.ext (Ext.drew W)
    clear aW aB
    generalize W.drew = W0 at *
    refine takeS 0 (some 16) (.pointer (some ⟨g, 0, none⟩)) rfl rfl (by kernel_rfl) (by kernel_rfl) (by kernel_rfl) (fun _ _ _ h => h) rfl S0 (fun w' hw' => by go_simp) ?_
    simp only [Act.put, List.setIfInBounds_toArray, List.set_cons_zero, List.set_cons_succ]
    refine takeS 1 (some 17) (.pointer (some ⟨g, 0, none⟩)) rfl rfl (by kernel_rfl) (by kernel_rfl) (by kernel_rfl) (fun _ _ _ h => h) rfl S0 (fun w' hw' => by go_simp) ?_
    simp only [Act.put, List.setIfInBounds_toArray, List.set_cons_zero, List.set_cons_succ]
    refine takeS 2 (some 18) (.pointer (some ⟨g, 0, none⟩)) rfl rfl (by kernel_rfl) (by kernel_rfl) (by kernel_rfl) (fun _ _ _ h => h) rfl S0 (fun w' hw' => by go_simp) ?_
    simp only [Act.put, List.setIfInBounds_toArray, List.set_cons_zero, List.set_cons_succ]
    refine takeS 3 (some 19) (.pointer (some ⟨g, 3, none⟩)) rfl rfl (by kernel_rfl) (by kernel_rfl) (by kernel_rfl) (fun _ _ _ h => h) rfl S0 (fun w' hw' => by go_simp) ?_
    simp only [Act.put, List.setIfInBounds_toArray, List.set_cons_zero, List.set_cons_succ]
    refine takeS 5 (some 21) (.agg #[.int .i64 1, .string p, .string b, .int .i64 f]) rfl rfl (by kernel_rfl) (by kernel_rfl) (by kernel_rfl) (fun _ _ _ h => h) rfl S0 (fun w' hw' => by have c0 := (HA.out w' hw').cell 0; have c1 := (HA.out w' hw').cell 1; have c2 := (HA.out w' hw').cell 2; have c3 := (HA.out w' hw').cell 3; go_simp) ?_
    simp only [Act.put, List.setIfInBounds_toArray, List.set_cons_zero, List.set_cons_succ]
    refine nextS 4 rfl (by kernel_rfl) rfl (makeR (some 20) rfl (.slice none 0 0) (w1 := W0) (by have c3 := ag.cell 3; go_simp) ?_)
    simp only [Act.put, List.setIfInBounds_toArray, List.set_cons_zero, List.set_cons_succ]
    refine ⟨S0, ?_⟩
    refine nextS 6 rfl (by kernel_rfl) rfl (callS (some 22) rfl 66 #[.slice none 0 0, .agg #[.int .i64 1, .string p, .string b, .int .i64 f]] (by go_simp) (fun v w' => (∃ ad n cap, v = .slice ad n cap) ∧ Ext W0 w') ((rapply_make p b f W0).mono fun e w' he => by obtain ⟨⟨ad, n, cap, h1⟩, h2⟩ := he; exact ⟨_, h1, ⟨_, _, _, rfl⟩, h2⟩) ?_)
    rintro v_ W501 ⟨⟨ad, n, cap, rfl⟩, x_⟩
    simp only [Act.put, List.setIfInBounds_toArray, List.set_cons_zero, List.set_cons_succ]
    replace ag := ag.ext x_
    have S502 := S0.trans (Chg.of_ext (X := fun i => i = g) x_) (fun _ _ h => h)
    clear x_
    refine ⟨S502, ?_⟩
    refine takeS 7 (some 23) (.pointer (some ⟨g, 0, none⟩)) rfl rfl (by kernel_rfl) (by kernel_rfl) (by kernel_rfl) (fun _ _ _ h => h) rfl S502 (fun w' hw' => by go_simp) ?_
    simp only [Act.put, List.setIfInBounds_toArray, List.set_cons_zero, List.set_cons_succ]
    refine takeS 8 (some 24) (.pointer (some ⟨g, 3, none⟩)) rfl rfl (by kernel_rfl) (by kernel_rfl) (by kernel_rfl) (fun _ _ _ h => h) rfl S502 (fun w' hw' => by go_simp) ?_
    simp only [Act.put, List.setIfInBounds_toArray, List.set_cons_zero, List.set_cons_succ]
    have cc_ := ag.cell 3
    have zz_ := ag.frozen 3
    refine nextS 9 rfl (by kernel_rfl) rfl (storeR (w1 := W501.setCell ⟨g, 3, none⟩ (.slice ad n cap)) (by go_simp) ?_)
    simp only [Act.put]
    have S504 := S502.trans (Chg.setCell W501 g 3 (.slice ad n cap)) (fun _ _ h => h)
    have ag2 := ag.set 3 (.slice ad n cap)
    clear cc_ zz_
    generalize W501.setCell ⟨g, 3, none⟩ (.slice ad n cap) = W503 at *
    refine ⟨S504, ?_⟩
    refine wpAnyH_done (by kernel_rfl) ?_ _
    go_wp2
    go_end0
    exact ⟨rfl, ((Chg.of_ext (X := fun i => i = g) e0).trans SW (fun _ _ h => h)).trans S504 (fun _ _ h => h)⟩
  refine wp_region_held (S := Chg (fun i => i = g) wq) (by kernel_rfl) ?_
  change wpAnyH _ _ _ _ _ _ _ _ wq.drew
  have S0 : Chg (fun i => i = g) wq wq.drew := Chg.of_ext (Ext.drew wq)
  replace ag := ag.ext (Ext.drew wq)
  unfold rcells at ag
  clear a3 h
  generalize wq.drew = W0 at *
  refine takeS 0 (some 4) (.pointer (some ⟨g, 0, none⟩)) rfl rfl (by kernel_rfl) (by kernel_rfl) (by kernel_rfl) (fun _ _ _ h => h) rfl S0 (fun w' hw' => by go_simp) ?_
  simp only [Act.put, List.setIfInBounds_toArray, List.set_cons_zero, List.set_cons_succ]
  refine takeS 2 (some 6) (.pointer (some ⟨g, 0, none⟩)) rfl rfl (by kernel_rfl) (by kernel_rfl) (by kernel_rfl) (fun _ _ _ h => h) rfl S0 (fun w' hw' => by go_simp) ?_
  simp only [Act.put, List.setIfInBounds_toArray, List.set_cons_zero, List.set_cons_succ]
  refine takeS 3 (some 7) (.pointer (some ⟨g, 0, none⟩)) rfl rfl (by kernel_rfl) (by kernel_rfl) (by kernel_rfl) (fun _ _ _ h => h) rfl S0 (fun w' hw' => by go_simp) ?_
  simp only [Act.put, List.setIfInBounds_toArray, List.set_cons_zero, List.set_cons_succ]
  refine takeS 4 (some 8) (.pointer (some ⟨g, 5, none⟩)) rfl rfl (by kernel_rfl) (by kernel_rfl) (by kernel_rfl) (fun _ _ _ h => h) rfl S0 (fun w' hw' => by go_simp) ?_
  simp only [Act.put, List.setIfInBounds_toArray, List.set_cons_zero, List.set_cons_succ]
  refine takeS 7 (some 11) (.agg #[.int .i64 1, .string p, .string b, .int .i64 f]) rfl rfl (by kernel_rfl) (by kernel_rfl) (by kernel_rfl) (fun _ _ _ h => h) rfl S0 (fun w' hw' => by have c0 := (HA.out w' hw').cell 0; have c1 := (HA.out w' hw').cell 1; have c2 := (HA.out w' hw').cell 2; have c3 := (HA.out w' hw').cell 3; go_simp) ?_
  simp only [Act.put, List.setIfInBounds_toArray, List.set_cons_zero, List.set_cons_succ]
  refine nextR3 1 5 8 rfl rfl rfl (by kernel_rfl) rfl rfl rfl (makeR (some 5) rfl (.slice (some ⟨W0.heap.size, 0, none⟩) 0 0) (w1 := W0.alloc (.cells #[] 100)) (by go_simp) ?_) (makeR (some 9) rfl (.slice none 0 0) (w1 := W0) (by have c5 := ag.cell 5; go_simp) ?_) (makeR (some 12) rfl (.slice (some ⟨W0.heap.size, 0, none⟩) 1 1) (w1 := W0.alloc (.cells #[.int .i64 1, .string p, .string b, .int .i64 f] 100)) (by go_simp) ?_)
  · skip
    simp only [Act.put, List.setIfInBounds_toArray, List.set_cons_zero, List.set_cons_succ]
    have x_ : Ext W0 (W0.alloc (.cells #[] 100)) := Ext.alloc W0 _
    replace ag := ag.ext x_
    have z0 : Row (W0.alloc (.cells #[] 100)) 100 4 (.slice (some ⟨W0.heap.size, 0, none⟩) 0 0) 0 [] := empty_row W0 100 4
    have S2 := S0.trans (Chg.of_ext (X := fun i => i = g) x_) (fun _ _ h => h)
    clear x_
    generalize W0.alloc (.cells #[] 100) = W1 at *
    generalize W0.heap.size = g3 at *
    refine ⟨S2, ?_⟩
    refine nextR2 5 8 rfl rfl (by kernel_rfl) rfl rfl (makeR (some 9) rfl (.slice none 0 0) (w1 := W1) (by have c5 := ag.cell 5; go_simp) ?_) (makeR (some 12) rfl (.slice (some ⟨W1.heap.size, 0, none⟩) 1 1) (w1 := W1.alloc (.cells #[.int .i64 1, .string p, .string b, .int .i64 f] 100)) (by go_simp) ?_)
    · skip
      simp only [Act.put, List.setIfInBounds_toArray, List.set_cons_zero, List.set_cons_succ]
      refine ⟨S2, ?_⟩
      refine nextR2 6 8 rfl rfl (by kernel_rfl) rfl rfl (appR (some 10) rfl (.tmp 5) (.tmp 9) 90 90 rfl _ _ rfl rfl _ _ (app_nil _ Tryd.underlying90 info100 z0) ?_) (makeR (some 12) rfl (.slice (some ⟨W1.heap.size, 0, none⟩) 1 1) (w1 := W1.alloc (.cells #[.int .i64 1, .string p, .string b, .int .i64 f] 100)) (by go_simp) ?_)
      · skip
        simp only [Act.put, List.setIfInBounds_toArray, List.set_cons_zero, List.set_cons_succ]
        refine ⟨S2, ?_⟩
        refine nextS 8 rfl (by kernel_rfl) rfl (makeR (some 12) rfl (.slice (some ⟨W1.heap.size, 0, none⟩) 1 1) (w1 := W1.alloc (.cells #[.int .i64 1, .string p, .string b, .int .i64 f] 100)) (by go_simp) ?_)
        simp only [Act.put, List.setIfInBounds_toArray, List.set_cons_zero, List.set_cons_succ]
        have x_ : Ext W1 (W1.alloc (.cells #[.int .i64 1, .string p, .string b, .int .i64 f] 100)) := Ext.alloc W1 _
        replace ag := ag.ext x_
        replace z0 := z0.ext x_
        have a8 := At.new W1 #[.int .i64 1, .string p, .string b, .int .i64 f] 100
        have S14 := S2.trans (Chg.of_ext (X := fun i => i = g) x_) (fun _ _ h => h)
        clear x_
        generalize W1.alloc (.cells #[.int .i64 1, .string p, .string b, .int .i64 f] 100) = W13 at *
        generalize W1.heap.size = g15 at *
        refine ⟨S14, ?_⟩
        obtain ⟨v_, W16, h20, r9, x21⟩ := app_one 90 Tryd.underlying90 info100 rfl (by omega) W13 g3 g15 1 [.int .i64 1, .string p, .string b, .int .i64 f] rfl (by simp [Value.oneCell']) a8
        obtain ⟨ad18, cp19, ev_, -⟩ := r9.shape
        subst ev_
        refine nextS 9 rfl (by kernel_rfl) rfl (appR (some 13) rfl (.tmp 10) (.tmp 12) 90 90 rfl _ _ rfl rfl _ _ h20 ?_)
        simp only [Act.put, List.setIfInBounds_toArray, List.set_cons_zero, List.set_cons_succ]
        replace ag := ag.ext x21
        replace z0 := z0.ext x21
        replace a8 := a8.ext x21
        have S17 := S14.trans (Chg.of_ext (X := fun i => i = g) x21) (fun _ _ h => h)
        clear h20 x21
        refine ⟨S17, ?_⟩
        refine takeS 10 (some 14) (.pointer (some ⟨g, 0, none⟩)) rfl rfl (by kernel_rfl) (by kernel_rfl) (by kernel_rfl) (fun _ _ _ h => h) rfl S17 (fun w' hw' => by go_simp) ?_
        simp only [Act.put, List.setIfInBounds_toArray, List.set_cons_zero, List.set_cons_succ]
        refine takeS 11 (some 15) (.pointer (some ⟨g, 5, none⟩)) rfl rfl (by kernel_rfl) (by kernel_rfl) (by kernel_rfl) (fun _ _ _ h => h) rfl S17 (fun w' hw' => by go_simp) ?_
        simp only [Act.put, List.setIfInBounds_toArray, List.set_cons_zero, List.set_cons_succ]
        have cc_ := ag.cell 5
        have zz_ := ag.frozen 5
        refine nextS 12 rfl (by kernel_rfl) rfl (storeR (w1 := W16.setCell ⟨g, 5, none⟩ (.slice ad18 1 cp19)) (by go_simp) ?_)
        simp only [Act.put]
        have S23 := S17.trans (Chg.setCell W16 g 5 (.slice ad18 1 cp19)) (fun _ _ h => h)
        have ag2 := ag.set 5 (.slice ad18 1 cp19)
        clear cc_ zz_
        generalize W16.setCell ⟨g, 5, none⟩ (.slice ad18 1 cp19) = W22 at *
        refine ⟨S23, ?_⟩
        refine wpAnyH_done (by kernel_rfl) ?_ _
        exact key _ _ _ _ _ (by simp [Value.oneCell']) S23 ag2
      · skip
        simp only [Act.put, List.setIfInBounds_toArray, List.set_cons_zero, List.set_cons_succ]
        have x_ : Ext W1 (W1.alloc (.cells #[.int .i64 1, .string p, .string b, .int .i64 f] 100)) := Ext.alloc W1 _
        replace ag := ag.ext x_
        replace z0 := z0.ext x_
        have a8 := At.new W1 #[.int .i64 1, .string p, .string b, .int .i64 f] 100
        have S11 := S2.trans (Chg.of_ext (X := fun i => i = g) x_) (fun _ _ h => h)
        clear x_
        generalize W1.alloc (.cells #[.int .i64 1, .string p, .string b, .int .i64 f] 100) = W10 at *
        generalize W1.heap.size = g12 at *
        refine ⟨S11, ?_⟩
        refine nextS 6 rfl (by kernel_rfl) rfl (appR (some 10) rfl (.tmp 5) (.tmp 9) 90 90 rfl _ _ rfl rfl _ _ (app_nil _ Tryd.underlying90 info100 z0) ?_)
        simp only [Act.put, List.setIfInBounds_toArray, List.set_cons_zero, List.set_cons_succ]
        refine ⟨S11, ?_⟩
        obtain ⟨v_, W24, h28, r9, x29⟩ := app_one 90 Tryd.underlying90 info100 rfl (by omega) W10 g3 g12 1 [.int .i64 1, .string p, .string b, .int .i64 f] rfl (by simp [Value.oneCell']) a8
        obtain ⟨ad26, cp27, ev_, -⟩ := r9.shape
        subst ev_
        refine nextS 9 rfl (by kernel_rfl) rfl (appR (some 13) rfl (.tmp 10) (.tmp 12) 90 90 rfl _ _ rfl rfl _ _ h28 ?_)
        simp only [Act.put, List.setIfInBounds_toArray, List.set_cons_zero, List.set_cons_succ]
        replace ag := ag.ext x29
        replace z0 := z0.ext x29
        replace a8 := a8.ext x29
        have S25 := S11.trans (Chg.of_ext (X := fun i => i = g) x29) (fun _ _ h => h)
        clear h28 x29
        refine ⟨S25, ?_⟩
        refine takeS 10 (some 14) (.pointer (some ⟨g, 0, none⟩)) rfl rfl (by kernel_rfl) (by kernel_rfl) (by kernel_rfl) (fun _ _ _ h => h) rfl S25 (fun w' hw' => by go_simp) ?_
        simp only [Act.put, List.setIfInBounds_toArray, List.set_cons_zero, List.set_cons_succ]
        refine takeS 11 (some 15) (.pointer (some ⟨g, 5, none⟩)) rfl rfl (by kernel_rfl) (by kernel_rfl) (by kernel_rfl) (fun _ _ _ h => h) rfl S25 (fun w' hw' => by go_simp) ?_
        simp only [Act.put, List.setIfInBounds_toArray, List.set_cons_zero, List.set_cons_succ]
        have cc_ := ag.cell 5
        have zz_ := ag.frozen 5
        refine nextS 12 rfl (by kernel_rfl) rfl (storeR (w1 := W24.setCell ⟨g, 5, none⟩ (.slice ad26 1 cp27)) (by go_simp) ?_)
        simp only [Act.put]
        have S31 := S25.trans (Chg.setCell W24 g 5 (.slice ad26 1 cp27)) (fun _ _ h => h)
        have ag2 := ag.set 5 (.slice ad26 1 cp27)
        clear cc_ zz_
        generalize W24.setCell ⟨g, 5, none⟩ (.slice ad26 1 cp27) = W30 at *
        refine ⟨S31, ?_⟩
        refine wpAnyH_done (by kernel_rfl) ?_ _
        exact key _ _ _ _ _ (by simp [Value.oneCell']) S31 ag2
    · skip
      simp only [Act.put, List.setIfInBounds_toArray, List.set_cons_zero, List.set_cons_succ]
      have x_ : Ext W1 (W1.alloc (.cells #[.int .i64 1, .string p, .string b, .int .i64 f] 100)) := Ext.alloc W1 _
      replace ag := ag.ext x_
      replace z0 := z0.ext x_
      have a8 := At.new W1 #[.int .i64 1, .string p, .string b, .int .i64 f] 100
      have S8 := S2.trans (Chg.of_ext (X := fun i => i = g) x_) (fun _ _ h => h)
      clear x_
      generalize W1.alloc (.cells #[.int .i64 1, .string p, .string b, .int .i64 f] 100) = W7 at *
      generalize W1.heap.size = g9 at *
      refine ⟨S8, ?_⟩
      refine nextS 5 rfl (by kernel_rfl) rfl (makeR (some 9) rfl (.slice none 0 0) (w1 := W7) (by have c5 := ag.cell 5; go_simp) ?_)
      simp only [Act.put, List.setIfInBounds_toArray, List.set_cons_zero, List.set_cons_succ]
      refine ⟨S8, ?_⟩
      refine nextS 6 rfl (by kernel_rfl) rfl (appR (some 10) rfl (.tmp 5) (.tmp 9) 90 90 rfl _ _ rfl rfl _ _ (app_nil _ Tryd.underlying90 info100 z0) ?_)
      simp only [Act.put, List.setIfInBounds_toArray, List.set_cons_zero, List.set_cons_succ]
      refine ⟨S8, ?_⟩
      obtain ⟨v_, W32, h36, r9, x37⟩ := app_one 90 Tryd.underlying90 info100 rfl (by omega) W7 g3 g9 1 [.int .i64 1, .string p, .string b, .int .i64 f] rfl (by simp [Value.oneCell']) a8
      obtain ⟨ad34, cp35, ev_, -⟩ := r9.shape
      subst ev_
      refine nextS 9 rfl (by kernel_rfl) rfl (appR (some 13) rfl (.tmp 10) (.tmp 12) 90 90 rfl _ _ rfl rfl _ _ h36 ?_)
      simp only [Act.put, List.setIfInBounds_toArray, List.set_cons_zero, List.set_cons_succ]
      replace ag := ag.ext x37
      replace z0 := z0.ext x37
      replace a8 := a8.ext x37
      have S33 := S8.trans (Chg.of_ext (X := fun i => i = g) x37) (fun _ _ h => h)
      clear h36 x37
      refine ⟨S33, ?_⟩
      refine takeS 10 (some 14) (.pointer (some ⟨g, 0, none⟩)) rfl rfl (by kernel_rfl) (by kernel_rfl) (by kernel_rfl) (fun _ _ _ h => h) rfl S33 (fun w' hw' => by go_simp) ?_
      simp only [Act.put, List.setIfInBounds_toArray, List.set_cons_zero, List.set_cons_succ]
      refine takeS 11 (some 15) (.pointer (some ⟨g, 5, none⟩)) rfl rfl (by kernel_rfl) (by kernel_rfl) (by kernel_rfl) (fun _ _ _ h => h) rfl S33 (fun w' hw' => by go_simp) ?_
      simp only [Act.put, List.setIfInBounds_toArray, List.set_cons_zero, List.set_cons_succ]
      have cc_ := ag.cell 5
      have zz_ := ag.frozen 5
      refine nextS 12 rfl (by kernel_rfl) rfl (storeR (w1 := W32.setCell ⟨g, 5, none⟩ (.slice ad34 1 cp35)) (by go_simp) ?_)
      simp only [Act.put]
      have S39 := S33.trans (Chg.setCell W32 g 5 (.slice ad34 1 cp35)) (fun _ _ h => h)
      have ag2 := ag.set 5 (.slice ad34 1 cp35)
      clear cc_ zz_
      generalize W32.setCell ⟨g, 5, none⟩ (.slice ad34 1 cp35) = W38 at *
      refine ⟨S39, ?_⟩
      refine wpAnyH_done (by kernel_rfl) ?_ _
      exact key _ _ _ _ _ (by simp [Value.oneCell']) S39 ag2
  · skip
    simp only [Act.put, List.setIfInBounds_toArray, List.set_cons_zero, List.set_cons_succ]
    refine ⟨S0, ?_⟩
    refine nextR2 1 8 rfl rfl (by kernel_rfl) rfl rfl (makeR (some 5) rfl (.slice (some ⟨W0.heap.size, 0, none⟩) 0 0) (w1 := W0.alloc (.cells #[] 100)) (by go_simp) ?_) (makeR (some 12) rfl (.slice (some ⟨W0.heap.size, 0, none⟩) 1 1) (w1 := W0.alloc (.cells #[.int .i64 1, .string p, .string b, .int .i64 f] 100)) (by go_simp) ?_)
    · skip
      simp only [Act.put, List.setIfInBounds_toArray, List.set_cons_zero, List.set_cons_succ]
      have x_ : Ext W0 (W0.alloc (.cells #[] 100)) := Ext.alloc W0 _
      replace ag := ag.ext x_
      have z0 : Row (W0.alloc (.cells #[] 100)) 100 4 (.slice (some ⟨W0.heap.size, 0, none⟩) 0 0) 0 [] := empty_row W0 100 4
      have S41 := S0.trans (Chg.of_ext (X := fun i => i = g) x_) (fun _ _ h => h)
      clear x_
      generalize W0.alloc (.cells #[] 100) = W40 at *
      generalize W0.heap.size = g42 at *
      refine ⟨S41, ?_⟩
      refine nextR2 6 8 rfl rfl (by kernel_rfl) rfl rfl (appR (some 10) rfl (.tmp 5) (.tmp 9) 90 90 rfl _ _ rfl rfl _ _ (app_nil _ Tryd.underlying90 info100 z0) ?_) (makeR (some 12) rfl (.slice (some ⟨W40.heap.size, 0, none⟩) 1 1) (w1 := W40.alloc (.cells #[.int .i64 1, .string p, .string b, .int .i64 f] 100)) (by go_simp) ?_)
      · skip
        simp only [Act.put, List.setIfInBounds_toArray, List.set_cons_zero, List.set_cons_succ]
        refine ⟨S41, ?_⟩
        refine nextS 8 rfl (by kernel_rfl) rfl (makeR (some 12) rfl (.slice (some ⟨W40.heap.size, 0, none⟩) 1 1) (w1 := W40.alloc (.cells #[.int .i64 1, .string p, .string b, .int .i64 f] 100)) (by go_simp) ?_)
        simp only [Act.put, List.setIfInBounds_toArray, List.set_cons_zero, List.set_cons_succ]
        have x_ : Ext W40 (W40.alloc (.cells #[.int .i64 1, .string p, .string b, .int .i64 f] 100)) := Ext.alloc W40 _
        replace ag := ag.ext x_
        replace z0 := z0.ext x_
        have a8 := At.new W40 #[.int .i64 1, .string p, .string b, .int .i64 f] 100
        have S50 := S41.trans (Chg.of_ext (X := fun i => i = g) x_) (fun _ _ h => h)
        clear x_
        generalize W40.alloc (.cells #[.int .i64 1, .string p, .string b, .int .i64 f] 100) = W49 at *
        generalize W40.heap.size = g51 at *
        refine ⟨S50, ?_⟩
        obtain ⟨v_, W52, h56, r9, x57⟩ := app_one 90 Tryd.underlying90 info100 rfl (by omega) W49 g42 g51 1 [.int .i64 1, .string p, .string b, .int .i64 f] rfl (by simp [Value.oneCell']) a8
        obtain ⟨ad54, cp55, ev_, -⟩ := r9.shape
        subst ev_
        refine nextS 9 rfl (by kernel_rfl) rfl (appR (some 13) rfl (.tmp 10) (.tmp 12) 90 90 rfl _ _ rfl rfl _ _ h56 ?_)
        simp only [Act.put, List.setIfInBounds_toArray, List.set_cons_zero, List.set_cons_succ]
        replace ag := ag.ext x57
        replace z0 := z0.ext x57
        replace a8 := a8.ext x57
        have S53 := S50.trans (Chg.of_ext (X := fun i => i = g) x57) (fun _ _ h => h)
        clear h56 x57
        refine ⟨S53, ?_⟩
        refine takeS 10 (some 14) (.pointer (some ⟨g, 0, none⟩)) rfl rfl (by kernel_rfl) (by kernel_rfl) (by kernel_rfl) (fun _ _ _ h => h) rfl S53 (fun w' hw' => by go_simp) ?_
        simp only [Act.put, List.setIfInBounds_toArray, List.set_cons_zero, List.set_cons_succ]
        refine takeS 11 (some 15) (.pointer (some ⟨g, 5, none⟩)) rfl rfl (by kernel_rfl) (by kernel_rfl) (by kernel_rfl) (fun _ _ _ h => h) rfl S53 (fun w' hw' => by go_simp) ?_
        simp only [Act.put, List.setIfInBounds_toArray, List.set_cons_zero, List.set_cons_succ]
        have cc_ := ag.cell 5
        have zz_ := ag.frozen 5
        refine nextS 12 rfl (by kernel_rfl) rfl (storeR (w1 := W52.setCell ⟨g, 5, none⟩ (.slice ad54 1 cp55)) (by go_simp) ?_)
        simp only [Act.put]
        have S59 := S53.trans (Chg.setCell W52 g 5 (.slice ad54 1 cp55)) (fun _ _ h => h)
        have ag2 := ag.set 5 (.slice ad54 1 cp55)
        clear cc_ zz_
        generalize W52.setCell ⟨g, 5, none⟩ (.slice ad54 1 cp55) = W58 at *
        refine ⟨S59, ?_⟩
        refine wpAnyH_done (by kernel_rfl) ?_ _
        exact key _ _ _ _ _ (by simp [Value.oneCell']) S59 ag2
      · skip
        simp only [Act.put, List.setIfInBounds_toArray, List.set_cons_zero, List.set_cons_succ]
        have x_ : Ext W40 (W40.alloc (.cells #[.int .i64 1, .string p, .string b, .int .i64 f] 100)) := Ext.alloc W40 _
        replace ag := ag.ext x_
        replace z0 := z0.ext x_
        have a8 := At.new W40 #[.int .i64 1, .string p, .string b, .int .i64 f] 100
        have S47 := S41.trans (Chg.of_ext (X := fun i => i = g) x_) (fun _ _ h => h)
        clear x_
        generalize W40.alloc (.cells #[.int .i64 1, .string p, .string b, .int .i64 f] 100) = W46 at *
        generalize W40.heap.size = g48 at *
        refine ⟨S47, ?_⟩
        refine nextS 6 rfl (by kernel_rfl) rfl (appR (some 10) rfl (.tmp 5) (.tmp 9) 90 90 rfl _ _ rfl rfl _ _ (app_nil _ Tryd.underlying90 info100 z0) ?_)
        simp only [Act.put, List.setIfInBounds_toArray, List.set_cons_zero, List.set_cons_succ]
        refine ⟨S47, ?_⟩
        obtain ⟨v_, W60, h64, r9, x65⟩ := app_one 90 Tryd.underlying90 info100 rfl (by omega) W46 g42 g48 1 [.int .i64 1, .string p, .string b, .int .i64 f] rfl (by simp [Value.oneCell']) a8
        obtain ⟨ad62, cp63, ev_, -⟩ := r9.shape
        subst ev_
        refine nextS 9 rfl (by kernel_rfl) rfl (appR (some 13) rfl (.tmp 10) (.tmp 12) 90 90 rfl _ _ rfl rfl _ _ h64 ?_)
        simp only [Act.put, List.setIfInBounds_toArray, List.set_cons_zero, List.set_cons_succ]
        replace ag := ag.ext x65
        replace z0 := z0.ext x65
        replace a8 := a8.ext x65
        have S61 := S47.trans (Chg.of_ext (X := fun i => i = g) x65) (fun _ _ h => h)
        clear h64 x65
        refine ⟨S61, ?_⟩
        refine takeS 10 (some 14) (.pointer (some ⟨g, 0, none⟩)) rfl rfl (by kernel_rfl) (by kernel_rfl) (by kernel_rfl) (fun _ _ _ h => h) rfl S61 (fun w' hw' => by go_simp) ?_
        simp only [Act.put, List.setIfInBounds_toArray, List.set_cons_zero, List.set_cons_succ]
        refine takeS 11 (some 15) (.pointer (some ⟨g, 5, none⟩)) rfl rfl (by kernel_rfl) (by kernel_rfl) (by kernel_rfl) (fun _ _ _ h => h) rfl S61 (fun w' hw' => by go_simp) ?_
        simp only [Act.put, List.setIfInBounds_toArray, List.set_cons_zero, List.set_cons_succ]
        have cc_ := ag.cell 5
        have zz_ := ag.frozen 5
        refine nextS 12 rfl (by kernel_rfl) rfl (storeR (w1 := W60.setCell ⟨g, 5, none⟩ (.slice ad62 1 cp63)) (by go_simp) ?_)
        simp only [Act.put]
        have S67 := S61.trans (Chg.setCell W60 g 5 (.slice ad62 1 cp63)) (fun _ _ h => h)
        have ag2 := ag.set 5 (.slice ad62 1 cp63)
        clear cc_ zz_
        generalize W60.setCell ⟨g, 5, none⟩ (.slice ad62 1 cp63) = W66 at *
        refine ⟨S67, ?_⟩
        refine wpAnyH_done (by kernel_rfl) ?_ _
        exact key _ _ _ _ _ (by simp [Value.oneCell']) S67 ag2
    · skip
      simp only [Act.put, List.setIfInBounds_toArray, List.set_cons_zero, List.set_cons_succ]
      have x_ : Ext W0 (W0.alloc (.cells #[.int .i64 1, .string p, .string b, .int .i64 f] 100)) := Ext.alloc W0 _
      replace ag := ag.ext x_
      have a8 := At.new W0 #[.int .i64 1, .string p, .string b, .int .i64 f] 100
      have S44 := S0.trans (Chg.of_ext (X := fun i => i = g) x_) (fun _ _ h => h)
      clear x_
      generalize W0.alloc (.cells #[.int .i64 1, .string p, .string b, .int .i64 f] 100) = W43 at *
      generalize W0.heap.size = g45 at *
      refine ⟨S44, ?_⟩
      refine nextS 1 rfl (by kernel_rfl) rfl (makeR (some 5) rfl (.slice (some ⟨W43.heap.size, 0, none⟩) 0 0) (w1 := W43.alloc (.cells #[] 100)) (by go_simp) ?_)
      simp only [Act.put, List.setIfInBounds_toArray, List.set_cons_zero, List.set_cons_succ]
      have x_ : Ext W43 (W43.alloc (.cells #[] 100)) := Ext.alloc W43 _
      replace ag := ag.ext x_
      replace a8 := a8.ext x_
      have z0 : Row (W43.alloc (.cells #[] 100)) 100 4 (.slice (some ⟨W43.heap.size, 0, none⟩) 0 0) 0 [] := empty_row W43 100 4
      have S69 := S44.trans (Chg.of_ext (X := fun i => i = g) x_) (fun _ _ h => h)
      clear x_
      generalize W43.alloc (.cells #[] 100) = W68 at *
      generalize W43.heap.size = g70 at *
      refine ⟨S69, ?_⟩
      refine nextS 6 rfl (by kernel_rfl) rfl (appR (some 10) rfl (.tmp 5) (.tmp 9) 90 90 rfl _ _ rfl rfl _ _ (app_nil _ Tryd.underlying90 info100 z0) ?_)
      simp only [Act.put, List.setIfInBounds_toArray, List.set_cons_zero, List.set_cons_succ]
      refine ⟨S69, ?_⟩
      obtain ⟨v_, W71, h75, r9, x76⟩ := app_one 90 Tryd.underlying90 info100 rfl (by omega) W68 g70 g45 1 [.int .i64 1, .string p, .string b, .int .i64 f] rfl (by simp [Value.oneCell']) a8
      obtain ⟨ad73, cp74, ev_, -⟩ := r9.shape
      subst ev_
      refine nextS 9 rfl (by kernel_rfl) rfl (appR (some 13) rfl (.tmp 10) (.tmp 12) 90 90 rfl _ _ rfl rfl _ _ h75 ?_)
      simp only [Act.put, List.setIfInBounds_toArray, List.set_cons_zero, List.set_cons_succ]
      replace ag := ag.ext x76
      replace a8 := a8.ext x76
      replace z0 := z0.ext x76
      have S72 := S69.trans (Chg.of_ext (X := fun i => i = g) x76) (fun _ _ h => h)
      clear h75 x76
      refine ⟨S72, ?_⟩
      refine takeS 10 (some 14) (.pointer (some ⟨g, 0, none⟩)) rfl rfl (by kernel_rfl) (by kernel_rfl) (by kernel_rfl) (fun _ _ _ h => h) rfl S72 (fun w' hw' => by go_simp) ?_
      simp only [Act.put, List.setIfInBounds_toArray, List.set_cons_zero, List.set_cons_succ]
      refine takeS 11 (some 15) (.pointer (some ⟨g, 5, none⟩)) rfl rfl (by kernel_rfl) (by kernel_rfl) (by kernel_rfl) (fun _ _ _ h => h) rfl S72 (fun w' hw' => by go_simp) ?_
      simp only [Act.put, List.setIfInBounds_toArray, List.set_cons_zero, List.set_cons_succ]
      have cc_ := ag.cell 5
      have zz_ := ag.frozen 5
      refine nextS 12 rfl (by kernel_rfl) rfl (storeR (w1 := W71.setCell ⟨g, 5, none⟩ (.slice ad73 1 cp74)) (by go_simp) ?_)
      simp only [Act.put]
      have S78 := S72.trans (Chg.setCell W71 g 5 (.slice ad73 1 cp74)) (fun _ _ h => h)
      have ag2 := ag.set 5 (.slice ad73 1 cp74)
      clear cc_ zz_
      generalize W71.setCell ⟨g, 5, none⟩ (.slice ad73 1 cp74) = W77 at *
      refine ⟨S78, ?_⟩
      refine wpAnyH_done (by kernel_rfl) ?_ _
      exact key _ _ _ _ _ (by simp [Value.oneCell']) S78 ag2
  · skip
    simp only [Act.put, List.setIfInBounds_toArray, List.set_cons_zero, List.set_cons_succ]
    have x_ : Ext W0 (W0.alloc (.cells #[.int .i64 1, .string p, .string b, .int .i64 f] 100)) := Ext.alloc W0 _
    replace ag := ag.ext x_
    have a8 := At.new W0 #[.int .i64 1, .string p, .string b, .int .i64 f] 100
    have S5 := S0.trans (Chg.of_ext (X := fun i => i = g) x_) (fun _ _ h => h)
    clear x_
    generalize W0.alloc (.cells #[.int .i64 1, .string p, .string b, .int .i64 f] 100) = W4 at *
    generalize W0.heap.size = g6 at *
    refine ⟨S5, ?_⟩
    refine nextR2 1 5 rfl rfl (by kernel_rfl) rfl rfl (makeR (some 5) rfl (.slice (some ⟨W4.heap.size, 0, none⟩) 0 0) (w1 := W4.alloc (.cells #[] 100)) (by go_simp) ?_) (makeR (some 9) rfl (.slice none 0 0) (w1 := W4) (by have c5 := ag.cell 5; go_simp) ?_)
    · skip
      simp only [Act.put, List.setIfInBounds_toArray, List.set_cons_zero, List.set_cons_succ]
      have x_ : Ext W4 (W4.alloc (.cells #[] 100)) := Ext.alloc W4 _
      replace ag := ag.ext x_
      replace a8 := a8.ext x_
      have z0 : Row (W4.alloc (.cells #[] 100)) 100 4 (.slice (some ⟨W4.heap.size, 0, none⟩) 0 0) 0 [] := empty_row W4 100 4
      have S80 := S5.trans (Chg.of_ext (X := fun i => i = g) x_) (fun _ _ h => h)
      clear x_
      generalize W4.alloc (.cells #[] 100) = W79 at *
      generalize W4.heap.size = g81 at *
      refine ⟨S80, ?_⟩
      refine nextS 5 rfl (by kernel_rfl) rfl (makeR (some 9) rfl (.slice none 0 0) (w1 := W79) (by have c5 := ag.cell 5; go_simp) ?_)
      simp only [Act.put, List.setIfInBounds_toArray, List.set_cons_zero, List.set_cons_succ]
      refine ⟨S80, ?_⟩
      refine nextS 6 rfl (by kernel_rfl) rfl (appR (some 10) rfl (.tmp 5) (.tmp 9) 90 90 rfl _ _ rfl rfl _ _ (app_nil _ Tryd.underlying90 info100 z0) ?_)
      simp only [Act.put, List.setIfInBounds_toArray, List.set_cons_zero, List.set_cons_succ]
      refine ⟨S80, ?_⟩
      obtain ⟨v_, W82, h86, r9, x87⟩ := app_one 90 Tryd.underlying90 info100 rfl (by omega) W79 g81 g6 1 [.int .i64 1, .string p, .string b, .int .i64 f] rfl (by simp [Value.oneCell']) a8
      obtain ⟨ad84, cp85, ev_, -⟩ := r9.shape
      subst ev_
      refine nextS 9 rfl (by kernel_rfl) rfl (appR (some 13) rfl (.tmp 10) (.tmp 12) 90 90 rfl _ _ rfl rfl _ _ h86 ?_)
      simp only [Act.put, List.setIfInBounds_toArray, List.set_cons_zero, List.set_cons_succ]
      replace ag := ag.ext x87
      replace a8 := a8.ext x87
      replace z0 := z0.ext x87
      have S83 := S80.trans (Chg.of_ext (X := fun i => i = g) x87) (fun _ _ h => h)
      clear h86 x87
      refine ⟨S83, ?_⟩
      refine takeS 10 (some 14) (.pointer (some ⟨g, 0, none⟩)) rfl rfl (by kernel_rfl) (by kernel_rfl) (by kernel_rfl) (fun _ _ _ h => h) rfl S83 (fun w' hw' => by go_simp) ?_
      simp only [Act.put, List.setIfInBounds_toArray, List.set_cons_zero, List.set_cons_succ]
      refine takeS 11 (some 15) (.pointer (some ⟨g, 5, none⟩)) rfl rfl (by kernel_rfl) (by kernel_rfl) (by kernel_rfl) (fun _ _ _ h => h) rfl S83 (fun w' hw' => by go_simp) ?_
      simp only [Act.put, List.setIfInBounds_toArray, List.set_cons_zero, List.set_cons_succ]
      have cc_ := ag.cell 5
      have zz_ := ag.frozen 5
      refine nextS 12 rfl (by kernel_rfl) rfl (storeR (w1 := W82.setCell ⟨g, 5, none⟩ (.slice ad84 1 cp85)) (by go_simp) ?_)
      simp only [Act.put]
      have S89 := S83.trans (Chg.setCell W82 g 5 (.slice ad84 1 cp85)) (fun _ _ h => h)
      have ag2 := ag.set 5 (.slice ad84 1 cp85)
      clear cc_ zz_
      generalize W82.setCell ⟨g, 5, none⟩ (.slice ad84 1 cp85) = W88 at *
      refine ⟨S89, ?_⟩
      refine wpAnyH_done (by kernel_rfl) ?_ _
      exact key _ _ _ _ _ (by simp [Value.oneCell']) S89 ag2
    · skip
      simp only [Act.put, List.setIfInBounds_toArray, List.set_cons_zero, List.set_cons_succ]
      refine ⟨S5, ?_⟩
      refine nextS 1 rfl (by kernel_rfl) rfl (makeR (some 5) rfl (.slice (some ⟨W4.heap.size, 0, none⟩) 0 0) (w1 := W4.alloc (.cells #[] 100)) (by go_simp) ?_)
      simp only [Act.put, List.setIfInBounds_toArray, List.set_cons_zero, List.set_cons_succ]
      have x_ : Ext W4 (W4.alloc (.cells #[] 100)) := Ext.alloc W4 _
      replace ag := ag.ext x_
      replace a8 := a8.ext x_
      have z0 : Row (W4.alloc (.cells #[] 100)) 100 4 (.slice (some ⟨W4.heap.size, 0, none⟩) 0 0) 0 [] := empty_row W4 100 4
      have S91 := S5.trans (Chg.of_ext (X := fun i => i = g) x_) (fun _ _ h => h)
      clear x_
      generalize W4.alloc (.cells #[] 100) = W90 at *
      generalize W4.heap.size = g92 at *
      refine ⟨S91, ?_⟩
      refine nextS 6 rfl (by kernel_rfl) rfl (appR (some 10) rfl (.tmp 5) (.tmp 9) 90 90 rfl _ _ rfl rfl _ _ (app_nil _ Tryd.underlying90 info100 z0) ?_)
      simp only [Act.put, List.setIfInBounds_toArray, List.set_cons_zero, List.set_cons_succ]
      refine ⟨S91, ?_⟩
      obtain ⟨v_, W93, h97, r9, x98⟩ := app_one 90 Tryd.underlying90 info100 rfl (by omega) W90 g92 g6 1 [.int .i64 1, .string p, .string b, .int .i64 f] rfl (by simp [Value.oneCell']) a8
      obtain ⟨ad95, cp96, ev_, -⟩ := r9.shape
      subst ev_
      refine nextS 9 rfl (by kernel_rfl) rfl (appR (some 13) rfl (.tmp 10) (.tmp 12) 90 90 rfl _ _ rfl rfl _ _ h97 ?_)
      simp only [Act.put, List.setIfInBounds_toArray, List.set_cons_zero, List.set_cons_succ]
      replace ag := ag.ext x98
      replace a8 := a8.ext x98
      replace z0 := z0.ext x98
      have S94 := S91.trans (Chg.of_ext (X := fun i => i = g) x98) (fun _ _ h => h)
      clear h97 x98
      refine ⟨S94, ?_⟩
      refine takeS 10 (some 14) (.pointer (some ⟨g, 0, none⟩)) rfl rfl (by kernel_rfl) (by kernel_rfl) (by kernel_rfl) (fun _ _ _ h => h) rfl S94 (fun w' hw' => by go_simp) ?_
      simp only [Act.put, List.setIfInBounds_toArray, List.set_cons_zero, List.set_cons_succ]
      refine takeS 11 (some 15) (.pointer (some ⟨g, 5, none⟩)) rfl rfl (by kernel_rfl) (by kernel_rfl) (by kernel_rfl) (fun _ _ _ h => h) rfl S94 (fun w' hw' => by go_simp) ?_
      simp only [Act.put, List.setIfInBounds_toArray, List.set_cons_zero, List.set_cons_succ]
      have cc_ := ag.cell 5
      have zz_ := ag.frozen 5
      refine nextS 12 rfl (by kernel_rfl) rfl (storeR (w1 := W93.setCell ⟨g, 5, none⟩ (.slice ad95 1 cp96)) (by go_simp) ?_)
      simp only [Act.put]
      have S100 := S94.trans (Chg.setCell W93 g 5 (.slice ad95 1 cp96)) (fun _ _ h => h)
      have ag2 := ag.set 5 (.slice ad95 1 cp96)
      clear cc_ zz_
      generalize W93.setCell ⟨g, 5, none⟩ (.slice ad95 1 cp96) = W99 at *
      refine ⟨S100, ?_⟩
      refine wpAnyH_done (by kernel_rfl) ?_ _
      exact key _ _ _ _ _ (by simp [Value.oneCell']) S100 ag2
end Go.Proofs.YtbneedmfpldpfaaDoor

namespace Go.Proofs.YtbneedmfpldpfaaDoor
open Go.RowKit Go.Pth
set_option linter.unusedSimpArgs false
set_option linter.unusedVariables false

set_option maxRecDepth 100000 in
set_option maxHeartbeats 8000000 in
theorem rmake_one (g : Nat) (p : ByteArray) (k : Int) (hv : valid p.toList = true) (hp : parent p.toList = []) (w : World) (h : At w g (rcells 0 (.slice none 0 0) (.slice none 0 0) (.slice none 0 0) 0) 92) :
    Calls Tryd.prog 22 #[ptr g, .string p, .int .i64 k] w fun e w' => (∃ n : Int, e = .returned (.int .i64 n)) ∧ Chg (fun i => i = g) w w' := by
  have e0 : Ext w (w.alloc (.cells #[.string p] 9)) := Ext.alloc w _
  have ag := h.ext e0
  have hgw : g < w.heap.size := h.lt
  have A1 := ract_one g 0 (.slice none 0 0) (.slice none 0 0) (.slice none 0 0) 0 p hv _ ag ⟨by omega, by omega⟩ w.heap.size (by rw [(At.new w #[.string p] 9).cell]; rfl) (by omega)
  have S0 : Chg (fun i => i = g) w (w.alloc (.cells #[.string p] 9)) := Chg.of_ext e0
  have S1 := S0.trans (Chg.setCell (w.alloc (.cells #[.string p] 9)) g 8 (.int .i64 ((0 : Int) + 1))) (fun _ _ h => h)
  have ag1 := ag.set 8 (.int .i64 ((0 : Int) + 1))
  unfold ptr at A1 ⊢
  clear ag h e0 S0 hgw
  go_enter Tryd.func22, Tryd.ntmps22
  go_wp2_with fail
  refine A1.mono ?_
  rintro e w1 ⟨rfl, e1⟩
  clear A1
  replace S1 := S1.trans (Chg.of_ext (X := fun i => i = g) e1) (fun _ _ h => h)
  replace ag1 := ag1.ext e1
  clear e1
  have c3 := ag1.cell 3
  unfold rcells at c3
  go_wp2_with fail
  refine (rfind_nil p w1).mono ?_
  rintro e w' ⟨rfl, rfl⟩
  clear c3
  go_wp2_with fail
  have A2 := rabove_one g p hp w1
  unfold ptr at A2
  refine A2.mono ?_
  rintro e w2 ⟨rfl, e1⟩
  clear A2
  replace S1 := S1.trans (Chg.of_ext (X := fun i => i = g) e1) (fun _ _ h => h)
  replace ag1 := ag1.ext e1
  clear e1
  have e1 := Ext.alloc w2 (.cells #[] 97)
  have z0 := empty_row w2 97 6
  have ag2 := ag1.ext e1
  have c2 := ag2.cell 2
  unfold rcells at c2
  go_wp2_with (refine wpList_append_run _ rfl (.tmp 29) (.tmp 33) 88 88 rfl _ _ rfl rfl _ _ (app_nil _ Tryd.underlying88 info97 z0) ?_)
  clear c2
  replace S1 := S1.trans (Chg.of_ext (X := fun i => i = g) e1) (fun _ _ h => h)
  clear e1 z0 ag1
  generalize w2.alloc (.cells #[] 97) = w3 at *
  generalize w2.heap.size = g0 at *
  have ag3 : At w3 g (rcells 0 (.slice none 0 0) (.slice none 0 0) (.slice none 0 0) 1) 92 := ag2
  clear ag2
  have A3 := rstamp_any g 0 (.slice none 0 0) (.slice none 0 0) (.slice none 0 0) 1 w3 ag3 ⟨by omega, by omega⟩
  unfold ptr at A3
  refine A3.mono ?_
  rintro e w4 ⟨rfl, hw⟩
  have ag4 : At w4 g (rcells 1 (.slice none 0 0) (.slice none 0 0) (.slice none 0 0) 1) 92 := by
    rw [hw]
    exact ag3.set 1 _
  replace S1 : Chg (fun i => i = g) w w4 := by
    rw [hw]
    exact S1.trans (Chg.setCell _ _ _ _) (fun _ _ h => h)
  clear A3 ag3 hw
  have hov : ¬ (281474976710656 < Builtin.nextslicecap 1 0 * Tryd.t97.bytes) := of_decide_eq_true (by kernel_rfl)
  have c2 : ∀ o, ((w4.alloc (.cells #[.int .i64 k, .int .i64 0, .int .u64 1, .slice none 0 0, .slice none 0 0, .slice none 0 0] 97)).alloc o).cell? ⟨g, 2, none⟩ = some (.slice none 0 0) := fun o => by
    rw [((ag4.ext (Ext.alloc w4 (.cells #[.int .i64 k, .int .i64 0, .int .u64 1, .slice none 0 0, .slice none 0 0, .slice none 0 0] 97))).ext (Ext.alloc _ o)).cell 2]; rfl
  have z2 : ∀ o, ((w4.alloc (.cells #[.int .i64 k, .int .i64 0, .int .u64 1, .slice none 0 0, .slice none 0 0, .slice none 0 0] 97)).alloc o).frozen? ⟨g, 2, none⟩ = false := fun o => ((ag4.ext (Ext.alloc w4 (.cells #[.int .i64 k, .int .i64 0, .int .u64 1, .slice none 0 0, .slice none 0 0, .slice none 0 0] 97))).ext (Ext.alloc _ o)).frozen 2
  have c2' : ∀ o v, (((w4.alloc (.cells #[.int .i64 k, .int .i64 0, .int .u64 1, .slice none 0 0, .slice none 0 0, .slice none 0 0] 97)).alloc o).setCell ⟨g, 2, none⟩ v).drew.cell? ⟨g, 2, none⟩ = some v := fun o v => by
    have := (((ag4.ext (Ext.alloc w4 (.cells #[.int .i64 k, .int .i64 0, .int .u64 1, .slice none 0 0, .slice none 0 0, .slice none 0 0] 97))).ext (Ext.alloc _ o)).set 2 v).cell 2
    exact this
  have HAG := Lib.hid ag4
  have HS := Lib.hid S1
  clear ag4 S1
  go_wp2_with fail
  refine (rnames_make g 1 _ 1 p ⟨#[]⟩ 0 _ ((((HAG.out.ext (Ext.alloc w4 (.cells #[.int .i64 k, .int .i64 0, .int .u64 1, .slice none 0 0, .slice none 0 0, .slice none 0 0] 97))).ext (Ext.alloc _ _)).set 2 _).ext (Ext.drew _)) rfl).mono ?_
  rintro e w9 ⟨rfl, s9⟩
  go_wp2
  go_ret
  refine ⟨⟨_, rfl⟩, ?_⟩
  exact (((((HS.out.trans (Chg.of_ext (X := fun i => i = g) (Ext.alloc w4 (.cells #[.int .i64 k, .int .i64 0, .int .u64 1, .slice none 0 0, .slice none 0 0, .slice none 0 0] 97))) (fun _ _ h => h)).trans (Chg.of_ext (X := fun i => i = g) (Ext.alloc _ _)) (fun _ _ h => h)).trans (Chg.setCell _ g 2 _) (fun _ _ h => h)).trans (Chg.of_ext (X := fun i => i = g) (Ext.drew _)) (fun _ _ h => h)).trans s9 (fun _ _ h => h))
end Go.Proofs.YtbneedmfpldpfaaDoor
