/- Contracts of the document's own store: SetMeta, whatever it holds. Contracts of the document's own store: Sync, Rot, whatever it holds. -/
import Derived.Test.YtbneedmfpldpfaaGreatDoorBjM
import Derived.Test.YtbneedmfpldpfaaGreatDoorSjM
set_option linter.unusedSimpArgs false
set_option linter.unusedVariables false
namespace Go.Proofs.YtbneedmfpldpfaaGreatDoor
open Go.RowKit Go.Pth

theorem at_there {w : World} {b : Nat} {c : Array Value} {t : TypeId} (h : At w b c t) (o n : Nat) (hn : o + n ≤ c.size) : w.there b o n := fun i hi =>
  ⟨by rw [h.cell, Array.getElem?_eq_getElem (by omega)]; rfl, h.frozen _⟩
/-- What stands at a name. -/
theorem RRep.fileat {w : World} {g : Nat} {R : RV} {F : Nat → Prop} {k : Nat} (h : RRep w g R F k) {ad : Option Addr} {cap : Nat} (hnw : R.nw = .slice ad R.names.length cap) {j : Nat} (hj : j < R.names.length) :
    ∃ (b o fb fo q fcap : Nat) (kd mt st : Int) (db : Option Addr) (cb : Nat) (ds : Option Addr) (cs : Nat) (dd : Option Addr) (cd n m : Nat), ad = some ⟨b, o, none⟩ ∧ R.fs = .slice (some ⟨fb, fo, none⟩) R.files.length fcap ∧ q < R.files.length ∧ RFIn w F ⟨kd, mt, st, .slice db n cb, .slice ds n cs, .slice dd m cd, n, m⟩ ∧ ¬ b = g ∧
      ∀ w', Ext w w' → w'.cell? ⟨g, 2, none⟩ = some (.slice (some ⟨fb, fo, none⟩) R.files.length fcap) ∧ w'.cell? ⟨g, 3, none⟩ = some (.slice (some ⟨b, o, none⟩) R.names.length cap) ∧ w'.cell? ⟨b, o + j * 2 + 1, none⟩ = some (.int .i64 q) ∧
        w'.cell? ⟨fb, fo + q * 6, none⟩ = some (.int .i64 kd) ∧ w'.cell? ⟨fb, fo + q * 6 + 1, none⟩ = some (.int .i64 mt) ∧ w'.cell? ⟨fb, fo + q * 6 + 2, none⟩ = some (.int .u64 st) ∧ w'.cell? ⟨fb, fo + q * 6 + 3, none⟩ = some (.slice db n cb) ∧ w'.cell? ⟨fb, fo + q * 6 + 4, none⟩ = some (.slice ds n cs) ∧ w'.cell? ⟨fb, fo + q * 6 + 5, none⟩ = some (.slice dd m cd) := by
  obtain ⟨ad', cap', b, o, hn⟩ := RNs.of_row h.nr
  obtain ⟨fd, fcap, fb, fo, hf⟩ := RFs.of_row h.fr
  have hv := hn.val
  rw [hnw] at hv
  injection hv with e1 _ e3
  subst e1 e3
  have hq := h.rn _ (List.getElem_mem hj)
  have hX := h.ff _ (List.getElem_mem hq)
  have ha := hn.adr (by omega)
  have hfa := hf.adr (by omega)
  have hfv := hf.val
  subst ha hfa
  have hb : ¬ b = g := fun e => by
    have := hn.nm j hj
    rcases h.nr.2 with ⟨h1, h2⟩ | ⟨gg, cp, cur, h1, _⟩
    · omega
    · rw [hnw] at h1
      injection h1 with h1 _ _
      injection h1 with h1
      injection h1 with h1
      have h2 := h.gn gg (by rw [hnw, h1]; rfl)
      rw [← h1, e] at h2
      exact h.ng h2
  obtain ⟨l1, a1, r1⟩ := hX.b
  obtain ⟨l2, a2, r2⟩ := hX.s
  obtain ⟨l3, a3, r3⟩ := hX.d
  obtain ⟨db, cb, s1, -⟩ := r1.shape
  obtain ⟨ds, cs, s2, -⟩ := r2.shape
  obtain ⟨dd, cd, s3, -⟩ := r3.shape
  have hc := fun c (hc : c < 6) => hf.cl _ hq c hc
  generalize hXX : R.files[R.names[j].2] = X at *
  obtain ⟨kd, mt, st, vb, vs, vd, n, m⟩ := X
  simp only at s1 s2 s3
  subst s1 s2 s3
  refine ⟨b, o, fb, fo, R.names[j].2, fcap, kd, mt, st, db, cb, ds, cs, dd, cd, n, m, rfl, hfv, hq, hX, hb, fun w' e => ⟨?_, ?_, e.cell (hn.nf j hj), ?_, ?_, ?_, ?_, ?_, ?_⟩⟩
  · rw [← hfv]; exact e.cell (h.c 2)
  · rw [← hnw]; exact e.cell (h.c 3)
  · have := hc 0 (by omega); rw [Nat.add_zero] at this; exact e.cell this
  · exact e.cell (hc 1 (by omega))
  · exact e.cell (hc 2 (by omega))
  · exact e.cell (hc 3 (by omega))
  · exact e.cell (hc 4 (by omega))
  · exact e.cell (hc 5 (by omega))

set_option maxRecDepth 100000 in
set_option maxHeartbeats 8000000 in
theorem rsetmeta_all (g : Nat) (R : RV) (F : Nat → Prop) (k : Nat) (p : ByteArray) (mv : Int) (w : World) (h : RRep w g R F k) (hk : k ≤ 800) :
    Calls Tryz.prog 36 #[ptr g, .string p, .int .i64 mv] w fun e w' => (∃ n : Int, e = .returned (.int .i64 n)) ∧ RPost w g F (k + 10) w' := by
  have A1 := Lib.hid (ract_p g R F k p w h (by omega))
  have HO := Lib.hid (fun (w' : World) (n : Nat) (R' : RV) (hn : n ≤ 10) (r : RRep w' g R' F (k + n)) (c : Chg (fun i => i = g) w w') => RPost.of (r.up (k' := k + 10) (by omega)) c)
  clear h
  unfold ptr at *
  go_enter Tryz.func36, Tryz.ntmps36
  go_wp2_with fail
  refine (A1.out).mono ?_
  rintro e w1 ⟨n, rfl, hv, r1, c1⟩
  clear A1
  have HV := Lib.hid hv
  have HC := Lib.hid c1
  have HR := Lib.hid r1
  clear hv c1
  by_cases hn : n = 0
  rotate_left
  · have tb : (n != 0) = true := by simpa using hn
    have FN := Lib.hid (HO.out _ 1 _ (by omega) HR.out HC.out)
    clear r1 hn
    go_wp2
    go_ret
    exact ⟨⟨_, rfl⟩, FN.out⟩
  subst hn
  obtain ⟨ad, cap, hnw, c3, fi⟩ := r1.find (by omega) p
  have FI := Lib.hid fi
  have HNW := Lib.hid hnw
  clear fi hnw r1
  generalize ({ R with asked := R.asked + 1 } : RV) = R1 at *
  obtain ⟨nn, hnn⟩ : ∃ nn, nn = R1.names.length := ⟨_, rfl⟩
  rw [← hnn] at c3 FI HNW
  have HNN := Lib.hid hnn
  clear hnn
  go_wp2_with fail
  refine (FI.out).mono ?_
  rintro e w' ⟨r, rfl, rfl, hr⟩
  clear FI
  rcases hr with rfl | ⟨j, rfl, hj⟩
  · have FN := Lib.hid (HO.out _ 1 _ (by omega) HR.out HC.out)
    go_wp2
    go_ret
    exact ⟨⟨_, rfl⟩, FN.out⟩
  have j0 : ¬ ((j : Int) < 0) := by omega
  have i0 : (0 : Int) ≤ (j : Int) := by omega
  obtain ⟨b, o, fb, fo, q, fcap, kd, mt, st, db, cb, ds, cs, dd, cd, n, m, rfl, hfs, hq, hX, hnb, hcells⟩ := HR.out.fileat (by rw [HNW.out, HNN.out]) (show j < R1.names.length by rw [← HNN.out]; exact hj)
  rw [← HNN.out] at hcells
  have CELLS := Lib.hid hcells
  have HX := Lib.hid hX
  obtain ⟨mm, hmm⟩ : ∃ mm, mm = R1.files.length := ⟨_, rfl⟩
  rw [← hmm] at CELLS hq
  have HMM := Lib.hid hmm
  have HNB := Lib.hid hnb
  have i1 : (j : Int) < (nn : Int) := by omega
  have q0 : (0 : Int) ≤ (q : Int) := by omega
  have q1 : (q : Int) < (mm : Int) := by omega
  have HLIM := Lib.hid (show n ≤ 65536 ∧ m ≤ 5000 ∧ secs n ≤ m from ⟨hX.nl, hX.ml, hX.nm⟩)
  clear hcells hX hmm hfs hnb c3
  by_cases h1 : mv < 0
  · have FN := Lib.hid (HO.out _ 1 _ (by omega) HR.out HC.out)
    clear hj
    go_wp2
    go_ret
    exact ⟨⟨_, rfl⟩, FN.out⟩
  by_cases h2 : mv > 2147483647
  · have FN := Lib.hid (HO.out _ 1 _ (by omega) HR.out HC.out)
    have h3 : decide (mv < 0) = false := decide_eq_false h1
    clear hj h1
    go_wp2
    go_ret
    exact ⟨⟨_, rfl⟩, FN.out⟩
  have h3 : decide (mv < 0) = false := decide_eq_false h1
  have h4 : decide (mv > 2147483647) = false := decide_eq_false h2
  have h5 : decide (2147483647 < mv) = false := decide_eq_false h2
  clear h1 h2
  go_wp2_with fail
  refine wp_region_held (S := Ext w1.drew) (by kernel_rfl) ?_
  change wpAnyH _ _ _ _ _ _ _ _ w1.drew
  have S0 : Ext w1.drew w1.drew := Ext.refl _
  have CL := Lib.hid (fun (w' : World) (hw' : Ext w1.drew w') => CELLS.out w' ((Ext.drew w1).trans hw'))
  have D_ := Lib.hid (Ext.drew w1)
  generalize w1.drew = W0 at *
  refine takeS 0 (some 31) (.pointer (some ⟨g, 0, none⟩)) rfl rfl (by kernel_rfl) (by kernel_rfl) (by kernel_rfl) (fun _ _ _ h => h) rfl S0 (fun w' hw' => by go_simp) ?_
  simp only [Act.put, List.setIfInBounds_toArray, List.set_cons_zero, List.set_cons_succ]
  refine takeS 1 (some 32) (.pointer (some ⟨g, 0, none⟩)) rfl rfl (by kernel_rfl) (by kernel_rfl) (by kernel_rfl) (fun _ _ _ h => h) rfl S0 (fun w' hw' => by go_simp) ?_
  simp only [Act.put, List.setIfInBounds_toArray, List.set_cons_zero, List.set_cons_succ]
  refine takeS 2 (some 33) (.pointer (some ⟨g, 2, none⟩)) rfl rfl (by kernel_rfl) (by kernel_rfl) (by kernel_rfl) (fun _ _ _ h => h) rfl S0 (fun w' hw' => by go_simp) ?_
  simp only [Act.put, List.setIfInBounds_toArray, List.set_cons_zero, List.set_cons_succ]
  refine takeS 3 (some 34) (.slice (some ⟨fb, fo, none⟩) mm fcap) rfl rfl (by kernel_rfl) (by kernel_rfl) (by kernel_rfl) (fun _ _ _ h => h) rfl S0 (fun w' hw' => by obtain ⟨x2, x3, xf, y0, y1, y2, y3, y4, y5⟩ := CL.out w' hw'; go_simp) ?_
  simp only [Act.put, List.setIfInBounds_toArray, List.set_cons_zero, List.set_cons_succ]
  refine takeS 4 (some 35) (.pointer (some ⟨g, 0, none⟩)) rfl rfl (by kernel_rfl) (by kernel_rfl) (by kernel_rfl) (fun _ _ _ h => h) rfl S0 (fun w' hw' => by go_simp) ?_
  simp only [Act.put, List.setIfInBounds_toArray, List.set_cons_zero, List.set_cons_succ]
  refine takeS 5 (some 36) (.pointer (some ⟨g, 0, none⟩)) rfl rfl (by kernel_rfl) (by kernel_rfl) (by kernel_rfl) (fun _ _ _ h => h) rfl S0 (fun w' hw' => by go_simp) ?_
  simp only [Act.put, List.setIfInBounds_toArray, List.set_cons_zero, List.set_cons_succ]
  refine takeS 6 (some 37) (.pointer (some ⟨g, 3, none⟩)) rfl rfl (by kernel_rfl) (by kernel_rfl) (by kernel_rfl) (fun _ _ _ h => h) rfl S0 (fun w' hw' => by go_simp) ?_
  simp only [Act.put, List.setIfInBounds_toArray, List.set_cons_zero, List.set_cons_succ]
  refine takeS 7 (some 38) (.slice (some ⟨b, o, none⟩) nn cap) rfl rfl (by kernel_rfl) (by kernel_rfl) (by kernel_rfl) (fun _ _ _ h => h) rfl S0 (fun w' hw' => by obtain ⟨x2, x3, xf, y0, y1, y2, y3, y4, y5⟩ := CL.out w' hw'; go_simp) ?_
  simp only [Act.put, List.setIfInBounds_toArray, List.set_cons_zero, List.set_cons_succ]
  refine takeS 8 (some 39) (.int .i64 j) rfl rfl (by kernel_rfl) (by kernel_rfl) (by kernel_rfl) (fun _ _ _ h => h) rfl S0 (fun w' hw' => by go_simp) ?_
  simp only [Act.put, List.setIfInBounds_toArray, List.set_cons_zero, List.set_cons_succ]
  refine takeS 9 (some 40) (.pointer (some ⟨b, o + j * 2, none⟩)) rfl rfl (by kernel_rfl) (by kernel_rfl) (by kernel_rfl) (fun _ _ _ h => h) rfl S0 (fun w' hw' => by go_simp) ?_
  simp only [Act.put, List.setIfInBounds_toArray, List.set_cons_zero, List.set_cons_succ]
  refine takeS 10 (some 41) (.pointer (some ⟨b, o + j * 2 + 1, none⟩)) rfl rfl (by kernel_rfl) (by kernel_rfl) (by kernel_rfl) (fun _ _ _ h => h) rfl S0 (fun w' hw' => by go_simp) ?_
  simp only [Act.put, List.setIfInBounds_toArray, List.set_cons_zero, List.set_cons_succ]
  refine takeS 11 (some 42) (.int .i64 q) rfl rfl (by kernel_rfl) (by kernel_rfl) (by kernel_rfl) (fun _ _ _ h => h) rfl S0 (fun w' hw' => by obtain ⟨x2, x3, xf, y0, y1, y2, y3, y4, y5⟩ := CL.out w' hw'; go_simp) ?_
  simp only [Act.put, List.setIfInBounds_toArray, List.set_cons_zero, List.set_cons_succ]
  refine takeS 12 (some 43) (.pointer (some ⟨fb, fo + q * 6, none⟩)) rfl rfl (by kernel_rfl) (by kernel_rfl) (by kernel_rfl) (fun _ _ _ h => h) rfl S0 (fun w' hw' => by go_simp) ?_
  simp only [Act.put, List.setIfInBounds_toArray, List.set_cons_zero, List.set_cons_succ]
  refine takeS 13 (some 44) (.agg #[.int .i64 kd, .int .i64 mt, .int .u64 st, .slice db n cb, .slice ds n cs, .slice dd m cd]) rfl rfl (by kernel_rfl) (by kernel_rfl) (by kernel_rfl) (fun _ _ _ h => h) rfl S0 (fun w' hw' => by obtain ⟨x2, x3, xf, y0, y1, y2, y3, y4, y5⟩ := CL.out w' hw'; go_simp) ?_
  simp only [Act.put, List.setIfInBounds_toArray, List.set_cons_zero, List.set_cons_succ]
  refine nextS 14 rfl (by kernel_rfl) rfl (makeR (some 9) rfl (.pointer (some ⟨W0.heap.size, 0, none⟩)) (w1 := W0.alloc (.cells #[.int .i64 0, .int .i64 0, .int .u64 0, .slice none 0 0, .slice none 0 0, .slice none 0 0] 106)) (by go_simp) ?_)
  simp only [Act.put, List.setIfInBounds_toArray, List.set_cons_zero, List.set_cons_succ]
  have x_ : Ext W0 (W0.alloc (.cells #[.int .i64 0, .int .i64 0, .int .u64 0, .slice none 0 0, .slice none 0 0, .slice none 0 0] 106)) := Ext.alloc W0 _
  have aZ := At.new W0 #[.int .i64 0, .int .i64 0, .int .u64 0, .slice none 0 0, .slice none 0 0, .slice none 0 0] 106
  have hxb : Base W0 ≤ W0.heap.size := Nat.le_refl _
  generalize W0.alloc (.cells #[.int .i64 0, .int .i64 0, .int .u64 0, .slice none 0 0, .slice none 0 0, .slice none 0 0] 106) = W1 at *
  generalize W0.heap.size = xb at *
  refine ⟨x_, ?_⟩
  have aX : At (W1.setCells xb 0 (#[.int .i64 kd, .int .i64 mt, .int .u64 st, .slice db n cb, .slice ds n cs, .slice dd m cd] : Array Value).toList) xb #[.int .i64 kd, .int .i64 mt, .int .u64 st, .slice db n cb, .slice ds n cs, .slice dd m cd] 106 := At.sets (#[.int .i64 kd, .int .i64 mt, .int .u64 st, .slice db n cb, .slice ds n cs, .slice dd m cd] : Array Value).toList 0 W1 #[.int .i64 0, .int .i64 0, .int .u64 0, .slice none 0 0, .slice none 0 0, .slice none 0 0] aZ (Nat.le_refl 6)
  have eX : Ext W0 (W1.setCells xb 0 (#[.int .i64 kd, .int .i64 mt, .int .u64 st, .slice db n cb, .slice ds n cs, .slice dd m cd] : Array Value).toList) := ((Chg.of_ext (X := fun _ => False) x_).trans (Chg.sets xb (#[.int .i64 kd, .int .i64 mt, .int .u64 st, .slice db n cb, .slice ds n cs, .slice dd m cd] : Array Value).toList 0 W1) (fun i hi q_ => by unfold Base at hxb; omega)).ext
  refine nextS 15 rfl (by kernel_rfl) rfl (wp_store_mid 106 (.tmp 9) (.tmp 44) rfl xb 0 #[.int .i64 kd, .int .i64 mt, .int .u64 st, .slice db n cb, .slice ds n cs, .slice dd m cd] rfl rfl (at_there aZ 0 6 (by decide)) (by exact size106) (by simp [Value.oneCell']) ?_)
  simp only [Act.put]
  generalize W1.setCells xb 0 (#[.int .i64 kd, .int .i64 mt, .int .u64 st, .slice db n cb, .slice ds n cs, .slice dd m cd] : Array Value).toList = W2 at *
  refine ⟨eX, ?_⟩
  refine wpAnyH_done (by kernel_rfl) ?_ _
  have EX := Lib.hid (D_.out.trans eX)
  have HXB := Lib.hid (show w1.heap.size ≤ xb from Nat.le_trans D_.out.size hxb)
  have HGX := Lib.hid (show ¬ xb = g from by have := HR.out.cell.lt; have := HXB.out; omega)
  clear x_ aZ hxb eX CL S0 D_
  clear h3 h4 h5
  have aY := aX.set 1 (.int .i64 mv)
  have sY := Chg.setCell W2 xb 1 (.int .i64 mv)
  have EY := Lib.hid (show Ext w1 (W2.setCell ⟨xb, 1, none⟩ (.int .i64 mv)) from ((Chg.of_ext (X := fun _ => False) EX.out).trans sY (fun i hi q_ => by have := HXB.out; omega)).ext)
  have cX1 : W2.cell? ⟨xb, 1, none⟩ = some (.int .i64 mt) := aX.cell 1
  have zX1 := aX.frozen 1
  have ST := Lib.hid (rstamp_all g R1 F (k + 1) _ (HR.out.ext EY.out) (by omega))
  unfold ptr at ST
  have AY := Lib.hid aY
  clear aX aY sY
  go_wp2_with fail
  refine (ST.out).mono ?_
  rintro e w4 ⟨rfl, r4, c4⟩
  clear ST cX1 zX1
  have a4 := c4.at AY.out HGX.out
  have a5 := a4.set 2 (.int .u64 (R1.last + 1))
  have s5 := Chg.setCell w4 xb 2 (.int .u64 (R1.last + 1))
  have HR5 := Lib.hid (show RRep (w4.setCell ⟨xb, 2, none⟩ (.int .u64 (R1.last + 1))) g { R1 with last := R1.last + 1 } F (k + 1 + 1) from r4.keep (s5.block g r4.cell.lt (fun e => HGX.out e.symm)) (fun i hi => s5.block i (r4.lt i hi) (fun e => by have := HR.out.lt i hi; have := HXB.out; omega)) s5.size)
  have C15 : Chg (fun i => i = g) w1 (w4.setCell ⟨xb, 2, none⟩ (.int .u64 (R1.last + 1))) := ((Chg.of_ext (X := fun i => i = g) EY.out).trans c4 (fun _ _ h => h)).trans s5 (fun i hi e => by have := HXB.out; omega)
  have HC5 := Lib.hid (HC.out.trans C15 (fun _ _ h => h))
  have cX2 : w4.cell? ⟨xb, 2, none⟩ = some (.int .u64 st) := a4.cell 2
  have zX2 := a4.frozen 2
  have HA5 := Lib.hid (show At (w4.setCell ⟨xb, 2, none⟩ (.int .u64 (R1.last + 1))) xb #[.int .i64 kd, .int .i64 mv, .int .u64 (R1.last + 1), .slice db n cb, .slice ds n cs, .slice dd m cd] 106 from a5)
  have HC3 := Lib.hid (show (w4.setCell ⟨xb, 2, none⟩ (.int .u64 (R1.last + 1))).cell? ⟨g, 3, none⟩ = some (.slice (some ⟨b, o, none⟩) nn cap) from by rw [HR5.out.c 3]; show some R1.nw = _; rw [HNW.out])
  obtain ⟨X5, hX5⟩ : ∃ X5 : RF, X5 = ⟨kd, mv, R1.last + 1, .slice db n cb, .slice ds n cs, .slice dd m cd, n, m⟩ := ⟨_, rfl⟩
  have x1 := HX.out.keep (HR.out.apart C15)
  have HX5 : Hid (RFIn (w4.setCell ⟨xb, 2, none⟩ (.int .u64 (R1.last + 1))) F X5) := Lib.hid (by rw [hX5]; exact ⟨x1.b, x1.s, x1.d, x1.nm, x1.nl, x1.ml, x1.fb, x1.fs, x1.fd⟩)
  have HQ5 := Lib.hid (show q < ({ R1 with last := R1.last + 1 } : RV).files.length from by show q < R1.files.length; rw [← HMM.out]; exact hq)
  have CE5 := Lib.hid (fun w' (hc : Chg (fun i => i = g) (w4.setCell ⟨xb, 2, none⟩ (.int .u64 (R1.last + 1))) w') => hc.cell (C15.cell (CELLS.out w1 (Ext.refl _)).2.2.1 HNB.out) HNB.out)
  clear x1 C15 s5 a5 a4 r4 c4
  subst hX5
  go_wp2_with fail
  clear cX2 zX2
  obtain ⟨W5, hW5⟩ : ∃ W5, W5 = w4.setCell ⟨xb, 2, none⟩ (.int .u64 (R1.last + 1)) := ⟨_, rfl⟩
  rw [← hW5] at HR5 HC5 HA5 HC3 HX5 CE5 ⊢
  clear hW5
  refine wp_region_held (S := Chg (fun i => i = g) W5) (by kernel_rfl) ?_
  change wpAnyH _ _ _ _ _ _ _ _ W5.drew
  have S0 : Chg (fun i => i = g) W5 W5.drew := Chg.of_ext (Ext.drew W5)
  have A5 := Lib.hid (fun (w' : World) (hw' : Chg (fun i => i = g) W5 w') => hw'.at HA5.out HGX.out)
  have c3_ : W5.drew.cell? ⟨g, 3, none⟩ = some (.slice (some ⟨b, o, none⟩) nn cap) := HC3.out
  have STP := rset_any g { R1 with last := R1.last + 1 } F (k + 1 + 1) q _ W5.drew (HR5.out.ext (Ext.drew W5)) (by omega) (by first | exact HQ5.out | (rw [HQ5.out]; omega)) (HX5.out.keep fun i _ => rfl)
  unfold ptr at STP
  have STL := Lib.hid STP
  clear STP
  generalize W5.drew = W0 at *
  refine takeS 0 (some 50) (.pointer (some ⟨g, 0, none⟩)) rfl rfl (by kernel_rfl) (by kernel_rfl) (by kernel_rfl) (fun _ _ _ h => h) rfl S0 (fun w' hw' => by go_simp) ?_
  simp only [Act.put, List.setIfInBounds_toArray, List.set_cons_zero, List.set_cons_succ]
  refine takeS 1 (some 51) (.pointer (some ⟨g, 0, none⟩)) rfl rfl (by kernel_rfl) (by kernel_rfl) (by kernel_rfl) (fun _ _ _ h => h) rfl S0 (fun w' hw' => by go_simp) ?_
  simp only [Act.put, List.setIfInBounds_toArray, List.set_cons_zero, List.set_cons_succ]
  refine takeS 2 (some 52) (.pointer (some ⟨g, 0, none⟩)) rfl rfl (by kernel_rfl) (by kernel_rfl) (by kernel_rfl) (fun _ _ _ h => h) rfl S0 (fun w' hw' => by go_simp) ?_
  simp only [Act.put, List.setIfInBounds_toArray, List.set_cons_zero, List.set_cons_succ]
  refine takeS 3 (some 53) (.pointer (some ⟨g, 3, none⟩)) rfl rfl (by kernel_rfl) (by kernel_rfl) (by kernel_rfl) (fun _ _ _ h => h) rfl S0 (fun w' hw' => by go_simp) ?_
  simp only [Act.put, List.setIfInBounds_toArray, List.set_cons_zero, List.set_cons_succ]
  refine takeS 5 (some 55) (.int .i64 j) rfl rfl (by kernel_rfl) (by kernel_rfl) (by kernel_rfl) (fun _ _ _ h => h) rfl S0 (fun w' hw' => by go_simp) ?_
  simp only [Act.put, List.setIfInBounds_toArray, List.set_cons_zero, List.set_cons_succ]
  refine takeS 9 (some 59) (.agg #[.int .i64 kd, .int .i64 mv, .int .u64 (R1.last + 1), .slice db n cb, .slice ds n cs, .slice dd m cd]) rfl rfl (by kernel_rfl) (by kernel_rfl) (by kernel_rfl) (fun _ _ _ h => h) rfl S0 (fun w' hw' => by have c0 := (A5.out w' hw').cell 0; have c1 := (A5.out w' hw').cell 1; have c2 := (A5.out w' hw').cell 2; have c3 := (A5.out w' hw').cell 3; have c4 := (A5.out w' hw').cell 4; have c5 := (A5.out w' hw').cell 5; go_simp) ?_
  simp only [Act.put, List.setIfInBounds_toArray, List.set_cons_zero, List.set_cons_succ]
  refine nextS 4 rfl (by kernel_rfl) rfl (makeR (some 54) rfl (.slice (some ⟨b, o, none⟩) nn cap) (w1 := W0) (by go_simp) ?_)
  simp only [Act.put, List.setIfInBounds_toArray, List.set_cons_zero, List.set_cons_succ]
  refine ⟨S0, ?_⟩
  refine takeS 6 (some 56) (.pointer (some ⟨b, o + j * 2, none⟩)) rfl rfl (by kernel_rfl) (by kernel_rfl) (by kernel_rfl) (fun _ _ _ h => h) rfl S0 (fun w' hw' => by go_simp) ?_
  simp only [Act.put, List.setIfInBounds_toArray, List.set_cons_zero, List.set_cons_succ]
  refine takeS 7 (some 57) (.pointer (some ⟨b, o + j * 2 + 1, none⟩)) rfl rfl (by kernel_rfl) (by kernel_rfl) (by kernel_rfl) (fun _ _ _ h => h) rfl S0 (fun w' hw' => by go_simp) ?_
  simp only [Act.put, List.setIfInBounds_toArray, List.set_cons_zero, List.set_cons_succ]
  refine takeS 8 (some 58) (.int .i64 q) rfl rfl (by kernel_rfl) (by kernel_rfl) (by kernel_rfl) (fun _ _ _ h => h) rfl S0 (fun w' hw' => by have xf := CE5.out w' hw'; go_simp) ?_
  simp only [Act.put, List.setIfInBounds_toArray, List.set_cons_zero, List.set_cons_succ]
  refine nextS 10 rfl (by kernel_rfl) rfl ?_
  refine callS (some 60) rfl 69 #[.pointer (some ⟨g, 0, none⟩), .int .i64 q, .agg #[.int .i64 kd, .int .i64 mv, .int .u64 (R1.last + 1), .slice db n cb, .slice ds n cs, .slice dd m cd]] (by go_simp) (fun v w' => v = .tuple #[] ∧ RPost W0 g F (k + 1 + 1) w') ((STL.out).mono fun e w' he => ⟨_, he.1, rfl, he.2⟩) ?_
  rintro v8 w8 ⟨rfl, p8⟩
  have S8 : Chg (fun i => i = g) W0 w8 := by obtain ⟨_, _, _, c8, _⟩ := p8; exact c8
  refine ⟨S0.trans S8 (fun _ _ h => h), ?_⟩
  simp only [Act.put, List.setIfInBounds_toArray, List.set_cons_zero, List.set_cons_succ]
  refine wpAnyH_done (by kernel_rfl) ?_ _
  have FN := Lib.hid (show RPost w g F (k + 10) w8 from by
    obtain ⟨R8, F8, r8, c8, l8⟩ := RPost.trans (HC5.out.trans S0 (fun _ _ h => h)) p8
    exact ⟨R8, F8, r8.up (by omega), c8, l8⟩)
  clear p8 S8 S0 c3_
  go_wp2
  go_ret
  exact ⟨⟨_, rfl⟩, FN.out⟩
end Go.Proofs.YtbneedmfpldpfaaGreatDoor

set_option linter.unusedSimpArgs false
set_option linter.unusedVariables false
namespace Go.Proofs.YtbneedmfpldpfaaGreatDoor
open Go.RowKit Go.Pth

theorem RRep.grow {w : World} {g : Nat} {R : RV} {F G : Nat → Prop} {k : Nat} (h : RRep w g R F k) (hG : ∀ i, F i → G i) (hl : ∀ i, G i → i < w.heap.size) (hg : ¬ G g) : RRep w g R G k :=
  ⟨h.cell, h.fr, h.nr, h.ar, h.a1, h.s1, fun f hf => (h.ff f hf).mono hG, h.rn, h.rv, fun i hi => hG i (h.gf i hi), fun i hi => hG i (h.gn i hi), fun i hi => hG i (h.ga i hi), hl, hg, h.lf, h.ln, h.la, h.lc, h.lk⟩
/-- A copy of bytes. -/
theorem byte_copy {w : World} {v : Value} {n : Nat} {l : List Int} (hl : l.length = n) (hr : Row w 5 1 v n (bts l)) (hn : n ≤ 65536) :
    ∃ d c w', (Builtin.append_ #[22, 22] 22 #[.slice (some ⟨w.heap.size, 0, none⟩) 0 0, v]).run Tryz.prog (w.alloc (.cells #[] 5)) = .ok (.slice d n c) w' ∧ Row w' 5 1 (.slice d n c) n (bts l) ∧ Ext w w' ∧ ∀ i, (Value.slice d n c).ownBlock = some i → w.heap.size ≤ i := by
  obtain ⟨v', w', h1, h2, h3⟩ := row_copy 22 Tryz.underlying22 info5 rfl (empty_row w 5 1) (Row.src (hr.ext (Ext.alloc w (.cells #[] 5))) (bts_one l) Tryz.underlying22) (by omega) (by omega)
  have f := fresh2 h3
  rw [Nat.zero_add, List.nil_append] at h2
  obtain ⟨d, c, rfl, -⟩ := h2.shape
  exact ⟨d, c, w', h1, h2, f.1, f.2⟩
set_option maxRecDepth 100000 in
set_option maxHeartbeats 8000000 in
theorem rsync_all (g : Nat) (R : RV) (F : Nat → Prop) (k : Nat) (p : ByteArray) (w : World) (h : RRep w g R F k) (hk : k ≤ 800) :
    Calls Tryz.prog 41 #[ptr g, .string p] w fun e w' => (∃ n : Int, e = .returned (.int .i64 n)) ∧ RPost w g F (k + 10) w' := by
  have A1 := Lib.hid (ract_p g R F k p w h (by omega))
  have HO := Lib.hid (fun (w' : World) (n : Nat) (R' : RV) (hn : n ≤ 10) (r : RRep w' g R' F (k + n)) (c : Chg (fun i => i = g) w w') => RPost.of (r.up (k' := k + 10) (by omega)) c)
  clear h
  unfold ptr at *
  go_enter Tryz.func41, Tryz.ntmps41
  go_wp2_with fail
  refine (A1.out).mono ?_
  rintro e w1 ⟨n, rfl, hv, r1, c1⟩
  clear A1
  have HV := Lib.hid hv
  have HC := Lib.hid c1
  have HR := Lib.hid r1
  clear hv c1
  by_cases hn : n = 0
  rotate_left
  · have tb : (n != 0) = true := by simpa using hn
    have FN := Lib.hid (HO.out _ 1 _ (by omega) HR.out HC.out)
    clear r1 hn
    go_wp2
    go_ret
    exact ⟨⟨_, rfl⟩, FN.out⟩
  subst hn
  obtain ⟨ad, cap, hnw, c3, fi⟩ := r1.find (by omega) p
  have FI := Lib.hid fi
  have HNW := Lib.hid hnw
  clear fi hnw r1
  generalize ({ R with asked := R.asked + 1 } : RV) = R1 at *
  obtain ⟨nn, hnn⟩ : ∃ nn, nn = R1.names.length := ⟨_, rfl⟩
  rw [← hnn] at c3 FI HNW
  have HNN := Lib.hid hnn
  clear hnn
  go_wp2_with fail
  refine (FI.out).mono ?_
  rintro e w' ⟨r, rfl, rfl, hr⟩
  clear FI
  rcases hr with rfl | ⟨j, rfl, hj⟩
  · have FN := Lib.hid (HO.out _ 1 _ (by omega) HR.out HC.out)
    go_wp2
    go_ret
    exact ⟨⟨_, rfl⟩, FN.out⟩
  have j0 : ¬ ((j : Int) < 0) := by omega
  have i0 : (0 : Int) ≤ (j : Int) := by omega
  obtain ⟨b, o, fb, fo, q, fcap, kd, mt, st, db, cb, ds, cs, dd, cd, n, m, rfl, hfs, hq, hX, hnb, hcells⟩ := HR.out.fileat (by rw [HNW.out, HNN.out]) (show j < R1.names.length by rw [← HNN.out]; exact hj)
  rw [← HNN.out] at hcells
  have CELLS := Lib.hid hcells
  have HX := Lib.hid hX
  obtain ⟨mm, hmm⟩ : ∃ mm, mm = R1.files.length := ⟨_, rfl⟩
  rw [← hmm] at CELLS hq
  have HMM := Lib.hid hmm
  have HNB := Lib.hid hnb
  have i1 : (j : Int) < (nn : Int) := by omega
  have q0 : (0 : Int) ≤ (q : Int) := by omega
  have q1 : (q : Int) < (mm : Int) := by omega
  have HLIM := Lib.hid (show n ≤ 65536 ∧ m ≤ 5000 ∧ secs n ≤ m from ⟨hX.nl, hX.ml, hX.nm⟩)
  clear hcells hX hmm hfs hnb c3
  go_wp2_with fail
  refine wp_region_held (S := Ext w1.drew) (by kernel_rfl) ?_
  change wpAnyH _ _ _ _ _ _ _ _ w1.drew
  have S0 : Ext w1.drew w1.drew := Ext.refl _
  have CL := Lib.hid (fun (w' : World) (hw' : Ext w1.drew w') => CELLS.out w' ((Ext.drew w1).trans hw'))
  have D_ := Lib.hid (Ext.drew w1)
  generalize w1.drew = W0 at *
  refine takeS 0 (some 23) (.pointer (some ⟨g, 0, none⟩)) rfl rfl (by kernel_rfl) (by kernel_rfl) (by kernel_rfl) (fun _ _ _ h => h) rfl S0 (fun w' hw' => by go_simp) ?_
  simp only [Act.put, List.setIfInBounds_toArray, List.set_cons_zero, List.set_cons_succ]
  refine takeS 1 (some 24) (.pointer (some ⟨g, 0, none⟩)) rfl rfl (by kernel_rfl) (by kernel_rfl) (by kernel_rfl) (fun _ _ _ h => h) rfl S0 (fun w' hw' => by go_simp) ?_
  simp only [Act.put, List.setIfInBounds_toArray, List.set_cons_zero, List.set_cons_succ]
  refine takeS 2 (some 25) (.pointer (some ⟨g, 2, none⟩)) rfl rfl (by kernel_rfl) (by kernel_rfl) (by kernel_rfl) (fun _ _ _ h => h) rfl S0 (fun w' hw' => by go_simp) ?_
  simp only [Act.put, List.setIfInBounds_toArray, List.set_cons_zero, List.set_cons_succ]
  refine takeS 3 (some 26) (.slice (some ⟨fb, fo, none⟩) mm fcap) rfl rfl (by kernel_rfl) (by kernel_rfl) (by kernel_rfl) (fun _ _ _ h => h) rfl S0 (fun w' hw' => by obtain ⟨x2, x3, xf, y0, y1, y2, y3, y4, y5⟩ := CL.out w' hw'; go_simp) ?_
  simp only [Act.put, List.setIfInBounds_toArray, List.set_cons_zero, List.set_cons_succ]
  refine takeS 4 (some 27) (.pointer (some ⟨g, 0, none⟩)) rfl rfl (by kernel_rfl) (by kernel_rfl) (by kernel_rfl) (fun _ _ _ h => h) rfl S0 (fun w' hw' => by go_simp) ?_
  simp only [Act.put, List.setIfInBounds_toArray, List.set_cons_zero, List.set_cons_succ]
  refine takeS 5 (some 28) (.pointer (some ⟨g, 0, none⟩)) rfl rfl (by kernel_rfl) (by kernel_rfl) (by kernel_rfl) (fun _ _ _ h => h) rfl S0 (fun w' hw' => by go_simp) ?_
  simp only [Act.put, List.setIfInBounds_toArray, List.set_cons_zero, List.set_cons_succ]
  refine takeS 6 (some 29) (.pointer (some ⟨g, 3, none⟩)) rfl rfl (by kernel_rfl) (by kernel_rfl) (by kernel_rfl) (fun _ _ _ h => h) rfl S0 (fun w' hw' => by go_simp) ?_
  simp only [Act.put, List.setIfInBounds_toArray, List.set_cons_zero, List.set_cons_succ]
  refine takeS 7 (some 30) (.slice (some ⟨b, o, none⟩) nn cap) rfl rfl (by kernel_rfl) (by kernel_rfl) (by kernel_rfl) (fun _ _ _ h => h) rfl S0 (fun w' hw' => by obtain ⟨x2, x3, xf, y0, y1, y2, y3, y4, y5⟩ := CL.out w' hw'; go_simp) ?_
  simp only [Act.put, List.setIfInBounds_toArray, List.set_cons_zero, List.set_cons_succ]
  refine takeS 8 (some 31) (.int .i64 j) rfl rfl (by kernel_rfl) (by kernel_rfl) (by kernel_rfl) (fun _ _ _ h => h) rfl S0 (fun w' hw' => by go_simp) ?_
  simp only [Act.put, List.setIfInBounds_toArray, List.set_cons_zero, List.set_cons_succ]
  refine takeS 9 (some 32) (.pointer (some ⟨b, o + j * 2, none⟩)) rfl rfl (by kernel_rfl) (by kernel_rfl) (by kernel_rfl) (fun _ _ _ h => h) rfl S0 (fun w' hw' => by go_simp) ?_
  simp only [Act.put, List.setIfInBounds_toArray, List.set_cons_zero, List.set_cons_succ]
  refine takeS 10 (some 33) (.pointer (some ⟨b, o + j * 2 + 1, none⟩)) rfl rfl (by kernel_rfl) (by kernel_rfl) (by kernel_rfl) (fun _ _ _ h => h) rfl S0 (fun w' hw' => by go_simp) ?_
  simp only [Act.put, List.setIfInBounds_toArray, List.set_cons_zero, List.set_cons_succ]
  refine takeS 11 (some 34) (.int .i64 q) rfl rfl (by kernel_rfl) (by kernel_rfl) (by kernel_rfl) (fun _ _ _ h => h) rfl S0 (fun w' hw' => by obtain ⟨x2, x3, xf, y0, y1, y2, y3, y4, y5⟩ := CL.out w' hw'; go_simp) ?_
  simp only [Act.put, List.setIfInBounds_toArray, List.set_cons_zero, List.set_cons_succ]
  refine takeS 12 (some 35) (.pointer (some ⟨fb, fo + q * 6, none⟩)) rfl rfl (by kernel_rfl) (by kernel_rfl) (by kernel_rfl) (fun _ _ _ h => h) rfl S0 (fun w' hw' => by go_simp) ?_
  simp only [Act.put, List.setIfInBounds_toArray, List.set_cons_zero, List.set_cons_succ]
  refine takeS 13 (some 36) (.agg #[.int .i64 kd, .int .i64 mt, .int .u64 st, .slice db n cb, .slice ds n cs, .slice dd m cd]) rfl rfl (by kernel_rfl) (by kernel_rfl) (by kernel_rfl) (fun _ _ _ h => h) rfl S0 (fun w' hw' => by obtain ⟨x2, x3, xf, y0, y1, y2, y3, y4, y5⟩ := CL.out w' hw'; go_simp) ?_
  simp only [Act.put, List.setIfInBounds_toArray, List.set_cons_zero, List.set_cons_succ]
  refine nextS 14 rfl (by kernel_rfl) rfl (makeR (some 7) rfl (.pointer (some ⟨W0.heap.size, 0, none⟩)) (w1 := W0.alloc (.cells #[.int .i64 0, .int .i64 0, .int .u64 0, .slice none 0 0, .slice none 0 0, .slice none 0 0] 106)) (by go_simp) ?_)
  simp only [Act.put, List.setIfInBounds_toArray, List.set_cons_zero, List.set_cons_succ]
  have x_ : Ext W0 (W0.alloc (.cells #[.int .i64 0, .int .i64 0, .int .u64 0, .slice none 0 0, .slice none 0 0, .slice none 0 0] 106)) := Ext.alloc W0 _
  have aZ := At.new W0 #[.int .i64 0, .int .i64 0, .int .u64 0, .slice none 0 0, .slice none 0 0, .slice none 0 0] 106
  have hxb : Base W0 ≤ W0.heap.size := Nat.le_refl _
  generalize W0.alloc (.cells #[.int .i64 0, .int .i64 0, .int .u64 0, .slice none 0 0, .slice none 0 0, .slice none 0 0] 106) = W1 at *
  generalize W0.heap.size = xb at *
  refine ⟨x_, ?_⟩
  have aX : At (W1.setCells xb 0 (#[.int .i64 kd, .int .i64 mt, .int .u64 st, .slice db n cb, .slice ds n cs, .slice dd m cd] : Array Value).toList) xb #[.int .i64 kd, .int .i64 mt, .int .u64 st, .slice db n cb, .slice ds n cs, .slice dd m cd] 106 := At.sets (#[.int .i64 kd, .int .i64 mt, .int .u64 st, .slice db n cb, .slice ds n cs, .slice dd m cd] : Array Value).toList 0 W1 #[.int .i64 0, .int .i64 0, .int .u64 0, .slice none 0 0, .slice none 0 0, .slice none 0 0] aZ (Nat.le_refl 6)
  have eX : Ext W0 (W1.setCells xb 0 (#[.int .i64 kd, .int .i64 mt, .int .u64 st, .slice db n cb, .slice ds n cs, .slice dd m cd] : Array Value).toList) := ((Chg.of_ext (X := fun _ => False) x_).trans (Chg.sets xb (#[.int .i64 kd, .int .i64 mt, .int .u64 st, .slice db n cb, .slice ds n cs, .slice dd m cd] : Array Value).toList 0 W1) (fun i hi q_ => by unfold Base at hxb; omega)).ext
  refine nextS 15 rfl (by kernel_rfl) rfl (wp_store_mid 106 (.tmp 7) (.tmp 36) rfl xb 0 #[.int .i64 kd, .int .i64 mt, .int .u64 st, .slice db n cb, .slice ds n cs, .slice dd m cd] rfl rfl (at_there aZ 0 6 (by decide)) (by exact size106) (by simp [Value.oneCell']) ?_)
  simp only [Act.put]
  generalize W1.setCells xb 0 (#[.int .i64 kd, .int .i64 mt, .int .u64 st, .slice db n cb, .slice ds n cs, .slice dd m cd] : Array Value).toList = W2 at *
  refine ⟨eX, ?_⟩
  refine wpAnyH_done (by kernel_rfl) ?_ _
  have EX := Lib.hid (D_.out.trans eX)
  have HXB := Lib.hid (show w1.heap.size ≤ xb from Nat.le_trans D_.out.size hxb)
  have HGX := Lib.hid (show ¬ xb = g from by have := HR.out.cell.lt; have := HXB.out; omega)
  clear x_ aZ hxb eX CL S0 D_
  have cX0 : W2.cell? ⟨xb, 0, none⟩ = some (.int .i64 kd) := aX.cell 0
  by_cases hkd : kd = 1
  rotate_left
  · have tb : (kd != 1) = true := by simpa using hkd
    have FN := Lib.hid (HO.out _ 1 _ (by omega) (HR.out.ext EX.out) (HC.out.trans (Chg.of_ext EX.out) (fun _ _ h => h)))
    clear hj hkd aX
    go_wp2
    go_ret
    exact ⟨⟨_, rfl⟩, FN.out⟩
  subst hkd
  obtain ⟨lb, hlb, rb⟩ := (HX.out.keep fun i hi => EX.out.block i (HR.out.lt i hi)).b
  simp only at hlb rb
  obtain ⟨d4, c4, W3, hrun, r4, e23, f4⟩ := byte_copy hlb rb HLIM.out.1
  have hxs : xb < W2.heap.size := aX.lt
  have aX3 := aX.ext e23
  have cX3 : (W2.alloc (.cells #[] 5)).cell? ⟨xb, 3, none⟩ = some (.slice db n cb) := (aX.ext (Ext.alloc W2 _)).cell 3
  have cX4 : W3.cell? ⟨xb, 4, none⟩ = some (.slice ds n cs) := aX3.cell 4
  have zX4 := aX3.frozen 4
  have s4 := Chg.setCell W3 xb 4 (.slice d4 n c4)
  have aX4 := aX3.set 4 (.slice d4 n c4)
  obtain ⟨W4, hW4⟩ : ∃ W4, W4 = W3.setCell ⟨xb, 4, none⟩ (.slice d4 n c4) := ⟨_, rfl⟩
  rw [← hW4] at s4 aX4
  have hw4s : W4.heap.size = W3.heap.size := by rw [hW4, size_setCell]
  have cX43 : W4.cell? ⟨xb, 3, none⟩ = some (.slice db n cb) := aX4.cell 3
  have r44 := r4.chg s4 (fun i hi e => by have := f4 i hi; omega)
  have EX4 : Ext w1 W4 := ((Chg.of_ext (X := fun _ => False) (EX.out.trans e23)).trans s4 (fun i hi q_ => by have := HXB.out; omega)).ext
  have SE := Lib.hid (rsect_any n W4 (by have := HLIM.out.1; omega))
  have HW4 := Lib.hid hW4.symm
  have R1' := Lib.hid hrun
  have HA4 := Lib.hid aX4
  have HR44 := Lib.hid (And.intro r44 f4)
  have HE4 := Lib.hid EX4
  have hsec : secs n ≤ 5000 := by have := HLIM.out.2; omega
  have HSZ := Lib.hid (show xb < W4.heap.size ∧ w1.heap.size ≤ W2.heap.size ∧ xb < W2.heap.size from ⟨by have := e23.size; omega, EX.out.size, hxs⟩)
  have HLB := Lib.hid hlb
  have hs0 : (0 : Int) ≤ (secs n : Int) := by omega
  clear aX aX3 s4 aX4 r44 r4 f4 EX4 hrun hW4 e23 rb hlb hxs hw4s
  generalize hsn : secs n = sn at *
  have HSN := Lib.hid hsn
  clear hsn
  rw [← HW4.out] at cX43
  go_wp2_with (at_builtin; refine Lib.wpList_append_run _ rfl _ _ _ _ rfl _ _ rfl rfl _ _ R1'.out ?_)
  rw [HW4.out] at cX43 ⊢
  clear cX3 cX4 zX4
  refine (SE.out).mono ?_
  rintro e w' ⟨rfl, rfl⟩
  clear SE
  have MK := run_make_row' (P := Tryz.prog) 69 4 (.bool false) 1 Tryz.underlying69 info4 rfl .i64 .i64 sn (by omega) (by omega) W4
  have ez : Ext W4 (W4.alloc (.cells (madeCells #[.bool false] sn) 4)) := Ext.alloc W4 _
  have rz := made_row W4 sn (by omega)
  have az := HA4.out.ext ez
  have cX5 : (W4.alloc (.cells (madeCells #[.bool false] sn) 4)).cell? ⟨xb, 5, none⟩ = some (.slice dd m cd) := az.cell 5
  have zX5 := az.frozen 5
  have s5 := Chg.setCell (W4.alloc (.cells (madeCells #[.bool false] sn) 4)) xb 5 (.slice (some ⟨W4.heap.size, 0, none⟩) sn sn)
  have a5 := az.set 5 (.slice (some ⟨W4.heap.size, 0, none⟩) sn sn)
  obtain ⟨W5, hW5⟩ : ∃ W5, W5 = (W4.alloc (.cells (madeCells #[.bool false] sn) 4)).setCell ⟨xb, 5, none⟩ (.slice (some ⟨W4.heap.size, 0, none⟩) sn sn) := ⟨_, rfl⟩
  have EX5 : Ext w1 W5 := by rw [hW5]; exact ((Chg.of_ext (X := fun _ => False) (HE4.out.trans ez)).trans s5 (fun i hi q_ => by have := HXB.out; omega)).ext
  have rz5 : Row W5 4 1 (.slice (some ⟨W4.heap.size, 0, none⟩) sn sn) sn (bls (List.replicate sn false)) := by rw [hW5]; exact rz.chg s5 (fun i hi e => by have h_ : some W4.heap.size = some i := hi; injection h_; have := HSZ.out.1; omega)
  have rs5 : ∃ l : List Int, l.length = n ∧ Row W5 5 1 (.slice d4 n c4) n (bts l) := ⟨lb, HLB.out, by rw [hW5]; exact (HR44.out.1.ext ez).chg s5 (fun i hi e => by have := HR44.out.2 i hi; have := HSZ.out.2.2; omega)⟩
  have hw5 : W4.heap.size < W5.heap.size := by rw [hW5, size_setCell, size_alloc]; exact Nat.lt_succ_self _
  have HA5 := Lib.hid (show At W5 xb #[.int .i64 1, .int .i64 mt, .int .u64 st, .slice db n cb, .slice d4 n c4, .slice (some ⟨W4.heap.size, 0, none⟩) sn sn] 106 from by rw [hW5]; exact a5)
  have x1 := HX.out.keep fun i hi => EX5.block i (HR.out.lt i hi)
  have hg1 := HR.out.cell.lt
  have HR5 := Lib.hid ((HR.out.ext EX5).grow (G := fun i => F i ∨ (w1.heap.size ≤ i ∧ i < W5.heap.size)) (fun i hi => Or.inl hi) (fun i hi => hi.elim (fun q_ => Nat.lt_of_lt_of_le (HR.out.lt i q_) EX5.size) (fun q_ => q_.2)) (fun q_ => q_.elim (fun q_ => HR.out.ng q_) (fun q_ => by omega)))
  have HX5 := Lib.hid (show RFIn W5 (fun i => F i ∨ (w1.heap.size ≤ i ∧ i < W5.heap.size)) ⟨1, mt, st, .slice db n cb, .slice d4 n c4, .slice (some ⟨W4.heap.size, 0, none⟩) sn sn, n, sn⟩ from
    ⟨x1.b, rs5, ⟨List.replicate sn false, by simp, rz5⟩, by rw [HSN.out]; exact Nat.le_refl _, x1.nl, hsec, fun i hi => Or.inl (x1.fb i hi), fun i hi => Or.inr ⟨by have := HR44.out.2 i hi; have := HSZ.out.2.1; omega, by obtain ⟨_, _, r_⟩ := rs5; exact r_.lt i hi⟩, fun i hi => by have h_ : some W4.heap.size = some i := hi; injection h_ with h_; subst h_; exact Or.inr ⟨HE4.out.size, hw5⟩⟩)
  have HC5 := Lib.hid (HC.out.trans (Chg.of_ext EX5) (fun _ _ h => h))
  have HL := Lib.hid (show ∀ i, (F i ∨ (w1.heap.size ≤ i ∧ i < W5.heap.size)) → F i ∨ w.heap.size ≤ i from fun i hi => hi.imp id fun q_ => Nat.le_trans HC.out.size q_.1)
  have HC3 := Lib.hid (CELLS.out W5 EX5).2.1
  have CE5 := Lib.hid (fun w' (hc : Chg (fun i => i = g) W5 w') => hc.cell (CELLS.out W5 EX5).2.2.1 HNB.out)
  have HQ5 := Lib.hid (show q < R1.files.length from by rw [← HMM.out]; exact hq)
  have HW5 := Lib.hid hW5.symm
  clear ez rz az s5 a5 EX5 rz5 rs5 x1 hW5
  go_wp2_with fail
  rw [HW5.out]
  clear cX5 zX5 MK hw5
  generalize W4.heap.size = zb at *
  refine wp_region_held (S := Chg (fun i => i = g) W5) (by kernel_rfl) ?_
  change wpAnyH _ _ _ _ _ _ _ _ W5.drew
  have S0 : Chg (fun i => i = g) W5 W5.drew := Chg.of_ext (Ext.drew W5)
  have A5 := Lib.hid (fun (w' : World) (hw' : Chg (fun i => i = g) W5 w') => hw'.at HA5.out HGX.out)
  have c3_ : W5.drew.cell? ⟨g, 3, none⟩ = some (.slice (some ⟨b, o, none⟩) nn cap) := HC3.out
  have STP := rset_any g R1 (fun i => F i ∨ (w1.heap.size ≤ i ∧ i < W5.heap.size)) (k + 1 + 0) q _ W5.drew (HR5.out.ext (Ext.drew W5)) (by omega) (by first | exact HQ5.out | (rw [HQ5.out]; omega)) (HX5.out.keep fun i _ => rfl)
  unfold ptr at STP
  have STL := Lib.hid STP
  clear STP
  generalize W5.drew = W0 at *
  refine takeS 0 (some 51) (.pointer (some ⟨g, 0, none⟩)) rfl rfl (by kernel_rfl) (by kernel_rfl) (by kernel_rfl) (fun _ _ _ h => h) rfl S0 (fun w' hw' => by go_simp) ?_
  simp only [Act.put, List.setIfInBounds_toArray, List.set_cons_zero, List.set_cons_succ]
  refine takeS 1 (some 52) (.pointer (some ⟨g, 0, none⟩)) rfl rfl (by kernel_rfl) (by kernel_rfl) (by kernel_rfl) (fun _ _ _ h => h) rfl S0 (fun w' hw' => by go_simp) ?_
  simp only [Act.put, List.setIfInBounds_toArray, List.set_cons_zero, List.set_cons_succ]
  refine takeS 2 (some 53) (.pointer (some ⟨g, 0, none⟩)) rfl rfl (by kernel_rfl) (by kernel_rfl) (by kernel_rfl) (fun _ _ _ h => h) rfl S0 (fun w' hw' => by go_simp) ?_
  simp only [Act.put, List.setIfInBounds_toArray, List.set_cons_zero, List.set_cons_succ]
  refine takeS 3 (some 54) (.pointer (some ⟨g, 3, none⟩)) rfl rfl (by kernel_rfl) (by kernel_rfl) (by kernel_rfl) (fun _ _ _ h => h) rfl S0 (fun w' hw' => by go_simp) ?_
  simp only [Act.put, List.setIfInBounds_toArray, List.set_cons_zero, List.set_cons_succ]
  refine takeS 5 (some 56) (.int .i64 j) rfl rfl (by kernel_rfl) (by kernel_rfl) (by kernel_rfl) (fun _ _ _ h => h) rfl S0 (fun w' hw' => by go_simp) ?_
  simp only [Act.put, List.setIfInBounds_toArray, List.set_cons_zero, List.set_cons_succ]
  refine takeS 9 (some 60) (.agg #[.int .i64 1, .int .i64 mt, .int .u64 st, .slice db n cb, .slice d4 n c4, .slice (some ⟨zb, 0, none⟩) sn sn]) rfl rfl (by kernel_rfl) (by kernel_rfl) (by kernel_rfl) (fun _ _ _ h => h) rfl S0 (fun w' hw' => by have c0 := (A5.out w' hw').cell 0; have c1 := (A5.out w' hw').cell 1; have c2 := (A5.out w' hw').cell 2; have c3 := (A5.out w' hw').cell 3; have c4 := (A5.out w' hw').cell 4; have c5 := (A5.out w' hw').cell 5; go_simp) ?_
  simp only [Act.put, List.setIfInBounds_toArray, List.set_cons_zero, List.set_cons_succ]
  refine nextS 4 rfl (by kernel_rfl) rfl (makeR (some 55) rfl (.slice (some ⟨b, o, none⟩) nn cap) (w1 := W0) (by go_simp) ?_)
  simp only [Act.put, List.setIfInBounds_toArray, List.set_cons_zero, List.set_cons_succ]
  refine ⟨S0, ?_⟩
  refine takeS 6 (some 57) (.pointer (some ⟨b, o + j * 2, none⟩)) rfl rfl (by kernel_rfl) (by kernel_rfl) (by kernel_rfl) (fun _ _ _ h => h) rfl S0 (fun w' hw' => by go_simp) ?_
  simp only [Act.put, List.setIfInBounds_toArray, List.set_cons_zero, List.set_cons_succ]
  refine takeS 7 (some 58) (.pointer (some ⟨b, o + j * 2 + 1, none⟩)) rfl rfl (by kernel_rfl) (by kernel_rfl) (by kernel_rfl) (fun _ _ _ h => h) rfl S0 (fun w' hw' => by go_simp) ?_
  simp only [Act.put, List.setIfInBounds_toArray, List.set_cons_zero, List.set_cons_succ]
  refine takeS 8 (some 59) (.int .i64 q) rfl rfl (by kernel_rfl) (by kernel_rfl) (by kernel_rfl) (fun _ _ _ h => h) rfl S0 (fun w' hw' => by have xf := CE5.out w' hw'; go_simp) ?_
  simp only [Act.put, List.setIfInBounds_toArray, List.set_cons_zero, List.set_cons_succ]
  refine nextS 10 rfl (by kernel_rfl) rfl ?_
  refine callS (some 61) rfl 69 #[.pointer (some ⟨g, 0, none⟩), .int .i64 q, .agg #[.int .i64 1, .int .i64 mt, .int .u64 st, .slice db n cb, .slice d4 n c4, .slice (some ⟨zb, 0, none⟩) sn sn]] (by go_simp) (fun v w' => v = .tuple #[] ∧ RPost W0 g (fun i => F i ∨ (w1.heap.size ≤ i ∧ i < W5.heap.size)) (k + 1 + 0) w') ((STL.out).mono fun e w' he => ⟨_, he.1, rfl, he.2⟩) ?_
  rintro v8 w8 ⟨rfl, p8⟩
  have S8 : Chg (fun i => i = g) W0 w8 := by obtain ⟨_, _, _, c8, _⟩ := p8; exact c8
  refine ⟨S0.trans S8 (fun _ _ h => h), ?_⟩
  simp only [Act.put, List.setIfInBounds_toArray, List.set_cons_zero, List.set_cons_succ]
  refine wpAnyH_done (by kernel_rfl) ?_ _
  have FN := Lib.hid (show RPost w g F (k + 10) w8 from by
    obtain ⟨R8, F8, r8, c8, l8⟩ := RPost.trans (HC5.out.trans S0 (fun _ _ h => h)) p8
    exact ⟨R8, F8, r8.up (by omega), c8, fun i hi => (l8 i hi).elim (fun q_ => HL.out i q_) Or.inr⟩)
  clear p8 S8 S0 c3_
  go_wp2
  go_ret
  exact ⟨⟨_, rfl⟩, FN.out⟩
end Go.Proofs.YtbneedmfpldpfaaGreatDoor
