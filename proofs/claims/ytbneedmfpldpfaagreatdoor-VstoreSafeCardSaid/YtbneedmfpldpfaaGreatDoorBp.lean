/- Contract of the document's own Truncate, whatever the store holds. -/
import Derived.Test.YtbneedmfpldpfaaGreatDoorBo
set_option linter.unusedSimpArgs false
set_option linter.unusedVariables false
namespace Go.Proofs.YtbneedmfpldpfaaGreatDoor
open Go.RowKit Go.Pth

set_option maxRecDepth 100000 in
set_option maxHeartbeats 8000000 in
theorem rtruncate_all (g : Nat) (R : RV) (F : Nat → Prop) (k : Nat) (p : ByteArray) (av : Int) (w : World) (h : RRep w g R F k) (hk : k ≤ 800) :
    Calls Tryz.prog 34 #[ptr g, .string p, .int .i64 av] w fun e w' => (∃ n : Int, e = .returned (.int .i64 n)) ∧ RPost w g F (k + 10) w' := by
  have A1 := Lib.hid (ract_p g R F k p w h (by omega))
  have HO := Lib.hid (fun (w' : World) (n : Nat) (R' : RV) (hn : n ≤ 10) (r : RRep w' g R' F (k + n)) (c : Chg (fun i => i = g) w w') => RPost.of (r.up (k' := k + 10) (by omega)) c)
  clear h
  unfold ptr at *
  go_enter Tryz.func34, Tryz.ntmps34
  go_wp2_with fail
  refine (A1.out).mono ?_
  rintro e w1 ⟨n, rfl, hv, r1, c1⟩
  clear A1
  have HV := Lib.hid hv
  have HC := Lib.hid c1
  have HR := Lib.hid r1
  clear hv c1
  by_cases hn : n = 0
  rotate_left
  · have tb : (n != 0) = true := by simpa using hn
    have FN := Lib.hid (HO.out _ 1 _ (by omega) HR.out HC.out)
    clear r1 hn
    go_wp2
    go_ret
    exact ⟨⟨_, rfl⟩, FN.out⟩
  subst hn
  obtain ⟨ad, cap, hnw, c3, fi⟩ := r1.find (by omega) p
  have FI := Lib.hid fi
  have HNW := Lib.hid hnw
  clear fi hnw r1
  generalize ({ R with asked := R.asked + 1 } : RV) = R1 at *
  obtain ⟨nn, hnn⟩ : ∃ nn, nn = R1.names.length := ⟨_, rfl⟩
  rw [← hnn] at c3 FI HNW
  have HNN := Lib.hid hnn
  clear hnn
  go_wp2_with fail
  refine (FI.out).mono ?_
  rintro e w' ⟨r, rfl, rfl, hr⟩
  clear FI
  rcases hr with rfl | ⟨j, rfl, hj⟩
  · have FN := Lib.hid (HO.out _ 1 _ (by omega) HR.out HC.out)
    go_wp2
    go_ret
    exact ⟨⟨_, rfl⟩, FN.out⟩
  have j0 : ¬ ((j : Int) < 0) := by omega
  have i0 : (0 : Int) ≤ (j : Int) := by omega
  obtain ⟨b, o, fb, fo, q, fcap, kd, mt, st, db, cb, ds, cs, dd, cd, n, m, rfl, hfs, hq, hX, hnb, hcells⟩ := HR.out.fileat (by rw [HNW.out, HNN.out]) (show j < R1.names.length by rw [← HNN.out]; exact hj)
  rw [← HNN.out] at hcells
  have CELLS := Lib.hid hcells
  have HX := Lib.hid hX
  obtain ⟨mm, hmm⟩ : ∃ mm, mm = R1.files.length := ⟨_, rfl⟩
  rw [← hmm] at CELLS hq
  have HMM := Lib.hid hmm
  have HNB := Lib.hid hnb
  have i1 : (j : Int) < (nn : Int) := by omega
  have q0 : (0 : Int) ≤ (q : Int) := by omega
  have q1 : (q : Int) < (mm : Int) := by omega
  have HLIM := Lib.hid (show n ≤ 65536 ∧ m ≤ 5000 ∧ secs n ≤ m from ⟨hX.nl, hX.ml, hX.nm⟩)
  clear hcells hX hmm hfs hnb c3
  obtain ⟨x2, x3, xf, y0, y1, y2, y3, y4, y5⟩ := CELLS.out w1 (Ext.refl w1)
  have aZ := At.new w1 #[.int .i64 0, .int .i64 0, .int .u64 0, .slice none 0 0, .slice none 0 0, .slice none 0 0] 106
  have TH := Lib.hid (at_there aZ 0 6 (by decide))
  have hxb0 : w1.heap.size < (w1.alloc (.cells #[.int .i64 0, .int .i64 0, .int .u64 0, .slice none 0 0, .slice none 0 0, .slice none 0 0] 106)).heap.size := aZ.lt
  have aX := At.sets (#[.int .i64 kd, .int .i64 mt, .int .u64 st, .slice db n cb, .slice ds n cs, .slice dd m cd] : Array Value).toList 0 _ #[.int .i64 0, .int .i64 0, .int .u64 0, .slice none 0 0, .slice none 0 0, .slice none 0 0] aZ (Nat.le_refl 6)
  have eX : Ext w1 ((w1.alloc (.cells #[.int .i64 0, .int .i64 0, .int .u64 0, .slice none 0 0, .slice none 0 0, .slice none 0 0] 106)).setCells w1.heap.size 0 (#[.int .i64 kd, .int .i64 mt, .int .u64 st, .slice db n cb, .slice ds n cs, .slice dd m cd] : Array Value).toList) := ((Chg.of_ext (X := fun _ => False) (Ext.alloc w1 (.cells #[.int .i64 0, .int .i64 0, .int .u64 0, .slice none 0 0, .slice none 0 0, .slice none 0 0] 106))).trans (Chg.sets w1.heap.size (#[.int .i64 kd, .int .i64 mt, .int .u64 st, .slice db n cb, .slice ds n cs, .slice dd m cd] : Array Value).toList 0 _) (fun i hi q_ => by omega)).ext
  obtain ⟨W2, hW2⟩ : ∃ W2, W2 = (w1.alloc (.cells #[.int .i64 0, .int .i64 0, .int .u64 0, .slice none 0 0, .slice none 0 0, .slice none 0 0] 106)).setCells w1.heap.size 0 (#[.int .i64 kd, .int .i64 mt, .int .u64 st, .slice db n cb, .slice ds n cs, .slice dd m cd] : Array Value).toList := ⟨_, rfl⟩
  rw [← hW2] at aX eX
  have HW2 := Lib.hid hW2.symm
  have HGX := Lib.hid (show ¬ w1.heap.size = g from by have := HR.out.cell.lt; omega)
  have EX := Lib.hid eX
  have HAX := Lib.hid (show At W2 w1.heap.size #[.int .i64 kd, .int .i64 mt, .int .u64 st, .slice db n cb, .slice ds n cs, .slice dd m cd] 106 from aX)
  clear aZ hxb0 aX eX hW2
  go_upto_region 9 with (refine Go.wpList_store_mid rfl 106 (.tmp 10) (.tmp 41) rfl w1.heap.size 0 #[.int .i64 kd, .int .i64 mt, .int .u64 st, .slice db n cb, .slice ds n cs, .slice dd m cd] rfl rfl TH.out (by exact size106) (by simp [Value.oneCell']) ?_)
  rw [HW2.out]
  clear x2 x3 xf y0 y1 y2 y3 y4 y5
  have hxbs : w1.heap.size < W2.heap.size := HAX.out.lt
  have HXS := Lib.hid hxbs
  clear hxbs
  have HXB := Lib.hid (Nat.le_refl w1.heap.size)
  have cX0 : W2.cell? ⟨w1.heap.size, 0, none⟩ = some (.int .i64 kd) := HAX.out.cell 0
  have cX3 : W2.cell? ⟨w1.heap.size, 3, none⟩ = some (.slice db n cb) := HAX.out.cell 3
  have FNX := Lib.hid (HO.out _ 1 _ (by omega) (HR.out.ext EX.out) (HC.out.trans (Chg.of_ext EX.out) (fun _ _ h => h)))
  generalize w1.heap.size = xb at *
  by_cases hkd : kd = 1
  rotate_left
  · have tb : (kd != 1) = true := by simpa using hkd
    clear hj hkd
    go_wp2
    go_ret
    exact ⟨⟨_, rfl⟩, FNX.out⟩
  subst hkd
  by_cases h1 : av < 0
  · clear hj
    go_wp2
    go_ret
    exact ⟨⟨_, rfl⟩, FNX.out⟩
  have d1 : decide (av < 0) = false := decide_eq_false h1
  by_cases h2 : av > (n : Int)
  · have d2 : decide (av > (n : Int)) = true := decide_eq_true h2
    have d3 : decide ((n : Int) < av) = true := decide_eq_true h2
    clear hj h1
    go_wp2
    go_ret
    exact ⟨⟨_, rfl⟩, FNX.out⟩
  have d2 : decide (av > (n : Int)) = false := decide_eq_false h2
  have d3 : decide ((n : Int) < av) = false := decide_eq_false h2
  obtain ⟨a, rfl⟩ : ∃ a : Nat, av = a := ⟨av.toNat, by omega⟩
  have han : a ≤ n := by omega
  have d4 : decide (n < a) = false := decide_eq_false (by omega)
  have HA6 := Lib.hid (show a ≤ 65536 from by have := HLIM.out.1; omega)
  obtain ⟨sa, hsa⟩ : ∃ sa, sa = secs a := ⟨_, rfl⟩
  have hcd : m ≤ cd := by
    obtain ⟨l_, _, r_⟩ := HX.out.d
    obtain ⟨_, _, e_, hc_, -⟩ := r_.shape
    injection e_ with _ _ e_
    rw [e_]; exact hc_
  have hsm : sa ≤ m := by
    have := HLIM.out.2.2
    rw [hsa]
    unfold secs at *
    omega
  have HSA := Lib.hid (show sa ≤ m ∧ sa ≤ 100000 from ⟨hsm, by have := HLIM.out.2.1; omega⟩)
  have t0 : (0 : Int) ≤ (sa : Int) := by omega
  have t1 : (sa : Int) ≤ (cd : Int) := by omega
  have t2 : (sa : Int) ≤ (m : Int) := by omega
  have SEC := Lib.hid (fun (W : World) => (show Calls Tryz.prog 68 #[.int .i64 a] W fun e w' => e = .returned (.int .i64 sa) ∧ W = w' from by rw [hsa]; exact rsect_any a W (by have := HA6.out; omega)))
  have HSAE := Lib.hid hsa
  have ST := Lib.hid (fun (W : World) (r : RRep W g R1 F (k + 1)) => rstamp_all g R1 F (k + 1) W r (by omega))
  unfold ptr at ST
  clear h1 h2 han hsa hcd hsm d2 d3
  go_wp2_with fail
  refine wp_region_held (S := Chg (fun i => i = g) W2.drew) (by kernel_rfl) ?_
  change wpAnyH _ _ _ _ _ _ _ _ W2.drew
  have S0 : Chg (fun i => i = g) W2.drew W2.drew := Chg.refl _ _
  have C0 := Lib.hid (show Chg (fun i => i = g) w1 W2.drew from Chg.of_ext (EX.out.trans (Ext.drew W2)))
  have rr := HR.out.ext (EX.out.trans (Ext.drew W2))
  have HGB := Lib.hid (show g < Base W2.drew from rr.cell.lt)
  have hgb : g < Base W2.drew := HGB.out
  have hxbb : xb < Base W2.drew := HXS.out
  have HXK := Lib.hid (fun (w' : World) (hw' : Chg (fun i => i = g) W2.drew w') => HX.out.keep (HR.out.apart (C0.out.trans hw' (fun _ _ h => h))))
  have AXK := Lib.hid (fun (w' : World) (hw' : Chg (fun i => i = g) W2.drew w') => hw'.at (HAX.out.ext (Ext.drew W2)) HGX.out)
  have FINL := Lib.hid (show ∀ (W : World) (xv : Nat) (dB : Option Addr) (cB : Nat) (dC : Option Addr) (cC : Nat) (dG : Option Addr) (cG : Nat), Chg (fun i => i = g) W2.drew W → RRep W g { R1 with last := R1.last + 1 } F (k + 1 + 1) → At W xv #[.int .i64 0, .int .i64 0, .int .u64 0, .slice none 0 0, .slice none 0 0, .slice none 0 0] 106 → Base W2.drew ≤ xv →
      ByV W (.slice dB a cB) a → (∀ i, (Value.slice dB a cB).ownBlock = some i → Base W2.drew ≤ i) → (∀ i, (Value.slice dB a cB).ownBlock = some i → i ≠ xv) → ByV W (.slice dC a cC) a → (∀ i, (Value.slice dC a cC).ownBlock = some i → Base W2.drew ≤ i) → (∀ i, (Value.slice dC a cC).ownBlock = some i → i ≠ xv) →
      BlR W (.slice dG sa cG) sa → (∀ i, (Value.slice dG sa cG).ownBlock = some i → Base W2.drew ≤ i) → (∀ i, (Value.slice dG sa cG).ownBlock = some i → i ≠ xv) →
      At (W.setCells xv 0 (#[.int .i64 1, .int .i64 mt, .int .u64 (R1.last + 1), .slice dB a cB, .slice dC a cC, .slice dG sa cG] : Array Value).toList) xv #[.int .i64 1, .int .i64 mt, .int .u64 (R1.last + 1), .slice dB a cB, .slice dC a cC, .slice dG sa cG] 106 ∧ Calls Tryz.prog 69 #[ptr g, .int .i64 q, .agg #[.int .i64 1, .int .i64 mt, .int .u64 (R1.last + 1), .slice dB a cB, .slice dC a cC, .slice dG sa cG]] (W.setCells xv 0 (#[.int .i64 1, .int .i64 mt, .int .u64 (R1.last + 1), .slice dB a cB, .slice dC a cC, .slice dG sa cG] : Array Value).toList) fun e w' => e = .returned (.tuple #[]) ∧ RPost w g F (k + 10) w' from by
    intro W xv dB cB dC cC dG cG cw rw_ av_ hxv rB fB nB rC fC nC rG fG nG
    have hat : At (W.setCells xv 0 (#[.int .i64 1, .int .i64 mt, .int .u64 (R1.last + 1), .slice dB a cB, .slice dC a cC, .slice dG sa cG] : Array Value).toList) xv #[.int .i64 1, .int .i64 mt, .int .u64 (R1.last + 1), .slice dB a cB, .slice dC a cC, .slice dG sa cG] 106 := At.sets (#[.int .i64 1, .int .i64 mt, .int .u64 (R1.last + 1), .slice dB a cB, .slice dC a cC, .slice dG sa cG] : Array Value).toList 0 W #[.int .i64 0, .int .i64 0, .int .u64 0, .slice none 0 0, .slice none 0 0, .slice none 0 0] av_ (Nat.le_refl 6)
    refine ⟨hat, ?_⟩
    have se := Chg.sets xv (#[.int .i64 1, .int .i64 mt, .int .u64 (R1.last + 1), .slice dB a cB, .slice dC a cC, .slice dG sa cG] : Array Value).toList 0 W
    have hlt := se.size
    have hxw := av_.lt
    have hb1 : w1.heap.size ≤ Base W2.drew := C0.out.size
    have cwe : Chg (fun i => i = g) w1 (W.setCells xv 0 (#[.int .i64 1, .int .i64 mt, .int .u64 (R1.last + 1), .slice dB a cB, .slice dC a cC, .slice dG sa cG] : Array Value).toList) := (C0.out.trans cw (fun _ _ h => h)).trans se (fun i hi q_ => by omega)
    have hgx : ¬ g = xv := by have := HGB.out; omega
    have r5 : RRep (W.setCells xv 0 (#[.int .i64 1, .int .i64 mt, .int .u64 (R1.last + 1), .slice dB a cB, .slice dC a cC, .slice dG sa cG] : Array Value).toList) g { R1 with last := R1.last + 1 } F (k + 1 + 1) := rw_.keep (se.block g rw_.cell.lt hgx) (fun i hi => se.block i (rw_.lt i hi) (fun q_ => by have := HR.out.lt i hi; omega)) se.size
    have r6 := r5.grow (G := fun i => F i ∨ (w1.heap.size ≤ i ∧ i < (W.setCells xv 0 (#[.int .i64 1, .int .i64 mt, .int .u64 (R1.last + 1), .slice dB a cB, .slice dC a cC, .slice dG sa cG] : Array Value).toList).heap.size ∧ i ≠ g)) (fun i hi => Or.inl hi) (fun i hi => hi.elim (fun q_ => r5.lt i q_) (fun q_ => q_.2.1)) (fun q_ => q_.elim (fun q_ => HR.out.ng q_) (fun q_ => q_.2.2 rfl))
    have x6 : RFIn (W.setCells xv 0 (#[.int .i64 1, .int .i64 mt, .int .u64 (R1.last + 1), .slice dB a cB, .slice dC a cC, .slice dG sa cG] : Array Value).toList) (fun i => F i ∨ (w1.heap.size ≤ i ∧ i < (W.setCells xv 0 (#[.int .i64 1, .int .i64 mt, .int .u64 (R1.last + 1), .slice dB a cB, .slice dC a cC, .slice dG sa cG] : Array Value).toList).heap.size ∧ i ≠ g)) ⟨1, mt, R1.last + 1, .slice dB a cB, .slice dC a cC, .slice dG sa cG, a, sa⟩ :=
      ⟨byv_chg rB se (fun i hi => nB i hi), byv_chg rC se (fun i hi => nC i hi), blr_chg rG se (fun i hi => nG i hi), by rw [HSAE.out]; exact Nat.le_refl _, HA6.out, by have := HSA.out.1; have := HLIM.out.2.1; show sa ≤ 5000; omega,
        fun i hi => Or.inr ⟨Nat.le_trans hb1 (fB i hi), Nat.lt_of_lt_of_le (byv_lt rB i hi) hlt, fun e => by have := fB i hi; have := HGB.out; omega⟩, fun i hi => Or.inr ⟨Nat.le_trans hb1 (fC i hi), Nat.lt_of_lt_of_le (byv_lt rC i hi) hlt, fun e => by have := fC i hi; have := HGB.out; omega⟩, fun i hi => Or.inr ⟨Nat.le_trans hb1 (fG i hi), Nat.lt_of_lt_of_le (blr_lt rG i hi) hlt, fun e => by have := fG i hi; have := HGB.out; omega⟩⟩
    refine (rset_any g { R1 with last := R1.last + 1 } _ (k + 1 + 1) q ⟨1, mt, R1.last + 1, .slice dB a cB, .slice dC a cC, .slice dG sa cG, a, sa⟩ _ r6 (by omega) (by show q < R1.files.length; rw [← HMM.out]; exact hq) x6).mono ?_
    rintro e w' ⟨h1, h2⟩
    refine ⟨h1, ?_⟩
    obtain ⟨R8, F8, r8, c8, l8⟩ := RPost.trans (HC.out.trans cwe (fun _ _ h => h)) h2
    exact ⟨R8, F8, r8.up (by omega), c8, fun i hi => (l8 i hi).elim (fun q_ => q_.imp id fun u => Nat.le_trans HC.out.size u.1) Or.inr⟩)
  unfold ptr at FINL
  clear cX0 cX3
  generalize W2.drew = W0 at *
  unfold Base at hgb hxbb
  have FITB := Lib.hid (fun (W : World) (S : Chg (fun i => i = g) W0 W) => (rfit_v (HXK.out W S).b a HLIM.out.1 HA6.out).mono fun e w' he => (show ∃ v, e = .returned v ∧ ∃ d c, v = .slice d a c ∧ ByV w' (.slice d a c) a ∧ Ext W w' ∧ ∀ i, (Value.slice d a c).ownBlock = some i → W.heap.size ≤ i from by
    obtain ⟨v', e1, h1, h2, h3⟩ := he; obtain ⟨l_, hl_, hr_⟩ := h1; obtain ⟨d_, c_, rfl, -⟩ := hr_.shape; exact ⟨_, e1, d_, c_, rfl, ⟨l_, hl_, hr_⟩, h2, h3⟩))
  have FITC := Lib.hid (fun (W : World) (S : Chg (fun i => i = g) W0 W) => (rfit_v (HXK.out W S).s a HLIM.out.1 HA6.out).mono fun e w' he => (show ∃ v, e = .returned v ∧ ∃ d c, v = .slice d a c ∧ ByV w' (.slice d a c) a ∧ Ext W w' ∧ ∀ i, (Value.slice d a c).ownBlock = some i → W.heap.size ≤ i from by
    obtain ⟨v', e1, h1, h2, h3⟩ := he; obtain ⟨l_, hl_, hr_⟩ := h1; obtain ⟨d_, c_, rfl, -⟩ := hr_.shape; exact ⟨_, e1, d_, c_, rfl, ⟨l_, hl_, hr_⟩, h2, h3⟩))
  refine takeS 0 (some 56) (.pointer (some ⟨xb, 0, none⟩)) rfl rfl (by kernel_rfl) (by kernel_rfl) (by kernel_rfl) (fun _ _ _ h => h) rfl S0 (fun w' hw' => by go_simp) ?_
  simp only [Act.put, List.setIfInBounds_toArray, List.set_cons_zero, List.set_cons_succ]
  refine takeS 1 (some 57) (.int .i64 1) rfl rfl (by kernel_rfl) (by kernel_rfl) (by kernel_rfl) (fun _ _ _ h => h) rfl S0 (fun w' hw' => by have c0 := (AXK.out w' hw').cell 0; go_simp) ?_
  simp only [Act.put, List.setIfInBounds_toArray, List.set_cons_zero, List.set_cons_succ]
  refine takeS 2 (some 58) (.pointer (some ⟨xb, 1, none⟩)) rfl rfl (by kernel_rfl) (by kernel_rfl) (by kernel_rfl) (fun _ _ _ h => h) rfl S0 (fun w' hw' => by go_simp) ?_
  simp only [Act.put, List.setIfInBounds_toArray, List.set_cons_zero, List.set_cons_succ]
  refine takeS 3 (some 59) (.int .i64 mt) rfl rfl (by kernel_rfl) (by kernel_rfl) (by kernel_rfl) (fun _ _ _ h => h) rfl S0 (fun w' hw' => by have c0 := (AXK.out w' hw').cell 1; go_simp) ?_
  simp only [Act.put, List.setIfInBounds_toArray, List.set_cons_zero, List.set_cons_succ]
  refine takeS 4 (some 60) (.pointer (some ⟨g, 0, none⟩)) rfl rfl (by kernel_rfl) (by kernel_rfl) (by kernel_rfl) (fun _ _ _ h => h) rfl S0 (fun w' hw' => by go_simp) ?_
  simp only [Act.put, List.setIfInBounds_toArray, List.set_cons_zero, List.set_cons_succ]
  refine takeS 6 (some 62) (.pointer (some ⟨xb, 3, none⟩)) rfl rfl (by kernel_rfl) (by kernel_rfl) (by kernel_rfl) (fun _ _ _ h => h) rfl S0 (fun w' hw' => by go_simp) ?_
  simp only [Act.put, List.setIfInBounds_toArray, List.set_cons_zero, List.set_cons_succ]
  refine takeS 7 (some 63) (.slice db n cb) rfl rfl (by kernel_rfl) (by kernel_rfl) (by kernel_rfl) (fun _ _ _ h => h) rfl S0 (fun w' hw' => by have c0 := (AXK.out w' hw').cell 3; go_simp) ?_
  simp only [Act.put, List.setIfInBounds_toArray, List.set_cons_zero, List.set_cons_succ]
  refine takeS 8 (some 64) (.int .i64 a) rfl rfl (by kernel_rfl) (by kernel_rfl) (by kernel_rfl) (fun _ _ _ h => h) rfl S0 (fun w' hw' => by go_simp) ?_
  simp only [Act.put, List.setIfInBounds_toArray, List.set_cons_zero, List.set_cons_succ]
  refine takeS 10 (some 66) (.pointer (some ⟨xb, 4, none⟩)) rfl rfl (by kernel_rfl) (by kernel_rfl) (by kernel_rfl) (fun _ _ _ h => h) rfl S0 (fun w' hw' => by go_simp) ?_
  simp only [Act.put, List.setIfInBounds_toArray, List.set_cons_zero, List.set_cons_succ]
  refine takeS 11 (some 67) (.slice ds n cs) rfl rfl (by kernel_rfl) (by kernel_rfl) (by kernel_rfl) (fun _ _ _ h => h) rfl S0 (fun w' hw' => by have c0 := (AXK.out w' hw').cell 4; go_simp) ?_
  simp only [Act.put, List.setIfInBounds_toArray, List.set_cons_zero, List.set_cons_succ]
  refine takeS 12 (some 68) (.int .i64 a) rfl rfl (by kernel_rfl) (by kernel_rfl) (by kernel_rfl) (fun _ _ _ h => h) rfl S0 (fun w' hw' => by go_simp) ?_
  simp only [Act.put, List.setIfInBounds_toArray, List.set_cons_zero, List.set_cons_succ]
  refine takeS 15 (some 71) (.pointer (some ⟨xb, 5, none⟩)) rfl rfl (by kernel_rfl) (by kernel_rfl) (by kernel_rfl) (fun _ _ _ h => h) rfl S0 (fun w' hw' => by go_simp) ?_
  simp only [Act.put, List.setIfInBounds_toArray, List.set_cons_zero, List.set_cons_succ]
  refine takeS 16 (some 72) (.slice dd m cd) rfl rfl (by kernel_rfl) (by kernel_rfl) (by kernel_rfl) (fun _ _ _ h => h) rfl S0 (fun w' hw' => by have c0 := (AXK.out w' hw').cell 5; go_simp) ?_
  simp only [Act.put, List.setIfInBounds_toArray, List.set_cons_zero, List.set_cons_succ]
  refine takeS 17 (some 73) (.int .i64 a) rfl rfl (by kernel_rfl) (by kernel_rfl) (by kernel_rfl) (fun _ _ _ h => h) rfl S0 (fun w' hw' => by go_simp) ?_
  simp only [Act.put, List.setIfInBounds_toArray, List.set_cons_zero, List.set_cons_succ]
  refine name_goal fun Z hZ => ?_
  have H511 : ∀ (y1 y3 y4 y5 y6 y7 y8 y10 y12 y13 y14 y15 y16 y17 y18 y19 y20 y21 y22 y23 y24 y25 y26 y27 y28 y29 y30 y31 y32 y33 y34 y35 y36 y37 y38 y39 y40 y41 y42 y43 y44 y45 y46 y47 y48 y49 y50 y51 y52 y53 y54 y55 : Value) (W : World) (S : Chg (fun i => i = g) W0 W) (rr : RRep W g { R1 with last := R1.last + 1 } F (k + 1 + 1)) (gd : Nat) (xv : Nat) (aV : At W xv #[.int .i64 0, .int .i64 0, .int .u64 0, .slice none 0 0, .slice none 0 0, .slice none 0 0] 106) (fV : Base W0 ≤ xv) (dB : Option Addr) (cB : Nat) (rB : ByV W (.slice dB a cB) a) (fB : ∀ i, (.slice dB a cB : Value).ownBlock = some i → Base W0 ≤ i) (neB : ∀ i, (.slice dB a cB : Value).ownBlock = some i → i ≠ xv) (dC : Option Addr) (cC : Nat) (rC : ByV W (.slice dC a cC) a) (fC : ∀ i, (.slice dC a cC : Value).ownBlock = some i → Base W0 ≤ i) (neC : ∀ i, (.slice dC a cC : Value).ownBlock = some i → i ≠ xv) (dG : Option Addr) (cG : Nat) (rG : BlR W (.slice dG sa cG) sa) (fG : ∀ i, (.slice dG sa cG : Value).ownBlock = some i → Base W0 ≤ i) (neG : ∀ i, (.slice dG sa cG : Value).ownBlock = some i → i ≠ xv), Z 1 #[true, true, true, true, true, true, true, true, true, true, true, true, true, true, true, true, true, true, true, true, true, true, true, false] ⟨#[.pointer (some ⟨g, 0, none⟩), y1, .int .i64 a, y3, y4, y5, y6, y7, y8, .int .i64 q, y10, .pointer (some ⟨xv, 0, none⟩), y12, y13, y14, y15, y16, y17, y18, y19, y20, y21, y22, y23, y24, y25, y26, y27, y28, y29, y30, y31, y32, y33, y34, y35, y36, y37, y38, y39, y40, y41, y42, y43, y44, y45, y46, y47, y48, y49, y50, y51, y52, y53, y54, y55, .pointer (some ⟨xb, 0, none⟩), .int .i64 1, .pointer (some ⟨xb, 1, none⟩), .int .i64 mt, .pointer (some ⟨g, 0, none⟩), .int .u64 (R1.last + 1), .pointer (some ⟨xb, 3, none⟩), .slice db n cb, .int .i64 a, .slice dB a cB, .pointer (some ⟨xb, 4, none⟩), .slice ds n cs, .int .i64 a, .slice dC a cC, .slice (some ⟨gd, 0, none⟩) 0 0, .pointer (some ⟨xb, 5, none⟩), .slice dd m cd, .int .i64 a, .int .i64 sa, .slice dd sa cd, .slice dG sa cG, .agg #[.int .i64 1, .int .i64 mt, .int .u64 (R1.last + 1), .slice dB a cB, .slice dC a cC, .slice dG sa cG], undef, undef, undef, undef], []⟩ W := by
    intro y1 y3 y4 y5 y6 y7 y8 y10 y12 y13 y14 y15 y16 y17 y18 y19 y20 y21 y22 y23 y24 y25 y26 y27 y28 y29 y30 y31 y32 y33 y34 y35 y36 y37 y38 y39 y40 y41 y42 y43 y44 y45 y46 y47 y48 y49 y50 y51 y52 y53 y54 y55 W S rr gd xv aV fV dB cB rB fB neB dC cC rC fC neC dG cG rG fG neG
    rw [hZ]
    have SE_ := S.trans (Chg.sets xv (#[.int .i64 1, .int .i64 mt, .int .u64 (R1.last + 1), .slice dB a cB, .slice dC a cC, .slice dG sa cG] : Array Value).toList 0 W) (fun i hi q_ => by have := fV; unfold Base at this; omega)
    have FN := FINL.out W xv dB cB dC cC dG cG S rr aV fV rB fB neB rC fC neC rG fG neG
    refine nextS 23 rfl (by kernel_rfl) rfl (wp_store_mid 106 (.tmp 11) (.tmp 77) rfl xv 0 #[.int .i64 1, .int .i64 mt, .int .u64 (R1.last + 1), .slice dB a cB, .slice dC a cC, .slice dG sa cG] rfl rfl (at_there aV 0 6 (by decide)) (by exact size106) (by simp [Value.oneCell']) ?_)
    simp only [Act.put]
    have HF := Lib.hid FN.2
    have k0 := FN.1.cell 0
    have k1 := FN.1.cell 1
    have k2 := FN.1.cell 2
    have k3 := FN.1.cell 3
    have k4 := FN.1.cell 4
    have k5 := FN.1.cell 5
    clear FN
    generalize W.setCells xv 0 (#[.int .i64 1, .int .i64 mt, .int .u64 (R1.last + 1), .slice dB a cB, .slice dC a cC, .slice dG sa cG] : Array Value).toList = We at *
    refine ⟨SE_, ?_⟩
    refine wpAnyH_done (by kernel_rfl) ?_ _
    clear SE_ S rr aV fV rB fB neB rC fC neC rG fG neG
    go_wp2_with fail
    refine (HF.out).mono ?_
    rintro e_ w8 ⟨rfl, p8⟩
    have P8 := Lib.hid p8
    clear p8 k0 k1 k2 k3 k4 k5
    go_wp2
    go_ret
    exact ⟨⟨_, rfl⟩, P8.out⟩
  have H510 : ∀ (y1 y3 y4 y5 y6 y7 y8 y10 y12 y13 y14 y15 y16 y17 y18 y19 y20 y21 y22 y23 y24 y25 y26 y27 y28 y29 y30 y31 y32 y33 y34 y35 y36 y37 y38 y39 y40 y41 y42 y43 y44 y45 y46 y47 y48 y49 y50 y51 y52 y53 y54 y55 : Value) (W : World) (S : Chg (fun i => i = g) W0 W) (rr : RRep W g { R1 with last := R1.last + 1 } F (k + 1 + 1)) (gd : Nat) (dB : Option Addr) (cB : Nat) (rB : ByV W (.slice dB a cB) a) (fB : ∀ i, (.slice dB a cB : Value).ownBlock = some i → Base W0 ≤ i) (dC : Option Addr) (cC : Nat) (rC : ByV W (.slice dC a cC) a) (fC : ∀ i, (.slice dC a cC : Value).ownBlock = some i → Base W0 ≤ i) (dG : Option Addr) (cG : Nat) (rG : BlR W (.slice dG sa cG) sa) (fG : ∀ i, (.slice dG sa cG : Value).ownBlock = some i → Base W0 ≤ i), Z 2 #[true, true, true, true, true, true, true, true, true, true, true, true, true, true, true, true, true, true, true, true, true, true, false, false] ⟨#[.pointer (some ⟨g, 0, none⟩), y1, .int .i64 a, y3, y4, y5, y6, y7, y8, .int .i64 q, y10, undef, y12, y13, y14, y15, y16, y17, y18, y19, y20, y21, y22, y23, y24, y25, y26, y27, y28, y29, y30, y31, y32, y33, y34, y35, y36, y37, y38, y39, y40, y41, y42, y43, y44, y45, y46, y47, y48, y49, y50, y51, y52, y53, y54, y55, .pointer (some ⟨xb, 0, none⟩), .int .i64 1, .pointer (some ⟨xb, 1, none⟩), .int .i64 mt, .pointer (some ⟨g, 0, none⟩), .int .u64 (R1.last + 1), .pointer (some ⟨xb, 3, none⟩), .slice db n cb, .int .i64 a, .slice dB a cB, .pointer (some ⟨xb, 4, none⟩), .slice ds n cs, .int .i64 a, .slice dC a cC, .slice (some ⟨gd, 0, none⟩) 0 0, .pointer (some ⟨xb, 5, none⟩), .slice dd m cd, .int .i64 a, .int .i64 sa, .slice dd sa cd, .slice dG sa cG, .agg #[.int .i64 1, .int .i64 mt, .int .u64 (R1.last + 1), .slice dB a cB, .slice dC a cC, .slice dG sa cG], undef, undef, undef, undef], []⟩ W := by
    intro y1 y3 y4 y5 y6 y7 y8 y10 y12 y13 y14 y15 y16 y17 y18 y19 y20 y21 y22 y23 y24 y25 y26 y27 y28 y29 y30 y31 y32 y33 y34 y35 y36 y37 y38 y39 y40 y41 y42 y43 y44 y45 y46 y47 y48 y49 y50 y51 y52 y53 y54 y55 W S rr gd dB cB rB fB dC cC rC fC dG cG rG fG
    rw [hZ]
    refine nextS 22 rfl (by kernel_rfl) rfl (makeR (some 11) rfl (.pointer (some ⟨W.heap.size, 0, none⟩)) (w1 := W.alloc (.cells #[.int .i64 0, .int .i64 0, .int .u64 0, .slice none 0 0, .slice none 0 0, .slice none 0 0] 106)) (by go_simp) ?_)
    simp only [Act.put, List.setIfInBounds_toArray, List.set_cons_zero, List.set_cons_succ]
    have x_ : Ext W (W.alloc (.cells #[.int .i64 0, .int .i64 0, .int .u64 0, .slice none 0 0, .slice none 0 0, .slice none 0 0] 106)) := Ext.alloc W _
    have aV := At.new W #[.int .i64 0, .int .i64 0, .int .u64 0, .slice none 0 0, .slice none 0 0, .slice none 0 0] 106
    have fV : Base W0 ≤ W.heap.size := S.size
    have neB : ∀ i, (.slice dB a cB : Value).ownBlock = some i → i ≠ W.heap.size := fun i hi => by have := byv_lt rB i hi; omega
    have neC : ∀ i, (.slice dC a cC : Value).ownBlock = some i → i ≠ W.heap.size := fun i hi => by have := byv_lt rC i hi; omega
    have neG : ∀ i, (.slice dG sa cG : Value).ownBlock = some i → i ≠ W.heap.size := fun i hi => by have := blr_lt rG i hi; omega
    have rr' := rr.ext x_
    have rB' := byv_ext rB x_
    have rC' := byv_ext rC x_
    have rG' := blr_ext rG x_
    have S' := S.trans (Chg.of_ext (X := fun i => i = g) x_) (fun _ _ h => h)
    refine ⟨S', ?_⟩
    rw [← hZ]
    exact H511 _ _ _ _ _ _ _ _ _ _ _ _ _ _ _ _ _ _ _ _ _ _ _ _ _ _ _ _ _ _ _ _ _ _ _ _ _ _ _ _ _ _ _ _ _ _ _ _ _ _ _ _ (W.alloc (.cells #[.int .i64 0, .int .i64 0, .int .u64 0, .slice none 0 0, .slice none 0 0, .slice none 0 0] 106)) S' rr' gd W.heap.size aV fV dB cB rB' fB neB dC cC rC' fC neC dG cG rG' fG neG
  have H411 : ∀ (y1 y3 y4 y5 y6 y7 y8 y10 y12 y13 y14 y15 y16 y17 y18 y19 y20 y21 y22 y23 y24 y25 y26 y27 y28 y29 y30 y31 y32 y33 y34 y35 y36 y37 y38 y39 y40 y41 y42 y43 y44 y45 y46 y47 y48 y49 y50 y51 y52 y53 y54 y55 : Value) (W : World) (S : Chg (fun i => i = g) W0 W) (rr : RRep W g { R1 with last := R1.last + 1 } F (k + 1 + 1)) (gd : Nat) (z : Row W 4 1 (.slice (some ⟨gd, 0, none⟩) 0 0) 0 []) (fz : Base W0 ≤ gd) (xv : Nat) (aV : At W xv #[.int .i64 0, .int .i64 0, .int .u64 0, .slice none 0 0, .slice none 0 0, .slice none 0 0] 106) (fV : Base W0 ≤ xv) (neD : ¬ gd = xv) (dB : Option Addr) (cB : Nat) (rB : ByV W (.slice dB a cB) a) (fB : ∀ i, (.slice dB a cB : Value).ownBlock = some i → Base W0 ≤ i) (neB : ∀ i, (.slice dB a cB : Value).ownBlock = some i → i ≠ xv) (dC : Option Addr) (cC : Nat) (rC : ByV W (.slice dC a cC) a) (fC : ∀ i, (.slice dC a cC : Value).ownBlock = some i → Base W0 ≤ i) (neC : ∀ i, (.slice dC a cC : Value).ownBlock = some i → i ≠ xv), Z 3 #[true, true, true, true, true, true, true, true, true, true, true, true, true, true, true, true, true, true, true, true, false, false, true, false] ⟨#[.pointer (some ⟨g, 0, none⟩), y1, .int .i64 a, y3, y4, y5, y6, y7, y8, .int .i64 q, y10, .pointer (some ⟨xv, 0, none⟩), y12, y13, y14, y15, y16, y17, y18, y19, y20, y21, y22, y23, y24, y25, y26, y27, y28, y29, y30, y31, y32, y33, y34, y35, y36, y37, y38, y39, y40, y41, y42, y43, y44, y45, y46, y47, y48, y49, y50, y51, y52, y53, y54, y55, .pointer (some ⟨xb, 0, none⟩), .int .i64 1, .pointer (some ⟨xb, 1, none⟩), .int .i64 mt, .pointer (some ⟨g, 0, none⟩), .int .u64 (R1.last + 1), .pointer (some ⟨xb, 3, none⟩), .slice db n cb, .int .i64 a, .slice dB a cB, .pointer (some ⟨xb, 4, none⟩), .slice ds n cs, .int .i64 a, .slice dC a cC, .slice (some ⟨gd, 0, none⟩) 0 0, .pointer (some ⟨xb, 5, none⟩), .slice dd m cd, .int .i64 a, .int .i64 sa, .slice dd sa cd, undef, undef, undef, undef, undef, undef], []⟩ W := by
    intro y1 y3 y4 y5 y6 y7 y8 y10 y12 y13 y14 y15 y16 y17 y18 y19 y20 y21 y22 y23 y24 y25 y26 y27 y28 y29 y30 y31 y32 y33 y34 y35 y36 y37 y38 y39 y40 y41 y42 y43 y44 y45 y46 y47 y48 y49 y50 y51 y52 y53 y54 y55 W S rr gd z fz xv aV fV neD dB cB rB fB neB dC cC rC fC neC
    rw [hZ]
    obtain ⟨ld_, hld_, rd_⟩ := (HXK.out W S).d
    obtain ⟨v_, W', h_, rG_, x_, ff_⟩ := app_src 69 Tryz.underlying69 info4 rfl (by omega) z (row_front rd_ (bls_one ld_) Tryz.underlying69 sa cd HSA.out.1) HSA.out.2
    obtain ⟨dG, cG, ev_, -⟩ := rG_.shape
    subst ev_
    have rG : BlR W' (.slice dG sa cG) sa := ⟨ld_.take sa, by have := HSA.out.1; have h2_ : ld_.length = m := hld_; rw [List.length_take]; omega, by rw [show (bls ld_).take (sa * 1) = bls (ld_.take sa) by rw [Nat.mul_one]; simp [bls, List.map_take]] at rG_; exact rG_⟩
    have fG : ∀ i, (.slice dG sa cG : Value).ownBlock = some i → Base W0 ≤ i := fun i hi => by rcases ff_ i hi with q_ | q_; exact (by rw [q_]; exact fz); exact (by have h_ := S.size; unfold Base; omega)
    have neG : ∀ i, (.slice dG sa cG : Value).ownBlock = some i → i ≠ xv := fun i hi => by rcases ff_ i hi with q_ | q_; exact (by rw [q_]; exact neD); exact (by have := aV.lt; omega)
    have rr' := rr.ext x_
    have aV' := aV.ext x_
    have rB' := byv_ext rB x_
    have rC' := byv_ext rC x_
    have S' := S.trans (Chg.of_ext (X := fun i => i = g) x_) (fun _ _ h => h)
    clear rG_ rd_ ff_
    refine nextS 20 rfl (by kernel_rfl) rfl (appR (some 76) rfl (.tmp 70) (.tmp 75) 69 69 rfl _ _ rfl rfl _ _ h_ ?_)
    simp only [Act.put, List.setIfInBounds_toArray, List.set_cons_zero, List.set_cons_succ]
    refine ⟨S', ?_⟩
    refine takeS 21 (some 77) (.agg #[.int .i64 1, .int .i64 mt, .int .u64 (R1.last + 1), .slice dB a cB, .slice dC a cC, .slice dG sa cG]) rfl rfl (by kernel_rfl) (by kernel_rfl) (by kernel_rfl) (fun _ _ _ h => h) rfl S' (fun w' hw' => by go_simp) ?_
    simp only [Act.put, List.setIfInBounds_toArray, List.set_cons_zero, List.set_cons_succ]
    rw [← hZ]
    exact H511 _ _ _ _ _ _ _ _ _ _ _ _ _ _ _ _ _ _ _ _ _ _ _ _ _ _ _ _ _ _ _ _ _ _ _ _ _ _ _ _ _ _ _ _ _ _ _ _ _ _ _ _ W' S' rr' gd xv aV' fV dB cB rB' fB neB dC cC rC' fC neC dG cG rG fG neG
  have H410 : ∀ (y1 y3 y4 y5 y6 y7 y8 y10 y12 y13 y14 y15 y16 y17 y18 y19 y20 y21 y22 y23 y24 y25 y26 y27 y28 y29 y30 y31 y32 y33 y34 y35 y36 y37 y38 y39 y40 y41 y42 y43 y44 y45 y46 y47 y48 y49 y50 y51 y52 y53 y54 y55 : Value) (W : World) (S : Chg (fun i => i = g) W0 W) (rr : RRep W g { R1 with last := R1.last + 1 } F (k + 1 + 1)) (gd : Nat) (z : Row W 4 1 (.slice (some ⟨gd, 0, none⟩) 0 0) 0 []) (fz : Base W0 ≤ gd) (dB : Option Addr) (cB : Nat) (rB : ByV W (.slice dB a cB) a) (fB : ∀ i, (.slice dB a cB : Value).ownBlock = some i → Base W0 ≤ i) (dC : Option Addr) (cC : Nat) (rC : ByV W (.slice dC a cC) a) (fC : ∀ i, (.slice dC a cC : Value).ownBlock = some i → Base W0 ≤ i), Z 4 #[true, true, true, true, true, true, true, true, true, true, true, true, true, true, true, true, true, true, true, true, false, false, false, false] ⟨#[.pointer (some ⟨g, 0, none⟩), y1, .int .i64 a, y3, y4, y5, y6, y7, y8, .int .i64 q, y10, undef, y12, y13, y14, y15, y16, y17, y18, y19, y20, y21, y22, y23, y24, y25, y26, y27, y28, y29, y30, y31, y32, y33, y34, y35, y36, y37, y38, y39, y40, y41, y42, y43, y44, y45, y46, y47, y48, y49, y50, y51, y52, y53, y54, y55, .pointer (some ⟨xb, 0, none⟩), .int .i64 1, .pointer (some ⟨xb, 1, none⟩), .int .i64 mt, .pointer (some ⟨g, 0, none⟩), .int .u64 (R1.last + 1), .pointer (some ⟨xb, 3, none⟩), .slice db n cb, .int .i64 a, .slice dB a cB, .pointer (some ⟨xb, 4, none⟩), .slice ds n cs, .int .i64 a, .slice dC a cC, .slice (some ⟨gd, 0, none⟩) 0 0, .pointer (some ⟨xb, 5, none⟩), .slice dd m cd, .int .i64 a, .int .i64 sa, .slice dd sa cd, undef, undef, undef, undef, undef, undef], []⟩ W := by
    intro y1 y3 y4 y5 y6 y7 y8 y10 y12 y13 y14 y15 y16 y17 y18 y19 y20 y21 y22 y23 y24 y25 y26 y27 y28 y29 y30 y31 y32 y33 y34 y35 y36 y37 y38 y39 y40 y41 y42 y43 y44 y45 y46 y47 y48 y49 y50 y51 y52 y53 y54 y55 W S rr gd z fz dB cB rB fB dC cC rC fC
    rw [hZ]
    refine nextR2 20 22 rfl rfl (by kernel_rfl) rfl rfl ?_ ?_
    · skip
      obtain ⟨ld_, hld_, rd_⟩ := (HXK.out W S).d
      obtain ⟨v_, W', h_, rG_, x_, ff_⟩ := app_src 69 Tryz.underlying69 info4 rfl (by omega) z (row_front rd_ (bls_one ld_) Tryz.underlying69 sa cd HSA.out.1) HSA.out.2
      obtain ⟨dG, cG, ev_, -⟩ := rG_.shape
      subst ev_
      have rG : BlR W' (.slice dG sa cG) sa := ⟨ld_.take sa, by have := HSA.out.1; have h2_ : ld_.length = m := hld_; rw [List.length_take]; omega, by rw [show (bls ld_).take (sa * 1) = bls (ld_.take sa) by rw [Nat.mul_one]; simp [bls, List.map_take]] at rG_; exact rG_⟩
      have fG : ∀ i, (.slice dG sa cG : Value).ownBlock = some i → Base W0 ≤ i := fun i hi => by rcases ff_ i hi with q_ | q_; exact (by rw [q_]; exact fz); exact (by have h_ := S.size; unfold Base; omega)
      have rr' := rr.ext x_
      have rB' := byv_ext rB x_
      have rC' := byv_ext rC x_
      have S' := S.trans (Chg.of_ext (X := fun i => i = g) x_) (fun _ _ h => h)
      clear rG_ rd_ ff_
      refine (appR (some 76) rfl (.tmp 70) (.tmp 75) 69 69 rfl _ _ rfl rfl _ _ h_ ?_)
      simp only [Act.put, List.setIfInBounds_toArray, List.set_cons_zero, List.set_cons_succ]
      refine ⟨S', ?_⟩
      refine takeS 21 (some 77) (.agg #[.int .i64 1, .int .i64 mt, .int .u64 (R1.last + 1), .slice dB a cB, .slice dC a cC, .slice dG sa cG]) rfl rfl (by kernel_rfl) (by kernel_rfl) (by kernel_rfl) (fun _ _ _ h => h) rfl S' (fun w' hw' => by go_simp) ?_
      simp only [Act.put, List.setIfInBounds_toArray, List.set_cons_zero, List.set_cons_succ]
      rw [← hZ]
      exact H510 _ _ _ _ _ _ _ _ _ _ _ _ _ _ _ _ _ _ _ _ _ _ _ _ _ _ _ _ _ _ _ _ _ _ _ _ _ _ _ _ _ _ _ _ _ _ _ _ _ _ _ _ W' S' rr' gd dB cB rB' fB dC cC rC' fC dG cG rG fG
    · skip
      refine (makeR (some 11) rfl (.pointer (some ⟨W.heap.size, 0, none⟩)) (w1 := W.alloc (.cells #[.int .i64 0, .int .i64 0, .int .u64 0, .slice none 0 0, .slice none 0 0, .slice none 0 0] 106)) (by go_simp) ?_)
      simp only [Act.put, List.setIfInBounds_toArray, List.set_cons_zero, List.set_cons_succ]
      have x_ : Ext W (W.alloc (.cells #[.int .i64 0, .int .i64 0, .int .u64 0, .slice none 0 0, .slice none 0 0, .slice none 0 0] 106)) := Ext.alloc W _
      have aV := At.new W #[.int .i64 0, .int .i64 0, .int .u64 0, .slice none 0 0, .slice none 0 0, .slice none 0 0] 106
      have fV : Base W0 ≤ W.heap.size := S.size
      have neB : ∀ i, (.slice dB a cB : Value).ownBlock = some i → i ≠ W.heap.size := fun i hi => by have := byv_lt rB i hi; omega
      have neC : ∀ i, (.slice dC a cC : Value).ownBlock = some i → i ≠ W.heap.size := fun i hi => by have := byv_lt rC i hi; omega
      have neD : ¬ gd = W.heap.size := by have := z.lt gd rfl; omega
      have rr' := rr.ext x_
      have z' := z.ext x_
      have rB' := byv_ext rB x_
      have rC' := byv_ext rC x_
      have S' := S.trans (Chg.of_ext (X := fun i => i = g) x_) (fun _ _ h => h)
      refine ⟨S', ?_⟩
      rw [← hZ]
      exact H411 _ _ _ _ _ _ _ _ _ _ _ _ _ _ _ _ _ _ _ _ _ _ _ _ _ _ _ _ _ _ _ _ _ _ _ _ _ _ _ _ _ _ _ _ _ _ _ _ _ _ _ _ (W.alloc (.cells #[.int .i64 0, .int .i64 0, .int .u64 0, .slice none 0 0, .slice none 0 0, .slice none 0 0] 106)) S' rr' gd z' fz W.heap.size aV fV neD dB cB rB' fB neB dC cC rC' fC neC
  have H401 : ∀ (y1 y3 y4 y5 y6 y7 y8 y10 y12 y13 y14 y15 y16 y17 y18 y19 y20 y21 y22 y23 y24 y25 y26 y27 y28 y29 y30 y31 y32 y33 y34 y35 y36 y37 y38 y39 y40 y41 y42 y43 y44 y45 y46 y47 y48 y49 y50 y51 y52 y53 y54 y55 : Value) (W : World) (S : Chg (fun i => i = g) W0 W) (rr : RRep W g { R1 with last := R1.last + 1 } F (k + 1 + 1)) (xv : Nat) (aV : At W xv #[.int .i64 0, .int .i64 0, .int .u64 0, .slice none 0 0, .slice none 0 0, .slice none 0 0] 106) (fV : Base W0 ≤ xv) (dB : Option Addr) (cB : Nat) (rB : ByV W (.slice dB a cB) a) (fB : ∀ i, (.slice dB a cB : Value).ownBlock = some i → Base W0 ≤ i) (neB : ∀ i, (.slice dB a cB : Value).ownBlock = some i → i ≠ xv) (dC : Option Addr) (cC : Nat) (rC : ByV W (.slice dC a cC) a) (fC : ∀ i, (.slice dC a cC : Value).ownBlock = some i → Base W0 ≤ i) (neC : ∀ i, (.slice dC a cC : Value).ownBlock = some i → i ≠ xv), Z 4 #[true, true, true, true, true, true, true, true, true, true, true, true, true, true, false, true, true, true, true, true, false, false, true, false] ⟨#[.pointer (some ⟨g, 0, none⟩), y1, .int .i64 a, y3, y4, y5, y6, y7, y8, .int .i64 q, y10, .pointer (some ⟨xv, 0, none⟩), y12, y13, y14, y15, y16, y17, y18, y19, y20, y21, y22, y23, y24, y25, y26, y27, y28, y29, y30, y31, y32, y33, y34, y35, y36, y37, y38, y39, y40, y41, y42, y43, y44, y45, y46, y47, y48, y49, y50, y51, y52, y53, y54, y55, .pointer (some ⟨xb, 0, none⟩), .int .i64 1, .pointer (some ⟨xb, 1, none⟩), .int .i64 mt, .pointer (some ⟨g, 0, none⟩), .int .u64 (R1.last + 1), .pointer (some ⟨xb, 3, none⟩), .slice db n cb, .int .i64 a, .slice dB a cB, .pointer (some ⟨xb, 4, none⟩), .slice ds n cs, .int .i64 a, .slice dC a cC, undef, .pointer (some ⟨xb, 5, none⟩), .slice dd m cd, .int .i64 a, .int .i64 sa, .slice dd sa cd, undef, undef, undef, undef, undef, undef], []⟩ W := by
    intro y1 y3 y4 y5 y6 y7 y8 y10 y12 y13 y14 y15 y16 y17 y18 y19 y20 y21 y22 y23 y24 y25 y26 y27 y28 y29 y30 y31 y32 y33 y34 y35 y36 y37 y38 y39 y40 y41 y42 y43 y44 y45 y46 y47 y48 y49 y50 y51 y52 y53 y54 y55 W S rr xv aV fV dB cB rB fB neB dC cC rC fC neC
    rw [hZ]
    refine nextS 14 rfl (by kernel_rfl) rfl (makeR (some 70) rfl (.slice (some ⟨W.heap.size, 0, none⟩) 0 0) (w1 := W.alloc (.cells #[] 4)) (by go_simp) ?_)
    simp only [Act.put, List.setIfInBounds_toArray, List.set_cons_zero, List.set_cons_succ]
    have x_ : Ext W (W.alloc (.cells #[] 4)) := Ext.alloc W _
    have z' := empty_row W 4 1
    have fz : Base W0 ≤ W.heap.size := S.size
    have neD : ¬ W.heap.size = xv := by have := aV.lt; omega
    have rr' := rr.ext x_
    have aV' := aV.ext x_
    have rB' := byv_ext rB x_
    have rC' := byv_ext rC x_
    have S' := S.trans (Chg.of_ext (X := fun i => i = g) x_) (fun _ _ h => h)
    refine ⟨S', ?_⟩
    rw [← hZ]
    exact H411 _ _ _ _ _ _ _ _ _ _ _ _ _ _ _ _ _ _ _ _ _ _ _ _ _ _ _ _ _ _ _ _ _ _ _ _ _ _ _ _ _ _ _ _ _ _ _ _ _ _ _ _ (W.alloc (.cells #[] 4)) S' rr' W.heap.size z' fz xv aV' fV neD dB cB rB' fB neB dC cC rC' fC neC
  have H400 : ∀ (y1 y3 y4 y5 y6 y7 y8 y10 y12 y13 y14 y15 y16 y17 y18 y19 y20 y21 y22 y23 y24 y25 y26 y27 y28 y29 y30 y31 y32 y33 y34 y35 y36 y37 y38 y39 y40 y41 y42 y43 y44 y45 y46 y47 y48 y49 y50 y51 y52 y53 y54 y55 : Value) (W : World) (S : Chg (fun i => i = g) W0 W) (rr : RRep W g { R1 with last := R1.last + 1 } F (k + 1 + 1)) (dB : Option Addr) (cB : Nat) (rB : ByV W (.slice dB a cB) a) (fB : ∀ i, (.slice dB a cB : Value).ownBlock = some i → Base W0 ≤ i) (dC : Option Addr) (cC : Nat) (rC : ByV W (.slice dC a cC) a) (fC : ∀ i, (.slice dC a cC : Value).ownBlock = some i → Base W0 ≤ i), Z 5 #[true, true, true, true, true, true, true, true, true, true, true, true, true, true, false, true, true, true, true, true, false, false, false, false] ⟨#[.pointer (some ⟨g, 0, none⟩), y1, .int .i64 a, y3, y4, y5, y6, y7, y8, .int .i64 q, y10, undef, y12, y13, y14, y15, y16, y17, y18, y19, y20, y21, y22, y23, y24, y25, y26, y27, y28, y29, y30, y31, y32, y33, y34, y35, y36, y37, y38, y39, y40, y41, y42, y43, y44, y45, y46, y47, y48, y49, y50, y51, y52, y53, y54, y55, .pointer (some ⟨xb, 0, none⟩), .int .i64 1, .pointer (some ⟨xb, 1, none⟩), .int .i64 mt, .pointer (some ⟨g, 0, none⟩), .int .u64 (R1.last + 1), .pointer (some ⟨xb, 3, none⟩), .slice db n cb, .int .i64 a, .slice dB a cB, .pointer (some ⟨xb, 4, none⟩), .slice ds n cs, .int .i64 a, .slice dC a cC, undef, .pointer (some ⟨xb, 5, none⟩), .slice dd m cd, .int .i64 a, .int .i64 sa, .slice dd sa cd, undef, undef, undef, undef, undef, undef], []⟩ W := by
    intro y1 y3 y4 y5 y6 y7 y8 y10 y12 y13 y14 y15 y16 y17 y18 y19 y20 y21 y22 y23 y24 y25 y26 y27 y28 y29 y30 y31 y32 y33 y34 y35 y36 y37 y38 y39 y40 y41 y42 y43 y44 y45 y46 y47 y48 y49 y50 y51 y52 y53 y54 y55 W S rr dB cB rB fB dC cC rC fC
    rw [hZ]
    refine nextR2 14 22 rfl rfl (by kernel_rfl) rfl rfl ?_ ?_
    · skip
      refine (makeR (some 70) rfl (.slice (some ⟨W.heap.size, 0, none⟩) 0 0) (w1 := W.alloc (.cells #[] 4)) (by go_simp) ?_)
      simp only [Act.put, List.setIfInBounds_toArray, List.set_cons_zero, List.set_cons_succ]
      have x_ : Ext W (W.alloc (.cells #[] 4)) := Ext.alloc W _
      have z' := empty_row W 4 1
      have fz : Base W0 ≤ W.heap.size := S.size
      have rr' := rr.ext x_
      have rB' := byv_ext rB x_
      have rC' := byv_ext rC x_
      have S' := S.trans (Chg.of_ext (X := fun i => i = g) x_) (fun _ _ h => h)
      refine ⟨S', ?_⟩
      rw [← hZ]
      exact H410 _ _ _ _ _ _ _ _ _ _ _ _ _ _ _ _ _ _ _ _ _ _ _ _ _ _ _ _ _ _ _ _ _ _ _ _ _ _ _ _ _ _ _ _ _ _ _ _ _ _ _ _ (W.alloc (.cells #[] 4)) S' rr' W.heap.size z' fz dB cB rB' fB dC cC rC' fC
    · skip
      refine (makeR (some 11) rfl (.pointer (some ⟨W.heap.size, 0, none⟩)) (w1 := W.alloc (.cells #[.int .i64 0, .int .i64 0, .int .u64 0, .slice none 0 0, .slice none 0 0, .slice none 0 0] 106)) (by go_simp) ?_)
      simp only [Act.put, List.setIfInBounds_toArray, List.set_cons_zero, List.set_cons_succ]
      have x_ : Ext W (W.alloc (.cells #[.int .i64 0, .int .i64 0, .int .u64 0, .slice none 0 0, .slice none 0 0, .slice none 0 0] 106)) := Ext.alloc W _
      have aV := At.new W #[.int .i64 0, .int .i64 0, .int .u64 0, .slice none 0 0, .slice none 0 0, .slice none 0 0] 106
      have fV : Base W0 ≤ W.heap.size := S.size
      have neB : ∀ i, (.slice dB a cB : Value).ownBlock = some i → i ≠ W.heap.size := fun i hi => by have := byv_lt rB i hi; omega
      have neC : ∀ i, (.slice dC a cC : Value).ownBlock = some i → i ≠ W.heap.size := fun i hi => by have := byv_lt rC i hi; omega
      have rr' := rr.ext x_
      have rB' := byv_ext rB x_
      have rC' := byv_ext rC x_
      have S' := S.trans (Chg.of_ext (X := fun i => i = g) x_) (fun _ _ h => h)
      refine ⟨S', ?_⟩
      rw [← hZ]
      exact H401 _ _ _ _ _ _ _ _ _ _ _ _ _ _ _ _ _ _ _ _ _ _ _ _ _ _ _ _ _ _ _ _ _ _ _ _ _ _ _ _ _ _ _ _ _ _ _ _ _ _ _ _ (W.alloc (.cells #[.int .i64 0, .int .i64 0, .int .u64 0, .slice none 0 0, .slice none 0 0, .slice none 0 0] 106)) S' rr' W.heap.size aV fV dB cB rB' fB neB dC cC rC' fC neC
  have H311 : ∀ (y1 y3 y4 y5 y6 y7 y8 y10 y12 y13 y14 y15 y16 y17 y18 y19 y20 y21 y22 y23 y24 y25 y26 y27 y28 y29 y30 y31 y32 y33 y34 y35 y36 y37 y38 y39 y40 y41 y42 y43 y44 y45 y46 y47 y48 y49 y50 y51 y52 y53 y54 y55 : Value) (W : World) (S : Chg (fun i => i = g) W0 W) (rr : RRep W g { R1 with last := R1.last + 1 } F (k + 1 + 1)) (gd : Nat) (z : Row W 4 1 (.slice (some ⟨gd, 0, none⟩) 0 0) 0 []) (fz : Base W0 ≤ gd) (xv : Nat) (aV : At W xv #[.int .i64 0, .int .i64 0, .int .u64 0, .slice none 0 0, .slice none 0 0, .slice none 0 0] 106) (fV : Base W0 ≤ xv) (neD : ¬ gd = xv) (dB : Option Addr) (cB : Nat) (rB : ByV W (.slice dB a cB) a) (fB : ∀ i, (.slice dB a cB : Value).ownBlock = some i → Base W0 ≤ i) (neB : ∀ i, (.slice dB a cB : Value).ownBlock = some i → i ≠ xv) (dC : Option Addr) (cC : Nat) (rC : ByV W (.slice dC a cC) a) (fC : ∀ i, (.slice dC a cC : Value).ownBlock = some i → Base W0 ≤ i) (neC : ∀ i, (.slice dC a cC : Value).ownBlock = some i → i ≠ xv), Z 5 #[true, true, true, true, true, true, true, true, true, true, true, true, true, true, true, true, true, true, false, false, false, false, true, false] ⟨#[.pointer (some ⟨g, 0, none⟩), y1, .int .i64 a, y3, y4, y5, y6, y7, y8, .int .i64 q, y10, .pointer (some ⟨xv, 0, none⟩), y12, y13, y14, y15, y16, y17, y18, y19, y20, y21, y22, y23, y24, y25, y26, y27, y28, y29, y30, y31, y32, y33, y34, y35, y36, y37, y38, y39, y40, y41, y42, y43, y44, y45, y46, y47, y48, y49, y50, y51, y52, y53, y54, y55, .pointer (some ⟨xb, 0, none⟩), .int .i64 1, .pointer (some ⟨xb, 1, none⟩), .int .i64 mt, .pointer (some ⟨g, 0, none⟩), .int .u64 (R1.last + 1), .pointer (some ⟨xb, 3, none⟩), .slice db n cb, .int .i64 a, .slice dB a cB, .pointer (some ⟨xb, 4, none⟩), .slice ds n cs, .int .i64 a, .slice dC a cC, .slice (some ⟨gd, 0, none⟩) 0 0, .pointer (some ⟨xb, 5, none⟩), .slice dd m cd, .int .i64 a, undef, undef, undef, undef, undef, undef, undef, undef], []⟩ W := by
    intro y1 y3 y4 y5 y6 y7 y8 y10 y12 y13 y14 y15 y16 y17 y18 y19 y20 y21 y22 y23 y24 y25 y26 y27 y28 y29 y30 y31 y32 y33 y34 y35 y36 y37 y38 y39 y40 y41 y42 y43 y44 y45 y46 y47 y48 y49 y50 y51 y52 y53 y54 y55 W S rr gd z fz xv aV fV neD dB cB rB fB neB dC cC rC fC neC
    rw [hZ]
    refine nextS 18 rfl (by kernel_rfl) rfl (callS (some 74) rfl 68 #[.int .i64 a] (by go_simp) (fun v w' => v = .int .i64 sa ∧ W = w') ((SEC.out W).mono fun e w' he => ⟨_, he.1, rfl, he.2⟩) ?_)
    rintro v_ w_ ⟨rfl, rfl⟩
    simp only [Act.put, List.setIfInBounds_toArray, List.set_cons_zero, List.set_cons_succ]
    refine ⟨S, ?_⟩
    refine takeS 19 (some 75) (.slice dd sa cd) rfl rfl (by kernel_rfl) (by kernel_rfl) (by kernel_rfl) (fun _ _ _ h => h) rfl S (fun w' hw' => by go_simp) ?_
    simp only [Act.put, List.setIfInBounds_toArray, List.set_cons_zero, List.set_cons_succ]
    rw [← hZ]
    exact H411 _ _ _ _ _ _ _ _ _ _ _ _ _ _ _ _ _ _ _ _ _ _ _ _ _ _ _ _ _ _ _ _ _ _ _ _ _ _ _ _ _ _ _ _ _ _ _ _ _ _ _ _ W S rr gd z fz xv aV fV neD dB cB rB fB neB dC cC rC fC neC
  have H310 : ∀ (y1 y3 y4 y5 y6 y7 y8 y10 y12 y13 y14 y15 y16 y17 y18 y19 y20 y21 y22 y23 y24 y25 y26 y27 y28 y29 y30 y31 y32 y33 y34 y35 y36 y37 y38 y39 y40 y41 y42 y43 y44 y45 y46 y47 y48 y49 y50 y51 y52 y53 y54 y55 : Value) (W : World) (S : Chg (fun i => i = g) W0 W) (rr : RRep W g { R1 with last := R1.last + 1 } F (k + 1 + 1)) (gd : Nat) (z : Row W 4 1 (.slice (some ⟨gd, 0, none⟩) 0 0) 0 []) (fz : Base W0 ≤ gd) (dB : Option Addr) (cB : Nat) (rB : ByV W (.slice dB a cB) a) (fB : ∀ i, (.slice dB a cB : Value).ownBlock = some i → Base W0 ≤ i) (dC : Option Addr) (cC : Nat) (rC : ByV W (.slice dC a cC) a) (fC : ∀ i, (.slice dC a cC : Value).ownBlock = some i → Base W0 ≤ i), Z 6 #[true, true, true, true, true, true, true, true, true, true, true, true, true, true, true, true, true, true, false, false, false, false, false, false] ⟨#[.pointer (some ⟨g, 0, none⟩), y1, .int .i64 a, y3, y4, y5, y6, y7, y8, .int .i64 q, y10, undef, y12, y13, y14, y15, y16, y17, y18, y19, y20, y21, y22, y23, y24, y25, y26, y27, y28, y29, y30, y31, y32, y33, y34, y35, y36, y37, y38, y39, y40, y41, y42, y43, y44, y45, y46, y47, y48, y49, y50, y51, y52, y53, y54, y55, .pointer (some ⟨xb, 0, none⟩), .int .i64 1, .pointer (some ⟨xb, 1, none⟩), .int .i64 mt, .pointer (some ⟨g, 0, none⟩), .int .u64 (R1.last + 1), .pointer (some ⟨xb, 3, none⟩), .slice db n cb, .int .i64 a, .slice dB a cB, .pointer (some ⟨xb, 4, none⟩), .slice ds n cs, .int .i64 a, .slice dC a cC, .slice (some ⟨gd, 0, none⟩) 0 0, .pointer (some ⟨xb, 5, none⟩), .slice dd m cd, .int .i64 a, undef, undef, undef, undef, undef, undef, undef, undef], []⟩ W := by
    intro y1 y3 y4 y5 y6 y7 y8 y10 y12 y13 y14 y15 y16 y17 y18 y19 y20 y21 y22 y23 y24 y25 y26 y27 y28 y29 y30 y31 y32 y33 y34 y35 y36 y37 y38 y39 y40 y41 y42 y43 y44 y45 y46 y47 y48 y49 y50 y51 y52 y53 y54 y55 W S rr gd z fz dB cB rB fB dC cC rC fC
    rw [hZ]
    refine nextR2 18 22 rfl rfl (by kernel_rfl) rfl rfl ?_ ?_
    · skip
      refine (callS (some 74) rfl 68 #[.int .i64 a] (by go_simp) (fun v w' => v = .int .i64 sa ∧ W = w') ((SEC.out W).mono fun e w' he => ⟨_, he.1, rfl, he.2⟩) ?_)
      rintro v_ w_ ⟨rfl, rfl⟩
      simp only [Act.put, List.setIfInBounds_toArray, List.set_cons_zero, List.set_cons_succ]
      refine ⟨S, ?_⟩
      refine takeS 19 (some 75) (.slice dd sa cd) rfl rfl (by kernel_rfl) (by kernel_rfl) (by kernel_rfl) (fun _ _ _ h => h) rfl S (fun w' hw' => by go_simp) ?_
      simp only [Act.put, List.setIfInBounds_toArray, List.set_cons_zero, List.set_cons_succ]
      rw [← hZ]
      exact H410 _ _ _ _ _ _ _ _ _ _ _ _ _ _ _ _ _ _ _ _ _ _ _ _ _ _ _ _ _ _ _ _ _ _ _ _ _ _ _ _ _ _ _ _ _ _ _ _ _ _ _ _ W S rr gd z fz dB cB rB fB dC cC rC fC
    · skip
      refine (makeR (some 11) rfl (.pointer (some ⟨W.heap.size, 0, none⟩)) (w1 := W.alloc (.cells #[.int .i64 0, .int .i64 0, .int .u64 0, .slice none 0 0, .slice none 0 0, .slice none 0 0] 106)) (by go_simp) ?_)
      simp only [Act.put, List.setIfInBounds_toArray, List.set_cons_zero, List.set_cons_succ]
      have x_ : Ext W (W.alloc (.cells #[.int .i64 0, .int .i64 0, .int .u64 0, .slice none 0 0, .slice none 0 0, .slice none 0 0] 106)) := Ext.alloc W _
      have aV := At.new W #[.int .i64 0, .int .i64 0, .int .u64 0, .slice none 0 0, .slice none 0 0, .slice none 0 0] 106
      have fV : Base W0 ≤ W.heap.size := S.size
      have neB : ∀ i, (.slice dB a cB : Value).ownBlock = some i → i ≠ W.heap.size := fun i hi => by have := byv_lt rB i hi; omega
      have neC : ∀ i, (.slice dC a cC : Value).ownBlock = some i → i ≠ W.heap.size := fun i hi => by have := byv_lt rC i hi; omega
      have neD : ¬ gd = W.heap.size := by have := z.lt gd rfl; omega
      have rr' := rr.ext x_
      have z' := z.ext x_
      have rB' := byv_ext rB x_
      have rC' := byv_ext rC x_
      have S' := S.trans (Chg.of_ext (X := fun i => i = g) x_) (fun _ _ h => h)
      refine ⟨S', ?_⟩
      rw [← hZ]
      exact H311 _ _ _ _ _ _ _ _ _ _ _ _ _ _ _ _ _ _ _ _ _ _ _ _ _ _ _ _ _ _ _ _ _ _ _ _ _ _ _ _ _ _ _ _ _ _ _ _ _ _ _ _ (W.alloc (.cells #[.int .i64 0, .int .i64 0, .int .u64 0, .slice none 0 0, .slice none 0 0, .slice none 0 0] 106)) S' rr' gd z' fz W.heap.size aV fV neD dB cB rB' fB neB dC cC rC' fC neC
  have H301 : ∀ (y1 y3 y4 y5 y6 y7 y8 y10 y12 y13 y14 y15 y16 y17 y18 y19 y20 y21 y22 y23 y24 y25 y26 y27 y28 y29 y30 y31 y32 y33 y34 y35 y36 y37 y38 y39 y40 y41 y42 y43 y44 y45 y46 y47 y48 y49 y50 y51 y52 y53 y54 y55 : Value) (W : World) (S : Chg (fun i => i = g) W0 W) (rr : RRep W g { R1 with last := R1.last + 1 } F (k + 1 + 1)) (xv : Nat) (aV : At W xv #[.int .i64 0, .int .i64 0, .int .u64 0, .slice none 0 0, .slice none 0 0, .slice none 0 0] 106) (fV : Base W0 ≤ xv) (dB : Option Addr) (cB : Nat) (rB : ByV W (.slice dB a cB) a) (fB : ∀ i, (.slice dB a cB : Value).ownBlock = some i → Base W0 ≤ i) (neB : ∀ i, (.slice dB a cB : Value).ownBlock = some i → i ≠ xv) (dC : Option Addr) (cC : Nat) (rC : ByV W (.slice dC a cC) a) (fC : ∀ i, (.slice dC a cC : Value).ownBlock = some i → Base W0 ≤ i) (neC : ∀ i, (.slice dC a cC : Value).ownBlock = some i → i ≠ xv), Z 6 #[true, true, true, true, true, true, true, true, true, true, true, true, true, true, false, true, true, true, false, false, false, false, true, false] ⟨#[.pointer (some ⟨g, 0, none⟩), y1, .int .i64 a, y3, y4, y5, y6, y7, y8, .int .i64 q, y10, .pointer (some ⟨xv, 0, none⟩), y12, y13, y14, y15, y16, y17, y18, y19, y20, y21, y22, y23, y24, y25, y26, y27, y28, y29, y30, y31, y32, y33, y34, y35, y36, y37, y38, y39, y40, y41, y42, y43, y44, y45, y46, y47, y48, y49, y50, y51, y52, y53, y54, y55, .pointer (some ⟨xb, 0, none⟩), .int .i64 1, .pointer (some ⟨xb, 1, none⟩), .int .i64 mt, .pointer (some ⟨g, 0, none⟩), .int .u64 (R1.last + 1), .pointer (some ⟨xb, 3, none⟩), .slice db n cb, .int .i64 a, .slice dB a cB, .pointer (some ⟨xb, 4, none⟩), .slice ds n cs, .int .i64 a, .slice dC a cC, undef, .pointer (some ⟨xb, 5, none⟩), .slice dd m cd, .int .i64 a, undef, undef, undef, undef, undef, undef, undef, undef], []⟩ W := by
    intro y1 y3 y4 y5 y6 y7 y8 y10 y12 y13 y14 y15 y16 y17 y18 y19 y20 y21 y22 y23 y24 y25 y26 y27 y28 y29 y30 y31 y32 y33 y34 y35 y36 y37 y38 y39 y40 y41 y42 y43 y44 y45 y46 y47 y48 y49 y50 y51 y52 y53 y54 y55 W S rr xv aV fV dB cB rB fB neB dC cC rC fC neC
    rw [hZ]
    refine nextR2 14 18 rfl rfl (by kernel_rfl) rfl rfl ?_ ?_
    · skip
      refine (makeR (some 70) rfl (.slice (some ⟨W.heap.size, 0, none⟩) 0 0) (w1 := W.alloc (.cells #[] 4)) (by go_simp) ?_)
      simp only [Act.put, List.setIfInBounds_toArray, List.set_cons_zero, List.set_cons_succ]
      have x_ : Ext W (W.alloc (.cells #[] 4)) := Ext.alloc W _
      have z' := empty_row W 4 1
      have fz : Base W0 ≤ W.heap.size := S.size
      have neD : ¬ W.heap.size = xv := by have := aV.lt; omega
      have rr' := rr.ext x_
      have aV' := aV.ext x_
      have rB' := byv_ext rB x_
      have rC' := byv_ext rC x_
      have S' := S.trans (Chg.of_ext (X := fun i => i = g) x_) (fun _ _ h => h)
      refine ⟨S', ?_⟩
      rw [← hZ]
      exact H311 _ _ _ _ _ _ _ _ _ _ _ _ _ _ _ _ _ _ _ _ _ _ _ _ _ _ _ _ _ _ _ _ _ _ _ _ _ _ _ _ _ _ _ _ _ _ _ _ _ _ _ _ (W.alloc (.cells #[] 4)) S' rr' W.heap.size z' fz xv aV' fV neD dB cB rB' fB neB dC cC rC' fC neC
    · skip
      refine (callS (some 74) rfl 68 #[.int .i64 a] (by go_simp) (fun v w' => v = .int .i64 sa ∧ W = w') ((SEC.out W).mono fun e w' he => ⟨_, he.1, rfl, he.2⟩) ?_)
      rintro v_ w_ ⟨rfl, rfl⟩
      simp only [Act.put, List.setIfInBounds_toArray, List.set_cons_zero, List.set_cons_succ]
      refine ⟨S, ?_⟩
      refine takeS 19 (some 75) (.slice dd sa cd) rfl rfl (by kernel_rfl) (by kernel_rfl) (by kernel_rfl) (fun _ _ _ h => h) rfl S (fun w' hw' => by go_simp) ?_
      simp only [Act.put, List.setIfInBounds_toArray, List.set_cons_zero, List.set_cons_succ]
      rw [← hZ]
      exact H401 _ _ _ _ _ _ _ _ _ _ _ _ _ _ _ _ _ _ _ _ _ _ _ _ _ _ _ _ _ _ _ _ _ _ _ _ _ _ _ _ _ _ _ _ _ _ _ _ _ _ _ _ W S rr xv aV fV dB cB rB fB neB dC cC rC fC neC
  have H300 : ∀ (y1 y3 y4 y5 y6 y7 y8 y10 y12 y13 y14 y15 y16 y17 y18 y19 y20 y21 y22 y23 y24 y25 y26 y27 y28 y29 y30 y31 y32 y33 y34 y35 y36 y37 y38 y39 y40 y41 y42 y43 y44 y45 y46 y47 y48 y49 y50 y51 y52 y53 y54 y55 : Value) (W : World) (S : Chg (fun i => i = g) W0 W) (rr : RRep W g { R1 with last := R1.last + 1 } F (k + 1 + 1)) (dB : Option Addr) (cB : Nat) (rB : ByV W (.slice dB a cB) a) (fB : ∀ i, (.slice dB a cB : Value).ownBlock = some i → Base W0 ≤ i) (dC : Option Addr) (cC : Nat) (rC : ByV W (.slice dC a cC) a) (fC : ∀ i, (.slice dC a cC : Value).ownBlock = some i → Base W0 ≤ i), Z 7 #[true, true, true, true, true, true, true, true, true, true, true, true, true, true, false, true, true, true, false, false, false, false, false, false] ⟨#[.pointer (some ⟨g, 0, none⟩), y1, .int .i64 a, y3, y4, y5, y6, y7, y8, .int .i64 q, y10, undef, y12, y13, y14, y15, y16, y17, y18, y19, y20, y21, y22, y23, y24, y25, y26, y27, y28, y29, y30, y31, y32, y33, y34, y35, y36, y37, y38, y39, y40, y41, y42, y43, y44, y45, y46, y47, y48, y49, y50, y51, y52, y53, y54, y55, .pointer (some ⟨xb, 0, none⟩), .int .i64 1, .pointer (some ⟨xb, 1, none⟩), .int .i64 mt, .pointer (some ⟨g, 0, none⟩), .int .u64 (R1.last + 1), .pointer (some ⟨xb, 3, none⟩), .slice db n cb, .int .i64 a, .slice dB a cB, .pointer (some ⟨xb, 4, none⟩), .slice ds n cs, .int .i64 a, .slice dC a cC, undef, .pointer (some ⟨xb, 5, none⟩), .slice dd m cd, .int .i64 a, undef, undef, undef, undef, undef, undef, undef, undef], []⟩ W := by
    intro y1 y3 y4 y5 y6 y7 y8 y10 y12 y13 y14 y15 y16 y17 y18 y19 y20 y21 y22 y23 y24 y25 y26 y27 y28 y29 y30 y31 y32 y33 y34 y35 y36 y37 y38 y39 y40 y41 y42 y43 y44 y45 y46 y47 y48 y49 y50 y51 y52 y53 y54 y55 W S rr dB cB rB fB dC cC rC fC
    rw [hZ]
    refine nextR3 14 18 22 rfl rfl rfl (by kernel_rfl) rfl rfl rfl ?_ ?_ ?_
    · skip
      refine (makeR (some 70) rfl (.slice (some ⟨W.heap.size, 0, none⟩) 0 0) (w1 := W.alloc (.cells #[] 4)) (by go_simp) ?_)
      simp only [Act.put, List.setIfInBounds_toArray, List.set_cons_zero, List.set_cons_succ]
      have x_ : Ext W (W.alloc (.cells #[] 4)) := Ext.alloc W _
      have z' := empty_row W 4 1
      have fz : Base W0 ≤ W.heap.size := S.size
      have rr' := rr.ext x_
      have rB' := byv_ext rB x_
      have rC' := byv_ext rC x_
      have S' := S.trans (Chg.of_ext (X := fun i => i = g) x_) (fun _ _ h => h)
      refine ⟨S', ?_⟩
      rw [← hZ]
      exact H310 _ _ _ _ _ _ _ _ _ _ _ _ _ _ _ _ _ _ _ _ _ _ _ _ _ _ _ _ _ _ _ _ _ _ _ _ _ _ _ _ _ _ _ _ _ _ _ _ _ _ _ _ (W.alloc (.cells #[] 4)) S' rr' W.heap.size z' fz dB cB rB' fB dC cC rC' fC
    · skip
      refine (callS (some 74) rfl 68 #[.int .i64 a] (by go_simp) (fun v w' => v = .int .i64 sa ∧ W = w') ((SEC.out W).mono fun e w' he => ⟨_, he.1, rfl, he.2⟩) ?_)
      rintro v_ w_ ⟨rfl, rfl⟩
      simp only [Act.put, List.setIfInBounds_toArray, List.set_cons_zero, List.set_cons_succ]
      refine ⟨S, ?_⟩
      refine takeS 19 (some 75) (.slice dd sa cd) rfl rfl (by kernel_rfl) (by kernel_rfl) (by kernel_rfl) (fun _ _ _ h => h) rfl S (fun w' hw' => by go_simp) ?_
      simp only [Act.put, List.setIfInBounds_toArray, List.set_cons_zero, List.set_cons_succ]
      rw [← hZ]
      exact H400 _ _ _ _ _ _ _ _ _ _ _ _ _ _ _ _ _ _ _ _ _ _ _ _ _ _ _ _ _ _ _ _ _ _ _ _ _ _ _ _ _ _ _ _ _ _ _ _ _ _ _ _ W S rr dB cB rB fB dC cC rC fC
    · skip
      refine (makeR (some 11) rfl (.pointer (some ⟨W.heap.size, 0, none⟩)) (w1 := W.alloc (.cells #[.int .i64 0, .int .i64 0, .int .u64 0, .slice none 0 0, .slice none 0 0, .slice none 0 0] 106)) (by go_simp) ?_)
      simp only [Act.put, List.setIfInBounds_toArray, List.set_cons_zero, List.set_cons_succ]
      have x_ : Ext W (W.alloc (.cells #[.int .i64 0, .int .i64 0, .int .u64 0, .slice none 0 0, .slice none 0 0, .slice none 0 0] 106)) := Ext.alloc W _
      have aV := At.new W #[.int .i64 0, .int .i64 0, .int .u64 0, .slice none 0 0, .slice none 0 0, .slice none 0 0] 106
      have fV : Base W0 ≤ W.heap.size := S.size
      have neB : ∀ i, (.slice dB a cB : Value).ownBlock = some i → i ≠ W.heap.size := fun i hi => by have := byv_lt rB i hi; omega
      have neC : ∀ i, (.slice dC a cC : Value).ownBlock = some i → i ≠ W.heap.size := fun i hi => by have := byv_lt rC i hi; omega
      have rr' := rr.ext x_
      have rB' := byv_ext rB x_
      have rC' := byv_ext rC x_
      have S' := S.trans (Chg.of_ext (X := fun i => i = g) x_) (fun _ _ h => h)
      refine ⟨S', ?_⟩
      rw [← hZ]
      exact H301 _ _ _ _ _ _ _ _ _ _ _ _ _ _ _ _ _ _ _ _ _ _ _ _ _ _ _ _ _ _ _ _ _ _ _ _ _ _ _ _ _ _ _ _ _ _ _ _ _ _ _ _ (W.alloc (.cells #[.int .i64 0, .int .i64 0, .int .u64 0, .slice none 0 0, .slice none 0 0, .slice none 0 0] 106)) S' rr' W.heap.size aV fV dB cB rB' fB neB dC cC rC' fC neC
  have H211 : ∀ (y1 y3 y4 y5 y6 y7 y8 y10 y12 y13 y14 y15 y16 y17 y18 y19 y20 y21 y22 y23 y24 y25 y26 y27 y28 y29 y30 y31 y32 y33 y34 y35 y36 y37 y38 y39 y40 y41 y42 y43 y44 y45 y46 y47 y48 y49 y50 y51 y52 y53 y54 y55 : Value) (W : World) (S : Chg (fun i => i = g) W0 W) (rr : RRep W g { R1 with last := R1.last + 1 } F (k + 1 + 1)) (gd : Nat) (z : Row W 4 1 (.slice (some ⟨gd, 0, none⟩) 0 0) 0 []) (fz : Base W0 ≤ gd) (xv : Nat) (aV : At W xv #[.int .i64 0, .int .i64 0, .int .u64 0, .slice none 0 0, .slice none 0 0, .slice none 0 0] 106) (fV : Base W0 ≤ xv) (neD : ¬ gd = xv) (dB : Option Addr) (cB : Nat) (rB : ByV W (.slice dB a cB) a) (fB : ∀ i, (.slice dB a cB : Value).ownBlock = some i → Base W0 ≤ i) (neB : ∀ i, (.slice dB a cB : Value).ownBlock = some i → i ≠ xv), Z 6 #[true, true, true, true, true, true, true, true, true, true, true, true, true, false, true, true, true, true, false, false, false, false, true, false] ⟨#[.pointer (some ⟨g, 0, none⟩), y1, .int .i64 a, y3, y4, y5, y6, y7, y8, .int .i64 q, y10, .pointer (some ⟨xv, 0, none⟩), y12, y13, y14, y15, y16, y17, y18, y19, y20, y21, y22, y23, y24, y25, y26, y27, y28, y29, y30, y31, y32, y33, y34, y35, y36, y37, y38, y39, y40, y41, y42, y43, y44, y45, y46, y47, y48, y49, y50, y51, y52, y53, y54, y55, .pointer (some ⟨xb, 0, none⟩), .int .i64 1, .pointer (some ⟨xb, 1, none⟩), .int .i64 mt, .pointer (some ⟨g, 0, none⟩), .int .u64 (R1.last + 1), .pointer (some ⟨xb, 3, none⟩), .slice db n cb, .int .i64 a, .slice dB a cB, .pointer (some ⟨xb, 4, none⟩), .slice ds n cs, .int .i64 a, undef, .slice (some ⟨gd, 0, none⟩) 0 0, .pointer (some ⟨xb, 5, none⟩), .slice dd m cd, .int .i64 a, undef, undef, undef, undef, undef, undef, undef, undef], []⟩ W := by
    intro y1 y3 y4 y5 y6 y7 y8 y10 y12 y13 y14 y15 y16 y17 y18 y19 y20 y21 y22 y23 y24 y25 y26 y27 y28 y29 y30 y31 y32 y33 y34 y35 y36 y37 y38 y39 y40 y41 y42 y43 y44 y45 y46 y47 y48 y49 y50 y51 y52 y53 y54 y55 W S rr gd z fz xv aV fV neD dB cB rB fB neB
    rw [hZ]
    refine nextS 13 rfl (by kernel_rfl) rfl (callS (some 69) rfl 67 #[.slice ds n cs, .int .i64 a] (by go_simp) (fun v w' => ∃ d c, v = .slice d a c ∧ ByV w' (.slice d a c) a ∧ Ext W w' ∧ ∀ i, (Value.slice d a c).ownBlock = some i → W.heap.size ≤ i) (FITC.out W S) ?_)
    rintro v_ W' ⟨dC, cC, rfl, rC', x_, ff_⟩
    simp only [Act.put, List.setIfInBounds_toArray, List.set_cons_zero, List.set_cons_succ]
    have fC : ∀ i, (.slice dC a cC : Value).ownBlock = some i → Base W0 ≤ i := fun i hi => by have := ff_ i hi; have h_ := S.size; unfold Base; omega
    have neC : ∀ i, (.slice dC a cC : Value).ownBlock = some i → i ≠ xv := fun i hi => by have := ff_ i hi; have := aV.lt; omega
    have rr' := rr.ext x_
    have z' := z.ext x_
    have aV' := aV.ext x_
    have rB' := byv_ext rB x_
    have S' := S.trans (Chg.of_ext (X := fun i => i = g) x_) (fun _ _ h => h)
    refine ⟨S', ?_⟩
    rw [← hZ]
    exact H311 _ _ _ _ _ _ _ _ _ _ _ _ _ _ _ _ _ _ _ _ _ _ _ _ _ _ _ _ _ _ _ _ _ _ _ _ _ _ _ _ _ _ _ _ _ _ _ _ _ _ _ _ W' S' rr' gd z' fz xv aV' fV neD dB cB rB' fB neB dC cC rC' fC neC
  have H210 : ∀ (y1 y3 y4 y5 y6 y7 y8 y10 y12 y13 y14 y15 y16 y17 y18 y19 y20 y21 y22 y23 y24 y25 y26 y27 y28 y29 y30 y31 y32 y33 y34 y35 y36 y37 y38 y39 y40 y41 y42 y43 y44 y45 y46 y47 y48 y49 y50 y51 y52 y53 y54 y55 : Value) (W : World) (S : Chg (fun i => i = g) W0 W) (rr : RRep W g { R1 with last := R1.last + 1 } F (k + 1 + 1)) (gd : Nat) (z : Row W 4 1 (.slice (some ⟨gd, 0, none⟩) 0 0) 0 []) (fz : Base W0 ≤ gd) (dB : Option Addr) (cB : Nat) (rB : ByV W (.slice dB a cB) a) (fB : ∀ i, (.slice dB a cB : Value).ownBlock = some i → Base W0 ≤ i), Z 7 #[true, true, true, true, true, true, true, true, true, true, true, true, true, false, true, true, true, true, false, false, false, false, false, false] ⟨#[.pointer (some ⟨g, 0, none⟩), y1, .int .i64 a, y3, y4, y5, y6, y7, y8, .int .i64 q, y10, undef, y12, y13, y14, y15, y16, y17, y18, y19, y20, y21, y22, y23, y24, y25, y26, y27, y28, y29, y30, y31, y32, y33, y34, y35, y36, y37, y38, y39, y40, y41, y42, y43, y44, y45, y46, y47, y48, y49, y50, y51, y52, y53, y54, y55, .pointer (some ⟨xb, 0, none⟩), .int .i64 1, .pointer (some ⟨xb, 1, none⟩), .int .i64 mt, .pointer (some ⟨g, 0, none⟩), .int .u64 (R1.last + 1), .pointer (some ⟨xb, 3, none⟩), .slice db n cb, .int .i64 a, .slice dB a cB, .pointer (some ⟨xb, 4, none⟩), .slice ds n cs, .int .i64 a, undef, .slice (some ⟨gd, 0, none⟩) 0 0, .pointer (some ⟨xb, 5, none⟩), .slice dd m cd, .int .i64 a, undef, undef, undef, undef, undef, undef, undef, undef], []⟩ W := by
    intro y1 y3 y4 y5 y6 y7 y8 y10 y12 y13 y14 y15 y16 y17 y18 y19 y20 y21 y22 y23 y24 y25 y26 y27 y28 y29 y30 y31 y32 y33 y34 y35 y36 y37 y38 y39 y40 y41 y42 y43 y44 y45 y46 y47 y48 y49 y50 y51 y52 y53 y54 y55 W S rr gd z fz dB cB rB fB
    rw [hZ]
    refine nextR2 13 22 rfl rfl (by kernel_rfl) rfl rfl ?_ ?_
    · skip
      refine (callS (some 69) rfl 67 #[.slice ds n cs, .int .i64 a] (by go_simp) (fun v w' => ∃ d c, v = .slice d a c ∧ ByV w' (.slice d a c) a ∧ Ext W w' ∧ ∀ i, (Value.slice d a c).ownBlock = some i → W.heap.size ≤ i) (FITC.out W S) ?_)
      rintro v_ W' ⟨dC, cC, rfl, rC', x_, ff_⟩
      simp only [Act.put, List.setIfInBounds_toArray, List.set_cons_zero, List.set_cons_succ]
      have fC : ∀ i, (.slice dC a cC : Value).ownBlock = some i → Base W0 ≤ i := fun i hi => by have := ff_ i hi; have h_ := S.size; unfold Base; omega
      have rr' := rr.ext x_
      have z' := z.ext x_
      have rB' := byv_ext rB x_
      have S' := S.trans (Chg.of_ext (X := fun i => i = g) x_) (fun _ _ h => h)
      refine ⟨S', ?_⟩
      rw [← hZ]
      exact H310 _ _ _ _ _ _ _ _ _ _ _ _ _ _ _ _ _ _ _ _ _ _ _ _ _ _ _ _ _ _ _ _ _ _ _ _ _ _ _ _ _ _ _ _ _ _ _ _ _ _ _ _ W' S' rr' gd z' fz dB cB rB' fB dC cC rC' fC
    · skip
      refine (makeR (some 11) rfl (.pointer (some ⟨W.heap.size, 0, none⟩)) (w1 := W.alloc (.cells #[.int .i64 0, .int .i64 0, .int .u64 0, .slice none 0 0, .slice none 0 0, .slice none 0 0] 106)) (by go_simp) ?_)
      simp only [Act.put, List.setIfInBounds_toArray, List.set_cons_zero, List.set_cons_succ]
      have x_ : Ext W (W.alloc (.cells #[.int .i64 0, .int .i64 0, .int .u64 0, .slice none 0 0, .slice none 0 0, .slice none 0 0] 106)) := Ext.alloc W _
      have aV := At.new W #[.int .i64 0, .int .i64 0, .int .u64 0, .slice none 0 0, .slice none 0 0, .slice none 0 0] 106
      have fV : Base W0 ≤ W.heap.size := S.size
      have neB : ∀ i, (.slice dB a cB : Value).ownBlock = some i → i ≠ W.heap.size := fun i hi => by have := byv_lt rB i hi; omega
      have neD : ¬ gd = W.heap.size := by have := z.lt gd rfl; omega
      have rr' := rr.ext x_
      have z' := z.ext x_
      have rB' := byv_ext rB x_
      have S' := S.trans (Chg.of_ext (X := fun i => i = g) x_) (fun _ _ h => h)
      refine ⟨S', ?_⟩
      rw [← hZ]
      exact H211 _ _ _ _ _ _ _ _ _ _ _ _ _ _ _ _ _ _ _ _ _ _ _ _ _ _ _ _ _ _ _ _ _ _ _ _ _ _ _ _ _ _ _ _ _ _ _ _ _ _ _ _ (W.alloc (.cells #[.int .i64 0, .int .i64 0, .int .u64 0, .slice none 0 0, .slice none 0 0, .slice none 0 0] 106)) S' rr' gd z' fz W.heap.size aV fV neD dB cB rB' fB neB
  have H201 : ∀ (y1 y3 y4 y5 y6 y7 y8 y10 y12 y13 y14 y15 y16 y17 y18 y19 y20 y21 y22 y23 y24 y25 y26 y27 y28 y29 y30 y31 y32 y33 y34 y35 y36 y37 y38 y39 y40 y41 y42 y43 y44 y45 y46 y47 y48 y49 y50 y51 y52 y53 y54 y55 : Value) (W : World) (S : Chg (fun i => i = g) W0 W) (rr : RRep W g { R1 with last := R1.last + 1 } F (k + 1 + 1)) (xv : Nat) (aV : At W xv #[.int .i64 0, .int .i64 0, .int .u64 0, .slice none 0 0, .slice none 0 0, .slice none 0 0] 106) (fV : Base W0 ≤ xv) (dB : Option Addr) (cB : Nat) (rB : ByV W (.slice dB a cB) a) (fB : ∀ i, (.slice dB a cB : Value).ownBlock = some i → Base W0 ≤ i) (neB : ∀ i, (.slice dB a cB : Value).ownBlock = some i → i ≠ xv), Z 7 #[true, true, true, true, true, true, true, true, true, true, true, true, true, false, false, true, true, true, false, false, false, false, true, false] ⟨#[.pointer (some ⟨g, 0, none⟩), y1, .int .i64 a, y3, y4, y5, y6, y7, y8, .int .i64 q, y10, .pointer (some ⟨xv, 0, none⟩), y12, y13, y14, y15, y16, y17, y18, y19, y20, y21, y22, y23, y24, y25, y26, y27, y28, y29, y30, y31, y32, y33, y34, y35, y36, y37, y38, y39, y40, y41, y42, y43, y44, y45, y46, y47, y48, y49, y50, y51, y52, y53, y54, y55, .pointer (some ⟨xb, 0, none⟩), .int .i64 1, .pointer (some ⟨xb, 1, none⟩), .int .i64 mt, .pointer (some ⟨g, 0, none⟩), .int .u64 (R1.last + 1), .pointer (some ⟨xb, 3, none⟩), .slice db n cb, .int .i64 a, .slice dB a cB, .pointer (some ⟨xb, 4, none⟩), .slice ds n cs, .int .i64 a, undef, undef, .pointer (some ⟨xb, 5, none⟩), .slice dd m cd, .int .i64 a, undef, undef, undef, undef, undef, undef, undef, undef], []⟩ W := by
    intro y1 y3 y4 y5 y6 y7 y8 y10 y12 y13 y14 y15 y16 y17 y18 y19 y20 y21 y22 y23 y24 y25 y26 y27 y28 y29 y30 y31 y32 y33 y34 y35 y36 y37 y38 y39 y40 y41 y42 y43 y44 y45 y46 y47 y48 y49 y50 y51 y52 y53 y54 y55 W S rr xv aV fV dB cB rB fB neB
    rw [hZ]
    refine nextR2 13 14 rfl rfl (by kernel_rfl) rfl rfl ?_ ?_
    · skip
      refine (callS (some 69) rfl 67 #[.slice ds n cs, .int .i64 a] (by go_simp) (fun v w' => ∃ d c, v = .slice d a c ∧ ByV w' (.slice d a c) a ∧ Ext W w' ∧ ∀ i, (Value.slice d a c).ownBlock = some i → W.heap.size ≤ i) (FITC.out W S) ?_)
      rintro v_ W' ⟨dC, cC, rfl, rC', x_, ff_⟩
      simp only [Act.put, List.setIfInBounds_toArray, List.set_cons_zero, List.set_cons_succ]
      have fC : ∀ i, (.slice dC a cC : Value).ownBlock = some i → Base W0 ≤ i := fun i hi => by have := ff_ i hi; have h_ := S.size; unfold Base; omega
      have neC : ∀ i, (.slice dC a cC : Value).ownBlock = some i → i ≠ xv := fun i hi => by have := ff_ i hi; have := aV.lt; omega
      have rr' := rr.ext x_
      have aV' := aV.ext x_
      have rB' := byv_ext rB x_
      have S' := S.trans (Chg.of_ext (X := fun i => i = g) x_) (fun _ _ h => h)
      refine ⟨S', ?_⟩
      rw [← hZ]
      exact H301 _ _ _ _ _ _ _ _ _ _ _ _ _ _ _ _ _ _ _ _ _ _ _ _ _ _ _ _ _ _ _ _ _ _ _ _ _ _ _ _ _ _ _ _ _ _ _ _ _ _ _ _ W' S' rr' xv aV' fV dB cB rB' fB neB dC cC rC' fC neC
    · skip
      refine (makeR (some 70) rfl (.slice (some ⟨W.heap.size, 0, none⟩) 0 0) (w1 := W.alloc (.cells #[] 4)) (by go_simp) ?_)
      simp only [Act.put, List.setIfInBounds_toArray, List.set_cons_zero, List.set_cons_succ]
      have x_ : Ext W (W.alloc (.cells #[] 4)) := Ext.alloc W _
      have z' := empty_row W 4 1
      have fz : Base W0 ≤ W.heap.size := S.size
      have neD : ¬ W.heap.size = xv := by have := aV.lt; omega
      have rr' := rr.ext x_
      have aV' := aV.ext x_
      have rB' := byv_ext rB x_
      have S' := S.trans (Chg.of_ext (X := fun i => i = g) x_) (fun _ _ h => h)
      refine ⟨S', ?_⟩
      rw [← hZ]
      exact H211 _ _ _ _ _ _ _ _ _ _ _ _ _ _ _ _ _ _ _ _ _ _ _ _ _ _ _ _ _ _ _ _ _ _ _ _ _ _ _ _ _ _ _ _ _ _ _ _ _ _ _ _ (W.alloc (.cells #[] 4)) S' rr' W.heap.size z' fz xv aV' fV neD dB cB rB' fB neB
  have H200 : ∀ (y1 y3 y4 y5 y6 y7 y8 y10 y12 y13 y14 y15 y16 y17 y18 y19 y20 y21 y22 y23 y24 y25 y26 y27 y28 y29 y30 y31 y32 y33 y34 y35 y36 y37 y38 y39 y40 y41 y42 y43 y44 y45 y46 y47 y48 y49 y50 y51 y52 y53 y54 y55 : Value) (W : World) (S : Chg (fun i => i = g) W0 W) (rr : RRep W g { R1 with last := R1.last + 1 } F (k + 1 + 1)) (dB : Option Addr) (cB : Nat) (rB : ByV W (.slice dB a cB) a) (fB : ∀ i, (.slice dB a cB : Value).ownBlock = some i → Base W0 ≤ i), Z 8 #[true, true, true, true, true, true, true, true, true, true, true, true, true, false, false, true, true, true, false, false, false, false, false, false] ⟨#[.pointer (some ⟨g, 0, none⟩), y1, .int .i64 a, y3, y4, y5, y6, y7, y8, .int .i64 q, y10, undef, y12, y13, y14, y15, y16, y17, y18, y19, y20, y21, y22, y23, y24, y25, y26, y27, y28, y29, y30, y31, y32, y33, y34, y35, y36, y37, y38, y39, y40, y41, y42, y43, y44, y45, y46, y47, y48, y49, y50, y51, y52, y53, y54, y55, .pointer (some ⟨xb, 0, none⟩), .int .i64 1, .pointer (some ⟨xb, 1, none⟩), .int .i64 mt, .pointer (some ⟨g, 0, none⟩), .int .u64 (R1.last + 1), .pointer (some ⟨xb, 3, none⟩), .slice db n cb, .int .i64 a, .slice dB a cB, .pointer (some ⟨xb, 4, none⟩), .slice ds n cs, .int .i64 a, undef, undef, .pointer (some ⟨xb, 5, none⟩), .slice dd m cd, .int .i64 a, undef, undef, undef, undef, undef, undef, undef, undef], []⟩ W := by
    intro y1 y3 y4 y5 y6 y7 y8 y10 y12 y13 y14 y15 y16 y17 y18 y19 y20 y21 y22 y23 y24 y25 y26 y27 y28 y29 y30 y31 y32 y33 y34 y35 y36 y37 y38 y39 y40 y41 y42 y43 y44 y45 y46 y47 y48 y49 y50 y51 y52 y53 y54 y55 W S rr dB cB rB fB
    rw [hZ]
    refine nextR3 13 14 22 rfl rfl rfl (by kernel_rfl) rfl rfl rfl ?_ ?_ ?_
    · skip
      refine (callS (some 69) rfl 67 #[.slice ds n cs, .int .i64 a] (by go_simp) (fun v w' => ∃ d c, v = .slice d a c ∧ ByV w' (.slice d a c) a ∧ Ext W w' ∧ ∀ i, (Value.slice d a c).ownBlock = some i → W.heap.size ≤ i) (FITC.out W S) ?_)
      rintro v_ W' ⟨dC, cC, rfl, rC', x_, ff_⟩
      simp only [Act.put, List.setIfInBounds_toArray, List.set_cons_zero, List.set_cons_succ]
      have fC : ∀ i, (.slice dC a cC : Value).ownBlock = some i → Base W0 ≤ i := fun i hi => by have := ff_ i hi; have h_ := S.size; unfold Base; omega
      have rr' := rr.ext x_
      have rB' := byv_ext rB x_
      have S' := S.trans (Chg.of_ext (X := fun i => i = g) x_) (fun _ _ h => h)
      refine ⟨S', ?_⟩
      rw [← hZ]
      exact H300 _ _ _ _ _ _ _ _ _ _ _ _ _ _ _ _ _ _ _ _ _ _ _ _ _ _ _ _ _ _ _ _ _ _ _ _ _ _ _ _ _ _ _ _ _ _ _ _ _ _ _ _ W' S' rr' dB cB rB' fB dC cC rC' fC
    · skip
      refine (makeR (some 70) rfl (.slice (some ⟨W.heap.size, 0, none⟩) 0 0) (w1 := W.alloc (.cells #[] 4)) (by go_simp) ?_)
      simp only [Act.put, List.setIfInBounds_toArray, List.set_cons_zero, List.set_cons_succ]
      have x_ : Ext W (W.alloc (.cells #[] 4)) := Ext.alloc W _
      have z' := empty_row W 4 1
      have fz : Base W0 ≤ W.heap.size := S.size
      have rr' := rr.ext x_
      have rB' := byv_ext rB x_
      have S' := S.trans (Chg.of_ext (X := fun i => i = g) x_) (fun _ _ h => h)
      refine ⟨S', ?_⟩
      rw [← hZ]
      exact H210 _ _ _ _ _ _ _ _ _ _ _ _ _ _ _ _ _ _ _ _ _ _ _ _ _ _ _ _ _ _ _ _ _ _ _ _ _ _ _ _ _ _ _ _ _ _ _ _ _ _ _ _ (W.alloc (.cells #[] 4)) S' rr' W.heap.size z' fz dB cB rB' fB
    · skip
      refine (makeR (some 11) rfl (.pointer (some ⟨W.heap.size, 0, none⟩)) (w1 := W.alloc (.cells #[.int .i64 0, .int .i64 0, .int .u64 0, .slice none 0 0, .slice none 0 0, .slice none 0 0] 106)) (by go_simp) ?_)
      simp only [Act.put, List.setIfInBounds_toArray, List.set_cons_zero, List.set_cons_succ]
      have x_ : Ext W (W.alloc (.cells #[.int .i64 0, .int .i64 0, .int .u64 0, .slice none 0 0, .slice none 0 0, .slice none 0 0] 106)) := Ext.alloc W _
      have aV := At.new W #[.int .i64 0, .int .i64 0, .int .u64 0, .slice none 0 0, .slice none 0 0, .slice none 0 0] 106
      have fV : Base W0 ≤ W.heap.size := S.size
      have neB : ∀ i, (.slice dB a cB : Value).ownBlock = some i → i ≠ W.heap.size := fun i hi => by have := byv_lt rB i hi; omega
      have rr' := rr.ext x_
      have rB' := byv_ext rB x_
      have S' := S.trans (Chg.of_ext (X := fun i => i = g) x_) (fun _ _ h => h)
      refine ⟨S', ?_⟩
      rw [← hZ]
      exact H201 _ _ _ _ _ _ _ _ _ _ _ _ _ _ _ _ _ _ _ _ _ _ _ _ _ _ _ _ _ _ _ _ _ _ _ _ _ _ _ _ _ _ _ _ _ _ _ _ _ _ _ _ (W.alloc (.cells #[.int .i64 0, .int .i64 0, .int .u64 0, .slice none 0 0, .slice none 0 0, .slice none 0 0] 106)) S' rr' W.heap.size aV fV dB cB rB' fB neB
  have H111 : ∀ (y1 y3 y4 y5 y6 y7 y8 y10 y12 y13 y14 y15 y16 y17 y18 y19 y20 y21 y22 y23 y24 y25 y26 y27 y28 y29 y30 y31 y32 y33 y34 y35 y36 y37 y38 y39 y40 y41 y42 y43 y44 y45 y46 y47 y48 y49 y50 y51 y52 y53 y54 y55 : Value) (W : World) (S : Chg (fun i => i = g) W0 W) (rr : RRep W g { R1 with last := R1.last + 1 } F (k + 1 + 1)) (gd : Nat) (z : Row W 4 1 (.slice (some ⟨gd, 0, none⟩) 0 0) 0 []) (fz : Base W0 ≤ gd) (xv : Nat) (aV : At W xv #[.int .i64 0, .int .i64 0, .int .u64 0, .slice none 0 0, .slice none 0 0, .slice none 0 0] 106) (fV : Base W0 ≤ xv) (neD : ¬ gd = xv), Z 7 #[true, true, true, true, true, true, true, true, true, false, true, true, true, false, true, true, true, true, false, false, false, false, true, false] ⟨#[.pointer (some ⟨g, 0, none⟩), y1, .int .i64 a, y3, y4, y5, y6, y7, y8, .int .i64 q, y10, .pointer (some ⟨xv, 0, none⟩), y12, y13, y14, y15, y16, y17, y18, y19, y20, y21, y22, y23, y24, y25, y26, y27, y28, y29, y30, y31, y32, y33, y34, y35, y36, y37, y38, y39, y40, y41, y42, y43, y44, y45, y46, y47, y48, y49, y50, y51, y52, y53, y54, y55, .pointer (some ⟨xb, 0, none⟩), .int .i64 1, .pointer (some ⟨xb, 1, none⟩), .int .i64 mt, .pointer (some ⟨g, 0, none⟩), .int .u64 (R1.last + 1), .pointer (some ⟨xb, 3, none⟩), .slice db n cb, .int .i64 a, undef, .pointer (some ⟨xb, 4, none⟩), .slice ds n cs, .int .i64 a, undef, .slice (some ⟨gd, 0, none⟩) 0 0, .pointer (some ⟨xb, 5, none⟩), .slice dd m cd, .int .i64 a, undef, undef, undef, undef, undef, undef, undef, undef], []⟩ W := by
    intro y1 y3 y4 y5 y6 y7 y8 y10 y12 y13 y14 y15 y16 y17 y18 y19 y20 y21 y22 y23 y24 y25 y26 y27 y28 y29 y30 y31 y32 y33 y34 y35 y36 y37 y38 y39 y40 y41 y42 y43 y44 y45 y46 y47 y48 y49 y50 y51 y52 y53 y54 y55 W S rr gd z fz xv aV fV neD
    rw [hZ]
    refine nextS 9 rfl (by kernel_rfl) rfl (callS (some 65) rfl 67 #[.slice db n cb, .int .i64 a] (by go_simp) (fun v w' => ∃ d c, v = .slice d a c ∧ ByV w' (.slice d a c) a ∧ Ext W w' ∧ ∀ i, (Value.slice d a c).ownBlock = some i → W.heap.size ≤ i) (FITB.out W S) ?_)
    rintro v_ W' ⟨dB, cB, rfl, rB', x_, ff_⟩
    simp only [Act.put, List.setIfInBounds_toArray, List.set_cons_zero, List.set_cons_succ]
    have fB : ∀ i, (.slice dB a cB : Value).ownBlock = some i → Base W0 ≤ i := fun i hi => by have := ff_ i hi; have h_ := S.size; unfold Base; omega
    have neB : ∀ i, (.slice dB a cB : Value).ownBlock = some i → i ≠ xv := fun i hi => by have := ff_ i hi; have := aV.lt; omega
    have rr' := rr.ext x_
    have z' := z.ext x_
    have aV' := aV.ext x_
    have S' := S.trans (Chg.of_ext (X := fun i => i = g) x_) (fun _ _ h => h)
    refine ⟨S', ?_⟩
    rw [← hZ]
    exact H211 _ _ _ _ _ _ _ _ _ _ _ _ _ _ _ _ _ _ _ _ _ _ _ _ _ _ _ _ _ _ _ _ _ _ _ _ _ _ _ _ _ _ _ _ _ _ _ _ _ _ _ _ W' S' rr' gd z' fz xv aV' fV neD dB cB rB' fB neB
  have H110 : ∀ (y1 y3 y4 y5 y6 y7 y8 y10 y12 y13 y14 y15 y16 y17 y18 y19 y20 y21 y22 y23 y24 y25 y26 y27 y28 y29 y30 y31 y32 y33 y34 y35 y36 y37 y38 y39 y40 y41 y42 y43 y44 y45 y46 y47 y48 y49 y50 y51 y52 y53 y54 y55 : Value) (W : World) (S : Chg (fun i => i = g) W0 W) (rr : RRep W g { R1 with last := R1.last + 1 } F (k + 1 + 1)) (gd : Nat) (z : Row W 4 1 (.slice (some ⟨gd, 0, none⟩) 0 0) 0 []) (fz : Base W0 ≤ gd), Z 8 #[true, true, true, true, true, true, true, true, true, false, true, true, true, false, true, true, true, true, false, false, false, false, false, false] ⟨#[.pointer (some ⟨g, 0, none⟩), y1, .int .i64 a, y3, y4, y5, y6, y7, y8, .int .i64 q, y10, undef, y12, y13, y14, y15, y16, y17, y18, y19, y20, y21, y22, y23, y24, y25, y26, y27, y28, y29, y30, y31, y32, y33, y34, y35, y36, y37, y38, y39, y40, y41, y42, y43, y44, y45, y46, y47, y48, y49, y50, y51, y52, y53, y54, y55, .pointer (some ⟨xb, 0, none⟩), .int .i64 1, .pointer (some ⟨xb, 1, none⟩), .int .i64 mt, .pointer (some ⟨g, 0, none⟩), .int .u64 (R1.last + 1), .pointer (some ⟨xb, 3, none⟩), .slice db n cb, .int .i64 a, undef, .pointer (some ⟨xb, 4, none⟩), .slice ds n cs, .int .i64 a, undef, .slice (some ⟨gd, 0, none⟩) 0 0, .pointer (some ⟨xb, 5, none⟩), .slice dd m cd, .int .i64 a, undef, undef, undef, undef, undef, undef, undef, undef], []⟩ W := by
    intro y1 y3 y4 y5 y6 y7 y8 y10 y12 y13 y14 y15 y16 y17 y18 y19 y20 y21 y22 y23 y24 y25 y26 y27 y28 y29 y30 y31 y32 y33 y34 y35 y36 y37 y38 y39 y40 y41 y42 y43 y44 y45 y46 y47 y48 y49 y50 y51 y52 y53 y54 y55 W S rr gd z fz
    rw [hZ]
    refine nextR2 9 22 rfl rfl (by kernel_rfl) rfl rfl ?_ ?_
    · skip
      refine (callS (some 65) rfl 67 #[.slice db n cb, .int .i64 a] (by go_simp) (fun v w' => ∃ d c, v = .slice d a c ∧ ByV w' (.slice d a c) a ∧ Ext W w' ∧ ∀ i, (Value.slice d a c).ownBlock = some i → W.heap.size ≤ i) (FITB.out W S) ?_)
      rintro v_ W' ⟨dB, cB, rfl, rB', x_, ff_⟩
      simp only [Act.put, List.setIfInBounds_toArray, List.set_cons_zero, List.set_cons_succ]
      have fB : ∀ i, (.slice dB a cB : Value).ownBlock = some i → Base W0 ≤ i := fun i hi => by have := ff_ i hi; have h_ := S.size; unfold Base; omega
      have rr' := rr.ext x_
      have z' := z.ext x_
      have S' := S.trans (Chg.of_ext (X := fun i => i = g) x_) (fun _ _ h => h)
      refine ⟨S', ?_⟩
      rw [← hZ]
      exact H210 _ _ _ _ _ _ _ _ _ _ _ _ _ _ _ _ _ _ _ _ _ _ _ _ _ _ _ _ _ _ _ _ _ _ _ _ _ _ _ _ _ _ _ _ _ _ _ _ _ _ _ _ W' S' rr' gd z' fz dB cB rB' fB
    · skip
      refine (makeR (some 11) rfl (.pointer (some ⟨W.heap.size, 0, none⟩)) (w1 := W.alloc (.cells #[.int .i64 0, .int .i64 0, .int .u64 0, .slice none 0 0, .slice none 0 0, .slice none 0 0] 106)) (by go_simp) ?_)
      simp only [Act.put, List.setIfInBounds_toArray, List.set_cons_zero, List.set_cons_succ]
      have x_ : Ext W (W.alloc (.cells #[.int .i64 0, .int .i64 0, .int .u64 0, .slice none 0 0, .slice none 0 0, .slice none 0 0] 106)) := Ext.alloc W _
      have aV := At.new W #[.int .i64 0, .int .i64 0, .int .u64 0, .slice none 0 0, .slice none 0 0, .slice none 0 0] 106
      have fV : Base W0 ≤ W.heap.size := S.size
      have neD : ¬ gd = W.heap.size := by have := z.lt gd rfl; omega
      have rr' := rr.ext x_
      have z' := z.ext x_
      have S' := S.trans (Chg.of_ext (X := fun i => i = g) x_) (fun _ _ h => h)
      refine ⟨S', ?_⟩
      rw [← hZ]
      exact H111 _ _ _ _ _ _ _ _ _ _ _ _ _ _ _ _ _ _ _ _ _ _ _ _ _ _ _ _ _ _ _ _ _ _ _ _ _ _ _ _ _ _ _ _ _ _ _ _ _ _ _ _ (W.alloc (.cells #[.int .i64 0, .int .i64 0, .int .u64 0, .slice none 0 0, .slice none 0 0, .slice none 0 0] 106)) S' rr' gd z' fz W.heap.size aV fV neD
  have H101 : ∀ (y1 y3 y4 y5 y6 y7 y8 y10 y12 y13 y14 y15 y16 y17 y18 y19 y20 y21 y22 y23 y24 y25 y26 y27 y28 y29 y30 y31 y32 y33 y34 y35 y36 y37 y38 y39 y40 y41 y42 y43 y44 y45 y46 y47 y48 y49 y50 y51 y52 y53 y54 y55 : Value) (W : World) (S : Chg (fun i => i = g) W0 W) (rr : RRep W g { R1 with last := R1.last + 1 } F (k + 1 + 1)) (xv : Nat) (aV : At W xv #[.int .i64 0, .int .i64 0, .int .u64 0, .slice none 0 0, .slice none 0 0, .slice none 0 0] 106) (fV : Base W0 ≤ xv), Z 8 #[true, true, true, true, true, true, true, true, true, false, true, true, true, false, false, true, true, true, false, false, false, false, true, false] ⟨#[.pointer (some ⟨g, 0, none⟩), y1, .int .i64 a, y3, y4, y5, y6, y7, y8, .int .i64 q, y10, .pointer (some ⟨xv, 0, none⟩), y12, y13, y14, y15, y16, y17, y18, y19, y20, y21, y22, y23, y24, y25, y26, y27, y28, y29, y30, y31, y32, y33, y34, y35, y36, y37, y38, y39, y40, y41, y42, y43, y44, y45, y46, y47, y48, y49, y50, y51, y52, y53, y54, y55, .pointer (some ⟨xb, 0, none⟩), .int .i64 1, .pointer (some ⟨xb, 1, none⟩), .int .i64 mt, .pointer (some ⟨g, 0, none⟩), .int .u64 (R1.last + 1), .pointer (some ⟨xb, 3, none⟩), .slice db n cb, .int .i64 a, undef, .pointer (some ⟨xb, 4, none⟩), .slice ds n cs, .int .i64 a, undef, undef, .pointer (some ⟨xb, 5, none⟩), .slice dd m cd, .int .i64 a, undef, undef, undef, undef, undef, undef, undef, undef], []⟩ W := by
    intro y1 y3 y4 y5 y6 y7 y8 y10 y12 y13 y14 y15 y16 y17 y18 y19 y20 y21 y22 y23 y24 y25 y26 y27 y28 y29 y30 y31 y32 y33 y34 y35 y36 y37 y38 y39 y40 y41 y42 y43 y44 y45 y46 y47 y48 y49 y50 y51 y52 y53 y54 y55 W S rr xv aV fV
    rw [hZ]
    refine nextR2 9 14 rfl rfl (by kernel_rfl) rfl rfl ?_ ?_
    · skip
      refine (callS (some 65) rfl 67 #[.slice db n cb, .int .i64 a] (by go_simp) (fun v w' => ∃ d c, v = .slice d a c ∧ ByV w' (.slice d a c) a ∧ Ext W w' ∧ ∀ i, (Value.slice d a c).ownBlock = some i → W.heap.size ≤ i) (FITB.out W S) ?_)
      rintro v_ W' ⟨dB, cB, rfl, rB', x_, ff_⟩
      simp only [Act.put, List.setIfInBounds_toArray, List.set_cons_zero, List.set_cons_succ]
      have fB : ∀ i, (.slice dB a cB : Value).ownBlock = some i → Base W0 ≤ i := fun i hi => by have := ff_ i hi; have h_ := S.size; unfold Base; omega
      have neB : ∀ i, (.slice dB a cB : Value).ownBlock = some i → i ≠ xv := fun i hi => by have := ff_ i hi; have := aV.lt; omega
      have rr' := rr.ext x_
      have aV' := aV.ext x_
      have S' := S.trans (Chg.of_ext (X := fun i => i = g) x_) (fun _ _ h => h)
      refine ⟨S', ?_⟩
      rw [← hZ]
      exact H201 _ _ _ _ _ _ _ _ _ _ _ _ _ _ _ _ _ _ _ _ _ _ _ _ _ _ _ _ _ _ _ _ _ _ _ _ _ _ _ _ _ _ _ _ _ _ _ _ _ _ _ _ W' S' rr' xv aV' fV dB cB rB' fB neB
    · skip
      refine (makeR (some 70) rfl (.slice (some ⟨W.heap.size, 0, none⟩) 0 0) (w1 := W.alloc (.cells #[] 4)) (by go_simp) ?_)
      simp only [Act.put, List.setIfInBounds_toArray, List.set_cons_zero, List.set_cons_succ]
      have x_ : Ext W (W.alloc (.cells #[] 4)) := Ext.alloc W _
      have z' := empty_row W 4 1
      have fz : Base W0 ≤ W.heap.size := S.size
      have neD : ¬ W.heap.size = xv := by have := aV.lt; omega
      have rr' := rr.ext x_
      have aV' := aV.ext x_
      have S' := S.trans (Chg.of_ext (X := fun i => i = g) x_) (fun _ _ h => h)
      refine ⟨S', ?_⟩
      rw [← hZ]
      exact H111 _ _ _ _ _ _ _ _ _ _ _ _ _ _ _ _ _ _ _ _ _ _ _ _ _ _ _ _ _ _ _ _ _ _ _ _ _ _ _ _ _ _ _ _ _ _ _ _ _ _ _ _ (W.alloc (.cells #[] 4)) S' rr' W.heap.size z' fz xv aV' fV neD
  have H100 : ∀ (y1 y3 y4 y5 y6 y7 y8 y10 y12 y13 y14 y15 y16 y17 y18 y19 y20 y21 y22 y23 y24 y25 y26 y27 y28 y29 y30 y31 y32 y33 y34 y35 y36 y37 y38 y39 y40 y41 y42 y43 y44 y45 y46 y47 y48 y49 y50 y51 y52 y53 y54 y55 : Value) (W : World) (S : Chg (fun i => i = g) W0 W) (rr : RRep W g { R1 with last := R1.last + 1 } F (k + 1 + 1)), Z 9 #[true, true, true, true, true, true, true, true, true, false, true, true, true, false, false, true, true, true, false, false, false, false, false, false] ⟨#[.pointer (some ⟨g, 0, none⟩), y1, .int .i64 a, y3, y4, y5, y6, y7, y8, .int .i64 q, y10, undef, y12, y13, y14, y15, y16, y17, y18, y19, y20, y21, y22, y23, y24, y25, y26, y27, y28, y29, y30, y31, y32, y33, y34, y35, y36, y37, y38, y39, y40, y41, y42, y43, y44, y45, y46, y47, y48, y49, y50, y51, y52, y53, y54, y55, .pointer (some ⟨xb, 0, none⟩), .int .i64 1, .pointer (some ⟨xb, 1, none⟩), .int .i64 mt, .pointer (some ⟨g, 0, none⟩), .int .u64 (R1.last + 1), .pointer (some ⟨xb, 3, none⟩), .slice db n cb, .int .i64 a, undef, .pointer (some ⟨xb, 4, none⟩), .slice ds n cs, .int .i64 a, undef, undef, .pointer (some ⟨xb, 5, none⟩), .slice dd m cd, .int .i64 a, undef, undef, undef, undef, undef, undef, undef, undef], []⟩ W := by
    intro y1 y3 y4 y5 y6 y7 y8 y10 y12 y13 y14 y15 y16 y17 y18 y19 y20 y21 y22 y23 y24 y25 y26 y27 y28 y29 y30 y31 y32 y33 y34 y35 y36 y37 y38 y39 y40 y41 y42 y43 y44 y45 y46 y47 y48 y49 y50 y51 y52 y53 y54 y55 W S rr
    rw [hZ]
    refine nextR3 9 14 22 rfl rfl rfl (by kernel_rfl) rfl rfl rfl ?_ ?_ ?_
    · skip
      refine (callS (some 65) rfl 67 #[.slice db n cb, .int .i64 a] (by go_simp) (fun v w' => ∃ d c, v = .slice d a c ∧ ByV w' (.slice d a c) a ∧ Ext W w' ∧ ∀ i, (Value.slice d a c).ownBlock = some i → W.heap.size ≤ i) (FITB.out W S) ?_)
      rintro v_ W' ⟨dB, cB, rfl, rB', x_, ff_⟩
      simp only [Act.put, List.setIfInBounds_toArray, List.set_cons_zero, List.set_cons_succ]
      have fB : ∀ i, (.slice dB a cB : Value).ownBlock = some i → Base W0 ≤ i := fun i hi => by have := ff_ i hi; have h_ := S.size; unfold Base; omega
      have rr' := rr.ext x_
      have S' := S.trans (Chg.of_ext (X := fun i => i = g) x_) (fun _ _ h => h)
      refine ⟨S', ?_⟩
      rw [← hZ]
      exact H200 _ _ _ _ _ _ _ _ _ _ _ _ _ _ _ _ _ _ _ _ _ _ _ _ _ _ _ _ _ _ _ _ _ _ _ _ _ _ _ _ _ _ _ _ _ _ _ _ _ _ _ _ W' S' rr' dB cB rB' fB
    · skip
      refine (makeR (some 70) rfl (.slice (some ⟨W.heap.size, 0, none⟩) 0 0) (w1 := W.alloc (.cells #[] 4)) (by go_simp) ?_)
      simp only [Act.put, List.setIfInBounds_toArray, List.set_cons_zero, List.set_cons_succ]
      have x_ : Ext W (W.alloc (.cells #[] 4)) := Ext.alloc W _
      have z' := empty_row W 4 1
      have fz : Base W0 ≤ W.heap.size := S.size
      have rr' := rr.ext x_
      have S' := S.trans (Chg.of_ext (X := fun i => i = g) x_) (fun _ _ h => h)
      refine ⟨S', ?_⟩
      rw [← hZ]
      exact H110 _ _ _ _ _ _ _ _ _ _ _ _ _ _ _ _ _ _ _ _ _ _ _ _ _ _ _ _ _ _ _ _ _ _ _ _ _ _ _ _ _ _ _ _ _ _ _ _ _ _ _ _ (W.alloc (.cells #[] 4)) S' rr' W.heap.size z' fz
    · skip
      refine (makeR (some 11) rfl (.pointer (some ⟨W.heap.size, 0, none⟩)) (w1 := W.alloc (.cells #[.int .i64 0, .int .i64 0, .int .u64 0, .slice none 0 0, .slice none 0 0, .slice none 0 0] 106)) (by go_simp) ?_)
      simp only [Act.put, List.setIfInBounds_toArray, List.set_cons_zero, List.set_cons_succ]
      have x_ : Ext W (W.alloc (.cells #[.int .i64 0, .int .i64 0, .int .u64 0, .slice none 0 0, .slice none 0 0, .slice none 0 0] 106)) := Ext.alloc W _
      have aV := At.new W #[.int .i64 0, .int .i64 0, .int .u64 0, .slice none 0 0, .slice none 0 0, .slice none 0 0] 106
      have fV : Base W0 ≤ W.heap.size := S.size
      have rr' := rr.ext x_
      have S' := S.trans (Chg.of_ext (X := fun i => i = g) x_) (fun _ _ h => h)
      refine ⟨S', ?_⟩
      rw [← hZ]
      exact H101 _ _ _ _ _ _ _ _ _ _ _ _ _ _ _ _ _ _ _ _ _ _ _ _ _ _ _ _ _ _ _ _ _ _ _ _ _ _ _ _ _ _ _ _ _ _ _ _ _ _ _ _ (W.alloc (.cells #[.int .i64 0, .int .i64 0, .int .u64 0, .slice none 0 0, .slice none 0 0, .slice none 0 0] 106)) S' rr' W.heap.size aV fV
  have H011 : ∀ (y1 y3 y4 y5 y6 y7 y8 y10 y12 y13 y14 y15 y16 y17 y18 y19 y20 y21 y22 y23 y24 y25 y26 y27 y28 y29 y30 y31 y32 y33 y34 y35 y36 y37 y38 y39 y40 y41 y42 y43 y44 y45 y46 y47 y48 y49 y50 y51 y52 y53 y54 y55 : Value) (W : World) (S : Chg (fun i => i = g) W0 W) (rr : RRep W g R1 F (k + 1)) (gd : Nat) (z : Row W 4 1 (.slice (some ⟨gd, 0, none⟩) 0 0) 0 []) (fz : Base W0 ≤ gd) (xv : Nat) (aV : At W xv #[.int .i64 0, .int .i64 0, .int .u64 0, .slice none 0 0, .slice none 0 0, .slice none 0 0] 106) (fV : Base W0 ≤ xv) (neD : ¬ gd = xv), Z 8 #[true, true, true, true, true, false, true, true, true, false, true, true, true, false, true, true, true, true, false, false, false, false, true, false] ⟨#[.pointer (some ⟨g, 0, none⟩), y1, .int .i64 a, y3, y4, y5, y6, y7, y8, .int .i64 q, y10, .pointer (some ⟨xv, 0, none⟩), y12, y13, y14, y15, y16, y17, y18, y19, y20, y21, y22, y23, y24, y25, y26, y27, y28, y29, y30, y31, y32, y33, y34, y35, y36, y37, y38, y39, y40, y41, y42, y43, y44, y45, y46, y47, y48, y49, y50, y51, y52, y53, y54, y55, .pointer (some ⟨xb, 0, none⟩), .int .i64 1, .pointer (some ⟨xb, 1, none⟩), .int .i64 mt, .pointer (some ⟨g, 0, none⟩), undef, .pointer (some ⟨xb, 3, none⟩), .slice db n cb, .int .i64 a, undef, .pointer (some ⟨xb, 4, none⟩), .slice ds n cs, .int .i64 a, undef, .slice (some ⟨gd, 0, none⟩) 0 0, .pointer (some ⟨xb, 5, none⟩), .slice dd m cd, .int .i64 a, undef, undef, undef, undef, undef, undef, undef, undef], []⟩ W := by
    intro y1 y3 y4 y5 y6 y7 y8 y10 y12 y13 y14 y15 y16 y17 y18 y19 y20 y21 y22 y23 y24 y25 y26 y27 y28 y29 y30 y31 y32 y33 y34 y35 y36 y37 y38 y39 y40 y41 y42 y43 y44 y45 y46 y47 y48 y49 y50 y51 y52 y53 y54 y55 W S rr gd z fz xv aV fV neD
    rw [hZ]
    refine nextS 5 rfl (by kernel_rfl) rfl (callS (some 61) rfl 64 #[.pointer (some ⟨g, 0, none⟩)] (by go_simp) (fun v w' => v = .int .u64 (R1.last + 1) ∧ RRep w' g { R1 with last := R1.last + 1 } F (k + 1 + 1) ∧ Chg (fun i => i = g) W w') ((ST.out W rr).mono fun e w' he => ⟨_, he.1, rfl, he.2⟩) ?_)
    rintro v_ W' ⟨rfl, rr', c'⟩
    simp only [Act.put, List.setIfInBounds_toArray, List.set_cons_zero, List.set_cons_succ]
    have aV' := c'.at aV (fun e => by have := fV; unfold Base at this; omega)
    have z' := z.chg c' (fun i hi e => by have h_ : some gd = some i := hi; injection h_ with h_; have := fz; unfold Base at this; omega)
    have S' := S.trans c' (fun _ _ h => h)
    refine ⟨S', ?_⟩
    rw [← hZ]
    exact H111 _ _ _ _ _ _ _ _ _ _ _ _ _ _ _ _ _ _ _ _ _ _ _ _ _ _ _ _ _ _ _ _ _ _ _ _ _ _ _ _ _ _ _ _ _ _ _ _ _ _ _ _ W' S' rr' gd z' fz xv aV' fV neD
  have H010 : ∀ (y1 y3 y4 y5 y6 y7 y8 y10 y12 y13 y14 y15 y16 y17 y18 y19 y20 y21 y22 y23 y24 y25 y26 y27 y28 y29 y30 y31 y32 y33 y34 y35 y36 y37 y38 y39 y40 y41 y42 y43 y44 y45 y46 y47 y48 y49 y50 y51 y52 y53 y54 y55 : Value) (W : World) (S : Chg (fun i => i = g) W0 W) (rr : RRep W g R1 F (k + 1)) (gd : Nat) (z : Row W 4 1 (.slice (some ⟨gd, 0, none⟩) 0 0) 0 []) (fz : Base W0 ≤ gd), Z 9 #[true, true, true, true, true, false, true, true, true, false, true, true, true, false, true, true, true, true, false, false, false, false, false, false] ⟨#[.pointer (some ⟨g, 0, none⟩), y1, .int .i64 a, y3, y4, y5, y6, y7, y8, .int .i64 q, y10, undef, y12, y13, y14, y15, y16, y17, y18, y19, y20, y21, y22, y23, y24, y25, y26, y27, y28, y29, y30, y31, y32, y33, y34, y35, y36, y37, y38, y39, y40, y41, y42, y43, y44, y45, y46, y47, y48, y49, y50, y51, y52, y53, y54, y55, .pointer (some ⟨xb, 0, none⟩), .int .i64 1, .pointer (some ⟨xb, 1, none⟩), .int .i64 mt, .pointer (some ⟨g, 0, none⟩), undef, .pointer (some ⟨xb, 3, none⟩), .slice db n cb, .int .i64 a, undef, .pointer (some ⟨xb, 4, none⟩), .slice ds n cs, .int .i64 a, undef, .slice (some ⟨gd, 0, none⟩) 0 0, .pointer (some ⟨xb, 5, none⟩), .slice dd m cd, .int .i64 a, undef, undef, undef, undef, undef, undef, undef, undef], []⟩ W := by
    intro y1 y3 y4 y5 y6 y7 y8 y10 y12 y13 y14 y15 y16 y17 y18 y19 y20 y21 y22 y23 y24 y25 y26 y27 y28 y29 y30 y31 y32 y33 y34 y35 y36 y37 y38 y39 y40 y41 y42 y43 y44 y45 y46 y47 y48 y49 y50 y51 y52 y53 y54 y55 W S rr gd z fz
    rw [hZ]
    refine nextR2 5 22 rfl rfl (by kernel_rfl) rfl rfl ?_ ?_
    · skip
      refine (callS (some 61) rfl 64 #[.pointer (some ⟨g, 0, none⟩)] (by go_simp) (fun v w' => v = .int .u64 (R1.last + 1) ∧ RRep w' g { R1 with last := R1.last + 1 } F (k + 1 + 1) ∧ Chg (fun i => i = g) W w') ((ST.out W rr).mono fun e w' he => ⟨_, he.1, rfl, he.2⟩) ?_)
      rintro v_ W' ⟨rfl, rr', c'⟩
      simp only [Act.put, List.setIfInBounds_toArray, List.set_cons_zero, List.set_cons_succ]
      have z' := z.chg c' (fun i hi e => by have h_ : some gd = some i := hi; injection h_ with h_; have := fz; unfold Base at this; omega)
      have S' := S.trans c' (fun _ _ h => h)
      refine ⟨S', ?_⟩
      rw [← hZ]
      exact H110 _ _ _ _ _ _ _ _ _ _ _ _ _ _ _ _ _ _ _ _ _ _ _ _ _ _ _ _ _ _ _ _ _ _ _ _ _ _ _ _ _ _ _ _ _ _ _ _ _ _ _ _ W' S' rr' gd z' fz
    · skip
      refine (makeR (some 11) rfl (.pointer (some ⟨W.heap.size, 0, none⟩)) (w1 := W.alloc (.cells #[.int .i64 0, .int .i64 0, .int .u64 0, .slice none 0 0, .slice none 0 0, .slice none 0 0] 106)) (by go_simp) ?_)
      simp only [Act.put, List.setIfInBounds_toArray, List.set_cons_zero, List.set_cons_succ]
      have x_ : Ext W (W.alloc (.cells #[.int .i64 0, .int .i64 0, .int .u64 0, .slice none 0 0, .slice none 0 0, .slice none 0 0] 106)) := Ext.alloc W _
      have aV := At.new W #[.int .i64 0, .int .i64 0, .int .u64 0, .slice none 0 0, .slice none 0 0, .slice none 0 0] 106
      have fV : Base W0 ≤ W.heap.size := S.size
      have neD : ¬ gd = W.heap.size := by have := z.lt gd rfl; omega
      have rr' := rr.ext x_
      have z' := z.ext x_
      have S' := S.trans (Chg.of_ext (X := fun i => i = g) x_) (fun _ _ h => h)
      refine ⟨S', ?_⟩
      rw [← hZ]
      exact H011 _ _ _ _ _ _ _ _ _ _ _ _ _ _ _ _ _ _ _ _ _ _ _ _ _ _ _ _ _ _ _ _ _ _ _ _ _ _ _ _ _ _ _ _ _ _ _ _ _ _ _ _ (W.alloc (.cells #[.int .i64 0, .int .i64 0, .int .u64 0, .slice none 0 0, .slice none 0 0, .slice none 0 0] 106)) S' rr' gd z' fz W.heap.size aV fV neD
  have H001 : ∀ (y1 y3 y4 y5 y6 y7 y8 y10 y12 y13 y14 y15 y16 y17 y18 y19 y20 y21 y22 y23 y24 y25 y26 y27 y28 y29 y30 y31 y32 y33 y34 y35 y36 y37 y38 y39 y40 y41 y42 y43 y44 y45 y46 y47 y48 y49 y50 y51 y52 y53 y54 y55 : Value) (W : World) (S : Chg (fun i => i = g) W0 W) (rr : RRep W g R1 F (k + 1)) (xv : Nat) (aV : At W xv #[.int .i64 0, .int .i64 0, .int .u64 0, .slice none 0 0, .slice none 0 0, .slice none 0 0] 106) (fV : Base W0 ≤ xv), Z 9 #[true, true, true, true, true, false, true, true, true, false, true, true, true, false, false, true, true, true, false, false, false, false, true, false] ⟨#[.pointer (some ⟨g, 0, none⟩), y1, .int .i64 a, y3, y4, y5, y6, y7, y8, .int .i64 q, y10, .pointer (some ⟨xv, 0, none⟩), y12, y13, y14, y15, y16, y17, y18, y19, y20, y21, y22, y23, y24, y25, y26, y27, y28, y29, y30, y31, y32, y33, y34, y35, y36, y37, y38, y39, y40, y41, y42, y43, y44, y45, y46, y47, y48, y49, y50, y51, y52, y53, y54, y55, .pointer (some ⟨xb, 0, none⟩), .int .i64 1, .pointer (some ⟨xb, 1, none⟩), .int .i64 mt, .pointer (some ⟨g, 0, none⟩), undef, .pointer (some ⟨xb, 3, none⟩), .slice db n cb, .int .i64 a, undef, .pointer (some ⟨xb, 4, none⟩), .slice ds n cs, .int .i64 a, undef, undef, .pointer (some ⟨xb, 5, none⟩), .slice dd m cd, .int .i64 a, undef, undef, undef, undef, undef, undef, undef, undef], []⟩ W := by
    intro y1 y3 y4 y5 y6 y7 y8 y10 y12 y13 y14 y15 y16 y17 y18 y19 y20 y21 y22 y23 y24 y25 y26 y27 y28 y29 y30 y31 y32 y33 y34 y35 y36 y37 y38 y39 y40 y41 y42 y43 y44 y45 y46 y47 y48 y49 y50 y51 y52 y53 y54 y55 W S rr xv aV fV
    rw [hZ]
    refine nextR2 5 14 rfl rfl (by kernel_rfl) rfl rfl ?_ ?_
    · skip
      refine (callS (some 61) rfl 64 #[.pointer (some ⟨g, 0, none⟩)] (by go_simp) (fun v w' => v = .int .u64 (R1.last + 1) ∧ RRep w' g { R1 with last := R1.last + 1 } F (k + 1 + 1) ∧ Chg (fun i => i = g) W w') ((ST.out W rr).mono fun e w' he => ⟨_, he.1, rfl, he.2⟩) ?_)
      rintro v_ W' ⟨rfl, rr', c'⟩
      simp only [Act.put, List.setIfInBounds_toArray, List.set_cons_zero, List.set_cons_succ]
      have aV' := c'.at aV (fun e => by have := fV; unfold Base at this; omega)
      have S' := S.trans c' (fun _ _ h => h)
      refine ⟨S', ?_⟩
      rw [← hZ]
      exact H101 _ _ _ _ _ _ _ _ _ _ _ _ _ _ _ _ _ _ _ _ _ _ _ _ _ _ _ _ _ _ _ _ _ _ _ _ _ _ _ _ _ _ _ _ _ _ _ _ _ _ _ _ W' S' rr' xv aV' fV
    · skip
      refine (makeR (some 70) rfl (.slice (some ⟨W.heap.size, 0, none⟩) 0 0) (w1 := W.alloc (.cells #[] 4)) (by go_simp) ?_)
      simp only [Act.put, List.setIfInBounds_toArray, List.set_cons_zero, List.set_cons_succ]
      have x_ : Ext W (W.alloc (.cells #[] 4)) := Ext.alloc W _
      have z' := empty_row W 4 1
      have fz : Base W0 ≤ W.heap.size := S.size
      have neD : ¬ W.heap.size = xv := by have := aV.lt; omega
      have rr' := rr.ext x_
      have aV' := aV.ext x_
      have S' := S.trans (Chg.of_ext (X := fun i => i = g) x_) (fun _ _ h => h)
      refine ⟨S', ?_⟩
      rw [← hZ]
      exact H011 _ _ _ _ _ _ _ _ _ _ _ _ _ _ _ _ _ _ _ _ _ _ _ _ _ _ _ _ _ _ _ _ _ _ _ _ _ _ _ _ _ _ _ _ _ _ _ _ _ _ _ _ (W.alloc (.cells #[] 4)) S' rr' W.heap.size z' fz xv aV' fV neD
  have H000 : ∀ (y1 y3 y4 y5 y6 y7 y8 y10 y12 y13 y14 y15 y16 y17 y18 y19 y20 y21 y22 y23 y24 y25 y26 y27 y28 y29 y30 y31 y32 y33 y34 y35 y36 y37 y38 y39 y40 y41 y42 y43 y44 y45 y46 y47 y48 y49 y50 y51 y52 y53 y54 y55 : Value) (W : World) (S : Chg (fun i => i = g) W0 W) (rr : RRep W g R1 F (k + 1)), Z 10 #[true, true, true, true, true, false, true, true, true, false, true, true, true, false, false, true, true, true, false, false, false, false, false, false] ⟨#[.pointer (some ⟨g, 0, none⟩), y1, .int .i64 a, y3, y4, y5, y6, y7, y8, .int .i64 q, y10, undef, y12, y13, y14, y15, y16, y17, y18, y19, y20, y21, y22, y23, y24, y25, y26, y27, y28, y29, y30, y31, y32, y33, y34, y35, y36, y37, y38, y39, y40, y41, y42, y43, y44, y45, y46, y47, y48, y49, y50, y51, y52, y53, y54, y55, .pointer (some ⟨xb, 0, none⟩), .int .i64 1, .pointer (some ⟨xb, 1, none⟩), .int .i64 mt, .pointer (some ⟨g, 0, none⟩), undef, .pointer (some ⟨xb, 3, none⟩), .slice db n cb, .int .i64 a, undef, .pointer (some ⟨xb, 4, none⟩), .slice ds n cs, .int .i64 a, undef, undef, .pointer (some ⟨xb, 5, none⟩), .slice dd m cd, .int .i64 a, undef, undef, undef, undef, undef, undef, undef, undef], []⟩ W := by
    intro y1 y3 y4 y5 y6 y7 y8 y10 y12 y13 y14 y15 y16 y17 y18 y19 y20 y21 y22 y23 y24 y25 y26 y27 y28 y29 y30 y31 y32 y33 y34 y35 y36 y37 y38 y39 y40 y41 y42 y43 y44 y45 y46 y47 y48 y49 y50 y51 y52 y53 y54 y55 W S rr
    rw [hZ]
    refine nextR3 5 14 22 rfl rfl rfl (by kernel_rfl) rfl rfl rfl ?_ ?_ ?_
    · skip
      refine (callS (some 61) rfl 64 #[.pointer (some ⟨g, 0, none⟩)] (by go_simp) (fun v w' => v = .int .u64 (R1.last + 1) ∧ RRep w' g { R1 with last := R1.last + 1 } F (k + 1 + 1) ∧ Chg (fun i => i = g) W w') ((ST.out W rr).mono fun e w' he => ⟨_, he.1, rfl, he.2⟩) ?_)
      rintro v_ W' ⟨rfl, rr', c'⟩
      simp only [Act.put, List.setIfInBounds_toArray, List.set_cons_zero, List.set_cons_succ]
      have S' := S.trans c' (fun _ _ h => h)
      refine ⟨S', ?_⟩
      rw [← hZ]
      exact H100 _ _ _ _ _ _ _ _ _ _ _ _ _ _ _ _ _ _ _ _ _ _ _ _ _ _ _ _ _ _ _ _ _ _ _ _ _ _ _ _ _ _ _ _ _ _ _ _ _ _ _ _ W' S' rr'
    · skip
      refine (makeR (some 70) rfl (.slice (some ⟨W.heap.size, 0, none⟩) 0 0) (w1 := W.alloc (.cells #[] 4)) (by go_simp) ?_)
      simp only [Act.put, List.setIfInBounds_toArray, List.set_cons_zero, List.set_cons_succ]
      have x_ : Ext W (W.alloc (.cells #[] 4)) := Ext.alloc W _
      have z' := empty_row W 4 1
      have fz : Base W0 ≤ W.heap.size := S.size
      have rr' := rr.ext x_
      have S' := S.trans (Chg.of_ext (X := fun i => i = g) x_) (fun _ _ h => h)
      refine ⟨S', ?_⟩
      rw [← hZ]
      exact H010 _ _ _ _ _ _ _ _ _ _ _ _ _ _ _ _ _ _ _ _ _ _ _ _ _ _ _ _ _ _ _ _ _ _ _ _ _ _ _ _ _ _ _ _ _ _ _ _ _ _ _ _ (W.alloc (.cells #[] 4)) S' rr' W.heap.size z' fz
    · skip
      refine (makeR (some 11) rfl (.pointer (some ⟨W.heap.size, 0, none⟩)) (w1 := W.alloc (.cells #[.int .i64 0, .int .i64 0, .int .u64 0, .slice none 0 0, .slice none 0 0, .slice none 0 0] 106)) (by go_simp) ?_)
      simp only [Act.put, List.setIfInBounds_toArray, List.set_cons_zero, List.set_cons_succ]
      have x_ : Ext W (W.alloc (.cells #[.int .i64 0, .int .i64 0, .int .u64 0, .slice none 0 0, .slice none 0 0, .slice none 0 0] 106)) := Ext.alloc W _
      have aV := At.new W #[.int .i64 0, .int .i64 0, .int .u64 0, .slice none 0 0, .slice none 0 0, .slice none 0 0] 106
      have fV : Base W0 ≤ W.heap.size := S.size
      have rr' := rr.ext x_
      have S' := S.trans (Chg.of_ext (X := fun i => i = g) x_) (fun _ _ h => h)
      refine ⟨S', ?_⟩
      rw [← hZ]
      exact H001 _ _ _ _ _ _ _ _ _ _ _ _ _ _ _ _ _ _ _ _ _ _ _ _ _ _ _ _ _ _ _ _ _ _ _ _ _ _ _ _ _ _ _ _ _ _ _ _ _ _ _ _ (W.alloc (.cells #[.int .i64 0, .int .i64 0, .int .u64 0, .slice none 0 0, .slice none 0 0, .slice none 0 0] 106)) S' rr' W.heap.size aV fV
  exact H000 _ _ _ _ _ _ _ _ _ _ _ _ _ _ _ _ _ _ _ _ _ _ _ _ _ _ _ _ _ _ _ _ _ _ _ _ _ _ _ _ _ _ _ _ _ _ _ _ _ _ _ _ W0 S0 rr
end Go.Proofs.YtbneedmfpldpfaaGreatDoor
