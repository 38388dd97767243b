/- Contracts of the document's own store: Make, Remove, SyncDir, whatever it holds. Contracts of the document's own store: Remove, SyncDir, Rename, whatever it holds. -/
import Derived.Test.YtbneedmfpldpfaaGreatDoorBhM
set_option linter.unusedSimpArgs false
set_option linter.unusedVariables false
namespace Go.Proofs.YtbneedmfpldpfaaGreatDoor
open Go.RowKit Go.Pth

theorem rnames_new (g : Nat) (R : RV) (F : Nat → Prop) (k : Nat) (p b : ByteArray) (fn : Nat) (w : World) (h : RRep w g R F k) (hk : k ≤ 900) (hv : valid p.toList = true) (hf : fn < R.files.length) :
    Calls Tryz.prog 65 #[ptr g, .agg #[.int .i64 1, .string p, .string b, .int .i64 fn]] w fun e w' => e = .returned (.tuple #[]) ∧ RPost w g F (k + 1) w' :=
  rnames_any g R F k 1 p b fn (R.names.length + 1) w h (by omega) (by have := h.ln; omega) (fun w' c => rapply_one R.nw R.names _ p b fn w' (h.nr.keep fun i hi => h.apart c i (h.gn i hi)) (by have := h.ln; omega) (fun x hx => ⟨h.rv x hx, h.rn x hx⟩) ⟨hv, hf⟩)
theorem rnames_gone (g : Nat) (R : RV) (F : Nat → Prop) (k : Nat) (p b : ByteArray) (f : Int) (w : World) (h : RRep w g R F k) (hk : k ≤ 900) :
    Calls Tryz.prog 65 #[ptr g, .agg #[.int .i64 3, .string p, .string b, .int .i64 f]] w fun e w' => e = .returned (.tuple #[]) ∧ RPost w g F (k + 1) w' :=
  rnames_any g R F k 3 p b f R.names.length w h (by omega) (by have := h.ln; omega) (fun w' c => rapply_gone R.nw R.names _ p b f w' (h.nr.keep fun i hi => h.apart c i (h.gn i hi)) (by have := h.ln; omega) (fun x hx => ⟨h.rv x hx, h.rn x hx⟩))
theorem rnames_move (g : Nat) (R : RV) (F : Nat → Prop) (k : Nat) (p b : ByteArray) (f : Int) (w : World) (h : RRep w g R F k) (hk : k ≤ 900) (hp : p.size ≤ 1000000) (hb : b.size ≤ 1000000) (hv : ∀ x ∈ R.names, runQ p.toList x = true → valid (b.toList ++ x.1.drop p.toList.length) = true) :
    Calls Tryz.prog 65 #[ptr g, .agg #[.int .i64 2, .string p, .string b, .int .i64 f]] w fun e w' => e = .returned (.tuple #[]) ∧ RPost w g F (k + 1) w' :=
  rnames_any g R F k 2 p b f R.names.length w h (by omega) (by have := h.ln; omega) (fun w' c => rapply_moved R.nw R.names _ p b f w' (h.nr.keep fun i hi => h.apart c i (h.gn i hi)) (by have := h.ln; omega) hp hb (fun x hx => by have := valid_len (h.rv x hx); omega) (fun x hx => ⟨h.rv x hx, h.rn x hx⟩) (fun x hx hq => ⟨hv x hx hq, h.rn x hx⟩))
theorem ract_p (g : Nat) (R : RV) (F : Nat → Prop) (k : Nat) (p : ByteArray) (w : World) (h : RRep w g R F k) (hk : k ≤ 1000) :
    Calls Tryz.prog 61 #[ptr g, .slice (some ⟨w.heap.size, 0, none⟩) 1 1] (w.alloc (.cells #[.string p] 9)) fun e w' => ∃ n : Int, e = .returned (.int .i64 n) ∧ (n = 0 → valid p.toList = true) ∧ RRep w' g { R with asked := R.asked + 1 } F (k + 1) ∧ Chg (fun i => i = g) w w' :=
  (ract_any g R F k _ [p.toList] _ (h.ext (Ext.alloc _ _)) hk (txt_one w p) (by simp) (fun ad n c hv e => by
    injection hv with h1; injection h1 with h1
    have := h.cell.lt
    rw [← h1] at e
    have e : w.heap.size = g := e
    omega)).mono fun e w' ⟨n, h1, h2, h3, h4⟩ => ⟨n, h1, fun q => h2 q _ (by simp), h3, (Chg.of_ext (Ext.alloc w _)).trans h4 (fun _ _ h => h)⟩
theorem RRep.find {w : World} {g : Nat} {R : RV} {F : Nat → Prop} {k : Nat} (h : RRep w g R F k) (hk : k ≤ 1000) (p : ByteArray) :
    ∃ ad cap, R.nw = .slice ad R.names.length cap ∧ w.cell? ⟨g, 3, none⟩ = some (.slice ad R.names.length cap) ∧ Calls Tryz.prog 62 #[.slice ad R.names.length cap, .string p] w fun e w' => ∃ r : Int, e = .returned (.int .i64 r) ∧ w = w' ∧ (r = -1 ∨ ∃ j : Nat, r = j ∧ j < R.names.length) := by
  obtain ⟨ad, cap, b, o, hx⟩ := RNs.of_row h.nr
  have hv := hx.val
  have hln := h.ln
  have := rfind_any R.names R.nw ad cap b o p w hx (by omega)
  rw [hv] at this
  exact ⟨ad, cap, hv, by rw [h.c 3, ← hv]; rfl, this⟩
/-- One more file of the store. -/
theorem RRep.onefile {w w' : World} {g : Nat} {R : RV} {F : Nat → Prop} {k : Nat} (h : RRep w g R F k) (e : Chg (fun i => i = g) w w') {d6 : Option Addr} {N1 c6 : Nat} {lc : Int} (X : RF) (hN : N1 = R.files.length + 1)
    (hr : Row w' 106 6 (.slice d6 N1 c6) N1 (rfs R.files ++ rfc X)) (hf : ∀ i, (Value.slice d6 N1 c6).ownBlock = some i → w.heap.size ≤ i) (hX : ∀ W G, RFIn W G X) (hat : At w' g (rsc { R with last := lc }) 62) (hlc : 0 ≤ lc ∧ lc ≤ ((k + 2 : Nat) : Int)) :
    ∃ R' F', RRep (w'.setCell ⟨g, 2, none⟩ (.slice d6 N1 c6)) g R' F' (k + 2) ∧ R'.files.length = N1 ∧ (∀ i, F' i → F i ∨ w.heap.size ≤ i) ∧ Chg (fun i => i = g) w (w'.setCell ⟨g, 2, none⟩ (.slice d6 N1 c6)) := by
  have s := Chg.setCell w' g 2 (.slice d6 N1 c6)
  have c := e.trans s (fun _ _ h => h)
  have hg := h.cell.lt
  have hl : (R.files ++ [X]).length = N1 := by rw [List.length_append, hN]; rfl
  have er : rfs R.files ++ rfc X = rfs (R.files ++ [X]) := by
    unfold rfs
    rw [List.flatMap_append, List.flatMap_cons, List.flatMap_nil, List.append_nil]
  rw [er] at hr
  have hr2 := hr.chg s (fun i hi q => by have := hf i hi; omega)
  refine ⟨_, _, h.refiles c (vf := .slice d6 N1 c6) (fl := R.files ++ [X]) (lc := lc) (hat.set 2 _) (by rw [hl]; exact hr2) hf (fun f hf => ?_) (by rw [List.length_append]; omega) (by omega) (by rw [hl, hN]; have := h.lf; omega) hlc, hl, fun i hi => hi.imp id fun q => q.1, c⟩
  rcases List.mem_append.1 hf with q | q
  · exact Or.inl q
  · rw [List.mem_singleton.1 q]; exact Or.inr (hX _ _)
theorem rf_nil (kd mt st : Int) (W : World) (G : Nat → Prop) : RFIn W G ⟨kd, mt, st, .slice none 0 0, .slice none 0 0, .slice none 0 0, 0, 0⟩ :=
  ⟨⟨[], rfl, World.ownsRow_nil _ _ _ _⟩, ⟨[], rfl, World.ownsRow_nil _ _ _ _⟩, ⟨[], rfl, World.ownsRow_nil _ _ _ _⟩, by simp [secs], by simp, by simp, (fun i hi => by cases hi), (fun i hi => by cases hi), (fun i hi => by cases hi)⟩

set_option maxRecDepth 100000 in
set_option maxHeartbeats 8000000 in
theorem rmake_all (g : Nat) (R : RV) (F : Nat → Prop) (k : Nat) (p : ByteArray) (kd : Int) (w : World) (h : RRep w g R F k) (hk : k ≤ 800) :
    Calls Tryz.prog 30 #[ptr g, .string p, .int .i64 kd] w fun e w' => (∃ n : Int, e = .returned (.int .i64 n)) ∧ RPost w g F (k + 10) w' := by
  have A1 := Lib.hid (ract_p g R F k p w h (by omega))
  have HO := Lib.hid (fun (w' : World) (n : Nat) (R' : RV) (hn : n ≤ 10) (r : RRep w' g R' F (k + n)) (c : Chg (fun i => i = g) w w') => RPost.of (r.up (k' := k + 10) (by omega)) c)
  clear h
  unfold ptr at *
  go_enter Tryz.func30, Tryz.ntmps30
  go_wp2_with fail
  refine (A1.out).mono ?_
  rintro e w1 ⟨n, rfl, hv, r1, c1⟩
  clear A1
  have HV := Lib.hid hv
  have HC := Lib.hid c1
  have HR := Lib.hid r1
  clear hv c1
  by_cases hn : n = 0
  rotate_left
  · have tb : (n != 0) = true := by simpa using hn
    have FN := Lib.hid (HO.out _ 1 _ (by omega) HR.out HC.out)
    clear r1 hn
    go_wp2
    go_ret
    exact ⟨⟨_, rfl⟩, FN.out⟩
  subst hn
  obtain ⟨ad, cap, hnw, c3, fi⟩ := r1.find (by omega) p
  have FI := Lib.hid fi
  have AB := Lib.hid (rabove_any g _ F (k + 1) p w1 r1 (by omega))
  clear fi hnw r1
  have HR1 : Hid (∃ R1 : RV, RRep w1 g R1 F (k + 1)) := Lib.hid ⟨_, HR.out⟩
  unfold ptr at AB
  generalize ({ R with asked := R.asked + 1 } : RV) = R1 at *
  obtain ⟨nn, hnn⟩ : ∃ nn, nn = R1.names.length := ⟨_, rfl⟩
  rw [← hnn] at c3 FI
  clear hnn
  go_wp2_with fail
  refine (FI.out).mono ?_
  rintro e w' ⟨r, rfl, rfl, hr⟩
  clear FI
  rcases hr with rfl | ⟨j, rfl, hj⟩
  rotate_left
  · have j0 : (j : Int) ≥ 0 := by omega
    have j1 : (0 : Int) ≤ (j : Int) := by omega
    have FN := Lib.hid (HO.out _ 1 _ (by omega) HR.out HC.out)
    clear hj
    go_wp2
    go_ret
    exact ⟨⟨_, rfl⟩, FN.out⟩
  go_wp2_with fail
  refine (AB.out).mono ?_
  rintro e w2 ⟨⟨n2, rfl⟩, e2⟩
  have HR2 := Lib.hid (HR.out.ext e2)
  have HC2 := Lib.hid (HC.out.trans (Chg.of_ext e2) (fun _ _ h => h))
  clear AB e2 c3
  by_cases hn : n2 = 0
  rotate_left
  · have tb : (n2 != 0) = true := by simpa using hn
    have FN := Lib.hid (HO.out _ 1 _ (by omega) HR2.out HC2.out)
    clear hn
    go_wp2
    go_ret
    exact ⟨⟨_, rfl⟩, FN.out⟩
  subst hn
  have r2 := HR2.out
  have hlf := r2.lf
  have e2 : Ext w2 (w2.alloc (.cells #[] 106)) := Ext.alloc w2 _
  obtain ⟨v3, w3, h1, h2, h3⟩ := row_copy 58 Tryz.underlying58 info97 rfl (empty_row w2 106 6) (Row.src (r2.fr.ext e2) (rfs_one r2.ff) Tryz.underlying58) (by omega) (by omega)
  have f3 := fresh2 h3
  rw [Nat.zero_add, List.nil_append] at h2
  obtain ⟨d3, c3', rfl, -⟩ := h2.shape
  obtain ⟨df, cf, hvf, -⟩ := r2.fr.shape
  have c2 : (w2.alloc (.cells #[] 106)).cell? ⟨g, 2, none⟩ = some R1.fs := (r2.ext e2).c 2
  rw [hvf] at c2 h1
  have R1' := Lib.hid h1
  have H2 := Lib.hid (And.intro h2 f3.2)
  have HR3 := Lib.hid (r2.ext f3.1)
  have HC3 := Lib.hid (HC2.out.trans (Chg.of_ext f3.1) (fun _ _ h => h))
  have ST := Lib.hid (rstamp_all g R1 F (k + 1) w3 HR3.out (by omega))
  have HSZ := Lib.hid f3.1
  clear h1 h2 h3 f3 r2 e2 hvf
  obtain ⟨m, hm⟩ : ∃ m, m = R1.files.length := ⟨_, rfl⟩
  rw [← hm] at R1' H2 hlf c2
  have HM := Lib.hid hm
  clear hm
  unfold ptr at ST
  go_wp2_with (at_builtin; refine Lib.wpList_append_run _ rfl _ _ _ _ rfl _ _ rfl rfl _ _ R1'.out ?_)
  clear c2
  refine (ST.out).mono ?_
  rintro e w4 ⟨rfl, r4, c4⟩
  have HS1 := Lib.hid (show 0 ≤ R1.last + 1 from by have := HR3.out.lc; omega)
  have HC4 := Lib.hid (HC3.out.trans c4 (fun _ _ h => h))
  have gw3 : g < w2.heap.size := HR2.out.cell.lt
  have h24 := H2.out.1.chg c4 (fun i hi q => by have := H2.out.2 i hi; omega)
  generalize hst : R1.last + 1 = st at *
  obtain ⟨XA, hXA⟩ : ∃ XA : Array Value, XA = #[.int .i64 kd, .int .i64 0, .int .u64 st, .slice none 0 0, .slice none 0 0, .slice none 0 0] := ⟨_, rfl⟩
  have e5 : Ext w4 (w4.alloc (.cells XA 106)) := Ext.alloc w4 _
  have a5 := At.new w4 XA 106
  obtain ⟨v6, w6, h61, h62, h63⟩ := row_copy 58 Tryz.underlying58 info97 rfl (h24.ext e5) (Src.ofSlice (w4.alloc (.cells XA 106)) Tryz.underlying58 ⟨w4.heap.size, 0, none⟩ 1 1 (rfc ⟨kd, 0, st, .slice none 0 0, .slice none 0 0, .slice none 0 0, 0, 0⟩) rfl (fun q u hu => by rw [Addr.add_lit, Nat.zero_add, a5.cell, ← hu, hXA]; simp [rfc]) (by simp [rfc, Value.oneCell'])) (by omega) (by omega)
  have z6 : ∀ i, (Value.slice d3 m c3').ownBlock = some i → w2.heap.size ≤ i := H2.out.2
  have q1 : Chg (fun i => (Value.slice d3 m c3').ownBlock = some i) w4 w6 := (Chg.of_ext (X := fun i => (Value.slice d3 m c3').ownBlock = some i) e5).trans h63.chg (fun _ _ h => h)
  have q2 : Chg (fun i => i = g) w2 w6 := ((Chg.of_ext (X := fun i => i = g) HSZ.out).trans c4 (fun _ _ h => h)).trans q1 (fun i hi q => by have := z6 i q; omega)
  have q3 : ∀ i, v6.ownBlock = some i → w2.heap.size ≤ i := fun i hi => by
    rcases h63.own with q | ⟨j, q2, q3⟩
    · rw [q] at hi; exact z6 i hi
    · rw [q2] at hi; injection hi with hi
      have h0 := HSZ.out.size
      have h00 := c4.size
      have h1 := e5.size
      omega
  have q4 : At w6 g (rsc { R1 with last := st }) 62 := q1.at r4.cell (fun q => by have := z6 _ q; omega)
  obtain ⟨d6, c6, rfl, -⟩ := h62.shape
  obtain ⟨N1, hN1⟩ : ∃ N1, N1 = m + 1 := ⟨_, rfl⟩
  rw [← hN1] at h62 h61 q3
  have hlc := r4.lc
  simp only at hlc
  obtain ⟨R', F', r7, hl7, hf7, c7⟩ := HR2.out.onefile q2 (d6 := d6) (N1 := N1) (c6 := c6) (lc := st) ⟨kd, 0, st, .slice none 0 0, .slice none 0 0, .slice none 0 0, 0, 0⟩ (by rw [hN1, HM.out]) h62 q3 (rf_nil _ _ _) q4 (by omega)
  have NM := Lib.hid (rnames_new g R' F' (k + 1 + 2) p ⟨#[]⟩ m _ r7 (by omega) (HV.out trivial) (by omega))
  have c2 : w6.cell? ⟨g, 2, none⟩ = some R1.fs := q4.cell 2
  have z2 : w6.frozen? ⟨g, 2, none⟩ = false := q4.frozen 2
  have d2 : (w6.setCell ⟨g, 2, none⟩ (.slice d6 N1 c6)).cell? ⟨g, 2, none⟩ = some (.slice d6 N1 c6) := (q4.set 2 (.slice d6 N1 c6)).cell 2
  obtain ⟨df', cf', hvf', -⟩ := HR2.out.fr.shape
  rw [hvf'] at c2
  have hw : IntKind.i64.wrap ((N1 : Int) - 1) = (m : Int) := by rw [IntKind.wrap_i64]; omega
  have FN := Lib.hid (show ∀ w', RPost (w6.setCell ⟨g, 2, none⟩ (.slice d6 N1 c6)) g F' (k + 1 + 2 + 1) w' → RPost w g F (k + 10) w' from fun w' ⟨R8, F8, r8, c8, l8⟩ =>
    ⟨R8, F8, r8.up (by omega), (HC2.out.trans c7 (fun _ _ h => h)).trans c8 (fun _ _ h => h), fun i hi => by
      have s1 := HC2.out.size
      have s2 := c7.size
      rcases l8 i hi with q | q
      · rcases hf7 i q with q | q
        · exact Or.inl q
        · right; omega
      · right; omega⟩)
  subst hXA
  have R2' := Lib.hid h61
  unfold ptr at NM
  clear h61 h62 h63 q1 q2 q3 q4 r7 hl7 hf7 c7 z6 a5 e5 h24 r4 c4 hvf' hlc hN1 hlf
  go_wp2_with (at_builtin; refine Lib.wpList_append_run _ rfl _ _ _ _ rfl _ _ rfl rfl _ _ R2'.out ?_)
  refine (NM.out).mono ?_
  rintro e w8 ⟨rfl, p8⟩
  have FN2 := Lib.hid (FN.out w8 p8)
  clear p8 NM
  go_wp2
  go_ret
  exact ⟨⟨_, rfl⟩, FN2.out⟩
end Go.Proofs.YtbneedmfpldpfaaGreatDoor

set_option linter.unusedSimpArgs false
set_option linter.unusedVariables false
namespace Go.Proofs.YtbneedmfpldpfaaGreatDoor
open Go.RowKit Go.Pth

set_option maxRecDepth 100000 in
set_option maxHeartbeats 8000000 in
theorem rremove_all (g : Nat) (R : RV) (F : Nat → Prop) (k : Nat) (p : ByteArray) (w : World) (h : RRep w g R F k) (hk : k ≤ 800) :
    Calls Tryz.prog 38 #[ptr g, .string p] w fun e w' => (∃ n : Int, e = .returned (.int .i64 n)) ∧ RPost w g F (k + 10) w' := by
  have A1 := Lib.hid (ract_p g R F k p w h (by omega))
  have HO := Lib.hid (fun (w' : World) (n : Nat) (R' : RV) (hn : n ≤ 10) (r : RRep w' g R' F (k + n)) (c : Chg (fun i => i = g) w w') => RPost.of (r.up (k' := k + 10) (by omega)) c)
  clear h
  unfold ptr at *
  go_enter Tryz.func38, Tryz.ntmps38
  go_wp2_with fail
  refine (A1.out).mono ?_
  rintro e w1 ⟨n, rfl, hv, r1, c1⟩
  clear A1
  have HV := Lib.hid hv
  have HC := Lib.hid c1
  have HR := Lib.hid r1
  clear hv c1
  by_cases hn : n = 0
  rotate_left
  · have tb : (n != 0) = true := by simpa using hn
    have FN := Lib.hid (HO.out _ 1 _ (by omega) HR.out HC.out)
    clear r1 hn
    go_wp2
    go_ret
    exact ⟨⟨_, rfl⟩, FN.out⟩
  subst hn
  obtain ⟨ad, cap, hnw, c3, fi⟩ := r1.find (by omega) p
  have FI := Lib.hid fi
  have HNW := Lib.hid hnw
  clear fi hnw r1
  generalize ({ R with asked := R.asked + 1 } : RV) = R1 at *
  obtain ⟨nn, hnn⟩ : ∃ nn, nn = R1.names.length := ⟨_, rfl⟩
  rw [← hnn] at c3 FI HNW
  have HNN := Lib.hid hnn
  clear hnn
  go_wp2_with fail
  refine (FI.out).mono ?_
  rintro e w' ⟨r, rfl, rfl, hr⟩
  clear FI
  rcases hr with rfl | ⟨j, rfl, hj⟩
  · have FN := Lib.hid (HO.out _ 1 _ (by omega) HR.out HC.out)
    go_wp2
    go_ret
    exact ⟨⟨_, rfl⟩, FN.out⟩
  have j0 : ¬ ((j : Int) < 0) := by omega
  have i0 : (0 : Int) ≤ (j : Int) := by omega
  have hnn2 : nn ≤ 1000 := by rw [HNN.out]; have := HR.out.ln; omega
  have CM : Hid (∀ wr, Ext w1 wr → ∀ i, i < nn → ∃ (b o : Nat) (z : ByteArray), ad = some ⟨b, o, none⟩ ∧ wr.cell? ⟨b, o + i * 2, none⟩ = some (.string z)) := Lib.hid (by
    obtain ⟨ad', cap', b, o, hx⟩ := RNs.of_row HR.out.nr
    have hv := hx.val
    rw [HNW.out, ← HNN.out] at hv
    injection hv with h1 _ _
    intro wr e i hi
    exact ⟨b, o, tx (R1.names[i]'(by rw [← HNN.out]; exact hi)).1, by rw [h1]; exact hx.adr (by rw [← HNN.out]; omega), e.cell (hx.nm i (by rw [← HNN.out]; exact hi))⟩)
  have UN := Lib.hid (fun a b (w1 w2 : World) (h : Ext w1 w2) => ((runder_any a b w2).mono fun _ _ (h' : _ ∧ _) => (⟨h'.1, h.trans h'.2⟩ : _ ∧ Ext w1 _)))
  have C3 := Lib.hid (fun wr (e : Ext w1 wr) => e.cell c3)
  have NG := Lib.hid (fun wr (e : Ext w1 wr) => rnames_gone g R1 F (k + 1) p ⟨#[]⟩ 0 wr (HR.out.ext e) (by omega))
  unfold ptr at NG
  clear c3 hj
  go_wp2
  go_loopw [6] (fun s6 wr => ∃ i : Nat, i ≤ nn ∧ s6 = .int .i64 i ∧ Ext w1 wr) (fun s6 _ => nn - (intOf s6).toNat)
  case atStart => exact ⟨0, by omega, rfl, Ext.refl _⟩
  case round =>
    obtain ⟨i, hi, rfl, he⟩ := hrel
    have c3 := C3.out _ he
    by_cases hlt : i < nn
    · obtain ⟨b, o, z, ha, cz⟩ := CM.out _ he i hlt
      subst ha
      have k0 : (0 : Int) ≤ (i : Int) := by omega
      have k1 : (i : Int) < (nn : Int) := by omega
      have HE := Lib.hid he
      have U1 := Lib.hid (UN.out z p w1 _ he)
      clear he UN
      cases hu : under z.toList p.toList with
      | true =>
        rw [hu] at U1
        go_wp2_with fail
        refine (U1.out).mono ?_
        rintro e w5 ⟨rfl, e5⟩
        have FN := Lib.hid (HO.out _ 1 _ (by omega) (HR.out.ext e5) (HC.out.trans (Chg.of_ext e5) (fun _ _ h => h)))
        clear e5
        go_wp2
        go_ret
        exact ⟨⟨_, rfl⟩, FN.out⟩
      | false =>
        rw [hu] at U1
        go_wp2_with fail
        refine (U1.out).mono ?_
        rintro e w5 ⟨rfl, e5⟩
        have E5 := Lib.hid e5
        clear e5
        go_wp2
        exact ⟨⟨i + 1, by omega, rfl, E5.out⟩, by simp [intOf]; omega⟩
    · obtain rfl : i = nn := by omega
      have N5 := Lib.hid (NG.out _ he)
      have HE := Lib.hid he
      clear he hlt
      go_wp2_with fail
      refine (N5.out).mono ?_
      rintro e w8 ⟨rfl, p8⟩
      have FN := Lib.hid (show RPost w g F (k + 10) w8 from by
        obtain ⟨R8, F8, r8, c8, l8⟩ := RPost.trans (HC.out.trans (Chg.of_ext HE.out) (fun _ _ h => h)) p8
        exact ⟨R8, F8, r8.up (by omega), c8, l8⟩)
      clear p8
      go_wp2
      go_ret
      exact ⟨⟨_, rfl⟩, FN.out⟩

/-- The names are safe. -/
theorem RRep.dir {w w' : World} {g : Nat} {R : RV} {F : Nat → Prop} {k : Nat} (h : RRep w g R F k) (c : Chg (fun i => i = g) w w') (hc : At w' g (rsc { R with sf := R.nw, ac := .slice none 0 0, acts := 0, av := [] }) 62) : RRep w' g { R with sf := R.nw, ac := .slice none 0 0, acts := 0, av := [] } F k := by
  have hb := h.apart c
  exact ⟨hc, h.fr.keep fun i hi => hb i (h.gf i hi), h.nr.keep fun i hi => hb i (h.gn i hi), World.ownsRow_nil _ _ _ _, (fun u hu => by cases hu), row_slice h.nr, fun f hf => (h.ff f hf).keep hb, h.rn, h.rv, h.gf, h.gn, (fun i hi => by cases hi), fun i hi => Nat.lt_of_lt_of_le (h.lt i hi) c.size, h.ng, h.lf, h.ln, Nat.zero_le _, h.lc, h.lk⟩
set_option maxRecDepth 100000 in
set_option maxHeartbeats 8000000 in
theorem rsyncdir_all (g : Nat) (R : RV) (F : Nat → Prop) (k : Nat) (w : World) (h : RRep w g R F k) (hk : k ≤ 800) :
    Calls Tryz.prog 42 #[ptr g] w fun e w' => (∃ n : Int, e = .returned (.int .i64 n)) ∧ RPost w g F (k + 10) w' := by
  have A1 := Lib.hid (ract_any g R F k (.slice none 0 0) [] w h (by omega) (Txt.nil w) (by simp) (fun ad n c hv => by cases hv))
  have HO := Lib.hid (fun (w' : World) (n : Nat) (R' : RV) (hn : n ≤ 10) (r : RRep w' g R' F (k + n)) (c : Chg (fun i => i = g) w w') => RPost.of (r.up (k' := k + 10) (by omega)) c)
  clear h
  unfold ptr at *
  go_enter Tryz.func42, Tryz.ntmps42
  go_wp2_with fail
  refine (A1.out).mono ?_
  rintro e w1 ⟨n, rfl, -, r1, c1⟩
  clear A1
  have HC := Lib.hid c1
  have HR := Lib.hid r1
  clear c1
  by_cases hn : n = 0
  rotate_left
  · have tb : (n != 0) = true := by simpa using hn
    have FN := Lib.hid (HO.out _ 1 _ (by omega) HR.out HC.out)
    clear r1 hn
    go_wp2
    go_ret
    exact ⟨⟨_, rfl⟩, FN.out⟩
  subst hn
  generalize ({ R with asked := R.asked + 1 } : RV) = R1 at *
  obtain ⟨dn, cn, hnw, -⟩ := r1.nr.shape
  obtain ⟨da, ca, hac, -⟩ := r1.ar.shape
  have a1 := r1.cell
  have a2 := a1.set 4 R1.nw
  have a3 := a2.set 5 (.slice none 0 0)
  have s1 := Chg.setCell w1 g 4 R1.nw
  have s2 := Chg.setCell (w1.setCell ⟨g, 4, none⟩ R1.nw) g 5 (.slice none 0 0)
  have FN := Lib.hid (HO.out _ 1 _ (by omega) (HR.out.dir (s1.trans s2 (fun _ _ h => h)) a3) (HC.out.trans (s1.trans s2 (fun _ _ h => h)) (fun _ _ h => h)))
  have c3 : w1.cell? ⟨g, 3, none⟩ = some R1.nw := r1.c 3
  have c4 : w1.cell? ⟨g, 4, none⟩ = some R1.sf := r1.c 4
  have z4 := r1.fz 4
  have c5 : (w1.setCell ⟨g, 4, none⟩ R1.nw).cell? ⟨g, 5, none⟩ = some R1.ac := a2.cell 5
  have z5 := a2.frozen 5
  rw [hac] at c5
  rw [hnw] at c3 c5 z5 FN
  clear r1 a1 a2 a3 s1 s2 hnw hac
  go_wp2
  go_ret
  exact ⟨⟨_, rfl⟩, FN.out⟩

theorem txt_pq (w : World) (p q : ByteArray) : Txt (w.alloc (.cells #[.string p, .string q] 9)) (.slice (some ⟨w.heap.size, 0, none⟩) 2 2) [p.toList, q.toList] :=
  ⟨_, _, w.heap.size, rfl, fun _ => rfl, fun j hj => by
    have hj : j < 2 := by simpa using hj
    rw [(At.new w #[.string p, .string q] 9).cell]
    rcases Nat.lt_or_ge j 1 with h | h
    · obtain rfl : j = 0 := by omega
      simp [list_tx]
    · obtain rfl : j = 1 := by omega
      simp [list_tx]⟩
theorem ract_pq (g : Nat) (R : RV) (F : Nat → Prop) (k : Nat) (p q : ByteArray) (w : World) (h : RRep w g R F k) (hk : k ≤ 1000) :
    Calls Tryz.prog 61 #[ptr g, .slice (some ⟨w.heap.size, 0, none⟩) 2 2] (w.alloc (.cells #[.string p, .string q] 9)) fun e w' => ∃ n : Int, e = .returned (.int .i64 n) ∧ (n = 0 → valid p.toList = true ∧ valid q.toList = true) ∧ RRep w' g { R with asked := R.asked + 1 } F (k + 1) ∧ Chg (fun i => i = g) w w' :=
  (ract_any g R F k _ [p.toList, q.toList] _ (h.ext (Ext.alloc _ _)) hk (txt_pq w p q) (by simp) (fun ad n c hv e => by
    injection hv with h1; injection h1 with h1
    have := h.cell.lt
    rw [← h1] at e
    have e : w.heap.size = g := e
    omega)).mono fun e w' ⟨n, h1, h2, h3, h4⟩ => ⟨n, h1, fun u => ⟨h2 u _ (by simp), h2 u _ (by simp)⟩, h3, (Chg.of_ext (Ext.alloc w _)).trans h4 (fun _ _ h => h)⟩
def InvRnm (w1 : World) (l : List Nm) (f t : B) (nn : Nat) (s8 : Value) (wr : World) : Prop := ∃ i : Nat, i ≤ nn ∧ s8 = .int .i64 i ∧ (∀ j (h : j < l.length), j < i → under l[j].1 f = true → valid (t ++ l[j].1.drop f.length) = true) ∧ Ext w1 wr

set_option maxRecDepth 100000 in
set_option maxHeartbeats 8000000 in
theorem rrename_all (g : Nat) (R : RV) (F : Nat → Prop) (k : Nat) (p q : ByteArray) (w : World) (h : RRep w g R F k) (hk : k ≤ 800) :
    Calls Tryz.prog 40 #[ptr g, .string p, .string q] w fun e w' => (∃ n : Int, e = .returned (.int .i64 n)) ∧ RPost w g F (k + 10) w' := by
  have A1 := Lib.hid (ract_pq g R F k p q w h (by omega))
  have HO := Lib.hid (fun (w' : World) (n : Nat) (R' : RV) (hn : n ≤ 10) (r : RRep w' g R' F (k + n)) (c : Chg (fun i => i = g) w w') => RPost.of (r.up (k' := k + 10) (by omega)) c)
  have UN := Lib.hid (fun a b (w1 w2 : World) (h : Ext w1 w2) => ((runder_any a b w2).mono fun _ _ (h' : _ ∧ _) => (⟨h'.1, h.trans h'.2⟩ : _ ∧ Ext w1 _)))
  clear h
  unfold ptr at *
  go_enter Tryz.func40, Tryz.ntmps40
  go_wp2_with fail
  refine (A1.out).mono ?_
  rintro e w1 ⟨n, rfl, hv, r1, c1⟩
  clear A1
  have HV := Lib.hid hv
  have HC := Lib.hid c1
  have HR := Lib.hid r1
  clear hv c1
  by_cases hn : n = 0
  rotate_left
  · have tb : (n != 0) = true := by simpa using hn
    have FN := Lib.hid (HO.out _ 1 _ (by omega) HR.out HC.out)
    clear r1 hn
    go_wp2
    go_ret
    exact ⟨⟨_, rfl⟩, FN.out⟩
  subst hn
  have HVV := Lib.hid (HV.out rfl)
  clear HV
  obtain ⟨ad, cap, hnw, c3, fi⟩ := r1.find (by omega) p
  obtain ⟨ad', cap', hnw', c3', fi'⟩ := r1.find (by omega) q
  rw [hnw] at hnw'
  injection hnw' with h1 _ h2
  subst h1 h2
  have FI := Lib.hid fi
  have HNW := Lib.hid hnw
  clear fi hnw r1 c3'
  generalize ({ R with asked := R.asked + 1 } : RV) = R1 at *
  have FJ := Lib.hid (fun wr (e : Ext w1 wr) => (((HR.out.ext e).find (by omega) q)))
  obtain ⟨nn, hnn⟩ : ∃ nn, nn = R1.names.length := ⟨_, rfl⟩
  rw [← hnn] at c3 FI HNW
  have HNN := Lib.hid hnn
  have FK : Hid (∀ wr, Ext w1 wr → Calls Tryz.prog 62 #[.slice ad nn cap, .string q] wr fun e w' => ∃ r : Int, e = .returned (.int .i64 r) ∧ wr = w' ∧ (r = -1 ∨ ∃ j : Nat, r = j ∧ j < nn)) := Lib.hid (fun wr e => by
    obtain ⟨a1, a2, a3, a4, a5⟩ := FJ.out wr e
    rw [HNW.out, HNN.out] at a3
    injection a3 with b1 _ b2
    subst b1 b2
    rw [HNN.out]
    exact a5)
  clear hnn fi' FJ
  go_wp2_with fail
  refine (FI.out).mono ?_
  rintro e w' ⟨r, rfl, rfl, hr⟩
  clear FI
  rcases hr with rfl | ⟨j, rfl, hj⟩
  · have FN := Lib.hid (HO.out _ 1 _ (by omega) HR.out HC.out)
    go_wp2
    go_ret
    exact ⟨⟨_, rfl⟩, FN.out⟩
  have j0 : ¬ ((j : Int) < 0) := by omega
  have i0 : (0 : Int) ≤ (j : Int) := by omega
  have C3 := Lib.hid (fun wr (e : Ext w1 wr) => e.cell c3)
  have U0 := Lib.hid (UN.out q p w1 w1 (Ext.refl _))
  cases hpq : p.toList == q.toList with
  | true =>
    have FN := Lib.hid (HO.out _ 1 _ (by omega) HR.out HC.out)
    clear hj
    go_wp2
    go_ret
    exact ⟨⟨_, rfl⟩, FN.out⟩
  | false =>
  cases hu0 : under q.toList p.toList with
  | true =>
    rw [hu0] at U0
    go_wp2_with fail
    refine (U0.out).mono ?_
    rintro e w5 ⟨rfl, e5⟩
    have FN := Lib.hid (HO.out _ 1 _ (by omega) (HR.out.ext e5) (HC.out.trans (Chg.of_ext e5) (fun _ _ h => h)))
    clear e5 hj
    go_wp2
    go_ret
    exact ⟨⟨_, rfl⟩, FN.out⟩
  | false =>
  rw [hu0] at U0
  go_wp2_with fail
  refine (U0.out).mono ?_
  rintro e w5 ⟨rfl, e5⟩
  have E5 := Lib.hid e5
  have c35 := C3.out _ e5
  have F5 := Lib.hid (FK.out _ e5)
  clear e5 U0 hu0 c3 FK
  go_wp2_with fail
  refine (F5.out).mono ?_
  rintro e w' ⟨r, rfl, rfl, hr⟩
  clear F5
  rcases hr with rfl | ⟨j2, rfl, hj2⟩
  rotate_left
  · have j3 : (j2 : Int) ≥ 0 := by omega
    have j4 : (0 : Int) ≤ (j2 : Int) := by omega
    have FN := Lib.hid (HO.out _ 1 _ (by omega) (HR.out.ext E5.out) (HC.out.trans (Chg.of_ext E5.out) (fun _ _ h => h)))
    clear hj2 hj
    go_wp2
    go_ret
    exact ⟨⟨_, rfl⟩, FN.out⟩
  have AB := Lib.hid (rabove_any g _ F (k + 1) q w5 (HR.out.ext E5.out) (by omega))
  unfold ptr at AB
  go_wp2_with fail
  refine (AB.out).mono ?_
  rintro e w6 ⟨⟨n2, rfl⟩, e6⟩
  have E6 := Lib.hid (E5.out.trans e6)
  clear AB e6 c35 E5
  by_cases hn : n2 = 0
  rotate_left
  · have tb : (n2 != 0) = true := by simpa using hn
    have FN := Lib.hid (HO.out _ 1 _ (by omega) (HR.out.ext E6.out) (HC.out.trans (Chg.of_ext E6.out) (fun _ _ h => h)))
    clear hn hj
    go_wp2
    go_ret
    exact ⟨⟨_, rfl⟩, FN.out⟩
  subst hn
  have hnn2 : nn ≤ 1000 := by rw [HNN.out]; have := HR.out.ln; omega
  have hvp := valid_len HVV.out.1
  have hvq := valid_len HVV.out.2
  rw [← size_list] at hvp hvq
  have CM : Hid (∀ wr, Ext w1 wr → ∀ i, i < nn → ∃ (b o : Nat) (z : ByteArray), ad = some ⟨b, o, none⟩ ∧ wr.cell? ⟨b, o + i * 2, none⟩ = some (.string z) ∧ z.size ≤ 60 ∧ ∀ h : i < R1.names.length, R1.names[i].1 = z.toList) := Lib.hid (by
    obtain ⟨ad', cap', b, o, hx⟩ := RNs.of_row HR.out.nr
    have hv := hx.val
    rw [HNW.out, ← HNN.out] at hv
    injection hv with h1 _ _
    intro wr e i hi
    have hi' : i < R1.names.length := by rw [← HNN.out]; exact hi
    exact ⟨b, o, tx R1.names[i].1, by rw [h1]; exact hx.adr (by omega), e.cell (hx.nm i hi'), by rw [tx_size]; exact valid_len (HR.out.rv _ (List.getElem_mem hi')), fun h => by rw [tx_list]⟩)
  have VA := Lib.hid (fun (a : ByteArray) (w1 w2 : World) (h : Ext w1 w2) => ((rvalid_any a w2).mono fun _ _ (h' : _ ∧ _) => (⟨h'.1, h.trans h'.2⟩ : _ ∧ Ext w1 _)))
  have NG := Lib.hid (fun wr (e : Ext w1 wr) (hv : ∀ x ∈ R1.names, runQ p.toList x = true → valid (q.toList ++ x.1.drop p.toList.length) = true) => rnames_move g R1 F (k + 1) p q 0 wr (HR.out.ext e) (by omega) (by omega) (by omega) hv)
  unfold ptr at NG
  clear hj
  go_wp2
  go_loopw [8, 9] (fun s8 s9 wr => InvRnm w1 R1.names p.toList q.toList nn s8 wr) (fun s8 _ _ => nn - (intOf s8).toNat)
  case atStart => exact ⟨0, by omega, rfl, fun j h hj => by omega, E6.out⟩
  case round =>
    obtain ⟨i, hi, rfl, hall, he⟩ := hrel
    have HALL := Lib.hid hall
    clear hall
    have c3 := C3.out _ he
    by_cases hlt : i < nn
    · obtain ⟨b, o, z, ha, cz, hzl, hz⟩ := CM.out _ he i hlt
      subst ha
      have HZ := Lib.hid hz
      have k0 : (0 : Int) ≤ (i : Int) := by omega
      have k1 : (i : Int) < (nn : Int) := by omega
      have HE := Lib.hid he
      have U1 := Lib.hid (UN.out z p w1 _ he)
      have RL := Lib.hid (show under z.toList p.toList = true → p.size ≤ z.size from fun hu => by
        have := runQ_len (f := p.toList) (x := (z.toList, 0)) (by unfold runQ; rw [hu, Bool.or_true])
        rw [size_list, size_list]; exact this)
      have CUT := Lib.hid (show p.size ≤ z.size → (q ++ z.extract p.size z.size).toList = q.toList ++ z.toList.drop p.toList.length from fun hps => by
        rw [tx_app, tx_cut, ← size_list, List.take_of_length_le]
        rw [List.length_drop, ← size_list]; omega)
      clear he UN hz
      cases hu : under z.toList p.toList with
      | false =>
        rw [hu] at U1
        go_wp2_with fail
        refine (U1.out).mono ?_
        rintro e w5 ⟨rfl, e5⟩
        have EE := Lib.hid e5
        clear e5
        have HU := Lib.hid hu
        clear hu
        go_wp2
        refine ⟨⟨i + 1, by omega, rfl, fun j h hj hun => ?_, EE.out⟩, by simp [intOf]; omega⟩
        by_cases e : j = i
        · subst e; rw [HZ.out h, HU.out] at hun; cases hun
        · exact HALL.out j h (by omega) hun
      | true =>
        rw [hu] at U1
        have hps := RL.out hu
        have hps2 : (p.size : Int) ≤ (z.size : Int) := by omega
        have hcat : q.size + (z.size - p.size) ≤ 9223372036854775807 := by omega
        have HU := Lib.hid hu
        have V1 := Lib.hid (VA.out (q ++ z.extract p.size z.size))
        rw [CUT.out hps] at V1
        clear hu
        go_wp2_with fail
        refine (U1.out).mono ?_
        rintro e w5 ⟨rfl, e5⟩
        have V2 := Lib.hid (V1.out w1 w5 e5)
        have EE := Lib.hid e5
        clear e5 V1 VA
        cases hvv : valid (q.toList ++ z.toList.drop p.toList.length) with
        | true =>
          rw [hvv] at V2
          have HVZ := Lib.hid hvv
          clear hvv
          go_wp2_with fail
          refine (V2.out).mono ?_
          rintro e w7 ⟨rfl, e7⟩
          have E7 := Lib.hid e7
          clear e7
          go_wp2
          refine ⟨⟨i + 1, by omega, rfl, fun j h hj hun => ?_, E7.out⟩, by simp [intOf]; omega⟩
          by_cases e : j = i
          · subst e; rw [HZ.out h]; exact HVZ.out
          · exact HALL.out j h (by omega) hun
        | false =>
          rw [hvv] at V2
          clear hvv
          go_wp2_with fail
          refine (V2.out).mono ?_
          rintro e w7 ⟨rfl, e7⟩
          have FN := Lib.hid (HO.out _ 1 _ (by omega) (HR.out.ext e7) (HC.out.trans (Chg.of_ext e7) (fun _ _ h => h)))
          clear e7
          go_wp2
          go_ret
          exact ⟨⟨_, rfl⟩, FN.out⟩
    · obtain rfl : i = nn := by omega
      have N5 := Lib.hid (NG.out _ he (fun x hx hq => by
        obtain ⟨j, hj, rfl⟩ := List.mem_iff_getElem.1 hx
        unfold runQ at hq
        rw [Bool.or_eq_true] at hq
        rcases hq with hq | hq
        · rw [eq_of_beq hq, List.drop_length, List.append_nil]; exact HVV.out.2
        · exact HALL.out j hj (by rw [HNN.out]; exact hj) hq))
      have HE := Lib.hid he
      clear he hlt
      go_wp2_with fail
      refine (N5.out).mono ?_
      rintro e w8 ⟨rfl, p8⟩
      have FN := Lib.hid (show RPost w g F (k + 10) w8 from by
        obtain ⟨R8, F8, r8, c8, l8⟩ := RPost.trans (HC.out.trans (Chg.of_ext HE.out) (fun _ _ h => h)) p8
        exact ⟨R8, F8, r8.up (by omega), c8, l8⟩)
      clear p8
      go_wp2
      go_ret
      exact ⟨⟨_, rfl⟩, FN.out⟩
end Go.Proofs.YtbneedmfpldpfaaGreatDoor
