/- Contract of the document's own Rot, whatever the store holds. -/
import Derived.Test.YtbneedmfpldpfaaGreatDoorBlM
set_option linter.unusedSimpArgs false
set_option linter.unusedVariables false
namespace Go.Proofs.YtbneedmfpldpfaaGreatDoor
open Go.RowKit Go.Pth

theorem byte_at {w : World} {g cap n a : Nat} (h : ∃ l : List Int, l.length = n ∧ Row w 5 1 (.slice (some ⟨g, 0, none⟩) n cap) n (bts l)) (ha : a < n) : ∃ y : Int, w.cell? ⟨g, a, none⟩ = some (.int .u8 y) ∧ w.frozen? ⟨g, a, none⟩ = false := by
  obtain ⟨l, hl, hr⟩ := h
  obtain ⟨h1, h2⟩ := Row.cell hr a ha
  refine ⟨l[a]'(by omega), ?_, h2⟩
  rw [h1]
  simp [bts, List.getElem?_eq_getElem (show a < l.length by omega)]
theorem byte_put {w : World} {g cap n a : Nat} (h : ∃ l : List Int, l.length = n ∧ Row w 5 1 (.slice (some ⟨g, 0, none⟩) n cap) n (bts l)) (ha : a < n) (v : Int) : ∃ l : List Int, l.length = n ∧ Row (w.setCell ⟨g, a, none⟩ (.int .u8 v)) 5 1 (.slice (some ⟨g, 0, none⟩) n cap) n (bts l) := by
  obtain ⟨l, hl, hr⟩ := h
  have := Row.sets hr a (bts [v]) (by rw [bts_len]; simp; omega)
  rw [bts_splice, show w.setCells g a (bts [v]) = w.setCell ⟨g, a, none⟩ (.int .u8 v) from rfl] at this
  exact ⟨_, by rw [splice_len _ _ _ (by simp; omega)]; exact hl, this⟩
abbrev ByR (w : World) (g cap n : Nat) : Prop := ∃ l : List Int, l.length = n ∧ Row w 5 1 (.slice (some ⟨g, 0, none⟩) n cap) n (bts l)
theorem ByR.ext {w w' : World} {g cap n : Nat} (h : ByR w g cap n) (e : Ext w w') : ByR w' g cap n := by
  obtain ⟨l, h1, h2⟩ := h; exact ⟨l, h1, h2.ext e⟩
theorem ByR.other {w : World} {g cap n : Nat} (h : ByR w g cap n) (b j : Nat) (v : Value) (hb : ¬ g = b) : ByR (w.setCell ⟨b, j, none⟩ v) g cap n := by
  obtain ⟨l, h1, h2⟩ := h
  exact ⟨l, h1, h2.chg (Chg.setCell w b j v) fun i hi e => by have h_ : some g = some i := hi; injection h_ with h_; exact hb (h_.trans e)⟩
set_option maxRecDepth 100000 in
set_option maxHeartbeats 8000000 in
theorem rrot_all (g : Nat) (R : RV) (F : Nat → Prop) (k : Nat) (p : ByteArray) (off x : Int) (w : World) (h : RRep w g R F k) (hk : k ≤ 800) :
    Calls Tryz.prog 45 #[ptr g, .string p, .int .i64 off, .int .u8 x] w fun e w' => (∃ n : Int, e = .returned (.int .i64 n)) ∧ RPost w g F (k + 10) w' := by
  have HO := Lib.hid (fun (w' : World) (n : Nat) (R' : RV) (hn : n ≤ 10) (r : RRep w' g R' F (k + n)) (c : Chg (fun i => i = g) w w') => RPost.of (r.up (k' := k + 10) (by omega)) c)
  have HC := Lib.hid (Chg.refl (fun i => i = g) w)
  have HR := Lib.hid (h.up (k' := k + 1) (by omega))
  obtain ⟨ad, cap, hnw, c3, fi⟩ := h.find (by omega) p
  have FI := Lib.hid fi
  have HNW := Lib.hid hnw
  clear fi hnw h
  obtain ⟨nn, hnn⟩ : ∃ nn, nn = R.names.length := ⟨_, rfl⟩
  rw [← hnn] at c3 FI HNW
  have HNN := Lib.hid hnn
  clear hnn
  unfold ptr at *
  go_enter Tryz.func45, Tryz.ntmps45
  go_wp2_with fail
  refine (FI.out).mono ?_
  rintro e w' ⟨r, rfl, rfl, hr⟩
  clear FI
  rcases hr with rfl | ⟨j, rfl, hj⟩
  · have FN := Lib.hid (HO.out _ 1 _ (by omega) HR.out HC.out)
    go_wp2
    go_ret
    exact ⟨⟨_, rfl⟩, FN.out⟩
  have j0 : ¬ ((j : Int) < 0) := by omega
  have i0 : (0 : Int) ≤ (j : Int) := by omega
  obtain ⟨b, o, fb, fo, q, fcap, kd, mt, st, db, cb, ds, cs, dd, cd, n, m, rfl, hfs, hq, hX, hnb, hcells⟩ := HR.out.fileat (by rw [HNW.out, HNN.out]) (show j < R.names.length by rw [← HNN.out]; exact hj)
  rw [← HNN.out] at hcells
  have CELLS := Lib.hid hcells
  have HX := Lib.hid hX
  obtain ⟨mm, hmm⟩ : ∃ mm, mm = R.files.length := ⟨_, rfl⟩
  rw [← hmm] at CELLS hq
  have HMM := Lib.hid hmm
  have HNB := Lib.hid hnb
  have i1 : (j : Int) < (nn : Int) := by omega
  have q0 : (0 : Int) ≤ (q : Int) := by omega
  have q1 : (q : Int) < (mm : Int) := by omega
  have HLIM := Lib.hid (show n ≤ 65536 ∧ m ≤ 5000 ∧ secs n ≤ m from ⟨hX.nl, hX.ml, hX.nm⟩)
  clear hcells hX hmm hfs hnb c3
  go_wp2_with fail
  refine wp_region_held (S := Ext w.drew) (by kernel_rfl) ?_
  change wpAnyH _ _ _ _ _ _ _ _ w.drew
  have S0 : Ext w.drew w.drew := Ext.refl _
  have CL := Lib.hid (fun (w' : World) (hw' : Ext w.drew w') => CELLS.out w' ((Ext.drew w).trans hw'))
  have D_ := Lib.hid (Ext.drew w)
  generalize w.drew = W0 at *
  refine takeS 0 (some 19) (.pointer (some ⟨g, 0, none⟩)) rfl rfl (by kernel_rfl) (by kernel_rfl) (by kernel_rfl) (fun _ _ _ h => h) rfl S0 (fun w' hw' => by go_simp) ?_
  simp only [Act.put, List.setIfInBounds_toArray, List.set_cons_zero, List.set_cons_succ]
  refine takeS 1 (some 20) (.pointer (some ⟨g, 0, none⟩)) rfl rfl (by kernel_rfl) (by kernel_rfl) (by kernel_rfl) (fun _ _ _ h => h) rfl S0 (fun w' hw' => by go_simp) ?_
  simp only [Act.put, List.setIfInBounds_toArray, List.set_cons_zero, List.set_cons_succ]
  refine takeS 2 (some 21) (.pointer (some ⟨g, 2, none⟩)) rfl rfl (by kernel_rfl) (by kernel_rfl) (by kernel_rfl) (fun _ _ _ h => h) rfl S0 (fun w' hw' => by go_simp) ?_
  simp only [Act.put, List.setIfInBounds_toArray, List.set_cons_zero, List.set_cons_succ]
  refine takeS 3 (some 22) (.slice (some ⟨fb, fo, none⟩) mm fcap) rfl rfl (by kernel_rfl) (by kernel_rfl) (by kernel_rfl) (fun _ _ _ h => h) rfl S0 (fun w' hw' => by obtain ⟨x2, x3, xf, y0, y1, y2, y3, y4, y5⟩ := CL.out w' hw'; go_simp) ?_
  simp only [Act.put, List.setIfInBounds_toArray, List.set_cons_zero, List.set_cons_succ]
  refine takeS 4 (some 23) (.pointer (some ⟨g, 0, none⟩)) rfl rfl (by kernel_rfl) (by kernel_rfl) (by kernel_rfl) (fun _ _ _ h => h) rfl S0 (fun w' hw' => by go_simp) ?_
  simp only [Act.put, List.setIfInBounds_toArray, List.set_cons_zero, List.set_cons_succ]
  refine takeS 5 (some 24) (.pointer (some ⟨g, 0, none⟩)) rfl rfl (by kernel_rfl) (by kernel_rfl) (by kernel_rfl) (fun _ _ _ h => h) rfl S0 (fun w' hw' => by go_simp) ?_
  simp only [Act.put, List.setIfInBounds_toArray, List.set_cons_zero, List.set_cons_succ]
  refine takeS 6 (some 25) (.pointer (some ⟨g, 3, none⟩)) rfl rfl (by kernel_rfl) (by kernel_rfl) (by kernel_rfl) (fun _ _ _ h => h) rfl S0 (fun w' hw' => by go_simp) ?_
  simp only [Act.put, List.setIfInBounds_toArray, List.set_cons_zero, List.set_cons_succ]
  refine takeS 7 (some 26) (.slice (some ⟨b, o, none⟩) nn cap) rfl rfl (by kernel_rfl) (by kernel_rfl) (by kernel_rfl) (fun _ _ _ h => h) rfl S0 (fun w' hw' => by obtain ⟨x2, x3, xf, y0, y1, y2, y3, y4, y5⟩ := CL.out w' hw'; go_simp) ?_
  simp only [Act.put, List.setIfInBounds_toArray, List.set_cons_zero, List.set_cons_succ]
  refine takeS 8 (some 27) (.int .i64 j) rfl rfl (by kernel_rfl) (by kernel_rfl) (by kernel_rfl) (fun _ _ _ h => h) rfl S0 (fun w' hw' => by go_simp) ?_
  simp only [Act.put, List.setIfInBounds_toArray, List.set_cons_zero, List.set_cons_succ]
  refine takeS 9 (some 28) (.pointer (some ⟨b, o + j * 2, none⟩)) rfl rfl (by kernel_rfl) (by kernel_rfl) (by kernel_rfl) (fun _ _ _ h => h) rfl S0 (fun w' hw' => by go_simp) ?_
  simp only [Act.put, List.setIfInBounds_toArray, List.set_cons_zero, List.set_cons_succ]
  refine takeS 10 (some 29) (.pointer (some ⟨b, o + j * 2 + 1, none⟩)) rfl rfl (by kernel_rfl) (by kernel_rfl) (by kernel_rfl) (fun _ _ _ h => h) rfl S0 (fun w' hw' => by go_simp) ?_
  simp only [Act.put, List.setIfInBounds_toArray, List.set_cons_zero, List.set_cons_succ]
  refine takeS 11 (some 30) (.int .i64 q) rfl rfl (by kernel_rfl) (by kernel_rfl) (by kernel_rfl) (fun _ _ _ h => h) rfl S0 (fun w' hw' => by obtain ⟨x2, x3, xf, y0, y1, y2, y3, y4, y5⟩ := CL.out w' hw'; go_simp) ?_
  simp only [Act.put, List.setIfInBounds_toArray, List.set_cons_zero, List.set_cons_succ]
  refine takeS 12 (some 31) (.pointer (some ⟨fb, fo + q * 6, none⟩)) rfl rfl (by kernel_rfl) (by kernel_rfl) (by kernel_rfl) (fun _ _ _ h => h) rfl S0 (fun w' hw' => by go_simp) ?_
  simp only [Act.put, List.setIfInBounds_toArray, List.set_cons_zero, List.set_cons_succ]
  refine takeS 13 (some 32) (.agg #[.int .i64 kd, .int .i64 mt, .int .u64 st, .slice db n cb, .slice ds n cs, .slice dd m cd]) rfl rfl (by kernel_rfl) (by kernel_rfl) (by kernel_rfl) (fun _ _ _ h => h) rfl S0 (fun w' hw' => by obtain ⟨x2, x3, xf, y0, y1, y2, y3, y4, y5⟩ := CL.out w' hw'; go_simp) ?_
  simp only [Act.put, List.setIfInBounds_toArray, List.set_cons_zero, List.set_cons_succ]
  refine nextS 14 rfl (by kernel_rfl) rfl (makeR (some 10) rfl (.pointer (some ⟨W0.heap.size, 0, none⟩)) (w1 := W0.alloc (.cells #[.int .i64 0, .int .i64 0, .int .u64 0, .slice none 0 0, .slice none 0 0, .slice none 0 0] 106)) (by go_simp) ?_)
  simp only [Act.put, List.setIfInBounds_toArray, List.set_cons_zero, List.set_cons_succ]
  have x_ : Ext W0 (W0.alloc (.cells #[.int .i64 0, .int .i64 0, .int .u64 0, .slice none 0 0, .slice none 0 0, .slice none 0 0] 106)) := Ext.alloc W0 _
  have aZ := At.new W0 #[.int .i64 0, .int .i64 0, .int .u64 0, .slice none 0 0, .slice none 0 0, .slice none 0 0] 106
  have hxb : Base W0 ≤ W0.heap.size := Nat.le_refl _
  generalize W0.alloc (.cells #[.int .i64 0, .int .i64 0, .int .u64 0, .slice none 0 0, .slice none 0 0, .slice none 0 0] 106) = W1 at *
  generalize W0.heap.size = xb at *
  refine ⟨x_, ?_⟩
  have aX : At (W1.setCells xb 0 (#[.int .i64 kd, .int .i64 mt, .int .u64 st, .slice db n cb, .slice ds n cs, .slice dd m cd] : Array Value).toList) xb #[.int .i64 kd, .int .i64 mt, .int .u64 st, .slice db n cb, .slice ds n cs, .slice dd m cd] 106 := At.sets (#[.int .i64 kd, .int .i64 mt, .int .u64 st, .slice db n cb, .slice ds n cs, .slice dd m cd] : Array Value).toList 0 W1 #[.int .i64 0, .int .i64 0, .int .u64 0, .slice none 0 0, .slice none 0 0, .slice none 0 0] aZ (Nat.le_refl 6)
  have eX : Ext W0 (W1.setCells xb 0 (#[.int .i64 kd, .int .i64 mt, .int .u64 st, .slice db n cb, .slice ds n cs, .slice dd m cd] : Array Value).toList) := ((Chg.of_ext (X := fun _ => False) x_).trans (Chg.sets xb (#[.int .i64 kd, .int .i64 mt, .int .u64 st, .slice db n cb, .slice ds n cs, .slice dd m cd] : Array Value).toList 0 W1) (fun i hi q_ => by unfold Base at hxb; omega)).ext
  refine nextS 15 rfl (by kernel_rfl) rfl (wp_store_mid 106 (.tmp 10) (.tmp 32) rfl xb 0 #[.int .i64 kd, .int .i64 mt, .int .u64 st, .slice db n cb, .slice ds n cs, .slice dd m cd] rfl rfl (at_there aZ 0 6 (by decide)) (by exact size106) (by simp [Value.oneCell']) ?_)
  simp only [Act.put]
  generalize W1.setCells xb 0 (#[.int .i64 kd, .int .i64 mt, .int .u64 st, .slice db n cb, .slice ds n cs, .slice dd m cd] : Array Value).toList = W2 at *
  refine ⟨eX, ?_⟩
  refine wpAnyH_done (by kernel_rfl) ?_ _
  have EX := Lib.hid (D_.out.trans eX)
  have HXB := Lib.hid (show w.heap.size ≤ xb from Nat.le_trans D_.out.size hxb)
  have HGX := Lib.hid (show ¬ xb = g from by have := HR.out.cell.lt; have := HXB.out; omega)
  clear x_ aZ hxb eX CL S0 D_
  have cX0 : W2.cell? ⟨xb, 0, none⟩ = some (.int .i64 kd) := aX.cell 0
  have cX3 : W2.cell? ⟨xb, 3, none⟩ = some (.slice db n cb) := aX.cell 3
  have FNX := Lib.hid (HO.out _ 1 _ (by omega) (HR.out.ext EX.out) (HC.out.trans (Chg.of_ext EX.out) (fun _ _ h => h)))
  by_cases hkd : kd = 1
  rotate_left
  · have tb : (kd != 1) = true := by simpa using hkd
    clear hj hkd aX
    go_wp2
    go_ret
    exact ⟨⟨_, rfl⟩, FNX.out⟩
  subst hkd
  by_cases h1 : off < 0
  · clear hj aX
    go_wp2
    go_ret
    exact ⟨⟨_, rfl⟩, FNX.out⟩
  have d1 : decide (off < 0) = false := decide_eq_false h1
  by_cases h2 : off ≥ (n : Int)
  · have d2 : decide (off ≥ (n : Int)) = true := decide_eq_true h2
    have d3 : decide ((n : Int) ≤ off) = true := decide_eq_true h2
    clear hj aX h1
    go_wp2
    go_ret
    exact ⟨⟨_, rfl⟩, FNX.out⟩
  have d2 : decide (off ≥ (n : Int)) = false := decide_eq_false h2
  have d3 : decide ((n : Int) ≤ off) = false := decide_eq_false h2
  cases h3 : x == 0 with
  | true =>
    clear hj aX h1 h2
    go_wp2
    go_ret
    exact ⟨⟨_, rfl⟩, FNX.out⟩
  | false =>
  obtain ⟨a, rfl⟩ : ∃ a : Nat, off = a := ⟨off.toNat, by omega⟩
  have HAN := Lib.hid (show a < n from by omega)
  have a0 : (0 : Int) ≤ (a : Int) := by omega
  have a1 : (a : Int) < (n : Int) := by omega
  have hn0 : 0 < n := by have := HAN.out; omega
  have xK := HX.out.keep fun i hi => EX.out.block i (HR.out.lt i hi)
  obtain ⟨lb, hlb, rb⟩ := xK.b
  simp only at hlb rb
  obtain ⟨d4, c4, W3, hrun, r4, e23, f4⟩ := byte_copy hlb rb HLIM.out.1
  obtain ⟨vb, c4', hd4, -, -⟩ := Row.own r4 hn0
  injection hd4 with hd4 _ hc4
  subst hd4 hc4
  have hvb : W2.heap.size ≤ vb := f4 vb rfl
  have hxs : xb < W2.heap.size := aX.lt
  have aX3 := aX.ext e23
  have cY3 : (W2.alloc (.cells #[] 5)).cell? ⟨xb, 3, none⟩ = some (.slice db n cb) := (aX.ext (Ext.alloc W2 _)).cell 3
  have cZ3 : W3.cell? ⟨xb, 3, none⟩ = some (.slice db n cb) := aX3.cell 3
  have zZ3 := aX3.frozen 3
  have s4 := Chg.setCell W3 xb 3 (.slice (some ⟨vb, 0, none⟩) n c4)
  have aX4 := aX3.set 3 (.slice (some ⟨vb, 0, none⟩) n c4)
  have vbl : vb < W3.heap.size := r4.lt vb rfl
  obtain ⟨W4, hW4⟩ : ∃ W4, W4 = W3.setCell ⟨xb, 3, none⟩ (.slice (some ⟨vb, 0, none⟩) n c4) := ⟨_, rfl⟩
  have br4 : ByR W4 vb c4 n := by rw [hW4]; exact ByR.other ⟨lb, hlb, r4⟩ xb 3 _ (by omega)
  have w4s : W4.heap.size = W3.heap.size := by rw [hW4, size_setCell]
  rw [← hW4] at s4 aX4
  have EX4 : Ext w W4 := ((Chg.of_ext (X := fun _ => False) (EX.out.trans e23)).trans s4 (fun i hi q_ => by have := HXB.out; omega)).ext
  obtain ⟨ls, hls, rs⟩ := (HX.out.keep fun i hi => EX4.block i (HR.out.lt i hi)).s
  simp only at hls rs
  obtain ⟨d5, c5, W5, hrun2, r5, e45, f5⟩ := byte_copy hls rs HLIM.out.1
  obtain ⟨vs, c5', hd5, -, -⟩ := Row.own r5 hn0
  injection hd5 with hd5 _ hc5
  subst hd5 hc5
  have hvs : W4.heap.size ≤ vs := f5 vs rfl
  have aX5 := aX4.ext e45
  have cY4 : (W4.alloc (.cells #[] 5)).cell? ⟨xb, 4, none⟩ = some (.slice ds n cs) := (aX4.ext (Ext.alloc W4 _)).cell 4
  have cZ4 : W5.cell? ⟨xb, 4, none⟩ = some (.slice ds n cs) := aX5.cell 4
  have zZ4 := aX5.frozen 4
  have s6 := Chg.setCell W5 xb 4 (.slice (some ⟨vs, 0, none⟩) n c5)
  have aX6 := aX5.set 4 (.slice (some ⟨vs, 0, none⟩) n c5)
  have vsl : vs < W5.heap.size := r5.lt vs rfl
  have e23s := e23.size
  have e45s := e45.size
  obtain ⟨W6, hW6⟩ : ∃ W6, W6 = W5.setCell ⟨xb, 4, none⟩ (.slice (some ⟨vs, 0, none⟩) n c5) := ⟨_, rfl⟩
  have br6 : ByR W6 vs c5 n := by rw [hW6]; exact ByR.other ⟨ls, hls, r5⟩ xb 4 _ (by omega)
  have br46 : ByR W6 vb c4 n := by rw [hW6]; exact ByR.other (br4.ext e45) xb 4 _ (by omega)
  have w6s : W6.heap.size = W5.heap.size := by rw [hW6, size_setCell]
  rw [← hW6] at s6 aX6
  have EX6 : Ext w W6 := ((Chg.of_ext (X := fun _ => False) (EX4.trans e45)).trans s6 (fun i hi q_ => by have := HXB.out; omega)).ext
  have HNE := Lib.hid (show ¬ xb = vb ∧ ¬ xb = vs ∧ ¬ vb = vs from ⟨by omega, by omega, by omega⟩)
  have HGE := Lib.hid (show w.heap.size ≤ vb ∧ w.heap.size ≤ vs ∧ vb < W6.heap.size ∧ vs < W6.heap.size from ⟨by have := EX.out.size; omega, by have := EX4.size; omega, by omega, by omega⟩)
  have HAW6 := Lib.hid (show At W6 xb #[.int .i64 1, .int .i64 mt, .int .u64 st, .slice (some ⟨vb, 0, none⟩) n c4, .slice (some ⟨vs, 0, none⟩) n c5, .slice dd m cd] 106 from aX6)
  have HRW6 := Lib.hid (show (∃ l : List Int, l.length = n ∧ Row W6 5 1 (.slice (some ⟨vb, 0, none⟩) n c4) n (bts l)) ∧ ByR W6 vs c5 n from ⟨br46, br6⟩)
  have HE6 := Lib.hid EX6
  have NXW6 := Lib.hid (show ∀ W0, Ext W6 W0 → ∀ v : Int, At (W0.setCell ⟨vb, a, none⟩ (.int .u8 v)) xb #[.int .i64 1, .int .i64 mt, .int .u64 st, .slice (some ⟨vb, 0, none⟩) n c4, .slice (some ⟨vs, 0, none⟩) n c5, .slice dd m cd] 106 ∧ (ByR (W0.setCell ⟨vb, a, none⟩ (.int .u8 v)) vb c4 n ∧ ByR (W0.setCell ⟨vb, a, none⟩ (.int .u8 v)) vs c5 n) ∧ Ext w (W0.setCell ⟨vb, a, none⟩ (.int .u8 v)) ∧ vs < (W0.setCell ⟨vb, a, none⟩ (.int .u8 v)).heap.size ∧ vb < (W0.setCell ⟨vb, a, none⟩ (.int .u8 v)).heap.size from fun W0 e v =>
    ⟨(Chg.setCell W0 vb a (.int .u8 v)).at (HAW6.out.ext e) HNE.out.1, ⟨byte_put (ByR.ext HRW6.out.1 e) HAN.out v, ByR.other (ByR.ext HRW6.out.2 e) vb a _ (fun q_ => HNE.out.2.2 q_.symm)⟩, ((Chg.of_ext (X := fun _ => False) (HE6.out.trans e)).trans (Chg.setCell W0 vb a (.int .u8 v)) (fun i hi q_ => by have := HGE.out.1; omega)).ext, by rw [size_setCell]; exact Nat.lt_of_lt_of_le HGE.out.2.2.2 e.size, by rw [size_setCell]; exact Nat.lt_of_lt_of_le HGE.out.2.2.1 e.size⟩)
  have R1x := Lib.hid hrun
  have R2x := Lib.hid hrun2
  have HW4 := Lib.hid hW4.symm
  have HW6 := Lib.hid hW6.symm
  have vb0 : (0 : Nat) ≤ vb := Nat.zero_le _
  clear aX aX3 aX4 aX5 aX6 s4 s6 r4 r5 f4 f5 hrun hrun2 e23 e45 rb rs hlb hls br4 br6 br46 EX4 EX6 hW4 hW6 w4s w6s e23s e45s vbl vsl hvb hvs xK hn0 h1 h2 hxs vb0
  go_upto_region 10 with (at_builtin; refine Lib.wpList_append_run _ rfl _ _ _ _ rfl _ _ rfl rfl _ _ R1x.out ?_)
  rw [HW4.out]
  go_upto_region 11 with (at_builtin; refine Lib.wpList_append_run _ rfl _ _ _ _ rfl _ _ rfl rfl _ _ R2x.out ?_)
  rw [HW6.out]
  clear cY3 cZ3 zZ3 cY4 cZ4 zZ4 cX0 cX3
  refine wp_region_held (S := Chg (fun i => i = vb) W6) (by kernel_rfl) ?_
  change wpAnyH _ _ _ _ _ _ _ _ W6.drew
  have S0 : Chg (fun i => i = vb) W6 W6.drew := Chg.of_ext (Ext.drew W6)
  have CX := Lib.hid (fun (w' : World) (hw' : Chg (fun i => i = vb) W6 w') => hw'.cell (HAW6.out.cell 3) (HNE.out.1))
  have RB := ByR.ext HRW6.out.1 (Ext.drew W6)
  have NXT := Lib.hid (NXW6.out W6.drew (Ext.drew W6))
  generalize W6.drew = W0 at *
  refine takeS 0 (some 59) (.pointer (some ⟨xb, 3, none⟩)) rfl rfl (by kernel_rfl) (by kernel_rfl) (by kernel_rfl) (fun _ _ _ h => h) rfl S0 (fun w' hw' => by go_simp) ?_
  simp only [Act.put, List.setIfInBounds_toArray, List.set_cons_zero, List.set_cons_succ]
  refine takeS 1 (some 60) (.slice (some ⟨vb, 0, none⟩) n c4) rfl rfl (by kernel_rfl) (by kernel_rfl) (by kernel_rfl) (fun _ _ _ h => h) rfl S0 (fun w' hw' => by have := CX.out w' hw'; go_simp) ?_
  simp only [Act.put, List.setIfInBounds_toArray, List.set_cons_zero, List.set_cons_succ]
  refine takeS 2 (some 61) (.int .i64 a) rfl rfl (by kernel_rfl) (by kernel_rfl) (by kernel_rfl) (fun _ _ _ h => h) rfl S0 (fun w' hw' => by go_simp) ?_
  simp only [Act.put, List.setIfInBounds_toArray, List.set_cons_zero, List.set_cons_succ]
  refine takeS 3 (some 62) (.pointer (some ⟨xb, 3, none⟩)) rfl rfl (by kernel_rfl) (by kernel_rfl) (by kernel_rfl) (fun _ _ _ h => h) rfl S0 (fun w' hw' => by go_simp) ?_
  simp only [Act.put, List.setIfInBounds_toArray, List.set_cons_zero, List.set_cons_succ]
  refine takeS 4 (some 63) (.slice (some ⟨vb, 0, none⟩) n c4) rfl rfl (by kernel_rfl) (by kernel_rfl) (by kernel_rfl) (fun _ _ _ h => h) rfl S0 (fun w' hw' => by have := CX.out w' hw'; go_simp) ?_
  simp only [Act.put, List.setIfInBounds_toArray, List.set_cons_zero, List.set_cons_succ]
  refine takeS 5 (some 64) (.int .i64 a) rfl rfl (by kernel_rfl) (by kernel_rfl) (by kernel_rfl) (fun _ _ _ h => h) rfl S0 (fun w' hw' => by go_simp) ?_
  simp only [Act.put, List.setIfInBounds_toArray, List.set_cons_zero, List.set_cons_succ]
  refine takeS 6 (some 65) (.pointer (some ⟨vb, a, none⟩)) rfl rfl (by kernel_rfl) (by kernel_rfl) (by kernel_rfl) (fun _ _ _ h => h) rfl S0 (fun w' hw' => by go_simp) ?_
  simp only [Act.put, List.setIfInBounds_toArray, List.set_cons_zero, List.set_cons_succ]
  refine takeS 8 (some 67) (.int .u8 x) rfl rfl (by kernel_rfl) (by kernel_rfl) (by kernel_rfl) (fun _ _ _ h => h) rfl S0 (fun w' hw' => by go_simp) ?_
  simp only [Act.put, List.setIfInBounds_toArray, List.set_cons_zero, List.set_cons_succ]
  obtain ⟨y1_, c_, z_⟩ : ∃ y1_ : Int, W0.cell? ⟨vb, a, none⟩ = some (.int .u8 y1_) ∧ W0.frozen? ⟨vb, a, none⟩ = false := byte_at RB HAN.out
  refine nextS 7 rfl (by kernel_rfl) rfl (makeR (some 66) rfl (.int .u8 y1_) (w1 := W0) (by go_simp) ?_)
  simp only [Act.put, List.setIfInBounds_toArray, List.set_cons_zero, List.set_cons_succ]
  refine ⟨S0, ?_⟩
  refine takeS 9 (some 68) (.int .u8 (bits .xor .u8 y1_ x)) rfl rfl (by kernel_rfl) (by kernel_rfl) (by kernel_rfl) (fun _ _ _ h => h) rfl S0 (fun w' hw' => by go_simp) ?_
  simp only [Act.put, List.setIfInBounds_toArray, List.set_cons_zero, List.set_cons_succ]
  refine takeS 10 (some 69) (.pointer (some ⟨vb, a, none⟩)) rfl rfl (by kernel_rfl) (by kernel_rfl) (by kernel_rfl) (fun _ _ _ h => h) rfl S0 (fun w' hw' => by go_simp) ?_
  simp only [Act.put, List.setIfInBounds_toArray, List.set_cons_zero, List.set_cons_succ]
  refine nextS 11 rfl (by kernel_rfl) rfl (storeR (w1 := W0.setCell ⟨vb, a, none⟩ (.int .u8 (bits .xor .u8 y1_ x))) (by go_simp) ?_)
  simp only [Act.put]
  have S2 := S0.trans (Chg.setCell W0 vb a (.int .u8 (bits .xor .u8 y1_ x))) (fun _ _ h => h)
  have NX2 := Lib.hid (NXT.out (bits .xor .u8 y1_ x))
  clear c_ z_ RB CX NXT
  generalize W0.setCell ⟨vb, a, none⟩ (.int .u8 (bits .xor .u8 y1_ x)) = W7 at *
  refine ⟨S2, ?_⟩
  refine wpAnyH_done (by kernel_rfl) ?_ _
  clear S0 S2
  have HAW7 := Lib.hid NX2.out.1
  have HRW7 := Lib.hid NX2.out.2.1
  have HE7 := Lib.hid NX2.out.2.2.1
  have HS7 := Lib.hid NX2.out.2.2.2
  have NXW7 := Lib.hid (show ∀ W0, Ext W7 W0 → ∀ v : Int, At (W0.setCell ⟨vs, a, none⟩ (.int .u8 v)) xb #[.int .i64 1, .int .i64 mt, .int .u64 st, .slice (some ⟨vb, 0, none⟩) n c4, .slice (some ⟨vs, 0, none⟩) n c5, .slice dd m cd] 106 ∧ (ByR (W0.setCell ⟨vs, a, none⟩ (.int .u8 v)) vb c4 n ∧ ByR (W0.setCell ⟨vs, a, none⟩ (.int .u8 v)) vs c5 n) ∧ Ext w (W0.setCell ⟨vs, a, none⟩ (.int .u8 v)) ∧ vs < (W0.setCell ⟨vs, a, none⟩ (.int .u8 v)).heap.size ∧ vb < (W0.setCell ⟨vs, a, none⟩ (.int .u8 v)).heap.size from fun W0 e v =>
    ⟨(Chg.setCell W0 vs a (.int .u8 v)).at (HAW7.out.ext e) HNE.out.2.1, ⟨ByR.other (ByR.ext HRW7.out.1 e) vs a _ HNE.out.2.2, byte_put (ByR.ext HRW7.out.2 e) HAN.out v⟩, ((Chg.of_ext (X := fun _ => False) (HE7.out.trans e)).trans (Chg.setCell W0 vs a (.int .u8 v)) (fun i hi q_ => by have := HGE.out.2.1; omega)).ext, by rw [size_setCell]; exact Nat.lt_of_lt_of_le HS7.out.1 e.size, by rw [size_setCell]; exact Nat.lt_of_lt_of_le HS7.out.2 e.size⟩)
  clear NX2
  go_wp2_with fail
  refine wp_region_held (S := Chg (fun i => i = vs) W7) (by kernel_rfl) ?_
  change wpAnyH _ _ _ _ _ _ _ _ W7.drew
  have S0 : Chg (fun i => i = vs) W7 W7.drew := Chg.of_ext (Ext.drew W7)
  have CX := Lib.hid (fun (w' : World) (hw' : Chg (fun i => i = vs) W7 w') => hw'.cell (HAW7.out.cell 4) (HNE.out.2.1))
  have RB := ByR.ext HRW7.out.2 (Ext.drew W7)
  have NXT := Lib.hid (NXW7.out W7.drew (Ext.drew W7))
  generalize W7.drew = W0 at *
  refine takeS 0 (some 70) (.pointer (some ⟨xb, 4, none⟩)) rfl rfl (by kernel_rfl) (by kernel_rfl) (by kernel_rfl) (fun _ _ _ h => h) rfl S0 (fun w' hw' => by go_simp) ?_
  simp only [Act.put, List.setIfInBounds_toArray, List.set_cons_zero, List.set_cons_succ]
  refine takeS 1 (some 71) (.slice (some ⟨vs, 0, none⟩) n c5) rfl rfl (by kernel_rfl) (by kernel_rfl) (by kernel_rfl) (fun _ _ _ h => h) rfl S0 (fun w' hw' => by have := CX.out w' hw'; go_simp) ?_
  simp only [Act.put, List.setIfInBounds_toArray, List.set_cons_zero, List.set_cons_succ]
  refine takeS 2 (some 72) (.int .i64 a) rfl rfl (by kernel_rfl) (by kernel_rfl) (by kernel_rfl) (fun _ _ _ h => h) rfl S0 (fun w' hw' => by go_simp) ?_
  simp only [Act.put, List.setIfInBounds_toArray, List.set_cons_zero, List.set_cons_succ]
  refine takeS 3 (some 73) (.pointer (some ⟨xb, 4, none⟩)) rfl rfl (by kernel_rfl) (by kernel_rfl) (by kernel_rfl) (fun _ _ _ h => h) rfl S0 (fun w' hw' => by go_simp) ?_
  simp only [Act.put, List.setIfInBounds_toArray, List.set_cons_zero, List.set_cons_succ]
  refine takeS 4 (some 74) (.slice (some ⟨vs, 0, none⟩) n c5) rfl rfl (by kernel_rfl) (by kernel_rfl) (by kernel_rfl) (fun _ _ _ h => h) rfl S0 (fun w' hw' => by have := CX.out w' hw'; go_simp) ?_
  simp only [Act.put, List.setIfInBounds_toArray, List.set_cons_zero, List.set_cons_succ]
  refine takeS 5 (some 75) (.int .i64 a) rfl rfl (by kernel_rfl) (by kernel_rfl) (by kernel_rfl) (fun _ _ _ h => h) rfl S0 (fun w' hw' => by go_simp) ?_
  simp only [Act.put, List.setIfInBounds_toArray, List.set_cons_zero, List.set_cons_succ]
  refine takeS 6 (some 76) (.pointer (some ⟨vs, a, none⟩)) rfl rfl (by kernel_rfl) (by kernel_rfl) (by kernel_rfl) (fun _ _ _ h => h) rfl S0 (fun w' hw' => by go_simp) ?_
  simp only [Act.put, List.setIfInBounds_toArray, List.set_cons_zero, List.set_cons_succ]
  refine takeS 8 (some 78) (.int .u8 x) rfl rfl (by kernel_rfl) (by kernel_rfl) (by kernel_rfl) (fun _ _ _ h => h) rfl S0 (fun w' hw' => by go_simp) ?_
  simp only [Act.put, List.setIfInBounds_toArray, List.set_cons_zero, List.set_cons_succ]
  obtain ⟨y2_, c_, z_⟩ : ∃ y2_ : Int, W0.cell? ⟨vs, a, none⟩ = some (.int .u8 y2_) ∧ W0.frozen? ⟨vs, a, none⟩ = false := byte_at RB HAN.out
  refine nextS 7 rfl (by kernel_rfl) rfl (makeR (some 77) rfl (.int .u8 y2_) (w1 := W0) (by go_simp) ?_)
  simp only [Act.put, List.setIfInBounds_toArray, List.set_cons_zero, List.set_cons_succ]
  refine ⟨S0, ?_⟩
  refine takeS 9 (some 79) (.int .u8 (bits .xor .u8 y2_ x)) rfl rfl (by kernel_rfl) (by kernel_rfl) (by kernel_rfl) (fun _ _ _ h => h) rfl S0 (fun w' hw' => by go_simp) ?_
  simp only [Act.put, List.setIfInBounds_toArray, List.set_cons_zero, List.set_cons_succ]
  refine takeS 10 (some 80) (.pointer (some ⟨vs, a, none⟩)) rfl rfl (by kernel_rfl) (by kernel_rfl) (by kernel_rfl) (fun _ _ _ h => h) rfl S0 (fun w' hw' => by go_simp) ?_
  simp only [Act.put, List.setIfInBounds_toArray, List.set_cons_zero, List.set_cons_succ]
  refine nextS 11 rfl (by kernel_rfl) rfl (storeR (w1 := W0.setCell ⟨vs, a, none⟩ (.int .u8 (bits .xor .u8 y2_ x))) (by go_simp) ?_)
  simp only [Act.put]
  have S2 := S0.trans (Chg.setCell W0 vs a (.int .u8 (bits .xor .u8 y2_ x))) (fun _ _ h => h)
  have NX2 := Lib.hid (NXT.out (bits .xor .u8 y2_ x))
  clear c_ z_ RB CX NXT
  generalize W0.setCell ⟨vs, a, none⟩ (.int .u8 (bits .xor .u8 y2_ x)) = W5 at *
  refine ⟨S2, ?_⟩
  refine wpAnyH_done (by kernel_rfl) ?_ _
  clear S0 S2
  have HA5 := Lib.hid NX2.out.1
  have EX5 := NX2.out.2.2.1
  have x1 := HX.out.keep fun i hi => EX5.block i (HR.out.lt i hi)
  have hg1 := HR.out.cell.lt
  have HR5 := Lib.hid ((HR.out.ext EX5).grow (G := fun i => F i ∨ (w.heap.size ≤ i ∧ i < W5.heap.size)) (fun i hi => Or.inl hi) (fun i hi => hi.elim (fun q_ => Nat.lt_of_lt_of_le (HR.out.lt i q_) EX5.size) (fun q_ => q_.2)) (fun q_ => q_.elim (fun q_ => HR.out.ng q_) (fun q_ => by omega)))
  have HX5 := Lib.hid (show RFIn W5 (fun i => F i ∨ (w.heap.size ≤ i ∧ i < W5.heap.size)) ⟨1, mt, st, .slice (some ⟨vb, 0, none⟩) n c4, .slice (some ⟨vs, 0, none⟩) n c5, .slice dd m cd, n, m⟩ from
    ⟨NX2.out.2.1.1, NX2.out.2.1.2, x1.d, x1.nm, x1.nl, x1.ml, fun i hi => by have h_ : some vb = some i := hi; injection h_ with h_; subst h_; exact Or.inr ⟨HGE.out.1, NX2.out.2.2.2.2⟩, fun i hi => by have h_ : some vs = some i := hi; injection h_ with h_; subst h_; exact Or.inr ⟨HGE.out.2.1, NX2.out.2.2.2.1⟩, fun i hi => Or.inl (x1.fd i hi)⟩)
  have HC5 := Lib.hid (HC.out.trans (Chg.of_ext EX5) (fun _ _ h => h))
  have HL := Lib.hid (show ∀ i, (F i ∨ (w.heap.size ≤ i ∧ i < W5.heap.size)) → F i ∨ w.heap.size ≤ i from fun i hi => hi.imp id fun q_ => Nat.le_trans HC.out.size q_.1)
  have HC3 := Lib.hid (CELLS.out W5 EX5).2.1
  have CE5 := Lib.hid (fun w' (hc : Chg (fun i => i = g) W5 w') => hc.cell (CELLS.out W5 EX5).2.2.1 HNB.out)
  have HQ5 := Lib.hid (show q < R.files.length from by rw [← HMM.out]; exact hq)
  clear x1 EX5 NX2 hg1
  go_wp2_with fail
  refine wp_region_held (S := Chg (fun i => i = g) W5) (by kernel_rfl) ?_
  change wpAnyH _ _ _ _ _ _ _ _ W5.drew
  have S0 : Chg (fun i => i = g) W5 W5.drew := Chg.of_ext (Ext.drew W5)
  have A5 := Lib.hid (fun (w' : World) (hw' : Chg (fun i => i = g) W5 w') => hw'.at HA5.out HGX.out)
  have c3_ : W5.drew.cell? ⟨g, 3, none⟩ = some (.slice (some ⟨b, o, none⟩) nn cap) := HC3.out
  have STP := rset_any g R (fun i => F i ∨ (w.heap.size ≤ i ∧ i < W5.heap.size)) (k + 1 + 0) q _ W5.drew (HR5.out.ext (Ext.drew W5)) (by omega) (by first | exact HQ5.out | (rw [HQ5.out]; omega)) (HX5.out.keep fun i _ => rfl)
  unfold ptr at STP
  have STL := Lib.hid STP
  clear STP
  generalize W5.drew = W0 at *
  refine takeS 0 (some 81) (.pointer (some ⟨g, 0, none⟩)) rfl rfl (by kernel_rfl) (by kernel_rfl) (by kernel_rfl) (fun _ _ _ h => h) rfl S0 (fun w' hw' => by go_simp) ?_
  simp only [Act.put, List.setIfInBounds_toArray, List.set_cons_zero, List.set_cons_succ]
  refine takeS 1 (some 82) (.pointer (some ⟨g, 0, none⟩)) rfl rfl (by kernel_rfl) (by kernel_rfl) (by kernel_rfl) (fun _ _ _ h => h) rfl S0 (fun w' hw' => by go_simp) ?_
  simp only [Act.put, List.setIfInBounds_toArray, List.set_cons_zero, List.set_cons_succ]
  refine takeS 2 (some 83) (.pointer (some ⟨g, 0, none⟩)) rfl rfl (by kernel_rfl) (by kernel_rfl) (by kernel_rfl) (fun _ _ _ h => h) rfl S0 (fun w' hw' => by go_simp) ?_
  simp only [Act.put, List.setIfInBounds_toArray, List.set_cons_zero, List.set_cons_succ]
  refine takeS 3 (some 84) (.pointer (some ⟨g, 3, none⟩)) rfl rfl (by kernel_rfl) (by kernel_rfl) (by kernel_rfl) (fun _ _ _ h => h) rfl S0 (fun w' hw' => by go_simp) ?_
  simp only [Act.put, List.setIfInBounds_toArray, List.set_cons_zero, List.set_cons_succ]
  refine takeS 5 (some 86) (.int .i64 j) rfl rfl (by kernel_rfl) (by kernel_rfl) (by kernel_rfl) (fun _ _ _ h => h) rfl S0 (fun w' hw' => by go_simp) ?_
  simp only [Act.put, List.setIfInBounds_toArray, List.set_cons_zero, List.set_cons_succ]
  refine takeS 9 (some 90) (.agg #[.int .i64 1, .int .i64 mt, .int .u64 st, .slice (some ⟨vb, 0, none⟩) n c4, .slice (some ⟨vs, 0, none⟩) n c5, .slice dd m cd]) rfl rfl (by kernel_rfl) (by kernel_rfl) (by kernel_rfl) (fun _ _ _ h => h) rfl S0 (fun w' hw' => by have c0 := (A5.out w' hw').cell 0; have c1 := (A5.out w' hw').cell 1; have c2 := (A5.out w' hw').cell 2; have c3 := (A5.out w' hw').cell 3; have c4 := (A5.out w' hw').cell 4; have c5 := (A5.out w' hw').cell 5; go_simp) ?_
  simp only [Act.put, List.setIfInBounds_toArray, List.set_cons_zero, List.set_cons_succ]
  refine nextS 4 rfl (by kernel_rfl) rfl (makeR (some 85) rfl (.slice (some ⟨b, o, none⟩) nn cap) (w1 := W0) (by go_simp) ?_)
  simp only [Act.put, List.setIfInBounds_toArray, List.set_cons_zero, List.set_cons_succ]
  refine ⟨S0, ?_⟩
  refine takeS 6 (some 87) (.pointer (some ⟨b, o + j * 2, none⟩)) rfl rfl (by kernel_rfl) (by kernel_rfl) (by kernel_rfl) (fun _ _ _ h => h) rfl S0 (fun w' hw' => by go_simp) ?_
  simp only [Act.put, List.setIfInBounds_toArray, List.set_cons_zero, List.set_cons_succ]
  refine takeS 7 (some 88) (.pointer (some ⟨b, o + j * 2 + 1, none⟩)) rfl rfl (by kernel_rfl) (by kernel_rfl) (by kernel_rfl) (fun _ _ _ h => h) rfl S0 (fun w' hw' => by go_simp) ?_
  simp only [Act.put, List.setIfInBounds_toArray, List.set_cons_zero, List.set_cons_succ]
  refine takeS 8 (some 89) (.int .i64 q) rfl rfl (by kernel_rfl) (by kernel_rfl) (by kernel_rfl) (fun _ _ _ h => h) rfl S0 (fun w' hw' => by have xf := CE5.out w' hw'; go_simp) ?_
  simp only [Act.put, List.setIfInBounds_toArray, List.set_cons_zero, List.set_cons_succ]
  refine nextS 10 rfl (by kernel_rfl) rfl ?_
  refine callS (some 91) rfl 69 #[.pointer (some ⟨g, 0, none⟩), .int .i64 q, .agg #[.int .i64 1, .int .i64 mt, .int .u64 st, .slice (some ⟨vb, 0, none⟩) n c4, .slice (some ⟨vs, 0, none⟩) n c5, .slice dd m cd]] (by go_simp) (fun v w' => v = .tuple #[] ∧ RPost W0 g (fun i => F i ∨ (w.heap.size ≤ i ∧ i < W5.heap.size)) (k + 1 + 0) w') ((STL.out).mono fun e w' he => ⟨_, he.1, rfl, he.2⟩) ?_
  rintro v8 w8 ⟨rfl, p8⟩
  have S8 : Chg (fun i => i = g) W0 w8 := by obtain ⟨_, _, _, c8, _⟩ := p8; exact c8
  refine ⟨S0.trans S8 (fun _ _ h => h), ?_⟩
  simp only [Act.put, List.setIfInBounds_toArray, List.set_cons_zero, List.set_cons_succ]
  refine wpAnyH_done (by kernel_rfl) ?_ _
  have FN := Lib.hid (show RPost w g F (k + 10) w8 from by
    obtain ⟨R8, F8, r8, c8, l8⟩ := RPost.trans (HC5.out.trans S0 (fun _ _ h => h)) p8
    exact ⟨R8, F8, r8.up (by omega), c8, fun i hi => (l8 i hi).elim (fun q_ => HL.out i q_) Or.inr⟩)
  clear p8 S8 S0 c3_
  go_wp2
  go_ret
  exact ⟨⟨_, rfl⟩, FN.out⟩
end Go.Proofs.YtbneedmfpldpfaaGreatDoor
