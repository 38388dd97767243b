/- Contract of the document's own Write, whatever the store holds. -/
import Derived.Test.YtbneedmfpldpfaaGreatDoorBo
set_option linter.unusedSimpArgs false
set_option linter.unusedVariables false
namespace Go.Proofs.YtbneedmfpldpfaaGreatDoor
open Go.RowKit Go.Pth

theorem store_mid0 {P : Program} {op : Oper} {a : Act} {w : World} {K : Act → World → Prop} {Q : Exit → Act → World → Prop} (ty : TypeId) (x y : Operand) (ho : op.op = .store ty x y) (hd : op.dst = none)
    (b o : Nat) (cells : Array Value) (hx : a.eval x = .pointer (some ⟨b, o, none⟩)) (hy : a.eval y = .agg cells)
    (ht : w.there b o cells.size) (hi : (P.info? ty).map (·.size) = some cells.size) (h1 : cells.all (·.oneCell') = true)
    (h : K a (w.setCells b o cells.toList)) : op.wp P a w K Q :=
  wp_store_mid ty x y ho b o cells hx hy ht hi h1 (by rw [hd]; exact h)
/-- Bytes copied into a row. -/
theorem copy_by {w : World} {dB : Option Addr} {a cB oo : Nat} {x : List Int} {adx : Option Addr} {capx bx ox : Nat} (h : ByV w (.slice dB a cB) a) (hb : Bin w (.slice adx x.length capx) x adx capx bx ox) (hle : oo + x.length ≤ a) (da : Option Addr) (dl dc : Nat) (hd : 0 < x.length → ∃ gb, dB = some ⟨gb, 0, none⟩ ∧ da = some ⟨gb, oo, none⟩) (hdl : x.length ≤ dl) :
    ∃ w', (Builtin.copy_ #[22, 22] 3 #[.slice da dl dc, .slice adx x.length capx]).run Tryz.prog w = .ok (.int .i64 x.length) w' ∧ ByV w' (.slice dB a cB) a ∧ Chg (fun i => (Value.slice dB a cB).ownBlock = some i) w w' := by
  have sz : (Tryz.prog.info? 5).map (·.size) = some 1 := by kernel_rfl
  by_cases h0 : 0 < x.length
  · obtain ⟨gb, rfl, rfl⟩ := hd h0
    obtain ⟨l, hl, hr⟩ := h
    rw [hb.adr h0]
    have := run_copy_cells (P := Tryz.prog) w 22 22 3 5 gb oo dl dc ⟨bx, ox, none⟩ x.length capx (bts x) Tryz.underlying22 sz (by rw [bts_len]; exact (Nat.min_eq_left hdl).symm) (fun j u hu => by rw [Addr.add_lit]; exact hb.cell j u hu) (fun j hj => by rw [bts_len] at hj; rw [(Row.cell hr (oo + j) (by omega)).1]; simp [bts]; omega) (fun j hj => by rw [bts_len] at hj; exact (Row.cell hr (oo + j) (by omega)).2) (bts_one x)
    rw [bts_len] at this
    have h2 := Row.sets hr oo (bts x) (by rw [bts_len]; omega)
    rw [bts_splice] at h2
    exact ⟨_, this, ⟨_, by rw [splice_len _ _ _ (by omega)]; exact hl, h2⟩, (Chg.sets gb (bts x) oo w).mono fun i _ e => by rw [e]; rfl⟩
  · have hx : x = [] := List.length_eq_zero_iff.1 (by omega)
    subst hx
    have := run_copy_none (P := Tryz.prog) w 22 22 3 5 da adx dl dc 0 capx Tryz.underlying22 sz (by simp)
    exact ⟨w, this, h, Chg.refl _ w⟩
theorem bool_more (w : World) {dD : Option Addr} {cD i : Nat} (hr : BlR w (.slice dD i cD) i) (v : Bool) (hm : i ≤ 100000) :
    ∃ d4 c4 w', (Builtin.append_ #[69, 69] 69 #[.slice dD i cD, .slice (some ⟨w.heap.size, 0, none⟩) 1 1]).run Tryz.prog (w.alloc (.cells #[.bool v] 4)) = .ok (.slice d4 (i + 1) c4) w' ∧ BlR w' (.slice d4 (i + 1) c4) (i + 1) ∧
      (∀ q, (Value.slice d4 (i + 1) c4).ownBlock = some q → (Value.slice dD i cD).ownBlock = some q ∨ w.heap.size ≤ q) ∧ Chg (fun q => (Value.slice dD i cD).ownBlock = some q) w w' := by
  obtain ⟨l, hl, hr⟩ := hr
  have hat := At.new w #[.bool v] 4
  obtain ⟨v', w', h1, h2, h3⟩ := row_copy 69 Tryz.underlying69 info4 rfl (hr.ext (Ext.alloc w (.cells #[.bool v] 4))) (Src.ofSlice (w.alloc (.cells #[.bool v] 4)) Tryz.underlying69 ⟨w.heap.size, 0, none⟩ 1 1 [.bool v] rfl (fun u y hx => by rw [Addr.add_lit, Nat.zero_add, hat.cell, ← hx]; simp) (by simp [Value.oneCell'])) (by omega) (by omega)
  have e : bls l ++ [.bool v] = bls (l ++ [v]) := by simp [bls]
  rw [e] at h2
  obtain ⟨d4, c4, rfl, -⟩ := h2.shape
  refine ⟨d4, c4, w', h1, ⟨l ++ [v], by rw [List.length_append, hl]; rfl, h2⟩, fun q hq => ?_, (Chg.of_ext (X := fun q => (Value.slice dD i cD).ownBlock = some q) (Ext.alloc w (.cells #[.bool v] 4))).trans h3.chg (fun _ _ h => h)⟩
  rcases h3.own with q1 | ⟨j, q1, q2⟩
  · rw [q1] at hq; exact Or.inl hq
  · rw [q1] at hq; injection hq with hq
    rw [size_alloc] at q2
    exact Or.inr (by omega)

set_option maxRecDepth 100000 in
set_option maxHeartbeats 8000000 in
theorem rwrite_all (g : Nat) (R : RV) (F : Nat → Prop) (k : Nat) (p : ByteArray) (off : Int) (vb : Value) (x : List Int) (adx : Option Addr) (capx bx ox : Nat) (w : World) (h : RRep w g R F k) (hk : k ≤ 800) (hx : Bin w vb x adx capx bx ox) (hbx : ¬ bx = g) (hxn : x.length ≤ 1000000) :
    Calls Tryz.prog 32 #[ptr g, .string p, .int .i64 off, vb] w fun e w' => (∃ n : Int, e = .returned (.int .i64 n)) ∧ RPost w g F (k + 10) w' := by
  have A1 := Lib.hid (ract_p g R F k p w h (by omega))
  have HO := Lib.hid (fun (w' : World) (n : Nat) (R' : RV) (hn : n ≤ 10) (r : RRep w' g R' F (k + n)) (c : Chg (fun i => i = g) w w') => RPost.of (r.up (k' := k + 10) (by omega)) c)
  have hvb := hx.val
  subst hvb
  obtain ⟨nx, hnx⟩ : ∃ nx, nx = x.length := ⟨_, rfl⟩
  have HBX := Lib.hid (And.intro hx hbx)
  rw [← hnx] at hxn ⊢
  have HNX := Lib.hid hnx
  clear hx hbx hnx
  clear h
  unfold ptr at *
  go_enter Tryz.func32, Tryz.ntmps32
  go_wp2_with fail
  refine (A1.out).mono ?_
  rintro e w1 ⟨n, rfl, hv, r1, c1⟩
  clear A1
  have HV := Lib.hid hv
  have HC := Lib.hid c1
  have HR := Lib.hid r1
  clear hv c1
  by_cases hn : n = 0
  rotate_left
  · have tb : (n != 0) = true := by simpa using hn
    have FN := Lib.hid (HO.out _ 1 _ (by omega) HR.out HC.out)
    clear r1 hn
    go_wp2
    go_ret
    exact ⟨⟨_, rfl⟩, FN.out⟩
  subst hn
  obtain ⟨ad, cap, hnw, c3, fi⟩ := r1.find (by omega) p
  have FI := Lib.hid fi
  have HNW := Lib.hid hnw
  clear fi hnw r1
  generalize ({ R with asked := R.asked + 1 } : RV) = R1 at *
  obtain ⟨nn, hnn⟩ : ∃ nn, nn = R1.names.length := ⟨_, rfl⟩
  rw [← hnn] at c3 FI HNW
  have HNN := Lib.hid hnn
  clear hnn
  go_wp2_with fail
  refine (FI.out).mono ?_
  rintro e w' ⟨r, rfl, rfl, hr⟩
  clear FI
  rcases hr with rfl | ⟨j, rfl, hj⟩
  · have FN := Lib.hid (HO.out _ 1 _ (by omega) HR.out HC.out)
    go_wp2
    go_ret
    exact ⟨⟨_, rfl⟩, FN.out⟩
  have j0 : ¬ ((j : Int) < 0) := by omega
  have i0 : (0 : Int) ≤ (j : Int) := by omega
  obtain ⟨b, o, fb, fo, q, fcap, kd, mt, st, db, cb, ds, cs, dd, cd, n, m, rfl, hfs, hq, hX, hnb, hcells⟩ := HR.out.fileat (by rw [HNW.out, HNN.out]) (show j < R1.names.length by rw [← HNN.out]; exact hj)
  rw [← HNN.out] at hcells
  have CELLS := Lib.hid hcells
  have HX := Lib.hid hX
  obtain ⟨mm, hmm⟩ : ∃ mm, mm = R1.files.length := ⟨_, rfl⟩
  rw [← hmm] at CELLS hq
  have HMM := Lib.hid hmm
  have HNB := Lib.hid hnb
  have i1 : (j : Int) < (nn : Int) := by omega
  have q0 : (0 : Int) ≤ (q : Int) := by omega
  have q1 : (q : Int) < (mm : Int) := by omega
  have HLIM := Lib.hid (show n ≤ 65536 ∧ m ≤ 5000 ∧ secs n ≤ m from ⟨hX.nl, hX.ml, hX.nm⟩)
  clear hcells hX hmm hfs hnb c3
  obtain ⟨x2, x3, xf, y0, y1, y2, y3, y4, y5⟩ := CELLS.out w1 (Ext.refl w1)
  have aZ := At.new w1 #[.int .i64 0, .int .i64 0, .int .u64 0, .slice none 0 0, .slice none 0 0, .slice none 0 0] 106
  have TH := Lib.hid (at_there aZ 0 6 (by decide))
  have hxb0 : w1.heap.size < (w1.alloc (.cells #[.int .i64 0, .int .i64 0, .int .u64 0, .slice none 0 0, .slice none 0 0, .slice none 0 0] 106)).heap.size := aZ.lt
  have aX := At.sets (#[.int .i64 kd, .int .i64 mt, .int .u64 st, .slice db n cb, .slice ds n cs, .slice dd m cd] : Array Value).toList 0 _ #[.int .i64 0, .int .i64 0, .int .u64 0, .slice none 0 0, .slice none 0 0, .slice none 0 0] aZ (Nat.le_refl 6)
  have eX : Ext w1 ((w1.alloc (.cells #[.int .i64 0, .int .i64 0, .int .u64 0, .slice none 0 0, .slice none 0 0, .slice none 0 0] 106)).setCells w1.heap.size 0 (#[.int .i64 kd, .int .i64 mt, .int .u64 st, .slice db n cb, .slice ds n cs, .slice dd m cd] : Array Value).toList) := ((Chg.of_ext (X := fun _ => False) (Ext.alloc w1 (.cells #[.int .i64 0, .int .i64 0, .int .u64 0, .slice none 0 0, .slice none 0 0, .slice none 0 0] 106))).trans (Chg.sets w1.heap.size (#[.int .i64 kd, .int .i64 mt, .int .u64 st, .slice db n cb, .slice ds n cs, .slice dd m cd] : Array Value).toList 0 _) (fun i hi q_ => by omega)).ext
  obtain ⟨W2, hW2⟩ : ∃ W2, W2 = (w1.alloc (.cells #[.int .i64 0, .int .i64 0, .int .u64 0, .slice none 0 0, .slice none 0 0, .slice none 0 0] 106)).setCells w1.heap.size 0 (#[.int .i64 kd, .int .i64 mt, .int .u64 st, .slice db n cb, .slice ds n cs, .slice dd m cd] : Array Value).toList := ⟨_, rfl⟩
  rw [← hW2] at aX eX
  have HW2 := Lib.hid hW2.symm
  have HGX := Lib.hid (show ¬ w1.heap.size = g from by have := HR.out.cell.lt; omega)
  have EX := Lib.hid eX
  have HAX := Lib.hid (show At W2 w1.heap.size #[.int .i64 kd, .int .i64 mt, .int .u64 st, .slice db n cb, .slice ds n cs, .slice dd m cd] 106 from aX)
  clear aZ hxb0 aX eX hW2
  go_upto_region 9 with (refine Go.wpList_store_mid rfl 106 (.tmp 12) (.tmp 48) rfl w1.heap.size 0 #[.int .i64 kd, .int .i64 mt, .int .u64 st, .slice db n cb, .slice ds n cs, .slice dd m cd] rfl rfl TH.out (by exact size106) (by simp [Value.oneCell']) ?_)
  rw [HW2.out]
  clear x2 x3 xf y0 y1 y2 y3 y4 y5
  have hxbs : w1.heap.size < W2.heap.size := HAX.out.lt
  have HXS := Lib.hid hxbs
  clear hxbs
  have cX0 : W2.cell? ⟨w1.heap.size, 0, none⟩ = some (.int .i64 kd) := HAX.out.cell 0
  have cX3 : W2.cell? ⟨w1.heap.size, 3, none⟩ = some (.slice db n cb) := HAX.out.cell 3
  have FNX := Lib.hid (HO.out _ 1 _ (by omega) (HR.out.ext EX.out) (HC.out.trans (Chg.of_ext EX.out) (fun _ _ h => h)))
  have HXB := Lib.hid (Nat.le_refl w1.heap.size)
  generalize w1.heap.size = xb at *
  by_cases hkd : kd = 1
  rotate_left
  · have tb : (kd != 1) = true := by simpa using hkd
    clear hj hkd
    go_wp2
    go_ret
    exact ⟨⟨_, rfl⟩, FNX.out⟩
  subst hkd
  by_cases h1 : off < 0
  · clear hj
    go_wp2
    go_ret
    exact ⟨⟨_, rfl⟩, FNX.out⟩
  have d1 : decide (off < 0) = false := decide_eq_false h1
  obtain ⟨oo, rfl⟩ : ∃ oo : Nat, off = oo := ⟨off.toNat, by omega⟩
  by_cases h2 : 65536 < oo
  · have d2 : decide (65536 < oo) = true := decide_eq_true h2
    have d3 : decide ((oo : Int) > 65536) = true := decide_eq_true (by omega)
    clear hj h1
    go_wp2
    go_ret
    exact ⟨⟨_, rfl⟩, FNX.out⟩
  have d2 : decide (65536 < oo) = false := decide_eq_false h2
  have d3 : decide ((oo : Int) > 65536) = false := decide_eq_false (by omega)
  by_cases h3 : 65536 < oo + nx
  · have d4 : decide ((nx : Int) > 65536 - (oo : Int)) = true := decide_eq_true (by omega)
    have d5 : decide (65536 - (oo : Int) < (nx : Int)) = true := decide_eq_true (by omega)
    clear hj h1 h3
    go_wp2
    go_ret
    exact ⟨⟨_, rfl⟩, FNX.out⟩
  have d4 : decide ((nx : Int) > 65536 - (oo : Int)) = false := decide_eq_false (by omega)
  have d5 : decide (65536 - (oo : Int) < (nx : Int)) = false := decide_eq_false (by omega)
  obtain ⟨T, hT⟩ : ∃ T, T = oo + nx := ⟨_, rfl⟩
  obtain ⟨a, ha⟩ : ∃ a, a = max n T := ⟨_, rfl⟩
  obtain ⟨fm, hfm⟩ : ∃ fm, fm = min oo n := ⟨_, rfl⟩
  have m1 : (oo : Int) + (nx : Int) = (T : Int) := by omega
  have m2 : max (n : Int) (T : Int) = (a : Int) := by omega
  have m3 : min (oo : Int) (n : Int) = (fm : Int) := by omega
  have HA6 := Lib.hid (show a ≤ 65536 from by have := HLIM.out.1; omega)
  have HTA := Lib.hid (show T ≤ a ∧ T = oo + nx ∧ fm ≤ a from ⟨by omega, hT, by omega⟩)
  have ha6 : a ≤ 65536 := HA6.out
  have hn6 : n ≤ 65536 := HLIM.out.1
  have US := Lib.hid (fun (W : World) (e : Ext w1 W) => rused_any g R1 F (k + 1) W (HR.out.ext e) (by omega))
  unfold ptr at US
  clear h1 h2 h3 hT ha hfm
  have AXE := Lib.hid (fun (W : World) (e : Ext W2.drew W) => (HAX.out.ext ((Ext.drew W2).trans e) : At W xb #[.int .i64 1, .int .i64 mt, .int .u64 st, .slice db n cb, .slice ds n cs, .slice dd m cd] 106))
  have C0E := Lib.hid (fun (W : World) (e : Ext W2.drew W) => (show W.cell? ⟨g, 0, none⟩ = some (.int .i64 1048576) from ((HR.out.ext (EX.out.trans ((Ext.drew W2).trans e))).c 0)))
  go_wp2_with fail
  refine wp_region_held (S := Ext W2.drew) (by kernel_rfl) ?_
  change wpAnyH _ _ _ _ _ _ _ _ W2.drew
  have S0 : Ext W2.drew W2.drew := Ext.refl _
  have US0 := Lib.hid (US.out W2.drew (EX.out.trans (Ext.drew W2)))
  have D_ := Lib.hid (Ext.drew W2)
  generalize W2.drew = W0 at *
  refine takeS 0 (some 74) (.pointer (some ⟨g, 0, none⟩)) rfl rfl (by kernel_rfl) (by kernel_rfl) (by kernel_rfl) (fun _ _ _ h => h) rfl S0 (fun w' hw' => by go_simp) ?_
  simp only [Act.put, List.setIfInBounds_toArray, List.set_cons_zero, List.set_cons_succ]
  refine takeS 2 (some 76) (.pointer (some ⟨xb, 3, none⟩)) rfl rfl (by kernel_rfl) (by kernel_rfl) (by kernel_rfl) (fun _ _ _ h => h) rfl S0 (fun w' hw' => by go_simp) ?_
  simp only [Act.put, List.setIfInBounds_toArray, List.set_cons_zero, List.set_cons_succ]
  refine takeS 3 (some 77) (.slice db n cb) rfl rfl (by kernel_rfl) (by kernel_rfl) (by kernel_rfl) (fun _ _ _ h => h) rfl S0 (fun w' hw' => by have c0 := (AXE.out w' hw').cell 3; go_simp) ?_
  simp only [Act.put, List.setIfInBounds_toArray, List.set_cons_zero, List.set_cons_succ]
  refine takeS 4 (some 78) (.int .i64 n) rfl rfl (by kernel_rfl) (by kernel_rfl) (by kernel_rfl) (fun _ _ _ h => h) rfl S0 (fun w' hw' => by go_simp) ?_
  simp only [Act.put, List.setIfInBounds_toArray, List.set_cons_zero, List.set_cons_succ]
  refine takeS 6 (some 80) (.int .i64 a) rfl rfl (by kernel_rfl) (by kernel_rfl) (by kernel_rfl) (fun _ _ _ h => h) rfl S0 (fun w' hw' => by go_simp) ?_
  simp only [Act.put, List.setIfInBounds_toArray, List.set_cons_zero, List.set_cons_succ]
  refine takeS 8 (some 82) (.pointer (some ⟨g, 0, none⟩)) rfl rfl (by kernel_rfl) (by kernel_rfl) (by kernel_rfl) (fun _ _ _ h => h) rfl S0 (fun w' hw' => by go_simp) ?_
  simp only [Act.put, List.setIfInBounds_toArray, List.set_cons_zero, List.set_cons_succ]
  refine takeS 9 (some 83) (.pointer (some ⟨g, 0, none⟩)) rfl rfl (by kernel_rfl) (by kernel_rfl) (by kernel_rfl) (fun _ _ _ h => h) rfl S0 (fun w' hw' => by go_simp) ?_
  simp only [Act.put, List.setIfInBounds_toArray, List.set_cons_zero, List.set_cons_succ]
  refine takeS 10 (some 84) (.pointer (some ⟨g, 0, none⟩)) rfl rfl (by kernel_rfl) (by kernel_rfl) (by kernel_rfl) (fun _ _ _ h => h) rfl S0 (fun w' hw' => by go_simp) ?_
  simp only [Act.put, List.setIfInBounds_toArray, List.set_cons_zero, List.set_cons_succ]
  refine takeS 11 (some 85) (.int .i64 1048576) rfl rfl (by kernel_rfl) (by kernel_rfl) (by kernel_rfl) (fun _ _ _ h => h) rfl S0 (fun w' hw' => by have c0 := C0E.out w' hw'; go_simp) ?_
  simp only [Act.put, List.setIfInBounds_toArray, List.set_cons_zero, List.set_cons_succ]
  refine nextS 1 rfl (by kernel_rfl) rfl (callS (some 75) rfl 66 #[.pointer (some ⟨g, 0, none⟩)] (by go_simp) (fun v w' => (∃ t : Int, v = .int .i64 t ∧ 0 ≤ t ∧ t ≤ 100000000) ∧ Ext W0 w') ((US0.out).mono fun e w' he => by obtain ⟨⟨t, h1, h2⟩, h3⟩ := he; exact ⟨_, h1, ⟨t, rfl, h2⟩, h3⟩) ?_)
  rintro v3 w3 ⟨⟨t, rfl, ht0, ht1⟩, S3⟩
  simp only [Act.put, List.setIfInBounds_toArray, List.set_cons_zero, List.set_cons_succ]
  refine ⟨S3, ?_⟩
  have hw1_ : IntKind.i64.wrap (t - (n : Int)) = t - n := by rw [IntKind.wrap_i64]; omega
  have hw2_ : IntKind.i64.wrap (t - (n : Int) + (a : Int)) = t - n + a := by rw [IntKind.wrap_i64]; omega
  obtain ⟨fb_, hfb⟩ : ∃ fb_, fb_ = decide (t - (n : Int) + (a : Int) > 1048576) := ⟨_, rfl⟩
  refine takeS 5 (some 79) (.int .i64 (t - n)) rfl rfl (by kernel_rfl) (by kernel_rfl) (by kernel_rfl) (fun _ _ _ h => h) rfl S3 (fun w' hw' => by go_simp) ?_
  simp only [Act.put, List.setIfInBounds_toArray, List.set_cons_zero, List.set_cons_succ]
  refine takeS 7 (some 81) (.int .i64 (t - n + a)) rfl rfl (by kernel_rfl) (by kernel_rfl) (by kernel_rfl) (fun _ _ _ h => h) rfl S3 (fun w' hw' => by go_simp) ?_
  simp only [Act.put, List.setIfInBounds_toArray, List.set_cons_zero, List.set_cons_succ]
  refine takeS 12 (some 86) (.bool fb_) rfl rfl (by kernel_rfl) (by kernel_rfl) (by kernel_rfl) (fun _ _ _ h => h) rfl S3 (fun w' hw' => by rw [hfb]; go_simp) ?_
  simp only [Act.put, List.setIfInBounds_toArray, List.set_cons_zero, List.set_cons_succ]
  refine wpAnyH_done (by kernel_rfl) ?_ _
  have EX3 := Lib.hid (EX.out.trans (D_.out.trans S3))
  have HAX3 := Lib.hid (AXE.out w3 S3)
  have cX33 : w3.cell? ⟨xb, 3, none⟩ = some (.slice db n cb) := HAX3.out.cell 3
  clear cX3 cX0 S3 S0 US US0 AXE C0E FNX
  clear hw1_ hw2_ hfb ht0 ht1
  cases fb_ with
  | true =>
    have FN := Lib.hid (HO.out _ 1 _ (by omega) (HR.out.ext EX3.out) (HC.out.trans (Chg.of_ext EX3.out) (fun _ _ h => h)))
    clear hj
    go_wp2
    go_ret
    exact ⟨⟨_, rfl⟩, FN.out⟩
  | false =>
  have SEC := Lib.hid (fun (W : World) => (show Calls Tryz.prog 68 #[.int .i64 a] W fun e w' => e = .returned (.int .i64 (secs a)) ∧ W = w' from rsect_any a W (by have := HA6.out; omega)))
  have ST := Lib.hid (fun (W : World) (r : RRep W g R1 F (k + 1)) => rstamp_all g R1 F (k + 1) W r (by omega))
  unfold ptr at ST
  go_wp2_with fail
  clear d1 d2 d3 d4 d5 cX33
  refine wp_region_held (S := Chg (fun i => i = g) w3.drew) (by kernel_rfl) ?_
  change wpAnyH _ _ _ _ _ _ _ _ w3.drew
  have S0 : Chg (fun i => i = g) w3.drew w3.drew := Chg.refl _ _
  have C0 := Lib.hid (show Chg (fun i => i = g) w1 w3.drew from Chg.of_ext (EX3.out.trans (Ext.drew w3)))
  have rr := HR.out.ext (EX3.out.trans (Ext.drew w3))
  have HGB := Lib.hid (show g < Base w3.drew from rr.cell.lt)
  have hgb : g < Base w3.drew := HGB.out
  have HXBB := Lib.hid (show xb < Base w3.drew from HAX3.out.lt)
  have HXK := Lib.hid (fun (w' : World) (hw' : Chg (fun i => i = g) w3.drew w') => HX.out.keep (HR.out.apart (C0.out.trans hw' (fun _ _ h => h))))
  have AXK := Lib.hid (fun (w' : World) (hw' : Chg (fun i => i = g) w3.drew w') => hw'.at (HAX3.out.ext (Ext.drew w3)) HGX.out)
  have GL := Lib.hid (show ∀ (W : World) (xv : Nat) (dB : Option Addr) (cB : Nat) (dC : Option Addr) (cC : Nat), Chg (fun i => i = g) w3.drew W → RRep W g { R1 with last := R1.last + 1 } F (k + 1 + 1) → At W xv #[.int .i64 0, .int .i64 0, .int .u64 0, .slice none 0 0, .slice none 0 0, .slice none 0 0] 106 → Base w3.drew ≤ xv →
      ByV W (.slice dB a cB) a → (∀ i, (Value.slice dB a cB).ownBlock = some i → i ≠ xv) → ByV W (.slice dC a cC) a → (∀ i, (Value.slice dC a cC).ownBlock = some i → i ≠ xv) →
      At (W.setCells xv 0 (#[.int .i64 1, .int .i64 mt, .int .u64 (R1.last + 1), .slice dB a cB, .slice dC a cC, .slice none 0 0] : Array Value).toList) xv #[.int .i64 1, .int .i64 mt, .int .u64 (R1.last + 1), .slice dB a cB, .slice dC a cC, .slice none 0 0] 106 ∧ RRep (W.setCells xv 0 (#[.int .i64 1, .int .i64 mt, .int .u64 (R1.last + 1), .slice dB a cB, .slice dC a cC, .slice none 0 0] : Array Value).toList) g { R1 with last := R1.last + 1 } F (k + 1 + 1) ∧ ByV (W.setCells xv 0 (#[.int .i64 1, .int .i64 mt, .int .u64 (R1.last + 1), .slice dB a cB, .slice dC a cC, .slice none 0 0] : Array Value).toList) (.slice dB a cB) a ∧ ByV (W.setCells xv 0 (#[.int .i64 1, .int .i64 mt, .int .u64 (R1.last + 1), .slice dB a cB, .slice dC a cC, .slice none 0 0] : Array Value).toList) (.slice dC a cC) a ∧ Chg (fun i => i = g) w1 (W.setCells xv 0 (#[.int .i64 1, .int .i64 mt, .int .u64 (R1.last + 1), .slice dB a cB, .slice dC a cC, .slice none 0 0] : Array Value).toList) ∧ Chg (fun i => i = g) w3.drew (W.setCells xv 0 (#[.int .i64 1, .int .i64 mt, .int .u64 (R1.last + 1), .slice dB a cB, .slice dC a cC, .slice none 0 0] : Array Value).toList) from by
    intro W xv dB cB dC cC cw rw_ av_ hxv rB nB rC nC
    have hat : At (W.setCells xv 0 (#[.int .i64 1, .int .i64 mt, .int .u64 (R1.last + 1), .slice dB a cB, .slice dC a cC, .slice none 0 0] : Array Value).toList) xv #[.int .i64 1, .int .i64 mt, .int .u64 (R1.last + 1), .slice dB a cB, .slice dC a cC, .slice none 0 0] 106 := At.sets (#[.int .i64 1, .int .i64 mt, .int .u64 (R1.last + 1), .slice dB a cB, .slice dC a cC, .slice none 0 0] : Array Value).toList 0 W #[.int .i64 0, .int .i64 0, .int .u64 0, .slice none 0 0, .slice none 0 0, .slice none 0 0] av_ (Nat.le_refl 6)
    have se := Chg.sets xv (#[.int .i64 1, .int .i64 mt, .int .u64 (R1.last + 1), .slice dB a cB, .slice dC a cC, .slice none 0 0] : Array Value).toList 0 W
    have hb1 : w1.heap.size ≤ Base w3.drew := C0.out.size
    have hgx : ¬ g = xv := by have := HGB.out; omega
    have cw3 : Chg (fun i => i = g) w3.drew (W.setCells xv 0 (#[.int .i64 1, .int .i64 mt, .int .u64 (R1.last + 1), .slice dB a cB, .slice dC a cC, .slice none 0 0] : Array Value).toList) := cw.trans se (fun i hi q_ => by unfold Base at hxv; omega)
    exact ⟨hat, rw_.keep (se.block g rw_.cell.lt hgx) (fun i hi => se.block i (rw_.lt i hi) (fun q_ => by have := HR.out.lt i hi; omega)) se.size, byv_chg rB se (fun i hi => nB i hi), byv_chg rC se (fun i hi => nC i hi), C0.out.trans cw3 (fun _ _ h => h), cw3⟩)
  generalize w3.drew = W0 at *
  unfold Base at hgb
  have FITB := Lib.hid (fun (W : World) (S : Chg (fun i => i = g) W0 W) => (rfit_v (HXK.out W S).b a HLIM.out.1 HA6.out).mono fun e w' he => (show ∃ v, e = .returned v ∧ ∃ d c, v = .slice d a c ∧ ByV w' (.slice d a c) a ∧ Ext W w' ∧ ∀ i, (Value.slice d a c).ownBlock = some i → W.heap.size ≤ i from by
    obtain ⟨v', e1, h1, h2, h3⟩ := he; obtain ⟨l_, hl_, hr_⟩ := h1; obtain ⟨d_, c_, rfl, -⟩ := hr_.shape; exact ⟨_, e1, d_, c_, rfl, ⟨l_, hl_, hr_⟩, h2, h3⟩))
  have FITC := Lib.hid (fun (W : World) (S : Chg (fun i => i = g) W0 W) => (rfit_v (HXK.out W S).s a HLIM.out.1 HA6.out).mono fun e w' he => (show ∃ v, e = .returned v ∧ ∃ d c, v = .slice d a c ∧ ByV w' (.slice d a c) a ∧ Ext W w' ∧ ∀ i, (Value.slice d a c).ownBlock = some i → W.heap.size ≤ i from by
    obtain ⟨v', e1, h1, h2, h3⟩ := he; obtain ⟨l_, hl_, hr_⟩ := h1; obtain ⟨d_, c_, rfl, -⟩ := hr_.shape; exact ⟨_, e1, d_, c_, rfl, ⟨l_, hl_, hr_⟩, h2, h3⟩))
  refine takeS 0 (some 92) (.pointer (some ⟨xb, 0, none⟩)) rfl rfl (by kernel_rfl) (by kernel_rfl) (by kernel_rfl) (fun _ _ _ h => h) rfl S0 (fun w' hw' => by go_simp) ?_
  simp only [Act.put, List.setIfInBounds_toArray, List.set_cons_zero, List.set_cons_succ]
  refine takeS 1 (some 93) (.int .i64 1) rfl rfl (by kernel_rfl) (by kernel_rfl) (by kernel_rfl) (fun _ _ _ h => h) rfl S0 (fun w' hw' => by have c0 := (AXK.out w' hw').cell 0; go_simp) ?_
  simp only [Act.put, List.setIfInBounds_toArray, List.set_cons_zero, List.set_cons_succ]
  refine takeS 2 (some 94) (.pointer (some ⟨xb, 1, none⟩)) rfl rfl (by kernel_rfl) (by kernel_rfl) (by kernel_rfl) (fun _ _ _ h => h) rfl S0 (fun w' hw' => by go_simp) ?_
  simp only [Act.put, List.setIfInBounds_toArray, List.set_cons_zero, List.set_cons_succ]
  refine takeS 3 (some 95) (.int .i64 mt) rfl rfl (by kernel_rfl) (by kernel_rfl) (by kernel_rfl) (fun _ _ _ h => h) rfl S0 (fun w' hw' => by have c0 := (AXK.out w' hw').cell 1; go_simp) ?_
  simp only [Act.put, List.setIfInBounds_toArray, List.set_cons_zero, List.set_cons_succ]
  refine takeS 4 (some 96) (.pointer (some ⟨g, 0, none⟩)) rfl rfl (by kernel_rfl) (by kernel_rfl) (by kernel_rfl) (fun _ _ _ h => h) rfl S0 (fun w' hw' => by go_simp) ?_
  simp only [Act.put, List.setIfInBounds_toArray, List.set_cons_zero, List.set_cons_succ]
  refine takeS 6 (some 98) (.pointer (some ⟨xb, 3, none⟩)) rfl rfl (by kernel_rfl) (by kernel_rfl) (by kernel_rfl) (fun _ _ _ h => h) rfl S0 (fun w' hw' => by go_simp) ?_
  simp only [Act.put, List.setIfInBounds_toArray, List.set_cons_zero, List.set_cons_succ]
  refine takeS 7 (some 99) (.slice db n cb) rfl rfl (by kernel_rfl) (by kernel_rfl) (by kernel_rfl) (fun _ _ _ h => h) rfl S0 (fun w' hw' => by have c0 := (AXK.out w' hw').cell 3; go_simp) ?_
  simp only [Act.put, List.setIfInBounds_toArray, List.set_cons_zero, List.set_cons_succ]
  refine takeS 8 (some 100) (.int .i64 a) rfl rfl (by kernel_rfl) (by kernel_rfl) (by kernel_rfl) (fun _ _ _ h => h) rfl S0 (fun w' hw' => by go_simp) ?_
  simp only [Act.put, List.setIfInBounds_toArray, List.set_cons_zero, List.set_cons_succ]
  refine takeS 10 (some 102) (.pointer (some ⟨xb, 4, none⟩)) rfl rfl (by kernel_rfl) (by kernel_rfl) (by kernel_rfl) (fun _ _ _ h => h) rfl S0 (fun w' hw' => by go_simp) ?_
  simp only [Act.put, List.setIfInBounds_toArray, List.set_cons_zero, List.set_cons_succ]
  refine takeS 11 (some 103) (.slice ds n cs) rfl rfl (by kernel_rfl) (by kernel_rfl) (by kernel_rfl) (fun _ _ _ h => h) rfl S0 (fun w' hw' => by have c0 := (AXK.out w' hw').cell 4; go_simp) ?_
  simp only [Act.put, List.setIfInBounds_toArray, List.set_cons_zero, List.set_cons_succ]
  refine takeS 12 (some 104) (.int .i64 a) rfl rfl (by kernel_rfl) (by kernel_rfl) (by kernel_rfl) (fun _ _ _ h => h) rfl S0 (fun w' hw' => by go_simp) ?_
  simp only [Act.put, List.setIfInBounds_toArray, List.set_cons_zero, List.set_cons_succ]
  refine name_goal fun Z hZ => ?_
  have H301 : ∀ (y1 y4 y5 y6 y7 y8 y9 y10 y16 y17 y18 y19 y20 y21 y22 y23 y24 y25 y26 y27 y28 y29 y30 y31 y32 y33 y34 y35 y36 y37 y38 y39 y40 y41 y42 y43 y44 y45 y46 y47 y48 y49 y50 y51 y52 y53 y54 y55 y56 y57 y58 y59 y60 y61 y62 y63 y64 y65 y66 y67 y68 y69 y70 y71 y72 y73 y74 y75 y76 y77 y78 y79 y80 y81 y82 y83 y84 y85 y86 y87 y88 y89 y90 y91 : Value) (W : World) (S : Chg (fun i => i = g) W0 W) (rr : RRep W g { R1 with last := R1.last + 1 } F (k + 1 + 1)) (xv : Nat) (aV : At W xv #[.int .i64 0, .int .i64 0, .int .u64 0, .slice none 0 0, .slice none 0 0, .slice none 0 0] 106) (fV : Base W0 ≤ xv) (dB : Option Addr) (cB : Nat) (rB : ByV W (.slice dB a cB) a) (fB : ∀ i, (.slice dB a cB : Value).ownBlock = some i → Base W0 ≤ i) (neB : ∀ i, (.slice dB a cB : Value).ownBlock = some i → i ≠ xv) (dC : Option Addr) (cC : Nat) (rC : ByV W (.slice dC a cC) a) (fC : ∀ i, (.slice dC a cC : Value).ownBlock = some i → Base W0 ≤ i) (neC : ∀ i, (.slice dC a cC : Value).ownBlock = some i → i ≠ xv) (nBC : ∀ i, (.slice dC a cC : Value).ownBlock = some i → (.slice dB a cB : Value).ownBlock ≠ some i), Z 1 #[true, true, true, true, true, true, true, true, true, true, true, true, true, true, true, true, false] ⟨#[.pointer (some ⟨g, 0, none⟩), y1, .int .i64 oo, .slice adx nx capx, y4, y5, y6, y7, y8, y9, y10, .int .i64 q, .pointer (some ⟨xb, 0, none⟩), .int .i64 a, .int .i64 fm, .pointer (some ⟨xv, 0, none⟩), y16, y17, y18, y19, y20, y21, y22, y23, y24, y25, y26, y27, y28, y29, y30, y31, y32, y33, y34, y35, y36, y37, y38, y39, y40, y41, y42, y43, y44, y45, y46, y47, y48, y49, y50, y51, y52, y53, y54, y55, y56, y57, y58, y59, y60, y61, y62, y63, y64, y65, y66, y67, y68, y69, y70, y71, y72, y73, y74, y75, y76, y77, y78, y79, y80, y81, y82, y83, y84, y85, y86, y87, y88, y89, y90, y91, .pointer (some ⟨xb, 0, none⟩), .int .i64 1, .pointer (some ⟨xb, 1, none⟩), .int .i64 mt, .pointer (some ⟨g, 0, none⟩), .int .u64 (R1.last + 1), .pointer (some ⟨xb, 3, none⟩), .slice db n cb, .int .i64 a, .slice dB a cB, .pointer (some ⟨xb, 4, none⟩), .slice ds n cs, .int .i64 a, .slice dC a cC, .agg #[.int .i64 1, .int .i64 mt, .int .u64 (R1.last + 1), .slice dB a cB, .slice dC a cC, .slice none 0 0], undef, undef, undef, undef, undef, undef, undef, undef, undef, undef, undef, undef, undef, undef, undef, undef, undef, undef, undef, undef, undef, undef, undef, undef, undef, undef, undef, undef, undef, undef, undef, undef, undef, undef, undef, undef, undef, undef, undef, undef, undef, undef, undef, undef, undef, undef, undef, undef, undef, undef, undef, undef, undef, undef, undef, undef, undef, undef, undef], []⟩ W := by
    intro y1 y4 y5 y6 y7 y8 y9 y10 y16 y17 y18 y19 y20 y21 y22 y23 y24 y25 y26 y27 y28 y29 y30 y31 y32 y33 y34 y35 y36 y37 y38 y39 y40 y41 y42 y43 y44 y45 y46 y47 y48 y49 y50 y51 y52 y53 y54 y55 y56 y57 y58 y59 y60 y61 y62 y63 y64 y65 y66 y67 y68 y69 y70 y71 y72 y73 y74 y75 y76 y77 y78 y79 y80 y81 y82 y83 y84 y85 y86 y87 y88 y89 y90 y91 W S rr xv aV fV dB cB rB fB neB dC cC rC fC neC nBC
    rw [hZ]
    have SE_ := S.trans (Chg.sets xv (#[.int .i64 1, .int .i64 mt, .int .u64 (R1.last + 1), .slice dB a cB, .slice dC a cC, .slice none 0 0] : Array Value).toList 0 W) (fun i hi q_ => by have := fV; unfold Base at this; omega)
    have GG := GL.out W xv dB cB dC cC S rr aV fV rB neB rC neC
    refine nextS 16 rfl (by kernel_rfl) rfl (store_mid0 106 (.tmp 15) (.tmp 106) rfl rfl xv 0 #[.int .i64 1, .int .i64 mt, .int .u64 (R1.last + 1), .slice dB a cB, .slice dC a cC, .slice none 0 0] rfl rfl (at_there aV 0 6 (by decide)) (by exact size106) (by simp [Value.oneCell']) ?_)
    generalize W.setCells xv 0 (#[.int .i64 1, .int .i64 mt, .int .u64 (R1.last + 1), .slice dB a cB, .slice dC a cC, .slice none 0 0] : Array Value).toList = We at *
    refine ⟨SE_, ?_⟩
    refine wpAnyH_done (by kernel_rfl) ?_ _
    obtain ⟨aY, rre, rBe, rCe, cw1, cwb⟩ := GG
    have cY3 : We.cell? ⟨xv, 3, none⟩ = some (.slice dB a cB) := aY.cell 3
    have hcB : a ≤ cB ∧ (dB = none → cB = 0) ∧ (∀ p_, dB = some p_ → ∃ gb, p_ = ⟨gb, 0, none⟩) ∧ cB ≤ maxLen := by
      obtain ⟨l_, _, r_⟩ := rBe
      obtain ⟨_, _, e_, h1_, h2_, h3_, h4_⟩ := r_.shape
      injection e_ with e1_ _ e3_
      subst e1_ e3_
      exact ⟨h1_, fun q_ => (h3_ q_).2, fun p_ hp_ => (h4_ p_ hp_).imp fun _ q_ => q_.1, h2_⟩
    have HB2 := Lib.hid (HBX.out.1.chg (HC.out.trans cw1 (fun _ _ h => h)) HBX.out.2)
    have HRB := Lib.hid rBe
    have HAY := Lib.hid aY
    have HG2 := Lib.hid (And.intro rre (And.intro rCe (And.intro cw1 cwb)))
    have HFR := Lib.hid (And.intro fB (And.intro neB (And.intro nBC (And.intro fC neC))))
    have HFV := Lib.hid fV
    have hcm := hcB.2.2.2
    simp only [maxLen] at hcm
    have HCB := Lib.hid hcB
    have hle1 := hcB.1
    have hoT : oo + nx ≤ a := by have := HTA.out; omega
    clear aY rre rBe rCe cw1 cwb fB neB nBC fC neC fV hcB S rr aV rB rC SE_
    go_upto_region 20 with fail
    go_cut [107] from 107 to 112 (fun s107 wx => s107 = .pointer (some ⟨xv, 3, none⟩) ∧ ByV wx (.slice dB a cB) a ∧ Chg (fun i => (Value.slice dB a cB).ownBlock = some i) We wx)
    case first =>
      have s0 : (0 : Int) ≤ (oo : Int) := by omega
      have s1 : (oo : Int) ≤ (a : Int) := by omega
      have s2 : (a : Int) ≤ (cB : Int) := by omega
      have s3 : (oo : Int) ≤ (cB : Int) := by omega
      by_cases hk : cB = oo
      · obtain ⟨w', hc, h1, h2⟩ := copy_by HRB.out HB2.out (by rw [← HNX.out]; exact hoT) dB 0 0 (fun h => by rw [← HNX.out] at h; omega) (by rw [← HNX.out]; omega)
        rw [← HNX.out] at hc
        obtain rfl : a = oo := by omega
        subst hk
        have FN := Lib.hid (And.intro h1 h2)
        clear h1 h2
        go_wp2
        go_meet
        exact ⟨rfl, FN.out⟩
      · obtain ⟨gb, rfl⟩ : ∃ gb, dB = some ⟨gb, 0, none⟩ := by
          cases dB with
          | none => have := HCB.out.2.1 rfl; omega
          | some p_ => obtain ⟨gb, rfl⟩ := HCB.out.2.2.1 p_ rfl; exact ⟨gb, rfl⟩
        obtain ⟨w', hc, h1, h2⟩ := copy_by HRB.out HB2.out (by rw [← HNX.out]; exact hoT) (some ⟨gb, oo, none⟩) (a - oo) (cB - oo) (fun _ => ⟨gb, rfl, rfl⟩) (by rw [← HNX.out]; omega)
        rw [← HNX.out] at hc
        have FN := Lib.hid (And.intro h1 h2)
        clear h1 h2
        go_wp2
        go_meet
        exact ⟨rfl, FN.out⟩
    case rest =>
      obtain ⟨rfl, rB2, c2⟩ := hcut
      have aYc := c2.at HAY.out (fun q_ => HFR.out.2.1 xv q_ rfl)
      have nF : ∀ i, (Value.slice dB a cB).ownBlock = some i → ¬ F i ∧ ¬ i = g ∧ w1.heap.size ≤ i := fun i hi => by
        have h1_ := HFR.out.1 i hi
        have h2_ : w1.heap.size ≤ Base W0 := C0.out.size
        exact ⟨fun q_ => by have := HR.out.lt i q_; omega, fun q_ => by have := HGB.out; omega, by omega⟩
      have rrc := HG2.out.1.keep (c2.block g HG2.out.1.cell.lt (fun q_ => (nF g q_).2.1 rfl)) (fun i hi => c2.block i (HG2.out.1.lt i hi) (fun q_ => (nF i q_).1 hi)) c2.size
      have rCc := byv_chg HG2.out.2.1 c2 (fun i hi q_ => HFR.out.2.2.1 i hi q_)
      have c1c := HG2.out.2.2.1.trans c2 (fun i hi q_ => by have := (nF i q_).2.2; omega)
      have aXc := c2.at ((HG2.out.2.2.2).at (AXK.out W0 (Chg.refl _ _)) HGX.out) (fun q_ => by have := HFR.out.1 xb q_; have := HXBB.out; omega)
      have HLP := Lib.hid (And.intro aYc (And.intro rrc (And.intro rB2 (And.intro rCc (And.intro c1c aXc)))))
      have hwcs : Base W0 ≤ wc.heap.size := Nat.le_trans HG2.out.2.2.2.size c2.size
      have HWC := Lib.hid (show Base W0 ≤ wc.heap.size ∧ xv < wc.heap.size from ⟨hwcs, aYc.lt⟩)
      obtain ⟨sn, hsn⟩ : ∃ sn, sn = secs a := ⟨_, rfl⟩
      have hsn5 : sn ≤ 4096 := by have := HA6.out; rw [hsn]; unfold secs; omega
      rw [← hsn] at SEC
      have HSN := Lib.hid hsn
      have hm5 : m ≤ 5000 := HLIM.out.2.1
      have DC := Lib.hid (show ∀ wr, Chg (fun q_ => q_ = xv) wc wr → ∀ i, i < m → ∃ (ddb : Nat) (bb : Bool), dd = some ⟨ddb, 0, none⟩ ∧ wr.cell? ⟨ddb, i, none⟩ = some (.bool bb) from by
        intro wr hw i hi
        have hh := HX.out.keep (fun i_ hi_ => ((c1c.trans hw (fun i0_ h0_ q_ => by have h1_ : Base W0 ≤ xv := HFV.out; have h2_ : w1.heap.size ≤ Base W0 := C0.out.size; omega)).block i_ (HR.out.lt i_ hi_) (fun q_ => HR.out.ng (q_ ▸ hi_))))
        obtain ⟨l_, hl_, r_⟩ := hh.d
        simp only at hl_ r_
        obtain ⟨ddb, cc_, e_, -, -⟩ := Row.own r_ (by omega)
        injection e_ with e1_ _ e3_
        subst e1_ e3_
        have := (Row.cell r_ i (by omega)).1
        refine ⟨ddb, l_[i]'(by omega), rfl, ?_⟩
        rw [this]
        simp [bls, List.getElem?_eq_getElem (show i < l_.length by omega)])
      clear aYc nF rrc rB2 rCc c1c aXc c2 hwcs hsn cY3 hle1 hoT
      go_wp2
      go_loopw [16, 17, 18] (fun s16 s17 s18 wr => ∃ (i : Nat) (dD : Option Addr) (cD : Nat), i ≤ sn ∧ s16 = .int .i64 i ∧ At wr xv #[.int .i64 1, .int .i64 mt, .int .u64 (R1.last + 1), .slice dB a cB, .slice dC a cC, .slice dD i cD] 106 ∧ BlR wr (.slice dD i cD) i ∧ (∀ q_, (Value.slice dD i cD).ownBlock = some q_ → wc.heap.size ≤ q_) ∧ Chg (fun q_ => q_ = xv) wc wr) (fun s16 _ _ _ => sn - (intOf s16).toNat)
      case atStart => exact ⟨0, none, 0, by omega, rfl, HLP.out.1, ⟨[], rfl, World.ownsRow_nil _ _ _ _⟩, (fun q_ hq_ => by cases hq_), Chg.refl _ _⟩
      case round =>
        obtain ⟨i, dD, cD, hi, rfl, haY, hrD, hzD, hcw⟩ := hrel
        have aXr : At wr xb #[.int .i64 1, .int .i64 mt, .int .u64 st, .slice db n cb, .slice ds n cs, .slice dd m cd] 106 := hcw.at HLP.out.2.2.2.2.2 (fun q_ => by have h1_ : Base W0 ≤ xv := HFV.out; have := HXBB.out; omega)
        have cX5 : wr.cell? ⟨xb, 5, none⟩ = some (.slice dd m cd) := aXr.cell 5
        have cY5 : wr.cell? ⟨xv, 5, none⟩ = some (.slice dD i cD) := haY.cell 5
        have HIV := Lib.hid (And.intro haY (And.intro hrD (And.intro hzD hcw)))
        clear haY hrD hzD aXr
        by_cases hlt : i < sn
        · have AP := Lib.hid (show ∀ bv : Bool, ∃ (d4 : Option Addr) (c4 : Nat) (w4 : World), (Builtin.append_ #[69, 69] 69 #[.slice dD i cD, .slice (some ⟨wr.heap.size, 0, none⟩) 1 1]).run Tryz.prog (wr.alloc (.cells #[.bool bv] 4)) = .ok (.slice d4 (i + 1) c4) w4 ∧ w4.cell? ⟨xv, 5, none⟩ = some (.slice dD i cD) ∧ w4.frozen? ⟨xv, 5, none⟩ = false ∧
              ∃ (i' : Nat) (dD' : Option Addr) (cD' : Nat), i' ≤ sn ∧ (Value.int .i64 ((i : Int) + 1)) = .int .i64 i' ∧ At (w4.setCell ⟨xv, 5, none⟩ (.slice d4 (i + 1) c4)) xv #[.int .i64 1, .int .i64 mt, .int .u64 (R1.last + 1), .slice dB a cB, .slice dC a cC, .slice dD' i' cD'] 106 ∧ BlR (w4.setCell ⟨xv, 5, none⟩ (.slice d4 (i + 1) c4)) (.slice dD' i' cD') i' ∧ (∀ q_, (Value.slice dD' i' cD').ownBlock = some q_ → wc.heap.size ≤ q_) ∧ Chg (fun q_ => q_ = xv) wc (w4.setCell ⟨xv, 5, none⟩ (.slice d4 (i + 1) c4)) from by
            intro bv
            obtain ⟨d4, c4, w4, hrun, h1_, h2_, h3_⟩ := bool_more wr HIV.out.2.1 bv (by omega)
            have hxl := HWC.out.2
            have hne : ∀ q_, (Value.slice dD i cD).ownBlock = some q_ → ¬ q_ = xv := fun q_ hq_ => by have := HIV.out.2.2.1 q_ hq_; omega
            have a4 := h3_.at HIV.out.1 (fun q_ => hne xv q_ rfl)
            have hz4 : ∀ q_, (Value.slice d4 (i + 1) c4).ownBlock = some q_ → wc.heap.size ≤ q_ := fun q_ hq_ => by
              rcases h2_ q_ hq_ with u | u
              · exact HIV.out.2.2.1 q_ u
              · have := HIV.out.2.2.2.size; omega
            have s5 := Chg.setCell w4 xv 5 (.slice d4 (i + 1) c4)
            exact ⟨d4, c4, w4, hrun, a4.cell 5, a4.frozen 5, i + 1, d4, c4, by omega, by rw [Int.natCast_add]; rfl, a4.set 5 _, blr_chg h1_ s5 (fun q_ hq_ e => by have := hz4 q_ hq_; omega), hz4, (HIV.out.2.2.2.trans h3_ (fun q_ hq_ u => by have := HIV.out.2.2.1 q_ u; omega)).trans s5 (fun _ _ h => h)⟩)
          have DCi := Lib.hid (DC.out wr hcw i)
          obtain ⟨A, hA⟩ : ∃ A, A = i * 16 := ⟨_, rfl⟩
          obtain ⟨A2, hA2⟩ : ∃ A2, A2 = (i + 1) * 16 := ⟨_, rfl⟩
          have e1_ : (i : Int) * 16 = (A : Int) := by omega
          have e2_ : ((i : Int) + 1) * 16 = (A2 : Int) := by omega
          have l1_ : A2 ≤ 100000 := by omega
          have l2_ : A ≤ 100000 := by omega
          have i0_ : (0 : Int) ≤ (i : Int) := by omega
          clear hA hA2 hcw HIV DC
          go_wp2_with fail
          refine (SEC.out _).mono ?_
          rintro e w' ⟨rfl, rfl⟩
          by_cases him : i < m
          · obtain ⟨ddb, bb, hdd, cbb⟩ := DCi.out him
            subst hdd
            have i1_ : (i : Int) < (m : Int) := by omega
            clear DCi
            cases bb with
            | true =>
              cases t1 : decide (fm < T) with
              | false =>
                obtain ⟨d4, c4, w4, hrun, k5, z5, hinv⟩ := AP.out true
                have R1x := Lib.hid hrun
                have FI := Lib.hid hinv
                clear hrun hinv AP
                go_wp2_with (at_builtin; refine Lib.wpList_append_run _ rfl _ _ _ _ rfl _ _ rfl rfl _ _ R1x.out ?_)
                exact ⟨FI.out, by (try simp [intOf]); omega⟩
              | true =>
                cases t2 : decide (A < T) with
                | false =>
                  obtain ⟨d4, c4, w4, hrun, k5, z5, hinv⟩ := AP.out true
                  have R1x := Lib.hid hrun
                  have FI := Lib.hid hinv
                  clear hrun hinv AP
                  go_wp2_with (at_builtin; refine Lib.wpList_append_run _ rfl _ _ _ _ rfl _ _ rfl rfl _ _ R1x.out ?_)
                  exact ⟨FI.out, by (try simp [intOf]); omega⟩
                | true =>
                  cases t3 : decide (fm < A2) with
                  | false =>
                    obtain ⟨d4, c4, w4, hrun, k5, z5, hinv⟩ := AP.out true
                    have R1x := Lib.hid hrun
                    have FI := Lib.hid hinv
                    clear hrun hinv AP
                    go_wp2_with (at_builtin; refine Lib.wpList_append_run _ rfl _ _ _ _ rfl _ _ rfl rfl _ _ R1x.out ?_)
                    exact ⟨FI.out, by (try simp [intOf]); omega⟩
                  | true =>
                    obtain ⟨d4, c4, w4, hrun, k5, z5, hinv⟩ := AP.out true
                    have R1x := Lib.hid hrun
                    have FI := Lib.hid hinv
                    clear hrun hinv AP
                    go_wp2_with (at_builtin; refine Lib.wpList_append_run _ rfl _ _ _ _ rfl _ _ rfl rfl _ _ R1x.out ?_)
                    exact ⟨FI.out, by (try simp [intOf]); omega⟩
            | false =>
              cases t1 : decide (fm < T) with
              | false =>
                obtain ⟨d4, c4, w4, hrun, k5, z5, hinv⟩ := AP.out false
                have R1x := Lib.hid hrun
                have FI := Lib.hid hinv
                clear hrun hinv AP
                go_wp2_with (at_builtin; refine Lib.wpList_append_run _ rfl _ _ _ _ rfl _ _ rfl rfl _ _ R1x.out ?_)
                exact ⟨FI.out, by (try simp [intOf]); omega⟩
              | true =>
                cases t2 : decide (A < T) with
                | false =>
                  obtain ⟨d4, c4, w4, hrun, k5, z5, hinv⟩ := AP.out false
                  have R1x := Lib.hid hrun
                  have FI := Lib.hid hinv
                  clear hrun hinv AP
                  go_wp2_with (at_builtin; refine Lib.wpList_append_run _ rfl _ _ _ _ rfl _ _ rfl rfl _ _ R1x.out ?_)
                  exact ⟨FI.out, by (try simp [intOf]); omega⟩
                | true =>
                  cases t3 : decide (fm < A2) with
                  | false =>
                    obtain ⟨d4, c4, w4, hrun, k5, z5, hinv⟩ := AP.out false
                    have R1x := Lib.hid hrun
                    have FI := Lib.hid hinv
                    clear hrun hinv AP
                    go_wp2_with (at_builtin; refine Lib.wpList_append_run _ rfl _ _ _ _ rfl _ _ rfl rfl _ _ R1x.out ?_)
                    exact ⟨FI.out, by (try simp [intOf]); omega⟩
                  | true =>
                    obtain ⟨d4, c4, w4, hrun, k5, z5, hinv⟩ := AP.out true
                    have R1x := Lib.hid hrun
                    have FI := Lib.hid hinv
                    clear hrun hinv AP
                    go_wp2_with (at_builtin; refine Lib.wpList_append_run _ rfl _ _ _ _ rfl _ _ rfl rfl _ _ R1x.out ?_)
                    exact ⟨FI.out, by (try simp [intOf]); omega⟩
          · have g1_ : decide (i < m) = false := decide_eq_false him
            have g2_ : decide ((i : Int) < (m : Int)) = false := decide_eq_false (by omega)
            clear DCi him
            cases t1 : decide (fm < T) with
            | false =>
              obtain ⟨d4, c4, w4, hrun, k5, z5, hinv⟩ := AP.out false
              have R1x := Lib.hid hrun
              have FI := Lib.hid hinv
              clear hrun hinv AP
              go_wp2_with (at_builtin; refine Lib.wpList_append_run _ rfl _ _ _ _ rfl _ _ rfl rfl _ _ R1x.out ?_)
              exact ⟨FI.out, by (try simp [intOf]); omega⟩
            | true =>
              cases t2 : decide (A < T) with
              | false =>
                obtain ⟨d4, c4, w4, hrun, k5, z5, hinv⟩ := AP.out false
                have R1x := Lib.hid hrun
                have FI := Lib.hid hinv
                clear hrun hinv AP
                go_wp2_with (at_builtin; refine Lib.wpList_append_run _ rfl _ _ _ _ rfl _ _ rfl rfl _ _ R1x.out ?_)
                exact ⟨FI.out, by (try simp [intOf]); omega⟩
              | true =>
                cases t3 : decide (fm < A2) with
                | false =>
                  obtain ⟨d4, c4, w4, hrun, k5, z5, hinv⟩ := AP.out false
                  have R1x := Lib.hid hrun
                  have FI := Lib.hid hinv
                  clear hrun hinv AP
                  go_wp2_with (at_builtin; refine Lib.wpList_append_run _ rfl _ _ _ _ rfl _ _ rfl rfl _ _ R1x.out ?_)
                  exact ⟨FI.out, by (try simp [intOf]); omega⟩
                | true =>
                  obtain ⟨d4, c4, w4, hrun, k5, z5, hinv⟩ := AP.out true
                  have R1x := Lib.hid hrun
                  have FI := Lib.hid hinv
                  clear hrun hinv AP
                  go_wp2_with (at_builtin; refine Lib.wpList_append_run _ rfl _ _ _ _ rfl _ _ rfl rfl _ _ R1x.out ?_)
                  exact ⟨FI.out, by (try simp [intOf]); omega⟩
        · obtain rfl : i = sn := by omega
          have hxg : ¬ xv = g := by have h1_ : Base W0 ≤ xv := HFV.out; have := HGB.out; omega
          have hxw : w1.heap.size ≤ xv := by have h1_ : Base W0 ≤ xv := HFV.out; have h2_ : w1.heap.size ≤ Base W0 := C0.out.size; omega
          have rr8 := HLP.out.2.1.keep (hcw.block g HLP.out.2.1.cell.lt (fun q_ => hxg q_.symm)) (fun i_ hi_ => hcw.block i_ (HLP.out.2.1.lt i_ hi_) (fun q_ => by have := HR.out.lt i_ hi_; omega)) hcw.size
          have c18 := HLP.out.2.2.2.2.1.trans hcw (fun i_ hi_ q_ => by omega)
          have b0 : w1.heap.size ≤ Base W0 := C0.out.size
          have rB8 := byv_chg HLP.out.2.2.1 hcw (fun i_ hi_ => HFR.out.2.1 i_ hi_)
          have rC8 := byv_chg HLP.out.2.2.2.1 hcw (fun i_ hi_ => HFR.out.2.2.2.2 i_ hi_)
          have r9 := rr8.grow (G := fun i_ => F i_ ∨ (w1.heap.size ≤ i_ ∧ i_ < wr.heap.size ∧ i_ ≠ g)) (fun i_ hi_ => Or.inl hi_) (fun i_ hi_ => hi_.elim (fun q_ => rr8.lt i_ q_) (fun q_ => q_.2.1)) (fun q_ => q_.elim (fun q_ => HR.out.ng q_) (fun q_ => q_.2.2 rfl))
          have x8 : RFIn wr (fun i_ => F i_ ∨ (w1.heap.size ≤ i_ ∧ i_ < wr.heap.size ∧ i_ ≠ g)) ⟨1, mt, R1.last + 1, .slice dB a cB, .slice dC a cC, .slice dD i cD, a, i⟩ :=
            ⟨rB8, rC8, HIV.out.2.1, by rw [HSN.out]; exact Nat.le_refl _, HA6.out, by show i ≤ 5000; omega,
              fun i_ hi_ => Or.inr ⟨Nat.le_trans b0 (HFR.out.1 i_ hi_), byv_lt rB8 i_ hi_, fun e => by have := HFR.out.1 i_ hi_; have := HGB.out; omega⟩, fun i_ hi_ => Or.inr ⟨Nat.le_trans b0 (HFR.out.2.2.2.1 i_ hi_), byv_lt rC8 i_ hi_, fun e => by have := HFR.out.2.2.2.1 i_ hi_; have := HGB.out; omega⟩,
              fun i_ hi_ => Or.inr ⟨by have := HIV.out.2.2.1 i_ hi_; have := HWC.out.1; omega, blr_lt HIV.out.2.1 i_ hi_, fun e => by have := HIV.out.2.2.1 i_ hi_; have := HWC.out.1; have := HGB.out; omega⟩⟩
          have NXT := Lib.hid ((rset_any g { R1 with last := R1.last + 1 } _ (k + 1 + 1) q ⟨1, mt, R1.last + 1, .slice dB a cB, .slice dC a cC, .slice dD i cD, a, i⟩ _ r9 (by omega) (by show q < R1.files.length; rw [← HMM.out]; exact hq) x8).mono fun e w' he => (show e = .returned (.tuple #[]) ∧ RPost w g F (k + 10) w' from by
            obtain ⟨h1_, h2_⟩ := he
            refine ⟨h1_, ?_⟩
            obtain ⟨R8, F8, r8, c8, l8⟩ := RPost.trans (HC.out.trans c18 (fun _ _ h => h)) h2_
            exact ⟨R8, F8, r8.up (by omega), c8, fun i_ hi_ => (l8 i_ hi_).elim (fun q_ => q_.imp id fun u => Nat.le_trans HC.out.size u.1) Or.inr⟩))
          unfold ptr at NXT
          have k0 := HIV.out.1.cell 0
          have k1 := HIV.out.1.cell 1
          have k2 := HIV.out.1.cell 2
          have k3 := HIV.out.1.cell 3
          have k4 := HIV.out.1.cell 4
          have k5 := HIV.out.1.cell 5
          clear hxg hxw rr8 c18 b0 rB8 rC8 r9 x8 hcw hlt cX5 cY5
          go_wp2_with fail
          refine (SEC.out _).mono ?_
          rintro e w' ⟨rfl, rfl⟩
          go_wp2_with fail
          refine (NXT.out).mono ?_
          rintro e_ w8 ⟨rfl, p8⟩
          have P8 := Lib.hid p8
          clear p8 k0 k1 k2 k3 k4 k5
          go_wp2
          go_ret
          exact ⟨⟨_, rfl⟩, P8.out⟩
  have H300 : ∀ (y1 y4 y5 y6 y7 y8 y9 y10 y16 y17 y18 y19 y20 y21 y22 y23 y24 y25 y26 y27 y28 y29 y30 y31 y32 y33 y34 y35 y36 y37 y38 y39 y40 y41 y42 y43 y44 y45 y46 y47 y48 y49 y50 y51 y52 y53 y54 y55 y56 y57 y58 y59 y60 y61 y62 y63 y64 y65 y66 y67 y68 y69 y70 y71 y72 y73 y74 y75 y76 y77 y78 y79 y80 y81 y82 y83 y84 y85 y86 y87 y88 y89 y90 y91 : Value) (W : World) (S : Chg (fun i => i = g) W0 W) (rr : RRep W g { R1 with last := R1.last + 1 } F (k + 1 + 1)) (dB : Option Addr) (cB : Nat) (rB : ByV W (.slice dB a cB) a) (fB : ∀ i, (.slice dB a cB : Value).ownBlock = some i → Base W0 ≤ i) (dC : Option Addr) (cC : Nat) (rC : ByV W (.slice dC a cC) a) (fC : ∀ i, (.slice dC a cC : Value).ownBlock = some i → Base W0 ≤ i) (nBC : ∀ i, (.slice dC a cC : Value).ownBlock = some i → (.slice dB a cB : Value).ownBlock ≠ some i), Z 2 #[true, true, true, true, true, true, true, true, true, true, true, true, true, true, true, false, false] ⟨#[.pointer (some ⟨g, 0, none⟩), y1, .int .i64 oo, .slice adx nx capx, y4, y5, y6, y7, y8, y9, y10, .int .i64 q, .pointer (some ⟨xb, 0, none⟩), .int .i64 a, .int .i64 fm, undef, y16, y17, y18, y19, y20, y21, y22, y23, y24, y25, y26, y27, y28, y29, y30, y31, y32, y33, y34, y35, y36, y37, y38, y39, y40, y41, y42, y43, y44, y45, y46, y47, y48, y49, y50, y51, y52, y53, y54, y55, y56, y57, y58, y59, y60, y61, y62, y63, y64, y65, y66, y67, y68, y69, y70, y71, y72, y73, y74, y75, y76, y77, y78, y79, y80, y81, y82, y83, y84, y85, y86, y87, y88, y89, y90, y91, .pointer (some ⟨xb, 0, none⟩), .int .i64 1, .pointer (some ⟨xb, 1, none⟩), .int .i64 mt, .pointer (some ⟨g, 0, none⟩), .int .u64 (R1.last + 1), .pointer (some ⟨xb, 3, none⟩), .slice db n cb, .int .i64 a, .slice dB a cB, .pointer (some ⟨xb, 4, none⟩), .slice ds n cs, .int .i64 a, .slice dC a cC, .agg #[.int .i64 1, .int .i64 mt, .int .u64 (R1.last + 1), .slice dB a cB, .slice dC a cC, .slice none 0 0], undef, undef, undef, undef, undef, undef, undef, undef, undef, undef, undef, undef, undef, undef, undef, undef, undef, undef, undef, undef, undef, undef, undef, undef, undef, undef, undef, undef, undef, undef, undef, undef, undef, undef, undef, undef, undef, undef, undef, undef, undef, undef, undef, undef, undef, undef, undef, undef, undef, undef, undef, undef, undef, undef, undef, undef, undef, undef, undef], []⟩ W := by
    intro y1 y4 y5 y6 y7 y8 y9 y10 y16 y17 y18 y19 y20 y21 y22 y23 y24 y25 y26 y27 y28 y29 y30 y31 y32 y33 y34 y35 y36 y37 y38 y39 y40 y41 y42 y43 y44 y45 y46 y47 y48 y49 y50 y51 y52 y53 y54 y55 y56 y57 y58 y59 y60 y61 y62 y63 y64 y65 y66 y67 y68 y69 y70 y71 y72 y73 y74 y75 y76 y77 y78 y79 y80 y81 y82 y83 y84 y85 y86 y87 y88 y89 y90 y91 W S rr dB cB rB fB dC cC rC fC nBC
    rw [hZ]
    refine nextS 15 rfl (by kernel_rfl) rfl (makeR (some 15) rfl (.pointer (some ⟨W.heap.size, 0, none⟩)) (w1 := W.alloc (.cells #[.int .i64 0, .int .i64 0, .int .u64 0, .slice none 0 0, .slice none 0 0, .slice none 0 0] 106)) (by go_simp) ?_)
    simp only [Act.put, List.setIfInBounds_toArray, List.set_cons_zero, List.set_cons_succ]
    have x_ : Ext W (W.alloc (.cells #[.int .i64 0, .int .i64 0, .int .u64 0, .slice none 0 0, .slice none 0 0, .slice none 0 0] 106)) := Ext.alloc W _
    have aV := At.new W #[.int .i64 0, .int .i64 0, .int .u64 0, .slice none 0 0, .slice none 0 0, .slice none 0 0] 106
    have fV : Base W0 ≤ W.heap.size := S.size
    have neB : ∀ i, (.slice dB a cB : Value).ownBlock = some i → i ≠ W.heap.size := fun i hi => by have := byv_lt rB i hi; omega
    have neC : ∀ i, (.slice dC a cC : Value).ownBlock = some i → i ≠ W.heap.size := fun i hi => by have := byv_lt rC i hi; omega
    have rr' := rr.ext x_
    have rB' := byv_ext rB x_
    have rC' := byv_ext rC x_
    have S' := S.trans (Chg.of_ext (X := fun i => i = g) x_) (fun _ _ h => h)
    refine ⟨S', ?_⟩
    rw [← hZ]
    exact H301 _ _ _ _ _ _ _ _ _ _ _ _ _ _ _ _ _ _ _ _ _ _ _ _ _ _ _ _ _ _ _ _ _ _ _ _ _ _ _ _ _ _ _ _ _ _ _ _ _ _ _ _ _ _ _ _ _ _ _ _ _ _ _ _ _ _ _ _ _ _ _ _ _ _ _ _ _ _ _ _ _ _ _ _ (W.alloc (.cells #[.int .i64 0, .int .i64 0, .int .u64 0, .slice none 0 0, .slice none 0 0, .slice none 0 0] 106)) S' rr' W.heap.size aV fV dB cB rB' fB neB dC cC rC' fC neC nBC
  have H201 : ∀ (y1 y4 y5 y6 y7 y8 y9 y10 y16 y17 y18 y19 y20 y21 y22 y23 y24 y25 y26 y27 y28 y29 y30 y31 y32 y33 y34 y35 y36 y37 y38 y39 y40 y41 y42 y43 y44 y45 y46 y47 y48 y49 y50 y51 y52 y53 y54 y55 y56 y57 y58 y59 y60 y61 y62 y63 y64 y65 y66 y67 y68 y69 y70 y71 y72 y73 y74 y75 y76 y77 y78 y79 y80 y81 y82 y83 y84 y85 y86 y87 y88 y89 y90 y91 : Value) (W : World) (S : Chg (fun i => i = g) W0 W) (rr : RRep W g { R1 with last := R1.last + 1 } F (k + 1 + 1)) (xv : Nat) (aV : At W xv #[.int .i64 0, .int .i64 0, .int .u64 0, .slice none 0 0, .slice none 0 0, .slice none 0 0] 106) (fV : Base W0 ≤ xv) (dB : Option Addr) (cB : Nat) (rB : ByV W (.slice dB a cB) a) (fB : ∀ i, (.slice dB a cB : Value).ownBlock = some i → Base W0 ≤ i) (neB : ∀ i, (.slice dB a cB : Value).ownBlock = some i → i ≠ xv), Z 3 #[true, true, true, true, true, true, true, true, true, true, true, true, true, false, false, true, false] ⟨#[.pointer (some ⟨g, 0, none⟩), y1, .int .i64 oo, .slice adx nx capx, y4, y5, y6, y7, y8, y9, y10, .int .i64 q, .pointer (some ⟨xb, 0, none⟩), .int .i64 a, .int .i64 fm, .pointer (some ⟨xv, 0, none⟩), y16, y17, y18, y19, y20, y21, y22, y23, y24, y25, y26, y27, y28, y29, y30, y31, y32, y33, y34, y35, y36, y37, y38, y39, y40, y41, y42, y43, y44, y45, y46, y47, y48, y49, y50, y51, y52, y53, y54, y55, y56, y57, y58, y59, y60, y61, y62, y63, y64, y65, y66, y67, y68, y69, y70, y71, y72, y73, y74, y75, y76, y77, y78, y79, y80, y81, y82, y83, y84, y85, y86, y87, y88, y89, y90, y91, .pointer (some ⟨xb, 0, none⟩), .int .i64 1, .pointer (some ⟨xb, 1, none⟩), .int .i64 mt, .pointer (some ⟨g, 0, none⟩), .int .u64 (R1.last + 1), .pointer (some ⟨xb, 3, none⟩), .slice db n cb, .int .i64 a, .slice dB a cB, .pointer (some ⟨xb, 4, none⟩), .slice ds n cs, .int .i64 a, undef, undef, undef, undef, undef, undef, undef, undef, undef, undef, undef, undef, undef, undef, undef, undef, undef, undef, undef, undef, undef, undef, undef, undef, undef, undef, undef, undef, undef, undef, undef, undef, undef, undef, undef, undef, undef, undef, undef, undef, undef, undef, undef, undef, undef, undef, undef, undef, undef, undef, undef, undef, undef, undef, undef, undef, undef, undef, undef, undef, undef], []⟩ W := by
    intro y1 y4 y5 y6 y7 y8 y9 y10 y16 y17 y18 y19 y20 y21 y22 y23 y24 y25 y26 y27 y28 y29 y30 y31 y32 y33 y34 y35 y36 y37 y38 y39 y40 y41 y42 y43 y44 y45 y46 y47 y48 y49 y50 y51 y52 y53 y54 y55 y56 y57 y58 y59 y60 y61 y62 y63 y64 y65 y66 y67 y68 y69 y70 y71 y72 y73 y74 y75 y76 y77 y78 y79 y80 y81 y82 y83 y84 y85 y86 y87 y88 y89 y90 y91 W S rr xv aV fV dB cB rB fB neB
    rw [hZ]
    refine nextS 13 rfl (by kernel_rfl) rfl (callS (some 105) rfl 67 #[.slice ds n cs, .int .i64 a] (by go_simp) (fun v w' => ∃ d c, v = .slice d a c ∧ ByV w' (.slice d a c) a ∧ Ext W w' ∧ ∀ i, (Value.slice d a c).ownBlock = some i → W.heap.size ≤ i) (FITC.out W S) ?_)
    rintro v_ W' ⟨dC, cC, rfl, rC', x_, ff_⟩
    simp only [Act.put, List.setIfInBounds_toArray, List.set_cons_zero, List.set_cons_succ]
    have fC : ∀ i, (.slice dC a cC : Value).ownBlock = some i → Base W0 ≤ i := fun i hi => by have := ff_ i hi; have h_ := S.size; unfold Base; omega
    have neC : ∀ i, (.slice dC a cC : Value).ownBlock = some i → i ≠ xv := fun i hi => by have := ff_ i hi; have := aV.lt; omega
    have nBC : ∀ i, (.slice dC a cC : Value).ownBlock = some i → (.slice dB a cB : Value).ownBlock ≠ some i := fun i hi q_ => by have := ff_ i hi; have := byv_lt rB i q_; omega
    have rr' := rr.ext x_
    have aV' := aV.ext x_
    have rB' := byv_ext rB x_
    have S' := S.trans (Chg.of_ext (X := fun i => i = g) x_) (fun _ _ h => h)
    refine ⟨S', ?_⟩
    refine takeS 14 (some 106) (.agg #[.int .i64 1, .int .i64 mt, .int .u64 (R1.last + 1), .slice dB a cB, .slice dC a cC, .slice none 0 0]) rfl rfl (by kernel_rfl) (by kernel_rfl) (by kernel_rfl) (fun _ _ _ h => h) rfl S' (fun w' hw' => by go_simp) ?_
    simp only [Act.put, List.setIfInBounds_toArray, List.set_cons_zero, List.set_cons_succ]
    rw [← hZ]
    exact H301 _ _ _ _ _ _ _ _ _ _ _ _ _ _ _ _ _ _ _ _ _ _ _ _ _ _ _ _ _ _ _ _ _ _ _ _ _ _ _ _ _ _ _ _ _ _ _ _ _ _ _ _ _ _ _ _ _ _ _ _ _ _ _ _ _ _ _ _ _ _ _ _ _ _ _ _ _ _ _ _ _ _ _ _ W' S' rr' xv aV' fV dB cB rB' fB neB dC cC rC' fC neC nBC
  have H200 : ∀ (y1 y4 y5 y6 y7 y8 y9 y10 y16 y17 y18 y19 y20 y21 y22 y23 y24 y25 y26 y27 y28 y29 y30 y31 y32 y33 y34 y35 y36 y37 y38 y39 y40 y41 y42 y43 y44 y45 y46 y47 y48 y49 y50 y51 y52 y53 y54 y55 y56 y57 y58 y59 y60 y61 y62 y63 y64 y65 y66 y67 y68 y69 y70 y71 y72 y73 y74 y75 y76 y77 y78 y79 y80 y81 y82 y83 y84 y85 y86 y87 y88 y89 y90 y91 : Value) (W : World) (S : Chg (fun i => i = g) W0 W) (rr : RRep W g { R1 with last := R1.last + 1 } F (k + 1 + 1)) (dB : Option Addr) (cB : Nat) (rB : ByV W (.slice dB a cB) a) (fB : ∀ i, (.slice dB a cB : Value).ownBlock = some i → Base W0 ≤ i), Z 4 #[true, true, true, true, true, true, true, true, true, true, true, true, true, false, false, false, false] ⟨#[.pointer (some ⟨g, 0, none⟩), y1, .int .i64 oo, .slice adx nx capx, y4, y5, y6, y7, y8, y9, y10, .int .i64 q, .pointer (some ⟨xb, 0, none⟩), .int .i64 a, .int .i64 fm, undef, y16, y17, y18, y19, y20, y21, y22, y23, y24, y25, y26, y27, y28, y29, y30, y31, y32, y33, y34, y35, y36, y37, y38, y39, y40, y41, y42, y43, y44, y45, y46, y47, y48, y49, y50, y51, y52, y53, y54, y55, y56, y57, y58, y59, y60, y61, y62, y63, y64, y65, y66, y67, y68, y69, y70, y71, y72, y73, y74, y75, y76, y77, y78, y79, y80, y81, y82, y83, y84, y85, y86, y87, y88, y89, y90, y91, .pointer (some ⟨xb, 0, none⟩), .int .i64 1, .pointer (some ⟨xb, 1, none⟩), .int .i64 mt, .pointer (some ⟨g, 0, none⟩), .int .u64 (R1.last + 1), .pointer (some ⟨xb, 3, none⟩), .slice db n cb, .int .i64 a, .slice dB a cB, .pointer (some ⟨xb, 4, none⟩), .slice ds n cs, .int .i64 a, undef, undef, undef, undef, undef, undef, undef, undef, undef, undef, undef, undef, undef, undef, undef, undef, undef, undef, undef, undef, undef, undef, undef, undef, undef, undef, undef, undef, undef, undef, undef, undef, undef, undef, undef, undef, undef, undef, undef, undef, undef, undef, undef, undef, undef, undef, undef, undef, undef, undef, undef, undef, undef, undef, undef, undef, undef, undef, undef, undef, undef], []⟩ W := by
    intro y1 y4 y5 y6 y7 y8 y9 y10 y16 y17 y18 y19 y20 y21 y22 y23 y24 y25 y26 y27 y28 y29 y30 y31 y32 y33 y34 y35 y36 y37 y38 y39 y40 y41 y42 y43 y44 y45 y46 y47 y48 y49 y50 y51 y52 y53 y54 y55 y56 y57 y58 y59 y60 y61 y62 y63 y64 y65 y66 y67 y68 y69 y70 y71 y72 y73 y74 y75 y76 y77 y78 y79 y80 y81 y82 y83 y84 y85 y86 y87 y88 y89 y90 y91 W S rr dB cB rB fB
    rw [hZ]
    refine nextR2 13 15 rfl rfl (by kernel_rfl) rfl rfl ?_ ?_
    · skip
      refine (callS (some 105) rfl 67 #[.slice ds n cs, .int .i64 a] (by go_simp) (fun v w' => ∃ d c, v = .slice d a c ∧ ByV w' (.slice d a c) a ∧ Ext W w' ∧ ∀ i, (Value.slice d a c).ownBlock = some i → W.heap.size ≤ i) (FITC.out W S) ?_)
      rintro v_ W' ⟨dC, cC, rfl, rC', x_, ff_⟩
      simp only [Act.put, List.setIfInBounds_toArray, List.set_cons_zero, List.set_cons_succ]
      have fC : ∀ i, (.slice dC a cC : Value).ownBlock = some i → Base W0 ≤ i := fun i hi => by have := ff_ i hi; have h_ := S.size; unfold Base; omega
      have nBC : ∀ i, (.slice dC a cC : Value).ownBlock = some i → (.slice dB a cB : Value).ownBlock ≠ some i := fun i hi q_ => by have := ff_ i hi; have := byv_lt rB i q_; omega
      have rr' := rr.ext x_
      have rB' := byv_ext rB x_
      have S' := S.trans (Chg.of_ext (X := fun i => i = g) x_) (fun _ _ h => h)
      refine ⟨S', ?_⟩
      refine takeS 14 (some 106) (.agg #[.int .i64 1, .int .i64 mt, .int .u64 (R1.last + 1), .slice dB a cB, .slice dC a cC, .slice none 0 0]) rfl rfl (by kernel_rfl) (by kernel_rfl) (by kernel_rfl) (fun _ _ _ h => h) rfl S' (fun w' hw' => by go_simp) ?_
      simp only [Act.put, List.setIfInBounds_toArray, List.set_cons_zero, List.set_cons_succ]
      rw [← hZ]
      exact H300 _ _ _ _ _ _ _ _ _ _ _ _ _ _ _ _ _ _ _ _ _ _ _ _ _ _ _ _ _ _ _ _ _ _ _ _ _ _ _ _ _ _ _ _ _ _ _ _ _ _ _ _ _ _ _ _ _ _ _ _ _ _ _ _ _ _ _ _ _ _ _ _ _ _ _ _ _ _ _ _ _ _ _ _ W' S' rr' dB cB rB' fB dC cC rC' fC nBC
    · skip
      refine (makeR (some 15) rfl (.pointer (some ⟨W.heap.size, 0, none⟩)) (w1 := W.alloc (.cells #[.int .i64 0, .int .i64 0, .int .u64 0, .slice none 0 0, .slice none 0 0, .slice none 0 0] 106)) (by go_simp) ?_)
      simp only [Act.put, List.setIfInBounds_toArray, List.set_cons_zero, List.set_cons_succ]
      have x_ : Ext W (W.alloc (.cells #[.int .i64 0, .int .i64 0, .int .u64 0, .slice none 0 0, .slice none 0 0, .slice none 0 0] 106)) := Ext.alloc W _
      have aV := At.new W #[.int .i64 0, .int .i64 0, .int .u64 0, .slice none 0 0, .slice none 0 0, .slice none 0 0] 106
      have fV : Base W0 ≤ W.heap.size := S.size
      have neB : ∀ i, (.slice dB a cB : Value).ownBlock = some i → i ≠ W.heap.size := fun i hi => by have := byv_lt rB i hi; omega
      have rr' := rr.ext x_
      have rB' := byv_ext rB x_
      have S' := S.trans (Chg.of_ext (X := fun i => i = g) x_) (fun _ _ h => h)
      refine ⟨S', ?_⟩
      rw [← hZ]
      exact H201 _ _ _ _ _ _ _ _ _ _ _ _ _ _ _ _ _ _ _ _ _ _ _ _ _ _ _ _ _ _ _ _ _ _ _ _ _ _ _ _ _ _ _ _ _ _ _ _ _ _ _ _ _ _ _ _ _ _ _ _ _ _ _ _ _ _ _ _ _ _ _ _ _ _ _ _ _ _ _ _ _ _ _ _ (W.alloc (.cells #[.int .i64 0, .int .i64 0, .int .u64 0, .slice none 0 0, .slice none 0 0, .slice none 0 0] 106)) S' rr' W.heap.size aV fV dB cB rB' fB neB
  have H101 : ∀ (y1 y4 y5 y6 y7 y8 y9 y10 y16 y17 y18 y19 y20 y21 y22 y23 y24 y25 y26 y27 y28 y29 y30 y31 y32 y33 y34 y35 y36 y37 y38 y39 y40 y41 y42 y43 y44 y45 y46 y47 y48 y49 y50 y51 y52 y53 y54 y55 y56 y57 y58 y59 y60 y61 y62 y63 y64 y65 y66 y67 y68 y69 y70 y71 y72 y73 y74 y75 y76 y77 y78 y79 y80 y81 y82 y83 y84 y85 y86 y87 y88 y89 y90 y91 : Value) (W : World) (S : Chg (fun i => i = g) W0 W) (rr : RRep W g { R1 with last := R1.last + 1 } F (k + 1 + 1)) (xv : Nat) (aV : At W xv #[.int .i64 0, .int .i64 0, .int .u64 0, .slice none 0 0, .slice none 0 0, .slice none 0 0] 106) (fV : Base W0 ≤ xv), Z 4 #[true, true, true, true, true, true, true, true, true, false, true, true, true, false, false, true, false] ⟨#[.pointer (some ⟨g, 0, none⟩), y1, .int .i64 oo, .slice adx nx capx, y4, y5, y6, y7, y8, y9, y10, .int .i64 q, .pointer (some ⟨xb, 0, none⟩), .int .i64 a, .int .i64 fm, .pointer (some ⟨xv, 0, none⟩), y16, y17, y18, y19, y20, y21, y22, y23, y24, y25, y26, y27, y28, y29, y30, y31, y32, y33, y34, y35, y36, y37, y38, y39, y40, y41, y42, y43, y44, y45, y46, y47, y48, y49, y50, y51, y52, y53, y54, y55, y56, y57, y58, y59, y60, y61, y62, y63, y64, y65, y66, y67, y68, y69, y70, y71, y72, y73, y74, y75, y76, y77, y78, y79, y80, y81, y82, y83, y84, y85, y86, y87, y88, y89, y90, y91, .pointer (some ⟨xb, 0, none⟩), .int .i64 1, .pointer (some ⟨xb, 1, none⟩), .int .i64 mt, .pointer (some ⟨g, 0, none⟩), .int .u64 (R1.last + 1), .pointer (some ⟨xb, 3, none⟩), .slice db n cb, .int .i64 a, undef, .pointer (some ⟨xb, 4, none⟩), .slice ds n cs, .int .i64 a, undef, undef, undef, undef, undef, undef, undef, undef, undef, undef, undef, undef, undef, undef, undef, undef, undef, undef, undef, undef, undef, undef, undef, undef, undef, undef, undef, undef, undef, undef, undef, undef, undef, undef, undef, undef, undef, undef, undef, undef, undef, undef, undef, undef, undef, undef, undef, undef, undef, undef, undef, undef, undef, undef, undef, undef, undef, undef, undef, undef, undef], []⟩ W := by
    intro y1 y4 y5 y6 y7 y8 y9 y10 y16 y17 y18 y19 y20 y21 y22 y23 y24 y25 y26 y27 y28 y29 y30 y31 y32 y33 y34 y35 y36 y37 y38 y39 y40 y41 y42 y43 y44 y45 y46 y47 y48 y49 y50 y51 y52 y53 y54 y55 y56 y57 y58 y59 y60 y61 y62 y63 y64 y65 y66 y67 y68 y69 y70 y71 y72 y73 y74 y75 y76 y77 y78 y79 y80 y81 y82 y83 y84 y85 y86 y87 y88 y89 y90 y91 W S rr xv aV fV
    rw [hZ]
    refine nextS 9 rfl (by kernel_rfl) rfl (callS (some 101) rfl 67 #[.slice db n cb, .int .i64 a] (by go_simp) (fun v w' => ∃ d c, v = .slice d a c ∧ ByV w' (.slice d a c) a ∧ Ext W w' ∧ ∀ i, (Value.slice d a c).ownBlock = some i → W.heap.size ≤ i) (FITB.out W S) ?_)
    rintro v_ W' ⟨dB, cB, rfl, rB', x_, ff_⟩
    simp only [Act.put, List.setIfInBounds_toArray, List.set_cons_zero, List.set_cons_succ]
    have fB : ∀ i, (.slice dB a cB : Value).ownBlock = some i → Base W0 ≤ i := fun i hi => by have := ff_ i hi; have h_ := S.size; unfold Base; omega
    have neB : ∀ i, (.slice dB a cB : Value).ownBlock = some i → i ≠ xv := fun i hi => by have := ff_ i hi; have := aV.lt; omega
    have rr' := rr.ext x_
    have aV' := aV.ext x_
    have S' := S.trans (Chg.of_ext (X := fun i => i = g) x_) (fun _ _ h => h)
    refine ⟨S', ?_⟩
    rw [← hZ]
    exact H201 _ _ _ _ _ _ _ _ _ _ _ _ _ _ _ _ _ _ _ _ _ _ _ _ _ _ _ _ _ _ _ _ _ _ _ _ _ _ _ _ _ _ _ _ _ _ _ _ _ _ _ _ _ _ _ _ _ _ _ _ _ _ _ _ _ _ _ _ _ _ _ _ _ _ _ _ _ _ _ _ _ _ _ _ W' S' rr' xv aV' fV dB cB rB' fB neB
  have H100 : ∀ (y1 y4 y5 y6 y7 y8 y9 y10 y16 y17 y18 y19 y20 y21 y22 y23 y24 y25 y26 y27 y28 y29 y30 y31 y32 y33 y34 y35 y36 y37 y38 y39 y40 y41 y42 y43 y44 y45 y46 y47 y48 y49 y50 y51 y52 y53 y54 y55 y56 y57 y58 y59 y60 y61 y62 y63 y64 y65 y66 y67 y68 y69 y70 y71 y72 y73 y74 y75 y76 y77 y78 y79 y80 y81 y82 y83 y84 y85 y86 y87 y88 y89 y90 y91 : Value) (W : World) (S : Chg (fun i => i = g) W0 W) (rr : RRep W g { R1 with last := R1.last + 1 } F (k + 1 + 1)), Z 5 #[true, true, true, true, true, true, true, true, true, false, true, true, true, false, false, false, false] ⟨#[.pointer (some ⟨g, 0, none⟩), y1, .int .i64 oo, .slice adx nx capx, y4, y5, y6, y7, y8, y9, y10, .int .i64 q, .pointer (some ⟨xb, 0, none⟩), .int .i64 a, .int .i64 fm, undef, y16, y17, y18, y19, y20, y21, y22, y23, y24, y25, y26, y27, y28, y29, y30, y31, y32, y33, y34, y35, y36, y37, y38, y39, y40, y41, y42, y43, y44, y45, y46, y47, y48, y49, y50, y51, y52, y53, y54, y55, y56, y57, y58, y59, y60, y61, y62, y63, y64, y65, y66, y67, y68, y69, y70, y71, y72, y73, y74, y75, y76, y77, y78, y79, y80, y81, y82, y83, y84, y85, y86, y87, y88, y89, y90, y91, .pointer (some ⟨xb, 0, none⟩), .int .i64 1, .pointer (some ⟨xb, 1, none⟩), .int .i64 mt, .pointer (some ⟨g, 0, none⟩), .int .u64 (R1.last + 1), .pointer (some ⟨xb, 3, none⟩), .slice db n cb, .int .i64 a, undef, .pointer (some ⟨xb, 4, none⟩), .slice ds n cs, .int .i64 a, undef, undef, undef, undef, undef, undef, undef, undef, undef, undef, undef, undef, undef, undef, undef, undef, undef, undef, undef, undef, undef, undef, undef, undef, undef, undef, undef, undef, undef, undef, undef, undef, undef, undef, undef, undef, undef, undef, undef, undef, undef, undef, undef, undef, undef, undef, undef, undef, undef, undef, undef, undef, undef, undef, undef, undef, undef, undef, undef, undef, undef], []⟩ W := by
    intro y1 y4 y5 y6 y7 y8 y9 y10 y16 y17 y18 y19 y20 y21 y22 y23 y24 y25 y26 y27 y28 y29 y30 y31 y32 y33 y34 y35 y36 y37 y38 y39 y40 y41 y42 y43 y44 y45 y46 y47 y48 y49 y50 y51 y52 y53 y54 y55 y56 y57 y58 y59 y60 y61 y62 y63 y64 y65 y66 y67 y68 y69 y70 y71 y72 y73 y74 y75 y76 y77 y78 y79 y80 y81 y82 y83 y84 y85 y86 y87 y88 y89 y90 y91 W S rr
    rw [hZ]
    refine nextR2 9 15 rfl rfl (by kernel_rfl) rfl rfl ?_ ?_
    · skip
      refine (callS (some 101) rfl 67 #[.slice db n cb, .int .i64 a] (by go_simp) (fun v w' => ∃ d c, v = .slice d a c ∧ ByV w' (.slice d a c) a ∧ Ext W w' ∧ ∀ i, (Value.slice d a c).ownBlock = some i → W.heap.size ≤ i) (FITB.out W S) ?_)
      rintro v_ W' ⟨dB, cB, rfl, rB', x_, ff_⟩
      simp only [Act.put, List.setIfInBounds_toArray, List.set_cons_zero, List.set_cons_succ]
      have fB : ∀ i, (.slice dB a cB : Value).ownBlock = some i → Base W0 ≤ i := fun i hi => by have := ff_ i hi; have h_ := S.size; unfold Base; omega
      have rr' := rr.ext x_
      have S' := S.trans (Chg.of_ext (X := fun i => i = g) x_) (fun _ _ h => h)
      refine ⟨S', ?_⟩
      rw [← hZ]
      exact H200 _ _ _ _ _ _ _ _ _ _ _ _ _ _ _ _ _ _ _ _ _ _ _ _ _ _ _ _ _ _ _ _ _ _ _ _ _ _ _ _ _ _ _ _ _ _ _ _ _ _ _ _ _ _ _ _ _ _ _ _ _ _ _ _ _ _ _ _ _ _ _ _ _ _ _ _ _ _ _ _ _ _ _ _ W' S' rr' dB cB rB' fB
    · skip
      refine (makeR (some 15) rfl (.pointer (some ⟨W.heap.size, 0, none⟩)) (w1 := W.alloc (.cells #[.int .i64 0, .int .i64 0, .int .u64 0, .slice none 0 0, .slice none 0 0, .slice none 0 0] 106)) (by go_simp) ?_)
      simp only [Act.put, List.setIfInBounds_toArray, List.set_cons_zero, List.set_cons_succ]
      have x_ : Ext W (W.alloc (.cells #[.int .i64 0, .int .i64 0, .int .u64 0, .slice none 0 0, .slice none 0 0, .slice none 0 0] 106)) := Ext.alloc W _
      have aV := At.new W #[.int .i64 0, .int .i64 0, .int .u64 0, .slice none 0 0, .slice none 0 0, .slice none 0 0] 106
      have fV : Base W0 ≤ W.heap.size := S.size
      have rr' := rr.ext x_
      have S' := S.trans (Chg.of_ext (X := fun i => i = g) x_) (fun _ _ h => h)
      refine ⟨S', ?_⟩
      rw [← hZ]
      exact H101 _ _ _ _ _ _ _ _ _ _ _ _ _ _ _ _ _ _ _ _ _ _ _ _ _ _ _ _ _ _ _ _ _ _ _ _ _ _ _ _ _ _ _ _ _ _ _ _ _ _ _ _ _ _ _ _ _ _ _ _ _ _ _ _ _ _ _ _ _ _ _ _ _ _ _ _ _ _ _ _ _ _ _ _ (W.alloc (.cells #[.int .i64 0, .int .i64 0, .int .u64 0, .slice none 0 0, .slice none 0 0, .slice none 0 0] 106)) S' rr' W.heap.size aV fV
  have H001 : ∀ (y1 y4 y5 y6 y7 y8 y9 y10 y16 y17 y18 y19 y20 y21 y22 y23 y24 y25 y26 y27 y28 y29 y30 y31 y32 y33 y34 y35 y36 y37 y38 y39 y40 y41 y42 y43 y44 y45 y46 y47 y48 y49 y50 y51 y52 y53 y54 y55 y56 y57 y58 y59 y60 y61 y62 y63 y64 y65 y66 y67 y68 y69 y70 y71 y72 y73 y74 y75 y76 y77 y78 y79 y80 y81 y82 y83 y84 y85 y86 y87 y88 y89 y90 y91 : Value) (W : World) (S : Chg (fun i => i = g) W0 W) (rr : RRep W g R1 F (k + 1)) (xv : Nat) (aV : At W xv #[.int .i64 0, .int .i64 0, .int .u64 0, .slice none 0 0, .slice none 0 0, .slice none 0 0] 106) (fV : Base W0 ≤ xv), Z 5 #[true, true, true, true, true, false, true, true, true, false, true, true, true, false, false, true, false] ⟨#[.pointer (some ⟨g, 0, none⟩), y1, .int .i64 oo, .slice adx nx capx, y4, y5, y6, y7, y8, y9, y10, .int .i64 q, .pointer (some ⟨xb, 0, none⟩), .int .i64 a, .int .i64 fm, .pointer (some ⟨xv, 0, none⟩), y16, y17, y18, y19, y20, y21, y22, y23, y24, y25, y26, y27, y28, y29, y30, y31, y32, y33, y34, y35, y36, y37, y38, y39, y40, y41, y42, y43, y44, y45, y46, y47, y48, y49, y50, y51, y52, y53, y54, y55, y56, y57, y58, y59, y60, y61, y62, y63, y64, y65, y66, y67, y68, y69, y70, y71, y72, y73, y74, y75, y76, y77, y78, y79, y80, y81, y82, y83, y84, y85, y86, y87, y88, y89, y90, y91, .pointer (some ⟨xb, 0, none⟩), .int .i64 1, .pointer (some ⟨xb, 1, none⟩), .int .i64 mt, .pointer (some ⟨g, 0, none⟩), undef, .pointer (some ⟨xb, 3, none⟩), .slice db n cb, .int .i64 a, undef, .pointer (some ⟨xb, 4, none⟩), .slice ds n cs, .int .i64 a, undef, undef, undef, undef, undef, undef, undef, undef, undef, undef, undef, undef, undef, undef, undef, undef, undef, undef, undef, undef, undef, undef, undef, undef, undef, undef, undef, undef, undef, undef, undef, undef, undef, undef, undef, undef, undef, undef, undef, undef, undef, undef, undef, undef, undef, undef, undef, undef, undef, undef, undef, undef, undef, undef, undef, undef, undef, undef, undef, undef, undef], []⟩ W := by
    intro y1 y4 y5 y6 y7 y8 y9 y10 y16 y17 y18 y19 y20 y21 y22 y23 y24 y25 y26 y27 y28 y29 y30 y31 y32 y33 y34 y35 y36 y37 y38 y39 y40 y41 y42 y43 y44 y45 y46 y47 y48 y49 y50 y51 y52 y53 y54 y55 y56 y57 y58 y59 y60 y61 y62 y63 y64 y65 y66 y67 y68 y69 y70 y71 y72 y73 y74 y75 y76 y77 y78 y79 y80 y81 y82 y83 y84 y85 y86 y87 y88 y89 y90 y91 W S rr xv aV fV
    rw [hZ]
    refine nextS 5 rfl (by kernel_rfl) rfl (callS (some 97) rfl 64 #[.pointer (some ⟨g, 0, none⟩)] (by go_simp) (fun v w' => v = .int .u64 (R1.last + 1) ∧ RRep w' g { R1 with last := R1.last + 1 } F (k + 1 + 1) ∧ Chg (fun i => i = g) W w') ((ST.out W rr).mono fun e w' he => ⟨_, he.1, rfl, he.2⟩) ?_)
    rintro v_ W' ⟨rfl, rr', c'⟩
    simp only [Act.put, List.setIfInBounds_toArray, List.set_cons_zero, List.set_cons_succ]
    have aV' := c'.at aV (fun e => by have := fV; unfold Base at this; omega)
    have S' := S.trans c' (fun _ _ h => h)
    refine ⟨S', ?_⟩
    rw [← hZ]
    exact H101 _ _ _ _ _ _ _ _ _ _ _ _ _ _ _ _ _ _ _ _ _ _ _ _ _ _ _ _ _ _ _ _ _ _ _ _ _ _ _ _ _ _ _ _ _ _ _ _ _ _ _ _ _ _ _ _ _ _ _ _ _ _ _ _ _ _ _ _ _ _ _ _ _ _ _ _ _ _ _ _ _ _ _ _ W' S' rr' xv aV' fV
  have H000 : ∀ (y1 y4 y5 y6 y7 y8 y9 y10 y16 y17 y18 y19 y20 y21 y22 y23 y24 y25 y26 y27 y28 y29 y30 y31 y32 y33 y34 y35 y36 y37 y38 y39 y40 y41 y42 y43 y44 y45 y46 y47 y48 y49 y50 y51 y52 y53 y54 y55 y56 y57 y58 y59 y60 y61 y62 y63 y64 y65 y66 y67 y68 y69 y70 y71 y72 y73 y74 y75 y76 y77 y78 y79 y80 y81 y82 y83 y84 y85 y86 y87 y88 y89 y90 y91 : Value) (W : World) (S : Chg (fun i => i = g) W0 W) (rr : RRep W g R1 F (k + 1)), Z 6 #[true, true, true, true, true, false, true, true, true, false, true, true, true, false, false, false, false] ⟨#[.pointer (some ⟨g, 0, none⟩), y1, .int .i64 oo, .slice adx nx capx, y4, y5, y6, y7, y8, y9, y10, .int .i64 q, .pointer (some ⟨xb, 0, none⟩), .int .i64 a, .int .i64 fm, undef, y16, y17, y18, y19, y20, y21, y22, y23, y24, y25, y26, y27, y28, y29, y30, y31, y32, y33, y34, y35, y36, y37, y38, y39, y40, y41, y42, y43, y44, y45, y46, y47, y48, y49, y50, y51, y52, y53, y54, y55, y56, y57, y58, y59, y60, y61, y62, y63, y64, y65, y66, y67, y68, y69, y70, y71, y72, y73, y74, y75, y76, y77, y78, y79, y80, y81, y82, y83, y84, y85, y86, y87, y88, y89, y90, y91, .pointer (some ⟨xb, 0, none⟩), .int .i64 1, .pointer (some ⟨xb, 1, none⟩), .int .i64 mt, .pointer (some ⟨g, 0, none⟩), undef, .pointer (some ⟨xb, 3, none⟩), .slice db n cb, .int .i64 a, undef, .pointer (some ⟨xb, 4, none⟩), .slice ds n cs, .int .i64 a, undef, undef, undef, undef, undef, undef, undef, undef, undef, undef, undef, undef, undef, undef, undef, undef, undef, undef, undef, undef, undef, undef, undef, undef, undef, undef, undef, undef, undef, undef, undef, undef, undef, undef, undef, undef, undef, undef, undef, undef, undef, undef, undef, undef, undef, undef, undef, undef, undef, undef, undef, undef, undef, undef, undef, undef, undef, undef, undef, undef, undef], []⟩ W := by
    intro y1 y4 y5 y6 y7 y8 y9 y10 y16 y17 y18 y19 y20 y21 y22 y23 y24 y25 y26 y27 y28 y29 y30 y31 y32 y33 y34 y35 y36 y37 y38 y39 y40 y41 y42 y43 y44 y45 y46 y47 y48 y49 y50 y51 y52 y53 y54 y55 y56 y57 y58 y59 y60 y61 y62 y63 y64 y65 y66 y67 y68 y69 y70 y71 y72 y73 y74 y75 y76 y77 y78 y79 y80 y81 y82 y83 y84 y85 y86 y87 y88 y89 y90 y91 W S rr
    rw [hZ]
    refine nextR2 5 15 rfl rfl (by kernel_rfl) rfl rfl ?_ ?_
    · skip
      refine (callS (some 97) rfl 64 #[.pointer (some ⟨g, 0, none⟩)] (by go_simp) (fun v w' => v = .int .u64 (R1.last + 1) ∧ RRep w' g { R1 with last := R1.last + 1 } F (k + 1 + 1) ∧ Chg (fun i => i = g) W w') ((ST.out W rr).mono fun e w' he => ⟨_, he.1, rfl, he.2⟩) ?_)
      rintro v_ W' ⟨rfl, rr', c'⟩
      simp only [Act.put, List.setIfInBounds_toArray, List.set_cons_zero, List.set_cons_succ]
      have S' := S.trans c' (fun _ _ h => h)
      refine ⟨S', ?_⟩
      rw [← hZ]
      exact H100 _ _ _ _ _ _ _ _ _ _ _ _ _ _ _ _ _ _ _ _ _ _ _ _ _ _ _ _ _ _ _ _ _ _ _ _ _ _ _ _ _ _ _ _ _ _ _ _ _ _ _ _ _ _ _ _ _ _ _ _ _ _ _ _ _ _ _ _ _ _ _ _ _ _ _ _ _ _ _ _ _ _ _ _ W' S' rr'
    · skip
      refine (makeR (some 15) rfl (.pointer (some ⟨W.heap.size, 0, none⟩)) (w1 := W.alloc (.cells #[.int .i64 0, .int .i64 0, .int .u64 0, .slice none 0 0, .slice none 0 0, .slice none 0 0] 106)) (by go_simp) ?_)
      simp only [Act.put, List.setIfInBounds_toArray, List.set_cons_zero, List.set_cons_succ]
      have x_ : Ext W (W.alloc (.cells #[.int .i64 0, .int .i64 0, .int .u64 0, .slice none 0 0, .slice none 0 0, .slice none 0 0] 106)) := Ext.alloc W _
      have aV := At.new W #[.int .i64 0, .int .i64 0, .int .u64 0, .slice none 0 0, .slice none 0 0, .slice none 0 0] 106
      have fV : Base W0 ≤ W.heap.size := S.size
      have rr' := rr.ext x_
      have S' := S.trans (Chg.of_ext (X := fun i => i = g) x_) (fun _ _ h => h)
      refine ⟨S', ?_⟩
      rw [← hZ]
      exact H001 _ _ _ _ _ _ _ _ _ _ _ _ _ _ _ _ _ _ _ _ _ _ _ _ _ _ _ _ _ _ _ _ _ _ _ _ _ _ _ _ _ _ _ _ _ _ _ _ _ _ _ _ _ _ _ _ _ _ _ _ _ _ _ _ _ _ _ _ _ _ _ _ _ _ _ _ _ _ _ _ _ _ _ _ (W.alloc (.cells #[.int .i64 0, .int .i64 0, .int .u64 0, .slice none 0 0, .slice none 0 0, .slice none 0 0] 106)) S' rr' W.heap.size aV fV
  exact H000 _ _ _ _ _ _ _ _ _ _ _ _ _ _ _ _ _ _ _ _ _ _ _ _ _ _ _ _ _ _ _ _ _ _ _ _ _ _ _ _ _ _ _ _ _ _ _ _ _ _ _ _ _ _ _ _ _ _ _ _ _ _ _ _ _ _ _ _ _ _ _ _ _ _ _ _ _ _ _ _ _ _ _ _ W0 S0 rr
end Go.Proofs.YtbneedmfpldpfaaGreatDoor
