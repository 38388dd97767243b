/- Contracts of the document's own store: names, set, whatever it holds. Contract of the document's own set, whatever the store holds. -/
import Derived.Test.YtbneedmfpldpfaaGreatDoorBgM
import Derived.Deep.MidRow
set_option linter.unusedSimpArgs false
set_option linter.unusedVariables false
namespace Go.Proofs.YtbneedmfpldpfaaGreatDoor
open Go.RowKit Go.Pth

/-- New names, and acts, of the store. -/
theorem RRep.renames {w w' : World} {g : Nat} {R : RV} {F : Nat → Prop} {k k' : Nat} (h : RRep w g R F k) (c : Chg (fun i => i = g) w w') {va vn : Value} {na : Nat} {xs : List Value} {m : List Nm}
    (hc : At w' g (rsc { R with ac := va, acts := na, av := xs, nw := vn, names := m }) 62) (ha : Row w' 109 4 va na xs) (ha1 : ∀ u ∈ xs, u.oneCell' = true) (fa : ∀ i, va.ownBlock = some i → w.heap.size ≤ i) (hn : Row w' 111 2 vn m.length (rns m)) (fn : ∀ i, vn.ownBlock = some i → w.heap.size ≤ i)
    (hq : ∀ x ∈ m, valid x.1 = true ∧ x.2 < R.files.length) (hk : k ≤ k') (hna : na ≤ k') (hm : m.length ≤ k') : RPost w g F k' w' := by
  have hb := h.apart c
  have hg := h.cell.lt
  refine ⟨{ R with ac := va, acts := na, av := xs, nw := vn, names := m }, fun i => F i ∨ (w.heap.size ≤ i ∧ i < w'.heap.size), ⟨hc, h.fr.keep fun i hi => hb i (h.gf i hi), hn, ha, ha1, h.s1, fun f hf => ((h.ff f hf).keep hb).mono fun i hi => Or.inl hi, fun x hx => (hq x hx).2, fun x hx => (hq x hx).1, fun i hi => Or.inl (h.gf i hi), fun i hi => Or.inr ⟨fn i hi, hn.lt i hi⟩, fun i hi => Or.inr ⟨fa i hi, ha.lt i hi⟩, ?_, ?_, Nat.le_trans h.lf hk, hm, hna, ⟨h.lc.1, Int.le_trans h.lc.2 (Int.ofNat_le.2 hk)⟩, ⟨h.lk.1, Int.le_trans h.lk.2 (Int.ofNat_le.2 hk)⟩⟩, c, fun i hi => hi.imp id fun q => q.1⟩
  · intro i hi
    rcases hi with hi | hi
    · exact Nat.lt_of_lt_of_le (h.lt i hi) c.size
    · exact hi.2
  · intro hi
    rcases hi with hi | hi
    · exact h.ng hi
    · omega
/-- New files of the store. -/
theorem RRep.refiles {w w' : World} {g : Nat} {R : RV} {F : Nat → Prop} {k k' : Nat} (h : RRep w g R F k) (c : Chg (fun i => i = g) w w') {vf : Value} {fl : List RF} {lc : Int}
    (hc : At w' g (rsc { R with fs := vf, files := fl, last := lc }) 62) (hf : Row w' 106 6 vf fl.length (rfs fl)) (ffr : ∀ i, vf.ownBlock = some i → w.heap.size ≤ i)
    (hx : ∀ f ∈ fl, f ∈ R.files ∨ RFIn w' (fun i => F i ∨ (w.heap.size ≤ i ∧ i < w'.heap.size)) f) (hl : R.files.length ≤ fl.length) (hk : k ≤ k') (hm : fl.length ≤ k') (hlc : 0 ≤ lc ∧ lc ≤ k') : RRep w' g { R with fs := vf, files := fl, last := lc } (fun i => F i ∨ (w.heap.size ≤ i ∧ i < w'.heap.size)) k' := by
  have hb := h.apart c
  have hg := h.cell.lt
  refine ⟨hc, hf, h.nr.keep fun i hi => hb i (h.gn i hi), h.ar.keep fun i hi => hb i (h.ga i hi), h.a1, h.s1, fun f hf => ?_, fun x hx => Nat.lt_of_lt_of_le (h.rn x hx) hl, h.rv, fun i hi => Or.inr ⟨ffr i hi, hf.lt i hi⟩, fun i hi => Or.inl (h.gn i hi), fun i hi => Or.inl (h.ga i hi), ?_, ?_, hm, Nat.le_trans h.ln hk, Nat.le_trans h.la hk, hlc, ⟨h.lk.1, Int.le_trans h.lk.2 (Int.ofNat_le.2 hk)⟩⟩
  · rcases hx f hf with q | q
    · exact ((h.ff f q).keep hb).mono fun i hi => Or.inl hi
    · exact q
  · intro i hi
    rcases hi with hi | hi
    · exact Nat.lt_of_lt_of_le (h.lt i hi) c.size
    · exact hi.2
  · intro hi
    rcases hi with hi | hi
    · exact h.ng hi
    · omega
set_option maxRecDepth 100000 in
set_option maxHeartbeats 8000000 in
theorem rnames_any (g : Nat) (R : RV) (F : Nat → Prop) (k : Nat) (kd : Int) (p b : ByteArray) (f : Int) (n : Nat) (w : World) (h : RRep w g R F k) (hk : k ≤ 1000) (hn : n ≤ k + 1)
    (AP : ∀ w', Chg (fun i => i = g) w w' → Calls Tryz.prog 87 #[R.nw, .agg #[.int .i64 kd, .string p, .string b, .int .i64 f]] w' (ApR w' (fun x => valid x.1 = true ∧ x.2 < R.files.length) n)) :
    Calls Tryz.prog 65 #[ptr g, .agg #[.int .i64 kd, .string p, .string b, .int .i64 f]] w fun e w' => e = .returned (.tuple #[]) ∧ RPost w g F (k + 1) w' := by
  have e0 : Ext w (w.alloc (.cells #[.int .i64 kd, .string p, .string b, .int .i64 f] 109)) := Ext.alloc w _
  have a3 := At.new w #[.int .i64 kd, .string p, .string b, .int .i64 f] 109
  have hgw : g < w.heap.size := h.cell.lt
  have HR := Lib.hid h
  have HAP := Lib.hid AP
  obtain ⟨dac, cac, hac, -⟩ := h.ar.shape
  obtain ⟨dnw, cnw, hnw, -⟩ := h.nr.shape
  have SA0 := Lib.hid (fun (w' : World) (e : Ext w w') => Row.src (h.ar.ext e) h.a1 Tryz.underlying60)
  have AG0 := Lib.hid (fun (w' : World) (e : Ext w w') => (h.cell.ext e : At w' g (rsc R) 62))
  obtain ⟨xs, hxs⟩ : ∃ xs, xs = R.av := ⟨_, rfl⟩
  have HXS := Lib.hid hxs
  rw [← hxs] at SA0
  have HLA := Lib.hid (And.intro h.la h.a1)
  have hla := h.la
  have HAC := Lib.hid hac
  have HNW := Lib.hid hnw
  clear h AP hxs
  rw [hac] at SA0
  obtain ⟨nac, hnac⟩ : ∃ nac, nac = R.acts := ⟨_, rfl⟩
  rw [← hnac] at SA0 hla
  have HNA := Lib.hid hnac
  obtain ⟨nnw, hnnw⟩ : ∃ nnw, nnw = R.names.length := ⟨_, rfl⟩
  have HNN := Lib.hid hnnw
  have hc5 : (rsc R)[5]? = some (.slice dac nac cac) := by rw [hnac]; show some R.ac = _; rw [hac]
  have hc3 : (rsc R)[3]? = some (.slice dnw nnw cnw) := by rw [hnnw]; show some R.nw = _; rw [hnw]
  have HC5 := Lib.hid hc5
  have HC3 := Lib.hid hc3
  clear hac hnw hnac hnnw hc5 hc3
  unfold ptr
  go_enter Tryz.func65, Tryz.ntmps65
  go_upto_region 1 with (fail)
  rename_i K0 hK0
  generalize w.alloc (.cells #[.int .i64 kd, .string p, .string b, .int .i64 f] 109) = wq at *
  obtain ⟨b3, hb3⟩ : ∃ b3, b3 = w.heap.size := ⟨_, rfl⟩
  rw [← hb3] at a3 ⊢
  have hne : ¬ b3 = g := by omega
  clear hb3
  have E0 := Lib.hid e0
  have HA := Lib.hid (fun (w' : World) (hw' : Chg (fun i => i = g) wq w') => hw'.at a3 hne)
  have key : ∀ (v5 v10 v12 v : Value) (W : World), Ext wq W → Row W 109 4 v (0 + nac + 1) (([] ++ xs) ++ [.int .i64 kd, .string p, .string b, .int .i64 f]) → (∀ i, v.ownBlock = some i → Base wq ≤ i) → K0 ⟨#[.pointer (some ⟨g, 0, none⟩), .agg #[.int .i64 kd, .string p, .string b, .int .i64 f], undef, .pointer (some ⟨b3, 0, none⟩), .pointer (some ⟨g, 0, none⟩), v5, .pointer (some ⟨g, 0, none⟩), .pointer (some ⟨g, 0, none⟩), .pointer (some ⟨g, 5, none⟩), .slice dac nac cac, v10, .agg #[.int .i64 kd, .string p, .string b, .int .i64 f], v12, v, .pointer (some ⟨g, 0, none⟩), .pointer (some ⟨g, 5, none⟩), undef, undef, undef, undef, undef, undef, undef, undef, undef], []⟩ (W.setCell ⟨g, 5, none⟩ v) := by
    intro v5 v10 v12 v W EW zr zf
    have HZ := Lib.hid (And.intro zr zf)
    have SW := Chg.setCell W g 5 v
    have aW := (AG0.out W (E0.out.trans EW)).set 5 v
    have S1 : Chg (fun i => i = g) wq (W.setCell ⟨g, 5, none⟩ v) := (Chg.of_ext (X := fun i => i = g) EW).trans SW (fun _ _ h => h)
    have CW := Lib.hid (show Chg (fun i => i = g) w (W.setCell ⟨g, 5, none⟩ v) from (Chg.of_ext (X := fun i => i = g) E0.out).trans S1 (fun _ _ h => h))
    refine hK0 _ _ ?_
    obtain ⟨W1, hW1⟩ : ∃ W1, W1 = W.setCell ⟨g, 5, none⟩ v := ⟨_, rfl⟩
    rw [← hW1] at aW S1 CW ⊢
    have SWH : Chg (fun i => i = g) W W1 := by rw [hW1]; exact SW
    have FINL := Lib.hid (show ∀ (Wa W5 : World) (dn : Option Addr) (cn mm : Nat) (m : List Nm), mm = m.length → Row W5 111 2 (.slice dn mm cn) m.length (rns m) → Ext W1 Wa → Ext Wa W5 → (∀ i, (Value.slice dn mm cn).ownBlock = some i → Base Wa ≤ i) → m.length ≤ n → (∀ x ∈ m, valid x.1 = true ∧ x.2 < R.files.length) →
        At (W5.setCell ⟨g, 3, none⟩ (.slice dn mm cn)) g (((rsc R).setIfInBounds 5 v).setIfInBounds 3 (.slice dn mm cn)) 62 → RPost w g F (k + 1) (W5.setCell ⟨g, 3, none⟩ (.slice dn mm cn)) from by
      intro Wa W5 dn cn mm m hmm hn5 ea e5 hz5 hl5 hq5 hat
      have s5 := Chg.setCell W5 g 3 (.slice dn mm cn)
      have ce : Chg (fun i => i = g) W (W5.setCell ⟨g, 3, none⟩ (.slice dn mm cn)) := (SWH.trans (Chg.of_ext (ea.trans e5)) (fun _ _ h => h)).trans s5 (fun _ _ h => h)
      have c : Chg (fun i => i = g) w (W5.setCell ⟨g, 3, none⟩ (.slice dn mm cn)) := (CW.out.trans (Chg.of_ext (ea.trans e5)) (fun _ _ h => h)).trans s5 (fun _ _ h => h)
      have hwq : w.heap.size ≤ wq.heap.size := E0.out.size
      have hwa : w.heap.size ≤ Wa.heap.size := Nat.le_trans CW.out.size ea.size
      have hzv : ∀ i, v.ownBlock = some i → w.heap.size ≤ i := fun i hi => Nat.le_trans hwq (HZ.out.2 i hi)
      have hzn : ∀ i, (Value.slice dn mm cn).ownBlock = some i → w.heap.size ≤ i := fun i hi => Nat.le_trans hwa (hz5 i hi)
      refine HR.out.renames c (va := v) (vn := .slice dn mm cn) (na := nac + 1) (xs := xs ++ [.int .i64 kd, .string p, .string b, .int .i64 f]) (m := m) hat ?_ ?_ hzv (hn5.chg s5 fun i hi e => by have := hzn i hi; omega) hzn hq5 (Nat.le_succ k) (by omega) (by omega)
      · have := HZ.out.1.chg ce (fun i hi e => by have := hzv i hi; omega)
        rw [List.nil_append, Nat.zero_add] at this
        exact this
      · intro u hu
        rcases List.mem_append.1 hu with hu | hu
        · exact HLA.out.2 u (by rw [← HXS.out]; exact hu)
        · simp only [List.mem_cons, List.not_mem_nil, or_false] at hu
          rcases hu with rfl | rfl | rfl | rfl <;> rfl)
    clear zr zf SW hW1 hK0 SWH
    go_upto_region 2 with (fail)
    have HA2 := Lib.hid (fun (w' : World) (hw' : Chg (fun i => i = g) W1 w') => HA.out w' (S1.trans hw' (fun _ _ h => h)))
    refine wp_region_held (S := Chg (fun i => i = g) W1) (by kernel_rfl) ?_
    change wpAnyH _ _ _ _ _ _ _ _ W1.drew
    have S0 : Chg (fun i => i = g) W1 W1.drew := Chg.of_ext (Ext.drew W1)
    have ag := aW.ext (Ext.drew W1)
    have D_ : Ext W1 W1.drew := Ext.drew W1
    clear aW S1
    generalize W1.drew = W0 at *
    refine takeS 0 (some 16) (.pointer (some ⟨g, 0, none⟩)) rfl rfl (by kernel_rfl) (by kernel_rfl) (by kernel_rfl) (fun _ _ _ h => h) rfl S0 (fun w' hw' => by go_simp) ?_
    simp only [Act.put, List.setIfInBounds_toArray, List.set_cons_zero, List.set_cons_succ]
    refine takeS 1 (some 17) (.pointer (some ⟨g, 0, none⟩)) rfl rfl (by kernel_rfl) (by kernel_rfl) (by kernel_rfl) (fun _ _ _ h => h) rfl S0 (fun w' hw' => by go_simp) ?_
    simp only [Act.put, List.setIfInBounds_toArray, List.set_cons_zero, List.set_cons_succ]
    refine takeS 2 (some 18) (.pointer (some ⟨g, 0, none⟩)) rfl rfl (by kernel_rfl) (by kernel_rfl) (by kernel_rfl) (fun _ _ _ h => h) rfl S0 (fun w' hw' => by go_simp) ?_
    simp only [Act.put, List.setIfInBounds_toArray, List.set_cons_zero, List.set_cons_succ]
    refine takeS 3 (some 19) (.pointer (some ⟨g, 3, none⟩)) rfl rfl (by kernel_rfl) (by kernel_rfl) (by kernel_rfl) (fun _ _ _ h => h) rfl S0 (fun w' hw' => by go_simp) ?_
    simp only [Act.put, List.setIfInBounds_toArray, List.set_cons_zero, List.set_cons_succ]
    refine takeS 5 (some 21) (.agg #[.int .i64 kd, .string p, .string b, .int .i64 f]) rfl rfl (by kernel_rfl) (by kernel_rfl) (by kernel_rfl) (fun _ _ _ h => h) rfl S0 (fun w' hw' => by have c0 := (HA2.out w' hw').cell 0; have c1 := (HA2.out w' hw').cell 1; have c2 := (HA2.out w' hw').cell 2; have c3 := (HA2.out w' hw').cell 3; go_simp) ?_
    simp only [Act.put, List.setIfInBounds_toArray, List.set_cons_zero, List.set_cons_succ]
    have c3_ : W0.cell? ⟨g, 3, none⟩ = some (.slice dnw nnw cnw) := by rw [ag.cell 3]; exact HC3.out
    refine nextS 4 rfl (by kernel_rfl) rfl (makeR (some 20) rfl (.slice dnw nnw cnw) (w1 := W0) (by go_simp) ?_)
    simp only [Act.put, List.setIfInBounds_toArray, List.set_cons_zero, List.set_cons_succ]
    refine ⟨S0, ?_⟩
    have APW := HAP.out W0 (CW.out.trans S0 (fun _ _ h => h))
    rw [HNW.out, ← HNN.out] at APW
    refine nextS 6 rfl (by kernel_rfl) rfl (callS (some 22) rfl 87 #[.slice dnw nnw cnw, .agg #[.int .i64 kd, .string p, .string b, .int .i64 f]] (by go_simp) (fun v w' => ∃ m dn cn mm, mm = m.length ∧ v = .slice dn mm cn ∧ Row w' 111 2 (.slice dn mm cn) m.length (rns m) ∧ Ext W0 w' ∧ (∀ i, (Value.slice dn mm cn).ownBlock = some i → Base W0 ≤ i) ∧ m.length ≤ n ∧ ∀ x ∈ m, valid x.1 = true ∧ x.2 < R.files.length) (APW.mono fun e w' he => by obtain ⟨v', m, h1, h2, h3, h4, h5, h6⟩ := he; obtain ⟨dn, cn, rfl, -⟩ := h2.shape; exact ⟨_, h1, m, dn, cn, m.length, rfl, rfl, h2, h3, h4, h5, h6⟩) ?_)
    rintro v_ W5 ⟨m, dn, cn, mm, hmm, rfl, nr5, x_, nz5, nl5, nq5⟩
    simp only [Act.put, List.setIfInBounds_toArray, List.set_cons_zero, List.set_cons_succ]
    have S5 := S0.trans (Chg.of_ext (X := fun i => i = g) x_) (fun _ _ h => h)
    have ag5 := ag.ext x_
    refine ⟨S5, ?_⟩
    refine takeS 7 (some 23) (.pointer (some ⟨g, 0, none⟩)) rfl rfl (by kernel_rfl) (by kernel_rfl) (by kernel_rfl) (fun _ _ _ h => h) rfl S5 (fun w' hw' => by go_simp) ?_
    simp only [Act.put, List.setIfInBounds_toArray, List.set_cons_zero, List.set_cons_succ]
    refine takeS 8 (some 24) (.pointer (some ⟨g, 3, none⟩)) rfl rfl (by kernel_rfl) (by kernel_rfl) (by kernel_rfl) (fun _ _ _ h => h) rfl S5 (fun w' hw' => by go_simp) ?_
    simp only [Act.put, List.setIfInBounds_toArray, List.set_cons_zero, List.set_cons_succ]
    have cc_ : W5.cell? ⟨g, 3, none⟩ = some (.slice dnw nnw cnw) := by rw [ag5.cell 3]; exact HC3.out
    have zz_ := ag5.frozen 3
    refine nextS 9 rfl (by kernel_rfl) rfl (storeR (w1 := W5.setCell ⟨g, 3, none⟩ (.slice dn mm cn)) (by go_simp) ?_)
    simp only [Act.put]
    have S6 := S5.trans (Chg.setCell W5 g 3 (.slice dn mm cn)) (fun _ _ h => h)
    have ag6 := ag5.set 3 (.slice dn mm cn)
    have FIN := Lib.hid (FINL.out W0 W5 dn cn mm m hmm nr5 D_ x_ nz5 nl5 nq5 ag6)
    clear cc_ zz_ ag5 ag6
    generalize W5.setCell ⟨g, 3, none⟩ (.slice dn mm cn) = W6 at *
    refine ⟨S6, ?_⟩
    refine wpAnyH_done (by kernel_rfl) ?_ _
    clear nr5 x_ nz5 nl5 nq5 S5
    go_wp2
    go_end0
    exact ⟨rfl, FIN.out⟩
  refine wp_region_held (S := Chg (fun i => i = g) wq.drew) (by kernel_rfl) ?_
  change wpAnyH _ _ _ _ _ _ _ _ wq.drew
  have D_ : Ext wq wq.drew := Ext.drew wq
  have E0_ : Ext wq.drew wq.drew := Ext.refl _
  have AG := Lib.hid (fun (w' : World) (e : Ext wq.drew w') => (AG0.out w' ((E0.out.trans D_).trans e) : At w' g (rsc R) 62))
  have SAc := Lib.hid (fun (w' : World) (e : Ext wq.drew w') => SA0.out w' ((E0.out.trans D_).trans e))
  have A3 := Lib.hid (fun (w' : World) (hw' : Chg (fun i => i = g) wq.drew w') => HA.out w' ((Chg.of_ext D_).trans hw' (fun _ _ h => h)))
  have C5 := Lib.hid (fun (w' : World) (e : Ext wq.drew w') => (show w'.cell? ⟨g, 5, none⟩ = some (.slice dac nac cac) from by rw [(AG.out w' e).cell 5]; exact HC5.out))
  clear a3 e0 hK0
  generalize wq.drew = W0 at *
  refine takeS 0 (some 4) (.pointer (some ⟨g, 0, none⟩)) rfl rfl (by kernel_rfl) (by kernel_rfl) (by kernel_rfl) (fun _ _ _ h => h) rfl (Chg.of_ext E0_) (fun w' hw' => by go_simp) ?_
  simp only [Act.put, List.setIfInBounds_toArray, List.set_cons_zero, List.set_cons_succ]
  refine takeS 2 (some 6) (.pointer (some ⟨g, 0, none⟩)) rfl rfl (by kernel_rfl) (by kernel_rfl) (by kernel_rfl) (fun _ _ _ h => h) rfl (Chg.of_ext E0_) (fun w' hw' => by go_simp) ?_
  simp only [Act.put, List.setIfInBounds_toArray, List.set_cons_zero, List.set_cons_succ]
  refine takeS 3 (some 7) (.pointer (some ⟨g, 0, none⟩)) rfl rfl (by kernel_rfl) (by kernel_rfl) (by kernel_rfl) (fun _ _ _ h => h) rfl (Chg.of_ext E0_) (fun w' hw' => by go_simp) ?_
  simp only [Act.put, List.setIfInBounds_toArray, List.set_cons_zero, List.set_cons_succ]
  refine takeS 4 (some 8) (.pointer (some ⟨g, 5, none⟩)) rfl rfl (by kernel_rfl) (by kernel_rfl) (by kernel_rfl) (fun _ _ _ h => h) rfl (Chg.of_ext E0_) (fun w' hw' => by go_simp) ?_
  simp only [Act.put, List.setIfInBounds_toArray, List.set_cons_zero, List.set_cons_succ]
  refine takeS 7 (some 11) (.agg #[.int .i64 kd, .string p, .string b, .int .i64 f]) rfl rfl (by kernel_rfl) (by kernel_rfl) (by kernel_rfl) (fun _ _ _ h => h) rfl (Chg.of_ext E0_) (fun w' hw' => by have c0 := (A3.out w' hw').cell 0; have c1 := (A3.out w' hw').cell 1; have c2 := (A3.out w' hw').cell 2; have c3 := (A3.out w' hw').cell 3; go_simp) ?_
  simp only [Act.put, List.setIfInBounds_toArray, List.set_cons_zero, List.set_cons_succ]
  refine nextR3 1 5 8 rfl rfl rfl (by kernel_rfl) rfl rfl rfl ?_ ?_ ?_
  · skip
    refine (makeR (some 5) rfl (.slice (some ⟨W0.heap.size, 0, none⟩) 0 0) (w1 := W0.alloc (.cells #[] 109)) (by go_simp) ?_)
    simp only [Act.put, List.setIfInBounds_toArray, List.set_cons_zero, List.set_cons_succ]
    have x_ : Ext W0 (W0.alloc (.cells #[] 109)) := Ext.alloc W0 _
    have z4 : Row (W0.alloc (.cells #[] 109)) 109 4 (.slice (some ⟨W0.heap.size, 0, none⟩) 0 0) 0 [] := empty_row W0 109 4
    have hz5 : ∀ i, (Value.slice (some ⟨W0.heap.size, 0, none⟩) 0 0).ownBlock = some i → Base W0 ≤ i := fun i hi => by have q_ : some W0.heap.size = some i := hi; injection q_ with q_; have := E0_.size; unfold Base; omega
    have E2 := E0_.trans x_
    clear x_
    generalize W0.alloc (.cells #[] 109) = W1 at *
    generalize W0.heap.size = g3 at *
    refine ⟨(Chg.of_ext E2), ?_⟩
    refine nextR2 5 8 rfl rfl (by kernel_rfl) rfl rfl ?_ ?_
    · skip
      refine (makeR (some 9) rfl (.slice dac nac cac) (w1 := W1) (by have c5 := C5.out W1 E2; go_simp) ?_)
      simp only [Act.put, List.setIfInBounds_toArray, List.set_cons_zero, List.set_cons_succ]
      refine ⟨(Chg.of_ext E2), ?_⟩
      refine nextR2 6 8 rfl rfl (by kernel_rfl) rfl rfl ?_ ?_
      · skip
        obtain ⟨v22, W15, h19, z17, gr20⟩ := row_copy 60 Tryz.underlying60 info100 rfl z4 (SAc.out W1 E2) (by omega) (by omega)
        have ff21 := Grew.fresh gr20 E2 hz5
        have E16 := ff21.1
        have hz18 : ∀ i, v22.ownBlock = some i → Base W0 ≤ i := ff21.2
        clear ff21
        clear gr20
        obtain ⟨ad23, cp24, ev_, -⟩ := z17.shape
        subst ev_
        refine (appR (some 10) rfl (.tmp 5) (.tmp 9) 60 60 rfl _ _ rfl rfl _ _ h19 ?_)
        simp only [Act.put, List.setIfInBounds_toArray, List.set_cons_zero, List.set_cons_succ]
        clear h19 z4 hz5
        refine ⟨(Chg.of_ext E16), ?_⟩
        refine nextS 8 rfl (by kernel_rfl) rfl (makeR (some 12) rfl (.slice (some ⟨W15.heap.size, 0, none⟩) 1 1) (w1 := W15.alloc (.cells #[.int .i64 kd, .string p, .string b, .int .i64 f] 109)) (by go_simp) ?_)
        simp only [Act.put, List.setIfInBounds_toArray, List.set_cons_zero, List.set_cons_succ]
        have x_ : Ext W15 (W15.alloc (.cells #[.int .i64 kd, .string p, .string b, .int .i64 f] 109)) := Ext.alloc W15 _
        have a33 : At (W15.alloc (.cells #[.int .i64 kd, .string p, .string b, .int .i64 f] 109)) W15.heap.size #[.int .i64 kd, .string p, .string b, .int .i64 f] 109 := At.new W15 _ _
        have ne34 : ∀ i, (.slice ad23 (0 + nac) cp24 : Value).ownBlock = some i → i ≠ W15.heap.size := fun i hi => by have := z17.lt i hi; omega
        replace z17 := z17.ext x_
        have E31 := E16.trans x_
        clear x_
        generalize W15.alloc (.cells #[.int .i64 kd, .string p, .string b, .int .i64 f] 109) = W30 at *
        generalize W15.heap.size = g32 at *
        refine ⟨(Chg.of_ext E31), ?_⟩
        obtain ⟨v42, W35, h39, z37, gr40⟩ := row_copy 60 Tryz.underlying60 info100 rfl z17 (Src.ofSlice W30 Tryz.underlying60 ⟨g32, 0, none⟩ 1 1 [.int .i64 kd, .string p, .string b, .int .i64 f] rfl (fun q u hu => by rw [Addr.add_lit, Nat.zero_add, a33.cell, ← hu]; simp) (by simp [Value.oneCell'])) (by omega) (by omega)
        have ff41 := Grew.fresh gr40 E31 hz18
        have E36 := ff41.1
        have hz38 : ∀ i, v42.ownBlock = some i → Base W0 ≤ i := ff41.2
        clear ff41
        clear gr40
        obtain ⟨ad43, cp44, ev_, -⟩ := z37.shape
        subst ev_
        refine nextS 9 rfl (by kernel_rfl) rfl (appR (some 13) rfl (.tmp 10) (.tmp 12) 60 60 rfl _ _ rfl rfl _ _ h39 ?_)
        simp only [Act.put, List.setIfInBounds_toArray, List.set_cons_zero, List.set_cons_succ]
        clear h39 z17 hz18
        refine ⟨(Chg.of_ext E36), ?_⟩
        refine takeS 10 (some 14) (.pointer (some ⟨g, 0, none⟩)) rfl rfl (by kernel_rfl) (by kernel_rfl) (by kernel_rfl) (fun _ _ _ h => h) rfl (Chg.of_ext E36) (fun w' hw' => by go_simp) ?_
        simp only [Act.put, List.setIfInBounds_toArray, List.set_cons_zero, List.set_cons_succ]
        refine takeS 11 (some 15) (.pointer (some ⟨g, 5, none⟩)) rfl rfl (by kernel_rfl) (by kernel_rfl) (by kernel_rfl) (fun _ _ _ h => h) rfl (Chg.of_ext E36) (fun w' hw' => by go_simp) ?_
        simp only [Act.put, List.setIfInBounds_toArray, List.set_cons_zero, List.set_cons_succ]
        have ag := AG.out W35 E36
        have cc_ := C5.out W35 E36
        have zz_ := ag.frozen 5
        refine nextS 12 rfl (by kernel_rfl) rfl (storeR (w1 := W35.setCell ⟨g, 5, none⟩ (.slice ad43 ((0 + nac) + 1) cp44)) (by go_simp) ?_)
        simp only [Act.put]
        have S_ := (Chg.of_ext (X := fun i => i = g) E36).trans (Chg.setCell W35 g 5 (.slice ad43 ((0 + nac) + 1) cp44)) (fun _ _ h => h)
        refine ⟨S_, ?_⟩
        refine wpAnyH_done (by kernel_rfl) ?_ _
        exact key _ _ _ _ W35 (D_.trans E36) z37 (fun i hi => Nat.le_trans D_.size (hz38 i hi))
      · skip
        refine (makeR (some 12) rfl (.slice (some ⟨W1.heap.size, 0, none⟩) 1 1) (w1 := W1.alloc (.cells #[.int .i64 kd, .string p, .string b, .int .i64 f] 109)) (by go_simp) ?_)
        simp only [Act.put, List.setIfInBounds_toArray, List.set_cons_zero, List.set_cons_succ]
        have x_ : Ext W1 (W1.alloc (.cells #[.int .i64 kd, .string p, .string b, .int .i64 f] 109)) := Ext.alloc W1 _
        have a28 : At (W1.alloc (.cells #[.int .i64 kd, .string p, .string b, .int .i64 f] 109)) W1.heap.size #[.int .i64 kd, .string p, .string b, .int .i64 f] 109 := At.new W1 _ _
        have ne29 : ∀ i, (.slice (some ⟨g3, 0, none⟩) 0 0 : Value).ownBlock = some i → i ≠ W1.heap.size := fun i hi => by have := z4.lt i hi; omega
        replace z4 := z4.ext x_
        have E26 := E2.trans x_
        clear x_
        generalize W1.alloc (.cells #[.int .i64 kd, .string p, .string b, .int .i64 f] 109) = W25 at *
        generalize W1.heap.size = g27 at *
        refine ⟨(Chg.of_ext E26), ?_⟩
        obtain ⟨v52, W45, h49, z47, gr50⟩ := row_copy 60 Tryz.underlying60 info100 rfl z4 (SAc.out W25 E26) (by omega) (by omega)
        have ff51 := Grew.fresh gr50 E26 hz5
        have E46 := ff51.1
        have hz48 : ∀ i, v52.ownBlock = some i → Base W0 ≤ i := ff51.2
        clear ff51
        have ne53 := Grew.ne gr50 ne29 a28.lt
        have a_ := gr50.chg.at a28 (fun q => ne29 _ q rfl)
        clear a28
        have a28 := a_
        clear a_
        clear gr50
        obtain ⟨ad54, cp55, ev_, -⟩ := z47.shape
        subst ev_
        refine nextS 6 rfl (by kernel_rfl) rfl (appR (some 10) rfl (.tmp 5) (.tmp 9) 60 60 rfl _ _ rfl rfl _ _ h49 ?_)
        simp only [Act.put, List.setIfInBounds_toArray, List.set_cons_zero, List.set_cons_succ]
        clear h49 z4 hz5
        refine ⟨(Chg.of_ext E46), ?_⟩
        obtain ⟨v63, W56, h60, z58, gr61⟩ := row_copy 60 Tryz.underlying60 info100 rfl z47 (Src.ofSlice W45 Tryz.underlying60 ⟨g27, 0, none⟩ 1 1 [.int .i64 kd, .string p, .string b, .int .i64 f] rfl (fun q u hu => by rw [Addr.add_lit, Nat.zero_add, a28.cell, ← hu]; simp) (by simp [Value.oneCell'])) (by omega) (by omega)
        have ff62 := Grew.fresh gr61 E46 hz48
        have E57 := ff62.1
        have hz59 : ∀ i, v63.ownBlock = some i → Base W0 ≤ i := ff62.2
        clear ff62
        clear gr61
        obtain ⟨ad64, cp65, ev_, -⟩ := z58.shape
        subst ev_
        refine nextS 9 rfl (by kernel_rfl) rfl (appR (some 13) rfl (.tmp 10) (.tmp 12) 60 60 rfl _ _ rfl rfl _ _ h60 ?_)
        simp only [Act.put, List.setIfInBounds_toArray, List.set_cons_zero, List.set_cons_succ]
        clear h60 z47 hz48
        refine ⟨(Chg.of_ext E57), ?_⟩
        refine takeS 10 (some 14) (.pointer (some ⟨g, 0, none⟩)) rfl rfl (by kernel_rfl) (by kernel_rfl) (by kernel_rfl) (fun _ _ _ h => h) rfl (Chg.of_ext E57) (fun w' hw' => by go_simp) ?_
        simp only [Act.put, List.setIfInBounds_toArray, List.set_cons_zero, List.set_cons_succ]
        refine takeS 11 (some 15) (.pointer (some ⟨g, 5, none⟩)) rfl rfl (by kernel_rfl) (by kernel_rfl) (by kernel_rfl) (fun _ _ _ h => h) rfl (Chg.of_ext E57) (fun w' hw' => by go_simp) ?_
        simp only [Act.put, List.setIfInBounds_toArray, List.set_cons_zero, List.set_cons_succ]
        have ag := AG.out W56 E57
        have cc_ := C5.out W56 E57
        have zz_ := ag.frozen 5
        refine nextS 12 rfl (by kernel_rfl) rfl (storeR (w1 := W56.setCell ⟨g, 5, none⟩ (.slice ad64 ((0 + nac) + 1) cp65)) (by go_simp) ?_)
        simp only [Act.put]
        have S_ := (Chg.of_ext (X := fun i => i = g) E57).trans (Chg.setCell W56 g 5 (.slice ad64 ((0 + nac) + 1) cp65)) (fun _ _ h => h)
        refine ⟨S_, ?_⟩
        refine wpAnyH_done (by kernel_rfl) ?_ _
        exact key _ _ _ _ W56 (D_.trans E57) z58 (fun i hi => Nat.le_trans D_.size (hz59 i hi))
    · skip
      refine (makeR (some 12) rfl (.slice (some ⟨W1.heap.size, 0, none⟩) 1 1) (w1 := W1.alloc (.cells #[.int .i64 kd, .string p, .string b, .int .i64 f] 109)) (by go_simp) ?_)
      simp only [Act.put, List.setIfInBounds_toArray, List.set_cons_zero, List.set_cons_succ]
      have x_ : Ext W1 (W1.alloc (.cells #[.int .i64 kd, .string p, .string b, .int .i64 f] 109)) := Ext.alloc W1 _
      have a13 : At (W1.alloc (.cells #[.int .i64 kd, .string p, .string b, .int .i64 f] 109)) W1.heap.size #[.int .i64 kd, .string p, .string b, .int .i64 f] 109 := At.new W1 _ _
      have ne14 : ∀ i, (.slice (some ⟨g3, 0, none⟩) 0 0 : Value).ownBlock = some i → i ≠ W1.heap.size := fun i hi => by have := z4.lt i hi; omega
      replace z4 := z4.ext x_
      have E11 := E2.trans x_
      clear x_
      generalize W1.alloc (.cells #[.int .i64 kd, .string p, .string b, .int .i64 f] 109) = W10 at *
      generalize W1.heap.size = g12 at *
      refine ⟨(Chg.of_ext E11), ?_⟩
      refine nextS 5 rfl (by kernel_rfl) rfl (makeR (some 9) rfl (.slice dac nac cac) (w1 := W10) (by have c5 := C5.out W10 E11; go_simp) ?_)
      simp only [Act.put, List.setIfInBounds_toArray, List.set_cons_zero, List.set_cons_succ]
      refine ⟨(Chg.of_ext E11), ?_⟩
      obtain ⟨v73, W66, h70, z68, gr71⟩ := row_copy 60 Tryz.underlying60 info100 rfl z4 (SAc.out W10 E11) (by omega) (by omega)
      have ff72 := Grew.fresh gr71 E11 hz5
      have E67 := ff72.1
      have hz69 : ∀ i, v73.ownBlock = some i → Base W0 ≤ i := ff72.2
      clear ff72
      have ne74 := Grew.ne gr71 ne14 a13.lt
      have a_ := gr71.chg.at a13 (fun q => ne14 _ q rfl)
      clear a13
      have a13 := a_
      clear a_
      clear gr71
      obtain ⟨ad75, cp76, ev_, -⟩ := z68.shape
      subst ev_
      refine nextS 6 rfl (by kernel_rfl) rfl (appR (some 10) rfl (.tmp 5) (.tmp 9) 60 60 rfl _ _ rfl rfl _ _ h70 ?_)
      simp only [Act.put, List.setIfInBounds_toArray, List.set_cons_zero, List.set_cons_succ]
      clear h70 z4 hz5
      refine ⟨(Chg.of_ext E67), ?_⟩
      obtain ⟨v84, W77, h81, z79, gr82⟩ := row_copy 60 Tryz.underlying60 info100 rfl z68 (Src.ofSlice W66 Tryz.underlying60 ⟨g12, 0, none⟩ 1 1 [.int .i64 kd, .string p, .string b, .int .i64 f] rfl (fun q u hu => by rw [Addr.add_lit, Nat.zero_add, a13.cell, ← hu]; simp) (by simp [Value.oneCell'])) (by omega) (by omega)
      have ff83 := Grew.fresh gr82 E67 hz69
      have E78 := ff83.1
      have hz80 : ∀ i, v84.ownBlock = some i → Base W0 ≤ i := ff83.2
      clear ff83
      clear gr82
      obtain ⟨ad85, cp86, ev_, -⟩ := z79.shape
      subst ev_
      refine nextS 9 rfl (by kernel_rfl) rfl (appR (some 13) rfl (.tmp 10) (.tmp 12) 60 60 rfl _ _ rfl rfl _ _ h81 ?_)
      simp only [Act.put, List.setIfInBounds_toArray, List.set_cons_zero, List.set_cons_succ]
      clear h81 z68 hz69
      refine ⟨(Chg.of_ext E78), ?_⟩
      refine takeS 10 (some 14) (.pointer (some ⟨g, 0, none⟩)) rfl rfl (by kernel_rfl) (by kernel_rfl) (by kernel_rfl) (fun _ _ _ h => h) rfl (Chg.of_ext E78) (fun w' hw' => by go_simp) ?_
      simp only [Act.put, List.setIfInBounds_toArray, List.set_cons_zero, List.set_cons_succ]
      refine takeS 11 (some 15) (.pointer (some ⟨g, 5, none⟩)) rfl rfl (by kernel_rfl) (by kernel_rfl) (by kernel_rfl) (fun _ _ _ h => h) rfl (Chg.of_ext E78) (fun w' hw' => by go_simp) ?_
      simp only [Act.put, List.setIfInBounds_toArray, List.set_cons_zero, List.set_cons_succ]
      have ag := AG.out W77 E78
      have cc_ := C5.out W77 E78
      have zz_ := ag.frozen 5
      refine nextS 12 rfl (by kernel_rfl) rfl (storeR (w1 := W77.setCell ⟨g, 5, none⟩ (.slice ad85 ((0 + nac) + 1) cp86)) (by go_simp) ?_)
      simp only [Act.put]
      have S_ := (Chg.of_ext (X := fun i => i = g) E78).trans (Chg.setCell W77 g 5 (.slice ad85 ((0 + nac) + 1) cp86)) (fun _ _ h => h)
      refine ⟨S_, ?_⟩
      refine wpAnyH_done (by kernel_rfl) ?_ _
      exact key _ _ _ _ W77 (D_.trans E78) z79 (fun i hi => Nat.le_trans D_.size (hz80 i hi))
  · skip
    refine (makeR (some 9) rfl (.slice dac nac cac) (w1 := W0) (by have c5 := C5.out W0 E0_; go_simp) ?_)
    simp only [Act.put, List.setIfInBounds_toArray, List.set_cons_zero, List.set_cons_succ]
    refine ⟨(Chg.of_ext E0_), ?_⟩
    refine nextR2 1 8 rfl rfl (by kernel_rfl) rfl rfl ?_ ?_
    · skip
      refine (makeR (some 5) rfl (.slice (some ⟨W0.heap.size, 0, none⟩) 0 0) (w1 := W0.alloc (.cells #[] 109)) (by go_simp) ?_)
      simp only [Act.put, List.setIfInBounds_toArray, List.set_cons_zero, List.set_cons_succ]
      have x_ : Ext W0 (W0.alloc (.cells #[] 109)) := Ext.alloc W0 _
      have z90 : Row (W0.alloc (.cells #[] 109)) 109 4 (.slice (some ⟨W0.heap.size, 0, none⟩) 0 0) 0 [] := empty_row W0 109 4
      have hz91 : ∀ i, (Value.slice (some ⟨W0.heap.size, 0, none⟩) 0 0).ownBlock = some i → Base W0 ≤ i := fun i hi => by have q_ : some W0.heap.size = some i := hi; injection q_ with q_; have := E0_.size; unfold Base; omega
      have E88 := E0_.trans x_
      clear x_
      generalize W0.alloc (.cells #[] 109) = W87 at *
      generalize W0.heap.size = g89 at *
      refine ⟨(Chg.of_ext E88), ?_⟩
      refine nextR2 6 8 rfl rfl (by kernel_rfl) rfl rfl ?_ ?_
      · skip
        obtain ⟨v103, W96, h100, z98, gr101⟩ := row_copy 60 Tryz.underlying60 info100 rfl z90 (SAc.out W87 E88) (by omega) (by omega)
        have ff102 := Grew.fresh gr101 E88 hz91
        have E97 := ff102.1
        have hz99 : ∀ i, v103.ownBlock = some i → Base W0 ≤ i := ff102.2
        clear ff102
        clear gr101
        obtain ⟨ad104, cp105, ev_, -⟩ := z98.shape
        subst ev_
        refine (appR (some 10) rfl (.tmp 5) (.tmp 9) 60 60 rfl _ _ rfl rfl _ _ h100 ?_)
        simp only [Act.put, List.setIfInBounds_toArray, List.set_cons_zero, List.set_cons_succ]
        clear h100 z90 hz91
        refine ⟨(Chg.of_ext E97), ?_⟩
        refine nextS 8 rfl (by kernel_rfl) rfl (makeR (some 12) rfl (.slice (some ⟨W96.heap.size, 0, none⟩) 1 1) (w1 := W96.alloc (.cells #[.int .i64 kd, .string p, .string b, .int .i64 f] 109)) (by go_simp) ?_)
        simp only [Act.put, List.setIfInBounds_toArray, List.set_cons_zero, List.set_cons_succ]
        have x_ : Ext W96 (W96.alloc (.cells #[.int .i64 kd, .string p, .string b, .int .i64 f] 109)) := Ext.alloc W96 _
        have a114 : At (W96.alloc (.cells #[.int .i64 kd, .string p, .string b, .int .i64 f] 109)) W96.heap.size #[.int .i64 kd, .string p, .string b, .int .i64 f] 109 := At.new W96 _ _
        have ne115 : ∀ i, (.slice ad104 (0 + nac) cp105 : Value).ownBlock = some i → i ≠ W96.heap.size := fun i hi => by have := z98.lt i hi; omega
        replace z98 := z98.ext x_
        have E112 := E97.trans x_
        clear x_
        generalize W96.alloc (.cells #[.int .i64 kd, .string p, .string b, .int .i64 f] 109) = W111 at *
        generalize W96.heap.size = g113 at *
        refine ⟨(Chg.of_ext E112), ?_⟩
        obtain ⟨v123, W116, h120, z118, gr121⟩ := row_copy 60 Tryz.underlying60 info100 rfl z98 (Src.ofSlice W111 Tryz.underlying60 ⟨g113, 0, none⟩ 1 1 [.int .i64 kd, .string p, .string b, .int .i64 f] rfl (fun q u hu => by rw [Addr.add_lit, Nat.zero_add, a114.cell, ← hu]; simp) (by simp [Value.oneCell'])) (by omega) (by omega)
        have ff122 := Grew.fresh gr121 E112 hz99
        have E117 := ff122.1
        have hz119 : ∀ i, v123.ownBlock = some i → Base W0 ≤ i := ff122.2
        clear ff122
        clear gr121
        obtain ⟨ad124, cp125, ev_, -⟩ := z118.shape
        subst ev_
        refine nextS 9 rfl (by kernel_rfl) rfl (appR (some 13) rfl (.tmp 10) (.tmp 12) 60 60 rfl _ _ rfl rfl _ _ h120 ?_)
        simp only [Act.put, List.setIfInBounds_toArray, List.set_cons_zero, List.set_cons_succ]
        clear h120 z98 hz99
        refine ⟨(Chg.of_ext E117), ?_⟩
        refine takeS 10 (some 14) (.pointer (some ⟨g, 0, none⟩)) rfl rfl (by kernel_rfl) (by kernel_rfl) (by kernel_rfl) (fun _ _ _ h => h) rfl (Chg.of_ext E117) (fun w' hw' => by go_simp) ?_
        simp only [Act.put, List.setIfInBounds_toArray, List.set_cons_zero, List.set_cons_succ]
        refine takeS 11 (some 15) (.pointer (some ⟨g, 5, none⟩)) rfl rfl (by kernel_rfl) (by kernel_rfl) (by kernel_rfl) (fun _ _ _ h => h) rfl (Chg.of_ext E117) (fun w' hw' => by go_simp) ?_
        simp only [Act.put, List.setIfInBounds_toArray, List.set_cons_zero, List.set_cons_succ]
        have ag := AG.out W116 E117
        have cc_ := C5.out W116 E117
        have zz_ := ag.frozen 5
        refine nextS 12 rfl (by kernel_rfl) rfl (storeR (w1 := W116.setCell ⟨g, 5, none⟩ (.slice ad124 ((0 + nac) + 1) cp125)) (by go_simp) ?_)
        simp only [Act.put]
        have S_ := (Chg.of_ext (X := fun i => i = g) E117).trans (Chg.setCell W116 g 5 (.slice ad124 ((0 + nac) + 1) cp125)) (fun _ _ h => h)
        refine ⟨S_, ?_⟩
        refine wpAnyH_done (by kernel_rfl) ?_ _
        exact key _ _ _ _ W116 (D_.trans E117) z118 (fun i hi => Nat.le_trans D_.size (hz119 i hi))
      · skip
        refine (makeR (some 12) rfl (.slice (some ⟨W87.heap.size, 0, none⟩) 1 1) (w1 := W87.alloc (.cells #[.int .i64 kd, .string p, .string b, .int .i64 f] 109)) (by go_simp) ?_)
        simp only [Act.put, List.setIfInBounds_toArray, List.set_cons_zero, List.set_cons_succ]
        have x_ : Ext W87 (W87.alloc (.cells #[.int .i64 kd, .string p, .string b, .int .i64 f] 109)) := Ext.alloc W87 _
        have a109 : At (W87.alloc (.cells #[.int .i64 kd, .string p, .string b, .int .i64 f] 109)) W87.heap.size #[.int .i64 kd, .string p, .string b, .int .i64 f] 109 := At.new W87 _ _
        have ne110 : ∀ i, (.slice (some ⟨g89, 0, none⟩) 0 0 : Value).ownBlock = some i → i ≠ W87.heap.size := fun i hi => by have := z90.lt i hi; omega
        replace z90 := z90.ext x_
        have E107 := E88.trans x_
        clear x_
        generalize W87.alloc (.cells #[.int .i64 kd, .string p, .string b, .int .i64 f] 109) = W106 at *
        generalize W87.heap.size = g108 at *
        refine ⟨(Chg.of_ext E107), ?_⟩
        obtain ⟨v133, W126, h130, z128, gr131⟩ := row_copy 60 Tryz.underlying60 info100 rfl z90 (SAc.out W106 E107) (by omega) (by omega)
        have ff132 := Grew.fresh gr131 E107 hz91
        have E127 := ff132.1
        have hz129 : ∀ i, v133.ownBlock = some i → Base W0 ≤ i := ff132.2
        clear ff132
        have ne134 := Grew.ne gr131 ne110 a109.lt
        have a_ := gr131.chg.at a109 (fun q => ne110 _ q rfl)
        clear a109
        have a109 := a_
        clear a_
        clear gr131
        obtain ⟨ad135, cp136, ev_, -⟩ := z128.shape
        subst ev_
        refine nextS 6 rfl (by kernel_rfl) rfl (appR (some 10) rfl (.tmp 5) (.tmp 9) 60 60 rfl _ _ rfl rfl _ _ h130 ?_)
        simp only [Act.put, List.setIfInBounds_toArray, List.set_cons_zero, List.set_cons_succ]
        clear h130 z90 hz91
        refine ⟨(Chg.of_ext E127), ?_⟩
        obtain ⟨v144, W137, h141, z139, gr142⟩ := row_copy 60 Tryz.underlying60 info100 rfl z128 (Src.ofSlice W126 Tryz.underlying60 ⟨g108, 0, none⟩ 1 1 [.int .i64 kd, .string p, .string b, .int .i64 f] rfl (fun q u hu => by rw [Addr.add_lit, Nat.zero_add, a109.cell, ← hu]; simp) (by simp [Value.oneCell'])) (by omega) (by omega)
        have ff143 := Grew.fresh gr142 E127 hz129
        have E138 := ff143.1
        have hz140 : ∀ i, v144.ownBlock = some i → Base W0 ≤ i := ff143.2
        clear ff143
        clear gr142
        obtain ⟨ad145, cp146, ev_, -⟩ := z139.shape
        subst ev_
        refine nextS 9 rfl (by kernel_rfl) rfl (appR (some 13) rfl (.tmp 10) (.tmp 12) 60 60 rfl _ _ rfl rfl _ _ h141 ?_)
        simp only [Act.put, List.setIfInBounds_toArray, List.set_cons_zero, List.set_cons_succ]
        clear h141 z128 hz129
        refine ⟨(Chg.of_ext E138), ?_⟩
        refine takeS 10 (some 14) (.pointer (some ⟨g, 0, none⟩)) rfl rfl (by kernel_rfl) (by kernel_rfl) (by kernel_rfl) (fun _ _ _ h => h) rfl (Chg.of_ext E138) (fun w' hw' => by go_simp) ?_
        simp only [Act.put, List.setIfInBounds_toArray, List.set_cons_zero, List.set_cons_succ]
        refine takeS 11 (some 15) (.pointer (some ⟨g, 5, none⟩)) rfl rfl (by kernel_rfl) (by kernel_rfl) (by kernel_rfl) (fun _ _ _ h => h) rfl (Chg.of_ext E138) (fun w' hw' => by go_simp) ?_
        simp only [Act.put, List.setIfInBounds_toArray, List.set_cons_zero, List.set_cons_succ]
        have ag := AG.out W137 E138
        have cc_ := C5.out W137 E138
        have zz_ := ag.frozen 5
        refine nextS 12 rfl (by kernel_rfl) rfl (storeR (w1 := W137.setCell ⟨g, 5, none⟩ (.slice ad145 ((0 + nac) + 1) cp146)) (by go_simp) ?_)
        simp only [Act.put]
        have S_ := (Chg.of_ext (X := fun i => i = g) E138).trans (Chg.setCell W137 g 5 (.slice ad145 ((0 + nac) + 1) cp146)) (fun _ _ h => h)
        refine ⟨S_, ?_⟩
        refine wpAnyH_done (by kernel_rfl) ?_ _
        exact key _ _ _ _ W137 (D_.trans E138) z139 (fun i hi => Nat.le_trans D_.size (hz140 i hi))
    · skip
      refine (makeR (some 12) rfl (.slice (some ⟨W0.heap.size, 0, none⟩) 1 1) (w1 := W0.alloc (.cells #[.int .i64 kd, .string p, .string b, .int .i64 f] 109)) (by go_simp) ?_)
      simp only [Act.put, List.setIfInBounds_toArray, List.set_cons_zero, List.set_cons_succ]
      have x_ : Ext W0 (W0.alloc (.cells #[.int .i64 kd, .string p, .string b, .int .i64 f] 109)) := Ext.alloc W0 _
      have a95 : At (W0.alloc (.cells #[.int .i64 kd, .string p, .string b, .int .i64 f] 109)) W0.heap.size #[.int .i64 kd, .string p, .string b, .int .i64 f] 109 := At.new W0 _ _
      have E93 := E0_.trans x_
      clear x_
      generalize W0.alloc (.cells #[.int .i64 kd, .string p, .string b, .int .i64 f] 109) = W92 at *
      generalize W0.heap.size = g94 at *
      refine ⟨(Chg.of_ext E93), ?_⟩
      refine nextS 1 rfl (by kernel_rfl) rfl (makeR (some 5) rfl (.slice (some ⟨W92.heap.size, 0, none⟩) 0 0) (w1 := W92.alloc (.cells #[] 109)) (by go_simp) ?_)
      simp only [Act.put, List.setIfInBounds_toArray, List.set_cons_zero, List.set_cons_succ]
      have x_ : Ext W92 (W92.alloc (.cells #[] 109)) := Ext.alloc W92 _
      have z150 : Row (W92.alloc (.cells #[] 109)) 109 4 (.slice (some ⟨W92.heap.size, 0, none⟩) 0 0) 0 [] := empty_row W92 109 4
      have hz151 : ∀ i, (Value.slice (some ⟨W92.heap.size, 0, none⟩) 0 0).ownBlock = some i → Base W0 ≤ i := fun i hi => by have q_ : some W92.heap.size = some i := hi; injection q_ with q_; have := E93.size; unfold Base; omega
      have ne152 : ∀ i, (Value.slice (some ⟨W92.heap.size, 0, none⟩) 0 0).ownBlock = some i → i ≠ g94 := fun i hi => by have q_ : some W92.heap.size = some i := hi; injection q_ with q_; have := a95.lt; omega
      replace a95 := a95.ext x_
      have E148 := E93.trans x_
      clear x_
      generalize W92.alloc (.cells #[] 109) = W147 at *
      generalize W92.heap.size = g149 at *
      refine ⟨(Chg.of_ext E148), ?_⟩
      obtain ⟨v160, W153, h157, z155, gr158⟩ := row_copy 60 Tryz.underlying60 info100 rfl z150 (SAc.out W147 E148) (by omega) (by omega)
      have ff159 := Grew.fresh gr158 E148 hz151
      have E154 := ff159.1
      have hz156 : ∀ i, v160.ownBlock = some i → Base W0 ≤ i := ff159.2
      clear ff159
      have ne161 := Grew.ne gr158 ne152 a95.lt
      have a_ := gr158.chg.at a95 (fun q => ne152 _ q rfl)
      clear a95
      have a95 := a_
      clear a_
      clear gr158
      obtain ⟨ad162, cp163, ev_, -⟩ := z155.shape
      subst ev_
      refine nextS 6 rfl (by kernel_rfl) rfl (appR (some 10) rfl (.tmp 5) (.tmp 9) 60 60 rfl _ _ rfl rfl _ _ h157 ?_)
      simp only [Act.put, List.setIfInBounds_toArray, List.set_cons_zero, List.set_cons_succ]
      clear h157 z150 hz151
      refine ⟨(Chg.of_ext E154), ?_⟩
      obtain ⟨v171, W164, h168, z166, gr169⟩ := row_copy 60 Tryz.underlying60 info100 rfl z155 (Src.ofSlice W153 Tryz.underlying60 ⟨g94, 0, none⟩ 1 1 [.int .i64 kd, .string p, .string b, .int .i64 f] rfl (fun q u hu => by rw [Addr.add_lit, Nat.zero_add, a95.cell, ← hu]; simp) (by simp [Value.oneCell'])) (by omega) (by omega)
      have ff170 := Grew.fresh gr169 E154 hz156
      have E165 := ff170.1
      have hz167 : ∀ i, v171.ownBlock = some i → Base W0 ≤ i := ff170.2
      clear ff170
      clear gr169
      obtain ⟨ad172, cp173, ev_, -⟩ := z166.shape
      subst ev_
      refine nextS 9 rfl (by kernel_rfl) rfl (appR (some 13) rfl (.tmp 10) (.tmp 12) 60 60 rfl _ _ rfl rfl _ _ h168 ?_)
      simp only [Act.put, List.setIfInBounds_toArray, List.set_cons_zero, List.set_cons_succ]
      clear h168 z155 hz156
      refine ⟨(Chg.of_ext E165), ?_⟩
      refine takeS 10 (some 14) (.pointer (some ⟨g, 0, none⟩)) rfl rfl (by kernel_rfl) (by kernel_rfl) (by kernel_rfl) (fun _ _ _ h => h) rfl (Chg.of_ext E165) (fun w' hw' => by go_simp) ?_
      simp only [Act.put, List.setIfInBounds_toArray, List.set_cons_zero, List.set_cons_succ]
      refine takeS 11 (some 15) (.pointer (some ⟨g, 5, none⟩)) rfl rfl (by kernel_rfl) (by kernel_rfl) (by kernel_rfl) (fun _ _ _ h => h) rfl (Chg.of_ext E165) (fun w' hw' => by go_simp) ?_
      simp only [Act.put, List.setIfInBounds_toArray, List.set_cons_zero, List.set_cons_succ]
      have ag := AG.out W164 E165
      have cc_ := C5.out W164 E165
      have zz_ := ag.frozen 5
      refine nextS 12 rfl (by kernel_rfl) rfl (storeR (w1 := W164.setCell ⟨g, 5, none⟩ (.slice ad172 ((0 + nac) + 1) cp173)) (by go_simp) ?_)
      simp only [Act.put]
      have S_ := (Chg.of_ext (X := fun i => i = g) E165).trans (Chg.setCell W164 g 5 (.slice ad172 ((0 + nac) + 1) cp173)) (fun _ _ h => h)
      refine ⟨S_, ?_⟩
      refine wpAnyH_done (by kernel_rfl) ?_ _
      exact key _ _ _ _ W164 (D_.trans E165) z166 (fun i hi => Nat.le_trans D_.size (hz167 i hi))
  · skip
    refine (makeR (some 12) rfl (.slice (some ⟨W0.heap.size, 0, none⟩) 1 1) (w1 := W0.alloc (.cells #[.int .i64 kd, .string p, .string b, .int .i64 f] 109)) (by go_simp) ?_)
    simp only [Act.put, List.setIfInBounds_toArray, List.set_cons_zero, List.set_cons_succ]
    have x_ : Ext W0 (W0.alloc (.cells #[.int .i64 kd, .string p, .string b, .int .i64 f] 109)) := Ext.alloc W0 _
    have a9 : At (W0.alloc (.cells #[.int .i64 kd, .string p, .string b, .int .i64 f] 109)) W0.heap.size #[.int .i64 kd, .string p, .string b, .int .i64 f] 109 := At.new W0 _ _
    have E7 := E0_.trans x_
    clear x_
    generalize W0.alloc (.cells #[.int .i64 kd, .string p, .string b, .int .i64 f] 109) = W6 at *
    generalize W0.heap.size = g8 at *
    refine ⟨(Chg.of_ext E7), ?_⟩
    refine nextR2 1 5 rfl rfl (by kernel_rfl) rfl rfl ?_ ?_
    · skip
      refine (makeR (some 5) rfl (.slice (some ⟨W6.heap.size, 0, none⟩) 0 0) (w1 := W6.alloc (.cells #[] 109)) (by go_simp) ?_)
      simp only [Act.put, List.setIfInBounds_toArray, List.set_cons_zero, List.set_cons_succ]
      have x_ : Ext W6 (W6.alloc (.cells #[] 109)) := Ext.alloc W6 _
      have z177 : Row (W6.alloc (.cells #[] 109)) 109 4 (.slice (some ⟨W6.heap.size, 0, none⟩) 0 0) 0 [] := empty_row W6 109 4
      have hz178 : ∀ i, (Value.slice (some ⟨W6.heap.size, 0, none⟩) 0 0).ownBlock = some i → Base W0 ≤ i := fun i hi => by have q_ : some W6.heap.size = some i := hi; injection q_ with q_; have := E7.size; unfold Base; omega
      have ne179 : ∀ i, (Value.slice (some ⟨W6.heap.size, 0, none⟩) 0 0).ownBlock = some i → i ≠ g8 := fun i hi => by have q_ : some W6.heap.size = some i := hi; injection q_ with q_; have := a9.lt; omega
      replace a9 := a9.ext x_
      have E175 := E7.trans x_
      clear x_
      generalize W6.alloc (.cells #[] 109) = W174 at *
      generalize W6.heap.size = g176 at *
      refine ⟨(Chg.of_ext E175), ?_⟩
      refine nextS 5 rfl (by kernel_rfl) rfl (makeR (some 9) rfl (.slice dac nac cac) (w1 := W174) (by have c5 := C5.out W174 E175; go_simp) ?_)
      simp only [Act.put, List.setIfInBounds_toArray, List.set_cons_zero, List.set_cons_succ]
      refine ⟨(Chg.of_ext E175), ?_⟩
      obtain ⟨v187, W180, h184, z182, gr185⟩ := row_copy 60 Tryz.underlying60 info100 rfl z177 (SAc.out W174 E175) (by omega) (by omega)
      have ff186 := Grew.fresh gr185 E175 hz178
      have E181 := ff186.1
      have hz183 : ∀ i, v187.ownBlock = some i → Base W0 ≤ i := ff186.2
      clear ff186
      have ne188 := Grew.ne gr185 ne179 a9.lt
      have a_ := gr185.chg.at a9 (fun q => ne179 _ q rfl)
      clear a9
      have a9 := a_
      clear a_
      clear gr185
      obtain ⟨ad189, cp190, ev_, -⟩ := z182.shape
      subst ev_
      refine nextS 6 rfl (by kernel_rfl) rfl (appR (some 10) rfl (.tmp 5) (.tmp 9) 60 60 rfl _ _ rfl rfl _ _ h184 ?_)
      simp only [Act.put, List.setIfInBounds_toArray, List.set_cons_zero, List.set_cons_succ]
      clear h184 z177 hz178
      refine ⟨(Chg.of_ext E181), ?_⟩
      obtain ⟨v198, W191, h195, z193, gr196⟩ := row_copy 60 Tryz.underlying60 info100 rfl z182 (Src.ofSlice W180 Tryz.underlying60 ⟨g8, 0, none⟩ 1 1 [.int .i64 kd, .string p, .string b, .int .i64 f] rfl (fun q u hu => by rw [Addr.add_lit, Nat.zero_add, a9.cell, ← hu]; simp) (by simp [Value.oneCell'])) (by omega) (by omega)
      have ff197 := Grew.fresh gr196 E181 hz183
      have E192 := ff197.1
      have hz194 : ∀ i, v198.ownBlock = some i → Base W0 ≤ i := ff197.2
      clear ff197
      clear gr196
      obtain ⟨ad199, cp200, ev_, -⟩ := z193.shape
      subst ev_
      refine nextS 9 rfl (by kernel_rfl) rfl (appR (some 13) rfl (.tmp 10) (.tmp 12) 60 60 rfl _ _ rfl rfl _ _ h195 ?_)
      simp only [Act.put, List.setIfInBounds_toArray, List.set_cons_zero, List.set_cons_succ]
      clear h195 z182 hz183
      refine ⟨(Chg.of_ext E192), ?_⟩
      refine takeS 10 (some 14) (.pointer (some ⟨g, 0, none⟩)) rfl rfl (by kernel_rfl) (by kernel_rfl) (by kernel_rfl) (fun _ _ _ h => h) rfl (Chg.of_ext E192) (fun w' hw' => by go_simp) ?_
      simp only [Act.put, List.setIfInBounds_toArray, List.set_cons_zero, List.set_cons_succ]
      refine takeS 11 (some 15) (.pointer (some ⟨g, 5, none⟩)) rfl rfl (by kernel_rfl) (by kernel_rfl) (by kernel_rfl) (fun _ _ _ h => h) rfl (Chg.of_ext E192) (fun w' hw' => by go_simp) ?_
      simp only [Act.put, List.setIfInBounds_toArray, List.set_cons_zero, List.set_cons_succ]
      have ag := AG.out W191 E192
      have cc_ := C5.out W191 E192
      have zz_ := ag.frozen 5
      refine nextS 12 rfl (by kernel_rfl) rfl (storeR (w1 := W191.setCell ⟨g, 5, none⟩ (.slice ad199 ((0 + nac) + 1) cp200)) (by go_simp) ?_)
      simp only [Act.put]
      have S_ := (Chg.of_ext (X := fun i => i = g) E192).trans (Chg.setCell W191 g 5 (.slice ad199 ((0 + nac) + 1) cp200)) (fun _ _ h => h)
      refine ⟨S_, ?_⟩
      refine wpAnyH_done (by kernel_rfl) ?_ _
      exact key _ _ _ _ W191 (D_.trans E192) z193 (fun i hi => Nat.le_trans D_.size (hz194 i hi))
    · skip
      refine (makeR (some 9) rfl (.slice dac nac cac) (w1 := W6) (by have c5 := C5.out W6 E7; go_simp) ?_)
      simp only [Act.put, List.setIfInBounds_toArray, List.set_cons_zero, List.set_cons_succ]
      refine ⟨(Chg.of_ext E7), ?_⟩
      refine nextS 1 rfl (by kernel_rfl) rfl (makeR (some 5) rfl (.slice (some ⟨W6.heap.size, 0, none⟩) 0 0) (w1 := W6.alloc (.cells #[] 109)) (by go_simp) ?_)
      simp only [Act.put, List.setIfInBounds_toArray, List.set_cons_zero, List.set_cons_succ]
      have x_ : Ext W6 (W6.alloc (.cells #[] 109)) := Ext.alloc W6 _
      have z204 : Row (W6.alloc (.cells #[] 109)) 109 4 (.slice (some ⟨W6.heap.size, 0, none⟩) 0 0) 0 [] := empty_row W6 109 4
      have hz205 : ∀ i, (Value.slice (some ⟨W6.heap.size, 0, none⟩) 0 0).ownBlock = some i → Base W0 ≤ i := fun i hi => by have q_ : some W6.heap.size = some i := hi; injection q_ with q_; have := E7.size; unfold Base; omega
      have ne206 : ∀ i, (Value.slice (some ⟨W6.heap.size, 0, none⟩) 0 0).ownBlock = some i → i ≠ g8 := fun i hi => by have q_ : some W6.heap.size = some i := hi; injection q_ with q_; have := a9.lt; omega
      replace a9 := a9.ext x_
      have E202 := E7.trans x_
      clear x_
      generalize W6.alloc (.cells #[] 109) = W201 at *
      generalize W6.heap.size = g203 at *
      refine ⟨(Chg.of_ext E202), ?_⟩
      obtain ⟨v214, W207, h211, z209, gr212⟩ := row_copy 60 Tryz.underlying60 info100 rfl z204 (SAc.out W201 E202) (by omega) (by omega)
      have ff213 := Grew.fresh gr212 E202 hz205
      have E208 := ff213.1
      have hz210 : ∀ i, v214.ownBlock = some i → Base W0 ≤ i := ff213.2
      clear ff213
      have ne215 := Grew.ne gr212 ne206 a9.lt
      have a_ := gr212.chg.at a9 (fun q => ne206 _ q rfl)
      clear a9
      have a9 := a_
      clear a_
      clear gr212
      obtain ⟨ad216, cp217, ev_, -⟩ := z209.shape
      subst ev_
      refine nextS 6 rfl (by kernel_rfl) rfl (appR (some 10) rfl (.tmp 5) (.tmp 9) 60 60 rfl _ _ rfl rfl _ _ h211 ?_)
      simp only [Act.put, List.setIfInBounds_toArray, List.set_cons_zero, List.set_cons_succ]
      clear h211 z204 hz205
      refine ⟨(Chg.of_ext E208), ?_⟩
      obtain ⟨v225, W218, h222, z220, gr223⟩ := row_copy 60 Tryz.underlying60 info100 rfl z209 (Src.ofSlice W207 Tryz.underlying60 ⟨g8, 0, none⟩ 1 1 [.int .i64 kd, .string p, .string b, .int .i64 f] rfl (fun q u hu => by rw [Addr.add_lit, Nat.zero_add, a9.cell, ← hu]; simp) (by simp [Value.oneCell'])) (by omega) (by omega)
      have ff224 := Grew.fresh gr223 E208 hz210
      have E219 := ff224.1
      have hz221 : ∀ i, v225.ownBlock = some i → Base W0 ≤ i := ff224.2
      clear ff224
      clear gr223
      obtain ⟨ad226, cp227, ev_, -⟩ := z220.shape
      subst ev_
      refine nextS 9 rfl (by kernel_rfl) rfl (appR (some 13) rfl (.tmp 10) (.tmp 12) 60 60 rfl _ _ rfl rfl _ _ h222 ?_)
      simp only [Act.put, List.setIfInBounds_toArray, List.set_cons_zero, List.set_cons_succ]
      clear h222 z209 hz210
      refine ⟨(Chg.of_ext E219), ?_⟩
      refine takeS 10 (some 14) (.pointer (some ⟨g, 0, none⟩)) rfl rfl (by kernel_rfl) (by kernel_rfl) (by kernel_rfl) (fun _ _ _ h => h) rfl (Chg.of_ext E219) (fun w' hw' => by go_simp) ?_
      simp only [Act.put, List.setIfInBounds_toArray, List.set_cons_zero, List.set_cons_succ]
      refine takeS 11 (some 15) (.pointer (some ⟨g, 5, none⟩)) rfl rfl (by kernel_rfl) (by kernel_rfl) (by kernel_rfl) (fun _ _ _ h => h) rfl (Chg.of_ext E219) (fun w' hw' => by go_simp) ?_
      simp only [Act.put, List.setIfInBounds_toArray, List.set_cons_zero, List.set_cons_succ]
      have ag := AG.out W218 E219
      have cc_ := C5.out W218 E219
      have zz_ := ag.frozen 5
      refine nextS 12 rfl (by kernel_rfl) rfl (storeR (w1 := W218.setCell ⟨g, 5, none⟩ (.slice ad226 ((0 + nac) + 1) cp227)) (by go_simp) ?_)
      simp only [Act.put]
      have S_ := (Chg.of_ext (X := fun i => i = g) E219).trans (Chg.setCell W218 g 5 (.slice ad226 ((0 + nac) + 1) cp227)) (fun _ _ h => h)
      refine ⟨S_, ?_⟩
      refine wpAnyH_done (by kernel_rfl) ?_ _
      exact key _ _ _ _ W218 (D_.trans E219) z220 (fun i hi => Nat.le_trans D_.size (hz221 i hi))
end Go.Proofs.YtbneedmfpldpfaaGreatDoor

set_option linter.unusedSimpArgs false
set_option linter.unusedVariables false
namespace Go.Proofs.YtbneedmfpldpfaaGreatDoor
open Go.RowKit Go.Pth

theorem row_setK {w : World} {e : TypeId} {k g cap n : Nat} {xs : List Value} (h : Row w e k (.slice (some ⟨g, 0, none⟩) n cap) n xs) (o : Nat) (vs : List Value) (hl : o + vs.length ≤ n * k) :
    Row (w.setCells g o vs) e k (.slice (some ⟨g, 0, none⟩) n cap) n (xs.take o ++ vs ++ xs.drop (o + vs.length)) := by
  have hx : xs.length = n * k := h.1
  rcases h.2 with ⟨h1, h2⟩ | ⟨g', cap', cur, hv, hb, hg, hn, hc, hcs, hxs⟩
  · cases h1
  · injection hv with h1 h3 h4
    injection h1 with h1
    injection h1 with h1
    subst h1 h4
    have hat : At w g cur e := hg
    have hnk : n * k ≤ cap * k := Nat.mul_le_mul_right _ hn
    refine ⟨by simp [hx]; omega, .inr ⟨g, cap, _, rfl, hb, At.sets vs o w cur hat (by omega), hn, hc, ?_, ?_⟩⟩
    · simp; omega
    · rw [← hxs]
      have hcl : cur.toList.length = cap * k := by simp [hcs]
      rw [List.take_append, List.take_append, List.take_take, List.drop_take]
      simp only [List.length_append, List.length_take, hcl]
      rw [Nat.min_eq_right (by omega : o ≤ n * k), Nat.min_eq_left (by omega : o ≤ cap * k), List.take_of_length_le (l := vs) (by omega)]
      simp only [List.take_take, Nat.min_eq_left (by omega : o ≤ n * k)]
theorem row_own {w : World} {e : TypeId} {k : Nat} {v : Value} {n : Nat} {xs : List Value} (h : Row w e k v n xs) (hn : 0 < n) : ∃ g cap, v = .slice (some ⟨g, 0, none⟩) n cap ∧ n ≤ cap ∧ cap ≤ maxLen := by
  rcases h.2 with ⟨_, h2⟩ | ⟨g, cap, cur, hv, _, _, h1, h2, _⟩
  · omega
  · exact ⟨g, cap, hv, h1, h2⟩
theorem row_there {w : World} {e : TypeId} {k g cap n : Nat} {xs : List Value} (h : Row w e k (.slice (some ⟨g, 0, none⟩) n cap) n xs) (o m : Nat) (ho : o + m ≤ n * k) : w.there g o m := by
  rcases h.2 with ⟨h1, h2⟩ | ⟨g', cap', cur, hv, hb, hg, hn, hc, hcs, hxs⟩
  · cases h1
  · injection hv with h1 h3 h4
    injection h1 with h1
    injection h1 with h1
    subst h1 h4
    have hat : At w g cur e := hg
    have hnk : n * k ≤ cap * k := Nat.mul_le_mul_right _ hn
    intro i hi
    exact ⟨by rw [hat.cell, Array.getElem?_eq_getElem (by omega)]; rfl, hat.frozen _⟩
theorem rfs_set (l : List RF) (j : Nat) (X : RF) (hj : j < l.length) : (rfs l).take (j * 6) ++ rfc X ++ (rfs l).drop (j * 6 + (rfc X).length) = rfs (l.set j X) := by
  rw [rfc_len, show j * 6 + 6 = (j + 1) * 6 by omega]
  unfold rfs
  rw [flat_take rfc 6 rfc_len, flat_drop rfc 6 rfc_len, List.set_eq_take_append_cons_drop, if_pos hj, List.flatMap_append, List.flatMap_cons, List.append_assoc]
theorem rfc_arr (X : RF) : (rfc X).toArray = #[.int .i64 X.kind, .int .i64 X.mt, .int .u64 X.st, X.b, X.s, X.d] := rfl
theorem size106 : (Tryz.prog.info? 106).map (·.size) = some 6 := by kernel_rfl
theorem rfc_one {w : World} {F : Nat → Prop} {X : RF} (h : RFIn w F X) : ∀ u ∈ rfc X, u.oneCell' = true := by
  intro u hu
  have : u ∈ rfs [X] := by unfold rfs; rw [List.flatMap_cons, List.flatMap_nil, List.append_nil]; exact hu
  exact rfs_one (l := [X]) (fun f hf => by rw [List.mem_singleton.1 hf]; exact h) u this

set_option maxRecDepth 100000 in
set_option maxHeartbeats 8000000 in
theorem rset_any (g : Nat) (R : RV) (F : Nat → Prop) (k j : Nat) (X : RF) (w : World) (h : RRep w g R F k) (hk : k ≤ 1000) (hj : j < R.files.length) (hX : RFIn w F X) :
    Calls Tryz.prog 69 #[ptr g, .int .i64 j, .agg #[.int .i64 X.kind, .int .i64 X.mt, .int .u64 X.st, X.b, X.s, X.d]] w fun e w' => e = .returned (.tuple #[]) ∧ RPost w g F k w' := by
  have hlf := h.lf
  have hgw : g < w.heap.size := h.cell.lt
  have e0 : Ext w (w.alloc (.cells #[.int .i64 X.kind, .int .i64 X.mt, .int .u64 X.st, X.b, X.s, X.d] 106)) := Ext.alloc w _
  have a5 := At.new w #[.int .i64 X.kind, .int .i64 X.mt, .int .u64 X.st, X.b, X.s, X.d] 106
  obtain ⟨w1, hw1⟩ : ∃ w1, w1 = w.alloc (.cells #[.int .i64 X.kind, .int .i64 X.mt, .int .u64 X.st, X.b, X.s, X.d] 106) := ⟨_, rfl⟩
  rw [← hw1] at e0 a5
  have e1 : Ext w1 (w1.alloc (.cells #[] 106)) := Ext.alloc w1 _
  obtain ⟨v', w3, h1, h2, h3⟩ := row_copy 58 Tryz.underlying58 info97 rfl (empty_row w1 106 6) (Row.src (h.fr.ext (e0.trans e1)) (rfs_one h.ff) Tryz.underlying58) (by omega) (by omega)
  have f3 := fresh2 h3
  rw [Nat.zero_add, List.nil_append] at h2
  obtain ⟨b5, c5, rfl, hc1, hc2⟩ := row_own h2 (by omega)
  have hb5 : w1.heap.size ≤ b5 := f3.2 b5 rfl
  have ew3 : Ext w w3 := e0.trans f3.1
  have hgb : g < b5 := by have := e0.size; omega
  have ag3 := h.cell.ext ew3
  have c2w : (w1.alloc (.cells #[] 106)).cell? ⟨g, 2, none⟩ = some R.fs := ((h.ext (e0.trans e1)).c 2)
  have z2w : w3.frozen? ⟨g, 2, none⟩ = false := ag3.frozen 2
  have c2w3 : w3.cell? ⟨g, 2, none⟩ = some R.fs := ag3.cell 2
  obtain ⟨df, cf, hvf, -⟩ := h.fr.shape
  have a53 : At w3 w.heap.size #[.int .i64 X.kind, .int .i64 X.mt, .int .u64 X.st, X.b, X.s, X.d] 106 := a5.ext f3.1
  have ag4 := ag3.set 2 (.slice (some ⟨b5, 0, none⟩) R.files.length c5)
  have s4 := Chg.setCell w3 g 2 (.slice (some ⟨b5, 0, none⟩) R.files.length c5)
  have r4 := h2.chg s4 (fun i hi e => by have : some b5 = some i := hi; injection this; omega)
  have a54 := s4.at a53 (by omega)
  have hin := rfs_set R.files j X hj
  have HX := Lib.hid hX
  have FIN := Lib.hid (show ∀ W, W = w3.setCell ⟨g, 2, none⟩ (.slice (some ⟨b5, 0, none⟩) R.files.length c5) → ∀ W0, Ext W W0 → RPost w g F k (W0.setCells b5 (j * 6) (rfc X)) from by
    intro W hW W0 eW
    subst hW
    have s5 := Chg.sets b5 (rfc X) (j * 6) W0
    have cw : Chg (fun i => i = g) w (W0.setCells b5 (j * 6) (rfc X)) := by
      have q1 := ((Chg.of_ext (X := fun i => i = g) ew3).trans s4 (fun _ _ h => h)).trans (Chg.of_ext eW) (fun _ _ h => h)
      exact q1.trans s5 (fun i hi e => by have := ew3.size; have h0 := e0.size; omega)
    have r5 := row_setK (r4.ext eW) (j * 6) (rfc X) (by rw [rfc_len]; omega)
    rw [hin] at r5
    have hlen : (R.files.set j X).length = R.files.length := List.length_set
    refine ⟨_, _, h.refiles cw (vf := .slice (some ⟨b5, 0, none⟩) R.files.length c5) (fl := R.files.set j X) (lc := R.last) ?_ (by rw [hlen]; exact r5) (fun i hi => by have : some b5 = some i := hi; injection this; have := e0.size; omega) (fun f hf => ?_) (by rw [hlen]; exact Nat.le_refl _) (Nat.le_refl k) (by rw [hlen]; exact h.lf) h.lc, cw, fun i hi => hi.imp id fun q => q.1⟩
    · have := s5.at (ag4.ext eW) (by omega)
      exact this
    · rcases List.mem_or_eq_of_mem_set hf with q | q
      · exact Or.inl q
      · right; rw [q]
        exact (HX.out.keep (h.apart cw)).mono fun i hi => Or.inl hi)
  have R1 := Lib.hid h1
  have HA5 := Lib.hid a54
  have HR4 := Lib.hid r4
  have hcc : (rsc R).setIfInBounds 2 (.slice (some ⟨b5, 0, none⟩) R.files.length c5) = rsc { R with fs := .slice (some ⟨b5, 0, none⟩) R.files.length c5 } := rfl
  have HA4 := Lib.hid ag4
  rw [hvf] at c2w c2w3 R1
  have HX1 := Lib.hid (rfc_one hX)
  have j0 : (0 : Int) ≤ (j : Int) := by omega
  have j1 : (j : Int) < (R.files.length : Int) := by omega
  have j2 : j < R.files.length := hj
  simp only [maxLen] at hc2
  have HLT := Lib.hid (show w.heap.size ≤ b5 ∧ ¬ w.heap.size = b5 ∧ j * 6 + 6 ≤ R.files.length * 6 from by
    have := e0.size
    have h0 : w1.heap.size = w.heap.size + 1 := by rw [hw1]; exact size_alloc _ _
    omega)
  have HW1 := Lib.hid hw1.symm
  clear h hX hin h2 h3 f3 ew3 ag3 r4 s4 a53 a54 a5 ag4 e0 e1 hcc hb5 hgb hvf h1 hw1
  generalize R.files.length = n at *
  unfold ptr
  go_enter Tryz.func69, Tryz.ntmps69
  go_upto_region 1 with fail
  rw [HW1.out]
  go_wp2_with (at_builtin; refine Lib.wpList_append_run _ rfl _ _ _ _ rfl _ _ rfl rfl _ _ R1.out ?_)
  obtain ⟨W, hW⟩ : ∃ W, W = w3.setCell ⟨g, 2, none⟩ (.slice (some ⟨b5, 0, none⟩) n c5) := ⟨_, rfl⟩
  have HW := Lib.hid hW
  rw [← hW] at HA5 HR4 HA4 ⊢
  clear hW c2w c2w3 z2w
  refine wp_region_held (S := Chg (fun i => i = b5) W) (by kernel_rfl) ?_
  change wpAnyH _ _ _ _ _ _ _ _ W.drew
  have D_ := Lib.hid (Ext.drew W)
  have S0 : Chg (fun i => i = b5) W W.drew := Chg.of_ext (Ext.drew W)
  have ag := HA4.out.ext (Ext.drew W)
  have A5 := Lib.hid (fun (w' : World) (hw' : Chg (fun i => i = b5) W w') => hw'.at HA5.out HLT.out.2.1)
  have RR := Lib.hid (HR4.out.ext (Ext.drew W))
  have FN := Lib.hid (FIN.out W HW.out W.drew (Ext.drew W))
  generalize W.drew = W0 at *
  generalize w.heap.size = b1 at *
  refine takeS 0 (some 15) (.pointer (some ⟨g, 0, none⟩)) rfl rfl (by kernel_rfl) (by kernel_rfl) (by kernel_rfl) (fun _ _ _ h => h) rfl S0 (fun w' hw' => by go_simp) ?_
  simp only [Act.put, List.setIfInBounds_toArray, List.set_cons_zero, List.set_cons_succ]
  refine takeS 1 (some 16) (.pointer (some ⟨g, 0, none⟩)) rfl rfl (by kernel_rfl) (by kernel_rfl) (by kernel_rfl) (fun _ _ _ h => h) rfl S0 (fun w' hw' => by go_simp) ?_
  simp only [Act.put, List.setIfInBounds_toArray, List.set_cons_zero, List.set_cons_succ]
  refine takeS 2 (some 17) (.pointer (some ⟨g, 2, none⟩)) rfl rfl (by kernel_rfl) (by kernel_rfl) (by kernel_rfl) (fun _ _ _ h => h) rfl S0 (fun w' hw' => by go_simp) ?_
  simp only [Act.put, List.setIfInBounds_toArray, List.set_cons_zero, List.set_cons_succ]
  refine takeS 4 (some 19) (.int .i64 j) rfl rfl (by kernel_rfl) (by kernel_rfl) (by kernel_rfl) (fun _ _ _ h => h) rfl S0 (fun w' hw' => by go_simp) ?_
  simp only [Act.put, List.setIfInBounds_toArray, List.set_cons_zero, List.set_cons_succ]
  refine takeS 5 (some 20) (.agg #[.int .i64 X.kind, .int .i64 X.mt, .int .u64 X.st, X.b, X.s, X.d]) rfl rfl (by kernel_rfl) (by kernel_rfl) (by kernel_rfl) (fun _ _ _ h => h) rfl S0 (fun w' hw' => by have c0 := (A5.out w' hw').cell 0; have c1 := (A5.out w' hw').cell 1; have c2 := (A5.out w' hw').cell 2; have c3 := (A5.out w' hw').cell 3; have c4 := (A5.out w' hw').cell 4; have c5 := (A5.out w' hw').cell 5; go_simp) ?_
  simp only [Act.put, List.setIfInBounds_toArray, List.set_cons_zero, List.set_cons_succ]
  have c2_ : W0.cell? ⟨g, 2, none⟩ = some (.slice (some ⟨b5, 0, none⟩) n c5) := by rw [ag.cell 2]; rfl
  refine nextS 3 rfl (by kernel_rfl) rfl (makeR (some 18) rfl (.slice (some ⟨b5, 0, none⟩) n c5) (w1 := W0) (by go_simp) ?_)
  simp only [Act.put, List.setIfInBounds_toArray, List.set_cons_zero, List.set_cons_succ]
  refine ⟨S0, ?_⟩
  clear c2_
  refine takeS 6 (some 21) (.pointer (some ⟨b5, j * 6, none⟩)) rfl rfl (by kernel_rfl) (by kernel_rfl) (by kernel_rfl) (fun _ _ _ h => h) rfl S0 (fun w' hw' => by go_simp) ?_
  simp only [Act.put, List.setIfInBounds_toArray, List.set_cons_zero, List.set_cons_succ]
  refine nextS 7 rfl (by kernel_rfl) rfl (wp_store_mid 106 (.tmp 21) (.tmp 20) rfl b5 (j * 6) (rfc X).toArray rfl rfl (row_there RR.out _ _ (by show j * 6 + (rfc X).toArray.size ≤ n * 6; rw [rfc_arr]; exact HLT.out.2.2)) (by exact size106) (all_oneCell_toArray HX1.out) ?_)
  simp only [Act.put]
  have S2 := S0.trans (Chg.sets b5 (rfc X) (j * 6) W0) (fun _ _ h => h)
  refine ⟨S2, ?_⟩
  refine wpAnyH_done (by kernel_rfl) ?_ _
  clear S2 S0 ag
  go_wp2
  go_end0
  exact ⟨rfl, FN.out⟩
end Go.Proofs.YtbneedmfpldpfaaGreatDoor
