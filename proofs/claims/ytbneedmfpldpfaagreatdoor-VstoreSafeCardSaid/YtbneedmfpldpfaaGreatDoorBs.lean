/- does: each step of the law, on both stores. -/
import Derived.Test.YtbneedmfpldpfaaGreatDoorBr
import Derived.Test.YtbneedmfpldpfaaGreatDoorBp
import Derived.Test.YtbneedmfpldpfaaGreatDoorBq
set_option linter.unusedSimpArgs false
set_option linter.unusedVariables false
namespace Go.Proofs.YtbneedmfpldpfaaGreatDoor
open Go.RowKit Go.Pth

/-- What does leaves. -/
def DoesR (w : World) (b g k : Nat) (q : B) (a : Nat) (N : NV) (base pp : Nat) (e : Ending) (w' : World) : Prop := (∃ n1 n2 : Int, e = .returned (.tuple #[.int .i64 n1, .int .i64 n2])) ∧ Two w' b g (k + 1) q a N base pp ∧ Chg (fun i => base ≤ i ∧ i ≠ pp) w w'
set_option maxRecDepth 100000 in
set_option maxHeartbeats 8000000 in
theorem does_1 (b g k : Nat) (q : B) (a : Nat) (N : NV) (base pp : Nat) (w : World) (p t : ByteArray) (m y : Int) (x : List Int) (adx : Option Addr) (nx capx bx ox : Nat) (h2 : Two w b g k q a N base pp) (hk : k ≤ 80) (hq : (47 : UInt8) ∉ q) (hpq : p.toList ≠ q) (ht : t.size ≤ 1000000) (hy : 0 ≤ y ∧ y < 256) (hnx : nx = x.length) (hx : Bin w (.slice adx x.length capx) x adx capx bx ox) (hbx : bx < base) (hbyt : ∀ z ∈ x, 0 ≤ z ∧ z < 256) (hxn : x.length ≤ 1000000) (hbw : base ≤ w.heap.size) :
    Calls Tryz.prog 14 #[ptr b, ptr g, .agg #[.int .i64 1, .string p, .string t, .slice adx nx capx, .int .i64 m, .int .u8 y]] w (DoesR w b g k q a N base pp) := by
  obtain ⟨S, V, L, R, F, h, hg, r, hL, hF, hb, hgb⟩ := h2
  have e0 : Ext w (w.alloc (.cells #[.int .i64 1, .string p, .string t, .slice adx nx capx, .int .i64 m, .int .u8 y] 44)) := Ext.alloc w _
  have a0 := At.new w #[.int .i64 1, .string p, .string t, .slice adx nx capx, .int .i64 m, .int .u8 y] 44
  have nb : ¬ w.heap.size = g := by have := r.cell.lt; omega
  have nL : L w.heap.size = none := by
    cases hc : L w.heap.size with
    | none => rfl
    | some z => have := h.lt w.heap.size (by rw [hc]; simp); omega
  have hLx : L bx = none := by
    cases hc : L bx with
    | none => rfl
    | some z => have := hb bx (by rw [hc]; simp); omega
  have c0 := a0.cell 0
  have HH := Lib.hid (And.intro h (And.intro hg (And.intro r (And.intro hL (And.intro hF (And.intro hb hx))))))
  have HNX := Lib.hid hnx
  clear h hg r hL hF hb hx hnx
  unfold ptr
  go_enter Tryz.func14, Tryz.ntmps14
  go_wp2_with fail
  clear c0
  generalize w.alloc (.cells #[.int .i64 1, .string p, .string t, .slice adx nx capx, .int .i64 m, .int .u8 y] 44) = w0 at *
  generalize w.heap.size = b5 at *
  refine wp_region_held (S := fun w' => At w' b5 #[.int .i64 1, .string p, .string t, .slice adx nx capx, .int .i64 m, .int .u8 y] 44) (by kernel_rfl) ?_
  change wpAnyH _ _ _ _ _ _ _ _ w0.drew
  have S0 : At w0.drew b5 #[.int .i64 1, .string p, .string t, .slice adx nx capx, .int .i64 m, .int .u8 y] 44 := a0
  have h0 := HH.out.1.ext (e0.trans (Ext.drew w0))
  have hg := HH.out.2.1
  have r0 := HH.out.2.2.1.ext (e0.trans (Ext.drew w0))
  have hx0 := HH.out.2.2.2.2.2.2.ext (e0.trans (Ext.drew w0))
  have E0 := Lib.hid (Chg.of_ext (X := fun i => base ≤ i ∧ i ≠ pp) (e0.trans (Ext.drew w0)))
  have sz0 : w0.drew.heap.size = w0.heap.size := rfl
  have CC := Lib.hid (vcreate b S V L k q a N _ h0 hg (by omega) p)
  unfold ptr at CC
  generalize w0.drew = W0 at *
  refine takeS 0 (some 12) (.pointer (some ⟨b, 0, none⟩)) rfl rfl (by kernel_rfl) (by kernel_rfl) (by kernel_rfl) (fun _ _ _ h => h) rfl S0 (fun w' hw' => by go_simp) ?_
  simp only [Act.put, List.setIfInBounds_toArray, List.set_cons_zero, List.set_cons_succ]
  refine takeS 1 (some 13) (.pointer (some ⟨b5, 1, none⟩)) rfl rfl (by kernel_rfl) (by kernel_rfl) (by kernel_rfl) (fun _ _ _ h => h) rfl S0 (fun w' hw' => by go_simp) ?_
  simp only [Act.put, List.setIfInBounds_toArray, List.set_cons_zero, List.set_cons_succ]
  refine takeS 2 (some 14) (.string p) rfl rfl (by kernel_rfl) (by kernel_rfl) (by kernel_rfl) (fun _ _ _ h => h) rfl S0 (fun w' hw' => by have c_ := hw'.cell 1; go_simp) ?_
  simp only [Act.put, List.setIfInBounds_toArray, List.set_cons_zero, List.set_cons_succ]
  refine takeS 4 (some 16) (.pointer (some ⟨g, 0, none⟩)) rfl rfl (by kernel_rfl) (by kernel_rfl) (by kernel_rfl) (fun _ _ _ h => h) rfl S0 (fun w' hw' => by go_simp) ?_
  simp only [Act.put, List.setIfInBounds_toArray, List.set_cons_zero, List.set_cons_succ]
  refine takeS 5 (some 17) (.pointer (some ⟨b5, 1, none⟩)) rfl rfl (by kernel_rfl) (by kernel_rfl) (by kernel_rfl) (fun _ _ _ h => h) rfl S0 (fun w' hw' => by go_simp) ?_
  simp only [Act.put, List.setIfInBounds_toArray, List.set_cons_zero, List.set_cons_succ]
  refine takeS 6 (some 18) (.string p) rfl rfl (by kernel_rfl) (by kernel_rfl) (by kernel_rfl) (fun _ _ _ h => h) rfl S0 (fun w' hw' => by have c_ := hw'.cell 1; go_simp) ?_
  simp only [Act.put, List.setIfInBounds_toArray, List.set_cons_zero, List.set_cons_succ]
  refine nextS 3 rfl (by kernel_rfl) rfl (callS (some 15) rfl 8 #[.pointer (some ⟨b, 0, none⟩), .string p] (by go_simp) (fun v w' => (∃ n : Int, v = .int .i64 n) ∧ VO W0 b k q a N L w') ((CC.out).mono fun e w' he => by obtain ⟨⟨n_, h1_⟩, h2_⟩ := he; exact ⟨_, h1_, ⟨n_, rfl⟩, h2_⟩) ?_)
  rintro v1_ w1 ⟨⟨n1, rfl⟩, v1⟩
  simp only [Act.put, List.setIfInBounds_toArray, List.set_cons_zero, List.set_cons_succ]
  have A1 : At w1 b5 #[.int .i64 1, .string p, .string t, .slice adx nx capx, .int .i64 m, .int .u8 y] 44 := by obtain ⟨_, _, _, _, _, h3_⟩ := v1; exact h3_.chg.at S0 (by rw [nL]; simp)
  refine ⟨A1, ?_⟩
  obtain ⟨S1, V1, L1, R1, F1, m1, m2, m3, m4, m5, m6, m7, m8⟩ := Two.mid h0 r0 HH.out.2.2.2.1 HH.out.2.2.2.2.1 HH.out.2.2.2.2.2.1 ⟨hgb.1, hgb.2.1, Nat.lt_trans hgb.2.2 S0.lt⟩ v1
  have CD := Lib.hid (rmake_all g R1 F1 (10 * k) p 1 _ m3 (by omega))
  unfold ptr at CD
  refine nextS 7 rfl (by kernel_rfl) rfl (callS (some 19) rfl 30 #[.pointer (some ⟨g, 0, none⟩), .string p, .int .i64 1] (by go_simp) (fun v w' => (∃ n : Int, v = .int .i64 n) ∧ RPost w1 g F1 (10 * k + 10) w') ((CD.out).mono fun e w' he => by obtain ⟨⟨n_, h1_⟩, h2_⟩ := he; exact ⟨_, h1_, ⟨n_, rfl⟩, h2_⟩) ?_)
  rintro v2_ w2 ⟨⟨n2, rfl⟩, p2⟩
  simp only [Act.put, List.setIfInBounds_toArray, List.set_cons_zero, List.set_cons_succ]
  have A2 : At w2 b5 #[.int .i64 1, .string p, .string t, .slice adx nx capx, .int .i64 m, .int .u8 y] 44 := by obtain ⟨_, _, _, h3_, _⟩ := p2; exact h3_.at A1 nb
  refine ⟨A2, ?_⟩
  have FIN := Lib.hid (Mid.two m1 m2 m3 m4 m5 m6 m7 (E0.out.trans m8 (fun _ _ h => h)) p2)
  refine takeS 8 (some 6) (.int .i64 n1) rfl rfl (by kernel_rfl) (by kernel_rfl) (by kernel_rfl) (fun _ _ _ h => h) rfl A2 (fun w' hw' => by go_simp) ?_
  simp only [Act.put, List.setIfInBounds_toArray, List.set_cons_zero, List.set_cons_succ]
  refine takeS 9 (some 7) (.int .i64 n2) rfl rfl (by kernel_rfl) (by kernel_rfl) (by kernel_rfl) (fun _ _ _ h => h) rfl A2 (fun w' hw' => by go_simp) ?_
  simp only [Act.put, List.setIfInBounds_toArray, List.set_cons_zero, List.set_cons_succ]
  refine wpAnyH_done (by kernel_rfl) ?_ _
  clear m1 m2 m3 m4 m5 m6 m7 m8 h0 hg r0 hx0 e0 a0 p2 v1 A1 A2 S0
  go_wp2
  go_ret2
  exact ⟨⟨_, _, rfl⟩, FIN.out⟩

set_option maxRecDepth 100000 in
set_option maxHeartbeats 8000000 in
theorem does_2 (b g k : Nat) (q : B) (a : Nat) (N : NV) (base pp : Nat) (w : World) (p t : ByteArray) (m y : Int) (x : List Int) (adx : Option Addr) (nx capx bx ox : Nat) (h2 : Two w b g k q a N base pp) (hk : k ≤ 80) (hq : (47 : UInt8) ∉ q) (hpq : p.toList ≠ q) (ht : t.size ≤ 1000000) (hy : 0 ≤ y ∧ y < 256) (hnx : nx = x.length) (hx : Bin w (.slice adx x.length capx) x adx capx bx ox) (hbx : bx < base) (hbyt : ∀ z ∈ x, 0 ≤ z ∧ z < 256) (hxn : x.length ≤ 1000000) (hbw : base ≤ w.heap.size) :
    Calls Tryz.prog 14 #[ptr b, ptr g, .agg #[.int .i64 2, .string p, .string t, .slice adx nx capx, .int .i64 m, .int .u8 y]] w (DoesR w b g k q a N base pp) := by
  obtain ⟨S, V, L, R, F, h, hg, r, hL, hF, hb, hgb⟩ := h2
  have e0 : Ext w (w.alloc (.cells #[.int .i64 2, .string p, .string t, .slice adx nx capx, .int .i64 m, .int .u8 y] 44)) := Ext.alloc w _
  have a0 := At.new w #[.int .i64 2, .string p, .string t, .slice adx nx capx, .int .i64 m, .int .u8 y] 44
  have nb : ¬ w.heap.size = g := by have := r.cell.lt; omega
  have nL : L w.heap.size = none := by
    cases hc : L w.heap.size with
    | none => rfl
    | some z => have := h.lt w.heap.size (by rw [hc]; simp); omega
  have hLx : L bx = none := by
    cases hc : L bx with
    | none => rfl
    | some z => have := hb bx (by rw [hc]; simp); omega
  have c0 := a0.cell 0
  have HH := Lib.hid (And.intro h (And.intro hg (And.intro r (And.intro hL (And.intro hF (And.intro hb hx))))))
  have HNX := Lib.hid hnx
  clear h hg r hL hF hb hx hnx
  unfold ptr
  go_enter Tryz.func14, Tryz.ntmps14
  go_wp2_with fail
  clear c0
  generalize w.alloc (.cells #[.int .i64 2, .string p, .string t, .slice adx nx capx, .int .i64 m, .int .u8 y] 44) = w0 at *
  generalize w.heap.size = b5 at *
  refine wp_region_held (S := fun w' => At w' b5 #[.int .i64 2, .string p, .string t, .slice adx nx capx, .int .i64 m, .int .u8 y] 44) (by kernel_rfl) ?_
  change wpAnyH _ _ _ _ _ _ _ _ w0.drew
  have S0 : At w0.drew b5 #[.int .i64 2, .string p, .string t, .slice adx nx capx, .int .i64 m, .int .u8 y] 44 := a0
  have h0 := HH.out.1.ext (e0.trans (Ext.drew w0))
  have hg := HH.out.2.1
  have r0 := HH.out.2.2.1.ext (e0.trans (Ext.drew w0))
  have hx0 := HH.out.2.2.2.2.2.2.ext (e0.trans (Ext.drew w0))
  have E0 := Lib.hid (Chg.of_ext (X := fun i => base ≤ i ∧ i ≠ pp) (e0.trans (Ext.drew w0)))
  have sz0 : w0.drew.heap.size = w0.heap.size := rfl
  have CC := Lib.hid (vmkdir b S V L k q a N _ h0 hg (by omega) p)
  unfold ptr at CC
  generalize w0.drew = W0 at *
  refine takeS 0 (some 22) (.pointer (some ⟨b, 0, none⟩)) rfl rfl (by kernel_rfl) (by kernel_rfl) (by kernel_rfl) (fun _ _ _ h => h) rfl S0 (fun w' hw' => by go_simp) ?_
  simp only [Act.put, List.setIfInBounds_toArray, List.set_cons_zero, List.set_cons_succ]
  refine takeS 1 (some 23) (.pointer (some ⟨b5, 1, none⟩)) rfl rfl (by kernel_rfl) (by kernel_rfl) (by kernel_rfl) (fun _ _ _ h => h) rfl S0 (fun w' hw' => by go_simp) ?_
  simp only [Act.put, List.setIfInBounds_toArray, List.set_cons_zero, List.set_cons_succ]
  refine takeS 2 (some 24) (.string p) rfl rfl (by kernel_rfl) (by kernel_rfl) (by kernel_rfl) (fun _ _ _ h => h) rfl S0 (fun w' hw' => by have c_ := hw'.cell 1; go_simp) ?_
  simp only [Act.put, List.setIfInBounds_toArray, List.set_cons_zero, List.set_cons_succ]
  refine takeS 4 (some 26) (.pointer (some ⟨g, 0, none⟩)) rfl rfl (by kernel_rfl) (by kernel_rfl) (by kernel_rfl) (fun _ _ _ h => h) rfl S0 (fun w' hw' => by go_simp) ?_
  simp only [Act.put, List.setIfInBounds_toArray, List.set_cons_zero, List.set_cons_succ]
  refine takeS 5 (some 27) (.pointer (some ⟨b5, 1, none⟩)) rfl rfl (by kernel_rfl) (by kernel_rfl) (by kernel_rfl) (fun _ _ _ h => h) rfl S0 (fun w' hw' => by go_simp) ?_
  simp only [Act.put, List.setIfInBounds_toArray, List.set_cons_zero, List.set_cons_succ]
  refine takeS 6 (some 28) (.string p) rfl rfl (by kernel_rfl) (by kernel_rfl) (by kernel_rfl) (fun _ _ _ h => h) rfl S0 (fun w' hw' => by have c_ := hw'.cell 1; go_simp) ?_
  simp only [Act.put, List.setIfInBounds_toArray, List.set_cons_zero, List.set_cons_succ]
  refine nextS 3 rfl (by kernel_rfl) rfl (callS (some 25) rfl 31 #[.pointer (some ⟨b, 0, none⟩), .string p] (by go_simp) (fun v w' => (∃ n : Int, v = .int .i64 n) ∧ VO W0 b k q a N L w') ((CC.out).mono fun e w' he => by obtain ⟨⟨n_, h1_⟩, h2_⟩ := he; exact ⟨_, h1_, ⟨n_, rfl⟩, h2_⟩) ?_)
  rintro v1_ w1 ⟨⟨n1, rfl⟩, v1⟩
  simp only [Act.put, List.setIfInBounds_toArray, List.set_cons_zero, List.set_cons_succ]
  have A1 : At w1 b5 #[.int .i64 2, .string p, .string t, .slice adx nx capx, .int .i64 m, .int .u8 y] 44 := by obtain ⟨_, _, _, _, _, h3_⟩ := v1; exact h3_.chg.at S0 (by rw [nL]; simp)
  refine ⟨A1, ?_⟩
  obtain ⟨S1, V1, L1, R1, F1, m1, m2, m3, m4, m5, m6, m7, m8⟩ := Two.mid h0 r0 HH.out.2.2.2.1 HH.out.2.2.2.2.1 HH.out.2.2.2.2.2.1 ⟨hgb.1, hgb.2.1, Nat.lt_trans hgb.2.2 S0.lt⟩ v1
  have CD := Lib.hid (rmake_all g R1 F1 (10 * k) p 2 _ m3 (by omega))
  unfold ptr at CD
  refine nextS 7 rfl (by kernel_rfl) rfl (callS (some 29) rfl 30 #[.pointer (some ⟨g, 0, none⟩), .string p, .int .i64 2] (by go_simp) (fun v w' => (∃ n : Int, v = .int .i64 n) ∧ RPost w1 g F1 (10 * k + 10) w') ((CD.out).mono fun e w' he => by obtain ⟨⟨n_, h1_⟩, h2_⟩ := he; exact ⟨_, h1_, ⟨n_, rfl⟩, h2_⟩) ?_)
  rintro v2_ w2 ⟨⟨n2, rfl⟩, p2⟩
  simp only [Act.put, List.setIfInBounds_toArray, List.set_cons_zero, List.set_cons_succ]
  have A2 : At w2 b5 #[.int .i64 2, .string p, .string t, .slice adx nx capx, .int .i64 m, .int .u8 y] 44 := by obtain ⟨_, _, _, h3_, _⟩ := p2; exact h3_.at A1 nb
  refine ⟨A2, ?_⟩
  have FIN := Lib.hid (Mid.two m1 m2 m3 m4 m5 m6 m7 (E0.out.trans m8 (fun _ _ h => h)) p2)
  refine takeS 8 (some 6) (.int .i64 n1) rfl rfl (by kernel_rfl) (by kernel_rfl) (by kernel_rfl) (fun _ _ _ h => h) rfl A2 (fun w' hw' => by go_simp) ?_
  simp only [Act.put, List.setIfInBounds_toArray, List.set_cons_zero, List.set_cons_succ]
  refine takeS 9 (some 7) (.int .i64 n2) rfl rfl (by kernel_rfl) (by kernel_rfl) (by kernel_rfl) (fun _ _ _ h => h) rfl A2 (fun w' hw' => by go_simp) ?_
  simp only [Act.put, List.setIfInBounds_toArray, List.set_cons_zero, List.set_cons_succ]
  refine wpAnyH_done (by kernel_rfl) ?_ _
  clear m1 m2 m3 m4 m5 m6 m7 m8 h0 hg r0 hx0 e0 a0 p2 v1 A1 A2 S0
  go_wp2
  go_ret2
  exact ⟨⟨_, _, rfl⟩, FIN.out⟩

set_option maxRecDepth 100000 in
set_option maxHeartbeats 8000000 in
theorem does_3 (b g k : Nat) (q : B) (a : Nat) (N : NV) (base pp : Nat) (w : World) (p t : ByteArray) (m y : Int) (x : List Int) (adx : Option Addr) (nx capx bx ox : Nat) (h2 : Two w b g k q a N base pp) (hk : k ≤ 80) (hq : (47 : UInt8) ∉ q) (hpq : p.toList ≠ q) (ht : t.size ≤ 1000000) (hy : 0 ≤ y ∧ y < 256) (hnx : nx = x.length) (hx : Bin w (.slice adx x.length capx) x adx capx bx ox) (hbx : bx < base) (hbyt : ∀ z ∈ x, 0 ≤ z ∧ z < 256) (hxn : x.length ≤ 1000000) (hbw : base ≤ w.heap.size) :
    Calls Tryz.prog 14 #[ptr b, ptr g, .agg #[.int .i64 3, .string p, .string t, .slice adx nx capx, .int .i64 m, .int .u8 y]] w (DoesR w b g k q a N base pp) := by
  obtain ⟨S, V, L, R, F, h, hg, r, hL, hF, hb, hgb⟩ := h2
  have e0 : Ext w (w.alloc (.cells #[.int .i64 3, .string p, .string t, .slice adx nx capx, .int .i64 m, .int .u8 y] 44)) := Ext.alloc w _
  have a0 := At.new w #[.int .i64 3, .string p, .string t, .slice adx nx capx, .int .i64 m, .int .u8 y] 44
  have nb : ¬ w.heap.size = g := by have := r.cell.lt; omega
  have nL : L w.heap.size = none := by
    cases hc : L w.heap.size with
    | none => rfl
    | some z => have := h.lt w.heap.size (by rw [hc]; simp); omega
  have hLx : L bx = none := by
    cases hc : L bx with
    | none => rfl
    | some z => have := hb bx (by rw [hc]; simp); omega
  have c0 := a0.cell 0
  have HH := Lib.hid (And.intro h (And.intro hg (And.intro r (And.intro hL (And.intro hF (And.intro hb hx))))))
  have HNX := Lib.hid hnx
  clear h hg r hL hF hb hx hnx
  unfold ptr
  go_enter Tryz.func14, Tryz.ntmps14
  go_wp2_with fail
  clear c0
  generalize w.alloc (.cells #[.int .i64 3, .string p, .string t, .slice adx nx capx, .int .i64 m, .int .u8 y] 44) = w0 at *
  generalize w.heap.size = b5 at *
  refine wp_region_held (S := fun w' => At w' b5 #[.int .i64 3, .string p, .string t, .slice adx nx capx, .int .i64 m, .int .u8 y] 44) (by kernel_rfl) ?_
  change wpAnyH _ _ _ _ _ _ _ _ w0.drew
  have S0 : At w0.drew b5 #[.int .i64 3, .string p, .string t, .slice adx nx capx, .int .i64 m, .int .u8 y] 44 := a0
  have h0 := HH.out.1.ext (e0.trans (Ext.drew w0))
  have hg := HH.out.2.1
  have r0 := HH.out.2.2.1.ext (e0.trans (Ext.drew w0))
  have hx0 := HH.out.2.2.2.2.2.2.ext (e0.trans (Ext.drew w0))
  have E0 := Lib.hid (Chg.of_ext (X := fun i => base ≤ i ∧ i ≠ pp) (e0.trans (Ext.drew w0)))
  have sz0 : w0.drew.heap.size = w0.heap.size := rfl
  have CC := Lib.hid ((by have := vwrite b S V L k q a N _ h0 hg (by omega) p hpq m x _ adx capx bx ox hx0 hLx hbyt hxn; rw [← HNX.out] at this; exact this))
  unfold ptr at CC
  generalize w0.drew = W0 at *
  refine takeS 0 (some 32) (.pointer (some ⟨b, 0, none⟩)) rfl rfl (by kernel_rfl) (by kernel_rfl) (by kernel_rfl) (fun _ _ _ h => h) rfl S0 (fun w' hw' => by go_simp) ?_
  simp only [Act.put, List.setIfInBounds_toArray, List.set_cons_zero, List.set_cons_succ]
  refine takeS 1 (some 33) (.pointer (some ⟨b5, 1, none⟩)) rfl rfl (by kernel_rfl) (by kernel_rfl) (by kernel_rfl) (fun _ _ _ h => h) rfl S0 (fun w' hw' => by go_simp) ?_
  simp only [Act.put, List.setIfInBounds_toArray, List.set_cons_zero, List.set_cons_succ]
  refine takeS 2 (some 34) (.string p) rfl rfl (by kernel_rfl) (by kernel_rfl) (by kernel_rfl) (fun _ _ _ h => h) rfl S0 (fun w' hw' => by have c_ := hw'.cell 1; go_simp) ?_
  simp only [Act.put, List.setIfInBounds_toArray, List.set_cons_zero, List.set_cons_succ]
  refine takeS 3 (some 35) (.pointer (some ⟨b5, 4, none⟩)) rfl rfl (by kernel_rfl) (by kernel_rfl) (by kernel_rfl) (fun _ _ _ h => h) rfl S0 (fun w' hw' => by go_simp) ?_
  simp only [Act.put, List.setIfInBounds_toArray, List.set_cons_zero, List.set_cons_succ]
  refine takeS 4 (some 36) (.int .i64 m) rfl rfl (by kernel_rfl) (by kernel_rfl) (by kernel_rfl) (fun _ _ _ h => h) rfl S0 (fun w' hw' => by have c_ := hw'.cell 4; go_simp) ?_
  simp only [Act.put, List.setIfInBounds_toArray, List.set_cons_zero, List.set_cons_succ]
  refine takeS 5 (some 37) (.pointer (some ⟨b5, 3, none⟩)) rfl rfl (by kernel_rfl) (by kernel_rfl) (by kernel_rfl) (fun _ _ _ h => h) rfl S0 (fun w' hw' => by go_simp) ?_
  simp only [Act.put, List.setIfInBounds_toArray, List.set_cons_zero, List.set_cons_succ]
  refine takeS 6 (some 38) (.slice adx nx capx) rfl rfl (by kernel_rfl) (by kernel_rfl) (by kernel_rfl) (fun _ _ _ h => h) rfl S0 (fun w' hw' => by have c_ := hw'.cell 3; go_simp) ?_
  simp only [Act.put, List.setIfInBounds_toArray, List.set_cons_zero, List.set_cons_succ]
  refine takeS 8 (some 40) (.pointer (some ⟨g, 0, none⟩)) rfl rfl (by kernel_rfl) (by kernel_rfl) (by kernel_rfl) (fun _ _ _ h => h) rfl S0 (fun w' hw' => by go_simp) ?_
  simp only [Act.put, List.setIfInBounds_toArray, List.set_cons_zero, List.set_cons_succ]
  refine takeS 9 (some 41) (.pointer (some ⟨b5, 1, none⟩)) rfl rfl (by kernel_rfl) (by kernel_rfl) (by kernel_rfl) (fun _ _ _ h => h) rfl S0 (fun w' hw' => by go_simp) ?_
  simp only [Act.put, List.setIfInBounds_toArray, List.set_cons_zero, List.set_cons_succ]
  refine takeS 10 (some 42) (.string p) rfl rfl (by kernel_rfl) (by kernel_rfl) (by kernel_rfl) (fun _ _ _ h => h) rfl S0 (fun w' hw' => by have c_ := hw'.cell 1; go_simp) ?_
  simp only [Act.put, List.setIfInBounds_toArray, List.set_cons_zero, List.set_cons_succ]
  refine takeS 11 (some 43) (.pointer (some ⟨b5, 4, none⟩)) rfl rfl (by kernel_rfl) (by kernel_rfl) (by kernel_rfl) (fun _ _ _ h => h) rfl S0 (fun w' hw' => by go_simp) ?_
  simp only [Act.put, List.setIfInBounds_toArray, List.set_cons_zero, List.set_cons_succ]
  refine takeS 12 (some 44) (.int .i64 m) rfl rfl (by kernel_rfl) (by kernel_rfl) (by kernel_rfl) (fun _ _ _ h => h) rfl S0 (fun w' hw' => by have c_ := hw'.cell 4; go_simp) ?_
  simp only [Act.put, List.setIfInBounds_toArray, List.set_cons_zero, List.set_cons_succ]
  refine takeS 13 (some 45) (.pointer (some ⟨b5, 3, none⟩)) rfl rfl (by kernel_rfl) (by kernel_rfl) (by kernel_rfl) (fun _ _ _ h => h) rfl S0 (fun w' hw' => by go_simp) ?_
  simp only [Act.put, List.setIfInBounds_toArray, List.set_cons_zero, List.set_cons_succ]
  refine takeS 14 (some 46) (.slice adx nx capx) rfl rfl (by kernel_rfl) (by kernel_rfl) (by kernel_rfl) (fun _ _ _ h => h) rfl S0 (fun w' hw' => by have c_ := hw'.cell 3; go_simp) ?_
  simp only [Act.put, List.setIfInBounds_toArray, List.set_cons_zero, List.set_cons_succ]
  refine nextS 7 rfl (by kernel_rfl) rfl (callS (some 39) rfl 9 #[.pointer (some ⟨b, 0, none⟩), .string p, .int .i64 m, .slice adx nx capx] (by go_simp) (fun v w' => (∃ n : Int, v = .int .i64 n) ∧ VO W0 b k q a N L w') ((CC.out).mono fun e w' he => by obtain ⟨⟨n_, h1_⟩, h2_⟩ := he; exact ⟨_, h1_, ⟨n_, rfl⟩, h2_⟩) ?_)
  rintro v1_ w1 ⟨⟨n1, rfl⟩, v1⟩
  simp only [Act.put, List.setIfInBounds_toArray, List.set_cons_zero, List.set_cons_succ]
  have A1 : At w1 b5 #[.int .i64 3, .string p, .string t, .slice adx nx capx, .int .i64 m, .int .u8 y] 44 := by obtain ⟨_, _, _, _, _, h3_⟩ := v1; exact h3_.chg.at S0 (by rw [nL]; simp)
  refine ⟨A1, ?_⟩
  obtain ⟨S1, V1, L1, R1, F1, m1, m2, m3, m4, m5, m6, m7, m8⟩ := Two.mid h0 r0 HH.out.2.2.2.1 HH.out.2.2.2.2.1 HH.out.2.2.2.2.2.1 ⟨hgb.1, hgb.2.1, Nat.lt_trans hgb.2.2 S0.lt⟩ v1
  have CD := Lib.hid ((by have := rwrite_all g R1 F1 (10 * k) p m _ x adx capx bx ox _ m3 (by omega) (hx0.chg m8 (by omega)) (by omega) hxn; rw [← HNX.out] at this; exact this))
  unfold ptr at CD
  refine nextS 15 rfl (by kernel_rfl) rfl (callS (some 47) rfl 32 #[.pointer (some ⟨g, 0, none⟩), .string p, .int .i64 m, .slice adx nx capx] (by go_simp) (fun v w' => (∃ n : Int, v = .int .i64 n) ∧ RPost w1 g F1 (10 * k + 10) w') ((CD.out).mono fun e w' he => by obtain ⟨⟨n_, h1_⟩, h2_⟩ := he; exact ⟨_, h1_, ⟨n_, rfl⟩, h2_⟩) ?_)
  rintro v2_ w2 ⟨⟨n2, rfl⟩, p2⟩
  simp only [Act.put, List.setIfInBounds_toArray, List.set_cons_zero, List.set_cons_succ]
  have A2 : At w2 b5 #[.int .i64 3, .string p, .string t, .slice adx nx capx, .int .i64 m, .int .u8 y] 44 := by obtain ⟨_, _, _, h3_, _⟩ := p2; exact h3_.at A1 nb
  refine ⟨A2, ?_⟩
  have FIN := Lib.hid (Mid.two m1 m2 m3 m4 m5 m6 m7 (E0.out.trans m8 (fun _ _ h => h)) p2)
  refine takeS 16 (some 6) (.int .i64 n1) rfl rfl (by kernel_rfl) (by kernel_rfl) (by kernel_rfl) (fun _ _ _ h => h) rfl A2 (fun w' hw' => by go_simp) ?_
  simp only [Act.put, List.setIfInBounds_toArray, List.set_cons_zero, List.set_cons_succ]
  refine takeS 17 (some 7) (.int .i64 n2) rfl rfl (by kernel_rfl) (by kernel_rfl) (by kernel_rfl) (fun _ _ _ h => h) rfl A2 (fun w' hw' => by go_simp) ?_
  simp only [Act.put, List.setIfInBounds_toArray, List.set_cons_zero, List.set_cons_succ]
  refine wpAnyH_done (by kernel_rfl) ?_ _
  clear m1 m2 m3 m4 m5 m6 m7 m8 h0 hg r0 hx0 e0 a0 p2 v1 A1 A2 S0
  go_wp2
  go_ret2
  exact ⟨⟨_, _, rfl⟩, FIN.out⟩

set_option maxRecDepth 100000 in
set_option maxHeartbeats 8000000 in
theorem does_4 (b g k : Nat) (q : B) (a : Nat) (N : NV) (base pp : Nat) (w : World) (p t : ByteArray) (m y : Int) (x : List Int) (adx : Option Addr) (nx capx bx ox : Nat) (h2 : Two w b g k q a N base pp) (hk : k ≤ 80) (hq : (47 : UInt8) ∉ q) (hpq : p.toList ≠ q) (ht : t.size ≤ 1000000) (hy : 0 ≤ y ∧ y < 256) (hnx : nx = x.length) (hx : Bin w (.slice adx x.length capx) x adx capx bx ox) (hbx : bx < base) (hbyt : ∀ z ∈ x, 0 ≤ z ∧ z < 256) (hxn : x.length ≤ 1000000) (hbw : base ≤ w.heap.size) :
    Calls Tryz.prog 14 #[ptr b, ptr g, .agg #[.int .i64 4, .string p, .string t, .slice adx nx capx, .int .i64 m, .int .u8 y]] w (DoesR w b g k q a N base pp) := by
  obtain ⟨S, V, L, R, F, h, hg, r, hL, hF, hb, hgb⟩ := h2
  have e0 : Ext w (w.alloc (.cells #[.int .i64 4, .string p, .string t, .slice adx nx capx, .int .i64 m, .int .u8 y] 44)) := Ext.alloc w _
  have a0 := At.new w #[.int .i64 4, .string p, .string t, .slice adx nx capx, .int .i64 m, .int .u8 y] 44
  have nb : ¬ w.heap.size = g := by have := r.cell.lt; omega
  have nL : L w.heap.size = none := by
    cases hc : L w.heap.size with
    | none => rfl
    | some z => have := h.lt w.heap.size (by rw [hc]; simp); omega
  have hLx : L bx = none := by
    cases hc : L bx with
    | none => rfl
    | some z => have := hb bx (by rw [hc]; simp); omega
  have c0 := a0.cell 0
  have HH := Lib.hid (And.intro h (And.intro hg (And.intro r (And.intro hL (And.intro hF (And.intro hb hx))))))
  have HNX := Lib.hid hnx
  clear h hg r hL hF hb hx hnx
  unfold ptr
  go_enter Tryz.func14, Tryz.ntmps14
  go_wp2_with fail
  clear c0
  generalize w.alloc (.cells #[.int .i64 4, .string p, .string t, .slice adx nx capx, .int .i64 m, .int .u8 y] 44) = w0 at *
  generalize w.heap.size = b5 at *
  refine wp_region_held (S := fun w' => At w' b5 #[.int .i64 4, .string p, .string t, .slice adx nx capx, .int .i64 m, .int .u8 y] 44) (by kernel_rfl) ?_
  change wpAnyH _ _ _ _ _ _ _ _ w0.drew
  have S0 : At w0.drew b5 #[.int .i64 4, .string p, .string t, .slice adx nx capx, .int .i64 m, .int .u8 y] 44 := a0
  have h0 := HH.out.1.ext (e0.trans (Ext.drew w0))
  have hg := HH.out.2.1
  have r0 := HH.out.2.2.1.ext (e0.trans (Ext.drew w0))
  have hx0 := HH.out.2.2.2.2.2.2.ext (e0.trans (Ext.drew w0))
  have E0 := Lib.hid (Chg.of_ext (X := fun i => base ≤ i ∧ i ≠ pp) (e0.trans (Ext.drew w0)))
  have sz0 : w0.drew.heap.size = w0.heap.size := rfl
  have CC := Lib.hid (vtruncate b S V L k q a N _ h0 hg (by omega) p hpq m)
  unfold ptr at CC
  generalize w0.drew = W0 at *
  refine takeS 0 (some 50) (.pointer (some ⟨b, 0, none⟩)) rfl rfl (by kernel_rfl) (by kernel_rfl) (by kernel_rfl) (fun _ _ _ h => h) rfl S0 (fun w' hw' => by go_simp) ?_
  simp only [Act.put, List.setIfInBounds_toArray, List.set_cons_zero, List.set_cons_succ]
  refine takeS 1 (some 51) (.pointer (some ⟨b5, 1, none⟩)) rfl rfl (by kernel_rfl) (by kernel_rfl) (by kernel_rfl) (fun _ _ _ h => h) rfl S0 (fun w' hw' => by go_simp) ?_
  simp only [Act.put, List.setIfInBounds_toArray, List.set_cons_zero, List.set_cons_succ]
  refine takeS 2 (some 52) (.string p) rfl rfl (by kernel_rfl) (by kernel_rfl) (by kernel_rfl) (fun _ _ _ h => h) rfl S0 (fun w' hw' => by have c_ := hw'.cell 1; go_simp) ?_
  simp only [Act.put, List.setIfInBounds_toArray, List.set_cons_zero, List.set_cons_succ]
  refine takeS 3 (some 53) (.pointer (some ⟨b5, 4, none⟩)) rfl rfl (by kernel_rfl) (by kernel_rfl) (by kernel_rfl) (fun _ _ _ h => h) rfl S0 (fun w' hw' => by go_simp) ?_
  simp only [Act.put, List.setIfInBounds_toArray, List.set_cons_zero, List.set_cons_succ]
  refine takeS 4 (some 54) (.int .i64 m) rfl rfl (by kernel_rfl) (by kernel_rfl) (by kernel_rfl) (fun _ _ _ h => h) rfl S0 (fun w' hw' => by have c_ := hw'.cell 4; go_simp) ?_
  simp only [Act.put, List.setIfInBounds_toArray, List.set_cons_zero, List.set_cons_succ]
  refine takeS 6 (some 56) (.pointer (some ⟨g, 0, none⟩)) rfl rfl (by kernel_rfl) (by kernel_rfl) (by kernel_rfl) (fun _ _ _ h => h) rfl S0 (fun w' hw' => by go_simp) ?_
  simp only [Act.put, List.setIfInBounds_toArray, List.set_cons_zero, List.set_cons_succ]
  refine takeS 7 (some 57) (.pointer (some ⟨b5, 1, none⟩)) rfl rfl (by kernel_rfl) (by kernel_rfl) (by kernel_rfl) (fun _ _ _ h => h) rfl S0 (fun w' hw' => by go_simp) ?_
  simp only [Act.put, List.setIfInBounds_toArray, List.set_cons_zero, List.set_cons_succ]
  refine takeS 8 (some 58) (.string p) rfl rfl (by kernel_rfl) (by kernel_rfl) (by kernel_rfl) (fun _ _ _ h => h) rfl S0 (fun w' hw' => by have c_ := hw'.cell 1; go_simp) ?_
  simp only [Act.put, List.setIfInBounds_toArray, List.set_cons_zero, List.set_cons_succ]
  refine takeS 9 (some 59) (.pointer (some ⟨b5, 4, none⟩)) rfl rfl (by kernel_rfl) (by kernel_rfl) (by kernel_rfl) (fun _ _ _ h => h) rfl S0 (fun w' hw' => by go_simp) ?_
  simp only [Act.put, List.setIfInBounds_toArray, List.set_cons_zero, List.set_cons_succ]
  refine takeS 10 (some 60) (.int .i64 m) rfl rfl (by kernel_rfl) (by kernel_rfl) (by kernel_rfl) (fun _ _ _ h => h) rfl S0 (fun w' hw' => by have c_ := hw'.cell 4; go_simp) ?_
  simp only [Act.put, List.setIfInBounds_toArray, List.set_cons_zero, List.set_cons_succ]
  refine nextS 5 rfl (by kernel_rfl) rfl (callS (some 55) rfl 33 #[.pointer (some ⟨b, 0, none⟩), .string p, .int .i64 m] (by go_simp) (fun v w' => (∃ n : Int, v = .int .i64 n) ∧ VO W0 b k q a N L w') ((CC.out).mono fun e w' he => by obtain ⟨⟨n_, h1_⟩, h2_⟩ := he; exact ⟨_, h1_, ⟨n_, rfl⟩, h2_⟩) ?_)
  rintro v1_ w1 ⟨⟨n1, rfl⟩, v1⟩
  simp only [Act.put, List.setIfInBounds_toArray, List.set_cons_zero, List.set_cons_succ]
  have A1 : At w1 b5 #[.int .i64 4, .string p, .string t, .slice adx nx capx, .int .i64 m, .int .u8 y] 44 := by obtain ⟨_, _, _, _, _, h3_⟩ := v1; exact h3_.chg.at S0 (by rw [nL]; simp)
  refine ⟨A1, ?_⟩
  obtain ⟨S1, V1, L1, R1, F1, m1, m2, m3, m4, m5, m6, m7, m8⟩ := Two.mid h0 r0 HH.out.2.2.2.1 HH.out.2.2.2.2.1 HH.out.2.2.2.2.2.1 ⟨hgb.1, hgb.2.1, Nat.lt_trans hgb.2.2 S0.lt⟩ v1
  have CD := Lib.hid (rtruncate_all g R1 F1 (10 * k) p m _ m3 (by omega))
  unfold ptr at CD
  refine nextS 11 rfl (by kernel_rfl) rfl (callS (some 61) rfl 34 #[.pointer (some ⟨g, 0, none⟩), .string p, .int .i64 m] (by go_simp) (fun v w' => (∃ n : Int, v = .int .i64 n) ∧ RPost w1 g F1 (10 * k + 10) w') ((CD.out).mono fun e w' he => by obtain ⟨⟨n_, h1_⟩, h2_⟩ := he; exact ⟨_, h1_, ⟨n_, rfl⟩, h2_⟩) ?_)
  rintro v2_ w2 ⟨⟨n2, rfl⟩, p2⟩
  simp only [Act.put, List.setIfInBounds_toArray, List.set_cons_zero, List.set_cons_succ]
  have A2 : At w2 b5 #[.int .i64 4, .string p, .string t, .slice adx nx capx, .int .i64 m, .int .u8 y] 44 := by obtain ⟨_, _, _, h3_, _⟩ := p2; exact h3_.at A1 nb
  refine ⟨A2, ?_⟩
  have FIN := Lib.hid (Mid.two m1 m2 m3 m4 m5 m6 m7 (E0.out.trans m8 (fun _ _ h => h)) p2)
  refine takeS 12 (some 6) (.int .i64 n1) rfl rfl (by kernel_rfl) (by kernel_rfl) (by kernel_rfl) (fun _ _ _ h => h) rfl A2 (fun w' hw' => by go_simp) ?_
  simp only [Act.put, List.setIfInBounds_toArray, List.set_cons_zero, List.set_cons_succ]
  refine takeS 13 (some 7) (.int .i64 n2) rfl rfl (by kernel_rfl) (by kernel_rfl) (by kernel_rfl) (fun _ _ _ h => h) rfl A2 (fun w' hw' => by go_simp) ?_
  simp only [Act.put, List.setIfInBounds_toArray, List.set_cons_zero, List.set_cons_succ]
  refine wpAnyH_done (by kernel_rfl) ?_ _
  clear m1 m2 m3 m4 m5 m6 m7 m8 h0 hg r0 hx0 e0 a0 p2 v1 A1 A2 S0
  go_wp2
  go_ret2
  exact ⟨⟨_, _, rfl⟩, FIN.out⟩

set_option maxRecDepth 100000 in
set_option maxHeartbeats 8000000 in
theorem does_5 (b g k : Nat) (q : B) (a : Nat) (N : NV) (base pp : Nat) (w : World) (p t : ByteArray) (m y : Int) (x : List Int) (adx : Option Addr) (nx capx bx ox : Nat) (h2 : Two w b g k q a N base pp) (hk : k ≤ 80) (hq : (47 : UInt8) ∉ q) (hpq : p.toList ≠ q) (ht : t.size ≤ 1000000) (hy : 0 ≤ y ∧ y < 256) (hnx : nx = x.length) (hx : Bin w (.slice adx x.length capx) x adx capx bx ox) (hbx : bx < base) (hbyt : ∀ z ∈ x, 0 ≤ z ∧ z < 256) (hxn : x.length ≤ 1000000) (hbw : base ≤ w.heap.size) :
    Calls Tryz.prog 14 #[ptr b, ptr g, .agg #[.int .i64 5, .string p, .string t, .slice adx nx capx, .int .i64 m, .int .u8 y]] w (DoesR w b g k q a N base pp) := by
  obtain ⟨S, V, L, R, F, h, hg, r, hL, hF, hb, hgb⟩ := h2
  have e0 : Ext w (w.alloc (.cells #[.int .i64 5, .string p, .string t, .slice adx nx capx, .int .i64 m, .int .u8 y] 44)) := Ext.alloc w _
  have a0 := At.new w #[.int .i64 5, .string p, .string t, .slice adx nx capx, .int .i64 m, .int .u8 y] 44
  have nb : ¬ w.heap.size = g := by have := r.cell.lt; omega
  have nL : L w.heap.size = none := by
    cases hc : L w.heap.size with
    | none => rfl
    | some z => have := h.lt w.heap.size (by rw [hc]; simp); omega
  have hLx : L bx = none := by
    cases hc : L bx with
    | none => rfl
    | some z => have := hb bx (by rw [hc]; simp); omega
  have c0 := a0.cell 0
  have HH := Lib.hid (And.intro h (And.intro hg (And.intro r (And.intro hL (And.intro hF (And.intro hb hx))))))
  have HNX := Lib.hid hnx
  clear h hg r hL hF hb hx hnx
  unfold ptr
  go_enter Tryz.func14, Tryz.ntmps14
  go_wp2_with fail
  clear c0
  generalize w.alloc (.cells #[.int .i64 5, .string p, .string t, .slice adx nx capx, .int .i64 m, .int .u8 y] 44) = w0 at *
  generalize w.heap.size = b5 at *
  refine wp_region_held (S := fun w' => At w' b5 #[.int .i64 5, .string p, .string t, .slice adx nx capx, .int .i64 m, .int .u8 y] 44) (by kernel_rfl) ?_
  change wpAnyH _ _ _ _ _ _ _ _ w0.drew
  have S0 : At w0.drew b5 #[.int .i64 5, .string p, .string t, .slice adx nx capx, .int .i64 m, .int .u8 y] 44 := a0
  have h0 := HH.out.1.ext (e0.trans (Ext.drew w0))
  have hg := HH.out.2.1
  have r0 := HH.out.2.2.1.ext (e0.trans (Ext.drew w0))
  have hx0 := HH.out.2.2.2.2.2.2.ext (e0.trans (Ext.drew w0))
  have E0 := Lib.hid (Chg.of_ext (X := fun i => base ≤ i ∧ i ≠ pp) (e0.trans (Ext.drew w0)))
  have sz0 : w0.drew.heap.size = w0.heap.size := rfl
  have CC := Lib.hid (vsetmeta b S V L k q a N _ h0 hg (by omega) p hpq m)
  unfold ptr at CC
  generalize w0.drew = W0 at *
  refine takeS 0 (some 64) (.pointer (some ⟨b, 0, none⟩)) rfl rfl (by kernel_rfl) (by kernel_rfl) (by kernel_rfl) (fun _ _ _ h => h) rfl S0 (fun w' hw' => by go_simp) ?_
  simp only [Act.put, List.setIfInBounds_toArray, List.set_cons_zero, List.set_cons_succ]
  refine takeS 1 (some 65) (.pointer (some ⟨b5, 1, none⟩)) rfl rfl (by kernel_rfl) (by kernel_rfl) (by kernel_rfl) (fun _ _ _ h => h) rfl S0 (fun w' hw' => by go_simp) ?_
  simp only [Act.put, List.setIfInBounds_toArray, List.set_cons_zero, List.set_cons_succ]
  refine takeS 2 (some 66) (.string p) rfl rfl (by kernel_rfl) (by kernel_rfl) (by kernel_rfl) (fun _ _ _ h => h) rfl S0 (fun w' hw' => by have c_ := hw'.cell 1; go_simp) ?_
  simp only [Act.put, List.setIfInBounds_toArray, List.set_cons_zero, List.set_cons_succ]
  refine takeS 3 (some 67) (.pointer (some ⟨b5, 4, none⟩)) rfl rfl (by kernel_rfl) (by kernel_rfl) (by kernel_rfl) (fun _ _ _ h => h) rfl S0 (fun w' hw' => by go_simp) ?_
  simp only [Act.put, List.setIfInBounds_toArray, List.set_cons_zero, List.set_cons_succ]
  refine takeS 4 (some 68) (.int .i64 m) rfl rfl (by kernel_rfl) (by kernel_rfl) (by kernel_rfl) (fun _ _ _ h => h) rfl S0 (fun w' hw' => by have c_ := hw'.cell 4; go_simp) ?_
  simp only [Act.put, List.setIfInBounds_toArray, List.set_cons_zero, List.set_cons_succ]
  refine takeS 6 (some 70) (.pointer (some ⟨g, 0, none⟩)) rfl rfl (by kernel_rfl) (by kernel_rfl) (by kernel_rfl) (fun _ _ _ h => h) rfl S0 (fun w' hw' => by go_simp) ?_
  simp only [Act.put, List.setIfInBounds_toArray, List.set_cons_zero, List.set_cons_succ]
  refine takeS 7 (some 71) (.pointer (some ⟨b5, 1, none⟩)) rfl rfl (by kernel_rfl) (by kernel_rfl) (by kernel_rfl) (fun _ _ _ h => h) rfl S0 (fun w' hw' => by go_simp) ?_
  simp only [Act.put, List.setIfInBounds_toArray, List.set_cons_zero, List.set_cons_succ]
  refine takeS 8 (some 72) (.string p) rfl rfl (by kernel_rfl) (by kernel_rfl) (by kernel_rfl) (fun _ _ _ h => h) rfl S0 (fun w' hw' => by have c_ := hw'.cell 1; go_simp) ?_
  simp only [Act.put, List.setIfInBounds_toArray, List.set_cons_zero, List.set_cons_succ]
  refine takeS 9 (some 73) (.pointer (some ⟨b5, 4, none⟩)) rfl rfl (by kernel_rfl) (by kernel_rfl) (by kernel_rfl) (fun _ _ _ h => h) rfl S0 (fun w' hw' => by go_simp) ?_
  simp only [Act.put, List.setIfInBounds_toArray, List.set_cons_zero, List.set_cons_succ]
  refine takeS 10 (some 74) (.int .i64 m) rfl rfl (by kernel_rfl) (by kernel_rfl) (by kernel_rfl) (fun _ _ _ h => h) rfl S0 (fun w' hw' => by have c_ := hw'.cell 4; go_simp) ?_
  simp only [Act.put, List.setIfInBounds_toArray, List.set_cons_zero, List.set_cons_succ]
  refine nextS 5 rfl (by kernel_rfl) rfl (callS (some 69) rfl 35 #[.pointer (some ⟨b, 0, none⟩), .string p, .int .i64 m] (by go_simp) (fun v w' => (∃ n : Int, v = .int .i64 n) ∧ VO W0 b k q a N L w') ((CC.out).mono fun e w' he => by obtain ⟨⟨n_, h1_⟩, h2_⟩ := he; exact ⟨_, h1_, ⟨n_, rfl⟩, h2_⟩) ?_)
  rintro v1_ w1 ⟨⟨n1, rfl⟩, v1⟩
  simp only [Act.put, List.setIfInBounds_toArray, List.set_cons_zero, List.set_cons_succ]
  have A1 : At w1 b5 #[.int .i64 5, .string p, .string t, .slice adx nx capx, .int .i64 m, .int .u8 y] 44 := by obtain ⟨_, _, _, _, _, h3_⟩ := v1; exact h3_.chg.at S0 (by rw [nL]; simp)
  refine ⟨A1, ?_⟩
  obtain ⟨S1, V1, L1, R1, F1, m1, m2, m3, m4, m5, m6, m7, m8⟩ := Two.mid h0 r0 HH.out.2.2.2.1 HH.out.2.2.2.2.1 HH.out.2.2.2.2.2.1 ⟨hgb.1, hgb.2.1, Nat.lt_trans hgb.2.2 S0.lt⟩ v1
  have CD := Lib.hid (rsetmeta_all g R1 F1 (10 * k) p m _ m3 (by omega))
  unfold ptr at CD
  refine nextS 11 rfl (by kernel_rfl) rfl (callS (some 75) rfl 36 #[.pointer (some ⟨g, 0, none⟩), .string p, .int .i64 m] (by go_simp) (fun v w' => (∃ n : Int, v = .int .i64 n) ∧ RPost w1 g F1 (10 * k + 10) w') ((CD.out).mono fun e w' he => by obtain ⟨⟨n_, h1_⟩, h2_⟩ := he; exact ⟨_, h1_, ⟨n_, rfl⟩, h2_⟩) ?_)
  rintro v2_ w2 ⟨⟨n2, rfl⟩, p2⟩
  simp only [Act.put, List.setIfInBounds_toArray, List.set_cons_zero, List.set_cons_succ]
  have A2 : At w2 b5 #[.int .i64 5, .string p, .string t, .slice adx nx capx, .int .i64 m, .int .u8 y] 44 := by obtain ⟨_, _, _, h3_, _⟩ := p2; exact h3_.at A1 nb
  refine ⟨A2, ?_⟩
  have FIN := Lib.hid (Mid.two m1 m2 m3 m4 m5 m6 m7 (E0.out.trans m8 (fun _ _ h => h)) p2)
  refine takeS 12 (some 6) (.int .i64 n1) rfl rfl (by kernel_rfl) (by kernel_rfl) (by kernel_rfl) (fun _ _ _ h => h) rfl A2 (fun w' hw' => by go_simp) ?_
  simp only [Act.put, List.setIfInBounds_toArray, List.set_cons_zero, List.set_cons_succ]
  refine takeS 13 (some 7) (.int .i64 n2) rfl rfl (by kernel_rfl) (by kernel_rfl) (by kernel_rfl) (fun _ _ _ h => h) rfl A2 (fun w' hw' => by go_simp) ?_
  simp only [Act.put, List.setIfInBounds_toArray, List.set_cons_zero, List.set_cons_succ]
  refine wpAnyH_done (by kernel_rfl) ?_ _
  clear m1 m2 m3 m4 m5 m6 m7 m8 h0 hg r0 hx0 e0 a0 p2 v1 A1 A2 S0
  go_wp2
  go_ret2
  exact ⟨⟨_, _, rfl⟩, FIN.out⟩

set_option maxRecDepth 100000 in
set_option maxHeartbeats 8000000 in
theorem does_6 (b g k : Nat) (q : B) (a : Nat) (N : NV) (base pp : Nat) (w : World) (p t : ByteArray) (m y : Int) (x : List Int) (adx : Option Addr) (nx capx bx ox : Nat) (h2 : Two w b g k q a N base pp) (hk : k ≤ 80) (hq : (47 : UInt8) ∉ q) (hpq : p.toList ≠ q) (ht : t.size ≤ 1000000) (hy : 0 ≤ y ∧ y < 256) (hnx : nx = x.length) (hx : Bin w (.slice adx x.length capx) x adx capx bx ox) (hbx : bx < base) (hbyt : ∀ z ∈ x, 0 ≤ z ∧ z < 256) (hxn : x.length ≤ 1000000) (hbw : base ≤ w.heap.size) :
    Calls Tryz.prog 14 #[ptr b, ptr g, .agg #[.int .i64 6, .string p, .string t, .slice adx nx capx, .int .i64 m, .int .u8 y]] w (DoesR w b g k q a N base pp) := by
  obtain ⟨S, V, L, R, F, h, hg, r, hL, hF, hb, hgb⟩ := h2
  have e0 : Ext w (w.alloc (.cells #[.int .i64 6, .string p, .string t, .slice adx nx capx, .int .i64 m, .int .u8 y] 44)) := Ext.alloc w _
  have a0 := At.new w #[.int .i64 6, .string p, .string t, .slice adx nx capx, .int .i64 m, .int .u8 y] 44
  have nb : ¬ w.heap.size = g := by have := r.cell.lt; omega
  have nL : L w.heap.size = none := by
    cases hc : L w.heap.size with
    | none => rfl
    | some z => have := h.lt w.heap.size (by rw [hc]; simp); omega
  have hLx : L bx = none := by
    cases hc : L bx with
    | none => rfl
    | some z => have := hb bx (by rw [hc]; simp); omega
  have c0 := a0.cell 0
  have HH := Lib.hid (And.intro h (And.intro hg (And.intro r (And.intro hL (And.intro hF (And.intro hb hx))))))
  have HNX := Lib.hid hnx
  clear h hg r hL hF hb hx hnx
  unfold ptr
  go_enter Tryz.func14, Tryz.ntmps14
  go_wp2_with fail
  clear c0
  generalize w.alloc (.cells #[.int .i64 6, .string p, .string t, .slice adx nx capx, .int .i64 m, .int .u8 y] 44) = w0 at *
  generalize w.heap.size = b5 at *
  refine wp_region_held (S := fun w' => At w' b5 #[.int .i64 6, .string p, .string t, .slice adx nx capx, .int .i64 m, .int .u8 y] 44) (by kernel_rfl) ?_
  change wpAnyH _ _ _ _ _ _ _ _ w0.drew
  have S0 : At w0.drew b5 #[.int .i64 6, .string p, .string t, .slice adx nx capx, .int .i64 m, .int .u8 y] 44 := a0
  have h0 := HH.out.1.ext (e0.trans (Ext.drew w0))
  have hg := HH.out.2.1
  have r0 := HH.out.2.2.1.ext (e0.trans (Ext.drew w0))
  have hx0 := HH.out.2.2.2.2.2.2.ext (e0.trans (Ext.drew w0))
  have E0 := Lib.hid (Chg.of_ext (X := fun i => base ≤ i ∧ i ≠ pp) (e0.trans (Ext.drew w0)))
  have sz0 : w0.drew.heap.size = w0.heap.size := rfl
  have CC := Lib.hid (vremove b S V L k q a N _ h0 hg (by omega) hq p hpq)
  unfold ptr at CC
  generalize w0.drew = W0 at *
  refine takeS 0 (some 78) (.pointer (some ⟨b, 0, none⟩)) rfl rfl (by kernel_rfl) (by kernel_rfl) (by kernel_rfl) (fun _ _ _ h => h) rfl S0 (fun w' hw' => by go_simp) ?_
  simp only [Act.put, List.setIfInBounds_toArray, List.set_cons_zero, List.set_cons_succ]
  refine takeS 1 (some 79) (.pointer (some ⟨b5, 1, none⟩)) rfl rfl (by kernel_rfl) (by kernel_rfl) (by kernel_rfl) (fun _ _ _ h => h) rfl S0 (fun w' hw' => by go_simp) ?_
  simp only [Act.put, List.setIfInBounds_toArray, List.set_cons_zero, List.set_cons_succ]
  refine takeS 2 (some 80) (.string p) rfl rfl (by kernel_rfl) (by kernel_rfl) (by kernel_rfl) (fun _ _ _ h => h) rfl S0 (fun w' hw' => by have c_ := hw'.cell 1; go_simp) ?_
  simp only [Act.put, List.setIfInBounds_toArray, List.set_cons_zero, List.set_cons_succ]
  refine takeS 4 (some 82) (.pointer (some ⟨g, 0, none⟩)) rfl rfl (by kernel_rfl) (by kernel_rfl) (by kernel_rfl) (fun _ _ _ h => h) rfl S0 (fun w' hw' => by go_simp) ?_
  simp only [Act.put, List.setIfInBounds_toArray, List.set_cons_zero, List.set_cons_succ]
  refine takeS 5 (some 83) (.pointer (some ⟨b5, 1, none⟩)) rfl rfl (by kernel_rfl) (by kernel_rfl) (by kernel_rfl) (fun _ _ _ h => h) rfl S0 (fun w' hw' => by go_simp) ?_
  simp only [Act.put, List.setIfInBounds_toArray, List.set_cons_zero, List.set_cons_succ]
  refine takeS 6 (some 84) (.string p) rfl rfl (by kernel_rfl) (by kernel_rfl) (by kernel_rfl) (fun _ _ _ h => h) rfl S0 (fun w' hw' => by have c_ := hw'.cell 1; go_simp) ?_
  simp only [Act.put, List.setIfInBounds_toArray, List.set_cons_zero, List.set_cons_succ]
  refine nextS 3 rfl (by kernel_rfl) rfl (callS (some 81) rfl 37 #[.pointer (some ⟨b, 0, none⟩), .string p] (by go_simp) (fun v w' => (∃ n : Int, v = .int .i64 n) ∧ VO W0 b k q a N L w') ((CC.out).mono fun e w' he => by obtain ⟨⟨n_, h1_⟩, h2_⟩ := he; exact ⟨_, h1_, ⟨n_, rfl⟩, h2_⟩) ?_)
  rintro v1_ w1 ⟨⟨n1, rfl⟩, v1⟩
  simp only [Act.put, List.setIfInBounds_toArray, List.set_cons_zero, List.set_cons_succ]
  have A1 : At w1 b5 #[.int .i64 6, .string p, .string t, .slice adx nx capx, .int .i64 m, .int .u8 y] 44 := by obtain ⟨_, _, _, _, _, h3_⟩ := v1; exact h3_.chg.at S0 (by rw [nL]; simp)
  refine ⟨A1, ?_⟩
  obtain ⟨S1, V1, L1, R1, F1, m1, m2, m3, m4, m5, m6, m7, m8⟩ := Two.mid h0 r0 HH.out.2.2.2.1 HH.out.2.2.2.2.1 HH.out.2.2.2.2.2.1 ⟨hgb.1, hgb.2.1, Nat.lt_trans hgb.2.2 S0.lt⟩ v1
  have CD := Lib.hid (rremove_all g R1 F1 (10 * k) p _ m3 (by omega))
  unfold ptr at CD
  refine nextS 7 rfl (by kernel_rfl) rfl (callS (some 85) rfl 38 #[.pointer (some ⟨g, 0, none⟩), .string p] (by go_simp) (fun v w' => (∃ n : Int, v = .int .i64 n) ∧ RPost w1 g F1 (10 * k + 10) w') ((CD.out).mono fun e w' he => by obtain ⟨⟨n_, h1_⟩, h2_⟩ := he; exact ⟨_, h1_, ⟨n_, rfl⟩, h2_⟩) ?_)
  rintro v2_ w2 ⟨⟨n2, rfl⟩, p2⟩
  simp only [Act.put, List.setIfInBounds_toArray, List.set_cons_zero, List.set_cons_succ]
  have A2 : At w2 b5 #[.int .i64 6, .string p, .string t, .slice adx nx capx, .int .i64 m, .int .u8 y] 44 := by obtain ⟨_, _, _, h3_, _⟩ := p2; exact h3_.at A1 nb
  refine ⟨A2, ?_⟩
  have FIN := Lib.hid (Mid.two m1 m2 m3 m4 m5 m6 m7 (E0.out.trans m8 (fun _ _ h => h)) p2)
  refine takeS 8 (some 6) (.int .i64 n1) rfl rfl (by kernel_rfl) (by kernel_rfl) (by kernel_rfl) (fun _ _ _ h => h) rfl A2 (fun w' hw' => by go_simp) ?_
  simp only [Act.put, List.setIfInBounds_toArray, List.set_cons_zero, List.set_cons_succ]
  refine takeS 9 (some 7) (.int .i64 n2) rfl rfl (by kernel_rfl) (by kernel_rfl) (by kernel_rfl) (fun _ _ _ h => h) rfl A2 (fun w' hw' => by go_simp) ?_
  simp only [Act.put, List.setIfInBounds_toArray, List.set_cons_zero, List.set_cons_succ]
  refine wpAnyH_done (by kernel_rfl) ?_ _
  clear m1 m2 m3 m4 m5 m6 m7 m8 h0 hg r0 hx0 e0 a0 p2 v1 A1 A2 S0
  go_wp2
  go_ret2
  exact ⟨⟨_, _, rfl⟩, FIN.out⟩

set_option maxRecDepth 100000 in
set_option maxHeartbeats 8000000 in
theorem does_7 (b g k : Nat) (q : B) (a : Nat) (N : NV) (base pp : Nat) (w : World) (p t : ByteArray) (m y : Int) (x : List Int) (adx : Option Addr) (nx capx bx ox : Nat) (h2 : Two w b g k q a N base pp) (hk : k ≤ 80) (hq : (47 : UInt8) ∉ q) (hpq : p.toList ≠ q) (ht : t.size ≤ 1000000) (hy : 0 ≤ y ∧ y < 256) (hnx : nx = x.length) (hx : Bin w (.slice adx x.length capx) x adx capx bx ox) (hbx : bx < base) (hbyt : ∀ z ∈ x, 0 ≤ z ∧ z < 256) (hxn : x.length ≤ 1000000) (hbw : base ≤ w.heap.size) :
    Calls Tryz.prog 14 #[ptr b, ptr g, .agg #[.int .i64 7, .string p, .string t, .slice adx nx capx, .int .i64 m, .int .u8 y]] w (DoesR w b g k q a N base pp) := by
  obtain ⟨S, V, L, R, F, h, hg, r, hL, hF, hb, hgb⟩ := h2
  have e0 : Ext w (w.alloc (.cells #[.int .i64 7, .string p, .string t, .slice adx nx capx, .int .i64 m, .int .u8 y] 44)) := Ext.alloc w _
  have a0 := At.new w #[.int .i64 7, .string p, .string t, .slice adx nx capx, .int .i64 m, .int .u8 y] 44
  have nb : ¬ w.heap.size = g := by have := r.cell.lt; omega
  have nL : L w.heap.size = none := by
    cases hc : L w.heap.size with
    | none => rfl
    | some z => have := h.lt w.heap.size (by rw [hc]; simp); omega
  have hLx : L bx = none := by
    cases hc : L bx with
    | none => rfl
    | some z => have := hb bx (by rw [hc]; simp); omega
  have c0 := a0.cell 0
  have HH := Lib.hid (And.intro h (And.intro hg (And.intro r (And.intro hL (And.intro hF (And.intro hb hx))))))
  have HNX := Lib.hid hnx
  clear h hg r hL hF hb hx hnx
  unfold ptr
  go_enter Tryz.func14, Tryz.ntmps14
  go_wp2_with fail
  clear c0
  generalize w.alloc (.cells #[.int .i64 7, .string p, .string t, .slice adx nx capx, .int .i64 m, .int .u8 y] 44) = w0 at *
  generalize w.heap.size = b5 at *
  refine wp_region_held (S := fun w' => At w' b5 #[.int .i64 7, .string p, .string t, .slice adx nx capx, .int .i64 m, .int .u8 y] 44) (by kernel_rfl) ?_
  change wpAnyH _ _ _ _ _ _ _ _ w0.drew
  have S0 : At w0.drew b5 #[.int .i64 7, .string p, .string t, .slice adx nx capx, .int .i64 m, .int .u8 y] 44 := a0
  have h0 := HH.out.1.ext (e0.trans (Ext.drew w0))
  have hg := HH.out.2.1
  have r0 := HH.out.2.2.1.ext (e0.trans (Ext.drew w0))
  have hx0 := HH.out.2.2.2.2.2.2.ext (e0.trans (Ext.drew w0))
  have E0 := Lib.hid (Chg.of_ext (X := fun i => base ≤ i ∧ i ≠ pp) (e0.trans (Ext.drew w0)))
  have sz0 : w0.drew.heap.size = w0.heap.size := rfl
  have CC := Lib.hid (vrename b S V L k q a N _ h0 hg (by omega) hq p t hpq ht)
  unfold ptr at CC
  generalize w0.drew = W0 at *
  refine takeS 0 (some 88) (.pointer (some ⟨b, 0, none⟩)) rfl rfl (by kernel_rfl) (by kernel_rfl) (by kernel_rfl) (fun _ _ _ h => h) rfl S0 (fun w' hw' => by go_simp) ?_
  simp only [Act.put, List.setIfInBounds_toArray, List.set_cons_zero, List.set_cons_succ]
  refine takeS 1 (some 89) (.pointer (some ⟨b5, 1, none⟩)) rfl rfl (by kernel_rfl) (by kernel_rfl) (by kernel_rfl) (fun _ _ _ h => h) rfl S0 (fun w' hw' => by go_simp) ?_
  simp only [Act.put, List.setIfInBounds_toArray, List.set_cons_zero, List.set_cons_succ]
  refine takeS 2 (some 90) (.string p) rfl rfl (by kernel_rfl) (by kernel_rfl) (by kernel_rfl) (fun _ _ _ h => h) rfl S0 (fun w' hw' => by have c_ := hw'.cell 1; go_simp) ?_
  simp only [Act.put, List.setIfInBounds_toArray, List.set_cons_zero, List.set_cons_succ]
  refine takeS 3 (some 91) (.pointer (some ⟨b5, 2, none⟩)) rfl rfl (by kernel_rfl) (by kernel_rfl) (by kernel_rfl) (fun _ _ _ h => h) rfl S0 (fun w' hw' => by go_simp) ?_
  simp only [Act.put, List.setIfInBounds_toArray, List.set_cons_zero, List.set_cons_succ]
  refine takeS 4 (some 92) (.string t) rfl rfl (by kernel_rfl) (by kernel_rfl) (by kernel_rfl) (fun _ _ _ h => h) rfl S0 (fun w' hw' => by have c_ := hw'.cell 2; go_simp) ?_
  simp only [Act.put, List.setIfInBounds_toArray, List.set_cons_zero, List.set_cons_succ]
  refine takeS 6 (some 94) (.pointer (some ⟨g, 0, none⟩)) rfl rfl (by kernel_rfl) (by kernel_rfl) (by kernel_rfl) (fun _ _ _ h => h) rfl S0 (fun w' hw' => by go_simp) ?_
  simp only [Act.put, List.setIfInBounds_toArray, List.set_cons_zero, List.set_cons_succ]
  refine takeS 7 (some 95) (.pointer (some ⟨b5, 1, none⟩)) rfl rfl (by kernel_rfl) (by kernel_rfl) (by kernel_rfl) (fun _ _ _ h => h) rfl S0 (fun w' hw' => by go_simp) ?_
  simp only [Act.put, List.setIfInBounds_toArray, List.set_cons_zero, List.set_cons_succ]
  refine takeS 8 (some 96) (.string p) rfl rfl (by kernel_rfl) (by kernel_rfl) (by kernel_rfl) (fun _ _ _ h => h) rfl S0 (fun w' hw' => by have c_ := hw'.cell 1; go_simp) ?_
  simp only [Act.put, List.setIfInBounds_toArray, List.set_cons_zero, List.set_cons_succ]
  refine takeS 9 (some 97) (.pointer (some ⟨b5, 2, none⟩)) rfl rfl (by kernel_rfl) (by kernel_rfl) (by kernel_rfl) (fun _ _ _ h => h) rfl S0 (fun w' hw' => by go_simp) ?_
  simp only [Act.put, List.setIfInBounds_toArray, List.set_cons_zero, List.set_cons_succ]
  refine takeS 10 (some 98) (.string t) rfl rfl (by kernel_rfl) (by kernel_rfl) (by kernel_rfl) (fun _ _ _ h => h) rfl S0 (fun w' hw' => by have c_ := hw'.cell 2; go_simp) ?_
  simp only [Act.put, List.setIfInBounds_toArray, List.set_cons_zero, List.set_cons_succ]
  refine nextS 5 rfl (by kernel_rfl) rfl (callS (some 93) rfl 39 #[.pointer (some ⟨b, 0, none⟩), .string p, .string t] (by go_simp) (fun v w' => (∃ n : Int, v = .int .i64 n) ∧ VO W0 b k q a N L w') ((CC.out).mono fun e w' he => by obtain ⟨⟨n_, h1_⟩, h2_⟩ := he; exact ⟨_, h1_, ⟨n_, rfl⟩, h2_⟩) ?_)
  rintro v1_ w1 ⟨⟨n1, rfl⟩, v1⟩
  simp only [Act.put, List.setIfInBounds_toArray, List.set_cons_zero, List.set_cons_succ]
  have A1 : At w1 b5 #[.int .i64 7, .string p, .string t, .slice adx nx capx, .int .i64 m, .int .u8 y] 44 := by obtain ⟨_, _, _, _, _, h3_⟩ := v1; exact h3_.chg.at S0 (by rw [nL]; simp)
  refine ⟨A1, ?_⟩
  obtain ⟨S1, V1, L1, R1, F1, m1, m2, m3, m4, m5, m6, m7, m8⟩ := Two.mid h0 r0 HH.out.2.2.2.1 HH.out.2.2.2.2.1 HH.out.2.2.2.2.2.1 ⟨hgb.1, hgb.2.1, Nat.lt_trans hgb.2.2 S0.lt⟩ v1
  have CD := Lib.hid (rrename_all g R1 F1 (10 * k) p t _ m3 (by omega))
  unfold ptr at CD
  refine nextS 11 rfl (by kernel_rfl) rfl (callS (some 99) rfl 40 #[.pointer (some ⟨g, 0, none⟩), .string p, .string t] (by go_simp) (fun v w' => (∃ n : Int, v = .int .i64 n) ∧ RPost w1 g F1 (10 * k + 10) w') ((CD.out).mono fun e w' he => by obtain ⟨⟨n_, h1_⟩, h2_⟩ := he; exact ⟨_, h1_, ⟨n_, rfl⟩, h2_⟩) ?_)
  rintro v2_ w2 ⟨⟨n2, rfl⟩, p2⟩
  simp only [Act.put, List.setIfInBounds_toArray, List.set_cons_zero, List.set_cons_succ]
  have A2 : At w2 b5 #[.int .i64 7, .string p, .string t, .slice adx nx capx, .int .i64 m, .int .u8 y] 44 := by obtain ⟨_, _, _, h3_, _⟩ := p2; exact h3_.at A1 nb
  refine ⟨A2, ?_⟩
  have FIN := Lib.hid (Mid.two m1 m2 m3 m4 m5 m6 m7 (E0.out.trans m8 (fun _ _ h => h)) p2)
  refine takeS 12 (some 6) (.int .i64 n1) rfl rfl (by kernel_rfl) (by kernel_rfl) (by kernel_rfl) (fun _ _ _ h => h) rfl A2 (fun w' hw' => by go_simp) ?_
  simp only [Act.put, List.setIfInBounds_toArray, List.set_cons_zero, List.set_cons_succ]
  refine takeS 13 (some 7) (.int .i64 n2) rfl rfl (by kernel_rfl) (by kernel_rfl) (by kernel_rfl) (fun _ _ _ h => h) rfl A2 (fun w' hw' => by go_simp) ?_
  simp only [Act.put, List.setIfInBounds_toArray, List.set_cons_zero, List.set_cons_succ]
  refine wpAnyH_done (by kernel_rfl) ?_ _
  clear m1 m2 m3 m4 m5 m6 m7 m8 h0 hg r0 hx0 e0 a0 p2 v1 A1 A2 S0
  go_wp2
  go_ret2
  exact ⟨⟨_, _, rfl⟩, FIN.out⟩

set_option maxRecDepth 100000 in
set_option maxHeartbeats 8000000 in
theorem does_8 (b g k : Nat) (q : B) (a : Nat) (N : NV) (base pp : Nat) (w : World) (p t : ByteArray) (m y : Int) (x : List Int) (adx : Option Addr) (nx capx bx ox : Nat) (h2 : Two w b g k q a N base pp) (hk : k ≤ 80) (hq : (47 : UInt8) ∉ q) (hpq : p.toList ≠ q) (ht : t.size ≤ 1000000) (hy : 0 ≤ y ∧ y < 256) (hnx : nx = x.length) (hx : Bin w (.slice adx x.length capx) x adx capx bx ox) (hbx : bx < base) (hbyt : ∀ z ∈ x, 0 ≤ z ∧ z < 256) (hxn : x.length ≤ 1000000) (hbw : base ≤ w.heap.size) :
    Calls Tryz.prog 14 #[ptr b, ptr g, .agg #[.int .i64 8, .string p, .string t, .slice adx nx capx, .int .i64 m, .int .u8 y]] w (DoesR w b g k q a N base pp) := by
  obtain ⟨S, V, L, R, F, h, hg, r, hL, hF, hb, hgb⟩ := h2
  have e0 : Ext w (w.alloc (.cells #[.int .i64 8, .string p, .string t, .slice adx nx capx, .int .i64 m, .int .u8 y] 44)) := Ext.alloc w _
  have a0 := At.new w #[.int .i64 8, .string p, .string t, .slice adx nx capx, .int .i64 m, .int .u8 y] 44
  have nb : ¬ w.heap.size = g := by have := r.cell.lt; omega
  have nL : L w.heap.size = none := by
    cases hc : L w.heap.size with
    | none => rfl
    | some z => have := h.lt w.heap.size (by rw [hc]; simp); omega
  have hLx : L bx = none := by
    cases hc : L bx with
    | none => rfl
    | some z => have := hb bx (by rw [hc]; simp); omega
  have c0 := a0.cell 0
  have HH := Lib.hid (And.intro h (And.intro hg (And.intro r (And.intro hL (And.intro hF (And.intro hb hx))))))
  have HNX := Lib.hid hnx
  clear h hg r hL hF hb hx hnx
  unfold ptr
  go_enter Tryz.func14, Tryz.ntmps14
  go_wp2_with fail
  clear c0
  generalize w.alloc (.cells #[.int .i64 8, .string p, .string t, .slice adx nx capx, .int .i64 m, .int .u8 y] 44) = w0 at *
  generalize w.heap.size = b5 at *
  refine wp_region_held (S := fun w' => At w' b5 #[.int .i64 8, .string p, .string t, .slice adx nx capx, .int .i64 m, .int .u8 y] 44) (by kernel_rfl) ?_
  change wpAnyH _ _ _ _ _ _ _ _ w0.drew
  have S0 : At w0.drew b5 #[.int .i64 8, .string p, .string t, .slice adx nx capx, .int .i64 m, .int .u8 y] 44 := a0
  have h0 := HH.out.1.ext (e0.trans (Ext.drew w0))
  have hg := HH.out.2.1
  have r0 := HH.out.2.2.1.ext (e0.trans (Ext.drew w0))
  have hx0 := HH.out.2.2.2.2.2.2.ext (e0.trans (Ext.drew w0))
  have E0 := Lib.hid (Chg.of_ext (X := fun i => base ≤ i ∧ i ≠ pp) (e0.trans (Ext.drew w0)))
  have sz0 : w0.drew.heap.size = w0.heap.size := rfl
  have CC := Lib.hid (vsync b S V L k q a N _ h0 hg (by omega) p hpq)
  unfold ptr at CC
  generalize w0.drew = W0 at *
  refine takeS 0 (some 102) (.pointer (some ⟨b, 0, none⟩)) rfl rfl (by kernel_rfl) (by kernel_rfl) (by kernel_rfl) (fun _ _ _ h => h) rfl S0 (fun w' hw' => by go_simp) ?_
  simp only [Act.put, List.setIfInBounds_toArray, List.set_cons_zero, List.set_cons_succ]
  refine takeS 1 (some 103) (.pointer (some ⟨b5, 1, none⟩)) rfl rfl (by kernel_rfl) (by kernel_rfl) (by kernel_rfl) (fun _ _ _ h => h) rfl S0 (fun w' hw' => by go_simp) ?_
  simp only [Act.put, List.setIfInBounds_toArray, List.set_cons_zero, List.set_cons_succ]
  refine takeS 2 (some 104) (.string p) rfl rfl (by kernel_rfl) (by kernel_rfl) (by kernel_rfl) (fun _ _ _ h => h) rfl S0 (fun w' hw' => by have c_ := hw'.cell 1; go_simp) ?_
  simp only [Act.put, List.setIfInBounds_toArray, List.set_cons_zero, List.set_cons_succ]
  refine takeS 4 (some 106) (.pointer (some ⟨g, 0, none⟩)) rfl rfl (by kernel_rfl) (by kernel_rfl) (by kernel_rfl) (fun _ _ _ h => h) rfl S0 (fun w' hw' => by go_simp) ?_
  simp only [Act.put, List.setIfInBounds_toArray, List.set_cons_zero, List.set_cons_succ]
  refine takeS 5 (some 107) (.pointer (some ⟨b5, 1, none⟩)) rfl rfl (by kernel_rfl) (by kernel_rfl) (by kernel_rfl) (fun _ _ _ h => h) rfl S0 (fun w' hw' => by go_simp) ?_
  simp only [Act.put, List.setIfInBounds_toArray, List.set_cons_zero, List.set_cons_succ]
  refine takeS 6 (some 108) (.string p) rfl rfl (by kernel_rfl) (by kernel_rfl) (by kernel_rfl) (fun _ _ _ h => h) rfl S0 (fun w' hw' => by have c_ := hw'.cell 1; go_simp) ?_
  simp only [Act.put, List.setIfInBounds_toArray, List.set_cons_zero, List.set_cons_succ]
  refine nextS 3 rfl (by kernel_rfl) rfl (callS (some 105) rfl 10 #[.pointer (some ⟨b, 0, none⟩), .string p] (by go_simp) (fun v w' => (∃ n : Int, v = .int .i64 n) ∧ VO W0 b k q a N L w') ((CC.out).mono fun e w' he => by obtain ⟨⟨n_, h1_⟩, h2_⟩ := he; exact ⟨_, h1_, ⟨n_, rfl⟩, h2_⟩) ?_)
  rintro v1_ w1 ⟨⟨n1, rfl⟩, v1⟩
  simp only [Act.put, List.setIfInBounds_toArray, List.set_cons_zero, List.set_cons_succ]
  have A1 : At w1 b5 #[.int .i64 8, .string p, .string t, .slice adx nx capx, .int .i64 m, .int .u8 y] 44 := by obtain ⟨_, _, _, _, _, h3_⟩ := v1; exact h3_.chg.at S0 (by rw [nL]; simp)
  refine ⟨A1, ?_⟩
  obtain ⟨S1, V1, L1, R1, F1, m1, m2, m3, m4, m5, m6, m7, m8⟩ := Two.mid h0 r0 HH.out.2.2.2.1 HH.out.2.2.2.2.1 HH.out.2.2.2.2.2.1 ⟨hgb.1, hgb.2.1, Nat.lt_trans hgb.2.2 S0.lt⟩ v1
  have CD := Lib.hid (rsync_all g R1 F1 (10 * k) p _ m3 (by omega))
  unfold ptr at CD
  refine nextS 7 rfl (by kernel_rfl) rfl (callS (some 109) rfl 41 #[.pointer (some ⟨g, 0, none⟩), .string p] (by go_simp) (fun v w' => (∃ n : Int, v = .int .i64 n) ∧ RPost w1 g F1 (10 * k + 10) w') ((CD.out).mono fun e w' he => by obtain ⟨⟨n_, h1_⟩, h2_⟩ := he; exact ⟨_, h1_, ⟨n_, rfl⟩, h2_⟩) ?_)
  rintro v2_ w2 ⟨⟨n2, rfl⟩, p2⟩
  simp only [Act.put, List.setIfInBounds_toArray, List.set_cons_zero, List.set_cons_succ]
  have A2 : At w2 b5 #[.int .i64 8, .string p, .string t, .slice adx nx capx, .int .i64 m, .int .u8 y] 44 := by obtain ⟨_, _, _, h3_, _⟩ := p2; exact h3_.at A1 nb
  refine ⟨A2, ?_⟩
  have FIN := Lib.hid (Mid.two m1 m2 m3 m4 m5 m6 m7 (E0.out.trans m8 (fun _ _ h => h)) p2)
  refine takeS 8 (some 6) (.int .i64 n1) rfl rfl (by kernel_rfl) (by kernel_rfl) (by kernel_rfl) (fun _ _ _ h => h) rfl A2 (fun w' hw' => by go_simp) ?_
  simp only [Act.put, List.setIfInBounds_toArray, List.set_cons_zero, List.set_cons_succ]
  refine takeS 9 (some 7) (.int .i64 n2) rfl rfl (by kernel_rfl) (by kernel_rfl) (by kernel_rfl) (fun _ _ _ h => h) rfl A2 (fun w' hw' => by go_simp) ?_
  simp only [Act.put, List.setIfInBounds_toArray, List.set_cons_zero, List.set_cons_succ]
  refine wpAnyH_done (by kernel_rfl) ?_ _
  clear m1 m2 m3 m4 m5 m6 m7 m8 h0 hg r0 hx0 e0 a0 p2 v1 A1 A2 S0
  go_wp2
  go_ret2
  exact ⟨⟨_, _, rfl⟩, FIN.out⟩

set_option maxRecDepth 100000 in
set_option maxHeartbeats 8000000 in
theorem does_9 (b g k : Nat) (q : B) (a : Nat) (N : NV) (base pp : Nat) (w : World) (p t : ByteArray) (m y : Int) (x : List Int) (adx : Option Addr) (nx capx bx ox : Nat) (h2 : Two w b g k q a N base pp) (hk : k ≤ 80) (hq : (47 : UInt8) ∉ q) (hpq : p.toList ≠ q) (ht : t.size ≤ 1000000) (hy : 0 ≤ y ∧ y < 256) (hnx : nx = x.length) (hx : Bin w (.slice adx x.length capx) x adx capx bx ox) (hbx : bx < base) (hbyt : ∀ z ∈ x, 0 ≤ z ∧ z < 256) (hxn : x.length ≤ 1000000) (hbw : base ≤ w.heap.size) :
    Calls Tryz.prog 14 #[ptr b, ptr g, .agg #[.int .i64 9, .string p, .string t, .slice adx nx capx, .int .i64 m, .int .u8 y]] w (DoesR w b g k q a N base pp) := by
  obtain ⟨S, V, L, R, F, h, hg, r, hL, hF, hb, hgb⟩ := h2
  have e0 : Ext w (w.alloc (.cells #[.int .i64 9, .string p, .string t, .slice adx nx capx, .int .i64 m, .int .u8 y] 44)) := Ext.alloc w _
  have a0 := At.new w #[.int .i64 9, .string p, .string t, .slice adx nx capx, .int .i64 m, .int .u8 y] 44
  have nb : ¬ w.heap.size = g := by have := r.cell.lt; omega
  have nL : L w.heap.size = none := by
    cases hc : L w.heap.size with
    | none => rfl
    | some z => have := h.lt w.heap.size (by rw [hc]; simp); omega
  have hLx : L bx = none := by
    cases hc : L bx with
    | none => rfl
    | some z => have := hb bx (by rw [hc]; simp); omega
  have c0 := a0.cell 0
  have HH := Lib.hid (And.intro h (And.intro hg (And.intro r (And.intro hL (And.intro hF (And.intro hb hx))))))
  have HNX := Lib.hid hnx
  clear h hg r hL hF hb hx hnx
  unfold ptr
  go_enter Tryz.func14, Tryz.ntmps14
  go_wp2_with fail
  clear c0
  generalize w.alloc (.cells #[.int .i64 9, .string p, .string t, .slice adx nx capx, .int .i64 m, .int .u8 y] 44) = w0 at *
  generalize w.heap.size = b5 at *
  have h0 := HH.out.1.ext (e0.trans (Ext.refl w0))
  have hg := HH.out.2.1
  have r0 := HH.out.2.2.1.ext (e0.trans (Ext.refl w0))
  have hx0 := HH.out.2.2.2.2.2.2.ext (e0.trans (Ext.refl w0))
  have E0 := Lib.hid (Chg.of_ext (X := fun i => base ≤ i ∧ i ≠ pp) (e0.trans (Ext.refl w0)))
  have CC := Lib.hid (vsyncdir b S V L k q a N _ h0 hg (by omega))
  unfold ptr at CC
  refine (CC.out).mono ?_
  rintro e w1 ⟨⟨n1, rfl⟩, v1⟩
  obtain ⟨S1, V1, L1, R1, F1, m1, m2, m3, m4, m5, m6, m7, m8⟩ := Two.mid h0 r0 HH.out.2.2.2.1 HH.out.2.2.2.2.1 HH.out.2.2.2.2.2.1 ⟨hgb.1, hgb.2.1, Nat.lt_trans hgb.2.2 a0.lt⟩ v1
  have CD := Lib.hid (rsyncdir_all g R1 F1 (10 * k) _ m3 (by omega))
  unfold ptr at CD
  have HM := Lib.hid (And.intro m1 (And.intro m2 (And.intro m3 (And.intro m4 (And.intro m5 (And.intro m6 (And.intro m7 m8)))))))
  clear m1 m2 m3 m4 m5 m6 m7 m8 h0 hg r0 hx0 e0 a0
  go_wp2_with fail
  refine (CD.out).mono ?_
  rintro e w2 ⟨⟨n2, rfl⟩, p2⟩
  have FIN := Lib.hid (Mid.two HM.out.1 HM.out.2.1 HM.out.2.2.1 HM.out.2.2.2.1 HM.out.2.2.2.2.1 HM.out.2.2.2.2.2.1 HM.out.2.2.2.2.2.2.1 (E0.out.trans HM.out.2.2.2.2.2.2.2 (fun _ _ h => h)) p2)
  clear p2
  go_wp2
  go_ret2
  exact ⟨⟨_, _, rfl⟩, FIN.out⟩

set_option maxRecDepth 100000 in
set_option maxHeartbeats 8000000 in
theorem does_11 (b g k : Nat) (q : B) (a : Nat) (N : NV) (base pp : Nat) (w : World) (p t : ByteArray) (m y : Int) (x : List Int) (adx : Option Addr) (nx capx bx ox : Nat) (h2 : Two w b g k q a N base pp) (hk : k ≤ 80) (hq : (47 : UInt8) ∉ q) (hpq : p.toList ≠ q) (ht : t.size ≤ 1000000) (hy : 0 ≤ y ∧ y < 256) (hnx : nx = x.length) (hx : Bin w (.slice adx x.length capx) x adx capx bx ox) (hbx : bx < base) (hbyt : ∀ z ∈ x, 0 ≤ z ∧ z < 256) (hxn : x.length ≤ 1000000) (hbw : base ≤ w.heap.size) :
    Calls Tryz.prog 14 #[ptr b, ptr g, .agg #[.int .i64 11, .string p, .string t, .slice adx nx capx, .int .i64 m, .int .u8 y]] w (DoesR w b g k q a N base pp) := by
  obtain ⟨S, V, L, R, F, h, hg, r, hL, hF, hb, hgb⟩ := h2
  have e0 : Ext w (w.alloc (.cells #[.int .i64 11, .string p, .string t, .slice adx nx capx, .int .i64 m, .int .u8 y] 44)) := Ext.alloc w _
  have a0 := At.new w #[.int .i64 11, .string p, .string t, .slice adx nx capx, .int .i64 m, .int .u8 y] 44
  have nb : ¬ w.heap.size = g := by have := r.cell.lt; omega
  have nL : L w.heap.size = none := by
    cases hc : L w.heap.size with
    | none => rfl
    | some z => have := h.lt w.heap.size (by rw [hc]; simp); omega
  have hLx : L bx = none := by
    cases hc : L bx with
    | none => rfl
    | some z => have := hb bx (by rw [hc]; simp); omega
  have c0 := a0.cell 0
  have HH := Lib.hid (And.intro h (And.intro hg (And.intro r (And.intro hL (And.intro hF (And.intro hb hx))))))
  have HNX := Lib.hid hnx
  clear h hg r hL hF hb hx hnx
  unfold ptr
  go_enter Tryz.func14, Tryz.ntmps14
  go_wp2_with fail
  clear c0
  generalize w.alloc (.cells #[.int .i64 11, .string p, .string t, .slice adx nx capx, .int .i64 m, .int .u8 y] 44) = w0 at *
  generalize w.heap.size = b5 at *
  refine wp_region_held (S := fun w' => At w' b5 #[.int .i64 11, .string p, .string t, .slice adx nx capx, .int .i64 m, .int .u8 y] 44) (by kernel_rfl) ?_
  change wpAnyH _ _ _ _ _ _ _ _ w0.drew
  have S0 : At w0.drew b5 #[.int .i64 11, .string p, .string t, .slice adx nx capx, .int .i64 m, .int .u8 y] 44 := a0
  have h0 := HH.out.1.ext (e0.trans (Ext.drew w0))
  have hg := HH.out.2.1
  have r0 := HH.out.2.2.1.ext (e0.trans (Ext.drew w0))
  have hx0 := HH.out.2.2.2.2.2.2.ext (e0.trans (Ext.drew w0))
  have E0 := Lib.hid (Chg.of_ext (X := fun i => base ≤ i ∧ i ≠ pp) (e0.trans (Ext.drew w0)))
  have sz0 : w0.drew.heap.size = w0.heap.size := rfl
  have CC := Lib.hid (vrot b S V L k q a N _ h0 hg (by omega) p hpq m y hy)
  unfold ptr at CC
  generalize w0.drew = W0 at *
  refine takeS 0 (some 128) (.pointer (some ⟨b, 0, none⟩)) rfl rfl (by kernel_rfl) (by kernel_rfl) (by kernel_rfl) (fun _ _ _ h => h) rfl S0 (fun w' hw' => by go_simp) ?_
  simp only [Act.put, List.setIfInBounds_toArray, List.set_cons_zero, List.set_cons_succ]
  refine takeS 1 (some 129) (.pointer (some ⟨b5, 1, none⟩)) rfl rfl (by kernel_rfl) (by kernel_rfl) (by kernel_rfl) (fun _ _ _ h => h) rfl S0 (fun w' hw' => by go_simp) ?_
  simp only [Act.put, List.setIfInBounds_toArray, List.set_cons_zero, List.set_cons_succ]
  refine takeS 2 (some 130) (.string p) rfl rfl (by kernel_rfl) (by kernel_rfl) (by kernel_rfl) (fun _ _ _ h => h) rfl S0 (fun w' hw' => by have c_ := hw'.cell 1; go_simp) ?_
  simp only [Act.put, List.setIfInBounds_toArray, List.set_cons_zero, List.set_cons_succ]
  refine takeS 3 (some 131) (.pointer (some ⟨b5, 4, none⟩)) rfl rfl (by kernel_rfl) (by kernel_rfl) (by kernel_rfl) (fun _ _ _ h => h) rfl S0 (fun w' hw' => by go_simp) ?_
  simp only [Act.put, List.setIfInBounds_toArray, List.set_cons_zero, List.set_cons_succ]
  refine takeS 4 (some 132) (.int .i64 m) rfl rfl (by kernel_rfl) (by kernel_rfl) (by kernel_rfl) (fun _ _ _ h => h) rfl S0 (fun w' hw' => by have c_ := hw'.cell 4; go_simp) ?_
  simp only [Act.put, List.setIfInBounds_toArray, List.set_cons_zero, List.set_cons_succ]
  refine takeS 5 (some 133) (.pointer (some ⟨b5, 5, none⟩)) rfl rfl (by kernel_rfl) (by kernel_rfl) (by kernel_rfl) (fun _ _ _ h => h) rfl S0 (fun w' hw' => by go_simp) ?_
  simp only [Act.put, List.setIfInBounds_toArray, List.set_cons_zero, List.set_cons_succ]
  refine takeS 6 (some 134) (.int .u8 y) rfl rfl (by kernel_rfl) (by kernel_rfl) (by kernel_rfl) (fun _ _ _ h => h) rfl S0 (fun w' hw' => by have c_ := hw'.cell 5; go_simp) ?_
  simp only [Act.put, List.setIfInBounds_toArray, List.set_cons_zero, List.set_cons_succ]
  refine takeS 8 (some 136) (.pointer (some ⟨g, 0, none⟩)) rfl rfl (by kernel_rfl) (by kernel_rfl) (by kernel_rfl) (fun _ _ _ h => h) rfl S0 (fun w' hw' => by go_simp) ?_
  simp only [Act.put, List.setIfInBounds_toArray, List.set_cons_zero, List.set_cons_succ]
  refine takeS 9 (some 137) (.pointer (some ⟨b5, 1, none⟩)) rfl rfl (by kernel_rfl) (by kernel_rfl) (by kernel_rfl) (fun _ _ _ h => h) rfl S0 (fun w' hw' => by go_simp) ?_
  simp only [Act.put, List.setIfInBounds_toArray, List.set_cons_zero, List.set_cons_succ]
  refine takeS 10 (some 138) (.string p) rfl rfl (by kernel_rfl) (by kernel_rfl) (by kernel_rfl) (fun _ _ _ h => h) rfl S0 (fun w' hw' => by have c_ := hw'.cell 1; go_simp) ?_
  simp only [Act.put, List.setIfInBounds_toArray, List.set_cons_zero, List.set_cons_succ]
  refine takeS 11 (some 139) (.pointer (some ⟨b5, 4, none⟩)) rfl rfl (by kernel_rfl) (by kernel_rfl) (by kernel_rfl) (fun _ _ _ h => h) rfl S0 (fun w' hw' => by go_simp) ?_
  simp only [Act.put, List.setIfInBounds_toArray, List.set_cons_zero, List.set_cons_succ]
  refine takeS 12 (some 140) (.int .i64 m) rfl rfl (by kernel_rfl) (by kernel_rfl) (by kernel_rfl) (fun _ _ _ h => h) rfl S0 (fun w' hw' => by have c_ := hw'.cell 4; go_simp) ?_
  simp only [Act.put, List.setIfInBounds_toArray, List.set_cons_zero, List.set_cons_succ]
  refine takeS 13 (some 141) (.pointer (some ⟨b5, 5, none⟩)) rfl rfl (by kernel_rfl) (by kernel_rfl) (by kernel_rfl) (fun _ _ _ h => h) rfl S0 (fun w' hw' => by go_simp) ?_
  simp only [Act.put, List.setIfInBounds_toArray, List.set_cons_zero, List.set_cons_succ]
  refine takeS 14 (some 142) (.int .u8 y) rfl rfl (by kernel_rfl) (by kernel_rfl) (by kernel_rfl) (fun _ _ _ h => h) rfl S0 (fun w' hw' => by have c_ := hw'.cell 5; go_simp) ?_
  simp only [Act.put, List.setIfInBounds_toArray, List.set_cons_zero, List.set_cons_succ]
  refine nextS 7 rfl (by kernel_rfl) rfl (callS (some 135) rfl 44 #[.pointer (some ⟨b, 0, none⟩), .string p, .int .i64 m, .int .u8 y] (by go_simp) (fun v w' => (∃ n : Int, v = .int .i64 n) ∧ VO W0 b k q a N L w') ((CC.out).mono fun e w' he => by obtain ⟨⟨n_, h1_⟩, h2_⟩ := he; exact ⟨_, h1_, ⟨n_, rfl⟩, h2_⟩) ?_)
  rintro v1_ w1 ⟨⟨n1, rfl⟩, v1⟩
  simp only [Act.put, List.setIfInBounds_toArray, List.set_cons_zero, List.set_cons_succ]
  have A1 : At w1 b5 #[.int .i64 11, .string p, .string t, .slice adx nx capx, .int .i64 m, .int .u8 y] 44 := by obtain ⟨_, _, _, _, _, h3_⟩ := v1; exact h3_.chg.at S0 (by rw [nL]; simp)
  refine ⟨A1, ?_⟩
  obtain ⟨S1, V1, L1, R1, F1, m1, m2, m3, m4, m5, m6, m7, m8⟩ := Two.mid h0 r0 HH.out.2.2.2.1 HH.out.2.2.2.2.1 HH.out.2.2.2.2.2.1 ⟨hgb.1, hgb.2.1, Nat.lt_trans hgb.2.2 S0.lt⟩ v1
  have CD := Lib.hid (rrot_all g R1 F1 (10 * k) p m y _ m3 (by omega))
  unfold ptr at CD
  refine nextS 15 rfl (by kernel_rfl) rfl (callS (some 143) rfl 45 #[.pointer (some ⟨g, 0, none⟩), .string p, .int .i64 m, .int .u8 y] (by go_simp) (fun v w' => (∃ n : Int, v = .int .i64 n) ∧ RPost w1 g F1 (10 * k + 10) w') ((CD.out).mono fun e w' he => by obtain ⟨⟨n_, h1_⟩, h2_⟩ := he; exact ⟨_, h1_, ⟨n_, rfl⟩, h2_⟩) ?_)
  rintro v2_ w2 ⟨⟨n2, rfl⟩, p2⟩
  simp only [Act.put, List.setIfInBounds_toArray, List.set_cons_zero, List.set_cons_succ]
  have A2 : At w2 b5 #[.int .i64 11, .string p, .string t, .slice adx nx capx, .int .i64 m, .int .u8 y] 44 := by obtain ⟨_, _, _, h3_, _⟩ := p2; exact h3_.at A1 nb
  refine ⟨A2, ?_⟩
  have FIN := Lib.hid (Mid.two m1 m2 m3 m4 m5 m6 m7 (E0.out.trans m8 (fun _ _ h => h)) p2)
  refine takeS 16 (some 6) (.int .i64 n1) rfl rfl (by kernel_rfl) (by kernel_rfl) (by kernel_rfl) (fun _ _ _ h => h) rfl A2 (fun w' hw' => by go_simp) ?_
  simp only [Act.put, List.setIfInBounds_toArray, List.set_cons_zero, List.set_cons_succ]
  refine takeS 17 (some 7) (.int .i64 n2) rfl rfl (by kernel_rfl) (by kernel_rfl) (by kernel_rfl) (fun _ _ _ h => h) rfl A2 (fun w' hw' => by go_simp) ?_
  simp only [Act.put, List.setIfInBounds_toArray, List.set_cons_zero, List.set_cons_succ]
  refine wpAnyH_done (by kernel_rfl) ?_ _
  clear m1 m2 m3 m4 m5 m6 m7 m8 h0 hg r0 hx0 e0 a0 p2 v1 A1 A2 S0
  go_wp2
  go_ret2
  exact ⟨⟨_, _, rfl⟩, FIN.out⟩
set_option maxRecDepth 100000 in
set_option maxHeartbeats 8000000 in
theorem does_none (b g k : Nat) (q : B) (a : Nat) (N : NV) (base pp : Nat) (w : World) (p t : ByteArray) (m y : Int) (x : List Int) (adx : Option Addr) (nx capx bx ox : Nat) (h2 : Two w b g k q a N base pp) (hk : k ≤ 80) (hq : (47 : UInt8) ∉ q) (hpq : p.toList ≠ q) (ht : t.size ≤ 1000000) (hy : 0 ≤ y ∧ y < 256) (hnx : nx = x.length) (hx : Bin w (.slice adx x.length capx) x adx capx bx ox) (hbx : bx < base) (hbyt : ∀ z ∈ x, 0 ≤ z ∧ z < 256) (hxn : x.length ≤ 1000000) (hbw : base ≤ w.heap.size) (kd : Int) (hkd : kd ≠ 1 ∧ kd ≠ 2 ∧ kd ≠ 3 ∧ kd ≠ 4 ∧ kd ≠ 5 ∧ kd ≠ 6 ∧ kd ≠ 7 ∧ kd ≠ 8 ∧ kd ≠ 9 ∧ kd ≠ 10 ∧ kd ≠ 11) :
    Calls Tryz.prog 14 #[ptr b, ptr g, .agg #[.int .i64 kd, .string p, .string t, .slice adx nx capx, .int .i64 m, .int .u8 y]] w (DoesR w b g k q a N base pp) := by
  have e0 : Ext w (w.alloc (.cells #[.int .i64 kd, .string p, .string t, .slice adx nx capx, .int .i64 m, .int .u8 y] 44)) := Ext.alloc w _
  have FIN : Hid (Two (w.alloc (.cells #[.int .i64 kd, .string p, .string t, .slice adx nx capx, .int .i64 m, .int .u8 y] 44)) b g (k + 1) q a N base pp ∧ Chg (fun i => base ≤ i ∧ i ≠ pp) w (w.alloc (.cells #[.int .i64 kd, .string p, .string t, .slice adx nx capx, .int .i64 m, .int .u8 y] 44))) := Lib.hid (by
    obtain ⟨S, V, L, R, F, h, hg, r, hL, hF, hb, hgb⟩ := h2
    exact ⟨⟨S, V, L, R, F, h.ext e0, hg.up, (r.ext e0).up (by omega), hL, hF, hb, hgb.1, hgb.2.1, Nat.lt_of_lt_of_le hgb.2.2 e0.size⟩, Chg.of_ext e0⟩)
  have c0 := (At.new w #[.int .i64 kd, .string p, .string t, .slice adx nx capx, .int .i64 m, .int .u8 y] 44).cell 0
  obtain ⟨g1, g2, g3, g4, g5, g6, g7, g8, g9, g10, g11⟩ := hkd
  have q1 : (kd == 1) = false := by simpa using g1
  have q2 : (kd == 2) = false := by simpa using g2
  have q3 : (kd == 3) = false := by simpa using g3
  have q4 : (kd == 4) = false := by simpa using g4
  have q5 : (kd == 5) = false := by simpa using g5
  have q6 : (kd == 6) = false := by simpa using g6
  have q7 : (kd == 7) = false := by simpa using g7
  have q8 : (kd == 8) = false := by simpa using g8
  have q9 : (kd == 9) = false := by simpa using g9
  have q10 : (kd == 10) = false := by simpa using g10
  have q11 : (kd == 11) = false := by simpa using g11
  clear h2 g1 g2 g3 g4 g5 g6 g7 g8 g9 g10 g11 e0 hx hbx hbyt hnx
  unfold ptr
  go_enter Tryz.func14, Tryz.ntmps14
  go_wp2
  go_ret2
  exact ⟨⟨_, _, rfl⟩, FIN.out⟩
theorem does_any (b g k : Nat) (q : B) (a : Nat) (N : NV) (base pp : Nat) (w : World) (p t : ByteArray) (m y : Int) (x : List Int) (adx : Option Addr) (nx capx bx ox : Nat) (h2 : Two w b g k q a N base pp) (hk : k ≤ 80) (hq : (47 : UInt8) ∉ q) (hpq : p.toList ≠ q) (ht : t.size ≤ 1000000) (hy : 0 ≤ y ∧ y < 256) (hnx : nx = x.length) (hx : Bin w (.slice adx x.length capx) x adx capx bx ox) (hbx : bx < base) (hbyt : ∀ z ∈ x, 0 ≤ z ∧ z < 256) (hxn : x.length ≤ 1000000) (hbw : base ≤ w.heap.size) (kd : Int) (h10 : kd ≠ 10) :
    Calls Tryz.prog 14 #[ptr b, ptr g, .agg #[.int .i64 kd, .string p, .string t, .slice adx nx capx, .int .i64 m, .int .u8 y]] w (DoesR w b g k q a N base pp) := by
  by_cases h_1 : kd = 1
  · subst h_1; exact does_1 b g k q a N base pp w p t m y x adx nx capx bx ox h2 hk hq hpq ht hy hnx hx hbx hbyt hxn hbw
  by_cases h_2 : kd = 2
  · subst h_2; exact does_2 b g k q a N base pp w p t m y x adx nx capx bx ox h2 hk hq hpq ht hy hnx hx hbx hbyt hxn hbw
  by_cases h_3 : kd = 3
  · subst h_3; exact does_3 b g k q a N base pp w p t m y x adx nx capx bx ox h2 hk hq hpq ht hy hnx hx hbx hbyt hxn hbw
  by_cases h_4 : kd = 4
  · subst h_4; exact does_4 b g k q a N base pp w p t m y x adx nx capx bx ox h2 hk hq hpq ht hy hnx hx hbx hbyt hxn hbw
  by_cases h_5 : kd = 5
  · subst h_5; exact does_5 b g k q a N base pp w p t m y x adx nx capx bx ox h2 hk hq hpq ht hy hnx hx hbx hbyt hxn hbw
  by_cases h_6 : kd = 6
  · subst h_6; exact does_6 b g k q a N base pp w p t m y x adx nx capx bx ox h2 hk hq hpq ht hy hnx hx hbx hbyt hxn hbw
  by_cases h_7 : kd = 7
  · subst h_7; exact does_7 b g k q a N base pp w p t m y x adx nx capx bx ox h2 hk hq hpq ht hy hnx hx hbx hbyt hxn hbw
  by_cases h_8 : kd = 8
  · subst h_8; exact does_8 b g k q a N base pp w p t m y x adx nx capx bx ox h2 hk hq hpq ht hy hnx hx hbx hbyt hxn hbw
  by_cases h_9 : kd = 9
  · subst h_9; exact does_9 b g k q a N base pp w p t m y x adx nx capx bx ox h2 hk hq hpq ht hy hnx hx hbx hbyt hxn hbw
  by_cases h_11 : kd = 11
  · subst h_11; exact does_11 b g k q a N base pp w p t m y x adx nx capx bx ox h2 hk hq hpq ht hy hnx hx hbx hbyt hxn hbw
  exact does_none b g k q a N base pp w p t m y x adx nx capx bx ox h2 hk hq hpq ht hy hnx hx hbx hbyt hxn hbw kd ⟨h_1, h_2, h_3, h_4, h_5, h_6, h_7, h_8, h_9, h10, h_11⟩
end Go.Proofs.YtbneedmfpldpfaaGreatDoor
