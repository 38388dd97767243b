/- What image's mayBe and May answer. No conditions but those named: contracts. -/
import Derived.Test.YtnhokjnmpdiokaaGreatDoorIf
namespace Go.Proofs.YtnhokjnmpdiokaaGreatDoor
open Go.RowKit Go.Sha Go.Pth
set_option linter.unusedSimpArgs false
set_option linter.unusedVariables false

theorem retb' {a b : Bool} (h : a = b) : Ending.returned (Value.bool a) = Ending.returned (Value.bool b) := by rw [h]
set_option maxHeartbeats 8000000 in
set_option maxRecDepth 100000 in
theorem mayBe_any (p : ByteArray) (xk z m t : Int) (r : List Int) (adx : Option Addr) (R capx : Nat) (w : World) (hR : R = r.length) :
    Calls Tryz.prog 30 #[.agg #[.string p, .int .i64 xk, .int .i64 z, .int .i64 m, .int .u64 t, .slice adx R capx]] w fun e w' => e = .returned (.bool (mayR ⟨p, xk, z, m, t, r⟩)) ∧ Ext w w' := by
  have a0 := At.new w #[.string p, .int .i64 xk, .int .i64 z, .int .i64 m, .int .u64 t, .slice adx R capx] 52
  have e0 : Ext w (w.alloc (.cells #[.string p, .int .i64 xk, .int .i64 z, .int .i64 m, .int .u64 t, .slice adx R capx] 52)) := Ext.alloc w _
  have f0 := a0.cell 0
  obtain ⟨w0, hw0⟩ : ∃ w0, w0 = w.alloc (.cells #[.string p, .int .i64 xk, .int .i64 z, .int .i64 m, .int .u64 t, .slice adx R capx] 52) := ⟨_, rfl⟩
  rw [← hw0] at a0 e0
  have VA := V.valid_any p
  have HA := V.hidden_any p
  have HR := Lib.hid hR
  clear hR
  cases hv : valid p.toList with
  | false =>
    go_enter Tryz.func30, Tryz.ntmps30
    go_wp2_with fail
    rw [← hw0]
    refine (VA w0).mono ?_
    rintro e w1 ⟨rfl, e1⟩
    have E1 := e0.trans (ext_v e1)
    rw [hv]
    go_wp2
    go_ret
    exact ⟨retb' (by simp [mayR, hv]), E1⟩
  | true =>
    cases hh : hidden p.toList with
    | true =>
      go_enter Tryz.func30, Tryz.ntmps30
      go_wp2_with fail
      rw [← hw0]
      refine (VA w0).mono ?_
      rintro e w1 ⟨rfl, e1⟩
      have E1 := e0.trans (ext_v e1)
      rw [hv]
      have a1 := at_ext a0 (ext_v e1)
      have g0 := a1.cell 0
      go_wp2_with fail
      refine (HA w1).mono ?_
      rintro e w2 ⟨rfl, e2⟩
      have E2 := E1.trans (ext_v e2)
      rw [hh]
      have a2 := at_ext a1 (ext_v e2)
      have g1 := a2.cell 1
      have g2 := a2.cell 2
      have g3 := a2.cell 3
      have g5 := a2.cell 5
      go_wp2
      go_ret
      exact ⟨retb' (by simp [mayR, hv, hh]), E2⟩
    | false =>
      by_cases q1 : (z < 0)
      · have dq1 : decide (z < 0) = true := decide_eq_true q1
        go_enter Tryz.func30, Tryz.ntmps30
        go_wp2_with fail
        rw [← hw0]
        refine (VA w0).mono ?_
        rintro e w1 ⟨rfl, e1⟩
        have E1 := e0.trans (ext_v e1)
        rw [hv]
        have a1 := at_ext a0 (ext_v e1)
        have g0 := a1.cell 0
        go_wp2_with fail
        refine (HA w1).mono ?_
        rintro e w2 ⟨rfl, e2⟩
        have E2 := E1.trans (ext_v e2)
        rw [hh]
        have a2 := at_ext a1 (ext_v e2)
        have g1 := a2.cell 1
        have g2 := a2.cell 2
        have g3 := a2.cell 3
        have g5 := a2.cell 5
        go_wp2
        go_ret
        exact ⟨retb' (by have : mayR ⟨p, xk, z, m, t, r⟩ = false := by { cases h : mayR ⟨p, xk, z, m, t, r⟩ with | false => rfl | true => have := (mayR_iff _).1 h; have h1 := this.z; have h2 := this.m; simp only at h1 h2; omega }; rw [this]), E2⟩
      by_cases q2 : ((8192 : Int) < z)
      · have dq1 : decide (z < 0) = false := decide_eq_false q1
        have dq2 : decide ((8192 : Int) < z) = true := decide_eq_true q2
        go_enter Tryz.func30, Tryz.ntmps30
        go_wp2_with fail
        rw [← hw0]
        refine (VA w0).mono ?_
        rintro e w1 ⟨rfl, e1⟩
        have E1 := e0.trans (ext_v e1)
        rw [hv]
        have a1 := at_ext a0 (ext_v e1)
        have g0 := a1.cell 0
        go_wp2_with fail
        refine (HA w1).mono ?_
        rintro e w2 ⟨rfl, e2⟩
        have E2 := E1.trans (ext_v e2)
        rw [hh]
        have a2 := at_ext a1 (ext_v e2)
        have g1 := a2.cell 1
        have g2 := a2.cell 2
        have g3 := a2.cell 3
        have g5 := a2.cell 5
        go_wp2
        go_ret
        exact ⟨retb' (by have : mayR ⟨p, xk, z, m, t, r⟩ = false := by { cases h : mayR ⟨p, xk, z, m, t, r⟩ with | false => rfl | true => have := (mayR_iff _).1 h; have h1 := this.z; have h2 := this.m; simp only at h1 h2; omega }; rw [this]), E2⟩
      by_cases q3 : (m < 0)
      · have dq1 : decide (z < 0) = false := decide_eq_false q1
        have dq2 : decide ((8192 : Int) < z) = false := decide_eq_false q2
        have dq3 : decide (m < 0) = true := decide_eq_true q3
        go_enter Tryz.func30, Tryz.ntmps30
        go_wp2_with fail
        rw [← hw0]
        refine (VA w0).mono ?_
        rintro e w1 ⟨rfl, e1⟩
        have E1 := e0.trans (ext_v e1)
        rw [hv]
        have a1 := at_ext a0 (ext_v e1)
        have g0 := a1.cell 0
        go_wp2_with fail
        refine (HA w1).mono ?_
        rintro e w2 ⟨rfl, e2⟩
        have E2 := E1.trans (ext_v e2)
        rw [hh]
        have a2 := at_ext a1 (ext_v e2)
        have g1 := a2.cell 1
        have g2 := a2.cell 2
        have g3 := a2.cell 3
        have g5 := a2.cell 5
        go_wp2
        go_ret
        exact ⟨retb' (by have : mayR ⟨p, xk, z, m, t, r⟩ = false := by { cases h : mayR ⟨p, xk, z, m, t, r⟩ with | false => rfl | true => have := (mayR_iff _).1 h; have h1 := this.z; have h2 := this.m; simp only at h1 h2; omega }; rw [this]), E2⟩
      by_cases q4 : ((2147483647 : Int) < m)
      · have dq1 : decide (z < 0) = false := decide_eq_false q1
        have dq2 : decide ((8192 : Int) < z) = false := decide_eq_false q2
        have dq3 : decide (m < 0) = false := decide_eq_false q3
        have dq4 : decide ((2147483647 : Int) < m) = true := decide_eq_true q4
        go_enter Tryz.func30, Tryz.ntmps30
        go_wp2_with fail
        rw [← hw0]
        refine (VA w0).mono ?_
        rintro e w1 ⟨rfl, e1⟩
        have E1 := e0.trans (ext_v e1)
        rw [hv]
        have a1 := at_ext a0 (ext_v e1)
        have g0 := a1.cell 0
        go_wp2_with fail
        refine (HA w1).mono ?_
        rintro e w2 ⟨rfl, e2⟩
        have E2 := E1.trans (ext_v e2)
        rw [hh]
        have a2 := at_ext a1 (ext_v e2)
        have g1 := a2.cell 1
        have g2 := a2.cell 2
        have g3 := a2.cell 3
        have g5 := a2.cell 5
        go_wp2
        go_ret
        exact ⟨retb' (by have : mayR ⟨p, xk, z, m, t, r⟩ = false := by { cases h : mayR ⟨p, xk, z, m, t, r⟩ with | false => rfl | true => have := (mayR_iff _).1 h; have h1 := this.z; have h2 := this.m; simp only at h1 h2; omega }; rw [this]), E2⟩
      have dq1 : decide (z < 0) = false := decide_eq_false q1
      have dq2 : decide ((8192 : Int) < z) = false := decide_eq_false q2
      have dq3 : decide (m < 0) = false := decide_eq_false q3
      have dq4 : decide ((2147483647 : Int) < m) = false := decide_eq_false q4
      by_cases k1 : xk = 1
      · subst k1
        go_enter Tryz.func30, Tryz.ntmps30
        go_wp2_with fail
        rw [← hw0]
        refine (VA w0).mono ?_
        rintro e w1 ⟨rfl, e1⟩
        have E1 := e0.trans (ext_v e1)
        rw [hv]
        have a1 := at_ext a0 (ext_v e1)
        have g0 := a1.cell 0
        go_wp2_with fail
        refine (HA w1).mono ?_
        rintro e w2 ⟨rfl, e2⟩
        have E2 := E1.trans (ext_v e2)
        rw [hh]
        have a2 := at_ext a1 (ext_v e2)
        have g1 := a2.cell 1
        have g2 := a2.cell 2
        have g3 := a2.cell 3
        have g5 := a2.cell 5
        go_wp2
        go_ret
        exact ⟨retb' (by have d : mayR ⟨p, (1 : Int), z, m, t, r⟩ = (((1 : Int) == 1 && r.length == 32) || ((1 : Int) == 2 && r.length == 0)) := by { simp only [mayR, hv, hh]; rw [decide_eq_true (show 0 ≤ z by omega), decide_eq_true (show z ≤ 8192 by omega), decide_eq_true (show 0 ≤ m by omega), decide_eq_true (show m ≤ 2147483647 by omega)]; rfl }; rw [d, ← HR.out]; all_goals first | (simp; done) | (rw [Bool.eq_iff_iff]; simp; done) | (rw [Bool.eq_iff_iff]; simp; omega)), E2⟩
      · by_cases k2 : xk = 2
        · subst k2
          go_enter Tryz.func30, Tryz.ntmps30
          go_wp2_with fail
          rw [← hw0]
          refine (VA w0).mono ?_
          rintro e w1 ⟨rfl, e1⟩
          have E1 := e0.trans (ext_v e1)
          rw [hv]
          have a1 := at_ext a0 (ext_v e1)
          have g0 := a1.cell 0
          go_wp2_with fail
          refine (HA w1).mono ?_
          rintro e w2 ⟨rfl, e2⟩
          have E2 := E1.trans (ext_v e2)
          rw [hh]
          have a2 := at_ext a1 (ext_v e2)
          have g1 := a2.cell 1
          have g2 := a2.cell 2
          have g3 := a2.cell 3
          have g5 := a2.cell 5
          go_wp2
          go_ret
          exact ⟨retb' (by have d : mayR ⟨p, (2 : Int), z, m, t, r⟩ = (((2 : Int) == 1 && r.length == 32) || ((2 : Int) == 2 && r.length == 0)) := by { simp only [mayR, hv, hh]; rw [decide_eq_true (show 0 ≤ z by omega), decide_eq_true (show z ≤ 8192 by omega), decide_eq_true (show 0 ≤ m by omega), decide_eq_true (show m ≤ 2147483647 by omega)]; rfl }; rw [d, ← HR.out]; all_goals first | (simp; done) | (rw [Bool.eq_iff_iff]; simp; done) | (rw [Bool.eq_iff_iff]; simp; omega)), E2⟩
        · have t1 : (xk == 1) = false := by simpa using k1
          have t2 : (xk == 2) = false := by simpa using k2
          go_enter Tryz.func30, Tryz.ntmps30
          go_wp2_with fail
          rw [← hw0]
          refine (VA w0).mono ?_
          rintro e w1 ⟨rfl, e1⟩
          have E1 := e0.trans (ext_v e1)
          rw [hv]
          have a1 := at_ext a0 (ext_v e1)
          have g0 := a1.cell 0
          go_wp2_with fail
          refine (HA w1).mono ?_
          rintro e w2 ⟨rfl, e2⟩
          have E2 := E1.trans (ext_v e2)
          rw [hh]
          have a2 := at_ext a1 (ext_v e2)
          have g1 := a2.cell 1
          have g2 := a2.cell 2
          have g3 := a2.cell 3
          have g5 := a2.cell 5
          go_wp2
          go_ret
          exact ⟨retb' (by have d : mayR ⟨p, xk, z, m, t, r⟩ = ((xk == 1 && r.length == 32) || (xk == 2 && r.length == 0)) := by { simp only [mayR, hv, hh]; rw [decide_eq_true (show 0 ≤ z by omega), decide_eq_true (show z ≤ 8192 by omega), decide_eq_true (show 0 ≤ m by omega), decide_eq_true (show m ≤ 2147483647 by omega)]; rfl }; rw [d, ← HR.out]; simp [k1, k2]), E2⟩

def InvMy (w : World) (n : Nat) (ds : List RD) (i : Value) (wr : World) : Prop := ∃ k : Nat, k ≤ n ∧ i = .int .i64 k ∧ okTo ds k = true ∧ Ext w wr
theorem image_big (ds : List RD) (h : 100 < ds.length) : imageL ds = false := by unfold imageL; rw [decide_eq_false (by omega)]; rfl
theorem image_not {ds : List RD} {k : Nat} (hk : k < ds.length) (h : stepL ds k = false) : imageL ds = false := by unfold imageL; rw [okTo_not ds k _ h hk, Bool.and_false]
set_option maxHeartbeats 16000000 in
set_option maxRecDepth 100000 in
theorem may_any (X : Nat → Prop) (v : Value) (l : List RV) (w : World) (h : RR X w v l) (hl : l.length ≤ 9223372036854775807) :
    Calls Tryz.prog 11 #[v] w fun e w' => e = .returned (.bool (imageL (l.map RV.d))) ∧ Ext w w' := by
  obtain ⟨ad, cap, b, o, h⟩ := h
  have ev := h.val
  subst ev
  have HR := Lib.hid h
  have hcap := h.cap_
  have hadr := Lib.hid h.adr
  clear h
  obtain ⟨n, hn⟩ : ∃ n, n = l.length := ⟨_, rfl⟩
  have HN := Lib.hid hn
  have HM := Lib.hid (show (l.map RV.d).length = n by rw [List.length_map]; exact hn.symm)
  rw [← hn] at hcap hl ⊢
  clear hn
  by_cases hbig : 100 < n
  · have d : decide ((100 : Int) < (n : Int)) = true := by simp; omega
    have IB := Lib.hid (image_big (l.map RV.d) (by rw [HM.out]; exact hbig))
    clear hbig
    go_enter Tryz.func11, Tryz.ntmps11
    go_wp2
    go_ret
    exact ⟨retb' IB.out.symm, Ext.refl w⟩
  have dsm : decide ((100 : Int) < (n : Int)) = false := by simp; omega
  go_enter Tryz.func11, Tryz.ntmps11
  go_wp2
  go_loopw [10] (fun i wr => InvMy w n (l.map RV.d) i wr) (fun i _ => n - (intOf i).toNat)
  case atStart => exact ⟨0, by omega, rfl, rfl, Ext.refl w⟩
  case round =>
    obtain ⟨k, hk, rfl, hok, ex⟩ := hrel
    by_cases hlt : k < n
    · have i0 : (k : Int) < (n : Int) := by omega
      have i1 : (0 : Int) ≤ (k : Int) := by omega
      obtain ⟨x, hx⟩ : ∃ x, l[k]? = some x := ⟨_, List.getElem?_eq_getElem (by rw [← HN.out]; exact hlt)⟩
      have ea := hadr.out (by rw [← HN.out]; omega)
      subst ea
      obtain ⟨c0, c1, c2, c3, c4, c5⟩ := HR.out.cells k x hx
      have S1 := HR.out.src x (List.mem_of_getElem? hx)
      have hxd : (l.map RV.d)[k]? = some x.d := by rw [List.getElem?_map, hx]; rfl
      have hst := stepL_get hxd
      obtain ⟨p, xk, z, m, t, vv, r⟩ := x
      simp only at c0 c1 c2 c3 c4 c5 S1
      obtain ⟨adx, capx, evx, -⟩ := S1.val
      obtain ⟨R, hR⟩ : ∃ n, n = r.length := ⟨_, rfl⟩
      rw [← hR] at evx
      have HRr := Lib.hid hR
      clear hR
      subst evx
      replace c0 := ext_cell ex c0
      replace c1 := ext_cell ex c1
      replace c2 := ext_cell ex c2
      replace c3 := ext_cell ex c3
      replace c4 := ext_cell ex c4
      replace c5 := ext_cell ex c5
      simp only [RV.d] at hst
      clear hx hxd S1
      have e4 : Ext wr (wr.alloc (.cells #[.string ⟨#[]⟩, .int .i64 0, .int .i64 0, .int .i64 0, .int .u64 0, .slice none 0 0] 52)) := Ext.alloc wr _
      have a4 := At.new wr #[.string ⟨#[]⟩, .int .i64 0, .int .i64 0, .int .i64 0, .int .u64 0, .slice none 0 0] 52
      have one : (#[.string p, .int .i64 xk, .int .i64 z, .int .i64 m, .int .u64 t, .slice adx R capx] : Array Value).all (·.oneCell') = true := by simp [Value.oneCell']
      have sz2 : (Tryz.prog.info? 52).map (·.size) = some (#[.string p, .int .i64 xk, .int .i64 z, .int .i64 m, .int .u64 t, .slice adx R capx] : Array Value).size := szRef
      have e5 := ext_only' e4 (Only.setRow wr.heap.size _ #[.string p, .int .i64 xk, .int .i64 z, .int .i64 m, .int .u64 t, .slice adx R capx]) (Nat.le_refl _)
      have a5 : At ((wr.alloc (.cells #[.string ⟨#[]⟩, .int .i64 0, .int .i64 0, .int .i64 0, .int .u64 0, .slice none 0 0] 52)).setRow wr.heap.size #[.string p, .int .i64 xk, .int .i64 z, .int .i64 m, .int .u64 t, .slice adx R capx]) wr.heap.size #[.string p, .int .i64 xk, .int .i64 z, .int .i64 m, .int .u64 t, .slice adx R capx] 52 := a4.row _
      go_upto_region 6 with (refine wpList_store_row rfl 52 _ _ rfl wr.heap.size _ rfl rfl 52 _ a4 sz2 rfl one ?_)
      clear e4 a4 c0 c1 c2 c3 c4 c5 one sz2
      generalize (wr.alloc (.cells #[.string ⟨#[]⟩, .int .i64 0, .int .i64 0, .int .i64 0, .int .u64 0, .slice none 0 0] 52)).setRow wr.heap.size #[.string p, .int .i64 xk, .int .i64 z, .int .i64 m, .int .u64 t, .slice adx R capx] = w5 at *
      obtain ⟨g4, hg4⟩ : ∃ g, g = wr.heap.size := ⟨_, rfl⟩
      rw [← hg4] at a5 ⊢
      clear hg4
      have ex5 := ex.trans e5
      have HG := Lib.hid (fun w' (hw' : Ext w5 w') => at_ext a5 hw')
      clear ex e5 a5
      cases hm : mayR ⟨p, xk, z, m, t, r⟩ with
      | false =>
        rw [hm] at hst
        have imN := image_not (by rw [HM.out]; exact hlt) (hst.trans rfl)
        clear hst
        refine wp_region_held (S := Ext w5) (by kernel_rfl) ?_
        change wpAnyH _ _ _ _ _ _ _ _ w5.drew
        have S0 : Ext w5 w5.drew := Below.drew (Below.refl _ _)
        generalize w5.drew = W at *
        refine takeS 0 (some 15) (.agg #[.string p, .int .i64 xk, .int .i64 z, .int .i64 m, .int .u64 t, .slice adx R capx]) rfl rfl (by kernel_rfl) (by kernel_rfl) (by kernel_rfl) (fun _ _ _ h => h) rfl S0 (fun w' hw' => exec_load_row 52 _ rfl g4 rfl 52 _ (HG.out w' hw') Tryz.underlying52 rfl (by kernel_rfl)) ?_
        simp only [Act.put, List.setIfInBounds_toArray, List.set_cons_zero, List.set_cons_succ]
        refine nextS 1 rfl (by kernel_rfl) rfl (callS (some 16) rfl 30 #[.agg #[.string p, .int .i64 xk, .int .i64 z, .int .i64 m, .int .u64 t, .slice adx R capx]] (by go_simp) (fun v w' => v = .bool false ∧ Ext w5 w') (((mayBe_any p xk z m t r adx R capx W HRr.out).mono fun _ _ he => ⟨_, by rw [hm] at he; exact he.1, rfl, S0.trans he.2⟩)) ?_)
        rintro v1 W1 ⟨rfl, S1⟩
        simp only [Act.put, List.setIfInBounds_toArray, List.set_cons_zero, List.set_cons_succ]
        refine ⟨S1, ?_⟩
        refine takeS 2 (some 17) (.bool true) rfl rfl (by kernel_rfl) (by kernel_rfl) (by kernel_rfl) (fun _ _ _ h => h) rfl S1 (fun w' hw' => by go_simp) ?_
        simp only [Act.put, List.setIfInBounds_toArray, List.set_cons_zero, List.set_cons_succ]
        refine takeS 3 (some 18) (.bool true) rfl rfl (by kernel_rfl) (by kernel_rfl) (by kernel_rfl) (fun _ _ _ h => h) rfl S1 (fun w' hw' => by go_simp) ?_
        simp only [Act.put, List.setIfInBounds_toArray, List.set_cons_zero, List.set_cons_succ]
        refine skipS 4 (some 19) rfl rfl (by kernel_rfl) (by kernel_rfl) (by kernel_rfl) (fun _ _ _ h => h) rfl S1 ?_
        simp only [Act.put, List.setIfInBounds_toArray, List.set_cons_zero, List.set_cons_succ]
        refine skipS 5 (some 20) rfl rfl (by kernel_rfl) (by kernel_rfl) (by kernel_rfl) (fun _ _ _ h => h) rfl S1 ?_
        simp only [Act.put, List.setIfInBounds_toArray, List.set_cons_zero, List.set_cons_succ]
        refine skipS 6 (some 21) rfl rfl (by kernel_rfl) (by kernel_rfl) (by kernel_rfl) (fun _ _ _ h => h) rfl S1 ?_
        simp only [Act.put, List.setIfInBounds_toArray, List.set_cons_zero, List.set_cons_succ]
        refine skipS 7 (some 22) rfl rfl (by kernel_rfl) (by kernel_rfl) (by kernel_rfl) (fun _ _ _ h => h) rfl S1 ?_
        simp only [Act.put, List.setIfInBounds_toArray, List.set_cons_zero, List.set_cons_succ]
        refine skipS 8 (some 23) rfl rfl (by kernel_rfl) (by kernel_rfl) (by kernel_rfl) (fun _ _ _ h => h) rfl S1 ?_
        simp only [Act.put, List.setIfInBounds_toArray, List.set_cons_zero, List.set_cons_succ]
        refine skipS 9 (some 24) rfl rfl (by kernel_rfl) (by kernel_rfl) (by kernel_rfl) (fun _ _ _ h => h) rfl S1 ?_
        simp only [Act.put, List.setIfInBounds_toArray, List.set_cons_zero, List.set_cons_succ]
        refine skipS 10 (some 25) rfl rfl (by kernel_rfl) (by kernel_rfl) (by kernel_rfl) (fun _ _ _ h => h) rfl S1 ?_
        simp only [Act.put, List.setIfInBounds_toArray, List.set_cons_zero, List.set_cons_succ]
        refine skipS 11 (some 26) rfl rfl (by kernel_rfl) (by kernel_rfl) (by kernel_rfl) (fun _ _ _ h => h) rfl S1 ?_
        simp only [Act.put, List.setIfInBounds_toArray, List.set_cons_zero, List.set_cons_succ]
        refine skipS 12 (some 27) rfl rfl (by kernel_rfl) (by kernel_rfl) (by kernel_rfl) (fun _ _ _ h => h) rfl S1 ?_
        simp only [Act.put, List.setIfInBounds_toArray, List.set_cons_zero, List.set_cons_succ]
        refine skipS 13 (some 28) rfl rfl (by kernel_rfl) (by kernel_rfl) (by kernel_rfl) (fun _ _ _ h => h) rfl S1 ?_
        simp only [Act.put, List.setIfInBounds_toArray, List.set_cons_zero, List.set_cons_succ]
        refine skipS 14 (some 29) rfl rfl (by kernel_rfl) (by kernel_rfl) (by kernel_rfl) (fun _ _ _ h => h) rfl S1 ?_
        simp only [Act.put, List.setIfInBounds_toArray, List.set_cons_zero, List.set_cons_succ]
        refine skipS 15 (some 30) rfl rfl (by kernel_rfl) (by kernel_rfl) (by kernel_rfl) (fun _ _ _ h => h) rfl S1 ?_
        simp only [Act.put, List.setIfInBounds_toArray, List.set_cons_zero, List.set_cons_succ]
        refine skipS 16 (some 31) rfl rfl (by kernel_rfl) (by kernel_rfl) (by kernel_rfl) (fun _ _ _ h => h) rfl S1 ?_
        simp only [Act.put, List.setIfInBounds_toArray, List.set_cons_zero, List.set_cons_succ]
        refine skipS 17 (some 32) rfl rfl (by kernel_rfl) (by kernel_rfl) (by kernel_rfl) (fun _ _ _ h => h) rfl S1 ?_
        simp only [Act.put, List.setIfInBounds_toArray, List.set_cons_zero, List.set_cons_succ]
        refine takeS 18 (some 33) (.bool true) rfl rfl (by kernel_rfl) (by kernel_rfl) (by kernel_rfl) (fun _ _ _ h => h) rfl S1 (fun w' hw' => by go_simp) ?_
        simp only [Act.put, List.setIfInBounds_toArray, List.set_cons_zero, List.set_cons_succ]
        refine wpAnyH_done (by kernel_rfl) ?_ _
        have F := Lib.hid (ex5.trans S1)
        have IM := Lib.hid imN
        clear S1 ex5 imN
        go_wp2
        go_ret
        exact ⟨retb' (IM.out).symm, F.out⟩
      | true =>
        rw [hm] at hst
        by_cases hk0 : k = 0
        · subst hk0
          have HST := Lib.hid (show stepL (l.map RV.d) 0 = true from hst.trans rfl)
          clear hst
          refine wp_region_held (S := Ext w5) (by kernel_rfl) ?_
          change wpAnyH _ _ _ _ _ _ _ _ w5.drew
          have S0 : Ext w5 w5.drew := Below.drew (Below.refl _ _)
          generalize w5.drew = W at *
          refine takeS 0 (some 15) (.agg #[.string p, .int .i64 xk, .int .i64 z, .int .i64 m, .int .u64 t, .slice adx R capx]) rfl rfl (by kernel_rfl) (by kernel_rfl) (by kernel_rfl) (fun _ _ _ h => h) rfl S0 (fun w' hw' => exec_load_row 52 _ rfl g4 rfl 52 _ (HG.out w' hw') Tryz.underlying52 rfl (by kernel_rfl)) ?_
          simp only [Act.put, List.setIfInBounds_toArray, List.set_cons_zero, List.set_cons_succ]
          refine nextS 1 rfl (by kernel_rfl) rfl (callS (some 16) rfl 30 #[.agg #[.string p, .int .i64 xk, .int .i64 z, .int .i64 m, .int .u64 t, .slice adx R capx]] (by go_simp) (fun v w' => v = .bool true ∧ Ext w5 w') (((mayBe_any p xk z m t r adx R capx W HRr.out).mono fun _ _ he => ⟨_, by rw [hm] at he; exact he.1, rfl, S0.trans he.2⟩)) ?_)
          rintro v1 W1 ⟨rfl, S1⟩
          simp only [Act.put, List.setIfInBounds_toArray, List.set_cons_zero, List.set_cons_succ]
          refine ⟨S1, ?_⟩
          refine takeS 2 (some 17) (.bool false) rfl rfl (by kernel_rfl) (by kernel_rfl) (by kernel_rfl) (fun _ _ _ h => h) rfl S1 (fun w' hw' => by go_simp) ?_
          simp only [Act.put, List.setIfInBounds_toArray, List.set_cons_zero, List.set_cons_succ]
          refine takeS 3 (some 18) (.bool false) rfl rfl (by kernel_rfl) (by kernel_rfl) (by kernel_rfl) (fun _ _ _ h => h) rfl S1 (fun w' hw' => by go_simp) ?_
          simp only [Act.put, List.setIfInBounds_toArray, List.set_cons_zero, List.set_cons_succ]
          refine takeS 4 (some 19) (.int .i64 ((0 : Nat) : Int)) rfl rfl (by kernel_rfl) (by kernel_rfl) (by kernel_rfl) (fun _ _ _ h => h) rfl S1 (fun w' hw' => by go_simp) ?_
          simp only [Act.put, List.setIfInBounds_toArray, List.set_cons_zero, List.set_cons_succ]
          refine takeS 5 (some 20) (.bool false) rfl rfl (by kernel_rfl) (by kernel_rfl) (by kernel_rfl) (fun _ _ _ h => h) rfl S1 (fun w' hw' => by go_simp) ?_
          simp only [Act.put, List.setIfInBounds_toArray, List.set_cons_zero, List.set_cons_succ]
          refine takeS 6 (some 21) (.bool false) rfl rfl (by kernel_rfl) (by kernel_rfl) (by kernel_rfl) (fun _ _ _ h => h) rfl S1 (fun w' hw' => by go_simp) ?_
          simp only [Act.put, List.setIfInBounds_toArray, List.set_cons_zero, List.set_cons_succ]
          refine skipS 7 (some 22) rfl rfl (by kernel_rfl) (by kernel_rfl) (by kernel_rfl) (fun _ _ _ h => h) rfl S1 ?_
          simp only [Act.put, List.setIfInBounds_toArray, List.set_cons_zero, List.set_cons_succ]
          refine skipS 8 (some 23) rfl rfl (by kernel_rfl) (by kernel_rfl) (by kernel_rfl) (fun _ _ _ h => h) rfl S1 ?_
          simp only [Act.put, List.setIfInBounds_toArray, List.set_cons_zero, List.set_cons_succ]
          refine skipS 9 (some 24) rfl rfl (by kernel_rfl) (by kernel_rfl) (by kernel_rfl) (fun _ _ _ h => h) rfl S1 ?_
          simp only [Act.put, List.setIfInBounds_toArray, List.set_cons_zero, List.set_cons_succ]
          refine skipS 10 (some 25) rfl rfl (by kernel_rfl) (by kernel_rfl) (by kernel_rfl) (fun _ _ _ h => h) rfl S1 ?_
          simp only [Act.put, List.setIfInBounds_toArray, List.set_cons_zero, List.set_cons_succ]
          refine skipS 11 (some 26) rfl rfl (by kernel_rfl) (by kernel_rfl) (by kernel_rfl) (fun _ _ _ h => h) rfl S1 ?_
          simp only [Act.put, List.setIfInBounds_toArray, List.set_cons_zero, List.set_cons_succ]
          refine skipS 12 (some 27) rfl rfl (by kernel_rfl) (by kernel_rfl) (by kernel_rfl) (fun _ _ _ h => h) rfl S1 ?_
          simp only [Act.put, List.setIfInBounds_toArray, List.set_cons_zero, List.set_cons_succ]
          refine skipS 13 (some 28) rfl rfl (by kernel_rfl) (by kernel_rfl) (by kernel_rfl) (fun _ _ _ h => h) rfl S1 ?_
          simp only [Act.put, List.setIfInBounds_toArray, List.set_cons_zero, List.set_cons_succ]
          refine skipS 14 (some 29) rfl rfl (by kernel_rfl) (by kernel_rfl) (by kernel_rfl) (fun _ _ _ h => h) rfl S1 ?_
          simp only [Act.put, List.setIfInBounds_toArray, List.set_cons_zero, List.set_cons_succ]
          refine skipS 15 (some 30) rfl rfl (by kernel_rfl) (by kernel_rfl) (by kernel_rfl) (fun _ _ _ h => h) rfl S1 ?_
          simp only [Act.put, List.setIfInBounds_toArray, List.set_cons_zero, List.set_cons_succ]
          refine skipS 16 (some 31) rfl rfl (by kernel_rfl) (by kernel_rfl) (by kernel_rfl) (fun _ _ _ h => h) rfl S1 ?_
          simp only [Act.put, List.setIfInBounds_toArray, List.set_cons_zero, List.set_cons_succ]
          refine takeS 17 (some 32) (.bool false) rfl rfl (by kernel_rfl) (by kernel_rfl) (by kernel_rfl) (fun _ _ _ h => h) rfl S1 (fun w' hw' => by go_simp) ?_
          simp only [Act.put, List.setIfInBounds_toArray, List.set_cons_zero, List.set_cons_succ]
          refine takeS 18 (some 33) (.bool false) rfl rfl (by kernel_rfl) (by kernel_rfl) (by kernel_rfl) (fun _ _ _ h => h) rfl S1 (fun w' hw' => by go_simp) ?_
          simp only [Act.put, List.setIfInBounds_toArray, List.set_cons_zero, List.set_cons_succ]
          refine wpAnyH_done (by kernel_rfl) ?_ _
          have F := Lib.hid (ex5.trans S1)
          clear S1 ex5
          go_wp2
          exact ⟨⟨0 + 1, by omega, by go_num, by rw [okTo_succ, hok, HST.out]; rfl, F.out⟩, by simp [intOf]; omega⟩
        · obtain ⟨j, rfl⟩ : ∃ j, k = j + 1 := ⟨k - 1, by omega⟩
          obtain ⟨y, hy⟩ : ∃ y, l[j]? = some y := ⟨_, List.getElem?_eq_getElem (by rw [← HN.out]; omega)⟩
          obtain ⟨yc, -⟩ := HR.out.cells j y hy
          have hyd : (l.map RV.d)[j]? = some y.d := by rw [List.getElem?_map, hy]; rfl
          rw [Nat.add_sub_cancel, hyd] at hst
          obtain ⟨yp, yk, yz, ym, yt, yv, yr⟩ := y
          simp only [RV.d] at yc hst
          have j0 : (j : Int) < (n : Int) := by omega
          have j1 : (0 : Int) ≤ (j : Int) := by omega
          have YC := Lib.hid (ext_cell ex5 yc)
          clear yc hy hyd
          cases hls : less yp.toList p.toList with
          | false =>
            rw [hls] at hst
            have imN := image_not (by rw [HM.out]; exact hlt) (hst.trans (by simp))
            clear hst
            refine wp_region_held (S := Ext w5) (by kernel_rfl) ?_
            change wpAnyH _ _ _ _ _ _ _ _ w5.drew
            have S0 : Ext w5 w5.drew := Below.drew (Below.refl _ _)
            generalize w5.drew = W at *
            refine takeS 0 (some 15) (.agg #[.string p, .int .i64 xk, .int .i64 z, .int .i64 m, .int .u64 t, .slice adx R capx]) rfl rfl (by kernel_rfl) (by kernel_rfl) (by kernel_rfl) (fun _ _ _ h => h) rfl S0 (fun w' hw' => exec_load_row 52 _ rfl g4 rfl 52 _ (HG.out w' hw') Tryz.underlying52 rfl (by kernel_rfl)) ?_
            simp only [Act.put, List.setIfInBounds_toArray, List.set_cons_zero, List.set_cons_succ]
            refine nextS 1 rfl (by kernel_rfl) rfl (callS (some 16) rfl 30 #[.agg #[.string p, .int .i64 xk, .int .i64 z, .int .i64 m, .int .u64 t, .slice adx R capx]] (by go_simp) (fun v w' => v = .bool true ∧ Ext w5 w') (((mayBe_any p xk z m t r adx R capx W HRr.out).mono fun _ _ he => ⟨_, by rw [hm] at he; exact he.1, rfl, S0.trans he.2⟩)) ?_)
            rintro v1 W1 ⟨rfl, S1⟩
            simp only [Act.put, List.setIfInBounds_toArray, List.set_cons_zero, List.set_cons_succ]
            refine ⟨S1, ?_⟩
            refine takeS 2 (some 17) (.bool false) rfl rfl (by kernel_rfl) (by kernel_rfl) (by kernel_rfl) (fun _ _ _ h => h) rfl S1 (fun w' hw' => by go_simp) ?_
            simp only [Act.put, List.setIfInBounds_toArray, List.set_cons_zero, List.set_cons_succ]
            refine takeS 3 (some 18) (.bool false) rfl rfl (by kernel_rfl) (by kernel_rfl) (by kernel_rfl) (fun _ _ _ h => h) rfl S1 (fun w' hw' => by go_simp) ?_
            simp only [Act.put, List.setIfInBounds_toArray, List.set_cons_zero, List.set_cons_succ]
            refine takeS 4 (some 19) (.int .i64 ((j + 1 : Nat) : Int)) rfl rfl (by kernel_rfl) (by kernel_rfl) (by kernel_rfl) (fun _ _ _ h => h) rfl S1 (fun w' hw' => by go_simp) ?_
            simp only [Act.put, List.setIfInBounds_toArray, List.set_cons_zero, List.set_cons_succ]
            refine takeS 5 (some 20) (.bool true) rfl rfl (by kernel_rfl) (by kernel_rfl) (by kernel_rfl) (fun _ _ _ h => h) rfl S1 (fun w' hw' => by go_simp) ?_
            simp only [Act.put, List.setIfInBounds_toArray, List.set_cons_zero, List.set_cons_succ]
            refine takeS 6 (some 21) (.bool true) rfl rfl (by kernel_rfl) (by kernel_rfl) (by kernel_rfl) (fun _ _ _ h => h) rfl S1 (fun w' hw' => by go_simp) ?_
            simp only [Act.put, List.setIfInBounds_toArray, List.set_cons_zero, List.set_cons_succ]
            refine takeS 7 (some 22) (.slice (some ⟨b, o, none⟩) n cap) rfl rfl (by kernel_rfl) (by kernel_rfl) (by kernel_rfl) (fun _ _ _ h => h) rfl S1 (fun w' hw' => by go_simp) ?_
            simp only [Act.put, List.setIfInBounds_toArray, List.set_cons_zero, List.set_cons_succ]
            refine takeS 8 (some 23) (.int .i64 ((j + 1 : Nat) : Int)) rfl rfl (by kernel_rfl) (by kernel_rfl) (by kernel_rfl) (fun _ _ _ h => h) rfl S1 (fun w' hw' => by go_simp) ?_
            simp only [Act.put, List.setIfInBounds_toArray, List.set_cons_zero, List.set_cons_succ]
            refine takeS 9 (some 24) (.int .i64 (j : Int)) rfl rfl (by kernel_rfl) (by kernel_rfl) (by kernel_rfl) (fun _ _ _ h => h) rfl S1 (fun w' hw' => by go_simp; rw [IntKind.wrap_i64]; omega) ?_
            simp only [Act.put, List.setIfInBounds_toArray, List.set_cons_zero, List.set_cons_succ]
            refine takeS 10 (some 25) (.pointer (some ⟨b, o + j * 6, none⟩)) rfl rfl (by kernel_rfl) (by kernel_rfl) (by kernel_rfl) (fun _ _ _ h => h) rfl S1 (fun w' hw' => by go_simp) ?_
            simp only [Act.put, List.setIfInBounds_toArray, List.set_cons_zero, List.set_cons_succ]
            refine takeS 11 (some 26) (.pointer (some ⟨b, o + j * 6, none⟩)) rfl rfl (by kernel_rfl) (by kernel_rfl) (by kernel_rfl) (fun _ _ _ h => h) rfl S1 (fun w' hw' => by go_simp) ?_
            simp only [Act.put, List.setIfInBounds_toArray, List.set_cons_zero, List.set_cons_succ]
            refine takeS 12 (some 27) (.string yp) rfl rfl (by kernel_rfl) (by kernel_rfl) (by kernel_rfl) (fun _ _ _ h => h) rfl S1 (fun w' hw' => by have cc : w'.cell? ⟨b, o + j * 6, none⟩ = some (.string yp) := ext_cell hw' YC.out; go_simp) ?_
            simp only [Act.put, List.setIfInBounds_toArray, List.set_cons_zero, List.set_cons_succ]
            refine takeS 13 (some 28) (.pointer (some ⟨g4, 0, none⟩)) rfl rfl (by kernel_rfl) (by kernel_rfl) (by kernel_rfl) (fun _ _ _ h => h) rfl S1 (fun w' hw' => by go_simp) ?_
            simp only [Act.put, List.setIfInBounds_toArray, List.set_cons_zero, List.set_cons_succ]
            refine takeS 14 (some 29) (.string p) rfl rfl (by kernel_rfl) (by kernel_rfl) (by kernel_rfl) (fun _ _ _ h => h) rfl S1 (fun w' hw' => by have cc : w'.cell? ⟨g4, 0, none⟩ = some (.string p) := ((HG.out w' hw').cell 0).trans rfl; go_simp) ?_
            simp only [Act.put, List.setIfInBounds_toArray, List.set_cons_zero, List.set_cons_succ]
            refine nextS 15 rfl (by kernel_rfl) rfl (callS (some 30) rfl 31 #[.string yp, .string p] (by go_simp) (fun v w' => v = .bool false ∧ Ext w5 w') (((V.less_any yp p W1).mono fun _ _ he => ⟨_, by rw [hls] at he; exact he.1, rfl, S1.trans (ext_v he.2)⟩)) ?_)
            rintro v2 W2 ⟨rfl, S2⟩
            simp only [Act.put, List.setIfInBounds_toArray, List.set_cons_zero, List.set_cons_succ]
            refine ⟨S2, ?_⟩
            refine takeS 16 (some 31) (.bool true) rfl rfl (by kernel_rfl) (by kernel_rfl) (by kernel_rfl) (fun _ _ _ h => h) rfl S2 (fun w' hw' => by go_simp) ?_
            simp only [Act.put, List.setIfInBounds_toArray, List.set_cons_zero, List.set_cons_succ]
            refine takeS 17 (some 32) (.bool true) rfl rfl (by kernel_rfl) (by kernel_rfl) (by kernel_rfl) (fun _ _ _ h => h) rfl S2 (fun w' hw' => by go_simp) ?_
            simp only [Act.put, List.setIfInBounds_toArray, List.set_cons_zero, List.set_cons_succ]
            refine takeS 18 (some 33) (.bool true) rfl rfl (by kernel_rfl) (by kernel_rfl) (by kernel_rfl) (fun _ _ _ h => h) rfl S2 (fun w' hw' => by go_simp) ?_
            simp only [Act.put, List.setIfInBounds_toArray, List.set_cons_zero, List.set_cons_succ]
            refine wpAnyH_done (by kernel_rfl) ?_ _
            have F := Lib.hid (ex5.trans S2)
            have IM := Lib.hid imN
            clear S2 ex5 imN
            go_wp2
            go_ret
            exact ⟨retb' (IM.out).symm, F.out⟩
          | true =>
            rw [hls] at hst
            have HST := Lib.hid (show stepL (l.map RV.d) (j + 1) = true from hst.trans (by simp))
            clear hst
            refine wp_region_held (S := Ext w5) (by kernel_rfl) ?_
            change wpAnyH _ _ _ _ _ _ _ _ w5.drew
            have S0 : Ext w5 w5.drew := Below.drew (Below.refl _ _)
            generalize w5.drew = W at *
            refine takeS 0 (some 15) (.agg #[.string p, .int .i64 xk, .int .i64 z, .int .i64 m, .int .u64 t, .slice adx R capx]) rfl rfl (by kernel_rfl) (by kernel_rfl) (by kernel_rfl) (fun _ _ _ h => h) rfl S0 (fun w' hw' => exec_load_row 52 _ rfl g4 rfl 52 _ (HG.out w' hw') Tryz.underlying52 rfl (by kernel_rfl)) ?_
            simp only [Act.put, List.setIfInBounds_toArray, List.set_cons_zero, List.set_cons_succ]
            refine nextS 1 rfl (by kernel_rfl) rfl (callS (some 16) rfl 30 #[.agg #[.string p, .int .i64 xk, .int .i64 z, .int .i64 m, .int .u64 t, .slice adx R capx]] (by go_simp) (fun v w' => v = .bool true ∧ Ext w5 w') (((mayBe_any p xk z m t r adx R capx W HRr.out).mono fun _ _ he => ⟨_, by rw [hm] at he; exact he.1, rfl, S0.trans he.2⟩)) ?_)
            rintro v1 W1 ⟨rfl, S1⟩
            simp only [Act.put, List.setIfInBounds_toArray, List.set_cons_zero, List.set_cons_succ]
            refine ⟨S1, ?_⟩
            refine takeS 2 (some 17) (.bool false) rfl rfl (by kernel_rfl) (by kernel_rfl) (by kernel_rfl) (fun _ _ _ h => h) rfl S1 (fun w' hw' => by go_simp) ?_
            simp only [Act.put, List.setIfInBounds_toArray, List.set_cons_zero, List.set_cons_succ]
            refine takeS 3 (some 18) (.bool false) rfl rfl (by kernel_rfl) (by kernel_rfl) (by kernel_rfl) (fun _ _ _ h => h) rfl S1 (fun w' hw' => by go_simp) ?_
            simp only [Act.put, List.setIfInBounds_toArray, List.set_cons_zero, List.set_cons_succ]
            refine takeS 4 (some 19) (.int .i64 ((j + 1 : Nat) : Int)) rfl rfl (by kernel_rfl) (by kernel_rfl) (by kernel_rfl) (fun _ _ _ h => h) rfl S1 (fun w' hw' => by go_simp) ?_
            simp only [Act.put, List.setIfInBounds_toArray, List.set_cons_zero, List.set_cons_succ]
            refine takeS 5 (some 20) (.bool true) rfl rfl (by kernel_rfl) (by kernel_rfl) (by kernel_rfl) (fun _ _ _ h => h) rfl S1 (fun w' hw' => by go_simp) ?_
            simp only [Act.put, List.setIfInBounds_toArray, List.set_cons_zero, List.set_cons_succ]
            refine takeS 6 (some 21) (.bool true) rfl rfl (by kernel_rfl) (by kernel_rfl) (by kernel_rfl) (fun _ _ _ h => h) rfl S1 (fun w' hw' => by go_simp) ?_
            simp only [Act.put, List.setIfInBounds_toArray, List.set_cons_zero, List.set_cons_succ]
            refine takeS 7 (some 22) (.slice (some ⟨b, o, none⟩) n cap) rfl rfl (by kernel_rfl) (by kernel_rfl) (by kernel_rfl) (fun _ _ _ h => h) rfl S1 (fun w' hw' => by go_simp) ?_
            simp only [Act.put, List.setIfInBounds_toArray, List.set_cons_zero, List.set_cons_succ]
            refine takeS 8 (some 23) (.int .i64 ((j + 1 : Nat) : Int)) rfl rfl (by kernel_rfl) (by kernel_rfl) (by kernel_rfl) (fun _ _ _ h => h) rfl S1 (fun w' hw' => by go_simp) ?_
            simp only [Act.put, List.setIfInBounds_toArray, List.set_cons_zero, List.set_cons_succ]
            refine takeS 9 (some 24) (.int .i64 (j : Int)) rfl rfl (by kernel_rfl) (by kernel_rfl) (by kernel_rfl) (fun _ _ _ h => h) rfl S1 (fun w' hw' => by go_simp; rw [IntKind.wrap_i64]; omega) ?_
            simp only [Act.put, List.setIfInBounds_toArray, List.set_cons_zero, List.set_cons_succ]
            refine takeS 10 (some 25) (.pointer (some ⟨b, o + j * 6, none⟩)) rfl rfl (by kernel_rfl) (by kernel_rfl) (by kernel_rfl) (fun _ _ _ h => h) rfl S1 (fun w' hw' => by go_simp) ?_
            simp only [Act.put, List.setIfInBounds_toArray, List.set_cons_zero, List.set_cons_succ]
            refine takeS 11 (some 26) (.pointer (some ⟨b, o + j * 6, none⟩)) rfl rfl (by kernel_rfl) (by kernel_rfl) (by kernel_rfl) (fun _ _ _ h => h) rfl S1 (fun w' hw' => by go_simp) ?_
            simp only [Act.put, List.setIfInBounds_toArray, List.set_cons_zero, List.set_cons_succ]
            refine takeS 12 (some 27) (.string yp) rfl rfl (by kernel_rfl) (by kernel_rfl) (by kernel_rfl) (fun _ _ _ h => h) rfl S1 (fun w' hw' => by have cc : w'.cell? ⟨b, o + j * 6, none⟩ = some (.string yp) := ext_cell hw' YC.out; go_simp) ?_
            simp only [Act.put, List.setIfInBounds_toArray, List.set_cons_zero, List.set_cons_succ]
            refine takeS 13 (some 28) (.pointer (some ⟨g4, 0, none⟩)) rfl rfl (by kernel_rfl) (by kernel_rfl) (by kernel_rfl) (fun _ _ _ h => h) rfl S1 (fun w' hw' => by go_simp) ?_
            simp only [Act.put, List.setIfInBounds_toArray, List.set_cons_zero, List.set_cons_succ]
            refine takeS 14 (some 29) (.string p) rfl rfl (by kernel_rfl) (by kernel_rfl) (by kernel_rfl) (fun _ _ _ h => h) rfl S1 (fun w' hw' => by have cc : w'.cell? ⟨g4, 0, none⟩ = some (.string p) := ((HG.out w' hw').cell 0).trans rfl; go_simp) ?_
            simp only [Act.put, List.setIfInBounds_toArray, List.set_cons_zero, List.set_cons_succ]
            refine nextS 15 rfl (by kernel_rfl) rfl (callS (some 30) rfl 31 #[.string yp, .string p] (by go_simp) (fun v w' => v = .bool true ∧ Ext w5 w') (((V.less_any yp p W1).mono fun _ _ he => ⟨_, by rw [hls] at he; exact he.1, rfl, S1.trans (ext_v he.2)⟩)) ?_)
            rintro v2 W2 ⟨rfl, S2⟩
            simp only [Act.put, List.setIfInBounds_toArray, List.set_cons_zero, List.set_cons_succ]
            refine ⟨S2, ?_⟩
            refine takeS 16 (some 31) (.bool false) rfl rfl (by kernel_rfl) (by kernel_rfl) (by kernel_rfl) (fun _ _ _ h => h) rfl S2 (fun w' hw' => by go_simp) ?_
            simp only [Act.put, List.setIfInBounds_toArray, List.set_cons_zero, List.set_cons_succ]
            refine takeS 17 (some 32) (.bool false) rfl rfl (by kernel_rfl) (by kernel_rfl) (by kernel_rfl) (fun _ _ _ h => h) rfl S2 (fun w' hw' => by go_simp) ?_
            simp only [Act.put, List.setIfInBounds_toArray, List.set_cons_zero, List.set_cons_succ]
            refine takeS 18 (some 33) (.bool false) rfl rfl (by kernel_rfl) (by kernel_rfl) (by kernel_rfl) (fun _ _ _ h => h) rfl S2 (fun w' hw' => by go_simp) ?_
            simp only [Act.put, List.setIfInBounds_toArray, List.set_cons_zero, List.set_cons_succ]
            refine wpAnyH_done (by kernel_rfl) ?_ _
            have F := Lib.hid (ex5.trans S2)
            clear S2 ex5
            go_wp2
            exact ⟨⟨j + 1 + 1, by omega, by go_num, by rw [okTo_succ, hok, HST.out]; rfl, F.out⟩, by simp [intOf]; omega⟩
    · have d0 : decide ((k : Int) < (n : Int)) = false := by simp; omega
      obtain rfl : k = n := by omega
      have F := Lib.hid (And.intro ex hok)
      clear hlt hok ex
      go_wp2
      go_ret
      refine ⟨retb' ?_, F.out.1⟩
      unfold imageL
      rw [HM.out, F.out.2, decide_eq_true (by omega)]; rfl
end Go.Proofs.YtnhokjnmpdiokaaGreatDoor
