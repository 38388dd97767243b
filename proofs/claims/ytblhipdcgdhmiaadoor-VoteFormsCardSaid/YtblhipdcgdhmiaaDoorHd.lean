/- The contract of EncodePage (the document's). -/
import Derived.Test.YtblhipdcgdhmiaaDoorHc
namespace Go.Proofs.YtblhipdcgdhmiaaDoor
open Go.RowKit Go.Sha
set_option linter.unusedSimpArgs false
set_option linter.unusedVariables false

theorem wp_append_bytes {P : Program} {w : World} {o : Oper} {a : Act} {K : Act → World → Prop} {Q : Exit → Act → World → Prop} (s x : Operand) (t : TypeId)
    (ho : o.op = .call { callee := .builtin .append, args := #[s, x], argTypes := #[t, t] }) (ht : P.underlying t = some (.slice 5)) (hi : (P.info? 5).map (fun i => (i.zero, i.size, i.bytes)) = some (some (.int .u8 0), 1, 1))
    (base : Nat) (v : Value) (m : List Int) (hs : a.eval s = v) (hown : OwnB w base v m) (vx : Value) (z : List Int) (bh : Nat) (hx : a.eval x = vx) (hz : Src w vx z bh) (hl : m.length + z.length ≤ 70368744177664) (hbase : base ≤ w.heap.size)
    (h : ∀ v' w', OwnB w' base v' (m ++ z) → Below base w w' → K (a.put o.dst v') w') : Oper.wp P o a w K Q := by
  obtain ⟨i, hi', hzz⟩ := Option.map_eq_some_iff.1 hi
  simp only [Prod.mk.injEq] at hzz
  obtain ⟨hz1, hz2, hz3⟩ := hzz
  obtain ⟨ad, cap, sb, so, rfl, h2, h3, h4, h5, h6⟩ := hz
  cases ad with
  | none =>
    have h0 : z = [] := List.length_eq_zero_iff.1 (Nat.eq_zero_of_not_pos fun hp => by cases h3 hp)
    subst h0
    obtain rfl := h6 rfl
    have hx' : a.eval x = .slice none 0 0 := hx
    have hrun := run_append_owned_none (P := P) (w := w) base t o.type 5 i 1 ht hi' v m.length (m.map (Value.int .u8)) hown
    unfold Oper.wp
    simp [execOp, ho, resolve, invoke, builtin, hs, hx', hrun, Result.andThen]
    exact h v w (by simpa using hown) (Below.refl _ _)
  | some A =>
    refine wp_append_own w s x t ho base 5 i (.int .u8 0) 1 1 ht hi' hz1 hz2 hz3 rfl (by omega) v m.length (m.map (Value.int .u8)) hs hown A z.length cap (z.map (Value.int .u8)) hx (by simp) ?_ (by simp [Value.oneCell']) (by unfold maxLen; omega) (by omega) hbase ?_
    · intro j u hu
      have hj : j < z.length := by simpa using (List.getElem?_eq_some_iff.1 hu).1
      obtain rfl : A = ⟨sb, so, none⟩ := by have := h3 (by omega); injection this
      rw [Addr.add_mid, h5 j hj, ← hu, List.getElem?_map, List.getElem?_eq_getElem hj]; rfl
    · intro v' w' h7 h8 _
      refine h v' w' ?_ (hown.grown h8 hbase)
      unfold OwnB
      simpa using h7
theorem append_toS {P : Program} {w : World} {o : Oper} {a : Act} {K : Act → World → Prop} {Q : Exit → Act → World → Prop} (d : Option Tmp) (hd : o.dst = d) (s x : Operand) (t : TypeId)
    (ho : o.op = .call { callee := .builtin .append, args := #[s, x], argTypes := #[t, t] }) (ht : P.underlying t = some (.slice 5)) (hi : (P.info? 5).map (fun i => (i.zero, i.size, i.bytes)) = some (some (.int .u8 0), 1, 1))
    (base : Nat) (v : Value) (m : List Int) (hs : a.eval s = v) (hown : OwnB w base v m) (vx : Value) (z : List Int) (bh : Nat) (hx : a.eval x = vx) (hz : Src w vx z bh) (hl : m.length + z.length ≤ 70368744177664) (hbase : base ≤ w.heap.size)
    (h : ∀ v' w', OwnB w' base v' (m ++ z) → Below base w w' → K (a.put d v') w') : Oper.wp P o a w K Q := by
  subst hd
  exact wp_append_bytes s x t ho ht hi base v m hs hown vx z bh hx hz hl hbase h
theorem mayP_true {g : Int} {m : List Int} (h : mayP (g, m) = true) : 1 ≤ g ∧ g ≤ 2147483647 ∧ m.length ≤ 60000 := by
  unfold mayP at h
  simp at h
  omega
set_option maxHeartbeats 2000000 in
theorem renc_not (g : Int) (m : List Int) (v : Value) (w : World) (h : Src w v m w.heap.size) (hn : mayP (g, m) = false) (hl : m.length ≤ 1000000000) :
    Calls Tryd.prog 9 #[.agg #[.int .i64 g, v]] w (EPost w none) := by
  obtain ⟨ad, cap, ev⟩ := h.len
  subst ev
  have hn' : ¬ (1 ≤ g ∧ g ≤ 2147483647 ∧ m.length ≤ 60000) := by
    intro hc
    unfold mayP at hn
    simp at hn
    omega
  clear hn
  obtain ⟨n, hN⟩ : ∃ n, n = m.length := ⟨_, rfl⟩
  rw [← hN] at hn' hl ⊢
  clear h hN
  have e0 : Ext w (w.alloc (.cells #[.int .i64 g, .slice ad n cap] 31)) := Ext.alloc w _
  by_cases h1 : g < 1
  · have d1 : decide (g < 1) = true := by simpa using h1
    clear hn' h1
    go_enter Tryd.func9, Tryd.ntmps9
    go_wp2
    go_ret2
    exact ⟨_, _, rfl, e0, fun m h => by simp at h, fun _ => ⟨rfl, rfl⟩⟩
  have d1 : decide (g < 1) = false := by simpa using h1
  by_cases h2 : 2147483647 < g
  · have d2 : decide (2147483647 < g) = true := by simpa using h2
    clear hn' h1 h2
    go_enter Tryd.func9, Tryd.ntmps9
    go_wp2
    go_ret2
    exact ⟨_, _, rfl, e0, fun m h => by simp at h, fun _ => ⟨rfl, rfl⟩⟩
  have d2 : decide (2147483647 < g) = false := by simpa using h2
  have h3 : 60000 < n := by omega
  have d3 : decide ((60000 : Int) < (n : Int)) = true := by simp; omega
  have d3' : decide (60000 < n) = true := by simpa using h3
  clear hn' h1 h2 h3
  go_enter Tryd.func9, Tryd.ntmps9
  go_wp2
  go_ret2
  exact ⟨_, _, rfl, e0, fun m h => by simp at h, fun _ => ⟨rfl, rfl⟩⟩

set_option maxHeartbeats 8000000 in
set_option maxRecDepth 100000 in
theorem renc_ok (k : Nat) (m : List Int) (v : Value) (w : World) (h : Src w v m w.heap.size) (h1 : 1 ≤ k) (h2 : k ≤ 2147483647) (hm : m.length ≤ 20000) :
    Calls Tryd.prog 9 #[.agg #[.int .i64 (k : Int), v]] w (EPost w (some (sealL (encP k m)))) := by
  obtain ⟨ad, cap, ev⟩ := h.len
  subst ev
  have d1 : decide ((k : Int) < 1) = false := by simp; omega
  have d2 : decide ((2147483647 : Int) < (k : Int)) = false := by simp; omega
  obtain ⟨n, hn⟩ : ∃ n, n = m.length := ⟨_, rfl⟩
  have d3 : decide ((60000 : Int) < (n : Int)) = false := by simp; omega
  have d3' : decide (60000 < n) = false := by simp; omega
  rw [← hn] at h ⊢
  have e0 : Ext w (w.alloc (.cells #[.int .i64 (k : Int), .slice ad n cap] 31)) := Ext.alloc w _
  have a0 := At.new w #[.int .i64 (k : Int), .slice ad n cap] 31
  have S := h.now e0
  have Hm := Lib.hid (And.intro h2 hm)
  clear hn h h1 h2 hm
  go_enter Tryd.func9, Tryd.ntmps9
  go_upto_region 3 with (fail)
  clear d1 d2 d3 d3'
  generalize w.alloc (.cells #[.int .i64 (k : Int), .slice ad n cap] 31) = w1 at *
  have HB := Lib.hid (fun (w' : World) (hw' : Ext w1 w') => at_ext a0 hw')
  have HS := Lib.hid (fun (w' : World) (hw' : Ext w1 w') => S.now hw')
  clear a0 S
  refine wp_region_held (S := Ext w1) (by kernel_rfl) ?_
  change wpAnyH _ _ _ _ _ _ _ _ w1.drew
  have S0 : Ext w1 w1.drew := Below.drew (Below.refl _ _)
  generalize w1.drew = W0 at *
  refine takeS 0 (some 18) (.pointer (some ⟨w.heap.size, 0, none⟩)) rfl rfl (by kernel_rfl) (by kernel_rfl) (by kernel_rfl) (fun _ _ _ h => h) rfl S0 (fun w' hw' => by go_simp) ?_
  simp only [Act.put, List.setIfInBounds_toArray, List.set_cons_zero, List.set_cons_succ]
  refine takeS 1 (some 19) (.int .i64 (k : Int)) rfl rfl (by kernel_rfl) (by kernel_rfl) (by kernel_rfl) (fun _ _ _ h => h) rfl S0 (fun w' hw' => by have cc : w'.cell? ⟨w.heap.size, 0, none⟩ = some (.int .i64 (k : Int)) := ((HB.out w' hw').cell 0).trans rfl; go_simp) ?_
  simp only [Act.put, List.setIfInBounds_toArray, List.set_cons_zero, List.set_cons_succ]
  refine takeS 3 (some 21) (.pointer (some ⟨w.heap.size, 1, none⟩)) rfl rfl (by kernel_rfl) (by kernel_rfl) (by kernel_rfl) (fun _ _ _ h => h) rfl S0 (fun w' hw' => by go_simp) ?_
  simp only [Act.put, List.setIfInBounds_toArray, List.set_cons_zero, List.set_cons_succ]
  refine takeS 4 (some 22) (.slice ad n cap) rfl rfl (by kernel_rfl) (by kernel_rfl) (by kernel_rfl) (fun _ _ _ h => h) rfl S0 (fun w' hw' => by have cc : w'.cell? ⟨w.heap.size, 1, none⟩ = some (.slice ad n cap) := ((HB.out w' hw').cell 1).trans rfl; go_simp) ?_
  simp only [Act.put, List.setIfInBounds_toArray, List.set_cons_zero, List.set_cons_succ]
  refine nextS 2 rfl (by kernel_rfl) rfl (callS (some 20) rfl 24 #[.int .i64 (k : Int)] (by go_simp) (fun v w' => Ext W0 w' ∧ OwnB w' W0.heap.size v (lf (k : Int) 4)) ((refnum_any k W0 (by have := Hm.out; omega)).mono fun _ _ he => he) ?_)
  rintro v1 W1 ⟨e1, o1⟩
  simp only [Act.put, List.setIfInBounds_toArray, List.set_cons_zero, List.set_cons_succ]
  have S1 := S0.trans e1
  have p1 := o1.less S0.size
  clear o1
  clear e1 S0
  refine ⟨S1, ?_⟩
  refine nextS 5 rfl (by kernel_rfl) rfl (callS (some 23) rfl 25 #[.slice ad n cap] (by go_simp) (fun v w' => Ext W1 w' ∧ OwnB w' W1.heap.size v (encB m)) ((refbytes_any _ m _ W1 (HS.out W1 S1) (by have := Hm.out; omega)).mono fun _ _ he => he) ?_)
  rintro v2 W2 ⟨e1, o2⟩
  simp only [Act.put, List.setIfInBounds_toArray, List.set_cons_zero, List.set_cons_succ]
  have S2 := S1.trans e1
  have p2 := p1.ext e1
  clear p1
  clear e1 S1
  refine ⟨S2, ?_⟩
  refine nextS 6 rfl (by kernel_rfl) rfl (append_toS (some 24) rfl (.tmp 20) (.tmp 23) 22 rfl Tryd.underlying22 u8zero w1.heap.size v1 (lf (k : Int) 4) rfl p2 v2 (encB m) _ rfl (o2.srcs _ (Or.inr (Nat.le_refl _))) (by have := Hm.out; simp [lf_length, encB_len]; omega) S2.size ?_)
  intro v3 W3 o3 b3
  simp only [Act.put, List.setIfInBounds_toArray, List.set_cons_zero, List.set_cons_succ]
  have S3 : Ext w1 W3 := Below.trans S2 b3
  clear p2 o2 b3 S2
  refine ⟨S3, ?_⟩
  refine nextS 7 rfl (by kernel_rfl) rfl (callS (some 25) rfl 23 #[v3] (by go_simp) (fun v w' => Ext W3 w' ∧ OwnB w' W3.heap.size v (sealL (encP k m))) ((rseal_any v3 (encP k m) W3 (o3.srcs _ (Or.inr (Nat.le_refl _))) (by have := Hm.out; rw [encP_len]; omega)).mono fun _ _ he => he) ?_)
  rintro v4 W4 ⟨e1, o4⟩
  simp only [Act.put, List.setIfInBounds_toArray, List.set_cons_zero, List.set_cons_succ]
  have S4 := S3.trans e1
  clear e1 S3 o3
  refine ⟨S4, ?_⟩
  refine takeS 8 (some 2) v4 rfl rfl (by kernel_rfl) (by kernel_rfl) (by kernel_rfl) (fun _ _ _ h => h) rfl S4 (fun w' hw' => by go_simp) ?_
  simp only [Act.put, List.setIfInBounds_toArray, List.set_cons_zero, List.set_cons_succ]
  refine takeS 9 (some 3) (.int .i64 0) rfl rfl (by kernel_rfl) (by kernel_rfl) (by kernel_rfl) (fun _ _ _ h => h) rfl S4 (fun w' hw' => by go_simp) ?_
  simp only [Act.put, List.setIfInBounds_toArray, List.set_cons_zero, List.set_cons_succ]
  refine wpAnyH_done (by kernel_rfl) ?_ _
  have s4 := e0.trans S4
  have q4 := o4.srcs _ (Or.inr (Nat.le_refl _))
  clear o4 S4
  go_wp2
  go_ret2
  exact ⟨_, _, rfl, s4, fun m h => by injection h with h; subst h; exact ⟨rfl, q4⟩, fun h => by simp at h⟩
end Go.Proofs.YtblhipdcgdhmiaaDoor
