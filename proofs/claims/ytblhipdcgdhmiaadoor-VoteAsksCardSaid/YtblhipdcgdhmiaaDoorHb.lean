/- The contracts of mayBe, Same, Encode (the code's). -/
import Derived.Test.YtblhipdcgdhmiaaDoorHa
namespace Go.Proofs.YtblhipdcgdhmiaaDoor
open Go.RowKit Go.Sha
set_option linter.unusedSimpArgs false
set_option linter.unusedVariables false

set_option maxHeartbeats 1000000 in
theorem mayP_any (g : Int) (ad : Option Addr) (n cap : Nat) (w : World) :
    Calls Tryd.prog 18 #[.agg #[.int .i64 g, .slice ad n cap]] w fun e w' => e = .returned (.bool (decide (1 ≤ g) && decide (g ≤ 2147483647) && decide (n ≤ 60000))) ∧ Ext w w' := by
  obtain ⟨B1, h1⟩ : ∃ B, decide (1 ≤ g) = B := ⟨_, rfl⟩
  obtain ⟨B2, h2⟩ : ∃ B, decide (g ≤ 2147483647) = B := ⟨_, rfl⟩
  obtain ⟨B3, h3⟩ : ∃ B, decide (n ≤ 60000) = B := ⟨_, rfl⟩
  have h4 : decide ((n : Int) ≤ 60000) = B3 := by rw [← h3, decide_eq_decide]; omega
  rw [h1, h2, h3]
  cases B1
  · clear h2 h3 h4
    go_enter Tryd.func18, Tryd.ntmps18
    go_wp2
    go_ret
    exact ⟨rfl, Ext.alloc w _⟩
  cases B2
  · clear h3 h4
    go_enter Tryd.func18, Tryd.ntmps18
    go_wp2
    go_ret
    exact ⟨rfl, Ext.alloc w _⟩
  cases B3
  · go_enter Tryd.func18, Tryd.ntmps18
    go_wp2
    go_ret
    exact ⟨rfl, Ext.alloc w _⟩
  · go_enter Tryd.func18, Tryd.ntmps18
    go_wp2
    go_ret
    exact ⟨rfl, Ext.alloc w _⟩

set_option maxHeartbeats 1000000 in
theorem sameP_any (g k : Int) (m l : List Int) (v u : Value) (w : World) (h : Src w v m w.heap.size) (h' : Src w u l w.heap.size) :
    Calls Tryd.prog 12 #[.agg #[.int .i64 g, v], .agg #[.int .i64 k, u]] w fun e w' => e = .returned (.bool (sameP (g, m) (k, l))) ∧ Ext w w' := by
  obtain ⟨ad, cap, ev⟩ := h.len
  subst ev
  obtain ⟨ad', cap', ev⟩ := h'.len
  subst ev
  unfold sameP
  simp only
  obtain ⟨n, hn⟩ : ∃ n, n = m.length := ⟨_, rfl⟩
  obtain ⟨n', hn'⟩ : ∃ n, n = l.length := ⟨_, rfl⟩
  rw [← hn] at h ⊢
  rw [← hn'] at h' ⊢
  clear hn hn'
  have e0 : Ext w ((w.alloc (.cells #[.int .i64 g, .slice ad n cap] 25)).alloc (.cells #[.int .i64 k, .slice ad' n' cap'] 25)) := (Ext.alloc w _).trans (Ext.alloc _ _)
  have DE := beq_any _ _ m l _ (h.now e0) (h'.now e0)
  obtain ⟨B1, d1⟩ : ∃ B, (g == k) = B := ⟨_, rfl⟩
  obtain ⟨B2, d2⟩ : ∃ B, eqS m l = B := ⟨_, rfl⟩
  rw [d1, d2]
  rw [d2] at DE
  clear h h' d2
  cases B1
  · clear DE
    go_enter Tryd.func12, Tryd.ntmps12
    go_wp2
    go_ret
    exact ⟨rfl, e0⟩
  · have a1 : At ((w.alloc (.cells #[.int .i64 g, .slice ad n cap] 25)).alloc (.cells #[.int .i64 k, .slice ad' n' cap'] 25)) w.heap.size #[.int .i64 g, .slice ad n cap] 25 := (At.new w _ _).alloc _
    have a2 := At.new1 w (.cells #[.int .i64 g, .slice ad n cap] 25) #[.int .i64 k, .slice ad' n' cap'] 25
    have f1 := a1.cell 1
    have g1 := a2.cell 1
    go_enter Tryd.func12, Tryd.ntmps12
    go_wp2_with fail
    refine DE.mono ?_
    rintro e w' ⟨rfl, rfl⟩
    clear DE
    cases B2
    · go_wp2
      go_ret
      exact ⟨rfl, e0⟩
    · go_wp2
      go_ret
      exact ⟨rfl, e0⟩

set_option maxHeartbeats 2000000 in
theorem enc_not (g : Int) (m : List Int) (v : Value) (w : World) (h : Src w v m w.heap.size) (hn : mayP (g, m) = false) :
    Calls Tryd.prog 8 #[.agg #[.int .i64 g, v]] w (EPost w none) := by
  obtain ⟨ad, cap, ev⟩ := h.len
  subst ev
  have e0 : Ext w (w.alloc (.cells #[.int .i64 g, .slice ad m.length cap] 25)) := Ext.alloc w _
  have a0 := At.new w #[.int .i64 g, .slice ad m.length cap] 25
  have MB := mayP_any g ad m.length cap (w.alloc (.cells #[.int .i64 g, .slice ad m.length cap] 25))
  unfold mayP at hn
  simp only at hn
  rw [hn] at MB
  obtain ⟨n, hn'⟩ : ∃ n, n = m.length := ⟨_, rfl⟩
  rw [← hn'] at e0 a0 MB ⊢
  have f0 := a0.cell 0
  have f1 := a0.cell 1
  clear h hn hn' a0
  go_enter Tryd.func8, Tryd.ntmps8
  go_wp2_with fail
  refine MB.mono ?_
  rintro e w1 ⟨rfl, e1⟩
  clear f0 f1
  go_wp2
  go_ret2
  exact ⟨_, _, rfl, e0.trans e1, fun m h => by simp at h, fun _ => ⟨rfl, rfl⟩⟩

set_option maxHeartbeats 8000000 in
set_option maxRecDepth 100000 in
theorem enc_ok (k : Nat) (m : List Int) (v : Value) (w : World) (hK : KAt w) (h : Src w v m w.heap.size) (h1 : 1 ≤ k) (h2 : k ≤ 2147483647) (hm : m.length ≤ 60000) :
    Calls Tryd.prog 8 #[.agg #[.int .i64 (k : Int), v]] w (EPost w (some (sealL (encP k m)))) := by
  obtain ⟨ad, cap, ev⟩ := h.len
  subst ev
  have MB := mayP_any (k : Int) ad m.length cap (w.alloc (.cells #[.int .i64 (k : Int), .slice ad m.length cap] 25))
  have d1 : decide ((1 : Int) ≤ (k : Int)) = true := by simp; omega
  have d2 : decide ((k : Int) ≤ 2147483647) = true := by simp; omega
  have d3 : decide (m.length ≤ 60000) = true := by simp; omega
  rw [d1, d2, d3] at MB
  obtain ⟨n, hn⟩ : ∃ n, n = m.length := ⟨_, rfl⟩
  have HN := Lib.hid hn
  rw [← hn] at h MB ⊢
  have e0 : Ext w (w.alloc (.cells #[.int .i64 (k : Int), .slice ad n cap] 25)) := Ext.alloc w _
  have a0 := At.new w #[.int .i64 (k : Int), .slice ad n cap] 25
  have S0 := h.now e0
  have Hm := Lib.hid (And.intro h2 hm)
  have f0 := a0.cell 0
  have f1 := a0.cell 1
  clear hn h d1 d2 d3 h1 h2 hm
  go_enter Tryd.func8, Tryd.ntmps8
  go_wp2_with fail
  refine MB.mono ?_
  rintro e w1 ⟨rfl, e1⟩
  clear f0 f1
  have a1 := at_ext a0 e1
  have S1 := S0.now e1
  have e01 := e0.trans e1
  have HB := Lib.hid (fun (w' : World) (hw' : Ext w1 w') => at_ext a1 hw')
  clear a0 S0 e0 e1 MB a1
  go_upto_region 4 with (fail)
  have H1 := wst_zero w1 Tryd.zeroCells54 zcW0
  have eA : Ext w1 (w1.alloc (.cells Tryd.zeroCells54 54)) := Ext.alloc w1 _
  have SA := S1.ext eA
  obtain ⟨g, hgg⟩ : ∃ g, g = w1.heap.size := ⟨_, rfl⟩
  have hg : w1.heap.size ≤ g := by omega
  rw [← hgg] at H1 SA ⊢
  have Hgg := Lib.hid hgg; clear hgg
  generalize w1.alloc (.cells Tryd.zeroCells54 54) = w2 at *
  refine wp_region_held (S := Ext w1) (by kernel_rfl) ?_
  change wpAnyH _ _ _ _ _ _ _ _ w2.drew
  have S0 : Ext w1 w2.drew := eA.trans (Below.drew (Below.refl _ _))
  have M0 := SA.ext (Below.drew (Below.refl _ _) : Ext w2 w2.drew)
  replace H1 := H1.below (Below.drew (Below.refl _ _) : Ext w2 w2.drew)
  clear eA SA S1
  generalize w2.drew = W0 at *
  refine takeS 0 (some 11) (.pointer (some ⟨w.heap.size, 0, none⟩)) rfl rfl (by kernel_rfl) (by kernel_rfl) (by kernel_rfl) (fun _ _ _ h => h) rfl S0 (fun w' hw' => by go_simp) ?_
  simp only [Act.put, List.setIfInBounds_toArray, List.set_cons_zero, List.set_cons_succ]
  refine takeS 1 (some 12) (.int .i64 (k : Int)) rfl rfl (by kernel_rfl) (by kernel_rfl) (by kernel_rfl) (fun _ _ _ h => h) rfl S0 (fun w' hw' => by have cc : w'.cell? ⟨w.heap.size, 0, none⟩ = some (.int .i64 (k : Int)) := ((HB.out w' hw').cell 0).trans rfl; go_simp) ?_
  simp only [Act.put, List.setIfInBounds_toArray, List.set_cons_zero, List.set_cons_succ]
  refine takeS 3 (some 14) (.pointer (some ⟨w.heap.size, 1, none⟩)) rfl rfl (by kernel_rfl) (by kernel_rfl) (by kernel_rfl) (fun _ _ _ h => h) rfl S0 (fun w' hw' => by go_simp) ?_
  simp only [Act.put, List.setIfInBounds_toArray, List.set_cons_zero, List.set_cons_succ]
  refine takeS 4 (some 15) (.slice ad n cap) rfl rfl (by kernel_rfl) (by kernel_rfl) (by kernel_rfl) (fun _ _ _ h => h) rfl S0 (fun w' hw' => by have cc : w'.cell? ⟨w.heap.size, 1, none⟩ = some (.slice ad n cap) := ((HB.out w' hw').cell 1).trans rfl; go_simp) ?_
  simp only [Act.put, List.setIfInBounds_toArray, List.set_cons_zero, List.set_cons_succ]
  refine nextS 2 rfl (by kernel_rfl) rfl (callS (some 13) rfl 19 #[.pointer (some ⟨g, 0, none⟩), .int .i64 (k : Int)] (by go_simp) (fun v w' => v = .pointer (some ⟨g, 0, none⟩) ∧ Only g W0 w' ∧ WSt w' g (some ([] ++ lf (k : Int) 4))) ((wnum_any g (some ([])) k W0 H1 (fits_some _ 4 (by simp [lf_length]))).mono fun _ _ he => ⟨_, he.1, rfl, he.2.1, by rw [← wNum_some _ k (by have := Hm.out; omega)]; exact he.2.2⟩) ?_)
  rintro v1 W1 ⟨rfl, o1, H2⟩
  simp only [Act.put, List.setIfInBounds_toArray, List.set_cons_zero, List.set_cons_succ]
  have S1 := ext_only' S0 o1 hg
  have M1 := src_keep M0 M0 o1
  clear o1 H1 S0 M0
  refine ⟨S1, ?_⟩
  refine nextS 5 rfl (by kernel_rfl) rfl (callS (some 16) rfl 20 #[.pointer (some ⟨g, 0, none⟩), .slice ad n cap] (by go_simp) (fun v w' => v = .pointer (some ⟨g, 0, none⟩) ∧ Only g W1 w' ∧ WSt w' g (some (encP k m))) ((wbytes_any g (some ([] ++ lf (k : Int) 4)) m _ W1 H2 (fits_some _ _ (by have := Hm.out; simp [lf_length]; omega)) (by have := Hm.out; omega) M1).mono fun _ _ he => ⟨_, he.1, rfl, he.2.1, by have := he.2.2; rw [oadd, Option.map_some] at this; exact this⟩) ?_)
  rintro v2 W2 ⟨rfl, o2, H3⟩
  simp only [Act.put, List.setIfInBounds_toArray, List.set_cons_zero, List.set_cons_succ]
  have S2 := ext_only' S1 o2 hg
  clear o2 H2 S1 M1
  refine ⟨S2, ?_⟩
  refine nextS 6 rfl (by kernel_rfl) rfl (callS (some 17) rfl 21 #[.pointer (some ⟨g, 0, none⟩)] (by go_simp) (fun v w' => ∃ u, v = .tuple #[u, .bool true] ∧ Ext W2 w' ∧ OwnB w' W2.heap.size u (encP k m)) ((done_any g _ W2 H3 (by rw [encP_len]; have := Hm.out; omega)).mono fun _ _ he => by obtain ⟨u, h1, h2, h3⟩ := he; exact ⟨_, h1, u, rfl, h2, h3⟩) ?_)
  rintro v3 W3 ⟨u, rfl, e3, o3⟩
  simp only [Act.put, List.setIfInBounds_toArray, List.set_cons_zero, List.set_cons_succ]
  have S3 := S2.trans e3
  clear e3 H3 S2
  refine ⟨S3, ?_⟩
  refine takeS 7 (some 10) (.tuple #[u, .bool true]) rfl rfl (by kernel_rfl) (by kernel_rfl) (by kernel_rfl) (fun _ _ _ h => h) rfl S3 (fun w' hw' => by go_simp) ?_
  simp only [Act.put, List.setIfInBounds_toArray, List.set_cons_zero, List.set_cons_succ]
  refine takeS 8 (some 18) u rfl rfl (by kernel_rfl) (by kernel_rfl) (by kernel_rfl) (fun _ _ _ h => h) rfl S3 (fun w' hw' => by go_simp) ?_
  simp only [Act.put, List.setIfInBounds_toArray, List.set_cons_zero, List.set_cons_succ]
  refine takeS 9 (some 19) (.bool true) rfl rfl (by kernel_rfl) (by kernel_rfl) (by kernel_rfl) (fun _ _ _ h => h) rfl S3 (fun w' hw' => by go_simp) ?_
  simp only [Act.put, List.setIfInBounds_toArray, List.set_cons_zero, List.set_cons_succ]
  refine takeS 10 (some 5) u rfl rfl (by kernel_rfl) (by kernel_rfl) (by kernel_rfl) (fun _ _ _ h => h) rfl S3 (fun w' hw' => by go_simp) ?_
  simp only [Act.put, List.setIfInBounds_toArray, List.set_cons_zero, List.set_cons_succ]
  refine takeS 11 (some 6) (.bool true) rfl rfl (by kernel_rfl) (by kernel_rfl) (by kernel_rfl) (fun _ _ _ h => h) rfl S3 (fun w' hw' => by go_simp) ?_
  simp only [Act.put, List.setIfInBounds_toArray, List.set_cons_zero, List.set_cons_succ]
  refine wpAnyH_done (by kernel_rfl) ?_ _
  have s5 := S3
  have q5 := o3.srcs _ (Or.inr (Nat.le_refl _))
  clear o3 S3
  go_wp2_with fail
  refine (seal_any u _ W3 (hK.below (e01.trans s5) hK.lt) q5 (by rw [encP_len]; have := Hm.out; omega)).mono ?_
  rintro e w6 ⟨v6, rfl, e6, o6⟩
  go_wp2
  go_ret2
  exact ⟨_, _, rfl, (e01.trans s5).trans e6, fun m h => by injection h with h; subst h; exact ⟨rfl, o6.srcs _ (Or.inr (Nat.le_refl _))⟩, fun h => by simp at h⟩
end Go.Proofs.YtblhipdcgdhmiaaDoor
