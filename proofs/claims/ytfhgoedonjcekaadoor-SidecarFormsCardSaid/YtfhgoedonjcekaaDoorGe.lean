/- The contract of EncodeSide (the document's). -/
import Derived.Test.YtfhgoedonjcekaaDoorGd
import Derived.Test.YtfhgoedonjcekaaDoorSi
import Derived.Test.YtfhgoedonjcekaaDoorCkM
namespace Go.Proofs.YtfhgoedonjcekaaDoor
open Go.RowKit Go.Sha
set_option linter.unusedSimpArgs false
set_option linter.unusedVariables false

def InvEr (w : World) (h : List Int) (l : List (List Int)) (v i : Value) (wr : World) : Prop :=
  ∃ j : Nat, j ≤ l.length ∧ i = .int .i64 j ∧ OwnB wr w.heap.size v (h ++ encLs (l.take j)) ∧ Ext w wr

set_option maxHeartbeats 2000000 in
theorem rencode_not (s : Sd) (vr vl vp : Value) (w : World) (h : SR w s vr vl vp) (hll : s.leaves.length ≤ 9223372036854775807) (hlp : s.parity.length ≤ 9223372036854775807) (so : soundL s = false) :
    Calls Tryd.prog 15 #[.agg #[.int .i64 s.size, .int .i64 s.block, .int .i64 s.k, vr, vl, vp]] w (EPost w none) := by
  obtain ⟨adr, capr, ev⟩ := h.r.len
  subst ev
  obtain ⟨adl, capl, ev⟩ := h.l.len
  subst ev
  obtain ⟨adp, capp, ev⟩ := h.p.len
  subst ev
  obtain ⟨z, b, k, rt, ls, ps⟩ := s
  simp only at *
  obtain ⟨nr, hnr⟩ : ∃ n, n = rt.length := ⟨_, rfl⟩
  obtain ⟨nl, hnl⟩ : ∃ n, n = ls.length := ⟨_, rfl⟩
  obtain ⟨np, hnp⟩ : ∃ n, n = ps.length := ⟨_, rfl⟩
  rw [← hnr, ← hnl, ← hnp] at h ⊢
  have e0 : Ext w (w.alloc (.cells #[.int .i64 z, .int .i64 b, .int .i64 k, .slice adr nr capr, .slice adl nl capl, .slice adp np capp] 30)) := Ext.alloc w _
  have a0 := At.new w #[.int .i64 z, .int .i64 b, .int .i64 k, .slice adr nr capr, .slice adl nl capl, .slice adp np capp] 30
  have SO := rsound_any ⟨z, b, k, rt, ls, ps⟩ _ _ _ _ (h.ext e0) hll hlp
  rw [so] at SO
  simp only at SO
  have f0 := a0.cell 0
  have f1 := a0.cell 1
  have f2 := a0.cell 2
  have f3 := a0.cell 3
  have f4 := a0.cell 4
  have f5 := a0.cell 5
  clear hnr hnl hnp hll hlp h
  go_enter Tryd.func15, Tryd.ntmps15
  go_wp2_with fail
  refine SO.mono ?_
  rintro e w1 ⟨rfl, e1⟩
  clear f0 f1 f2 f3 f4 f5
  go_wp2
  go_ret2
  exact ⟨_, _, rfl, e0.trans e1, fun m h => by simp at h, fun _ => ⟨rfl, rfl⟩⟩

set_option maxHeartbeats 8000000 in
set_option maxRecDepth 100000 in
theorem rencode_ok (n b k : Nat) (rt : List Int) (ls ps : List (List Int)) (vr vl vp : Value) (w : World) (h : SR w (⟨(n : Int), (b : Int), (k : Int), rt, ls, ps⟩ : Sd) vr vl vp) (so : soundL (⟨(n : Int), (b : Int), (k : Int), rt, ls, ps⟩ : Sd) = true) (hbd : (encS n b k ls ps).length ≤ 30000) :
    Calls Tryd.prog 15 #[.agg #[.int .i64 (n : Int), .int .i64 (b : Int), .int .i64 (k : Int), vr, vl, vp]] w (EPost w (some (sealL (encS n b k ls ps)))) := by
  have so' := so
  unfold soundL at so'
  simp only [Bool.and_eq_true] at so'
  obtain ⟨⟨⟨hmay, hal⟩, hap⟩, _⟩ := so'
  have hm6 := (mayL_iff _ _ _).1 hmay
  have hl1 : ls.length ≤ 1000000000 := by have h1 := (allL_len hal).1; have := cntL_le n b; omega
  have hl2 : ps.length ≤ 1000000000 := by have h1 := (allL_len hap).1; have := grpsN_le n b k; omega
  have hlen : ∀ m, (m ∈ ls ∨ m ∈ ps) → m.length ≤ 1000000000 := fun m hm => by
    rcases hm with hm | hm
    · have := (allL_len hal).2 m hm; omega
    · have := (allL_len hap).2 m hm; omega
  obtain ⟨adr, capr, ev⟩ := h.r.len
  subst ev
  obtain ⟨adl, capl, ev⟩ := h.l.len
  subst ev
  obtain ⟨adp, capp, ev⟩ := h.p.len
  subst ev
  simp only at h ⊢
  obtain ⟨nr, hnr⟩ : ∃ n, n = rt.length := ⟨_, rfl⟩
  obtain ⟨nl, hnl⟩ : ∃ n, n = ls.length := ⟨_, rfl⟩
  obtain ⟨np, hnp⟩ : ∃ n, n = ps.length := ⟨_, rfl⟩
  rw [← hnr, ← hnl, ← hnp] at h ⊢
  have HNL := Lib.hid hnl
  have HNP := Lib.hid hnp
  have Hm := Lib.hid hm6
  have Hlen := Lib.hid hlen
  have Hbd := Lib.hid hbd
  have e0 : Ext w (w.alloc (.cells #[.int .i64 (n : Int), .int .i64 (b : Int), .int .i64 (k : Int), .slice adr nr capr, .slice adl nl capl, .slice adp np capp] 30)) := Ext.alloc w _
  have a0 := At.new w #[.int .i64 (n : Int), .int .i64 (b : Int), .int .i64 (k : Int), .slice adr nr capr, .slice adl nl capl, .slice adp np capp] 30
  have R0 := h.ext e0
  have SO := rsound_any (⟨(n : Int), (b : Int), (k : Int), rt, ls, ps⟩ : Sd) _ _ _ _ R0 (by simp only; omega) (by simp only; omega)
  rw [so] at SO
  simp only at SO
  have hlb : nl ≤ 1000000000 := by omega
  have hpb : np ≤ 1000000000 := by omega
  have f0 := a0.cell 0
  have f1 := a0.cell 1
  have f2 := a0.cell 2
  have f3 := a0.cell 3
  have f4 := a0.cell 4
  have f5 := a0.cell 5
  clear hnr hnl hnp h hmay hal hap hm6 hlen hl1 hl2 hbd so
  go_enter Tryd.func15, Tryd.ntmps15
  go_wp2_with fail
  refine SO.mono ?_
  rintro e w1 ⟨rfl, e1⟩
  clear f0 f1 f2 f3 f4 f5
  have a1 := at_ext a0 e1
  have R1 := R0.ext e1
  have e01 := e0.trans e1
  have HB := Lib.hid (fun (w' : World) (hw' : Ext w1 w') => at_ext a1 hw')
  clear a0 R0 e0 e1 SO a1
  go_upto_region 3 with (fail)
  refine wp_region_held (S := Ext w1) (by kernel_rfl) ?_
  change wpAnyH _ _ _ _ _ _ _ _ w1.drew
  have S0 : Ext w1 w1.drew := Below.drew (Below.refl _ _)
  generalize w1.drew = W0 at *
  refine takeS 0 (some 10) (.pointer (some ⟨w.heap.size, 0, none⟩)) rfl rfl (by kernel_rfl) (by kernel_rfl) (by kernel_rfl) (fun _ _ _ h => h) rfl S0 (fun w' hw' => by go_simp) ?_
  simp only [Act.put, List.setIfInBounds_toArray, List.set_cons_zero, List.set_cons_succ]
  refine takeS 1 (some 11) (.int .i64 (n : Int)) rfl rfl (by kernel_rfl) (by kernel_rfl) (by kernel_rfl) (fun _ _ _ h => h) rfl S0 (fun w' hw' => by have cc : w'.cell? ⟨w.heap.size, 0, none⟩ = some (.int .i64 (n : Int)) := ((HB.out w' hw').cell 0).trans rfl; go_simp) ?_
  simp only [Act.put, List.setIfInBounds_toArray, List.set_cons_zero, List.set_cons_succ]
  refine takeS 3 (some 13) (.pointer (some ⟨w.heap.size, 1, none⟩)) rfl rfl (by kernel_rfl) (by kernel_rfl) (by kernel_rfl) (fun _ _ _ h => h) rfl S0 (fun w' hw' => by go_simp) ?_
  simp only [Act.put, List.setIfInBounds_toArray, List.set_cons_zero, List.set_cons_succ]
  refine takeS 4 (some 14) (.int .i64 (b : Int)) rfl rfl (by kernel_rfl) (by kernel_rfl) (by kernel_rfl) (fun _ _ _ h => h) rfl S0 (fun w' hw' => by have cc : w'.cell? ⟨w.heap.size, 1, none⟩ = some (.int .i64 (b : Int)) := ((HB.out w' hw').cell 1).trans rfl; go_simp) ?_
  simp only [Act.put, List.setIfInBounds_toArray, List.set_cons_zero, List.set_cons_succ]
  refine takeS 7 (some 17) (.pointer (some ⟨w.heap.size, 2, none⟩)) rfl rfl (by kernel_rfl) (by kernel_rfl) (by kernel_rfl) (fun _ _ _ h => h) rfl S0 (fun w' hw' => by go_simp) ?_
  simp only [Act.put, List.setIfInBounds_toArray, List.set_cons_zero, List.set_cons_succ]
  refine takeS 8 (some 18) (.int .i64 (k : Int)) rfl rfl (by kernel_rfl) (by kernel_rfl) (by kernel_rfl) (fun _ _ _ h => h) rfl S0 (fun w' hw' => by have cc : w'.cell? ⟨w.heap.size, 2, none⟩ = some (.int .i64 (k : Int)) := ((HB.out w' hw').cell 2).trans rfl; go_simp) ?_
  simp only [Act.put, List.setIfInBounds_toArray, List.set_cons_zero, List.set_cons_succ]
  refine nextS 2 rfl (by kernel_rfl) rfl (callS (some 12) rfl 43 #[.int .i64 (n : Int)] (by go_simp) (fun v w' => Ext W0 w' ∧ OwnB w' W0.heap.size v (lf (n : Int) 4)) ((refnum_any n W0 (by have := Hm.out; omega)).mono fun _ _ he => he) ?_)
  rintro v1 W1 ⟨e1, o1⟩
  simp only [Act.put, List.setIfInBounds_toArray, List.set_cons_zero, List.set_cons_succ]
  have S1 := S0.trans e1
  have p1 := o1.less S0.size
  clear o1
  clear e1 S0
  refine ⟨S1, ?_⟩
  refine nextS 5 rfl (by kernel_rfl) rfl (callS (some 15) rfl 43 #[.int .i64 (b : Int)] (by go_simp) (fun v w' => Ext W1 w' ∧ OwnB w' W1.heap.size v (lf (b : Int) 4)) ((refnum_any b W1 (by have := Hm.out; omega)).mono fun _ _ he => he) ?_)
  rintro v2 W2 ⟨e1, o2⟩
  simp only [Act.put, List.setIfInBounds_toArray, List.set_cons_zero, List.set_cons_succ]
  have S2 := S1.trans e1
  have p2 := p1.ext e1
  clear p1
  clear e1 S1
  refine ⟨S2, ?_⟩
  refine nextS 6 rfl (by kernel_rfl) rfl (wp_append_bytes (.tmp 12) (.tmp 15) 22 rfl Tryd.underlying22 u8zero w1.heap.size v1 (lf (n : Int) 4) rfl p2 v2 (lf (b : Int) 4) _ rfl (o2.srcs _ (Or.inr (Nat.le_refl _))) (by simp [lf_length]) S2.size ?_)
  intro v3 W3 o3 b3
  simp only [Act.put, List.setIfInBounds_toArray, List.set_cons_zero, List.set_cons_succ]
  have S3 : Ext w1 W3 := Below.trans S2 b3
  clear p2 o2 b3 S2
  refine ⟨S3, ?_⟩
  refine nextS 9 rfl (by kernel_rfl) rfl (callS (some 19) rfl 43 #[.int .i64 (k : Int)] (by go_simp) (fun v w' => Ext W3 w' ∧ OwnB w' W3.heap.size v (lf (k : Int) 4)) ((refnum_any k W3 (by have := Hm.out; omega)).mono fun _ _ he => he) ?_)
  rintro v4 W4 ⟨e1, o4⟩
  simp only [Act.put, List.setIfInBounds_toArray, List.set_cons_zero, List.set_cons_succ]
  have S4 := S3.trans e1
  have p4 := o3.ext e1
  clear o3
  clear e1 S3
  refine ⟨S4, ?_⟩
  refine nextS 10 rfl (by kernel_rfl) rfl (wp_append_bytes (.tmp 16) (.tmp 19) 22 rfl Tryd.underlying22 u8zero w1.heap.size v3 (lf (n : Int) 4 ++ lf (b : Int) 4) rfl p4 v4 (lf (k : Int) 4) _ rfl (o4.srcs _ (Or.inr (Nat.le_refl _))) (by simp [lf_length]) S4.size ?_)
  intro v5 W5 o5 b5
  simp only [Act.put, List.setIfInBounds_toArray, List.set_cons_zero, List.set_cons_succ]
  have S5 : Ext w1 W5 := Below.trans S4 b5
  clear p4 o4 b5 S4
  refine ⟨S5, ?_⟩
  refine takeS 11 (some 4) (v5) rfl rfl (by kernel_rfl) (by kernel_rfl) (by kernel_rfl) (fun _ _ _ h => h) rfl S5 (fun w' hw' => by go_simp) ?_
  simp only [Act.put, List.setIfInBounds_toArray, List.set_cons_zero, List.set_cons_succ]
  refine wpAnyH_done (by kernel_rfl) ?_ _
  have HO : Hid (OwnB W5 w1.heap.size v5 (encH n b k)) := Lib.hid o5
  have SW := S5
  clear o5 S5
  go_wp2
  go_loopw [4, 5] (fun v i wr => InvEr w1 (encH n b k) ls v i wr) (fun _ i _ => nl - (intOf i).toNat)
  case atStart => exact ⟨0, by omega, rfl, by rw [List.take_zero, encLs_nil, List.append_nil]; exact HO.out, SW⟩
  case round =>
    clear SW HO
    obtain ⟨j, hj, rfl, ow, sx⟩ := hrel
    rw [← HNL.out] at hj
    have aW := HB.out wr sx
    have f4 := aW.cell 4
    obtain ⟨ado, capo, eo⟩ := ow.len
    subst eo
    obtain ⟨q, hq⟩ : ∃ x, x = ((encH n b k) ++ encLs (ls.take j)).length := ⟨_, rfl⟩
    rw [← hq] at ow ⊢
    have Hq := Lib.hid hq; clear hq
    by_cases hlt : j < nl
    · obtain ⟨m1, hm1⟩ : ∃ m, ls[j]? = some m := ⟨_, List.getElem?_eq_getElem (by rw [← HNL.out]; exact hlt)⟩
      have hv := R1.l
      simp only at hv
      obtain ⟨cap1, pb, po, ev1, _, hc1⟩ := lr_at hv (by rw [← HNL.out]; omega)
      rw [← HNL.out] at ev1
      injection ev1 with a1 _ a2
      subst a1 a2
      obtain ⟨x1, c1, s1⟩ := hc1 j m1 hm1
      have c1' : wr.cell? ⟨pb, po + j, none⟩ = some x1 := by rw [Below.cell (p := ⟨pb, po + j, none⟩) sx (World.block_lt_of_cell? w1 _ c1)]; exact c1
      have i0 : (j : Int) < (nl : Int) := by omega
      have hb1 := Hlen.out m1 (Or.inl (List.mem_of_getElem? hm1))
      have hbx := enc_step ls j m1 hm1
      have hby : ((encH n b k) ++ encLs (ls.take j)).length + (encB m1).length ≤ 70368744177664 := by
        have h1 := encLs_take ls (j + 1)
        rw [← hbx] at h1
        have h2 := Hbd.out
        unfold encS at h2
        simp only [List.length_append] at *
        omega
      have Hs := Lib.hid hbx
      have s2 := s1.now sx
      clear hv hc1 hm1 hbx c1 s1 aW
      go_wp2_with fail
      refine (refbytes_any x1 m1 _ wr s2 hb1).mono ?_
      rintro e w9 ⟨v9, rfl, e9, o9⟩
      have s9 := sx.trans e9
      have ow9 := ow.ext e9
      have q9 := o9.srcs _ (Or.inr (Nat.le_refl _))
      clear ow sx e9 o9 s2 c1' f4
      go_wp2_with (refine list_append_bytes rfl (.tmp 28) (.tmp 34) 22 rfl Tryd.underlying22 u8zero w1.heap.size _ ((encH n b k) ++ encLs (ls.take j)) rfl ow9 _ (encB m1) _ rfl q9 hby s9.size ?_; intro vy w6 oy gy)
      have b6 : Ext w1 w6 := Below.trans s9 (ow9.grown gy s9.size)
      rw [List.append_assoc, Hs.out] at oy
      exact ⟨⟨j + 1, by rw [← HNL.out]; omega, by go_num, oy, b6⟩, by simp [intOf]; omega⟩
    · obtain rfl : nl = j := by omega
      rw [List.take_of_length_le (by rw [← HNL.out]; exact Nat.le_refl _)] at ow Hq
      have HO := Lib.hid ow
      have SW := sx
      clear ow sx hlt hj aW
      go_wp2
      clear f4
      obtain ⟨wq, rfl⟩ : ∃ V, V = wr := ⟨_, rfl⟩
      go_loopw [4, 6] (fun v i wr => InvEr w1 (encH n b k ++ encLs ls) ps v i wr) (fun _ i _ => np - (intOf i).toNat)
      case atStart => exact ⟨0, by omega, rfl, by rw [List.take_zero, encLs_nil, List.append_nil]; exact HO.out, SW⟩
      case round =>
        clear SW HO
        obtain ⟨j, hj, rfl, ow, sx⟩ := hrel
        rw [← HNP.out] at hj
        have aW := HB.out wr sx
        have f5 := aW.cell 5
        obtain ⟨ado, capo, eo⟩ := ow.len
        subst eo
        obtain ⟨q, hq⟩ : ∃ x, x = ((encH n b k ++ encLs ls) ++ encLs (ps.take j)).length := ⟨_, rfl⟩
        rw [← hq] at ow ⊢
        have Hq := Lib.hid hq; clear hq
        by_cases hlt : j < np
        · obtain ⟨m1, hm1⟩ : ∃ m, ps[j]? = some m := ⟨_, List.getElem?_eq_getElem (by rw [← HNP.out]; exact hlt)⟩
          have hv := R1.p
          simp only at hv
          obtain ⟨cap1, pb, po, ev1, _, hc1⟩ := lr_at hv (by rw [← HNP.out]; omega)
          rw [← HNP.out] at ev1
          injection ev1 with a1 _ a2
          subst a1 a2
          obtain ⟨x1, c1, s1⟩ := hc1 j m1 hm1
          have c1' : wr.cell? ⟨pb, po + j, none⟩ = some x1 := by rw [Below.cell (p := ⟨pb, po + j, none⟩) sx (World.block_lt_of_cell? w1 _ c1)]; exact c1
          have i0 : (j : Int) < (np : Int) := by omega
          have hb1 := Hlen.out m1 (Or.inr (List.mem_of_getElem? hm1))
          have hbx := enc_step ps j m1 hm1
          have hby : ((encH n b k ++ encLs ls) ++ encLs (ps.take j)).length + (encB m1).length ≤ 70368744177664 := by
            have h1 := encLs_take ps (j + 1)
            rw [← hbx] at h1
            have h2 := Hbd.out
            unfold encS at h2
            simp only [List.length_append] at *
            omega
          have Hs := Lib.hid hbx
          have s2 := s1.now sx
          clear hv hc1 hm1 hbx c1 s1 aW
          go_wp2_with fail
          refine (refbytes_any x1 m1 _ wr s2 hb1).mono ?_
          rintro e w9 ⟨v9, rfl, e9, o9⟩
          have s9 := sx.trans e9
          have ow9 := ow.ext e9
          have q9 := o9.srcs _ (Or.inr (Nat.le_refl _))
          clear ow sx e9 o9 s2 c1' f5
          go_wp2_with (refine list_append_bytes rfl (.tmp 43) (.tmp 49) 22 rfl Tryd.underlying22 u8zero w1.heap.size _ ((encH n b k ++ encLs ls) ++ encLs (ps.take j)) rfl ow9 _ (encB m1) _ rfl q9 hby s9.size ?_; intro vy w6 oy gy)
          have b6 : Ext w1 w6 := Below.trans s9 (ow9.grown gy s9.size)
          rw [List.append_assoc, Hs.out] at oy
          exact ⟨⟨j + 1, by rw [← HNP.out]; omega, by go_num, oy, b6⟩, by simp [intOf]; omega⟩
        · obtain rfl : np = j := by omega
          rw [List.take_of_length_le (by rw [← HNP.out]; exact Nat.le_refl _)] at ow Hq
          have Ho := Lib.hid ow
          clear ow hlt hj aW
          go_wp2_with fail
          clear f5
          refine (rseal_any _ _ wr (Ho.out.srcs _ (Or.inr (Nat.le_refl _))) (by have := Hbd.out; unfold encS at this; exact this)).mono ?_
          rintro e w6 ⟨v6, rfl, e6, o6⟩
          go_wp2
          go_ret2
          exact ⟨_, _, rfl, (e01.trans sx).trans e6, fun m h => by injection h with h; subst h; exact ⟨rfl, o6.srcs _ (Or.inr (Nat.le_refl _))⟩, fun h => by simp at h⟩
end Go.Proofs.YtfhgoedonjcekaaDoor
