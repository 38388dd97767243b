/- The contract of Encode (the code's). -/
import Derived.Test.YtfhgoedonjcekaaDoorSc
import Derived.Test.YtfhgoedonjcekaaDoorGaM
import Derived.Test.YtfhgoedonjcekaaDoorCdM
import Derived.Test.YtfhgoedonjcekaaDoorPe
namespace Go.Proofs.YtfhgoedonjcekaaDoor
open Go.RowKit Go.Sha
set_option linter.unusedSimpArgs false
set_option linter.unusedVariables false

/-- Lists of bytes, written one behind the other. -/
def encLs (l : List (List Int)) : List Int := (l.map encB).flatten
theorem encLs_nil : encLs [] = [] := rfl
theorem enc_step (l : List (List Int)) (j : Nat) (m : List Int) (h : l[j]? = some m) : encLs (l.take j) ++ encB m = encLs (l.take (j + 1)) := by
  unfold encLs
  rw [List.take_add_one, h]
  simp
theorem encLs_app (a b : List (List Int)) : encLs (a ++ b) = encLs a ++ encLs b := by simp [encLs]
theorem encLs_take (l : List (List Int)) (j : Nat) : (encLs (l.take j)).length ≤ (encLs l).length := by
  have := congrArg (fun x => (encLs x).length) (List.take_append_drop j l)
  simp only [encLs_app, List.length_append] at this
  omega
theorem encB_len (m : List Int) : (encB m).length = 4 + m.length := by rw [encB, List.length_append, lf_length]
theorem enc_fits (h : List Int) (l : List (List Int)) (j : Nat) (m : List Int) (hm : l[j]? = some m) (hb : h.length + (encLs l).length ≤ 1000000) : Fits (some (h ++ encLs (l.take j))) (4 + m.length) := fun x hx => by
  injection hx with hx
  subst hx
  have h1 := encLs_take l (j + 1)
  rw [← enc_step l j m hm, List.length_append, encB_len] at h1
  rw [List.length_append]
  omega
theorem fits_some (l : List Int) (n : Nat) (h : l.length + n < 4611686018427387904) : Fits (some l) n := fun x hx => by injection hx with hx; subst hx; exact h
theorem wNum_some (l : List Int) (n : Nat) (h : n ≤ 2147483647) : wNum (some l) (n : Int) = some (l ++ lf (n : Int) 4) := by rw [wNum, if_neg (by omega)]; rfl
theorem wst_zero (w : World) (t : Array Value) (ht : t = (zeroW false).toArray) : WSt (w.alloc (.cells t 68)) w.heap.size (some []) := by
  subst ht
  exact ⟨[], [], .pointer none, rfl, by simp, ⟨List.length_replicate .., At.new w _ 68⟩, rfl⟩
theorem zcW0 : Tryd.zeroCells68 = (zeroW false).toArray := by kernel_rfl
/-- What stands ahead. -/
def encH (n b k : Nat) : List Int := lf (n : Int) 4 ++ lf (b : Int) 4 ++ lf (k : Int) 4
/-- A sidecar, written. -/
def encS (n b k : Nat) (ls ps : List (List Int)) : List Int := encH n b k ++ encLs ls ++ encLs ps
theorem encH_len (n b k : Nat) : (encH n b k).length = 12 := by simp [encH, lf_length]
/-- Bytes and no error, or none and one. -/
def EPost (w : World) (o : Option (List Int)) (e : Ending) (w' : World) : Prop := ∃ (v : Value) (n : Int), e = .returned (.tuple #[v, .int .i64 n]) ∧ Ext w w' ∧ (∀ m, o = some m → n = 0 ∧ Src w' v m w'.heap.size) ∧ (o = none → n = 1 ∧ v = .slice none 0 0)
def InvEn (w : World) (g : Nat) (vl vp : Value) (ls ps : List (List Int)) (h : List Int) (l : List (List Int)) (i : Value) (wr : World) : Prop :=
  ∃ j : Nat, j ≤ l.length ∧ i = .int .i64 j ∧ WSt wr g (some (h ++ encLs (l.take j))) ∧ Ext w wr ∧ LR wr vl ls g ∧ LR wr vp ps g

set_option maxHeartbeats 2000000 in
theorem encode_not (s : Sd) (vr vl vp : Value) (w : World) (hK : KAt w) (h : SR w s vr vl vp) (hll : s.leaves.length ≤ 9223372036854775807) (hlp : s.parity.length ≤ 9223372036854775807) (so : soundL s = false) :
    Calls Tryd.prog 13 #[.agg #[.int .i64 s.size, .int .i64 s.block, .int .i64 s.k, vr, vl, vp]] w (EPost w none) := by
  obtain ⟨adr, capr, ev⟩ := h.r.len
  subst ev
  obtain ⟨adl, capl, ev⟩ := h.l.len
  subst ev
  obtain ⟨adp, capp, ev⟩ := h.p.len
  subst ev
  obtain ⟨z, b, k, rt, ls, ps⟩ := s
  simp only at *
  obtain ⟨nr, hnr⟩ : ∃ n, n = rt.length := ⟨_, rfl⟩
  obtain ⟨nl, hnl⟩ : ∃ n, n = ls.length := ⟨_, rfl⟩
  obtain ⟨np, hnp⟩ : ∃ n, n = ps.length := ⟨_, rfl⟩
  rw [← hnr, ← hnl, ← hnp] at h ⊢
  have e0 : Ext w (w.alloc (.cells #[.int .i64 z, .int .i64 b, .int .i64 k, .slice adr nr capr, .slice adl nl capl, .slice adp np capp] 26)) := Ext.alloc w _
  have a0 := At.new w #[.int .i64 z, .int .i64 b, .int .i64 k, .slice adr nr capr, .slice adl nl capl, .slice adp np capp] 26
  have SO := sound_any ⟨z, b, k, rt, ls, ps⟩ _ _ _ _ (hK.below e0 hK.lt) (h.ext e0) hll hlp
  rw [so] at SO
  simp only at SO
  have f0 := a0.cell 0
  have f1 := a0.cell 1
  have f2 := a0.cell 2
  have f3 := a0.cell 3
  have f4 := a0.cell 4
  have f5 := a0.cell 5
  clear hnr hnl hnp hll hlp h
  go_enter Tryd.func13, Tryd.ntmps13
  go_wp2_with fail
  refine SO.mono ?_
  rintro e w1 ⟨rfl, e1⟩
  clear f0 f1 f2 f3 f4 f5
  go_wp2
  go_ret2
  exact ⟨_, _, rfl, e0.trans e1, fun m h => by simp at h, fun _ => ⟨rfl, rfl⟩⟩

set_option maxHeartbeats 8000000 in
set_option maxRecDepth 100000 in
theorem encode_ok (n b k : Nat) (rt : List Int) (ls ps : List (List Int)) (vr vl vp : Value) (w : World) (hK : KAt w) (h : SR w (⟨(n : Int), (b : Int), (k : Int), rt, ls, ps⟩ : Sd) vr vl vp) (so : soundL (⟨(n : Int), (b : Int), (k : Int), rt, ls, ps⟩ : Sd) = true) (hbd : (encS n b k ls ps).length ≤ 1000000) :
    Calls Tryd.prog 13 #[.agg #[.int .i64 (n : Int), .int .i64 (b : Int), .int .i64 (k : Int), vr, vl, vp]] w (EPost w (some (sealL (encS n b k ls ps)))) := by
  have so' := so
  unfold soundL at so'
  simp only [Bool.and_eq_true] at so'
  obtain ⟨⟨⟨hmay, hal⟩, hap⟩, _⟩ := so'
  have hm6 := (mayL_iff _ _ _).1 hmay
  have hl1 : ls.length ≤ 1000000000 := by have h1 := (allL_len hal).1; have := cntL_le n b; omega
  have hl2 : ps.length ≤ 1000000000 := by have h1 := (allL_len hap).1; have := grpsN_le n b k; omega
  have hlen : ∀ m, (m ∈ ls ∨ m ∈ ps) → m.length ≤ 1000000000 := fun m hm => by
    rcases hm with hm | hm
    · have := (allL_len hal).2 m hm; omega
    · have := (allL_len hap).2 m hm; omega
  obtain ⟨adr, capr, ev⟩ := h.r.len
  subst ev
  obtain ⟨adl, capl, ev⟩ := h.l.len
  subst ev
  obtain ⟨adp, capp, ev⟩ := h.p.len
  subst ev
  simp only at h ⊢
  obtain ⟨nr, hnr⟩ : ∃ n, n = rt.length := ⟨_, rfl⟩
  obtain ⟨nl, hnl⟩ : ∃ n, n = ls.length := ⟨_, rfl⟩
  obtain ⟨np, hnp⟩ : ∃ n, n = ps.length := ⟨_, rfl⟩
  rw [← hnr, ← hnl, ← hnp] at h ⊢
  have HNL := Lib.hid hnl
  have HNP := Lib.hid hnp
  have Hm := Lib.hid hm6
  have Hlen := Lib.hid hlen
  have Hbd := Lib.hid hbd
  have e0 : Ext w (w.alloc (.cells #[.int .i64 (n : Int), .int .i64 (b : Int), .int .i64 (k : Int), .slice adr nr capr, .slice adl nl capl, .slice adp np capp] 26)) := Ext.alloc w _
  have a0 := At.new w #[.int .i64 (n : Int), .int .i64 (b : Int), .int .i64 (k : Int), .slice adr nr capr, .slice adl nl capl, .slice adp np capp] 26
  have R0 := h.ext e0
  have SO := sound_any (⟨(n : Int), (b : Int), (k : Int), rt, ls, ps⟩ : Sd) _ _ _ _ (hK.below e0 hK.lt) R0 (by simp only; omega) (by simp only; omega)
  rw [so] at SO
  simp only at SO
  have hlb : nl ≤ 1000000000 := by omega
  have hpb : np ≤ 1000000000 := by omega
  have f0 := a0.cell 0
  have f1 := a0.cell 1
  have f2 := a0.cell 2
  have f3 := a0.cell 3
  have f4 := a0.cell 4
  have f5 := a0.cell 5
  clear hnr hnl hnp h hmay hal hap hm6 hlen hl1 hl2 hbd so
  go_enter Tryd.func13, Tryd.ntmps13
  go_wp2_with fail
  refine SO.mono ?_
  rintro e w1 ⟨rfl, e1⟩
  clear f0 f1 f2 f3 f4 f5
  have a1 := at_ext a0 e1
  have R1 := R0.ext e1
  have e01 := e0.trans e1
  have HB := Lib.hid (fun (w' : World) (hw' : Ext w1 w') => at_ext a1 hw')
  clear a0 R0 e0 e1 SO a1
  go_upto_region 4 with (fail)
  have H1 := wst_zero w1 Tryd.zeroCells68 zcW0
  have eA : Ext w1 (w1.alloc (.cells Tryd.zeroCells68 68)) := Ext.alloc w1 _
  have LA := R1.l.ext eA
  have PA := R1.p.ext eA
  obtain ⟨g, hgg⟩ : ∃ g, g = w1.heap.size := ⟨_, rfl⟩
  have hg : w1.heap.size ≤ g := by omega
  rw [← hgg] at H1 LA PA ⊢
  have Hgg := Lib.hid hgg; clear hgg
  generalize w1.alloc (.cells Tryd.zeroCells68 68) = w2 at *
  refine wp_region_held (S := Ext w1) (by kernel_rfl) ?_
  change wpAnyH _ _ _ _ _ _ _ _ w2.drew
  have S0 : Ext w1 w2.drew := eA.trans (Below.drew (Below.refl _ _))
  have L0 := LA.ext (Below.drew (Below.refl _ _) : Ext w2 w2.drew)
  have P0 := PA.ext (Below.drew (Below.refl _ _) : Ext w2 w2.drew)
  replace H1 := H1.below (Below.drew (Below.refl _ _) : Ext w2 w2.drew)
  simp only at L0 P0
  clear eA LA PA R1
  generalize w2.drew = W0 at *
  refine takeS 0 (some 14) (.pointer (some ⟨w.heap.size, 0, none⟩)) rfl rfl (by kernel_rfl) (by kernel_rfl) (by kernel_rfl) (fun _ _ _ h => h) rfl S0 (fun w' hw' => by go_simp) ?_
  simp only [Act.put, List.setIfInBounds_toArray, List.set_cons_zero, List.set_cons_succ]
  refine takeS 1 (some 15) (.int .i64 (n : Int)) rfl rfl (by kernel_rfl) (by kernel_rfl) (by kernel_rfl) (fun _ _ _ h => h) rfl S0 (fun w' hw' => by have cc : w'.cell? ⟨w.heap.size, 0, none⟩ = some (.int .i64 (n : Int)) := ((HB.out w' hw').cell 0).trans rfl; go_simp) ?_
  simp only [Act.put, List.setIfInBounds_toArray, List.set_cons_zero, List.set_cons_succ]
  refine takeS 3 (some 17) (.pointer (some ⟨w.heap.size, 1, none⟩)) rfl rfl (by kernel_rfl) (by kernel_rfl) (by kernel_rfl) (fun _ _ _ h => h) rfl S0 (fun w' hw' => by go_simp) ?_
  simp only [Act.put, List.setIfInBounds_toArray, List.set_cons_zero, List.set_cons_succ]
  refine takeS 4 (some 18) (.int .i64 (b : Int)) rfl rfl (by kernel_rfl) (by kernel_rfl) (by kernel_rfl) (fun _ _ _ h => h) rfl S0 (fun w' hw' => by have cc : w'.cell? ⟨w.heap.size, 1, none⟩ = some (.int .i64 (b : Int)) := ((HB.out w' hw').cell 1).trans rfl; go_simp) ?_
  simp only [Act.put, List.setIfInBounds_toArray, List.set_cons_zero, List.set_cons_succ]
  refine takeS 6 (some 20) (.pointer (some ⟨w.heap.size, 2, none⟩)) rfl rfl (by kernel_rfl) (by kernel_rfl) (by kernel_rfl) (fun _ _ _ h => h) rfl S0 (fun w' hw' => by go_simp) ?_
  simp only [Act.put, List.setIfInBounds_toArray, List.set_cons_zero, List.set_cons_succ]
  refine takeS 7 (some 21) (.int .i64 (k : Int)) rfl rfl (by kernel_rfl) (by kernel_rfl) (by kernel_rfl) (fun _ _ _ h => h) rfl S0 (fun w' hw' => by have cc : w'.cell? ⟨w.heap.size, 2, none⟩ = some (.int .i64 (k : Int)) := ((HB.out w' hw').cell 2).trans rfl; go_simp) ?_
  simp only [Act.put, List.setIfInBounds_toArray, List.set_cons_zero, List.set_cons_succ]
  refine nextS 2 rfl (by kernel_rfl) rfl (callS (some 16) rfl 39 #[.pointer (some ⟨g, 0, none⟩), .int .i64 (n : Int)] (by go_simp) (fun v w' => v = .pointer (some ⟨g, 0, none⟩) ∧ Only g W0 w' ∧ WSt w' g (some ([] ++ lf (n : Int) 4))) ((wnum_any g (some ([])) n W0 H1 (fits_some _ 4 (by simp [lf_length]))).mono fun _ _ he => ⟨_, he.1, rfl, he.2.1, by rw [← wNum_some _ n (by have := Hm.out; omega)]; exact he.2.2⟩) ?_)
  rintro v1 W1 ⟨rfl, o1, H2⟩
  simp only [Act.put, List.setIfInBounds_toArray, List.set_cons_zero, List.set_cons_succ]
  have S1 := ext_only' S0 o1 hg
  have L1 := lr_kept.keep L0 L0 o1
  have P1 := lr_kept.keep P0 P0 o1
  clear o1 H1 S0 L0 P0
  refine ⟨S1, ?_⟩
  refine nextS 5 rfl (by kernel_rfl) rfl (callS (some 19) rfl 39 #[.pointer (some ⟨g, 0, none⟩), .int .i64 (b : Int)] (by go_simp) (fun v w' => v = .pointer (some ⟨g, 0, none⟩) ∧ Only g W1 w' ∧ WSt w' g (some (([] ++ lf (n : Int) 4) ++ lf (b : Int) 4))) ((wnum_any g (some (([] ++ lf (n : Int) 4))) b W1 H2 (fits_some _ 4 (by simp [lf_length]))).mono fun _ _ he => ⟨_, he.1, rfl, he.2.1, by rw [← wNum_some _ b (by have := Hm.out; omega)]; exact he.2.2⟩) ?_)
  rintro v2 W2 ⟨rfl, o2, H3⟩
  simp only [Act.put, List.setIfInBounds_toArray, List.set_cons_zero, List.set_cons_succ]
  have S2 := ext_only' S1 o2 hg
  have L2 := lr_kept.keep L1 L1 o2
  have P2 := lr_kept.keep P1 P1 o2
  clear o2 H2 S1 L1 P1
  refine ⟨S2, ?_⟩
  refine nextS 8 rfl (by kernel_rfl) rfl (callS (some 22) rfl 39 #[.pointer (some ⟨g, 0, none⟩), .int .i64 (k : Int)] (by go_simp) (fun v w' => v = .pointer (some ⟨g, 0, none⟩) ∧ Only g W2 w' ∧ WSt w' g (some ((([] ++ lf (n : Int) 4) ++ lf (b : Int) 4) ++ lf (k : Int) 4))) ((wnum_any g (some ((([] ++ lf (n : Int) 4) ++ lf (b : Int) 4))) k W2 H3 (fits_some _ 4 (by simp [lf_length]))).mono fun _ _ he => ⟨_, he.1, rfl, he.2.1, by rw [← wNum_some _ k (by have := Hm.out; omega)]; exact he.2.2⟩) ?_)
  rintro v3 W3 ⟨rfl, o3, H4⟩
  simp only [Act.put, List.setIfInBounds_toArray, List.set_cons_zero, List.set_cons_succ]
  have S3 := ext_only' S2 o3 hg
  have L3 := lr_kept.keep L2 L2 o3
  have P3 := lr_kept.keep P2 P2 o3
  clear o3 H3 S2 L2 P2
  refine ⟨S3, ?_⟩
  refine wpAnyH_done (by kernel_rfl) ?_ _
  rw [List.nil_append] at H4
  have aW := HB.out W3 S3
  have f4 := aW.cell 4
  have HW : Hid (WSt W3 g (some (encH n b k))) := Lib.hid H4
  have SW := S3
  have LW := L3
  have PW := P3
  clear H4 S3 L3 P3
  obtain ⟨vl, hvl⟩ : ∃ v, v = Value.slice adl nl capl := ⟨_, rfl⟩
  obtain ⟨vp, hvp⟩ : ∃ v, v = Value.slice adp np capp := ⟨_, rfl⟩
  rw [← hvl] at LW
  rw [← hvp] at PW
  have Hvl := Lib.hid hvl
  have Hvp := Lib.hid hvp
  clear hvl hvp
  go_wp2
  clear f4 aW
  go_loopw [26] (fun i wr => InvEn w1 g vl vp ls ps (encH n b k) ls i wr) (fun i _ => nl - (intOf i).toNat)
  case atStart => exact ⟨0, by omega, rfl, by rw [List.take_zero, encLs_nil, List.append_nil]; exact HW.out, SW, LW, PW⟩
  case round =>
    clear LW PW SW HW
    obtain ⟨j, hj, rfl, hw, sx, lx, px⟩ := hrel
    rw [← HNL.out] at hj
    by_cases hlt : j < nl
    · obtain ⟨m1, hm1⟩ : ∃ m, ls[j]? = some m := ⟨_, List.getElem?_eq_getElem (by rw [← HNL.out]; exact hlt)⟩
      have hv := (Hvl.out ▸ lx : LR wr (.slice adl nl capl) ls g)
      obtain ⟨cap1, pb, po, ev1, _, hc1⟩ := lr_at hv (by rw [← HNL.out]; omega)
      rw [← HNL.out] at ev1
      injection ev1 with a1 _ a2
      subst a1 a2
      obtain ⟨x1, c1, s1⟩ := hc1 j m1 hm1
      have i0 : (j : Int) < (nl : Int) := by omega
      have hb1 := Hlen.out m1 (Or.inl (List.mem_of_getElem? hm1))
      have hf := enc_fits (encH n b k) ls j m1 hm1 (by have := Hbd.out; unfold encS at this; simp only [List.length_append] at *; omega)
      have Hs := Lib.hid (enc_step ls j m1 hm1)
      have Hw := Lib.hid hw
      clear hv hc1 hw hm1
      go_wp2_with fail
      refine (wbytes_any g _ m1 x1 wr Hw.out hf hb1 s1).mono ?_
      rintro e w9 ⟨rfl, o9, h9⟩
      rw [oadd, Option.map_some, List.append_assoc, Hs.out] at h9
      have s9 := ext_only' sx o9 hg
      have l9 := lr_kept.keep lx lx o9
      have p9 := lr_kept.keep px px o9
      have H9 := Lib.hid h9
      clear h9 o9 Hw hf
      go_wp2
      exact ⟨⟨j + 1, by rw [← HNL.out]; omega, by go_num, H9.out, s9, l9, p9⟩, by simp [intOf]; omega⟩
    · obtain rfl : nl = j := by omega
      rw [List.take_of_length_le (by rw [← HNL.out]; exact Nat.le_refl _)] at hw
      have HW : Hid (WSt wr g (some (encH n b k ++ encLs ls))) := Lib.hid hw
      have SW := sx
      have LW := lx
      have PW := px
      clear hw sx lx px hlt hj
      obtain ⟨wq, rfl⟩ : ∃ V, V = wr := ⟨_, rfl⟩
      have aW := HB.out wq SW
      have f5 := aW.cell 5
      go_wp2
      clear f5 aW
      go_loopw [36] (fun i wr => InvEn w1 g vl vp ls ps (encH n b k ++ encLs ls) ps i wr) (fun i _ => np - (intOf i).toNat)
      case atStart => exact ⟨0, by omega, rfl, by rw [List.take_zero, encLs_nil, List.append_nil]; exact HW.out, SW, LW, PW⟩
      case round =>
        clear LW PW SW HW
        obtain ⟨j, hj, rfl, hw, sx, lx, px⟩ := hrel
        rw [← HNP.out] at hj
        by_cases hlt : j < np
        · obtain ⟨m1, hm1⟩ : ∃ m, ps[j]? = some m := ⟨_, List.getElem?_eq_getElem (by rw [← HNP.out]; exact hlt)⟩
          have hv := (Hvp.out ▸ px : LR wr (.slice adp np capp) ps g)
          obtain ⟨cap1, pb, po, ev1, _, hc1⟩ := lr_at hv (by rw [← HNP.out]; omega)
          rw [← HNP.out] at ev1
          injection ev1 with a1 _ a2
          subst a1 a2
          obtain ⟨x1, c1, s1⟩ := hc1 j m1 hm1
          have i0 : (j : Int) < (np : Int) := by omega
          have hb1 := Hlen.out m1 (Or.inr (List.mem_of_getElem? hm1))
          have hf := enc_fits (encH n b k ++ encLs ls) ps j m1 hm1 (by have := Hbd.out; unfold encS at this; simp only [List.length_append] at *; omega)
          have Hs := Lib.hid (enc_step ps j m1 hm1)
          have Hw := Lib.hid hw
          clear hv hc1 hw hm1
          go_wp2_with fail
          refine (wbytes_any g _ m1 x1 wr Hw.out hf hb1 s1).mono ?_
          rintro e w9 ⟨rfl, o9, h9⟩
          rw [oadd, Option.map_some, List.append_assoc, Hs.out] at h9
          have s9 := ext_only' sx o9 hg
          have l9 := lr_kept.keep lx lx o9
          have p9 := lr_kept.keep px px o9
          have H9 := Lib.hid h9
          clear h9 o9 Hw hf
          go_wp2
          exact ⟨⟨j + 1, by rw [← HNP.out]; omega, by go_num, H9.out, s9, l9, p9⟩, by simp [intOf]; omega⟩
        · obtain rfl : np = j := by omega
          rw [List.take_of_length_le (by rw [← HNP.out]; exact Nat.le_refl _)] at hw
          have Hw := Lib.hid hw
          clear hw lx px hlt hj
          go_wp2_with fail
          refine (done_any g _ wr Hw.out (by have := Hbd.out; unfold encS at this; exact this)).mono ?_
          rintro e w5 ⟨v5, rfl, e5, o5⟩
          have s5 := sx.trans e5
          have q5 := o5.srcs _ (Or.inr (Nat.le_refl _))
          clear o5 e5
          go_wp2_with fail
          refine (seal_any v5 _ w5 (hK.below (e01.trans s5) hK.lt) q5 (by have := Hbd.out; unfold encS at this; omega)).mono ?_
          rintro e w6 ⟨v6, rfl, e6, o6⟩
          go_wp2
          go_ret2
          exact ⟨_, _, rfl, (e01.trans s5).trans e6, fun m h => by injection h with h; subst h; exact ⟨rfl, o6.srcs _ (Or.inr (Nat.le_refl _))⟩, fun h => by simp at h⟩
end Go.Proofs.YtfhgoedonjcekaaDoor
