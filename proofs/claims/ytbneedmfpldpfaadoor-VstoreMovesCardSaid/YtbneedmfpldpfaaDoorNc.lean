/- Contract of resize. -/
import Derived.Test.YtbneedmfpldpfaaDoorNb
namespace Go.Proofs.YtbneedmfpldpfaaDoor
open Go.RowKit Go.Pth

theorem take_at {P : Program} {ops : Array Oper} {Q : Exit → Act → World → Prop} {md : Region.Mode} (i : Nat) (d : Option Tmp) (v : Value) {oi : Oper} {fuel : Nat} {listed : Array Bool} {a : Act} {w : World} (hi : ops[i]? = some oi) (hd : oi.dst = d)
    (hs : Region.noSelect ops = true) (hf : Region.free md ops listed i = true) (hr : (Region.ready md ops listed).contains i = true)
    (hQ : ∀ c a w, Q (.panic c) (a.put d v) w → Q (.panic c) a w) (hg : oi.guard = none) (hy : ∀ w, (execOp a.eval oi).run P w = .ok (.value v) w)
    (h : wpAny P md ops Q fuel (listed.setIfInBounds i true) (a.put d v) w) : wpAny P md ops Q (fuel + 1) listed a w := by
  subst hd
  exact wpAny_take hi hs hf hr hQ (Or.inl ⟨by simp [Region.wanted, hg], hy⟩) h
/-- Just one may come up. -/
theorem next_one {P : Program} {ops : Array Oper} {Q : Exit → Act → World → Prop} {md : Region.Mode} (i : Nat) {oi : Oper} {fuel : Nat} {listed : Array Bool} {a : Act} {w : World} (hi : ops[i]? = some oi)
    (hr : Region.ready md ops listed = [i]) (hg : oi.guard = none)
    (h : ∀ K : Act → World → Prop, (∀ a w, wpAny P md ops Q fuel (listed.setIfInBounds i true) a w → K a w) → oi.wp P a w K Q) : wpAny P md ops Q (fuel + 1) listed a w := by
  refine wpAny_ready hr (by simp) (AllReady.cons hi (fun K hK => ?_) AllReady.nil)
  rw [if_pos (by simp [Region.wanted, hg])]
  exact h K hK
/-- One of two may come up. -/
theorem next_two {P : Program} {ops : Array Oper} {Q : Exit → Act → World → Prop} {md : Region.Mode} (i j : Nat) {oi oj : Oper} {fuel : Nat} {listed : Array Bool} {a : Act} {w : World} (hi : ops[i]? = some oi) (hj : ops[j]? = some oj)
    (hr : Region.ready md ops listed = [i, j]) (hgi : oi.guard = none) (hgj : oj.guard = none)
    (h1 : ∀ K : Act → World → Prop, (∀ a w, wpAny P md ops Q fuel (listed.setIfInBounds i true) a w → K a w) → oi.wp P a w K Q)
    (h2 : ∀ K : Act → World → Prop, (∀ a w, wpAny P md ops Q fuel (listed.setIfInBounds j true) a w → K a w) → oj.wp P a w K Q) : wpAny P md ops Q (fuel + 1) listed a w := by
  refine wpAny_ready hr (by simp) (AllReady.cons hi (fun K hK => ?_) (AllReady.cons hj (fun K hK => ?_) AllReady.nil))
  · rw [if_pos (by simp [Region.wanted, hgi])]
    exact h1 K hK
  · rw [if_pos (by simp [Region.wanted, hgj])]
    exact h2 K hK
/-- An operation that yields; one that stores. -/
theorem runV {P : Program} {op : Oper} {a : Act} {w : World} {K : Act → World → Prop} {Q : Exit → Act → World → Prop} (d : Option Tmp) (hd : op.dst = d) (v : Value) (w1 : World) (hr : (execOp a.eval op).run P w = .ok (.value v) w1) (h : K (a.put d v) w1) : op.wp P a w K Q := by
  subst hd
  unfold Oper.wp
  rw [hr]
  exact h
theorem runN {P : Program} {op : Oper} {a : Act} {w : World} {K : Act → World → Prop} {Q : Exit → Act → World → Prop} (hd : op.dst = none) (w1 : World) (hr : (execOp a.eval op).run P w = .ok .skip w1) (h : K a w1) : op.wp P a w K Q := by
  unfold Oper.wp
  rw [hr]
  show K (a.put op.dst undef) _
  rw [hd]
  exact h

set_option maxRecDepth 100000 in
set_option maxHeartbeats 4000000 in
theorem resize_any (a : Nat) (N : NV) (V : Vs) (n : Nat) (w : World) (h : NdIn w a N V) (ok : N.Ok) (hn : n ≤ 65536) :
    Calls Tryd.prog 53 #[ptr a, .int .i64 n] w fun e w' => e = .returned (.tuple #[]) ∧ ∃ V', NdIn w' a (N.resize n) V' ∧ NdTo w w' a V V' := by
  have hkl : N.kept.length ≤ 65536 := by rw [ok.kl]; exact ok.len
  have hll : N.loose.length ≤ 65536 := by rw [ok.ll]; have := ok.len; unfold secs; omega
  have hnl := ok.len
  have HN := Lib.hid hnl; have HK := Lib.hid hkl; have HL := Lib.hid hll
  have H := Lib.hid h
  clear hkl hll hnl
  unfold ptr
  have c3 := h.c 3
  simp only [ncells] at c3
  clear h ok
  have f1 := Lib.hid (fun (V : Vs) (w : World) (h : NdIn w a N V) => fitb_any V.n N.now n w h.n HN.out hn)
  go_enter Tryd.func53, Tryd.ntmps53
  go_wp2_with fail
  refine (f1.out V w H.out).mono ?_
  rintro e w1 ⟨v1, rfl, r1, g1⟩
  obtain ⟨d1, k1, rfl, -⟩ := r1.shape
  have S1 := H.out.setN (l' := fitL N.now n 0) (by rw [fitL_len]; exact r1) g1
  have fz := (g1.chg.at H.out.cells H.out.an).frozen 3
  have cc := (g1.chg.at H.out.cells H.out.an).cell 3
  simp only [ncells] at cc
  have c4 := S1.1.c 4
  simp only [ncells] at c4
  have H1 := Lib.hid S1
  clear S1 r1 g1 c3 f1
  have f2 := Lib.hid (fun (V : Vs) (w : World) (h : NdIn w a { N with now := fitL N.now n 0 } V) => fitb_any V.k N.kept n w h.k HK.out hn)
  go_wp2_with fail
  refine (f2.out _ _ H1.out.1).mono ?_
  rintro e w2 ⟨v2, rfl, r2, g2⟩
  obtain ⟨d2, k2, rfl, -⟩ := r2.shape
  have S2 := H1.out.1.setK (l' := fitL N.kept n 0) (by rw [fitL_len]; exact r2) g2
  have fz2 := (g2.chg.at H1.out.1.cells H1.out.1.ak).frozen 4
  have cc2 := (g2.chg.at H1.out.1.cells H1.out.1.ak).cell 4
  simp only [ncells] at cc2
  have c5 := S2.1.c 5
  simp only [ncells] at c5
  have H2 := Lib.hid (⟨S2.1, H1.out.2.trans S2.2⟩ : _ ∧ _)
  clear S2 r2 g2 c4 f2 cc fz H1
  go_upto_region 2 with fail
  generalize w2.setCell ⟨a, 4, none⟩ (.slice d2 n k2) = W at *
  clear cc2 fz2
  have cd : W.drew.cell? ⟨a, 5, none⟩ = some V.l := by rw [show W.drew.cell? ⟨a, 5, none⟩ = W.cell? ⟨a, 5, none⟩ from rfl, c5]; rfl
  have nd : Hid (NdIn W.drew a { N with now := fitL N.now n 0, kept := fitL N.kept n 0 } { V with n := .slice d1 n k1, k := .slice d2 n k2 }) := Lib.hid (H2.out.1.ext (Ext.drew W))
  have hsec : secs n ≤ 65536 := by unfold secs; omega
  refine wp_region_any (by kernel_rfl) ?_
  change wpAny _ _ _ _ _ _ _ (World.drew _)
  generalize hWd : W.drew = Wd at *
  refine take_at 0 (some 22) (.pointer (some ⟨a, 0, none⟩)) rfl rfl (by kernel_rfl) (by kernel_rfl) (by kernel_rfl) (fun _ _ _ h => h) rfl (fun _ => by go_simp) ?_
  simp only [Act.put, List.setIfInBounds_toArray, List.set_cons_zero, List.set_cons_succ]
  refine take_at 1 (some 23) (.pointer (some ⟨a, 0, none⟩)) rfl rfl (by kernel_rfl) (by kernel_rfl) (by kernel_rfl) (fun _ _ _ h => h) rfl (fun _ => by go_simp) ?_
  simp only [Act.put, List.setIfInBounds_toArray, List.set_cons_zero, List.set_cons_succ]
  refine take_at 2 (some 24) (.pointer (some ⟨a, 0, none⟩)) rfl rfl (by kernel_rfl) (by kernel_rfl) (by kernel_rfl) (fun _ _ _ h => h) rfl (fun _ => by go_simp) ?_
  simp only [Act.put, List.setIfInBounds_toArray, List.set_cons_zero, List.set_cons_succ]
  refine take_at 3 (some 25) (.pointer (some ⟨a, 5, none⟩)) rfl rfl (by kernel_rfl) (by kernel_rfl) (by kernel_rfl) (fun _ _ _ h => h) rfl (fun _ => by go_simp) ?_
  simp only [Act.put, List.setIfInBounds_toArray, List.set_cons_zero, List.set_cons_succ]
  refine take_at 5 (some 27) (.int .i64 n) rfl rfl (by kernel_rfl) (by kernel_rfl) (by kernel_rfl) (fun _ _ _ h => h) rfl (fun _ => by go_simp) ?_
  simp only [Act.put, List.setIfInBounds_toArray, List.set_cons_zero, List.set_cons_succ]
  refine next_two 4 6 rfl rfl (by kernel_rfl) rfl rfl (fun K hK => ?_) (fun K hK => ?_)
  · (refine runV (some 26) rfl V.l Wd (by go_simp) ?_; refine hK _ _ ?_; clear hK K; simp only [Act.put, List.setIfInBounds_toArray, List.set_cons_zero, List.set_cons_succ])
    refine next_one 6 rfl (by kernel_rfl) rfl (fun K hK => ?_)
    (refine callS (some 28) rfl 54 #[.int .i64 n] (by go_simp) (fun v w' => v = .int .i64 (secs n) ∧ Wd = w') ((sectors_any n _ (by omega)).mono fun e w' he => ⟨_, he.1, rfl, he.2⟩) ?_; rintro v3 w3 ⟨rfl, rfl⟩; refine hK _ _ ?_; clear hK K; simp only [Act.put, List.setIfInBounds_toArray, List.set_cons_zero, List.set_cons_succ])
    refine next_one 7 rfl (by kernel_rfl) rfl (fun K hK => ?_)
    refine callS (some 29) rfl 71 #[V.l, .int .i64 (secs n)] (by go_simp) (fun v' w' => Row w' 4 1 v' (secs n) (bls (fitL N.loose (secs n) false)) ∧ Grew Wd w' V.l v') ((fitl_any V.l N.loose (secs n) Wd nd.out.l HL.out hsec).mono fun e w' he => he) ?_
    rintro v4 w4 ⟨r4, g4⟩
    refine hK _ _ ?_
    clear hK K
    have at4 := g4.chg.at nd.out.cells nd.out.al
    have c54 := at4.cell 5
    have f54 := at4.frozen 5
    simp only [ncells] at c54
    have S4 := Lib.hid (nd.out.setL (l' := fitL N.loose (secs n) false) (by rw [fitL_len]; exact r4) g4)
    obtain ⟨d4, k4, rfl, -⟩ := r4.shape
    clear at4 r4 g4
    simp only [Act.put, List.setIfInBounds_toArray, List.set_cons_zero, List.set_cons_succ]
    refine take_at 8 (some 30) (.pointer (some ⟨a, 0, none⟩)) rfl rfl (by kernel_rfl) (by kernel_rfl) (by kernel_rfl) (fun _ _ _ h => h) rfl (fun _ => by go_simp) ?_
    simp only [Act.put, List.setIfInBounds_toArray, List.set_cons_zero, List.set_cons_succ]
    refine take_at 9 (some 31) (.pointer (some ⟨a, 5, none⟩)) rfl rfl (by kernel_rfl) (by kernel_rfl) (by kernel_rfl) (fun _ _ _ h => h) rfl (fun _ => by go_simp) ?_
    simp only [Act.put, List.setIfInBounds_toArray, List.set_cons_zero, List.set_cons_succ]
    refine next_one 10 rfl (by kernel_rfl) rfl (fun K hK => ?_)
    refine runN rfl (w4.setCell ⟨a, 5, none⟩ (.slice d4 (secs n) k4)) (by go_simp) ?_
    refine hK _ _ ?_
    clear hK K
    refine wpAny_done (by kernel_rfl) ?_ _
    go_wp2
    go_end0
    exact ⟨rfl, _, S4.out.1, (H2.out.2.trans (by rw [← hWd]; exact ⟨Chg.of_ext (Ext.drew W), fun i hi => Or.inl hi⟩)).trans S4.out.2⟩
  · (refine callS (some 28) rfl 54 #[.int .i64 n] (by go_simp) (fun v w' => v = .int .i64 (secs n) ∧ Wd = w') ((sectors_any n _ (by omega)).mono fun e w' he => ⟨_, he.1, rfl, he.2⟩) ?_; rintro v3 w3 ⟨rfl, rfl⟩; refine hK _ _ ?_; clear hK K; simp only [Act.put, List.setIfInBounds_toArray, List.set_cons_zero, List.set_cons_succ])
    refine next_one 4 rfl (by kernel_rfl) rfl (fun K hK => ?_)
    (refine runV (some 26) rfl V.l Wd (by go_simp) ?_; refine hK _ _ ?_; clear hK K; simp only [Act.put, List.setIfInBounds_toArray, List.set_cons_zero, List.set_cons_succ])
    refine next_one 7 rfl (by kernel_rfl) rfl (fun K hK => ?_)
    refine callS (some 29) rfl 71 #[V.l, .int .i64 (secs n)] (by go_simp) (fun v' w' => Row w' 4 1 v' (secs n) (bls (fitL N.loose (secs n) false)) ∧ Grew Wd w' V.l v') ((fitl_any V.l N.loose (secs n) Wd nd.out.l HL.out hsec).mono fun e w' he => he) ?_
    rintro v4 w4 ⟨r4, g4⟩
    refine hK _ _ ?_
    clear hK K
    have at4 := g4.chg.at nd.out.cells nd.out.al
    have c54 := at4.cell 5
    have f54 := at4.frozen 5
    simp only [ncells] at c54
    have S4 := Lib.hid (nd.out.setL (l' := fitL N.loose (secs n) false) (by rw [fitL_len]; exact r4) g4)
    obtain ⟨d4, k4, rfl, -⟩ := r4.shape
    clear at4 r4 g4
    simp only [Act.put, List.setIfInBounds_toArray, List.set_cons_zero, List.set_cons_succ]
    refine take_at 8 (some 30) (.pointer (some ⟨a, 0, none⟩)) rfl rfl (by kernel_rfl) (by kernel_rfl) (by kernel_rfl) (fun _ _ _ h => h) rfl (fun _ => by go_simp) ?_
    simp only [Act.put, List.setIfInBounds_toArray, List.set_cons_zero, List.set_cons_succ]
    refine take_at 9 (some 31) (.pointer (some ⟨a, 5, none⟩)) rfl rfl (by kernel_rfl) (by kernel_rfl) (by kernel_rfl) (fun _ _ _ h => h) rfl (fun _ => by go_simp) ?_
    simp only [Act.put, List.setIfInBounds_toArray, List.set_cons_zero, List.set_cons_succ]
    refine next_one 10 rfl (by kernel_rfl) rfl (fun K hK => ?_)
    refine runN rfl (w4.setCell ⟨a, 5, none⟩ (.slice d4 (secs n) k4)) (by go_simp) ?_
    refine hK _ _ ?_
    clear hK K
    refine wpAny_done (by kernel_rfl) ?_ _
    go_wp2
    go_end0
    exact ⟨rfl, _, S4.out.1, (H2.out.2.trans (by rw [← hWd]; exact ⟨Chg.of_ext (Ext.drew W), fun i hi => Or.inl hi⟩)).trans S4.out.2⟩
end Go.Proofs.YtbneedmfpldpfaaDoor
