/- The contract of the document's own Bad. -/
import Derived.Test.YtdohngjhfonifaaDoorQb
namespace Go.Proofs.YtdohngjhfonifaaDoor
open Go.RowKit Go.Sha
set_option linter.unusedSimpArgs false

/-- Numbers in new memory. -/
def IRB (w : World) (base : Nat) (v : Value) (l : List Int) : Prop := ∃ ad cap pb po, v = .slice ad l.length cap ∧ (0 < l.length → ad = some ⟨pb, po, none⟩) ∧ base ≤ pb ∧ ∀ j a, l[j]? = some a → w.cell? ⟨pb, po + j, none⟩ = some (.int .i64 a)
def DPost2 (w : World) (l : List Int) (e : Ending) (w' : World) : Prop := ∃ v, e = .returned v ∧ Ext w w' ∧ IRB w' w.heap.size v l
theorem own_irb {w : World} {base : Nat} {v : Value} {ps : List (Value × Int)} (h : OwnI w base v ps (fun _ => False)) : IRB w base v (ps.map (·.2)) := by
  obtain ⟨ad, cap, pb, po, ev, h1, h3⟩ := own_ir h
  by_cases hm : 0 < (ps.map (·.2)).length
  · obtain rfl := h1 hm
    refine ⟨_, cap, pb, po, ev, fun _ => rfl, ?_, h3⟩
    subst ev
    exact (h.block pb rfl).1
  · refine ⟨ad, cap, base, po, ev, fun h => absurd h hm, Nat.le_refl _, fun j a hj => ?_⟩
    have := (List.getElem?_eq_some_iff.1 hj).1
    omega
theorem IRB.ir {w : World} {base : Nat} {v : Value} {l : List Int} (h : IRB w base v l) : IR w v l := by
  obtain ⟨ad, cap, pb, po, h1, h2, _, h4⟩ := h
  exact ⟨ad, cap, pb, po, h1, h2, h4⟩

set_option maxHeartbeats 4000000 in
set_option maxRecDepth 100000 in
theorem rbad_any2 (v : Value) (m : List Int) (B : Int) (vl : Value) (leaves : List (List Int)) (w : World) (hs : Src w v m w.heap.size) (hl : LR w vl leaves w.heap.size) (hm : m.length ≤ 20000) (hll : leaves.length ≤ 1000000000) :
    Calls Tryd.prog 20 #[v, .int .i64 B, vl] w (DPost2 w (badL m B leaves)) := by
  obtain ⟨ad, cap, ev⟩ := hs.len
  subst ev
  obtain ⟨adv, capl, ev⟩ := hl.len
  subst ev
  obtain ⟨C, hC⟩ : ∃ n : Nat, cntL m.length B = n := Int.eq_ofNat_of_zero_le (cntL_nonneg _ _)
  have hnb : C ≤ 1048576 := by have := cntL_le m.length B; omega
  have hbl : badL m B leaves = badN m B leaves C := by rw [badL, hC, Int.toNat_natCast]
  rw [hbl]
  clear hbl
  obtain ⟨n, hn⟩ : ∃ n, n = m.length := ⟨_, rfl⟩
  have Hn := Lib.hid hn
  obtain ⟨N, hN⟩ : ∃ N, N = leaves.length := ⟨_, rfl⟩
  have HN := Lib.hid hN
  rw [← hn] at hs hm hC ⊢
  rw [← hN] at hl hll ⊢
  clear hn hN
  have CC := Lib.hid (fun w => cntR n B w)
  rw [hC] at CC
  have HCn := Lib.hid hC; clear hC
  have HS := Lib.hid hs; clear hs
  have HL := Lib.hid hl; clear hl
  go_enter Tryd.func20, Tryd.ntmps20
  go_wp2
  go_loopw [7, 8] (fun l i wr => InvBad w m B leaves C l i wr) (fun _ i _ => C - (intOf i).toNat)
  case atStart => exact ⟨0, [], by omega, rfl, by simp, by simp [badN], OwnG.nil _ _ _ _ _, Ext.refl w⟩
  case round =>
    obtain ⟨k, ps, hk, rfl, hpl, hps, ow, ex⟩ := hrel
    obtain ⟨adl, capq, el⟩ := ow.len
    subst el
    obtain ⟨q, hq⟩ : ∃ q, q = ps.length := ⟨_, rfl⟩
    rw [← hq] at ow hpl ⊢
    have Hq := Lib.hid hq; clear hq
    go_wp2_with fail
    refine (CC.out wr).mono ?_
    rintro e w' ⟨rfl, rfl⟩
    by_cases hlt : k < C
    · have i0 : (k : Int) < (C : Int) := by omega
      have i1 : (0 : Int) ≤ (k : Int) := by omega
      have hds := badN_succ m B leaves k
      rw [← hps] at hds
      by_cases hA : N ≤ k
      · have hbb : badB m B leaves k = true := by
          unfold badB goodL
          have : ¬ (k < leaves.length) := by rw [← HN.out]; omega
          simp [this]
        rw [hbb, if_pos rfl] at hds
        have Hds := Lib.hid hds; clear hds hbb
        have i2 : (N : Int) ≤ (k : Int) := by omega
        have d2 : decide ((N : Int) ≤ (k : Int)) = true := by simpa using i2
        have d3 : decide (N ≤ k) = true := by simpa using hA
        clear hA
        go_wp2
        go_quiet (fail)
        have ow0 : OwnI (wr.drewN nq) w.heap.size (.slice adl q capq) ps (fun _ => False) := ow.ext ri_kept (belowN (Below.refl _ _) _)
        have S0 : Ext w (wr.drewN nq) := belowN ex _
        generalize wr.drewN nq = W at *
        have cI := cell_one W (.int .i64 (k : Int)) 3
        have S3 : Ext w (W.alloc (.cells #[.int .i64 (k : Int)] 3)) := Ext.trans S0 (Ext.alloc W _)
        go_wp2_with (refine list_append_g ri_kept rfl (.tmp 35) (.tmp 37) 47 rfl (.int .i64 0) 8 Tryd.underlying47 u3zero rfl (by omega) w.heap.size (.slice adl q capq) ps (fun _ => False) rfl (own_one ri_kept ow0 _ 3) W.heap.size 1 _ (k : Int) rfl cI rfl (fun _ _ => rfl) (by have := Hq.out; omega) S3.size ?_; intro v3 w4 o3 b3)
        have S4 : Ext w w4 := Below.trans S3 b3
        exact ⟨⟨k + 1, _, by omega, by go_num, by have := Hq.out; simp; omega, by rw [Hds.out, List.map_append]; rfl, o3, S4⟩, by simp [intOf]; omega⟩
      · have hl' := HL.out
        rw [HN.out] at hl'
        obtain ⟨cap1, pb, po, ev1, _, hc1⟩ := lr_at hl' (by rw [← HN.out]; omega)
        injection ev1 with q1 _ q2
        subst q1 q2
        obtain ⟨m1, hm1⟩ : ∃ m, leaves[k]? = some m := ⟨_, List.getElem?_eq_getElem (by rw [← HN.out]; omega)⟩
        obtain ⟨x1, c1, s1⟩ := hc1 k m1 hm1
        have hc : ∀ w', Ext w w' → w'.cell? ⟨pb, po + k, none⟩ = some x1 := fun w' h => by rw [Below.cell (p := ⟨pb, po + k, none⟩) h (World.block_lt_of_cell? w _ c1)]; exact c1
        have HC := Lib.hid hc
        have hbb : badB m B leaves k = !(eqS (leafL (blockT m B k)) m1) := by
          unfold badB goodL
          rw [hm1, ← HN.out]
          simp [show k < N by omega]
        rw [hbb] at hds
        obtain ⟨E, hE⟩ : ∃ E, E = eqS (leafL (blockT m B k)) m1 := ⟨_, rfl⟩
        rw [← hE] at hds
        unfold eqS at hE
        have hv : ∀ w', Ext w w' → (convert 22 9 x1).run Tryd.prog w' = .ok (.string (strOfNums m1)) w' := fun w' h => convB (s1.ext h)
        obtain ⟨Bs, hBs⟩ : ∃ x, x = strOfNums m1 := ⟨_, rfl⟩
        obtain ⟨As, hAs⟩ : ∃ x, x = strOfNums (leafL (blockT m B k)) := ⟨_, rfl⟩
        rw [← hBs] at hv hE
        rw [← hAs] at hE
        have HAs := Lib.hid hAs
        have HV := Lib.hid hv
        have hE' : (As.toList == Bs.toList) = E := hE.symm
        clear hE hbb hc hc1 hm1 hl' c1 hv hBs hAs s1
        have i2 : (k : Int) < (N : Int) := by omega
        have n2 : k < N := by omega
        have d2 : decide ((N : Int) ≤ (k : Int)) = false := by simp; omega
        have hbt : (blockT m B k).length ≤ 20000 := by
          unfold blockT
          split
          · rw [blkL, List.length_take, List.length_drop, ← Hn.out]; omega
          · simp
        clear hA
        go_wp2
        refine wp_region_held (S := Ext w) (by kernel_rfl) ?_
        change wpAnyH _ _ _ _ _ _ _ _ wr.drew
        have S0 : Ext w wr.drew := Below.drew ex
        have ow0 : OwnI wr.drew w.heap.size (.slice adl q capq) ps (fun _ => False) := ow.ext ri_kept (Below.drew (Below.refl _ _))
        have sV : Src wr.drew (.slice ad n cap) m wr.drew.heap.size := HS.out.now S0
        clear ow ex
        generalize wr.drew = W at *
        refine takeS 0 (some 17) (.int .i64 (k : Int)) rfl rfl (by kernel_rfl) (by kernel_rfl) (by kernel_rfl) (fun _ _ _ h => h) rfl S0 (fun w' hw' => by go_simp) ?_
        simp only [Act.put, List.setIfInBounds_toArray, List.set_cons_zero, List.set_cons_succ]
        refine takeS 1 (some 18) (.slice (some ⟨pb, po, none⟩) N capl) rfl rfl (by kernel_rfl) (by kernel_rfl) (by kernel_rfl) (fun _ _ _ h => h) rfl S0 (fun w' hw' => by go_simp) ?_
        simp only [Act.put, List.setIfInBounds_toArray, List.set_cons_zero, List.set_cons_succ]
        refine takeS 2 (some 19) (.int .i64 (N : Int)) rfl rfl (by kernel_rfl) (by kernel_rfl) (by kernel_rfl) (fun _ _ _ h => h) rfl S0 (fun w' hw' => by go_simp) ?_
        simp only [Act.put, List.setIfInBounds_toArray, List.set_cons_zero, List.set_cons_succ]
        refine takeS 3 (some 20) (.bool false) rfl rfl (by kernel_rfl) (by kernel_rfl) (by kernel_rfl) (fun _ _ _ h => h) rfl S0 (fun w' hw' => by go_simp) ?_
        simp only [Act.put, List.setIfInBounds_toArray, List.set_cons_zero, List.set_cons_succ]
        refine takeS 4 (some 21) (.bool false) rfl rfl (by kernel_rfl) (by kernel_rfl) (by kernel_rfl) (fun _ _ _ h => h) rfl S0 (fun w' hw' => by go_simp) ?_
        simp only [Act.put, List.setIfInBounds_toArray, List.set_cons_zero, List.set_cons_succ]
        refine takeS 5 (some 22) (.slice ad n cap) rfl rfl (by kernel_rfl) (by kernel_rfl) (by kernel_rfl) (fun _ _ _ h => h) rfl S0 (fun w' hw' => by go_simp) ?_
        simp only [Act.put, List.setIfInBounds_toArray, List.set_cons_zero, List.set_cons_succ]
        refine takeS 6 (some 23) (.int .i64 B) rfl rfl (by kernel_rfl) (by kernel_rfl) (by kernel_rfl) (fun _ _ _ h => h) rfl S0 (fun w' hw' => by go_simp) ?_
        simp only [Act.put, List.setIfInBounds_toArray, List.set_cons_zero, List.set_cons_succ]
        refine takeS 7 (some 24) (.int .i64 (k : Int)) rfl rfl (by kernel_rfl) (by kernel_rfl) (by kernel_rfl) (fun _ _ _ h => h) rfl S0 (fun w' hw' => by go_simp) ?_
        simp only [Act.put, List.setIfInBounds_toArray, List.set_cons_zero, List.set_cons_succ]
        refine takeS 11 (some 28) (.slice (some ⟨pb, po, none⟩) N capl) rfl rfl (by kernel_rfl) (by kernel_rfl) (by kernel_rfl) (fun _ _ _ h => h) rfl S0 (fun w' hw' => by go_simp) ?_
        simp only [Act.put, List.setIfInBounds_toArray, List.set_cons_zero, List.set_cons_succ]
        refine takeS 12 (some 29) (.int .i64 (k : Int)) rfl rfl (by kernel_rfl) (by kernel_rfl) (by kernel_rfl) (fun _ _ _ h => h) rfl S0 (fun w' hw' => by go_simp) ?_
        simp only [Act.put, List.setIfInBounds_toArray, List.set_cons_zero, List.set_cons_succ]
        refine takeS 13 (some 30) (.pointer (some ⟨pb, po + k, none⟩)) rfl rfl (by kernel_rfl) (by kernel_rfl) (by kernel_rfl) (fun _ _ _ h => h) rfl S0 (fun w' hw' => by go_simp) ?_
        simp only [Act.put, List.setIfInBounds_toArray, List.set_cons_zero, List.set_cons_succ]
        refine takeS 14 (some 31) (x1) rfl rfl (by kernel_rfl) (by kernel_rfl) (by kernel_rfl) (fun _ _ _ h => h) rfl S0 (fun w' hw' => by have cc := HC.out w' hw'; go_simp) ?_
        simp only [Act.put, List.setIfInBounds_toArray, List.set_cons_zero, List.set_cons_succ]
        refine takeS 15 (some 32) (.string Bs) rfl rfl (by kernel_rfl) (by kernel_rfl) (by kernel_rfl) (fun _ _ _ h => h) rfl S0 (fun w' hw' => by have cc := HV.out w' hw'; go_simp) ?_
        simp only [Act.put, List.setIfInBounds_toArray, List.set_cons_zero, List.set_cons_succ]
        refine nextS 8 rfl (by kernel_rfl) rfl (callS (some 25) rfl 57 #[.slice ad n cap, .int .i64 B, .int .i64 (k : Int)] (by go_simp) (fun v w' => W = w' ∧ Src W v (blockT m B k) W.heap.size) ((rblock_any _ m B k W _ sV (by rw [← Hn.out]; omega)).mono fun _ _ he => by obtain ⟨h1, v', h2, h3⟩ := he; exact ⟨v', h2, h1, h3 _ sV⟩) ?_)
        rintro vb W2 ⟨rfl, sb⟩
        simp only [Act.put, List.setIfInBounds_toArray, List.set_cons_zero, List.set_cons_succ]
        refine ⟨S0, ?_⟩
        refine nextS 9 rfl (by kernel_rfl) rfl (callS (some 26) rfl 56 #[vb] (by go_simp) (fun v w' => Ext W w' ∧ OwnB w' W.heap.size v (leafL (blockT m B k))) ((rleaf_any vb _ W sb hbt).mono fun _ _ he => he) ?_)
        rintro v2 W2 ⟨e2, o2⟩
        simp only [Act.put, List.setIfInBounds_toArray, List.set_cons_zero, List.set_cons_succ]
        have S2 : Ext w W2 := S0.trans e2
        replace ow0 := ow0.ext ri_kept e2
        refine ⟨S2, ?_⟩
        have c2 : (convert 22 9 v2).run Tryd.prog W2 = .ok (.string As) W2 := by rw [HAs.out]; exact convB (o2.srcs W2.heap.size (Or.inr (Nat.le_refl _)))
        refine nextS 10 rfl (by kernel_rfl) rfl (makeS (some 27) rfl (.string As) (w1 := W2) (by go_simp) ?_)
        simp only [Act.put, List.setIfInBounds_toArray, List.set_cons_zero, List.set_cons_succ]
        refine ⟨S2, ?_⟩
        refine takeS 16 (some 33) (.bool (!E)) rfl rfl (by kernel_rfl) (by kernel_rfl) (by kernel_rfl) (fun _ _ _ h => h) rfl S2 (fun w' hw' => by go_simp) ?_
        simp only [Act.put, List.setIfInBounds_toArray, List.set_cons_zero, List.set_cons_succ]
        refine takeS 17 (some 34) (.bool (!E)) rfl rfl (by kernel_rfl) (by kernel_rfl) (by kernel_rfl) (fun _ _ _ h => h) rfl S2 (fun w' hw' => by go_simp) ?_
        simp only [Act.put, List.setIfInBounds_toArray, List.set_cons_zero, List.set_cons_succ]
        refine wpAnyH_done (by kernel_rfl) ?_ _
        clear S0
        have S0 := S2
        clear c2 o2 e2 sb sV hE'
        cases E with
        | true =>
          rw [show (!true) = false from rfl] at hds ⊢
          have hds' : badN m B leaves (k + 1) = ps.map (·.2) := by rw [hds]; simp
          have Hds := Lib.hid hds'; clear hds hds'
          go_wp2
          exact ⟨⟨k + 1, ps, by omega, by go_num, by have := Hq.out; omega, Hds.out.symm, ow0, S0⟩, by simp [intOf]; omega⟩
        | false =>
          rw [show (!false) = true from rfl] at hds ⊢
          have hds' : badN m B leaves (k + 1) = ps.map (·.2) ++ [(k : Int)] := by rw [hds]; simp
          have Hds := Lib.hid hds'; clear hds hds'
          have cI := cell_one W2 (.int .i64 (k : Int)) 3
          have S3 : Ext w (W2.alloc (.cells #[.int .i64 (k : Int)] 3)) := Ext.trans S0 (Ext.alloc W2 _)
          go_wp2_with (refine list_append_g ri_kept rfl (.tmp 35) (.tmp 37) 47 rfl (.int .i64 0) 8 Tryd.underlying47 u3zero rfl (by omega) w.heap.size (.slice adl q capq) ps (fun _ => False) rfl (own_one ri_kept ow0 _ 3) W2.heap.size 1 _ (k : Int) rfl cI rfl (fun _ _ => rfl) (by have := Hq.out; omega) S3.size ?_; intro v3 w4 o3 b3)
          have S4 : Ext w w4 := Below.trans S3 b3
          exact ⟨⟨k + 1, _, by omega, by go_num, by have := Hq.out; simp; omega, by rw [Hds.out, List.map_append]; rfl, o3, S4⟩, by simp [intOf]; omega⟩
    · have ek : k = C := by omega
      have i0 : ¬ ((k : Int) < (C : Int)) := by omega
      have hfin : IRB wr w.heap.size (.slice adl q capq) (badN m B leaves C) := by rw [← ek, ← hps]; have := own_irb ow; rw [Hq.out] at *; exact this
      clear ek hlt
      go_wp2
      go_ret
      exact ⟨_, rfl, ex, hfin⟩
theorem rbad_any (v : Value) (m : List Int) (B : Int) (vl : Value) (leaves : List (List Int)) (w : World) (hs : Src w v m w.heap.size) (hl : LR w vl leaves w.heap.size) (hm : m.length ≤ 20000) (hll : leaves.length ≤ 1000000000) :
    Calls Tryd.prog 20 #[v, .int .i64 B, vl] w (DPost w (badL m B leaves)) :=
  (rbad_any2 v m B vl leaves w hs hl hm hll).mono fun _ _ ⟨u, h1, h2, h3⟩ => ⟨u, h1, h2, h3.ir⟩
end Go.Proofs.YtdohngjhfonifaaDoor
