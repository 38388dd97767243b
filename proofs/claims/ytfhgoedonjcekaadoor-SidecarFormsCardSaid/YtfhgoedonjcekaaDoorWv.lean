/- The contracts of the document's own Leaf, Leaves, up, Root and Levels. -/
import Derived.Test.YtfhgoedonjcekaaDoorWu
import Derived.Test.YtfhgoedonjcekaaDoorWl
namespace Go.Proofs.YtfhgoedonjcekaaDoor
open Go.RowKit Go.Sha
set_option linter.unusedSimpArgs false

theorem wp_append_bytes {P : Program} {w : World} {o : Oper} {a : Act} {K : Act → World → Prop} {Q : Exit → Act → World → Prop} (s x : Operand) (t : TypeId)
    (ho : o.op = .call { callee := .builtin .append, args := #[s, x], argTypes := #[t, t] }) (ht : P.underlying t = some (.slice 5)) (hi : (P.info? 5).map (fun i => (i.zero, i.size, i.bytes)) = some (some (.int .u8 0), 1, 1))
    (base : Nat) (v : Value) (m : List Int) (hs : a.eval s = v) (hown : OwnB w base v m) (vx : Value) (z : List Int) (bh : Nat) (hx : a.eval x = vx) (hz : Src w vx z bh) (hl : m.length + z.length ≤ 70368744177664) (hbase : base ≤ w.heap.size)
    (h : ∀ v' w', OwnB w' base v' (m ++ z) → Below base w w' → K (a.put o.dst v') w') : Oper.wp P o a w K Q := by
  obtain ⟨i, hi', hzz⟩ := Option.map_eq_some_iff.1 hi
  simp only [Prod.mk.injEq] at hzz
  obtain ⟨hz1, hz2, hz3⟩ := hzz
  obtain ⟨ad, cap, sb, so, rfl, h2, h3, h4, h5, h6⟩ := hz
  cases ad with
  | none =>
    have h0 : z = [] := List.length_eq_zero_iff.1 (Nat.eq_zero_of_not_pos fun hp => by cases h3 hp)
    subst h0
    obtain rfl := h6 rfl
    have hx' : a.eval x = .slice none 0 0 := hx
    have hrun := run_append_owned_none (P := P) (w := w) base t o.type 5 i 1 ht hi' v m.length (m.map (Value.int .u8)) hown
    unfold Oper.wp
    simp [execOp, ho, resolve, invoke, builtin, hs, hx', hrun, Result.andThen]
    exact h v w (by simpa using hown) (Below.refl _ _)
  | some A =>
    refine wp_append_own w s x t ho base 5 i (.int .u8 0) 1 1 ht hi' hz1 hz2 hz3 rfl (by omega) v m.length (m.map (Value.int .u8)) hs hown A z.length cap (z.map (Value.int .u8)) hx (by simp) ?_ (by simp [Value.oneCell']) (by unfold maxLen; omega) (by omega) hbase ?_
    · intro j u hu
      have hj : j < z.length := by simpa using (List.getElem?_eq_some_iff.1 hu).1
      obtain rfl : A = ⟨sb, so, none⟩ := by have := h3 (by omega); injection this
      rw [Addr.add_mid, h5 j hj, ← hu, List.getElem?_map, List.getElem?_eq_getElem hj]; rfl
    · intro v' w' h7 h8 _
      refine h v' w' ?_ (hown.grown h8 hbase)
      unfold OwnB
      simpa using h7

set_option maxHeartbeats 400000 in
theorem rleaf_any (v : Value) (m : List Int) (w : World) (hs : Src w v m w.heap.size) (hl : m.length ≤ 20000) : Calls Tryd.prog 56 #[v] w (BPost w (leafL m)) := by
  have oa : OwnB (w.alloc (.cells #[.int .u8 0] 5)) w.heap.size (.slice (some ⟨w.heap.size, 0, none⟩) 1 1) [0] := own_of_at (Nat.le_refl _) (At.new w _ 5) rfl (by omega)
  have ea : Ext w (w.alloc (.cells #[.int .u8 0] 5)) := Ext.alloc w _
  have s1 := hs.now ea
  obtain ⟨ad, cap, ev⟩ := hs.len
  subst ev
  go_enter Tryd.func56, Tryd.ntmps56
  go_wp2_with (refine list_append_bytes rfl (.tmp 3) (.tmp 4) 22 rfl Tryd.underlying22 u8zero w.heap.size (.slice (some ⟨w.heap.size, 0, none⟩) 1 1) [0] rfl oa _ m _ rfl s1 (by simp; omega) ea.size ?_; intro vx w4 ox gx)
  have b4 := oa.grown gx ea.size
  refine (ref_any vx _ w4 (ox.srcs _ (Or.inr (Nat.le_refl _))) (by simp; omega)).mono ?_
  rintro e w5 ⟨v5, rfl, b5, o5⟩
  have e4 : Ext w w4 := Below.trans ea b4
  go_wp2
  go_ret
  exact ⟨v5, rfl, e4.trans b5, o5.less e4.size⟩

/-- The next level, of elder bytes too. -/
def UpPost (w : World) (v : Value) (ls : List (List Int)) (e : Ending) (w' : World) : Prop := ∃ v', e = .returned v' ∧ Ext w w' ∧ LR w' v' (upL ls) w'.heap.size ∧ ∀ bh, bh < w.heap.size → LR w v ls bh → LR w' v' (upL ls) bh
theorem lr_src {w : World} {v : Value} {ls : List (List Int)} {bh pb po : Nat} (h : LR w v ls bh) (hv : ∃ cap, v = .slice (some ⟨pb, po, none⟩) ls.length cap) (k : Nat) (m : List Int) (hm : ls[k]? = some m) (x : Value) (hx : w.cell? ⟨pb, po + k, none⟩ = some x) : Src w x m bh := by
  have h0 : 0 < ls.length := by have := (List.getElem?_eq_some_iff.1 hm).1; omega
  obtain ⟨cap, pb', po', ev, _, hc⟩ := lr_get h h0
  obtain ⟨cap', ev'⟩ := hv
  rw [ev'] at ev
  injection ev with e1 _ _
  injection e1 with e1
  injection e1 with q1 q2
  subst q1 q2
  obtain ⟨y, hy, sy⟩ := hc k m hm
  rw [hx] at hy
  injection hy with hy
  subst hy
  exact sy

set_option maxHeartbeats 2000000 in
set_option maxRecDepth 100000 in
theorem up_any (v : Value) (ls : List (List Int)) (w : World) (hs : LR w v ls w.heap.size) (h0 : 0 < ls.length) (hl : ls.length ≤ 1000000) (hb : ∀ m ∈ ls, m.length ≤ 14000) : Calls Tryd.prog 71 #[v] w (UpPost w v ls) := by
  obtain ⟨cap, pb, po, ev, hpb, hc⟩ := lr_get hs h0
  subst ev
  obtain ⟨A, hA⟩ : ∃ A : Nat → Prop, ∀ bh, A bh ↔ bh < w.heap.size ∧ LR w (.slice (some ⟨pb, po, none⟩) ls.length cap) ls bh := ⟨_, fun _ => Iff.rfl⟩
  have fin : ∀ (o : Value) (ps : List (Value × List Int)) (wr : World), OwnL wr w.heap.size o ps A → Ext w wr → ps.map (·.2) = upL ls → UpPost w (.slice (some ⟨pb, po, none⟩) ls.length cap) ls (.returned o) wr := fun o ps wr ow ex hp =>
    ⟨o, rfl, ex, by rw [← hp]; exact ow.lr _ (Or.inr (Nat.le_refl _)), fun bh hbh hlr => by rw [← hp]; exact ow.lr _ (Or.inl ⟨(hA bh).2 ⟨hbh, hlr⟩, hbh⟩)⟩
  have ha : ∀ bh, A bh → bh < w.heap.size ∧ LR w (.slice (some ⟨pb, po, none⟩) ls.length cap) ls bh := fun bh h => (hA bh).1 h
  have HA := Lib.hid ha; clear ha hA
  have Fin := Lib.hid fin; clear fin
  have HC := Lib.hid hc; clear hc hs
  have Hbd := Lib.hid hb; clear hb
  obtain ⟨N, hN⟩ : ∃ N, N = ls.length := ⟨_, rfl⟩
  rw [← hN] at hl h0 HA Fin ⊢
  have HN := Lib.hid hN; clear hN
  go_enter Tryd.func71, Tryd.ntmps71
  go_wp2
  go_loopw [3, 4] (fun l i wr => InvU w A ls l i wr) (fun _ i _ => N + 2 - (intOf i).toNat)
  case atStart => exact ⟨0, [], by omega, rfl, by simp, by simp [upL], OwnG.nil _ _ _ _ _, Ext.refl w⟩
  case round =>
    obtain ⟨j, ps, hj, rfl, hpl, hps, ow, ex⟩ := hrel
    rw [← HN.out] at hj
    obtain ⟨K, hK2⟩ : ∃ K, K = 2 * j := ⟨_, rfl⟩
    rw [← hK2] at hps hj ⊢
    have HK := Lib.hid hK2; clear hK2
    obtain ⟨adl, capl, el⟩ := ow.len
    subst el
    obtain ⟨q, hq⟩ : ∃ q, q = ps.length := ⟨_, rfl⟩
    rw [← hq] at ow ⊢
    have Hq := Lib.hid hq; clear hq
    by_cases hlt : K < N
    · have i0 : (K : Int) < (N : Int) := by omega
      have i1 : (0 : Int) ≤ (K : Int) := by omega
      obtain ⟨m1, hm1⟩ : ∃ m, ls[K]? = some m := ⟨_, List.getElem?_eq_getElem (by rw [← HN.out]; exact hlt)⟩
      obtain ⟨x1, c1, s1⟩ := HC.out K m1 hm1
      have hpw : pb < w.heap.size := World.block_lt_of_cell? w _ c1
      have l1 := Hbd.out m1 (List.mem_of_getElem? hm1)
      have Hm1 := Lib.hid hm1; clear hm1
      by_cases hlt2 : K + 1 < N
      · obtain ⟨K1, hK1⟩ : ∃ K1, K1 = K + 1 := ⟨_, rfl⟩
        have i2 : ¬ ((K1 : Int) = (N : Int)) := by omega
        have i5 : (((K1 : Nat) : Int) == (N : Int)) = false := by rw [beq_eq_false_iff_ne]; exact i2
        have i6 : ((K : Int) + 1 == (N : Int)) = false := by rw [beq_eq_false_iff_ne]; omega
        have i3 : (K1 : Int) < (N : Int) := by omega
        have i4 : (0 : Int) ≤ (K1 : Int) := by omega
        have e1 : (K : Int) + 1 = ((K1 : Nat) : Int) := by omega
        have wr1 : IntKind.i64.wrap ((K1 : Nat) : Int) = (K1 : Int) := IntWalk.i64_in _ (by omega)
        obtain ⟨m2, hm2⟩ : ∃ m, ls[K1]? = some m := ⟨_, List.getElem?_eq_getElem (by rw [← HN.out, hK1]; exact hlt2)⟩
        obtain ⟨x2, c2, s2⟩ := HC.out K1 m2 hm2
        have l2 := Hbd.out m2 (List.mem_of_getElem? hm2)
        have Hm2 := Lib.hid hm2; clear hm2
        have hc1 : ∀ w', Below w.heap.size w w' → w'.cell? ⟨pb, po + K, none⟩ = some x1 := fun w' h => by rw [h.cell (p := ⟨pb, po + K, none⟩) hpw]; exact c1
        have hc2 : ∀ w', Below w.heap.size w w' → w'.cell? ⟨pb, po + K1, none⟩ = some x2 := fun w' h => by rw [h.cell (p := ⟨pb, po + K1, none⟩) hpw]; exact c2
        have HC1 := Lib.hid hc1; clear hc1 c1
        have HC2 := Lib.hid hc2; clear hc2 c2
        have HK1 := Lib.hid hK1; clear hK1
        go_wp2
        refine wp_region_held (S := Below w.heap.size w) (by kernel_rfl) ?_
        change wpAnyH _ _ _ _ _ _ _ _ wr.drew
        have S0 : Below w.heap.size w wr.drew := Below.drew ex
        have ow0 : OwnL wr.drew w.heap.size (.slice adl q capl) ps A := ow.ext src_kept (Below.drew (Below.refl _ _))
        clear ow ex
        generalize wr.drew = W at *
        refine takeS 0 (some 23) (Value.slice adl q capl) rfl rfl (by kernel_rfl) (by kernel_rfl) (by kernel_rfl) (fun _ _ _ h => h) rfl S0 (fun w' hw' => by go_simp) ?_
        simp only [Act.put, List.setIfInBounds_toArray, List.set_cons_zero, List.set_cons_succ]
        refine takeS 2 (some 25) (Value.slice (some ⟨pb, po, none⟩) N cap) rfl rfl (by kernel_rfl) (by kernel_rfl) (by kernel_rfl) (fun _ _ _ h => h) rfl S0 (fun w' hw' => by go_simp) ?_
        simp only [Act.put, List.setIfInBounds_toArray, List.set_cons_zero, List.set_cons_succ]
        refine takeS 3 (some 26) (.int .i64 (K : Int)) rfl rfl (by kernel_rfl) (by kernel_rfl) (by kernel_rfl) (fun _ _ _ h => h) rfl S0 (fun w' hw' => by go_simp) ?_
        simp only [Act.put, List.setIfInBounds_toArray, List.set_cons_zero, List.set_cons_succ]
        refine takeS 4 (some 27) (.pointer (some ⟨pb, po + K, none⟩)) rfl rfl (by kernel_rfl) (by kernel_rfl) (by kernel_rfl) (fun _ _ _ h => h) rfl S0 (fun w' hw' => by go_simp) ?_
        simp only [Act.put, List.setIfInBounds_toArray, List.set_cons_zero, List.set_cons_succ]
        refine takeS 5 (some 28) (x1) rfl rfl (by kernel_rfl) (by kernel_rfl) (by kernel_rfl) (fun _ _ _ h => h) rfl S0 (fun w' hw' => by have c1 := HC1.out w' hw'; go_simp) ?_
        simp only [Act.put, List.setIfInBounds_toArray, List.set_cons_zero, List.set_cons_succ]
        refine takeS 7 (some 30) (Value.slice (some ⟨pb, po, none⟩) N cap) rfl rfl (by kernel_rfl) (by kernel_rfl) (by kernel_rfl) (fun _ _ _ h => h) rfl S0 (fun w' hw' => by go_simp) ?_
        simp only [Act.put, List.setIfInBounds_toArray, List.set_cons_zero, List.set_cons_succ]
        refine takeS 8 (some 31) (.int .i64 (K : Int)) rfl rfl (by kernel_rfl) (by kernel_rfl) (by kernel_rfl) (fun _ _ _ h => h) rfl S0 (fun w' hw' => by go_simp) ?_
        simp only [Act.put, List.setIfInBounds_toArray, List.set_cons_zero, List.set_cons_succ]
        refine takeS 9 (some 32) (.int .i64 ((K1 : Nat) : Int)) rfl rfl (by kernel_rfl) (by kernel_rfl) (by kernel_rfl) (fun _ _ _ h => h) rfl S0 (fun w' hw' => by go_simp) ?_
        simp only [Act.put, List.setIfInBounds_toArray, List.set_cons_zero, List.set_cons_succ]
        refine takeS 10 (some 33) (.pointer (some ⟨pb, po + K1, none⟩)) rfl rfl (by kernel_rfl) (by kernel_rfl) (by kernel_rfl) (fun _ _ _ h => h) rfl S0 (fun w' hw' => by go_simp) ?_
        simp only [Act.put, List.setIfInBounds_toArray, List.set_cons_zero, List.set_cons_succ]
        refine takeS 11 (some 34) (x2) rfl rfl (by kernel_rfl) (by kernel_rfl) (by kernel_rfl) (fun _ _ _ h => h) rfl S0 (fun w' hw' => by have c2 := HC2.out w' hw'; go_simp) ?_
        simp only [Act.put, List.setIfInBounds_toArray, List.set_cons_zero, List.set_cons_succ]
        have sA := s1.of_below (S0 : Ext w W) S0.size
        have sB := s2.of_below (S0 : Ext w W) S0.size
        refine nextS 1 rfl (by kernel_rfl) rfl (makeS (some 24) rfl (.slice (some ⟨W.heap.size, 0, none⟩) 1 1) (w1 := W.alloc (.cells #[.int .u8 1] 5)) (by go_simp) ?_)
        simp only [Act.put, List.setIfInBounds_toArray, List.set_cons_zero, List.set_cons_succ]
        have oa : OwnB (W.alloc (.cells #[.int .u8 1] 5)) W.heap.size (.slice (some ⟨W.heap.size, 0, none⟩) 1 1) [1] := own_of_at (Nat.le_refl _) (At.new W _ 5) rfl (by omega)
        have ea : Ext W (W.alloc (.cells #[.int .u8 1] 5)) := Ext.alloc W _
        have Sa : Below w.heap.size w (W.alloc (.cells #[.int .u8 1] 5)) := Ext.trans S0 ea
        refine ⟨Sa, ?_⟩
        refine nextS 6 rfl (by kernel_rfl) rfl (wp_append_bytes (.tmp 24) (.tmp 28) 22 rfl Tryd.underlying22 u8zero W.heap.size (.slice (some ⟨W.heap.size, 0, none⟩) 1 1) [1] rfl oa x1 m1 _ rfl (sA.now ea) (by simp; omega) ea.size ?_)
        intro vb Wb ob bb
        simp only [Act.put, List.setIfInBounds_toArray, List.set_cons_zero, List.set_cons_succ]
        have eb : Ext W Wb := Below.trans ea bb
        have Sb : Below w.heap.size w Wb := Ext.trans S0 eb
        refine ⟨Sb, ?_⟩
        refine nextS 12 rfl (by kernel_rfl) rfl (wp_append_bytes (.tmp 29) (.tmp 34) 22 rfl Tryd.underlying22 u8zero W.heap.size vb ([1] ++ m1) rfl ob x2 m2 _ rfl (sB.now eb) (by simp; omega) eb.size ?_)
        intro vc Wc oc bc
        simp only [Act.put, List.setIfInBounds_toArray, List.set_cons_zero, List.set_cons_succ]
        have ec : Ext W Wc := Below.trans eb bc
        have Sc : Below w.heap.size w Wc := Ext.trans S0 ec
        refine ⟨Sc, ?_⟩
        refine nextS 13 rfl (by kernel_rfl) rfl (callS (some 36) rfl 70 #[vc] (by go_simp) (fun v w' => Ext Wc w' ∧ OwnB w' Wc.heap.size v (pairL m1 m2)) ((ref_any vc _ Wc (oc.srcs _ (Or.inr (Nat.le_refl _))) (by simp; omega)).mono fun _ _ h => by obtain ⟨v, e, b, o⟩ := h; exact ⟨v, e, b, by rwa [show [1] ++ m1 ++ m2 = 1 :: (m1 ++ m2) by simp] at o⟩) ?_)
        rintro v2 W2 ⟨e2, o2⟩
        simp only [Act.put, List.setIfInBounds_toArray, List.set_cons_zero, List.set_cons_succ]
        have e3 : Ext W W2 := ec.trans e2
        have o2' := o2.less ec.size
        have ow2 := ow0.ext src_kept e3
        have hsx : ∀ bh, (A bh ∨ (Value.slice adl q capl).ownBlock = some bh ∨ W2.heap.size ≤ bh) → Src W2 v2 (pairL m1 m2) bh := fun bh hb => o2'.srcs bh (by
          rcases hb with hb | hb | hb
          · exact Or.inl (Nat.lt_of_lt_of_le (HA.out bh hb).1 S0.size)
          · exact Or.inl (ow0.block bh hb).2
          · exact Or.inr hb)
        obtain ⟨ad2, cap2, ev2⟩ := o2.len
        subst ev2
        have S2 : Below w.heap.size w W2 := Ext.trans S0 e3
        have hsy := src_one_more (x := .slice ad2 (pairL m1 m2).length cap2) (t := 22) hsx
        clear hsx o2 o2' ow0 sA sB e2 e3 oa ob oc ea eb ec bb bc Sa Sb Sc
        refine ⟨S2, ?_⟩
        refine nextS 14 rfl (by kernel_rfl) rfl (makeS (some 37) rfl (.slice (some ⟨W2.heap.size, 0, none⟩) 1 1) (w1 := W2.alloc (.cells #[.slice ad2 (pairL m1 m2).length cap2] 22)) (by go_simp) ?_)
        simp only [Act.put, List.setIfInBounds_toArray, List.set_cons_zero, List.set_cons_succ]
        have S3 : Below w.heap.size w (W2.alloc (.cells #[.slice ad2 (pairL m1 m2).length cap2] 22)) := Ext.trans S2 (Ext.alloc W2 _)
        refine ⟨S3, ?_⟩
        refine nextS 15 rfl (by kernel_rfl) rfl (wp_append_g src_kept (.tmp 23) (.tmp 37) 24 rfl (.slice none 0 0) 24 Tryd.underlying24 u22zero rfl (by omega) w.heap.size (.slice adl q capl) ps A rfl (own_one src_kept ow2 _ 22) W2.heap.size 1 _ (pairL m1 m2) rfl (cell_one W2 _ 22) rfl hsy (by have := Hq.out; have := HK.out; omega) S3.size ?_)
        intro v3 W3 o3 b3
        simp only [Act.put, List.setIfInBounds_toArray, List.set_cons_zero, List.set_cons_succ]
        have S4 : Below w.heap.size w W3 := Below.trans S3 b3
        refine ⟨S4, ?_⟩
        refine takeS 16 (some 3) v3 rfl rfl (by kernel_rfl) (by kernel_rfl) (by kernel_rfl) (fun _ _ _ h => h) rfl S4 (fun w' hw' => by go_simp) ?_
        simp only [Act.put, List.setIfInBounds_toArray, List.set_cons_zero, List.set_cons_succ]
        refine wpAnyH_done (by kernel_rfl) ?_ _
        go_wp2
        refine ⟨⟨j + 1, _, by rw [← HN.out]; have := HK.out; omega, by have := HK.out; go_num, by have := Hq.out; simp; omega, ?_, o3, S4⟩, by simp [intOf]; omega⟩
        rw [List.map_append, hps, HK.out, show 2 * (j + 1) = 2 * j + 2 by omega, upL_pair j ls m1 m2 (by rw [← HK.out]; exact Hm1.out) (by rw [← HK.out, ← HK1.out]; exact Hm2.out)]
        rfl
      · have eN : N = K + 1 := by omega
        have i2 : ((K : Int) + 1 == (N : Int)) = true := by rw [beq_iff_eq]; omega
        have i3 : (K : Int) + 1 = (N : Int) := by omega
        have c1' : wr.cell? ⟨pb, po + K, none⟩ = some x1 := by rw [Below.cell (p := ⟨pb, po + K, none⟩) ex hpw]; exact c1
        have hsx : ∀ bh, (A bh ∨ (Value.slice adl q capl).ownBlock = some bh ∨ wr.heap.size ≤ bh) → Src wr x1 m1 bh := fun bh hb => by
          rcases hb with hb | hb | hb
          · exact (lr_src (HA.out bh hb).2 ⟨cap, by rw [HN.out]⟩ K m1 Hm1.out x1 c1).ext ex
          · exact (s1.other (ow.block bh hb).1).ext ex
          · exact (s1.other (Nat.le_trans ex.size hb)).ext ex
        obtain ⟨ad2, cap2, ev2⟩ := s1.len
        subst ev2
        have hsy := src_one_more (x := .slice ad2 m1.length cap2) (t := 22) hsx
        have S3 : Below w.heap.size w (wr.alloc (.cells #[.slice ad2 m1.length cap2] 22)) := Ext.trans ex (Ext.alloc wr _)
        have HeN := Lib.hid eN; clear eN hlt2 hsx c1
        go_wp2_with (refine list_append_g src_kept rfl (.tmp 16) (.tmp 21) 24 rfl (.slice none 0 0) 24 Tryd.underlying24 u22zero rfl (by omega) w.heap.size (.slice adl q capl) ps A rfl (own_one src_kept ow _ 22) wr.heap.size 1 _ m1 rfl (cell_one wr _ 22) rfl hsy (by have := Hq.out; have := HK.out; omega) S3.size ?_; intro v3 w3 o3 b3)
        have S4 : Below w.heap.size w w3 := Below.trans S3 b3
        refine ⟨⟨j + 1, _, by rw [← HN.out]; have := HK.out; have := HeN.out; omega, by have := HK.out; go_num, by have := Hq.out; simp; omega, ?_, o3, S4⟩, by simp [intOf]; omega⟩
        rw [List.map_append, hps, HK.out, List.take_of_length_le (i := 2 * (j + 1)) (by rw [← HN.out]; have := HK.out; have := HeN.out; omega), upL_last j ls m1 (by rw [← HK.out]; exact Hm1.out) (by rw [← HN.out]; have := HK.out; have := HeN.out; omega)]
        rfl
    · have i0 : ¬ ((K : Int) < (N : Int)) := by omega
      have d0 : decide ((K : Int) < (N : Int)) = false := by simp; omega
      have hp : ps.map (·.2) = upL ls := by rw [hps, List.take_of_length_le (by rw [← HN.out]; omega)]
      clear hlt
      go_wp2
      go_ret
      exact Fin.out _ ps _ ow ex hp
end Go.Proofs.YtfhgoedonjcekaaDoor
