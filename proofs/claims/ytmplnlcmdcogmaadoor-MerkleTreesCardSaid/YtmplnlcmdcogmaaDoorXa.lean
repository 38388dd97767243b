/- The contracts of the document's own Prove, and of Verify, the code's and the document's. -/
import Derived.Test.YtmplnlcmdcogmaaDoorWy
import Derived.Laws.BitsAllLaws
namespace Go.Proofs.YtmplnlcmdcogmaaDoor
open Go.RowKit Go.Sha
set_option linter.unusedSimpArgs false

theorem nat_xor_one (k : Nat) : k ^^^ 1 = nbL k := by
  have h1 : (k ^^^ 1) / 2 = k / 2 := by rw [Nat.xor_div_two]; simp
  have h3 := @Nat.xor_mod_two_eq_one k 1
  have h2 : (k ^^^ 1) % 2 = (k + 1) % 2 := by
    by_cases hk : k % 2 = 1
    · have : ¬ ((k ^^^ 1) % 2 = 1) := fun h => by have := h3.1 h; simp [hk] at this
      omega
    · have : (k ^^^ 1) % 2 = 1 := h3.2 (by simp [hk])
      omega
  unfold nbL
  split <;> omega
theorem i64_xor_one (k : Nat) (h : k < 9223372036854775807) : bits .xor .i64 (k : Int) 1 = ((nbL k : Nat) : Int) := by
  have hk : nbL k < 9223372036854775808 := by unfold nbL; split <;> omega
  show IntKind.i64.wrap ((BitVec.ofInt 64 (k : Int) ^^^ BitVec.ofInt 64 ((1 : Nat) : Int)).toNat : Int) = _
  rw [BitVec.toNat_xor, ofInt_u64 k (by omega), ofInt_u64 1 (by omega), nat_xor_one]
  exact IntWalk.i64_in _ (by omega)

structure PCR (w : World) (all : List (List Int)) (l p : Value) (q : Nat) (cur : List (List Int)) (ps : List (Value × List Int)) (wr : World) : Prop where
  lr : ∀ bh, (p.ownBlock = some bh ∨ wr.heap.size ≤ bh) → LR wr l cur bh
  own : OwnL wr w.heap.size p ps No
  all : ps.map (·.2) ++ proveL cur q = all
  pos : q < cur.length
  len : cur.length ≤ 1000000
  few : ps.length + cur.length ≤ 2000000
  bd : ∀ m ∈ cur, m.length ≤ 1900
  ext : Ext w wr
theorem PCR.now {w wr : World} {all : List (List Int)} {l p : Value} {q : Nat} {cur : List (List Int)} {ps : List (Value × List Int)} (h : PCR w all l p q cur ps wr) : LR wr l cur wr.heap.size := h.lr _ (Or.inr (Nat.le_refl _))
def InvPCR (w : World) (all : List (List Int)) (l k p : Value) (wr : World) : Prop := ∃ q cur ps, k = .int .i64 (q : Nat) ∧ PCR w all l p q cur ps wr

set_option maxHeartbeats 2000000 in
theorem rprove_some (v : Value) (ls : List (List Int)) (k : Nat) (w : World) (hs : LR w v ls w.heap.size) (hk : k < ls.length) (hl : ls.length ≤ 1000000) (hb : ∀ m ∈ ls, m.length ≤ 1900) : Calls Tryd.prog 23 #[v, .int .i64 k] w (PPost w (proveL ls k) 0) := by
  have c0 : InvPCR w (proveL ls k) v (.int .i64 k) (.slice none 0 0) w := ⟨k, ls, [], rfl, fun bh hbh => by
    rcases hbh with h | h
    · cases h
    · exact lr_kept.fresh hs h, OwnG.nil _ _ _ _ _, rfl, hk, hl, by simp; omega, hb, Ext.refl w⟩
  obtain ⟨ad0, cap0, ev0⟩ := hs.len
  subst ev0
  have d1 : decide ((k : Int) < 0) = false := by simp
  have d2 : decide ((ls.length : Int) ≤ (k : Int)) = false := by simp; omega
  have d3 : ¬ ((ls.length : Int) ≤ (k : Int)) := by omega
  clear hs hb
  generalize proveL ls k = T at *
  go_enter Tryd.func23, Tryd.ntmps23
  go_wp2
  go_loopw [0, 1, 6] (fun l k p wr => InvPCR w T l k p wr) (fun l _ _ _ => sliceLen l)
  case atStart => exact c0
  case round =>
    clear c0
    obtain ⟨q, cur, ps, rfl, cu⟩ := hrel
    obtain ⟨adc, capc, ec⟩ := cu.now.len
    subst ec
    have hp := cu.pos
    have hcl := cu.len
    by_cases hgt : cur.length ≤ 1
    · have i0 : ¬ ((1 : Int) < (cur.length : Int)) := by omega
      have i9 : decide ((1 : Int) < (cur.length : Int)) = false := by simp; omega
      have hT : ps.map (·.2) = T := by have := cu.all; rwa [proveL_small cur q hgt, List.append_nil] at this
      have hfin : LR wr u6 T wr.heap.size := by rw [← hT]; exact cu.own.lr _ (Or.inr (Nat.le_refl _))
      have hex := cu.ext
      clear cu
      go_wp2
      go_ret2
      exact ⟨_, rfl, hex, hfin⟩
    · have i0 : (1 : Int) < (cur.length : Int) := by omega
      have i9 : decide ((1 : Int) < (cur.length : Int)) = true := by simp; omega
      have hall := cu.all
      rw [proveL_great cur q hgt] at hall
      have hnb := nb_lt q cur.length hp
      have hx1 := i64_xor_one q (by omega)
      obtain ⟨B, hB⟩ : ∃ B, B = nbL q := ⟨_, rfl⟩
      rw [← hB] at hall hnb hx1
      have HB := Lib.hid hB; clear hB
      have hul := upL_length cur
      have Hul := Lib.hid hul; clear hul
      obtain ⟨adp, capp, ep⟩ := cu.own.len
      subst ep
      obtain ⟨P, hP⟩ : ∃ P, P = ps.length := ⟨_, rfl⟩
      have hfew := cu.few
      have hlr := cu.now
      have hla := cu.lr
      have how := cu.own
      have hbd := cu.bd
      have hex := cu.ext
      rw [← hP] at how hfew hla ⊢
      have HP := Lib.hid hP; clear hP
      obtain ⟨Q2, hQ2⟩ : ∃ Q2, Q2 = q / 2 := ⟨_, rfl⟩
      have hd2 : (q : Int) / 2 = (Q2 : Int) := by omega
      rw [← hQ2] at hall
      have HQ2 := Lib.hid hQ2; clear hQ2
      have hq0 : (0 : Int) ≤ (q : Int) := by omega
      by_cases hlt : B < cur.length
      · rw [if_pos hlt] at hall
        have i2 : (B : Int) < (cur.length : Int) := by omega
        have i3 : (0 : Int) ≤ (B : Int) := by omega
        have i4 : decide ((B : Int) < (cur.length : Int)) = true := by simp; omega
        obtain ⟨cap1, pb, po, ev1, _, hc1⟩ := lr_get hlr (by omega)
        injection ev1 with a1 _ a2
        subst a1 a2
        obtain ⟨m1, hm1⟩ : ∃ m, cur[B]? = some m := ⟨_, List.getElem?_eq_getElem hlt⟩
        obtain ⟨x1, c1, s1⟩ := hc1 B m1 hm1
        have hsx : ∀ bh, (No bh ∨ (Value.slice adp P capp).ownBlock = some bh ∨ wr.heap.size ≤ bh) → Src wr x1 m1 bh := fun bh hb => by
          rcases hb with hb | hb
          · cases hb
          · exact lr_src (hla bh hb) ⟨capc, rfl⟩ B m1 hm1 x1 c1
        rw [hm1] at hall
        obtain ⟨ad2, cap2, ev2⟩ := s1.len
        subst ev2
        have hsy := src_one_more (x := .slice ad2 m1.length cap2) (t := 22) hsx
        have S3 : Below w.heap.size w (wr.alloc (.cells #[.slice ad2 m1.length cap2] 22)) := Ext.trans hex (Ext.alloc wr _)
        have l2 := kept_one_more lr_kept (x := .slice ad2 m1.length cap2) (t := 22) hla
        clear hc1 hm1 cu hsx hlr s1
        go_wp2_with (refine list_append_gg src_kept rfl (.tmp 25) (.tmp 30) 25 rfl (.slice none 0 0) 24 Tryd.underlying25 u22zero rfl (by omega) w.heap.size (.slice adp P capp) ps No rfl (own_one src_kept how _ 22) wr.heap.size 1 _ m1 rfl (cell_one wr _ 22) rfl hsy (by have := HP.out; omega) S3.size ?_; intro v3 w3 o3 b3 g3)
        have S4 : Below w.heap.size w w3 := Below.trans S3 b3
        have l3 := g3.keep lr_kept l2
        clear l2 g3 hsy S3 b3 hla c1
        refine (up_any _ cur w3 (l3 _ (Or.inr (Nat.le_refl _))) (by omega) hcl hbd).mono ?_
        rintro e W5 ⟨v5, rfl, e5, l5, l6⟩
        go_wp2
        refine ⟨⟨Q2, upL cur, _, rfl, fun bh hbh => ?_, o3.ext src_kept e5, ?_, by rw [Hul.out, HQ2.out]; omega, by rw [Hul.out]; omega, by rw [Hul.out, List.length_append, List.length_singleton, ← HP.out]; omega, upL_bound 1900 (by omega) cur hbd, Ext.trans S4 e5⟩, ?_⟩
        · rcases hbh with h | h
          · exact l6 bh (o3.block bh h).2 (l3 bh (Or.inl h))
          · exact lr_kept.fresh l5 h
        · rw [List.map_append, List.append_assoc]; exact hall
        · obtain ⟨ad5, cap5, ev5⟩ := l5.len
          rw [ev5]
          simp [sliceLen, Hul.out]
          omega
      · rw [if_neg hlt] at hall
        have i2 : ¬ ((B : Int) < (cur.length : Int)) := by omega
        have i4 : decide ((B : Int) < (cur.length : Int)) = false := by simp; omega
        go_wp2_with fail
        refine (up_any _ cur wr hlr (by omega) hcl hbd).mono ?_
        rintro e W5 ⟨v5, rfl, e5, l5, l6⟩
        go_wp2
        refine ⟨⟨Q2, upL cur, _, rfl, fun bh hbh => ?_, how.ext src_kept e5, hall, by rw [Hul.out, HQ2.out]; omega, by rw [Hul.out]; omega, by rw [Hul.out, ← HP.out]; omega, upL_bound 1900 (by omega) cur hbd, Ext.trans hex e5⟩, ?_⟩
        · rcases hbh with h | h
          · exact l6 bh (how.block bh h).2 (hla bh (Or.inl h))
          · exact lr_kept.fresh l5 h
        · obtain ⟨ad5, cap5, ev5⟩ := l5.len
          rw [ev5]
          simp [sliceLen, Hul.out]
          omega

set_option maxHeartbeats 400000 in
theorem rprove_none (v : Value) (ls : List (List Int)) (k : Int) (w : World) (hs : LR w v ls w.heap.size) (hk : k < 0 ∨ (ls.length : Int) ≤ k) : Calls Tryd.prog 23 #[v, .int .i64 k] w (PPost w [] 1) := by
  obtain ⟨ad0, cap0, ev0⟩ := hs.len
  subst ev0
  clear hs
  by_cases h : k < 0
  · have d1 : decide (k < 0) = true := by simpa using h
    clear hk
    go_enter Tryd.func23, Tryd.ntmps23
    go_wp2
    go_ret2
    exact ⟨_, rfl, Ext.refl w, LR.nil w _⟩
  · have d1 : decide (k < 0) = false := by simpa using h
    have d2 : decide ((ls.length : Int) ≤ k) = true := by simp; omega
    have d3 : (ls.length : Int) ≤ k := by omega
    clear hk
    go_enter Tryd.func23, Tryd.ntmps23
    go_wp2
    go_ret2
    exact ⟨_, rfl, Ext.refl w, LR.nil w _⟩

/-- While a proof is judged. -/
def InvW (w : World) (root : List Int) (pf : List (List Int)) (R : Bool) (k n x u : Value) (wr : World) : Prop :=
  ∃ (q N j : Nat) (y : List Int), k = .int .i64 (q : Nat) ∧ n = .int .i64 (N : Nat) ∧ u = .int .i64 (j : Nat) ∧ q < N ∧ N < 9223372036854775808 ∧ j ≤ pf.length ∧ Src wr x y wr.heap.size ∧ y.length ≤ 1900 ∧ verL root y q N (pf.drop j) = R ∧ Ext w wr
theorem drop_nil (pf : List (List Int)) (j : Nat) (hj : j ≤ pf.length) : decide (pf.drop j = []) = decide (j = pf.length) := by
  by_cases h : j = pf.length
  · subst h; simp
  · have : pf.drop j ≠ [] := by simp; omega
    simp [h, this]

set_option maxHeartbeats 4000000 in
theorem verify_some (vr vl vp : Value) (root leaf : List Int) (pf : List (List Int)) (k n : Nat) (w : World) (hK : KAt w) (hr : Src w vr root w.heap.size) (hl : Src w vl leaf w.heap.size) (hp : LR w vp pf w.heap.size) (hk : k < n) (hn : n < 9223372036854775808) (hll : leaf.length ≤ 1900) (hpl : pf.length ≤ 1000000) (hb : ∀ m ∈ pf, m.length ≤ 1900) :
    Calls Tryd.prog 27 #[vr, vl, .int .i64 k, .int .i64 n, vp] w fun e w' => e = .returned (.bool (verL root leaf k n pf)) ∧ Ext w w' := by
  have c0 : InvW w root pf (verL root leaf k n pf) (.int .i64 k) (.int .i64 n) vl (.int .i64 0) w := ⟨k, n, 0, leaf, rfl, rfl, rfl, hk, hn, by omega, hl, hll, by simp, Ext.refl w⟩
  obtain ⟨adp, capp, ep⟩ := hp.len
  subst ep
  have d1 : decide ((k : Int) < 0) = false := by simp
  have d2 : decide ((n : Int) ≤ (k : Int)) = false := by simp; omega
  have d3 : ¬ ((n : Int) ≤ (k : Int)) := by omega
  have HB := Lib.hid hb; clear hb
  have HPR := Lib.hid hp; clear hp
  have HR := Lib.hid hr; clear hr
  obtain ⟨PL, hPL⟩ : ∃ PL, PL = pf.length := ⟨_, rfl⟩
  rw [← hPL] at hpl HPR ⊢
  have HPL := Lib.hid hPL; clear hPL
  clear hl hll
  generalize verL root leaf k n pf = R at *
  go_enter Tryd.func27, Tryd.ntmps27
  go_wp2
  go_loopw [2, 3, 11, 12] (fun k n x u wr => InvW w root pf R k n x u wr) (fun _ n _ _ _ => (intOf n).toNat)
  case atStart => exact c0
  case round =>
    clear c0
    obtain ⟨q, N, j, y, rfl, rfl, rfl, hq, hN, hj, sy, hy, hR, ex⟩ := hrel
    rw [← HPL.out] at hj
    have kr := hK.below ex hK.lt
    have q0 : (0 : Int) ≤ (q : Int) := by omega
    have N0 : (0 : Int) ≤ (N : Int) := by omega
    by_cases hgt : N ≤ 1
    · have i0 : ¬ ((1 : Int) < (N : Int)) := by omega
      have i9 : decide ((1 : Int) < (N : Int)) = false := by simp; omega
      rw [verL_one _ _ _ _ _ hgt, drop_nil pf j (by rw [← HPL.out]; exact hj)] at hR
      by_cases hjl : j = PL
      · have t1 : ((j : Int) == (PL : Int)) = true := by rw [beq_iff_eq]; omega
        rw [show decide (j = pf.length) = true by rw [← HPL.out]; simpa using hjl, Bool.true_and] at hR
        have sr := HR.out.now ex
        have HRR := Lib.hid hR
        clear hgt hjl hR
        go_wp2_with fail
        refine (deq_any _ _ y root wr sy sr).mono ?_
        rintro e w' ⟨rfl, rfl⟩
        go_wp2
        go_ret
        exact ⟨by rw [← HRR.out]; rfl, ex⟩
      · have t1 : ((j : Int) == (PL : Int)) = false := by rw [beq_eq_false_iff_ne]; omega
        rw [show decide (j = pf.length) = false by rw [← HPL.out]; simpa using hjl, Bool.false_and] at hR
        subst hR
        clear hgt
        go_wp2
        go_ret
        exact ⟨rfl, ex⟩
    · have i0 : (1 : Int) < (N : Int) := by omega
      have i9 : decide ((1 : Int) < (N : Int)) = true := by simp; omega
      have hnb := nb_lt q N hq
      obtain ⟨B, hB⟩ : ∃ B, B = nbL q := ⟨_, rfl⟩
      obtain ⟨Q2, hQ2⟩ : ∃ Q2, Q2 = q / 2 := ⟨_, rfl⟩
      obtain ⟨N2, hN2⟩ : ∃ N2, N2 = N - N / 2 := ⟨_, rfl⟩
      have hd2 : (q : Int) / 2 = (Q2 : Int) := by omega
      have hd3 : (N : Int) - (N : Int) / 2 = (N2 : Int) := by omega
      have hQN : Q2 < N2 := by omega
      have hN2l : N2 < N := by omega
      have wN2 : IntKind.i64.wrap (N2 : Int) = (N2 : Int) := IntWalk.i64_in _ (by omega)
      rw [← hB] at hnb
      have HBq := Lib.hid hB; clear hB
      have HQ2 := Lib.hid hQ2; clear hQ2
      have HN2 := Lib.hid hN2; clear hN2
      go_wp2_with fail
      refine (nb_any q wr (by omega)).mono ?_
      rintro e w' ⟨rfl, rfl⟩
      rw [← HBq.out]
      by_cases hlt : B < N
      · have i2 : (B : Int) < (N : Int) := by omega
        have i4 : decide ((B : Int) < (N : Int)) = true := by simp; omega
        by_cases hjl : j = PL
        · have t1 : ((j : Int) == (PL : Int)) = true := by rw [beq_iff_eq]; omega
          rw [show pf.drop j = [] by rw [List.drop_eq_nil_iff, ← HPL.out]; omega, verL_none _ _ _ _ hgt (by rw [← HBq.out]; exact hlt)] at hR
          subst hR
          clear hgt hjl
          go_wp2
          go_ret
          exact ⟨rfl, ex⟩
        · have t1 : ((j : Int) == (PL : Int)) = false := by rw [beq_eq_false_iff_ne]; omega
          have hj2 : j < PL := by omega
          have j0 : (j : Int) < (PL : Int) := by omega
          have j1 : (0 : Int) ≤ (j : Int) := by omega
          obtain ⟨m1, hm1⟩ : ∃ m, pf[j]? = some m := ⟨_, List.getElem?_eq_getElem (by rw [← HPL.out]; exact hj2)⟩
          have hpr := HPR.out
          rw [HPL.out] at hpr
          obtain ⟨cap1, pb, po, ev1, _, hc1⟩ := lr_get hpr (by rw [← HPL.out]; omega)
          injection ev1 with a1 _ a2
          subst a1 a2
          obtain ⟨x1, c1, s1⟩ := hc1 j m1 hm1
          have l1 := HB.out m1 (List.mem_of_getElem? hm1)
          have c1' : wr.cell? ⟨pb, po + j, none⟩ = some x1 := by rw [Below.cell (p := ⟨pb, po + j, none⟩) ex (World.block_lt_of_cell? w _ c1)]; exact c1
          have s1' := s1.now ex
          have ed : pf.drop j = m1 :: pf.drop (j + 1) := by
            rw [List.drop_eq_getElem_cons (by rw [← HPL.out]; exact hj2)]
            rw [(List.getElem?_eq_some_iff.1 hm1).2]
          rw [ed, verL_some _ _ _ _ _ _ hgt (by rw [← HBq.out]; exact hlt), ← HQ2.out, ← HN2.out] at hR
          clear hc1 hm1 ed hpr c1 s1 hgt
          go_wp2_with fail
          refine (joined_any q _ x1 y m1 wr (by omega) kr sy s1' (by omega) (by omega)).mono ?_
          rintro e W2 ⟨v2, rfl, e2, o2⟩
          clear c1' s1' kr
          go_wp2
          exact ⟨⟨Q2, N2, j + 1, joinL q y m1, rfl, rfl, by go_num, hQN, by omega, by rw [← HPL.out]; omega, o2.srcs _ (Or.inr (Nat.le_refl _)), by rw [joinL_length]; omega, hR, ex.trans e2⟩, by simp [intOf]; omega⟩
      · have i2 : ¬ ((B : Int) < (N : Int)) := by omega
        have i4 : decide ((B : Int) < (N : Int)) = false := by simp; omega
        rw [verL_alone _ _ _ _ _ hgt (by rw [← HBq.out]; exact hlt), ← HQ2.out, ← HN2.out] at hR
        clear hgt
        go_wp2
        exact ⟨⟨Q2, N2, j, y, rfl, rfl, rfl, hQN, by omega, by rw [← HPL.out]; exact hj, sy, hy, hR, ex⟩, by simp [intOf]; omega⟩

set_option maxHeartbeats 400000 in
theorem verify_none (vr vl vp : Value) (k n : Int) (w : World) (hk : k < 0 ∨ n ≤ k) : Calls Tryd.prog 27 #[vr, vl, .int .i64 k, .int .i64 n, vp] w fun e w' => e = .returned (.bool false) ∧ Ext w w' := by
  by_cases h : k < 0
  · have d1 : decide (k < 0) = true := by simpa using h
    clear hk
    go_enter Tryd.func27, Tryd.ntmps27
    go_wp2
    go_ret
    exact ⟨rfl, Ext.refl w⟩
  · have d1 : decide (k < 0) = false := by simpa using h
    have d3 : n ≤ k := by omega
    have d2 : decide (n ≤ k) = true := by simpa using d3
    clear hk
    go_enter Tryd.func27, Tryd.ntmps27
    go_wp2
    go_ret
    exact ⟨rfl, Ext.refl w⟩
end Go.Proofs.YtmplnlcmdcogmaaDoor
