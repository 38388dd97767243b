/- The contracts of Lists and Prove (the code's). -/
import Derived.Test.YtmplnlcmdcogmaaDoorWw
import Derived.Test.YtmplnlcmdcogmaaDoorSpec7
namespace Go.Proofs.YtmplnlcmdcogmaaDoor
open Go.RowKit Go.Sha
set_option linter.unusedSimpArgs false

theorem conv22 {w : World} {v : Value} {m : List Int} {b : Nat} (h : Src w v m b) : (convert 22 9 v).run Tryd.prog w = .ok (.string (strOfNums m)) w := conv_src (P := Tryd.prog) 22 9 5 Tryd.underlying22 Tryd.underlying5 Tryd.underlying9 h

def InvC (w : World) (n : Nat) (i : Value) (wr : World) : Prop := ∃ k : Nat, k ≤ n ∧ i = .int .i64 k ∧ Ext w wr

set_option maxHeartbeats 1000000 in
theorem lists_any (v u : Value) (ls : List (List Int)) (w : World) (hv : LR w v ls w.heap.size) (hu : LR w u ls w.heap.size) (hl : ls.length ≤ 1000000000) : Calls Tryd.prog 12 #[v, u] w fun e w' => e = .returned (.bool true) ∧ Ext w w' := by
  obtain ⟨adv, capv, ev⟩ := hv.len
  subst ev
  obtain ⟨adu, capu, eu⟩ := hu.len
  subst eu
  obtain ⟨N, hN⟩ : ∃ N, N = ls.length := ⟨_, rfl⟩
  have t0 : ((N : Int) == (N : Int)) = true := by simp
  have HV := Lib.hid hv; clear hv
  have HU := Lib.hid hu; clear hu
  rw [← hN] at HV HU hl ⊢
  have HN := Lib.hid hN; clear hN
  go_enter Tryd.func12, Tryd.ntmps12
  go_wp2
  go_loopw [5] (fun i wr => InvC w N i wr) (fun i _ => N - (intOf i).toNat)
  case atStart => exact ⟨0, by omega, rfl, Ext.refl w⟩
  case round =>
    obtain ⟨k, hk, rfl, ex⟩ := hrel
    by_cases hlt : k < N
    · have i0 : (k : Int) < (N : Int) := by omega
      have i1 : (0 : Int) ≤ (k : Int) := by omega
      obtain ⟨m1, hm1⟩ : ∃ m, ls[k]? = some m := ⟨_, List.getElem?_eq_getElem (by rw [← HN.out]; exact hlt)⟩
      have hv := HV.out
      have hu := HU.out
      rw [HN.out] at hv hu
      obtain ⟨cap1, pb, po, ev1, _, hc1⟩ := lr_get hv (by rw [← HN.out]; omega)
      obtain ⟨cap2, qb, qo, ev2, _, hc2⟩ := lr_get hu (by rw [← HN.out]; omega)
      injection ev1 with a1 _ a2
      injection ev2 with a3 _ a4
      subst a1 a2 a3 a4
      obtain ⟨x1, c1, s1⟩ := hc1 k m1 hm1
      obtain ⟨x2, c2, s2⟩ := hc2 k m1 hm1
      have c1' : wr.cell? ⟨pb, po + k, none⟩ = some x1 := by rw [Below.cell (p := ⟨pb, po + k, none⟩) ex (World.block_lt_of_cell? w _ c1)]; exact c1
      have c2' : wr.cell? ⟨qb, qo + k, none⟩ = some x2 := by rw [Below.cell (p := ⟨qb, qo + k, none⟩) ex (World.block_lt_of_cell? w _ c2)]; exact c2
      have v1 : ∀ n, (convert 22 9 x1).run Tryd.prog (wr.drewN n) = .ok (.string (strOfNums m1)) (wr.drewN n) := fun n => conv22 (s1.ext (below_drewN ex n))
      have v2 : ∀ n, (convert 22 9 x2).run Tryd.prog (wr.drewN n) = .ok (.string (strOfNums m1)) (wr.drewN n) := fun n => conv22 (s2.ext (below_drewN ex n))
      clear hv hu hc1 hc2 c1 c2 s1 s2 HV HU hm1
      go_wp2
      go_quiet (fail)
      go_wp2
      refine ⟨⟨k + 1, by omega, by go_num, below_drewN ex _⟩, by simp [intOf]; omega⟩
    · have i0 : ¬ ((k : Int) < (N : Int)) := by omega
      have d0 : decide ((k : Int) < (N : Int)) = false := by simp; omega
      clear hlt
      go_wp2
      go_ret
      exact ⟨rfl, ex⟩

/-- A proof, or none. -/
def PPost (w : World) (ps : List (List Int)) (err : Int) (e : Ending) (w' : World) : Prop := ∃ v, e = .returned (.tuple #[v, .int .i64 err]) ∧ Ext w w' ∧ LR w' v ps w'.heap.size
structure PC (w : World) (all : List (List Int)) (l p : Value) (q : Nat) (cur : List (List Int)) (ps : List (Value × List Int)) (wr : World) : Prop where
  lr : ∀ bh, (p.ownBlock = some bh ∨ wr.heap.size ≤ bh) → LR wr l cur bh
  own : OwnL wr w.heap.size p ps (Old w)
  all : ps.map (·.2) ++ proveL cur q = all
  pos : q < cur.length
  len : cur.length ≤ 1000000
  few : ps.length + cur.length ≤ 2000000
  bd : ∀ m ∈ cur, m.length ≤ 1000000
  ext : Ext w wr
def InvPC (w : World) (all : List (List Int)) (k p l : Value) (wr : World) : Prop := ∃ q cur ps, k = .int .i64 (q : Nat) ∧ PC w all l p q cur ps wr
theorem PC.now {w wr : World} {all : List (List Int)} {l p : Value} {q : Nat} {cur : List (List Int)} {ps : List (Value × List Int)} (h : PC w all l p q cur ps wr) : LR wr l cur wr.heap.size := h.lr _ (Or.inr (Nat.le_refl _))
theorem nb_lt (k n : Nat) (h : k < n) : nbL k ≤ n := by unfold nbL; split <;> omega

set_option maxHeartbeats 2000000 in
theorem prove_some (v : Value) (ls : List (List Int)) (k : Nat) (w : World) (hK : KAt w) (hs : LR w v ls w.heap.size) (hk : k < ls.length) (hl : ls.length ≤ 1000000) (hb : ∀ m ∈ ls, m.length ≤ 1000000) : Calls Tryd.prog 22 #[v, .int .i64 k] w (PPost w (proveL ls k) 0) := by
  have c0 : InvPC w (proveL ls k) (.int .i64 k) (.slice none 0 0) v w := ⟨k, ls, [], rfl, fun bh hbh => by
    rcases hbh with h | h
    · cases h
    · exact lr_kept.fresh hs h, OwnG.nil _ _ _ _ _, rfl, hk, hl, by simp; omega, hb, Ext.refl w⟩
  obtain ⟨ad0, cap0, ev0⟩ := hs.len
  subst ev0
  have d1 : decide ((k : Int) < 0) = false := by simp
  have d2 : decide ((ls.length : Int) ≤ (k : Int)) = false := by simp; omega
  have d3 : ¬ ((ls.length : Int) ≤ (k : Int)) := by omega
  clear hs hb
  generalize proveL ls k = T at *
  go_enter Tryd.func22, Tryd.ntmps22
  go_wp2
  go_loopw [1, 6, 7] (fun k p l wr => InvPC w T k p l wr) (fun _ _ l _ => sliceLen l)
  case atStart => exact c0
  case round =>
    clear c0
    obtain ⟨q, cur, ps, rfl, cu⟩ := hrel
    obtain ⟨adc, capc, ec⟩ := cu.now.len
    subst ec
    have kr := hK.below cu.ext hK.lt
    have hp := cu.pos
    have hcl := cu.len
    by_cases hgt : cur.length ≤ 1
    · have i0 : ¬ ((1 : Int) < (cur.length : Int)) := by omega
      have i9 : decide ((1 : Int) < (cur.length : Int)) = false := by simp; omega
      have hT : ps.map (·.2) = T := by have := cu.all; rwa [proveL_small cur q hgt, List.append_nil] at this
      have hfin : LR wr u6 T wr.heap.size := by rw [← hT]; exact cu.own.lr _ (Or.inr (Nat.le_refl _))
      have hex := cu.ext
      clear cu
      go_wp2
      go_ret2
      exact ⟨_, rfl, hex, hfin⟩
    · have i0 : (1 : Int) < (cur.length : Int) := by omega
      have i9 : decide ((1 : Int) < (cur.length : Int)) = true := by simp; omega
      have hall := cu.all
      rw [proveL_great cur q hgt] at hall
      have hnb := nb_lt q cur.length hp
      obtain ⟨B, hB⟩ : ∃ B, B = nbL q := ⟨_, rfl⟩
      rw [← hB] at hall hnb
      have HB := Lib.hid hB; clear hB
      have hul := upL_length cur
      have Hul := Lib.hid hul; clear hul
      obtain ⟨adp, capp, ep⟩ := cu.own.len
      subst ep
      obtain ⟨P, hP⟩ : ∃ P, P = ps.length := ⟨_, rfl⟩
      have hfew := cu.few
      have hlr := cu.now
      have hla := cu.lr
      have how := cu.own
      have hbd := cu.bd
      have hex := cu.ext
      rw [← hP] at how hfew hla ⊢
      have HP := Lib.hid hP; clear hP
      obtain ⟨Q2, hQ2⟩ : ∃ Q2, Q2 = q / 2 := ⟨_, rfl⟩
      have hd2 : (q : Int) / 2 = (Q2 : Int) := by omega
      rw [← hQ2] at hall
      have HQ2 := Lib.hid hQ2; clear hQ2
      have hq0 : (0 : Int) ≤ (q : Int) := by omega
      go_wp2_with fail
      refine (nb_any q wr (by omega)).mono ?_
      rintro e w' ⟨rfl, rfl⟩
      rw [← HB.out]
      by_cases hlt : B < cur.length
      · rw [if_pos hlt] at hall
        have i2 : (B : Int) < (cur.length : Int) := by omega
        have i3 : (0 : Int) ≤ (B : Int) := by omega
        have i4 : decide ((B : Int) < (cur.length : Int)) = true := by simp; omega
        obtain ⟨cap1, pb, po, ev1, _, hc1⟩ := lr_get hlr (by omega)
        injection ev1 with a1 _ a2
        subst a1 a2
        obtain ⟨m1, hm1⟩ : ∃ m, cur[B]? = some m := ⟨_, List.getElem?_eq_getElem hlt⟩
        obtain ⟨x1, c1, s1⟩ := hc1 B m1 hm1
        have l1 := hbd m1 (List.mem_of_getElem? hm1)
        rw [hm1] at hall
        clear hc1 hm1 cu
        go_wp2_with fail
        refine (clone_any x1 m1 wr s1 (by omega)).mono ?_
        rintro e W2 ⟨v2, rfl, e2, o2⟩
        have hsx := new_src o2 how hex
        obtain ⟨ad2, cap2, ev2⟩ := o2.len
        subst ev2
        have ow2 := how.ext src_kept e2
        have S2 : Below w.heap.size w W2 := Ext.trans hex e2
        have hsy := src_one_more (x := .slice ad2 m1.length cap2) (t := 22) hsx
        have S3 : Below w.heap.size w (W2.alloc (.cells #[.slice ad2 m1.length cap2] 22)) := Ext.trans S2 (Ext.alloc W2 _)
        have l2 := kept_one_more lr_kept (x := .slice ad2 m1.length cap2) (t := 22) (kept_ext lr_kept hla e2)
        clear hsx o2 how e2 c1 s1 hlr
        go_wp2_with (refine list_append_gg src_kept rfl (.tmp 27) (.tmp 33) 25 rfl (.slice none 0 0) 24 Tryd.underlying25 u22zero rfl (by omega) w.heap.size (.slice adp P capp) ps (Old w) rfl (own_one src_kept ow2 _ 22) W2.heap.size 1 _ m1 rfl (cell_one W2 _ 22) rfl hsy (by have := HP.out; omega) S3.size ?_; intro v3 w3 o3 b3 g3)
        have S4 : Below w.heap.size w w3 := Below.trans S3 b3
        have l3 := g3.keep lr_kept l2
        have k3 := hK.below S4 hK.lt
        clear l2 g3 hsy ow2 S2 S3 b3 hla
        refine (above_any _ cur w3 k3 (l3 _ (Or.inr (Nat.le_refl _))) (by omega) hcl hbd).mono ?_
        rintro e W5 ⟨v5, rfl, e5, l5⟩
        go_wp2
        refine ⟨⟨Q2, upL cur, _, rfl, fun bh hbh => l5 bh (hbh.imp_left fun h => (o3.block bh h).2), o3.ext src_kept e5, ?_, by rw [Hul.out, HQ2.out]; omega, by rw [Hul.out]; omega, by rw [Hul.out, List.length_append, List.length_singleton, ← HP.out]; omega, upL_bound 1000000 (by omega) cur hbd, Ext.trans S4 e5⟩, ?_⟩
        · rw [List.map_append, List.append_assoc]; exact hall
        · obtain ⟨ad5, cap5, ev5⟩ := (l5 _ (Or.inr (Nat.le_refl _))).len
          rw [ev5]
          simp [sliceLen, Hul.out]
          omega
      · rw [if_neg hlt] at hall
        have i2 : ¬ ((B : Int) < (cur.length : Int)) := by omega
        have i4 : decide ((B : Int) < (cur.length : Int)) = false := by simp; omega
        go_wp2_with fail
        refine (above_any _ cur wr kr hlr (by omega) hcl hbd).mono ?_
        rintro e W5 ⟨v5, rfl, e5, l5⟩
        go_wp2
        refine ⟨⟨Q2, upL cur, _, rfl, fun bh hbh => l5 bh (hbh.imp_left fun h => (how.block bh h).2), how.ext src_kept e5, hall, by rw [Hul.out, HQ2.out]; omega, by rw [Hul.out]; omega, by rw [Hul.out, ← HP.out]; omega, upL_bound 1000000 (by omega) cur hbd, Ext.trans hex e5⟩, ?_⟩
        obtain ⟨ad5, cap5, ev5⟩ := (l5 _ (Or.inr (Nat.le_refl _))).len
        rw [ev5]
        simp [sliceLen, Hul.out]
        omega

set_option maxHeartbeats 400000 in
theorem prove_none (v : Value) (ls : List (List Int)) (k : Int) (w : World) (hs : LR w v ls w.heap.size) (hk : k < 0 ∨ (ls.length : Int) ≤ k) : Calls Tryd.prog 22 #[v, .int .i64 k] w (PPost w [] 1) := by
  obtain ⟨ad0, cap0, ev0⟩ := hs.len
  subst ev0
  clear hs
  by_cases h : k < 0
  · have d1 : decide (k < 0) = true := by simpa using h
    clear hk
    go_enter Tryd.func22, Tryd.ntmps22
    go_wp2
    go_ret2
    exact ⟨_, rfl, Ext.refl w, LR.nil w _⟩
  · have d1 : decide (k < 0) = false := by simpa using h
    have d2 : decide ((ls.length : Int) ≤ k) = true := by simp; omega
    have d3 : (ls.length : Int) ≤ k := by omega
    clear hk
    go_enter Tryd.func22, Tryd.ntmps22
    go_wp2
    go_ret2
    exact ⟨_, rfl, Ext.refl w, LR.nil w _⟩
end Go.Proofs.YtmplnlcmdcogmaaDoor
