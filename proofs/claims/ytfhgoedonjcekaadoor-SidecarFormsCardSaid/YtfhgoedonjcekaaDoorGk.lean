/- The document's own Root, with where it does not lie; small helps for regions that draw. -/
import Derived.Test.YtfhgoedonjcekaaDoorGj
import Derived.Test.YtfhgoedonjcekaaDoorGe
import Derived.Test.YtfhgoedonjcekaaDoorWw
namespace Go.Proofs.YtfhgoedonjcekaaDoor
open Go.RowKit Go.Sha
set_option linter.unusedSimpArgs false
set_option linter.unusedVariables false

/-- Bytes, wherever they lie, but in no block of A. -/
def RPost3 (w : World) (m : List Int) (A : Nat → Prop) (e : Ending) (w' : World) : Prop := ∃ v, e = .returned v ∧ Ext w w' ∧ Src w' v m w'.heap.size ∧ ∀ bh, A bh → Src w' v m bh
def InvTR3 (w : World) (top : List (List Int)) (A : Nat → Prop) (l : Value) (wr : World) : Prop := ∃ cur, Cur w top l cur wr ∧ (∀ m ∈ cur, m.length ≤ 14000) ∧ ∀ bh, A bh → LR wr l cur bh

set_option maxHeartbeats 1000000 in
theorem rroot3_any (v : Value) (ls : List (List Int)) (w : World) (A : Nat → Prop) (hA : ∀ bh, A bh → bh < w.heap.size) (hs : LR w v ls w.heap.size) (hfar : ∀ bh, A bh → LR w v ls bh) (hl : ls.length ≤ 1000000) (hb : ∀ m ∈ ls, m.length ≤ 14000) : Calls Tryd.prog 31 #[v] w (RPost3 w (rootL ls) A) := by
  obtain ⟨ad0, cap0, ev0⟩ := hs.len
  subst ev0
  by_cases h0 : 0 < ls.length
  · have t0 : ((ls.length : Int) == 0) = false := by rw [beq_eq_false_iff_ne]; omega
    have c0 : InvTR3 w (topL ls) A (.slice ad0 ls.length cap0) w := ⟨ls, ⟨hs, rfl, h0, hl, fun m hm => Nat.le_trans (hb m hm) (by omega), Ext.refl w⟩, hb, hfar⟩
    have hr : rootL ls = (topL ls)[0]?.getD [] := by rw [rootL, if_neg (by omega)]
    rw [hr]
    clear hs hb hr hfar
    generalize topL ls = T at *
    go_enter Tryd.func31, Tryd.ntmps31
    go_wp2
    go_loopw [0] (fun l wr => InvTR3 w T A l wr) (fun l _ => sliceLen l)
    case atStart => exact c0
    case round =>
      clear c0
      obtain ⟨cur, cu, hbc, hfc⟩ := hrel
      obtain ⟨adc, capc, ec⟩ := cu.lr.len
      subst ec
      have hp := cu.pos
      have hcl := cu.len
      by_cases hgt : cur.length ≤ 1
      · have hT := cu.top
        rw [topL_small cur hgt] at hT
        obtain ⟨cap, pb, po, ev, hpb, hc⟩ := lr_get cu.lr hp
        obtain ⟨m1, hm1⟩ : ∃ m, cur[0]? = some m := ⟨_, List.getElem?_eq_getElem hp⟩
        obtain ⟨x1, c1, s1⟩ := hc 0 m1 hm1
        injection ev with ev1 _ ev2
        subst ev1 ev2
        have s2 : ∀ bh, A bh → Src wr x1 m1 bh := fun bh hb => lr_src (hfc bh hb) ⟨_, rfl⟩ 0 m1 hm1 x1 c1
        have i0 : ¬ ((1 : Int) < (cur.length : Int)) := by omega
        have d0 : decide ((1 : Int) < (cur.length : Int)) = false := by simp; omega
        have i1 : (0 : Int) < (cur.length : Int) := by omega
        have hm : T[0]?.getD [] = m1 := by rw [← hT, hm1]; rfl
        have Hm := Lib.hid hm
        rw [Nat.add_zero] at c1
        have hex := cu.ext
        clear hc hm1 hT cu hgt hm hfc
        go_wp2
        go_ret
        exact ⟨x1, rfl, hex, by rw [Hm.out]; exact s1, by rw [Hm.out]; exact s2⟩
      · have i0 : (1 : Int) < (cur.length : Int) := by omega
        have d0 : decide ((1 : Int) < (cur.length : Int)) = true := by simp; omega
        go_wp2_with fail
        refine (up_any _ cur wr cu.lr hp hcl hbc).mono ?_
        rintro e W2 ⟨v2, rfl, e2, l3, lf⟩
        have lf2 : ∀ bh, A bh → LR W2 v2 (upL cur) bh := fun bh hb => lf bh (Nat.lt_of_lt_of_le (hA bh hb) cu.ext.size) (hfc bh hb)
        go_wp2
        have hul := upL_length cur
        refine ⟨⟨upL cur, ⟨l3, by rw [← topL_great cur hgt]; exact cu.top, by omega, by omega, upL_bound 1000000 (by omega) cur cu.bd, cu.ext.trans e2⟩, upL_bound 14000 (by omega) cur hbc, lf2⟩, ?_⟩
        obtain ⟨ad3, cap3, e3⟩ := l3.len
        rw [e3]
        simp [sliceLen, hul]
        omega
  · have e0 : ls = [] := List.length_eq_zero_iff.1 (by omega)
    subst e0
    clear hs hb hfar
    have hS : Src w (.slice none 0 0) [] w.heap.size := ⟨none, 0, w.heap.size + 1, 0, rfl, by simp, fun h => by simp at h, by omega, fun j hj => by simp at hj, fun _ => rfl⟩
    go_enter Tryd.func31, Tryd.ntmps31
    go_wp2_with fail
    refine (ref_any _ [] w hS (by simp)).mono ?_
    rintro e w5 ⟨v5, rfl, b5, o5⟩
    go_wp2
    go_ret
    exact ⟨v5, rfl, b5, o5.srcs _ (Or.inr (Nat.le_refl _)), fun bh hb => o5.srcs _ (Or.inl (hA bh hb))⟩



/-- In a region that draws: one of two comes up. -/
theorem nextS2 {P : Program} {md : Region.Mode} {ops : Array Oper} {Q : Exit → Act → World → Prop} {S : World → Prop} (i j : Nat) {oi oj : Oper} {fuel : Nat} {listed : Array Bool} {a : Act} {w : World} (hi : ops[i]? = some oi) (hj : ops[j]? = some oj)
    (hr : Region.ready md ops listed = [i, j]) (hwi : Region.wanted oi (yielded ops a.tmps) = true) (hwj : Region.wanted oj (yielded ops a.tmps) = true)
    (h1 : oi.wp P a w (fun a' w' => S w' ∧ wpAnyH P md ops Q S fuel (listed.setIfInBounds i true) a' w') Q)
    (h2 : oj.wp P a w (fun a' w' => S w' ∧ wpAnyH P md ops Q S fuel (listed.setIfInBounds j true) a' w') Q) : wpAnyH P md ops Q S (fuel + 1) listed a w := by
  refine wpAnyH_all hr (by simp) fun k hk => ?_
  have hk : k = i ∨ k = j := by simpa using hk
  rcases hk with rfl | rfl
  · refine wpOp_step hi fun K hK => ?_
    rw [if_pos hwi]
    exact Oper.wp_mono (fun a' w' h' => hK a' w' h') h1
  · refine wpOp_step hj fun K hK => ?_
    rw [if_pos hwj]
    exact Oper.wp_mono (fun a' w' h' => hK a' w' h') h2
theorem rFld_len : ∀ (c : Nat) (l : List Int) (hb : Byt l) (fs : List (List Int)) (l2 : List Int), rFld c l = some (fs, l2) → (encLs fs).length + l2.length = l.length
  | 0, l, hb, fs, l2, h => by
    rw [rFld] at h
    injection h with h
    injection h with h1 h2
    subst h1 h2
    simp [encLs]
  | c + 1, l, hb, fs, l2, h => by
    rw [rFld] at h
    split at h
    · rename_i h0
      obtain ⟨⟨ls0, l0⟩, hp, hq⟩ := Option.map_eq_some_iff.1 h
      injection hq with h1 h2
      subst h1 h2
      have hi := rFld_len c _ (rCnt_byt l 0 4096 hb).2 ls0 l0 hp
      obtain ⟨m, r, e, hc⟩ : ∃ m r e, rCnt l 0 4096 = (m, r, e) := ⟨_, _, _, rfl⟩
      rw [hc] at h0 hi ⊢
      simp only at h0 hi ⊢
      subst h0
      obtain ⟨hl, _⟩ := rCnt_inv l hb 4096 m r hc
      rw [hl]
      have e2 : encLs (m :: ls0) = encB m ++ encLs ls0 := by simp [encLs]
      rw [e2, List.length_append, List.length_append]
      omega
    · cases h
end Go.Proofs.YtfhgoedonjcekaaDoor
