/- The contract of the document's own Update. -/
import Derived.Test.YthkdibppddamlaaDoorPd
import Derived.Test.YthkdibppddamlaaDoorPc
import Derived.Test.YthkdibppddamlaaDoorPe
import Derived.BigRegion
namespace Go.Sha
open Go.Proofs.YthkdibppddamlaaDoor
theorem grps_1 (B K : Int) (h : 1 ≤ B ∧ B ≤ 4096) (hK : 1 ≤ K ∧ K ≤ 8) : grpsN 1 B K = 1 := by
  unfold grpsN cntL
  rw [if_neg (by omega), if_neg (by omega)]
  have : (1 + B - 1) / B = 1 := by rw [show (1 : Int) + B - 1 = B by omega, Int.ediv_self (by omega)]
  rw [this, show (1 : Int) + K - 1 = K by omega, Int.ediv_self (by omega)]
/-- What the document makes of a group. -/
def rupG (par : List (List Int)) (old now : List Int) (B : Int) (K g : Nat) : List Int :=
  if ((g : Nat) : Int) < grpsN old.length B K then xorL (xorL (parL now B K g) (parL old B K g)) (par[g]?.getD []) else parL now B K g
theorem xorL_swap : ∀ a b : List Int, a.length = b.length → xorL a b = xorL b a
  | [], [], _ => rfl
  | [], _ :: _, h => by simp at h
  | _ :: _, [], h => by simp at h
  | x :: a, y :: b, h => by simp only [xorL]; rw [xb_comm, xorL_swap a b (by simpa using h)]
theorem rup_upd (par : List (List Int)) (old now : List Int) (B : Int) (K g : Nat) (hK : 1 ≤ K) (hK8 : K ≤ 8) (hB : 0 ≤ B) (hl : ∀ x ∈ par, (x.length : Int) = B) (hb : ∀ x ∈ par, Byt x) (hn : (par.length : Int) = grpsN old.length B K) : rupG par old now B K g = updG par old now B K g := by
  unfold rupG updG
  by_cases hg : ((g : Nat) : Int) < grpsN old.length B K
  · rw [if_pos hg]
    obtain ⟨p, hp⟩ : ∃ p, par[g]? = some p := ⟨_, List.getElem?_eq_getElem (by omega)⟩
    have hpl := hl p (List.mem_of_getElem? hp)
    have hpb := hb p (List.mem_of_getElem? hp)
    rw [hp, Option.getD_some, Option.getD_some]
    have e1 := grp_eq (gb old B K g) p hpb
    have e2 := grp_eq (gb now B K g) (grp p (gb old B K g)) (grp_byt _ _ hpb)
    have n1 : p.length = B.toNat := by omega
    rw [grp_length] at e2
    rw [e2, e1, n1]
    show xorL (xorL (parL now B K g) (parL old B K g)) p = xorL (xorL p (parL old B K g)) (parL now B K g)
    rw [xorL_right, xorL_swap (parL now B K g) p (by rw [parL_length, n1]), xorL_right]
  · rw [if_neg hg]
    have hp : par[g]? = none := List.getElem?_eq_none_iff.2 (by omega)
    rw [hp, Option.getD_none, grp_none _ _ (gb_none old B K g hK hK8 (by omega))]
    rfl
/-- A row filled from its beginning. -/
def fillN (R : List Int) (b j : Nat) : List Int := R.take j ++ List.replicate (b - j) 0
theorem fillN_length (R : List Int) (b j : Nat) (h : R.length = b) (hj : j ≤ b) : (fillN R b j).length = b := by simp [fillN]; omega
theorem fillN_set (R : List Int) (b j : Nat) (h : R.length = b) (hj : j < b) : (fillN R b j).set j (R[j]?.getD 0) = fillN R b (j + 1) := by
  unfold fillN
  have ht : (R.take j).length = j := by simp; omega
  rw [List.set_append_right _ _ (by omega), ht, Nat.sub_self, show b - j = (b - (j + 1)) + 1 by omega, List.replicate_succ, List.set_cons_zero, List.take_succ_eq_append_getElem (show j < R.length by omega), List.getElem?_eq_getElem (show j < R.length by omega), List.append_assoc]
  rfl
theorem xorL_get (a b : List Int) (j : Nat) (hj : j < a.length) (hl : a.length = b.length) : (xorL a b)[j]?.getD 0 = xb (a[j]?.getD 0) (b[j]?.getD 0) := by
  induction a generalizing b j with
  | nil => simp at hj
  | cons x a ih =>
    cases b with
    | nil => simp at hl
    | cons y b =>
      cases j with
      | zero => simp [xorL]
      | succ j => simpa [xorL] using ih b j (by simpa using hj) (by simpa using hl)
end Go.Sha

namespace Go.Proofs.YthkdibppddamlaaDoor
open Go.RowKit Go.Sha
set_option linter.unusedSimpArgs false

def InvRf (w : World) (par : List (List Int)) (B : Int) (i : Value) (wr : World) : Prop := ∃ k : Nat, k ≤ par.length ∧ i = .int .i64 k ∧ w = wr ∧ (par.take k).all (fun x => (x.length : Int) == B) = true

set_option maxHeartbeats 2000000 in
theorem rupdate_not (v vo vn : Value) (par : List (List Int)) (old : List Int) (B K : Int) (w : World) (bh : Nat) (hv : LR w v par bh) (hl : par.length ≤ 1000000000) (ho : Src w vo old bh) (hf : fitsL par old.length B K = false) :
    Calls Tryd.prog 8 #[v, vo, vn, .int .i64 B, .int .i64 K] w (UPost w [] 1) := by
  obtain ⟨ado, capo, ev⟩ := ho.len
  subst ev
  obtain ⟨ad, cap, ev⟩ := hv.len
  subst ev
  have HF := Lib.hid hf; clear hf
  have HV := Lib.hid hv; clear hv
  obtain ⟨N, hN⟩ : ∃ N, N = par.length := ⟨_, rfl⟩
  have HN := Lib.hid hN
  rw [← hN] at HV hl ⊢
  clear hN
  by_cases h0 : B < 1
  · have d0 : decide (B < 1) = true := by simpa using h0
    clear h0 HF
    go_enter Tryd.func8, Tryd.ntmps8
    go_wp2
    go_ret2
    exact ⟨_, rfl, Ext.refl w, fun bh _ => LR.nil w bh⟩
  have d0 : decide (B < 1) = false := by simpa using h0
  by_cases h1 : 4096 < B
  · have d1 : decide (4096 < B) = true := by simpa using h1
    clear h1 HF
    go_enter Tryd.func8, Tryd.ntmps8
    go_wp2
    go_ret2
    exact ⟨_, rfl, Ext.refl w, fun bh _ => LR.nil w bh⟩
  have d1 : decide (4096 < B) = false := by simpa using h1
  by_cases h2 : K < 1
  · have d2 : decide (K < 1) = true := by simpa using h2
    clear h2 HF
    go_enter Tryd.func8, Tryd.ntmps8
    go_wp2
    go_ret2
    exact ⟨_, rfl, Ext.refl w, fun bh _ => LR.nil w bh⟩
  have d2 : decide (K < 1) = false := by simpa using h2
  by_cases h3 : 8 < K
  · have d3 : decide (8 < K) = true := by simpa using h3
    clear h3 HF
    go_enter Tryd.func8, Tryd.ntmps8
    go_wp2
    go_ret2
    exact ⟨_, rfl, Ext.refl w, fun bh _ => LR.nil w bh⟩
  have d3 : decide (8 < K) = false := by simpa using h3
  have C := Lib.hid (rgroups_any old.length B K w)
  obtain ⟨G, hG⟩ : ∃ G, G = grpsN old.length B K := ⟨_, rfl⟩
  rw [← hG] at C
  have HG := Lib.hid hG; clear hG
  have g1 := grps_1 B K (by omega) (by omega)
  by_cases hc : (N : Int) = G
  · have hnot : par.all (fun x => (x.length : Int) == B) = false := by
      have := HF.out
      unfold fitsL at this
      rw [g1, ← HN.out, ← HG.out, hc] at this
      simpa using this
    have Hnot := Lib.hid hnot; clear hnot
    have t2 : ((N : Int) != G) = false := by simpa using hc
    clear hc g1 h0 h1 h2 h3 HF
    go_enter Tryd.func8, Tryd.ntmps8
    go_wp2_with fail
    refine C.out.mono ?_
    rintro e w' ⟨rfl, rfl⟩
    clear C
    go_wp2
    go_loopw [12] (fun i wr => InvRf w par B i wr) (fun i _ => N - (intOf i).toNat)
    case atStart => exact ⟨0, by omega, rfl, rfl, by simp⟩
    case round =>
      obtain ⟨k, hk, rfl, rfl, hall⟩ := hrel
      rw [← HN.out] at hk
      by_cases hlt : k < N
      · have hv := HV.out
        rw [HN.out] at hv
        obtain ⟨cap1, pb, po, ev1, _, hc1⟩ := lr_at hv (by rw [← HN.out]; omega)
        injection ev1 with a1 _ a2
        subst a1 a2
        obtain ⟨m1, hm1⟩ : ∃ m, par[k]? = some m := ⟨_, List.getElem?_eq_getElem (by rw [← HN.out]; exact hlt)⟩
        obtain ⟨x1, c1, s1⟩ := hc1 k m1 hm1
        obtain ⟨adx, capx, ex1⟩ := s1.len
        subst ex1
        clear hv hc1 s1
        have i0 : (k : Int) < (N : Int) := by omega
        have hstep : (par.take (k + 1)).all (fun x => (x.length : Int) == B) = ((m1.length : Int) == B) := by
          rw [List.take_add_one, hm1, List.all_append, hall]; simp
        have Hs := Lib.hid hstep; clear hstep hm1 hall
        by_cases hb : (m1.length : Int) = B
        · have t3 : ((m1.length : Int) == B) = true := by simpa using hb
          rw [t3] at Hs
          replace t3 : ((m1.length : Int) != B) = false := by simpa using hb
          have Hb := Lib.hid hb; clear hb
          go_wp2
          exact ⟨⟨k + 1, by rw [← HN.out]; omega, by go_num, rfl, Hs.out⟩, by simp [intOf]; omega⟩
        · have t3 : ((m1.length : Int) != B) = true := by simpa using hb
          clear hb
          go_wp2
          go_ret2
          exact ⟨_, rfl, Ext.refl w, fun bh _ => LR.nil w bh⟩
      · obtain rfl : k = N := by omega
        rw [List.take_of_length_le (by rw [← HN.out]; omega), Hnot.out] at hall
        cases hall
  · have t2 : ((N : Int) != G) = true := by simpa using hc
    clear hc g1 h0 h1 h2 h3 HF
    go_enter Tryd.func8, Tryd.ntmps8
    go_wp2_with fail
    refine C.out.mono ?_
    rintro e w' ⟨rfl, rfl⟩
    go_wp2
    go_ret2
    exact ⟨_, rfl, Ext.refl w, fun bh _ => LR.nil w bh⟩
end Go.Proofs.YthkdibppddamlaaDoor
