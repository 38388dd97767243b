/- The walk of ParityGoes. -/
import Derived.Test.YthkdibppddamlaaPe
import Derived.Test.YthkdibppddamlaaPc
import Derived.Test.YthkdibppddamlaaWn
import Derived.Test.YthkdibppddamlaaRw
import Derived.BigQuiet
namespace Go.Proofs.Ythkdibppddamlaa
open Go.RowKit Go.Sha
set_option linter.unusedSimpArgs false

theorem grps_1 (B K : Int) (h : 1 ≤ B ∧ B ≤ 4096) (hK : 1 ≤ K ∧ K ≤ 8) : grpsN 1 B K = 1 := by
  unfold grpsN cntL
  rw [if_neg (by omega), if_neg (by omega)]
  have : (1 + B - 1) / B = 1 := by rw [show (1 : Int) + B - 1 = B by omega, Int.ediv_self (by omega)]
  rw [this, show (1 : Int) + K - 1 = K by omega, Int.ediv_self (by omega)]
theorem build_fits (old : List Int) (B K : Int) (h : 1 ≤ B ∧ B ≤ 4096) (hK : 1 ≤ K ∧ K ≤ 8) : fitsL (buildL old B K) old.length B K = true := by
  unfold fitsL
  rw [grps_1 B K h hK, buildL_length]
  have h1 := grpsN_nonneg old.length B K
  have h2 : (buildL old B K).all (fun x => (x.length : Int) == B) = true := by
    rw [List.all_eq_true]
    intro x hx
    have := buildL_all old B K x hx
    simp [this]; omega
  rw [h2]
  simp; omega

def InvG (w : World) (N : Nat) (B K : Int) (was p i : Value) (wr : World) : Prop :=
  ∃ (k : Nat) (old : List Int), k ≤ N ∧ i = .int .i64 k ∧ Ext w wr ∧ Src wr was old wr.heap.size ∧ LR wr p (buildL old B K) wr.heap.size ∧ old.length ≤ 2000
def True'' (w : World) (e : Ending) (w' : World) : Prop := e = .returned (.bool true) ∧ Ext w w'

set_option maxHeartbeats 8000000 in
theorem goes_any (v : Value) (ps : List (Value × List Int)) (B K : Int) (w : World) (hg : Arg w v ps) (_ : -9223372036854775808 ≤ B ∧ B ≤ 9223372036854775807) (_ : -9223372036854775808 ≤ K ∧ K ≤ 9223372036854775807) :
    Calls Try.prog 3 #[v, .int .i64 B, .int .i64 K] w (True'' w) := by
  obtain ⟨hs, hpl, hlen, _⟩ := hg
  have C := abytes_any 2000 (by omega) v ps w hs hpl hlen
  obtain ⟨ad, cap, pb, po, rfl, had, hp⟩ := hs
  obtain ⟨N, hN⟩ : ∃ N, N = ps.length := ⟨_, rfl⟩
  have HN := Lib.hid hN
  rw [← hN] at hpl C had ⊢
  clear hN hlen
  have Hp := Lib.hid hp; clear hp
  have Ha := Lib.hid had; clear had
  go_enter Try.func3, Try.ntmps3
  go_wp2_with fail
  refine C.mono ?_
  rintro e w1 ⟨n, hH, rfl, bel⟩
  clear C
  by_cases h0 : 2000 < n
  · have d0 : decide (2000 < n) = true := by simp; omega
    clear h0
    go_wp2_with fail
    refine (awake_any w1).mono ?_
    rintro e w' ⟨rfl, ex⟩
    go_wp2
    go_ret
    exact ⟨rfl, Ext.trans bel ex⟩
  have d0 : decide (2000 < n) = false := by simp; omega
  by_cases h1 : 20 < N
  · have d1 : decide ((20 : Int) < (N : Int)) = true := by simp; omega
    clear h1
    go_wp2_with fail
    refine (awake_any w1).mono ?_
    rintro e w' ⟨rfl, ex⟩
    go_wp2
    go_ret
    exact ⟨rfl, Ext.trans bel ex⟩
  have d1 : decide ((20 : Int) < (N : Int)) = false := by simp; omega
  by_cases h2 : B < 1
  · have d2 : decide (B < 1) = true := by simp; omega
    clear h2
    go_wp2_with fail
    refine (awake_any w1).mono ?_
    rintro e w' ⟨rfl, ex⟩
    go_wp2
    go_ret
    exact ⟨rfl, Ext.trans bel ex⟩
  have d2 : decide (B < 1) = false := by simp; omega
  by_cases h3 : 4096 < B
  · have d3 : decide (4096 < B) = true := by simp; omega
    clear h3
    go_wp2_with fail
    refine (awake_any w1).mono ?_
    rintro e w' ⟨rfl, ex⟩
    go_wp2
    go_ret
    exact ⟨rfl, Ext.trans bel ex⟩
  have d3 : decide (4096 < B) = false := by simp; omega
  by_cases h4 : K < 1
  · have d4 : decide (K < 1) = true := by simp; omega
    clear h4
    go_wp2_with fail
    refine (awake_any w1).mono ?_
    rintro e w' ⟨rfl, ex⟩
    go_wp2
    go_ret
    exact ⟨rfl, Ext.trans bel ex⟩
  have d4 : decide (K < 1) = false := by simp; omega
  by_cases h5 : 8 < K
  · have d5 : decide (8 < K) = true := by simp; omega
    clear h5
    go_wp2_with fail
    refine (awake_any w1).mono ?_
    rintro e w' ⟨rfl, ex⟩
    go_wp2
    go_ret
    exact ⟨rfl, Ext.trans bel ex⟩
  have d5 : decide (8 < K) = false := by simp; omega
  have htot : tot ps ≤ 2000 := by
    rcases hH with ⟨a, _⟩ | ⟨_, a⟩
    · exact a
    · omega
  have hxl : ∀ (k : Nat) (x : Value × List Int), ps[k]? = some x → x.2.length ≤ 2000 := fun k x hx => by
    have a1 := tot_take ps k x hx
    have a2 := tot_le ps (k + 1)
    omega
  have Hxl := Lib.hid hxl; clear hxl htot hH
  obtain ⟨b, rfl⟩ := Int.eq_ofNat_of_zero_le (show 0 ≤ B by omega)
  obtain ⟨c, rfl⟩ := Int.eq_ofNat_of_zero_le (show 0 ≤ K by omega)
  have hN20 : N ≤ 20 := by omega
  have hb1 : 1 ≤ b := by omega
  have hb2 : b ≤ 4096 := by omega
  have hc1 : 1 ≤ c := by omega
  have hc2 : c ≤ 8 := by omega
  clear h0 h1 h2 h3 h4 h5
  have snil : Src w1 (.slice none 0 0) [] w1.heap.size := ⟨none, 0, w1.heap.size + 1, 0, rfl, by simp, fun h => by simp at h, by omega, fun j hj => by simp at hj, fun _ => rfl⟩
  go_wp2_with fail
  refine (build_any _ [] b c w1 snil (by simp)).mono ?_
  rintro e w2 ⟨p, rfl, e2, l2⟩
  replace l2 := l2 w2.heap.size (Or.inr (Nat.le_refl _))
  have ex0 : Ext w w2 := Ext.trans bel e2
  have sn2 := snil.now e2
  clear snil e2 bel
  go_wp2
  go_loopw [7, 8, 9] (fun was p i wr => InvG w N b c was p i wr) (fun _ _ i _ => N - (intOf i).toNat)
  case atStart => exact ⟨0, [], by omega, rfl, ex0, sn2, l2, by simp⟩
  case round =>
    obtain ⟨k, old, hk, rfl, ex, so, lp, hol⟩ := hrel
    by_cases hlt : k < N
    · have i0 : (k : Int) < (N : Int) := by omega
      obtain ⟨x, hx⟩ : ∃ x, ps[k]? = some x := ⟨ps[k]'(by rw [← HN.out]; exact hlt), List.getElem?_eq_getElem (by rw [← HN.out]; exact hlt)⟩
      obtain ⟨hc, hsx⟩ := Hp.out k x hx
      have e := Ha.out (by omega)
      subst e
      have hxl := Hxl.out k x hx
      have hc' : wr.cell? ⟨pb, po + k, none⟩ = some x.1 := by rw [Below.cell (p := ⟨pb, po + k, none⟩) ex (World.block_lt_of_cell? w _ hc)]; exact hc
      have hsx' : Src wr x.1 x.2 wr.heap.size := hsx.now ex
      clear hc hsx hx
      obtain ⟨xv, m⟩ := x
      simp only at hxl hc' hsx'
      obtain ⟨adx, capx, ev⟩ := hsx'.len
      subst ev
      obtain ⟨M, hM⟩ : ∃ M, M = m.length := ⟨_, rfl⟩
      have HM := Lib.hid hM
      rw [← hM] at hxl hc' hsx'
      clear hM
      obtain ⟨Q, hQ⟩ : ∃ Q, Q = M / b := ⟨_, rfl⟩
      have q0 : ((M : Int)).tdiv (b : Int) = (Q : Int) := by rw [Int.tdiv_eq_ediv_of_nonneg (by omega), hQ]; rfl
      have q1 : Q ≤ M := by rw [hQ]; exact Nat.div_le_self _ _
      have b0 : ¬ ((b : Int) = 0) := by omega
      clear hQ
      by_cases hq : 200 < Q
      · have dq : decide ((200 : Int) < (Q : Int)) = true := by simp; omega
        clear hq
        go_wp2_with fail
        refine (awake_any wr).mono ?_
        rintro e w' ⟨rfl, e7⟩
        go_wp2
        go_ret
        exact ⟨rfl, ex.trans e7⟩
      · have dq : decide ((200 : Int) < (Q : Int)) = false := by simp; omega
        clear hq
        have hf := build_fits old b c (by omega) (by omega)
        have hbl : (buildL old b c).length ≤ 1048584 := by rw [buildL_length]; have := grpsN_le old.length b c; have := grpsN_nonneg old.length b c; omega
        have hbm : (buildL m b c).length ≤ 1048584 := by rw [buildL_length]; have := grpsN_le m.length b c; have := grpsN_nonneg m.length b c; omega
        have Hub := Lib.hid (upd_build old m b c (by omega))
        have hM2 : m.length ≤ 2000 := by rw [← HM.out]; exact hxl
        go_wp2_with fail
        refine (update_ok _ _ _ (buildL old b c) old m b c wr lp (by omega) so hsx' (by omega) (by omega) hf).mono ?_
        rintro e w3 ⟨q, rfl, e3, l3⟩
        rw [Hub.out] at l3
        replace l3 := l3 w3.heap.size (Or.inr (Nat.le_refl _))
        have hc3 : w3.cell? ⟨pb, po + k, none⟩ = some (.slice adx M capx) := by rw [Below.cell (p := ⟨pb, po + k, none⟩) e3 (World.block_lt_of_cell? wr _ hc')]; exact hc'
        have sx3 := hsx'.now e3
        clear hc' hsx' lp so hf
        go_wp2_with fail
        refine (rbuild_any _ m b c w3 sx3 (by omega)).mono ?_
        rintro e w4 ⟨q4, rfl, e4, l4⟩
        replace l4 := l4 w4.heap.size (Or.inr (Nat.le_refl _))
        have l34 := l3.now e4
        have hc4 : w4.cell? ⟨pb, po + k, none⟩ = some (.slice adx M capx) := by rw [Below.cell (p := ⟨pb, po + k, none⟩) e4 (World.block_lt_of_cell? w3 _ hc3)]; exact hc3
        have sx4 := sx3.now e4
        clear hc3 sx3 l3
        go_wp2_with fail
        refine (lists_any q q4 (buildL m b c) w4 l34 l4 (by omega)).mono ?_
        rintro e w5 ⟨rfl, e5⟩
        have l5 := l34.now e5
        have hc5 : w5.cell? ⟨pb, po + k, none⟩ = some (.slice adx M capx) := by rw [Below.cell (p := ⟨pb, po + k, none⟩) e5 (World.block_lt_of_cell? w4 _ hc4)]; exact hc4
        have sx5 := sx4.now e5
        have ex5 := ((ex.trans e3).trans e4).trans e5
        clear hc4 sx4 l34 l4 e3 e4 e5 ex
        go_wp2
        go_quiet (fail)
        go_wp2
        exact ⟨⟨k + 1, m, by omega, by go_num, belowN ex5 _, sx5.now (belowN (Ext.refl w5) _), l5.now (belowN (Ext.refl w5) _), hM2⟩, by simp [intOf]; omega⟩
    · obtain rfl : k = N := by omega
      go_wp2_with fail
      refine (awake_any wr).mono ?_
      rintro e w' ⟨rfl, e7⟩
      go_wp2
      go_ret
      exact ⟨rfl, ex.trans e7⟩
end Go.Proofs.Ythkdibppddamlaa
