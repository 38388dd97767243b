/- The contracts of path's alike, lessParts, Under, Less. -/
import Derived.Test.YtbneedmfpldpfaaDoorWc
namespace Go.Proofs.YtbneedmfpldpfaaDoor
open Go.RowKit Go.Pth

theorem reti {a b : Int} (h : a = b) : Ending.returned (Value.int .i64 a) = Ending.returned (Value.int .i64 b) := by rw [h]
theorem tx_beq (a b : B) : ((tx a).toList == (tx b).toList) = (a == b) := by rw [tx_list, tx_list]
def InvK (x y : List B) (n i : Value) : Prop := ∃ k : Nat, k ≤ com x y ∧ n = .int .i64 k ∧ i = .int .i64 k
set_option maxHeartbeats 1000000 in
theorem alike_any (va vb : Value) (x y : List B) (w : World) (hx : Txt w va x) (hy : Txt w vb y) (lx : x.length ≤ 100) (ly : y.length ≤ 100) :
    Calls Tryd.prog 60 #[va, vb] w fun e w' => e = .returned (.int .i64 (com x y)) ∧ w = w' := by
  obtain ⟨ada, capa, ba, rfl, xa, xc⟩ := hx
  obtain ⟨adb, capb, bb, rfl, ya, yc⟩ := hy
  obtain ⟨L, hL⟩ : ∃ L, L = x.length := ⟨_, rfl⟩
  obtain ⟨M, hM⟩ : ∃ M, M = y.length := ⟨_, rfl⟩
  have cle := com_le x y
  rw [← hL] at xa xc lx cle ⊢
  rw [← hM] at ya yc ly cle ⊢
  obtain ⟨cl, cr⟩ := cle
  have XA := Lib.hid xa; have XC := Lib.hid xc; have YA := Lib.hid ya; have YC := Lib.hid yc; have HL := Lib.hid hL; have HM := Lib.hid hM
  clear xa xc ya yc hL hM
  go_enter Tryd.func60, Tryd.ntmps60
  go_wp2
  go_step3
  go_wp2
  go_step3
  go_wp2
  go_loop [5, 10] (fun n i => InvK x y n i) (fun _ i => L - (intOf i).toNat)
  case atStart => exact ⟨0, by omega, rfl, rfl⟩
  case round =>
    obtain ⟨k, hk, rfl, rfl⟩ := hrel
    have Hk := Lib.hid hk
    have S := Lib.hid (com_step x y k hk)
    have kl : k ≤ L := by omega
    have kr : k ≤ M := by omega
    clear hk cl cr
    by_cases hlt : k < L
    · have i0 : (0 : Int) ≤ (k : Int) := by omega
      have i1 : (k : Int) < (L : Int) := by omega
      have e1 := XA.out (by omega)
      subst e1
      have c1 := XC.out k hlt
      by_cases hm : k < M
      · have i2 : (k : Int) < (M : Int) := by omega
        have e2 := YA.out (by omega)
        subst e2
        have c2 := YC.out k hm
        have q := tx_beq (x[k]?.getD []) (y[k]?.getD [])
        have gx : x[k]? = some (x[k]?.getD []) := by rw [List.getElem?_eq_getElem (by rw [← HL.out]; exact hlt)]; rfl
        have gy : y[k]? = some (y[k]?.getD []) := by rw [List.getElem?_eq_getElem (by rw [← HM.out]; exact hm)]; rfl
        have GX := Lib.hid gx; have GY := Lib.hid gy
        clear gx gy
        cases hq : (x[k]?.getD []) == (y[k]?.getD []) with
        | true =>
          have hc : k < com x y := S.out.2 ⟨_, GX.out, by rw [eq_of_beq hq]; exact GY.out⟩
          have HC := Lib.hid hc
          rw [hq] at q
          clear hc hq
          go_wp2
          exact ⟨⟨k + 1, HC.out, rfl, rfl⟩, by simp [intOf]; omega⟩
        | false =>
          have hc : com x y = k := by
            have : ¬ k < com x y := fun h => by
              obtain ⟨a, h1, h2⟩ := S.out.1 h
              rw [h1, h2] at hq
              simp at hq
            have := Hk.out
            omega
          have HC := Lib.hid hc
          rw [hq] at q
          clear hc hq
          go_wp2
          go_ret
          exact ⟨reti (by rw [HC.out]), rfl⟩
      · have d2 : decide (k < M) = false := decide_eq_false (by omega)
        have hc : com x y = k := by
          have := (com_le x y).2
          rw [← HM.out] at this
          have := Hk.out
          omega
        have HC := Lib.hid hc
        clear hc hm
        go_wp2
        go_ret
        exact ⟨reti (by rw [HC.out]), rfl⟩
    · obtain rfl : k = L := by omega
      have hc : com x y = k := by
        have := (com_le x y).1
        rw [← HL.out] at this
        have := Hk.out
        omega
      have HC := Lib.hid hc
      clear hc hlt kl
      go_wp2
      go_ret
      exact ⟨reti (by rw [HC.out]), rfl⟩

theorem ltP_at (x y : List B) (n : Nat) (hn : n = com x y) (h1 : n ≠ y.length) (h2 : n ≠ x.length) : ltP x y = ltB (x[n]?.getD []) (y[n]?.getD []) := by
  subst hn
  unfold ltP
  rw [lex_com, if_neg h1, if_neg h2]
  have := com_le x y
  rw [List.getElem?_eq_getElem (by omega), List.getElem?_eq_getElem (by omega)]
  rfl
theorem ltP_end (x y : List B) (n : Nat) (hn : n = com x y) : (n = y.length → ltP x y = false) ∧ (n ≠ y.length → n = x.length → ltP x y = true) := by
  subst hn
  unfold ltP
  exact ⟨fun h => by rw [lex_com, if_pos h], fun h h2 => by rw [lex_com, if_neg h, if_pos h2]⟩
theorem tx_less (a b : B) : Op.bytesLess (tx a).toList (tx b).toList = ltB a b := by rw [tx_list, tx_list, bytesLess_ltB]
set_option maxHeartbeats 1000000 in
theorem lessParts_any (va vb : Value) (x y : List B) (w : World) (hx : Txt w va x) (hy : Txt w vb y) (lx : x.length ≤ 100) (ly : y.length ≤ 100) :
    Calls Tryd.prog 80 #[va, vb] w fun e w' => e = .returned (.bool (ltP x y)) ∧ Ext w w' := by
  have al := Lib.hid (alike_any va vb x y w hx hy lx ly)
  obtain ⟨ada, capa, ba, rfl, xa, xc⟩ := hx
  obtain ⟨adb, capb, bb, rfl, ya, yc⟩ := hy
  have cle := com_le x y
  obtain ⟨N, hN⟩ : ∃ N, N = com x y := ⟨_, rfl⟩
  have R0 := Lib.hid (ltP_at x y N hN)
  have R1 := Lib.hid (ltP_end x y N hN)
  rw [← hN] at al cle
  obtain ⟨L, hL⟩ : ∃ L, L = x.length := ⟨_, rfl⟩
  obtain ⟨M, hM⟩ : ∃ M, M = y.length := ⟨_, rfl⟩
  rw [← hL] at xa xc lx cle R0 R1 al ⊢
  rw [← hM] at ya yc ly cle R0 R1 al ⊢
  obtain ⟨cl, cr⟩ := cle
  have XA := Lib.hid xa; have XC := Lib.hid xc; have YA := Lib.hid ya; have YC := Lib.hid yc
  clear xa xc ya yc hL hM hN
  go_enter Tryd.func80, Tryd.ntmps80
  go_wp2_with fail
  refine (al.out).mono ?_
  rintro e w1 ⟨rfl, rfl⟩
  by_cases h1 : N = M
  · have r : ltP x y = false := R1.out.1 h1
    have R := Lib.hid r
    clear r R0 R1 al
    subst h1
    go_wp2
    go_ret
    exact ⟨retb R.out.symm, Ext.refl _⟩
  · by_cases h2 : N = L
    · have r : ltP x y = true := R1.out.2 h1 h2
      have R := Lib.hid r
      clear r R0 R1 al
      subst h2
      have d1 : (N == M) = false := by simpa using h1
      have d2 : ((N : Int) == (M : Int)) = false := by simp; omega
      clear h1
      go_wp2
      go_ret
      exact ⟨retb R.out.symm, Ext.refl _⟩
    · have R := Lib.hid (R0.out h1 h2)
      have n1 : N < L := by omega
      have n2 : N < M := by omega
      have e1 := XA.out (by omega)
      subst e1
      have e2 := YA.out (by omega)
      subst e2
      have c1 := XC.out N n1
      have c2 := YC.out N n2
      have q := tx_less (x[N]?.getD []) (y[N]?.getD [])
      have d1 : (N == M) = false := by simpa using h1
      have d2 : ((N : Int) == (M : Int)) = false := by simp; omega
      have d3 : (N == L) = false := by simpa using h2
      have d4 : ((N : Int) == (L : Int)) = false := by simp; omega
      have i0 : (0 : Int) ≤ (N : Int) := by omega
      have i1 : (N : Int) < (L : Int) := by omega
      have i2 : (N : Int) < (M : Int) := by omega
      clear h1 h2 R0 R1 al cl cr
      go_wp2_with fail
      go_quiet (fail)
      go_wp2
      go_ret
      refine ⟨retb ?_, ?_⟩
      · exact R.out.symm
      · first | exact Ext.refl _ | exact Ext.drew _ | exact Ext.drewN _ _
end Go.Proofs.YtbneedmfpldpfaaDoor
