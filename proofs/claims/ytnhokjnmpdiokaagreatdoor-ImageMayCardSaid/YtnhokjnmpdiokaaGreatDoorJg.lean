/- The law's count of Refs: it answers. No conditions but those named: contracts. -/
import Derived.Test.YtnhokjnmpdiokaaGreatDoorJaM
namespace Go.Proofs.YtnhokjnmpdiokaaGreatDoor
open Go.RowKit Go.Sha Go.Pth
set_option linter.unusedSimpArgs false
set_option linter.unusedVariables false

def InvAs (w : World) (a i : Value) (wr : World) : Prop := ∃ (n : Int) (k : Nat), a = .int .i64 n ∧ (0 ≤ n ∧ n ≤ 1099511627776) ∧ i = .int .i64 k ∧ k ≤ 3 ∧ w = wr
set_option maxRecDepth 100000 in
set_option maxHeartbeats 8000000 in
theorem asum_one (a x y z : Int) (g : Nat) (w : World) (ha : 0 ≤ a ∧ a ≤ 1099511627776) (hx : 0 ≤ x ∧ x ≤ 9223372036854775807) (hy : 0 ≤ y ∧ y ≤ 9223372036854775807) (hz : 0 ≤ z ∧ z ≤ 9223372036854775807)
    (c0 : w.cell? ⟨g, 0, none⟩ = some (.int .i64 x)) (c1 : w.cell? ⟨g, 1, none⟩ = some (.int .i64 y)) (c2 : w.cell? ⟨g, 2, none⟩ = some (.int .i64 z)) :
    Calls Tryz.prog 26 #[.int .i64 a, .slice (some ⟨g, 0, none⟩) 3 3] w fun e w' => (∃ n : Int, e = .returned (.int .i64 n) ∧ 0 ≤ n ∧ n ≤ 1099511627776) ∧ w = w' := by
  have hb : ∀ k : Nat, k < 3 → ∃ u : Int, w.cell? ⟨g, k, none⟩ = some (.int .i64 u) ∧ 0 ≤ u ∧ u ≤ 9223372036854775807 := fun k hk => by
    match k, hk with
    | 0, _ => exact ⟨x, c0, hx⟩
    | 1, _ => exact ⟨y, c1, hy⟩
    | 2, _ => exact ⟨z, c2, hz⟩
  have HB := Lib.hid hb
  have HA := Lib.hid ha
  clear hb c0 c1 c2 hx hy hz ha
  go_enter Tryz.func26, Tryz.ntmps26
  go_wp2
  go_loopw [0, 5] (fun a i wr => InvAs w a i wr) (fun _ i _ => 3 - (intOf i).toNat)
  case atStart => exact ⟨a, 0, rfl, HA.out, rfl, by omega, rfl⟩
  case round =>
    obtain ⟨n, k, rfl, hn, rfl, hk, rfl⟩ := hrel
    by_cases hlt : k < 3
    · have i0 : (k : Int) < 3 := by omega
      have i1 : (0 : Int) ≤ (k : Int) := by omega
      obtain ⟨u, cu, hu⟩ := HB.out k hlt
      have d1 : decide ((1099511627776 : Int) < n) = false := by simp; omega
      by_cases hb : 1099511627776 - n < u
      · have d2 : decide (1099511627776 - n < u) = true := decide_eq_true hb
        clear hb
        go_wp2
        go_ret
        exact ⟨⟨_, rfl, by omega, by omega⟩, rfl⟩
      · have d2 : decide (1099511627776 - n < u) = false := decide_eq_false hb
        have w1 : IntKind.i64.wrap (n + u) = n + u := IntWalk.i64_in _ (by omega)
        go_wp2
        exact ⟨⟨n + u, k + 1, rfl, by omega, by go_num, by omega, rfl⟩, by simp [intOf]; omega⟩
    · have d0 : decide ((k : Int) < 3) = false := by simp; omega
      obtain rfl : k = 3 := by omega
      go_wp2
      go_ret
      exact ⟨⟨_, rfl, hn.1, hn.2⟩, rfl⟩
def InvAr (w : World) (N : Nat) (a i : Value) (wr : World) : Prop := ∃ (n : Int) (k : Nat), a = .int .i64 n ∧ (0 ≤ n ∧ n ≤ 1099511627776) ∧ i = .int .i64 k ∧ k ≤ N ∧ Ext w wr
set_option maxRecDepth 100000 in
set_option maxHeartbeats 16000000 in
theorem arefs_any (X : Nat → Prop) (v : Value) (l : List RV) (w : World) (h : RR X w v l) (hl : l.length ≤ 9223372036854775807) (hpr : ∀ x ∈ l, x.p.size ≤ 9223372036854775807 ∧ x.r.length ≤ 9223372036854775807) :
    Calls Tryz.prog 7 #[v, .int .i64 5000] w fun e w' => (∃ n : Int, e = .returned (.int .i64 n)) ∧ Ext w w' := by
  obtain ⟨ad, cap, b, o, h⟩ := h
  have ev := h.val
  subst ev
  have HR := Lib.hid h
  have hcap := h.cap_
  have hadr := Lib.hid h.adr
  have HB := Lib.hid hpr
  obtain ⟨n, hn⟩ : ∃ n, n = l.length := ⟨_, rfl⟩
  have HN := Lib.hid hn
  rw [← hn] at hcap hl ⊢
  clear hn h hpr
  go_enter Tryz.func7, Tryz.ntmps7
  go_wp2
  go_loopw [5, 6] (fun a i wr => InvAr w n a i wr) (fun _ i _ => n - (intOf i).toNat)
  case atStart => exact ⟨0, 0, rfl, ⟨by omega, by omega⟩, rfl, by omega, Ext.refl w⟩
  case round =>
    obtain ⟨a, k, rfl, hab, rfl, hk, ex⟩ := hrel
    have HAB := Lib.hid hab
    have EX := Lib.hid ex
    by_cases hlt : k < n
    · have i0 : (k : Int) < (n : Int) := by omega
      have i1 : (0 : Int) ≤ (k : Int) := by omega
      by_cases hlim : a ≤ 5000
      · have dl : decide (a ≤ 5000) = true := decide_eq_true hlim
        obtain ⟨x, hx⟩ : ∃ x, l[k]? = some x := ⟨_, List.getElem?_eq_getElem (by rw [← HN.out]; exact hlt)⟩
        have ea := hadr.out (by rw [← HN.out]; omega)
        subst ea
        obtain ⟨c0, c1, c2, c3, c4, c5⟩ := HR.out.cells k x hx
        have S1 := HR.out.src x (List.mem_of_getElem? hx)
        have hpr := HB.out x (List.mem_of_getElem? hx)
        obtain ⟨p, xk, z, m, t, vv, r⟩ := x
        simp only at c0 c1 c2 c3 c4 c5 S1 hpr
        obtain ⟨adx, capx, evx, -⟩ := S1.val
        obtain ⟨R, hR⟩ : ∃ n, n = r.length := ⟨_, rfl⟩
        obtain ⟨P, hP⟩ : ∃ n, n = p.size := ⟨_, rfl⟩
        rw [← hR] at evx
        rw [← hR, ← hP] at hpr
        subst evx
        have HPR := Lib.hid (show (P : Int) ≤ 9223372036854775807 ∧ (R : Int) ≤ 9223372036854775807 by omega)
        have HP := Lib.hid (show ((p.size : Nat) : Int) = (P : Int) by rw [hP])
        replace c0 := Lib.hid (ext_cell EX.out c0)
        replace c5 := Lib.hid (ext_cell EX.out c5)
        clear hx S1 hpr hR hP c1 c2 c3 c4 hab ex
        go_upto_region 5 with fail
        refine wp_region_held (S := Ext wr) (by kernel_rfl) ?_
        change wpAnyH _ _ _ _ _ _ _ _ wr.drew
        have S0 : Ext wr wr.drew := Below.drew (Below.refl _ _)
        generalize wr.drew = W at *
        refine takeS 0 (some 18) (.int .i64 a) rfl rfl (by kernel_rfl) (by kernel_rfl) (by kernel_rfl) (fun _ _ _ h => h) rfl S0 (fun w' hw' => by go_simp) ?_
        simp only [Act.put, List.setIfInBounds_toArray, List.set_cons_zero, List.set_cons_succ]
        refine takeS 1 (some 19) (.slice (some ⟨b, o, none⟩) n cap) rfl rfl (by kernel_rfl) (by kernel_rfl) (by kernel_rfl) (fun _ _ _ h => h) rfl S0 (fun w' hw' => by go_simp) ?_
        simp only [Act.put, List.setIfInBounds_toArray, List.set_cons_zero, List.set_cons_succ]
        refine takeS 2 (some 20) (.int .i64 (k : Int)) rfl rfl (by kernel_rfl) (by kernel_rfl) (by kernel_rfl) (fun _ _ _ h => h) rfl S0 (fun w' hw' => by go_simp) ?_
        simp only [Act.put, List.setIfInBounds_toArray, List.set_cons_zero, List.set_cons_succ]
        refine takeS 3 (some 21) (.pointer (some ⟨b, o + k * 6, none⟩)) rfl rfl (by kernel_rfl) (by kernel_rfl) (by kernel_rfl) (fun _ _ _ h => h) rfl S0 (fun w' hw' => by go_simp) ?_
        simp only [Act.put, List.setIfInBounds_toArray, List.set_cons_zero, List.set_cons_succ]
        refine takeS 4 (some 22) (.pointer (some ⟨b, o + k * 6, none⟩)) rfl rfl (by kernel_rfl) (by kernel_rfl) (by kernel_rfl) (fun _ _ _ h => h) rfl S0 (fun w' hw' => by go_simp) ?_
        simp only [Act.put, List.setIfInBounds_toArray, List.set_cons_zero, List.set_cons_succ]
        refine takeS 5 (some 23) (.string p) rfl rfl (by kernel_rfl) (by kernel_rfl) (by kernel_rfl) (fun _ _ _ h => h) rfl S0 (fun w' hw' => by have cc := ext_cell hw' c0.out; go_simp) ?_
        simp only [Act.put, List.setIfInBounds_toArray, List.set_cons_zero, List.set_cons_succ]
        refine takeS 6 (some 24) (.int .i64 (P : Int)) rfl rfl (by kernel_rfl) (by kernel_rfl) (by kernel_rfl) (fun _ _ _ h => h) rfl S0 (fun w' hw' => by have cc := HP.out; go_simp) ?_
        simp only [Act.put, List.setIfInBounds_toArray, List.set_cons_zero, List.set_cons_succ]
        refine takeS 7 (some 25) (.slice (some ⟨b, o, none⟩) n cap) rfl rfl (by kernel_rfl) (by kernel_rfl) (by kernel_rfl) (fun _ _ _ h => h) rfl S0 (fun w' hw' => by go_simp) ?_
        simp only [Act.put, List.setIfInBounds_toArray, List.set_cons_zero, List.set_cons_succ]
        refine takeS 8 (some 26) (.int .i64 (k : Int)) rfl rfl (by kernel_rfl) (by kernel_rfl) (by kernel_rfl) (fun _ _ _ h => h) rfl S0 (fun w' hw' => by go_simp) ?_
        simp only [Act.put, List.setIfInBounds_toArray, List.set_cons_zero, List.set_cons_succ]
        refine takeS 9 (some 27) (.pointer (some ⟨b, o + k * 6, none⟩)) rfl rfl (by kernel_rfl) (by kernel_rfl) (by kernel_rfl) (fun _ _ _ h => h) rfl S0 (fun w' hw' => by go_simp) ?_
        simp only [Act.put, List.setIfInBounds_toArray, List.set_cons_zero, List.set_cons_succ]
        refine takeS 10 (some 28) (.pointer (some ⟨b, o + k * 6 + 5, none⟩)) rfl rfl (by kernel_rfl) (by kernel_rfl) (by kernel_rfl) (fun _ _ _ h => h) rfl S0 (fun w' hw' => by go_simp) ?_
        simp only [Act.put, List.setIfInBounds_toArray, List.set_cons_zero, List.set_cons_succ]
        refine takeS 11 (some 29) (.slice adx R capx) rfl rfl (by kernel_rfl) (by kernel_rfl) (by kernel_rfl) (fun _ _ _ h => h) rfl S0 (fun w' hw' => by have cc := ext_cell hw' c5.out; go_simp) ?_
        simp only [Act.put, List.setIfInBounds_toArray, List.set_cons_zero, List.set_cons_succ]
        refine takeS 12 (some 30) (.int .i64 (R : Int)) rfl rfl (by kernel_rfl) (by kernel_rfl) (by kernel_rfl) (fun _ _ _ h => h) rfl S0 (fun w' hw' => by go_simp) ?_
        simp only [Act.put, List.setIfInBounds_toArray, List.set_cons_zero, List.set_cons_succ]
        refine nextS 13 rfl (by kernel_rfl) rfl (makeS (some 31) rfl (.slice (some ⟨W.heap.size, 0, none⟩) 3 3) (w1 := (W.alloc (.cells #[.int .i64 (P : Int), .int .i64 (R : Int), .int .i64 1] 3))) (by go_simp) ?_)
        simp only [Act.put, List.setIfInBounds_toArray, List.set_cons_zero, List.set_cons_succ]
        have S1 : Ext wr (W.alloc (.cells #[.int .i64 (P : Int), .int .i64 (R : Int), .int .i64 1] 3)) := S0.trans (Ext.alloc _ _)
        refine ⟨S1, ?_⟩
        refine nextS 14 rfl (by kernel_rfl) rfl (callS (some 32) rfl 26 #[.int .i64 a, .slice (some ⟨W.heap.size, 0, none⟩) 3 3] (by go_simp) (fun v w' => ∃ n : Int, v = .int .i64 n ∧ (0 ≤ n ∧ n ≤ 1099511627776) ∧ Ext wr w') (((asum_one a P R 1 W.heap.size (W.alloc (.cells #[.int .i64 (P : Int), .int .i64 (R : Int), .int .i64 1] 3)) HAB.out ⟨by omega, HPR.out.1⟩ ⟨by omega, HPR.out.2⟩ ⟨by omega, by omega⟩ ((At.new W _ _).cell 0) ((At.new W _ _).cell 1) ((At.new W _ _).cell 2)).mono fun _ _ he => by obtain ⟨⟨n, h1, h2, h3⟩, rfl⟩ := he; exact ⟨_, h1, n, rfl, ⟨h2, h3⟩, S1⟩)) ?_)
        rintro v2 W2 ⟨m, rfl, hm, S2⟩
        simp only [Act.put, List.setIfInBounds_toArray, List.set_cons_zero, List.set_cons_succ]
        refine ⟨S2, ?_⟩
        refine takeS 15 (some 5) (.int .i64 m) rfl rfl (by kernel_rfl) (by kernel_rfl) (by kernel_rfl) (fun _ _ _ h => h) rfl S2 (fun w' hw' => by go_simp) ?_
        simp only [Act.put, List.setIfInBounds_toArray, List.set_cons_zero, List.set_cons_succ]
        refine wpAnyH_done (by kernel_rfl) ?_ _
        have F := Lib.hid (And.intro hm (EX.out.trans S2))
        clear hm S2 S1 S0
        go_wp2
        exact ⟨⟨m, k + 1, rfl, F.out.1, by go_num, by omega, F.out.2⟩, by simp [intOf]; omega⟩
      · have dl : decide (a ≤ 5000) = false := decide_eq_false hlim
        clear ex hab
        go_wp2
        go_ret
        exact ⟨⟨_, rfl⟩, EX.out⟩
    · have d0 : decide ((k : Int) < (n : Int)) = false := by simp; omega
      obtain rfl : k = n := by omega
      clear ex hab hlt
      go_wp2
      go_ret
      exact ⟨⟨_, rfl⟩, EX.out⟩
end Go.Proofs.YtnhokjnmpdiokaaGreatDoor
