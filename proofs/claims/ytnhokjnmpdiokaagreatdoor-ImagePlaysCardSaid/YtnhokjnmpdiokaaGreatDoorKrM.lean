/- The law's Round. No conditions: a contract. The walk of ImagePlays. No conditions: a contract. -/
import Derived.Test.YtnhokjnmpdiokaaGreatDoorJkM
import Derived.Test.YtnhokjnmpdiokaaGreatDoorKo
namespace Go.Proofs.YtnhokjnmpdiokaaGreatDoor
open Go.RowKit Go.Sha Go.Pth
set_option linter.unusedSimpArgs false
set_option linter.unusedVariables false

theorem tmod_pos (k n : Int) (hn : 0 < n) : -n < k.tmod n ∧ k.tmod n < n := by
  have h1 := Int.tmod_lt_of_pos k hn
  refine ⟨?_, h1⟩
  have h2 := Int.tmod_lt_of_pos (-k) hn
  rw [Int.neg_tmod] at h2
  omega
theorem round_any (k n : Int) (w : World) (hn : 0 < n) (hn2 : n ≤ 1000000) : Calls Tryz.prog 15 #[.int .i64 k, .int .i64 n] w fun e w' => (∃ c : Int, e = .returned (.int .i64 c) ∧ 0 ≤ c ∧ c < n) ∧ w = w' := by
  have h1 := tmod_pos k n hn
  have h0 : ¬ (n = 0) := by omega
  by_cases hs : k.tmod n < 0
  · have t1 : decide (k.tmod n < 0) = true := decide_eq_true hs
    have w1 : IntKind.i64.wrap (k.tmod n + n) = k.tmod n + n := IntWalk.i64_in _ (by omega)
    go_enter Tryz.func15, Tryz.ntmps15
    go_wp2
    go_ret
    exact ⟨⟨_, rfl, by omega, by omega⟩, rfl⟩
  · have t1 : decide (k.tmod n < 0) = false := decide_eq_false hs
    go_enter Tryz.func15, Tryz.ntmps15
    go_wp2
    go_ret
    exact ⟨⟨_, rfl, by omega, by omega⟩, rfl⟩
end Go.Proofs.YtnhokjnmpdiokaaGreatDoor

namespace Go.Proofs.YtnhokjnmpdiokaaGreatDoor
open Go.RowKit Go.Sha Go.Pth
set_option linter.unusedSimpArgs false
set_option linter.unusedVariables false

theorem tdiv_bd (a n : Int) (hn : 2 ≤ n := by omega) : 2 * (a.tdiv n).natAbs ≤ a.natAbs := by
  rw [Int.natAbs_tdiv]
  have h1 : a.natAbs / n.natAbs * n.natAbs ≤ a.natAbs := Nat.div_mul_le_self _ _
  have h2 : 2 ≤ n.natAbs := by omega
  have h3 : a.natAbs / n.natAbs * 2 ≤ a.natAbs / n.natAbs * n.natAbs := Nat.mul_le_mul_left _ h2
  show 2 * (a.natAbs / n.natAbs) ≤ _
  omega
def InvPl (w : World) (sb N : Nat) (a u i : Value) (wr : World) : Prop := ∃ (k ab : Nat) (lu : List RV), k ≤ N ∧ i = .int .i64 k ∧ a = V.ptr ab ∧ Bet w sb ab k u lu wr
set_option maxRecDepth 100000 in
set_option maxHeartbeats 32000000 in
theorem plays_any (v0 v1 : Value) (ls : List (List Int)) (rs : List Int) (w : World) (hK : KAt w) (h0 : IRR w v0 ls) (h1 : IR w v1 rs) (hl : ls.length ≤ 9223372036854775807) (hr : rs.length ≤ 9223372036854775807) (hb : B64 rs) :
    Calls Tryz.prog 4 #[v0, v1] w fun e w' => e = .returned (.bool true) ∧ Ext w w' := by
  have HK := Lib.hid hK
  have HB := Lib.hid hb
  have H1 := Lib.hid h1
  obtain ⟨ad0, cap0, b0, o0, ev0, ha0, hc0⟩ := h0
  obtain ⟨ad1, cap1, b1, o1, ev1, ha1, hc1⟩ := h1
  have HA0 := Lib.hid ha0
  have HC0 := Lib.hid hc0
  have HA1 := Lib.hid ha1
  have HC1 := Lib.hid hc1
  have FR := Lib.hid (fresh_any 4194304 w hK (by omega) (by omega))
  have AW := Lib.hid (fun (wr : World) (e : Ext w wr) => (awake_any wr (hK.below e hK.lt)).mono (R' := fun e w' => e = .returned (.bool true) ∧ Ext w w') fun _ _ q => ⟨q.1, e.trans q.2⟩)
  obtain ⟨N, hN⟩ : ∃ n, n = ls.length := ⟨_, rfl⟩
  obtain ⟨M, hM⟩ : ∃ n, n = rs.length := ⟨_, rfl⟩
  have HN := Lib.hid hN
  have HM := Lib.hid hM
  rw [← hN] at ev0 hl
  rw [← hM] at ev1 hr
  clear hK hb ha0 hc0 ha1 hc1 hN hM
  subst ev0 ev1
  unfold V.ptr at FR
  go_enter Tryz.func4, Tryz.ntmps4
  by_cases h12 : 12 < N
  · have d12 : decide ((12 : Int) < (N : Int)) = true := by simp; omega
    have A1 := Lib.hid (AW.out w (Ext.refl w))
    clear h12
    go_wp2_with fail
    refine (A1.out).mono ?_
    rintro e w2 ⟨rfl, e2⟩
    have F := Lib.hid e2
    clear e2 A1 FR
    go_wp2
    go_ret
    exact ⟨rfl, F.out⟩
  · have d12 : decide ((12 : Int) < (N : Int)) = false := by simp; omega
    have HL12 := Lib.hid (show N ≤ 12 by omega)
    clear h12
    go_wp2_with fail
    refine (FR.out).mono ?_
    rintro e w1 ⟨sb, ab, rfl, fr⟩
    obtain ⟨d, lw⟩ := Lw.fresh fr
    have BT := Lib.hid (show Bet w sb ab 0 (.slice none 0 0) [] w1 from Or.inl ⟨d, rfl, rfl, rfl, lw⟩)
    clear FR fr lw
    go_wp2
    go_loopw [6, 8, 9] (fun a u i wr => InvPl w sb N a u i wr) (fun _ _ i _ => N - (intOf i).toNat)
    case atStart => exact ⟨0, ab, [], by omega, rfl, rfl, BT.out⟩
    case round =>
      obtain ⟨k, ab, lu, hk, rfl, rfl, bt⟩ := hrel
      have BT := Lib.hid bt
      obtain ⟨adu, capu, eu⟩ := bt.len
      obtain ⟨LU, hLU⟩ : ∃ n, n = lu.length := ⟨_, rfl⟩
      rw [← hLU] at eu
      clear bt hLU
      subst eu
      unfold V.ptr
      by_cases hlt : k < N
      · have i0 : (k : Int) < (N : Int) := by omega
        have i1 : (0 : Int) ≤ (k : Int) := by omega
        obtain ⟨ms, hms⟩ : ∃ ms, ls[k]? = some ms := ⟨_, List.getElem?_eq_getElem (by rw [← HN.out]; exact hlt)⟩
        obtain ⟨um, hum, irm, hlm, hbm⟩ := HC0.out k ms hms
        have ea0 := HA0.out (by rw [← HN.out]; omega)
        subst ea0
        have ck := ext_cell BT.out.e hum
        have IM := Lib.hid irm
        have CKW := Lib.hid hum
        have HLM := Lib.hid hlm
        have HBM := Lib.hid hbm
        obtain ⟨adm, capm, em⟩ := ir_len irm
        obtain ⟨NM, hNM⟩ : ∃ n, n = ms.length := ⟨_, rfl⟩
        rw [← hNM] at em hlm
        clear hum irm hbm hms hNM
        subst em
        have CK := Lib.hid ck
        by_cases h30 : 30 < NM
        · have d30 : decide ((30 : Int) < (NM : Int)) = true := by simp; omega
          have A1 := Lib.hid (AW.out wr BT.out.e)
          clear h30
          go_wp2_with fail
          refine (A1.out).mono ?_
          rintro e w2 ⟨rfl, e2⟩
          have F := Lib.hid e2
          clear e2 A1
          go_wp2
          go_ret
          exact ⟨rfl, F.out⟩
        · have d30 : decide ((30 : Int) < (NM : Int)) = false := by simp; omega
          clear h30
          go_upto_region 12 with fail
          obtain ⟨Q, hQ⟩ : ∃ q : Bool, q = (decide (k < M) && decide (0 < k)) := ⟨_, rfl⟩
          have HQ := Lib.hid hQ
          clear hQ
          go_cut [50] from 43 to 50 (fun s50 wx => s50 = .bool Q ∧ wx = wr)
          case first =>
            by_cases hkm : k < M
            · have d1 : decide ((k : Int) < (M : Int)) = true := by simp; omega
              by_cases hk0 : 0 < k
              · have d2 : decide ((0 : Int) < (k : Int)) = true := by simp; omega
                have r1 : (decide (k < M) && decide (0 < k)) = true := by simp [hkm, hk0]
                have hq := HQ.out
                rw [r1] at hq
                subst hq
                go_wp2
                go_meet
                exact ⟨rfl, rfl⟩
              · have d2 : decide ((0 : Int) < (k : Int)) = false := by simp; omega
                have r1 : (decide (k < M) && decide (0 < k)) = false := by simp [hk0]
                have hq := HQ.out
                rw [r1] at hq
                subst hq
                go_wp2
                go_meet
                exact ⟨rfl, rfl⟩
            · have d1 : decide ((k : Int) < (M : Int)) = false := by simp; omega
              have r1 : (decide (k < M) && decide (0 < k)) = false := by simp [hkm]
              have hq := HQ.out
              rw [r1] at hq
              subst hq
              go_wp2
              go_meet
              exact ⟨rfl, rfl⟩
          case rest =>
          obtain ⟨rfl, rfl⟩ := hcut
          rename_i hnext
          refine hnext _ _ ?_
          clear hnext
          go_cut [6, 10, 11, 12, 13, 14, 15, 16] from 43 to 148 (fun s6 s10 s11 s12 s13 s14 s15 s16 wx => ∃ ab', s6 = .pointer (some ⟨ab', 0, none⟩) ∧ Mid w sb ab' k (.slice adu LU capu) lu wx)
          case first =>
            cases Q with
            | false =>
              go_wp2
              go_meet
              exact ⟨ab, rfl, BT.out.mid⟩
            | true =>
              have hq := HQ.out.symm
              simp only [Bool.and_eq_true, decide_eq_true_eq] at hq
              obtain ⟨a, ha⟩ : ∃ a, rs[k]? = some a := ⟨_, List.getElem?_eq_getElem (by rw [← HM.out]; exact hq.1)⟩
              have hab := HB.out a (List.mem_of_getElem? ha)
              have ea1 := HA1.out (by rw [← HM.out]; omega)
              subst ea1
              have CA := Lib.hid (HC1.out k a ha)
              have jk : (k : Int) < (M : Int) := by omega
              clear ha
              have CW := Lib.hid (ext_cell BT.out.e CA.out)
              go_upto_region 13 with fail
              refine wp_region_held (S := Ext wc) (by kernel_rfl) ?_
              change wpAnyH _ _ _ _ _ _ _ _ wc.drew
              have S0 : Ext wc wc.drew := Below.drew (Below.refl _ _)
              generalize wc.drew = W at *
              refine takeS 1 (some 52) (.slice (some ⟨b1, o1, none⟩) M cap1) rfl rfl (by kernel_rfl) (by kernel_rfl) (by kernel_rfl) (fun _ _ _ h => h) rfl S0 (fun w' hw' => by go_simp) ?_
              simp only [Act.put, List.setIfInBounds_toArray, List.set_cons_zero, List.set_cons_succ]
              refine takeS 2 (some 53) (.int .i64 (k : Int)) rfl rfl (by kernel_rfl) (by kernel_rfl) (by kernel_rfl) (fun _ _ _ h => h) rfl S0 (fun w' hw' => by go_simp) ?_
              simp only [Act.put, List.setIfInBounds_toArray, List.set_cons_zero, List.set_cons_succ]
              refine takeS 3 (some 54) (.pointer (some ⟨b1, o1 + k, none⟩)) rfl rfl (by kernel_rfl) (by kernel_rfl) (by kernel_rfl) (fun _ _ _ h => h) rfl S0 (fun w' hw' => by go_simp) ?_
              simp only [Act.put, List.setIfInBounds_toArray, List.set_cons_zero, List.set_cons_succ]
              refine takeS 4 (some 55) (.int .i64 a) rfl rfl (by kernel_rfl) (by kernel_rfl) (by kernel_rfl) (fun _ _ _ h => h) rfl S0 (fun w' hw' => by have cc := ext_cell hw' CW.out; go_simp) ?_
              simp only [Act.put, List.setIfInBounds_toArray, List.set_cons_zero, List.set_cons_succ]
              refine nextS 0 rfl (by kernel_rfl) rfl (callS (some 51) rfl 14 #[] (by go_simp) (fun v w' => v = .slice (some ⟨W.heap.size, 0, none⟩) 3 3 ∧ w' = W.alloc (.cells #[.string (cpT 0), .string (cpT 1), .string (cpT 2)] 9)) ((copies_any W).mono fun _ _ he => ⟨_, he.1, rfl, he.2⟩) ?_)
              rintro v1 W1 ⟨rfl, rfl⟩
              simp only [Act.put, List.setIfInBounds_toArray, List.set_cons_zero, List.set_cons_succ]
              have S1 : Ext wc (W.alloc (.cells #[.string (cpT 0), .string (cpT 1), .string (cpT 2)] 9)) := S0.trans (Ext.alloc _ _)
              have CP := Lib.hid (fun (j : Nat) (hj : j < 3) => (by
                have h := At.new W #[.string (cpT 0), .string (cpT 1), .string (cpT 2)] 9
                match j, hj with
                | 0, _ => exact h.cell 0
                | 1, _ => exact h.cell 1
                | 2, _ => exact h.cell 2 : (W.alloc (.cells #[.string (cpT 0), .string (cpT 1), .string (cpT 2)] 9)).cell? ⟨W.heap.size, j, none⟩ = some (.string (cpT j))))
              refine ⟨S1, ?_⟩
              generalize hW1 : W.alloc (.cells #[.string (cpT 0), .string (cpT 1), .string (cpT 2)] 9) = W1 at *
              generalize W.heap.size = gW at *
              refine nextS 5 rfl (by kernel_rfl) rfl (callS (some 56) rfl 15 #[.int .i64 a, .int .i64 3] (by go_simp) (fun v w' => ∃ j : Nat, v = .int .i64 (j : Int) ∧ j < 3 ∧ W1 = w') ((round_any a 3 W1 (by omega) (by omega)).mono fun _ _ he => by
                obtain ⟨⟨c, h1, h2, h3⟩, h4⟩ := he
                obtain ⟨j, rfl⟩ := Int.eq_ofNat_of_zero_le h2
                exact ⟨_, h1, j, rfl, by omega, h4⟩) ?_)
              rintro v2 W2 ⟨j, rfl, hj, rfl⟩
              simp only [Act.put, List.setIfInBounds_toArray, List.set_cons_zero, List.set_cons_succ]
              refine ⟨S1, ?_⟩
              have j3 : (j : Int) < 3 := by omega
              have j0 : (0 : Int) ≤ (j : Int) := by omega
              have CJ := Lib.hid (CP.out j hj)
              clear CP
              refine nextS 6 rfl (by kernel_rfl) rfl (makeS (some 57) rfl (.pointer (some ⟨gW, j, none⟩)) (w1 := W1) (by go_simp) ?_)
              simp only [Act.put, List.setIfInBounds_toArray, List.set_cons_zero, List.set_cons_succ]
              refine ⟨S1, ?_⟩
              refine nextS 7 rfl (by kernel_rfl) rfl (makeS (some 58) rfl (.string (cpT j)) (w1 := W1) (by have cc := CJ.out; go_simp) ?_)
              simp only [Act.put, List.setIfInBounds_toArray, List.set_cons_zero, List.set_cons_succ]
              refine ⟨S1, ?_⟩
              refine takeS 8 (some 10) (.string (cpT j)) rfl rfl (by kernel_rfl) (by kernel_rfl) (by kernel_rfl) (fun _ _ _ h => h) rfl S1 (fun w' hw' => by go_simp) ?_
              simp only [Act.put, List.setIfInBounds_toArray, List.set_cons_zero, List.set_cons_succ]
              refine wpAnyH_done (by kernel_rfl) ?_ _
              obtain ⟨d, k1, lw, hi, hb, ht⟩ := BT.out.resolve_left (by rintro ⟨_, q, _⟩; omega)
              have LW1 := Lib.hid (lw.ext S1)
              have ST := Lib.hid (LW1.out.stat j hj (by have := HL12.out; omega))
              obtain ⟨p, hp⟩ : ∃ p, p = pageI k (lu.map RV.d) := ⟨_, rfl⟩
              obtain ⟨NP, hNP⟩ : ∃ n, n = p.length := ⟨_, rfl⟩
              simp only [← hp, ← hNP] at ST
              unfold V.ptr at ST
              have HPP := Lib.hid hp
              have HNP := Lib.hid hNP
              have HIB := Lib.hid (And.intro hi (And.intro hb ht))
              clear S1 S0 CJ hW1 lw hp hNP hi hb ht
              go_wp2_with fail
              refine (ST.out).mono ?_
              rintro e w2 ⟨⟨q0, q3, q4, rfl⟩, e2⟩
              have E3 : Ext w2 (w2.alloc (.cells #[.string q0, .int .i64 1, .int .i64 (NP : Int), .int .i64 q3, .int .u64 q4] 40)) := Ext.alloc w2 _
              have A3 := At.new w2 #[.string q0, .int .i64 1, .int .i64 (NP : Int), .int .i64 q3, .int .u64 q4] 40
              go_upto_region 15 with fail
              generalize w2.alloc (.cells #[.string q0, .int .i64 1, .int .i64 (NP : Int), .int .i64 q3, .int .u64 q4] 40) = w3 at *
              obtain ⟨g3, hg3⟩ : ∃ g, g = w2.heap.size := ⟨_, rfl⟩
              rw [← hg3] at A3 ⊢
              have z2 := Lib.hid (show w3.cell? ⟨g3, 2, none⟩ = some (.int .i64 (NP : Int)) from (A3.cell 2).trans rfl)
              have LW3 := Lib.hid ((LW1.out.ext (ext_v e2)).ext E3)
              clear e2 E3 A3 hg3 ST LW1
              have hi := HIB.out.1
              have hb := HIB.out.2.1
              have ht := HIB.out.2.2
              --BEGIN
              refine wp_region_held (S := Ext w) (by kernel_rfl) ?_
              change wpAnyH _ _ _ _ _ _ _ _ w3.drew
              have dr : Ext w3 w3.drew := Below.drew (Below.refl _ _)
              have S0 : Ext w w3.drew := LW3.out.e.trans dr
              have LWd := Lib.hid (LW3.out.ext dr)
              have zd := Lib.hid (ext_cell dr z2.out)
              have NPB := page_len k hi
              rw [← HPP.out, ← HNP.out] at NPB
              clear dr LW3 z2 CW
              generalize w3.drew = V3 at *
              refine takeS 0 (some 65) (.int .i64 0) rfl rfl (by kernel_rfl) (by kernel_rfl) (by kernel_rfl) (fun _ _ _ h => h) rfl S0 (fun w' hw' => by go_simp) ?_
              simp only [Act.put, List.setIfInBounds_toArray, List.set_cons_zero, List.set_cons_succ]
              refine takeS 1 (some 66) (.bool false) rfl rfl (by kernel_rfl) (by kernel_rfl) (by kernel_rfl) (fun _ _ _ h => h) rfl S0 (fun w' hw' => by go_simp) ?_
              simp only [Act.put, List.setIfInBounds_toArray, List.set_cons_zero, List.set_cons_succ]
              refine takeS 2 (some 67) (.bool false) rfl rfl (by kernel_rfl) (by kernel_rfl) (by kernel_rfl) (fun _ _ _ h => h) rfl S0 (fun w' hw' => by go_simp) ?_
              simp only [Act.put, List.setIfInBounds_toArray, List.set_cons_zero, List.set_cons_succ]
              refine takeS 3 (some 68) (.pointer (some ⟨sb, 0, none⟩)) rfl rfl (by kernel_rfl) (by kernel_rfl) (by kernel_rfl) (fun _ _ _ h => h) rfl S0 (fun w' hw' => by go_simp) ?_
              simp only [Act.put, List.setIfInBounds_toArray, List.set_cons_zero, List.set_cons_succ]
              refine takeS 4 (some 69) (.string (cpT j)) rfl rfl (by kernel_rfl) (by kernel_rfl) (by kernel_rfl) (fun _ _ _ h => h) rfl S0 (fun w' hw' => by go_simp) ?_
              simp only [Act.put, List.setIfInBounds_toArray, List.set_cons_zero, List.set_cons_succ]
              refine takeS 5 (some 70) (.slice (some ⟨b1, o1, none⟩) M cap1) rfl rfl (by kernel_rfl) (by kernel_rfl) (by kernel_rfl) (fun _ _ _ h => h) rfl S0 (fun w' hw' => by go_simp) ?_
              simp only [Act.put, List.setIfInBounds_toArray, List.set_cons_zero, List.set_cons_succ]
              refine takeS 6 (some 71) (.int .i64 (k : Int)) rfl rfl (by kernel_rfl) (by kernel_rfl) (by kernel_rfl) (fun _ _ _ h => h) rfl S0 (fun w' hw' => by go_simp) ?_
              simp only [Act.put, List.setIfInBounds_toArray, List.set_cons_zero, List.set_cons_succ]
              refine takeS 7 (some 72) (.pointer (some ⟨b1, o1 + k, none⟩)) rfl rfl (by kernel_rfl) (by kernel_rfl) (by kernel_rfl) (fun _ _ _ h => h) rfl S0 (fun w' hw' => by go_simp) ?_
              simp only [Act.put, List.setIfInBounds_toArray, List.set_cons_zero, List.set_cons_succ]
              refine takeS 8 (some 73) (.int .i64 a) rfl rfl (by kernel_rfl) (by kernel_rfl) (by kernel_rfl) (fun _ _ _ h => h) rfl S0 (fun w' hw' => by have cc := ext_cell hw' CA.out; go_simp) ?_
              simp only [Act.put, List.setIfInBounds_toArray, List.set_cons_zero, List.set_cons_succ]
              refine takeS 9 (some 74) (.int .i64 (a.tdiv 3)) rfl rfl (by kernel_rfl) (by kernel_rfl) (by kernel_rfl) (fun _ _ _ h => h) rfl S0 (fun w' hw' => by go_simp; rw [IntKind.wrap_i64]; have := tdiv_bd a 3; omega) ?_
              simp only [Act.put, List.setIfInBounds_toArray, List.set_cons_zero, List.set_cons_succ]
              refine takeS 10 (some 75) (.pointer (some ⟨g3, 2, none⟩)) rfl rfl (by kernel_rfl) (by kernel_rfl) (by kernel_rfl) (fun _ _ _ h => h) rfl S0 (fun w' hw' => by go_simp) ?_
              simp only [Act.put, List.setIfInBounds_toArray, List.set_cons_zero, List.set_cons_succ]
              refine takeS 14 (some 79) (.slice (some ⟨b1, o1, none⟩) M cap1) rfl rfl (by kernel_rfl) (by kernel_rfl) (by kernel_rfl) (fun _ _ _ h => h) rfl S0 (fun w' hw' => by go_simp) ?_
              simp only [Act.put, List.setIfInBounds_toArray, List.set_cons_zero, List.set_cons_succ]
              refine takeS 15 (some 80) (.int .i64 (k : Int)) rfl rfl (by kernel_rfl) (by kernel_rfl) (by kernel_rfl) (fun _ _ _ h => h) rfl S0 (fun w' hw' => by go_simp) ?_
              simp only [Act.put, List.setIfInBounds_toArray, List.set_cons_zero, List.set_cons_succ]
              refine takeS 16 (some 81) (.pointer (some ⟨b1, o1 + k, none⟩)) rfl rfl (by kernel_rfl) (by kernel_rfl) (by kernel_rfl) (fun _ _ _ h => h) rfl S0 (fun w' hw' => by go_simp) ?_
              simp only [Act.put, List.setIfInBounds_toArray, List.set_cons_zero, List.set_cons_succ]
              refine takeS 17 (some 82) (.int .i64 a) rfl rfl (by kernel_rfl) (by kernel_rfl) (by kernel_rfl) (fun _ _ _ h => h) rfl S0 (fun w' hw' => by have cc := ext_cell hw' CA.out; go_simp) ?_
              simp only [Act.put, List.setIfInBounds_toArray, List.set_cons_zero, List.set_cons_succ]
              refine nextS 11 rfl (by kernel_rfl) rfl (makeS (some 76) rfl (.int .i64 (NP : Int)) (w1 := V3) (by have cc := zd.out; go_simp) ?_)
              simp only [Act.put, List.setIfInBounds_toArray, List.set_cons_zero, List.set_cons_succ]
              refine ⟨S0, ?_⟩
              refine nextS 12 rfl (by kernel_rfl) rfl (makeS (some 77) rfl (.int .i64 (NP : Int)) (w1 := V3) (by go_simp; omega) ?_)
              simp only [Act.put, List.setIfInBounds_toArray, List.set_cons_zero, List.set_cons_succ]
              refine ⟨S0, ?_⟩
              refine nextS 13 rfl (by kernel_rfl) rfl (callS (some 78) rfl 15 #[.int .i64 (a.tdiv 3), .int .i64 (NP : Int)] (by go_simp) (fun v w' => ∃ q : Nat, v = .int .i64 (q : Int) ∧ q < NP ∧ V3 = w') ((round_any (a.tdiv 3) (NP : Int) V3 (by omega) (by omega)).mono fun _ _ he => by
                obtain ⟨⟨c, h1, h2, h3⟩, h4⟩ := he
                obtain ⟨q, rfl⟩ := Int.eq_ofNat_of_zero_le h2
                exact ⟨_, h1, q, rfl, by omega, h4⟩) ?_)
              rintro v3 W3 ⟨q, rfl, hq, rfl⟩
              simp only [Act.put, List.setIfInBounds_toArray, List.set_cons_zero, List.set_cons_succ]
              refine ⟨S0, ?_⟩
              refine nextS 18 rfl (by kernel_rfl) rfl (callS (some 83) rfl 15 #[.int .i64 a, .int .i64 255] (by go_simp) (fun v w' => ∃ x : Nat, v = .int .i64 (x : Int) ∧ x < 255 ∧ V3 = w') ((round_any a 255 V3 (by omega) (by omega)).mono fun _ _ he => by
                obtain ⟨⟨c, h1, h2, h3⟩, h4⟩ := he
                obtain ⟨x, rfl⟩ := Int.eq_ofNat_of_zero_le h2
                exact ⟨_, h1, x, rfl, by omega, h4⟩) ?_)
              rintro v4 W4 ⟨x, rfl, hx, rfl⟩
              simp only [Act.put, List.setIfInBounds_toArray, List.set_cons_zero, List.set_cons_succ]
              refine ⟨S0, ?_⟩
              refine takeS 19 (some 84) (.int .u8 (x : Int)) rfl rfl (by kernel_rfl) (by kernel_rfl) (by kernel_rfl) (fun _ _ _ h => h) rfl S0 (fun w' hw' => by go_simp; rw [IntKind.wrap_u8']; omega) ?_
              simp only [Act.put, List.setIfInBounds_toArray, List.set_cons_zero, List.set_cons_succ]
              refine takeS 20 (some 85) (.int .u8 (1 + (x : Int))) rfl rfl (by kernel_rfl) (by kernel_rfl) (by kernel_rfl) (fun _ _ _ h => h) rfl S0 (fun w' hw' => by go_simp; rw [IntKind.wrap_u8']; omega) ?_
              simp only [Act.put, List.setIfInBounds_toArray, List.set_cons_zero, List.set_cons_succ]
              refine nextS 21 rfl (by kernel_rfl) rfl (callS (some 86) rfl 17 #[.pointer (some ⟨sb, 0, none⟩), .string (cpT j), .int .i64 (q : Int), .int .u8 (1 + (x : Int))] (by go_simp) (fun v w' => v = .int .i64 0 ∧ Lw w sb ab k (2 + 100 * k + 1) d 3 (V.upd (fun _ => p) j (V.rotB p q (1 + (x : Int)))) (.slice adu LU capu) lu w') ((LWd.out.rot j q hj (by have := HL12.out; omega) (1 + (x : Int)) (by omega) (by rw [← HPP.out, ← HNP.out]; exact hq)).mono fun _ _ he => ⟨_, he.1, rfl, by rw [HPP.out]; exact he.2⟩) ?_)
              rintro v5 V4 ⟨rfl, lw4⟩
              simp only [Act.put, List.setIfInBounds_toArray, List.set_cons_zero, List.set_cons_succ]
              have S4 : Ext w V4 := lw4.e
              have LW4 := Lib.hid lw4
              have SH4 := Lib.hid (lw4.shows hi)
              unfold V.ptr at SH4
              clear lw4 LWd zd S0
              refine ⟨S4, ?_⟩
              refine takeS 22 (some 87) (.bool false) rfl rfl (by kernel_rfl) (by kernel_rfl) (by kernel_rfl) (fun _ _ _ h => h) rfl S4 (fun w' hw' => by go_simp) ?_
              simp only [Act.put, List.setIfInBounds_toArray, List.set_cons_zero, List.set_cons_succ]
              refine takeS 23 (some 88) (.bool false) rfl rfl (by kernel_rfl) (by kernel_rfl) (by kernel_rfl) (fun _ _ _ h => h) rfl S4 (fun w' hw' => by go_simp) ?_
              simp only [Act.put, List.setIfInBounds_toArray, List.set_cons_zero, List.set_cons_succ]
              refine takeS 24 (some 89) (.bool false) rfl rfl (by kernel_rfl) (by kernel_rfl) (by kernel_rfl) (fun _ _ _ h => h) rfl S4 (fun w' hw' => by go_simp) ?_
              simp only [Act.put, List.setIfInBounds_toArray, List.set_cons_zero, List.set_cons_succ]
              refine takeS 25 (some 90) (.pointer (some ⟨ab, 0, none⟩)) rfl rfl (by kernel_rfl) (by kernel_rfl) (by kernel_rfl) (fun _ _ _ h => h) rfl S4 (fun w' hw' => by go_simp) ?_
              simp only [Act.put, List.setIfInBounds_toArray, List.set_cons_zero, List.set_cons_succ]
              refine takeS 26 (some 91) (.slice adu LU capu) rfl rfl (by kernel_rfl) (by kernel_rfl) (by kernel_rfl) (fun _ _ _ h => h) rfl S4 (fun w' hw' => by go_simp) ?_
              simp only [Act.put, List.setIfInBounds_toArray, List.set_cons_zero, List.set_cons_succ]
              refine takeS 27 (some 92) (.int .i64 (k : Int)) rfl rfl (by kernel_rfl) (by kernel_rfl) (by kernel_rfl) (fun _ _ _ h => h) rfl S4 (fun w' hw' => by go_simp) ?_
              simp only [Act.put, List.setIfInBounds_toArray, List.set_cons_zero, List.set_cons_succ]
              refine nextS 28 rfl (by kernel_rfl) rfl (callS (some 93) rfl 13 #[.pointer (some ⟨ab, 0, none⟩), .slice adu LU capu, .int .i64 (k : Int)] (by go_simp) (fun v w' => v = .bool true ∧ Ext V4 w') ((SH4.out).mono fun _ _ he => ⟨_, he.1, rfl, he.2⟩) ?_)
              rintro v6 V5 ⟨rfl, e5⟩
              simp only [Act.put, List.setIfInBounds_toArray, List.set_cons_zero, List.set_cons_succ]
              have S5 : Ext w V5 := S4.trans e5
              refine ⟨S5, ?_⟩
              refine takeS 29 (some 94) (.bool false) rfl rfl (by kernel_rfl) (by kernel_rfl) (by kernel_rfl) (fun _ _ _ h => h) rfl S5 (fun w' hw' => by go_simp) ?_
              simp only [Act.put, List.setIfInBounds_toArray, List.set_cons_zero, List.set_cons_succ]
              refine takeS 30 (some 95) (.bool false) rfl rfl (by kernel_rfl) (by kernel_rfl) (by kernel_rfl) (fun _ _ _ h => h) rfl S5 (fun w' hw' => by go_simp) ?_
              simp only [Act.put, List.setIfInBounds_toArray, List.set_cons_zero, List.set_cons_succ]
              refine wpAnyH_done (by kernel_rfl) ?_ _
              have LW5 := Lib.hid (LW4.out.ext e5)
              have CW5 := ext_cell S5 CA.out
              have R7 := Lib.hid (round_any (a.tdiv 7) 3 V5 (by omega) (by omega))
              have w7 : IntKind.i64.wrap (a.tdiv 7) = a.tdiv 7 := IntWalk.i64_in _ (by have := tdiv_bd a 7; omega)
              have HI := Lib.hid hi
              have HBB := Lib.hid hb
              have HT := Lib.hid ht
              have HQQ := Lib.hid (show q < p.length by rw [← HNP.out]; exact hq)
              have HX := Lib.hid hx
              have K1 := Lib.hid k1
              have HJ := Lib.hid hj
              clear SH4 LW4 S4 e5 hi hb ht hq hx k1 hj NPB
              go_wp2_with fail
              refine (R7.out).mono ?_
              rintro e w6 ⟨⟨c, rfl, hc0, hc3⟩, rfl⟩
              have PB := Lib.hid (show Byt p from by rw [HPP.out]; exact pageI_byt k HBB.out)
              have SE := Lib.hid (LW5.out.e)
              obtain hc | hc | hc : c = 0 ∨ c = 1 ∨ c = 2 := by omega
              · subst hc
                have SC := Lib.hid (LW5.out.scrub (by have := HL12.out; omega) HK.out HI.out HBB.out ⟨K1.out, by have := HL12.out; omega⟩)
                rw [← HPP.out, bad_at PB.out j HJ.out q HQQ.out (1 + (x : Int)) (by have := HX.out; omega), List.length_singleton] at SC
                unfold V.ptr at SC
                clear hc0 hc3 R7
                go_wp2_with fail
                refine (SC.out).mono ?_
                rintro e w8 ⟨rfl, lw8⟩
                have F := Lib.hid lw8
                clear lw8 SC
                go_wp2
                go_meet
                exact ⟨ab, rfl, Or.inr ⟨d, _, K1.out, F.out.up (by omega)⟩⟩
              · subst hc
                obtain ⟨y, hy⟩ : ∃ y, y = V.rotB p q (1 + (x : Int)) := ⟨_, rfl⟩
                obtain ⟨ca, cb, hab', hb3, ea, eb⟩ := two_left p j HJ.out (V.rotB p q (1 + (x : Int)))
                have OP := Lib.hid (LW5.out.open (by have := HL12.out; omega) HK.out HI.out HBB.out HT.out ⟨K1.out, by have := HL12.out; omega⟩ ca cb hab' hb3 (by rw [ea]; exact HPP.out) (by rw [eb]; exact HPP.out))
                unfold V.ptr at OP
                clear hc0 hc3 R7 hy ea eb hab' hb3
                go_wp2_with fail
                refine (OP.out).mono ?_
                rintro e w8 ⟨ab2, rfl, lw8⟩
                have LW8 := Lib.hid lw8
                have SH8 := Lib.hid (lw8.shows HI.out)
                unfold V.ptr at SH8
                clear lw8 OP
                go_wp2_with fail
                refine (SH8.out).mono ?_
                rintro e w9 ⟨rfl, e9⟩
                have F := Lib.hid (LW8.out.ext e9)
                clear SH8 e9 LW8
                go_wp2
                go_meet
                exact ⟨ab2, rfl, Or.inr ⟨d, _, K1.out, F.out.up (by omega)⟩⟩
              · subst hc
                have F := Lib.hid LW5.out
                clear hc0 hc3 R7 LW5
                go_wp2
                go_meet
                exact ⟨ab, rfl, Or.inr ⟨d, _, K1.out, F.out.up (by omega)⟩⟩
              --END
          case rest =>
            obtain ⟨ab', rfl, md⟩ := hcut
            have MD := Lib.hid md
            have ck2 := ext_cell md.e (CKW.out)
            have RF := Lib.hid (refs_any _ ms wc (ir_ext IM.out md.e) HBM.out HLM.out)
            clear md ck
            go_wp2_with fail
            refine (RF.out).mono ?_
            rintro e w3 ⟨u3, l3, rfl, e3, o3, hd3⟩
            have CM := Lib.hid (MD.out.commit (by have := HL12.out; omega) HK.out e3 HBM.out o3 hd3)
            obtain ⟨ad3, cap3, ev3⟩ := o3.len
            obtain ⟨N3, hN3⟩ : ∃ n, n = l3.length := ⟨_, rfl⟩
            rw [← hN3] at ev3
            unfold V.ptr at CM
            clear e3 o3 hd3 hN3 RF
            subst ev3
            go_wp2_with fail
            refine (CM.out).mono ?_
            rintro e w4 ⟨rfl, bt4⟩
            have SH := Lib.hid bt4.shows
            rw [show (((k + 1 : Nat) : Int)) = (k : Int) + 1 by omega] at SH
            unfold V.ptr at SH
            have wk : IntKind.i64.wrap ((k : Int) + 1) = (k : Int) + 1 := IntWalk.i64_in _ (by have := HL12.out; omega)
            clear bt4 CM
            go_wp2_with fail
            refine (SH.out).mono ?_
            rintro e w5 ⟨rfl, bt5⟩
            have B5 := Lib.hid bt5
            clear bt5 SH
            go_wp2
            exact ⟨⟨k + 1, ab', l3, by omega, by go_num, rfl, B5.out⟩, by simp [intOf]; omega⟩
      · have d0 : decide ((k : Int) < (N : Int)) = false := by simp; omega
        obtain rfl : k = N := by omega
        have OP := Lib.hid (BT.out.open HL12.out HK.out)
        unfold V.ptr at OP
        clear hlt
        go_wp2_with fail
        refine (OP.out).mono ?_
        rintro e w2 ⟨ab2, rfl, e2, sh⟩
        have SH := Lib.hid sh
        clear sh OP e2
        go_wp2_with fail
        refine (SH.out).mono ?_
        rintro e w3 ⟨rfl, e3⟩
        have A1 := Lib.hid (AW.out w3 e3)
        clear SH e3
        go_wp2_with fail
        refine (A1.out).mono ?_
        rintro e w4 ⟨rfl, e4⟩
        have F := Lib.hid e4
        clear e4 A1
        go_wp2
        go_ret
        exact ⟨rfl, F.out⟩
end Go.Proofs.YtnhokjnmpdiokaaGreatDoor
