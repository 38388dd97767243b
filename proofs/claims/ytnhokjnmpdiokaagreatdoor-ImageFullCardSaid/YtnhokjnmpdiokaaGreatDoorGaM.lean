/- The contracts of slices.Grow of nothing, slices.Concat of two, Seal (the code's and the document's). The contracts of Seal (the code's and the document's). -/
import Derived.Test.YtnhokjnmpdiokaaGreatDoorSpM
import Derived.Lib.AppendZeros
namespace Go.Proofs.YtnhokjnmpdiokaaGreatDoor
open Go.RowKit Go.Sha
set_option linter.unusedSimpArgs false

theorem grow_zero (w : World) : Calls Tryz.prog 125 #[.slice none 0 0, .int .i64 0] w (BPost w []) := by
  go_enter Tryz.func125, Tryz.ntmps125
  go_wp2
  go_ret
  exact ⟨_, rfl, Ext.refl w, OwnB.nil w _⟩
set_option maxHeartbeats 1000000 in
set_option maxRecDepth 100000 in
theorem grow_pos (n : Nat) (w : World) (h0 : 0 < n) (hn : n ≤ 1000000000) : Calls Tryz.prog 125 #[.slice none 0 0, .int .i64 (n : Int)] w (BPost w []) := by
  obtain ⟨i, hi, hz⟩ := Option.map_eq_some_iff.1 u8zero
  simp only [Prod.mk.injEq] at hz
  obtain ⟨hz1, hz2, hz3⟩ := hz
  have hr := fun ty => Lib.run_append_nil_zeros (P := Tryz.prog) w 50 3 ty 5 i (.int .u8 0) .i64 .i64 Tryz.underlying50 Tryz.underlying3 hi hz1 n h0 (by rw [hz2]; omega) (by omega) (by rw [hz3]; omega)
  have hc := grownCap_ge w n 0 5
  obtain ⟨C, hC⟩ : ∃ C, C = grownCap w n 0 5 := ⟨_, rfl⟩
  rw [← hC] at hr hc
  have i0 : (0 : Int) < (n : Int) := by omega
  have d0 : decide ((n : Int) < 0) = false := by simp
  have d1 : decide ((0 : Int) < (n : Int)) = true := by simp; omega
  have d2 : decide (0 < n) = true := by simp; omega
  have HR := Lib.hid hr; clear hr
  have HC := Lib.hid hC; clear hC
  go_enter Tryz.func125, Tryz.ntmps125
  go_wp2_with (refine Lib.wpList_append_run w rfl (.tmp 20) (.tmp 21) 50 3 rfl (.slice none 0 0) (.int .i64 (n : Int)) rfl rfl _ _ (HR.out _) ?_)
  go_ret
  refine ⟨.slice (some ⟨w.heap.size, 0, none⟩) 0 C, rfl, Below.drew (Ext.alloc w _), by simp, Or.inr ⟨_, C, _, rfl, Nat.le_refl _, heap_alloc_last w _, Nat.zero_le _, by rw [HC.out]; exact grownCap_le_maxLen w n 0 5 (by unfold maxLen; omega), ?_, by simp⟩⟩
  rw [Array.size_append, size_zeroCells, size_zeroCells]
  simp only [List.size_toArray, List.length_cons, List.length_nil]
  omega

theorem flat_take (ps : List (Value × List Int)) (k : Nat) (x : Value × List Int) (hx : ps[k]? = some x) : flat (ps.take (k + 1)) = flat (ps.take k) ++ x.2 := by
  have hk : k < ps.length := (List.getElem?_eq_some_iff.1 hx).1
  rw [List.take_succ_eq_append_getElem hk, (List.getElem?_eq_some_iff.1 hx).2, flat_snoc]
theorem flat_take_le (ps : List (Value × List Int)) (k : Nat) : (flat (ps.take k)).length ≤ (flat ps).length := by
  have e : flat ps = flat (ps.take k) ++ flat (ps.drop k) := by
    unfold flat
    rw [← List.flatten_append, ← List.map_append, List.take_append_drop]
  rw [e, List.length_append]
  omega
def InvCc (w : World) (ps : List (Value × List Int)) (s i : Value) (wr : World) : Prop := ∃ k : Nat, k ≤ ps.length ∧ i = .int .i64 k ∧ s = .int .i64 ((flat (ps.take k)).length : Int) ∧ w = wr
def InvCd (w : World) (ps : List (Value × List Int)) (v i : Value) (wr : World) : Prop := ∃ k : Nat, k ≤ ps.length ∧ i = .int .i64 k ∧ OwnB wr w.heap.size v (flat (ps.take k)) ∧ Ext w wr
set_option maxHeartbeats 2000000 in
set_option maxRecDepth 100000 in
theorem concat_any (v : Value) (ps : List (Value × List Int)) (w : World) (hs : Srcs w v ps) (hl : (flat ps).length ≤ 1000000000) (hp : ps.length ≤ 1000000) : Calls Tryz.prog 103 #[v] w (BPost w (flat ps)) := by
  obtain ⟨ad, cap, pb, po, rfl, h1, h2⟩ := hs
  have HC := Lib.hid h2; clear h2
  have H1 := Lib.hid h1; clear h1
  obtain ⟨N, hN⟩ : ∃ N, N = ps.length := ⟨_, rfl⟩
  rw [← hN] at hp ⊢
  have HN := Lib.hid hN; clear hN
  have HL := Lib.hid hl; clear hl
  go_enter Tryz.func103, Tryz.ntmps103
  go_wp2
  go_loopw [3, 11] (fun s i wr => InvCc w ps s i wr) (fun _ i _ => N - (intOf i).toNat)
  case atStart => exact ⟨0, by omega, rfl, by simp [flat], rfl⟩
  case round =>
    obtain ⟨k, hk, rfl, rfl, rfl⟩ := hrel
    rw [← HN.out] at hk
    obtain ⟨s0, hs0⟩ : ∃ s, s = (flat (ps.take k)).length := ⟨_, rfl⟩
    rw [← hs0]
    have hs0b : s0 ≤ 1000000000 := by rw [hs0]; exact Nat.le_trans (flat_take_le ps k) HL.out
    by_cases hlt : k < N
    · obtain ⟨x, hx⟩ : ∃ x, ps[k]? = some x := ⟨_, List.getElem?_eq_getElem (by rw [← HN.out]; exact hlt)⟩
      obtain ⟨c1, s1⟩ := HC.out k x hx
      have e := H1.out (by rw [← HN.out]; omega)
      subst e
      obtain ⟨adx, capx, ex⟩ := s1.len
      rw [ex] at c1
      have hn1 : (flat (ps.take (k + 1))).length = s0 + x.2.length := by rw [flat_take ps k x hx, List.length_append, ← hs0]
      have hn2 : s0 + x.2.length ≤ 1000000000 := by rw [← hn1]; exact Nat.le_trans (flat_take_le ps (k + 1)) HL.out
      have i0 : (k : Int) < (N : Int) := by omega
      have Hn := Lib.hid hn1
      obtain ⟨m, hm⟩ : ∃ m, m = x.2.length := ⟨_, rfl⟩
      rw [← hm] at c1 hn2 Hn
      have d0 : decide ((s0 : Int) + (m : Int) < 0) = false := by simp; omega
      clear hn1 hs0 hm ex s1 hx
      go_wp2
      exact ⟨⟨k + 1, by rw [← HN.out]; omega, by go_num, by rw [Hn.out]; simp, rfl⟩, by simp [intOf]; omega⟩
    · obtain rfl : N = k := by omega
      have hf : s0 = (flat ps).length := by rw [hs0, HN.out, List.take_of_length_le (Nat.le_refl _)]
      clear hs0
      have G : Calls Tryz.prog 125 #[.slice none 0 0, .int .i64 (s0 : Int)] w (BPost w []) := by
        by_cases h0 : 0 < s0
        · exact grow_pos s0 w h0 hs0b
        · obtain rfl : 0 = s0 := by omega
          exact grow_zero w
      have Hf := Lib.hid hf; clear hf
      go_wp2_with fail
      refine G.mono ?_
      rintro e w1 ⟨v1, rfl, e1, o1⟩
      clear G
      go_wp2
      go_loopw [6, 27] (fun s i wr => InvCd w ps s i wr) (fun _ i _ => N - (intOf i).toNat)
      case atStart => exact ⟨0, by omega, rfl, by simpa [flat] using o1, e1⟩
      case round =>
        clear o1 e1
        obtain ⟨k, hk, rfl, ok, ex⟩ := hrel
        rw [← HN.out] at hk
        by_cases hlt : k < N
        · obtain ⟨x, hx⟩ : ∃ x, ps[k]? = some x := ⟨_, List.getElem?_eq_getElem (by rw [← HN.out]; exact hlt)⟩
          obtain ⟨c1, s1⟩ := HC.out k x hx
          have e := H1.out (by rw [← HN.out]; omega)
          subst e
          have c1' : wr.cell? ⟨pb, po + k, none⟩ = some x.1 := by rw [Below.cell (p := ⟨pb, po + k, none⟩) ex (World.block_lt_of_cell? w _ c1)]; exact c1
          have i0 : (k : Int) < (N : Int) := by omega
          have s2 := s1.now ex
          have hb : (flat (ps.take k)).length + x.2.length ≤ 70368744177664 := by
            have h3 := flat_take_le ps (k + 1)
            rw [flat_take ps k x hx, List.length_append] at h3
            have := HL.out
            omega
          have Hx := Lib.hid hx
          clear hx c1 s1
          go_wp2_with (refine list_append_bytes rfl (.tmp 31) (.tmp 32) 50 rfl Tryz.underlying50 u8zero w.heap.size _ (flat (ps.take k)) rfl ok _ x.2 _ rfl s2 hb ex.size ?_; intro vy w6 oy gy)
          have b6 : Ext w w6 := Below.trans ex (ok.grown gy ex.size)
          rw [← flat_take ps k x Hx.out] at oy
          exact ⟨⟨k + 1, by rw [← HN.out]; omega, by go_num, oy, b6⟩, by simp [intOf]; omega⟩
        · obtain rfl : N = k := by omega
          rw [List.take_of_length_le (by rw [← HN.out]; exact Nat.le_refl _)] at ok
          have Ho := Lib.hid ok
          clear ok
          go_wp2
          go_ret
          exact ⟨_, rfl, ex, Ho.out⟩
end Go.Proofs.YtnhokjnmpdiokaaGreatDoor

namespace Go.Proofs.YtnhokjnmpdiokaaGreatDoor
open Go.RowKit Go.Sha
set_option linter.unusedSimpArgs false

def sealL (m : List Int) : List Int := m ++ shaL m
theorem sealL_length (m : List Int) : (sealL m).length = m.length + 32 := by rw [sealL, List.length_append, shaL_length]
theorem srcs_cons1 {w : World} {g : Nat} {v1 : Value} {m1 : List Int} {t : TypeId} (h : At w g #[v1] t) (h1 : Src w v1 m1 w.heap.size) (c : Nat) : Srcs w (.slice (some ⟨g, 0, none⟩) 1 c) [(v1, m1)] := by
  refine ⟨_, c, g, 0, rfl, fun _ => rfl, fun j x hj => ?_⟩
  match j, hj with
  | 0, hj => simp at hj; subst hj; exact ⟨by rw [h.cell]; rfl, h1⟩

set_option maxHeartbeats 1000000 in
theorem seal_any (v : Value) (m : List Int) (w : World) (hK : KAt w) (hs : Src w v m w.heap.size) (hl : m.length ≤ 100000000) : Calls Tryz.prog 77 #[v] w (BPost w (sealL m)) := by
  obtain ⟨ad, cap, ev⟩ := hs.len
  subst ev
  obtain ⟨n, hn⟩ : ∃ n, n = m.length := ⟨_, rfl⟩
  rw [← hn] at hs hl ⊢
  have e1 : Ext w (w.alloc (.cells #[.slice ad n cap] 50)) := Ext.alloc w _
  have s1 := hs.now e1
  have S1 := srcs_cons1 (At.new w #[.slice ad n cap] 50) s1 1
  have k1 := hK.below e1 hK.lt
  have Hn := Lib.hid hn
  clear hn s1
  go_enter Tryz.func77, Tryz.ntmps77
  go_wp2_with fail
  refine (dsum_any _ _ _ k1 S1 (by simp [flat]; rw [← Hn.out]; omega) (by simp)).mono ?_
  intro e w' h
  obtain ⟨v', rfl, e4, o4⟩ := sum_own h
  rw [show flat [(Value.slice ad n cap, m)] = m by simp [flat]] at o4
  have e5 := e1.trans e4
  obtain ⟨ad2, cap2, ev⟩ := o4.len
  subst ev
  rw [shaL_length] at o4 ⊢
  have s4 := o4.srcs _ (Or.inr (Nat.le_refl _))
  have e6 : Ext w' (w'.alloc (.cells #[.slice ad n cap, .slice ad2 32 cap2] 50)) := Ext.alloc w' _
  have S2 := srcs_cons2 (At.new w' #[.slice ad n cap, .slice ad2 32 cap2] 50) ((hs.now e5).now e6) (s4.now e6) 2
  have e7 := e5.trans e6
  have hfl : flat [(Value.slice ad n cap, m), (Value.slice ad2 32 cap2, shaL m)] = sealL m := by simp [flat, sealL]
  have hfl2 : (flat [(Value.slice ad n cap, m), (Value.slice ad2 32 cap2, shaL m)]).length ≤ 1000000000 := by rw [hfl, sealL_length, ← Hn.out]; omega
  have CA := concat_any _ _ _ S2 hfl2 (by simp)
  rw [hfl] at CA
  have HCA := Lib.hid CA
  clear CA S2 s4 hfl hfl2 h S1 o4 k1
  simp only [] at *
  go_wp2_with fail
  refine HCA.out.mono ?_
  rintro e w8 ⟨v8, rfl, e8, o8⟩
  go_wp2
  go_ret
  exact ⟨v8, rfl, e7.trans e8, o8.less e7.size⟩

end Go.Proofs.YtnhokjnmpdiokaaGreatDoor
