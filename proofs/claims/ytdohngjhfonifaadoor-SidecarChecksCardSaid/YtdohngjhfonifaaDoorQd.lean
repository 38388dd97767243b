/- The contract of remade; what a group's bad places come to. -/
import Derived.Test.YtdohngjhfonifaaDoorQb
namespace Go.Sha
open Go.Proofs.YtdohngjhfonifaaDoor
/-- The bad places among the first j of a group. -/
def gbJ (m : List Int) (B : Int) (leaves : List (List Int)) (K g j : Nat) : List Nat := ((List.range j).map fun i => g * K + i).filter fun i => decide ((i : Int) < cntL m.length B) && badB m B leaves i
theorem gbJ_full (m : List Int) (B : Int) (leaves : List (List Int)) (K g : Nat) : gbad m B leaves K g = gbJ m B leaves K g K := rfl
theorem gbJ_succ (m : List Int) (B : Int) (leaves : List (List Int)) (K g j : Nat) : gbJ m B leaves K g (j + 1) = gbJ m B leaves K g j ++ (if decide (((g * K + j : Nat) : Int) < cntL m.length B) && badB m B leaves (g * K + j) then [g * K + j] else []) := by
  unfold gbJ
  rw [List.range_succ, List.map_append, List.filter_append]
  congr 1
  by_cases h : (decide (((g * K + j : Nat) : Int) < cntL m.length B) && badB m B leaves (g * K + j)) = true
  · simp only [List.map_cons, List.map_nil, List.filter_cons, List.filter_nil, h, if_true]
  · simp only [List.map_cons, List.map_nil, List.filter_cons, List.filter_nil, h]
theorem gbJ_end (m : List Int) (B : Int) (leaves : List (List Int)) (K g j : Nat) (h : cntL m.length B ≤ ((g * K + j : Nat) : Int)) : ∀ d, gbJ m B leaves K g (j + d) = gbJ m B leaves K g j
  | 0 => rfl
  | d + 1 => by
    rw [← Nat.add_assoc, gbJ_succ, if_neg, List.append_nil, gbJ_end m B leaves K g j h d]
    have : ¬ (((g * K + (j + d) : Nat) : Int) < cntL m.length B) := by omega
    rw [decide_eq_false this]
    simp
theorem gbJ_more (m : List Int) (B : Int) (leaves : List (List Int)) (K g j : Nat) : ∀ d, (gbJ m B leaves K g j).length ≤ (gbJ m B leaves K g (j + d)).length
  | 0 => Nat.le_refl _
  | d + 1 => by
    rw [← Nat.add_assoc, gbJ_succ, List.length_append]
    exact Nat.le_trans (gbJ_more m B leaves K g j d) (Nat.le_add_right _ _)
theorem heal_none (m : List Int) (B : Int) (K : Nat) (leaves par : List (List Int)) (f : List Int) (g : Nat) (h : (gbad m B leaves K g).length ≠ 1) : heal m B K leaves par f g = f := by
  unfold heal
  split
  · rename_i i hi
    rw [hi] at h
    simp at h
  · rfl
theorem heal_len (m : List Int) (B : Int) (K : Nat) (leaves par : List (List Int)) (f : List Int) (g : Nat) (p : List Int) (hp : par[g]? = some p) (h : ¬ (p.length : Int) = B) : heal m B K leaves par f g = f := by
  unfold heal
  rw [hp]
  split
  · rw [if_neg]
    simp [h]
  · rfl
theorem heal_one (m : List Int) (B : Int) (K : Nat) (leaves par : List (List Int)) (f : List Int) (g i : Nat) (p : List Int) (hp : par[g]? = some p) (h : (p.length : Int) = B) (hi : gbad m B leaves K g = [i]) : heal m B K leaves par f g = if goodL (madeL p m B K g i) i leaves then putAt f (i * B.toNat) (madeL p m B K g i) else f := by
  unfold heal
  rw [hp, hi]
  simp [h]
/-- A state of the search: none yet, or one. -/
def BadSt (l : List Nat) (bad : Int) : Prop := (l = [] ∧ bad = -1) ∨ ∃ x : Nat, l = [x] ∧ bad = x
end Go.Sha

namespace Go.Proofs.YtdohngjhfonifaaDoor
open Go.RowKit Go.Sha
set_option linter.unusedSimpArgs false

/-- Bytes to be read, in new memory. -/
def SPost (w : World) (m : List Int) (e : Ending) (w' : World) : Prop := ∃ v, e = .returned v ∧ Ext w w' ∧ ∀ bh, (bh < w.heap.size ∨ w'.heap.size ≤ bh) → Src w' v m bh

set_option maxHeartbeats 2000000 in
theorem remade_any (v vp : Value) (m p : List Int) (b c q j : Nat) (w : World) (hs : Src w v m w.heap.size) (hp : Src w vp p w.heap.size) (hm : m.length ≤ 1048576) (hb1 : 1 ≤ b) (hb2 : b ≤ 4096) (hc1 : 1 ≤ c) (hc2 : c ≤ 8) (hpl : p.length = b) (hpb : Byt p) (hj : j < c) (hq : q ≤ 1048584) :
    Calls Tryd.prog 82 #[v, .int .i64 b, .int .i64 c, .int .i64 ((q * c + j : Nat) : Int), vp] w (SPost w (madeL p m b c q (q * c + j))) := by
  have hmd := made_eq p m b c q j hpb hj
  obtain ⟨ad, cap, ev⟩ := hs.len
  subst ev
  have hqc : q * c ≤ 8388672 := Nat.le_trans (Nat.mul_le_mul hq hc2) (by omega)
  obtain ⟨i, hi⟩ : ∃ i, i = q * c + j := ⟨_, rfl⟩
  have hdiv : (i : Int).tdiv (c : Int) = (q : Int) := by
    rw [Int.tdiv_eq_ediv_of_nonneg (by omega), hi]
    have e : ((q * c + j : Nat) : Int) = (j : Int) + (q : Int) * c := by push_cast; omega
    rw [e, Int.add_mul_ediv_right _ _ (by omega), Int.ediv_eq_zero_of_lt (by omega) (by omega)]; omega
  have hib : i ≤ 8388680 := by omega
  rw [← hi] at hmd ⊢
  have Hmd := Lib.hid hmd; clear hmd hi
  have b0 : ¬ ((c : Int) = 0) := by omega
  have hbt := blockT_length m (b : Int) i
  rw [Int.toNat_natCast] at hbt
  go_enter Tryd.func82, Tryd.ntmps82
  go_wp2_with fail
  refine (clone_any vp p w hp (by omega)).mono ?_
  rintro e w1 ⟨v1, rfl, e1, o1⟩
  obtain ⟨g, cap1, rfl, hg, hcap, b1⟩ := OwnB.buf o1 (by omega)
  rw [hpl] at hcap ⊢
  have s1 : Src w1 (.slice ad m.length cap) m g := by
    by_cases hg2 : g < w1.heap.size
    · exact (hs.other hg).ext e1
    · exact (hs.now e1).other (by omega)
  have z1 := e1.size
  have HPL := Lib.hid hpl; clear hpl
  go_wp2_with fail
  refine (addGroup_any g b cap1 p m _ b c q w1 b1 HPL.out s1 hm (by simp) (by omega) (by omega) (by omega)).mono ?_
  rintro e w2 ⟨rfl, o2, b2⟩
  have e2 : Ext w w2 := o2.below e1 hg z1
  have s2 := s1.only o2
  have hl2 : (grp p (gb m b c q)).length = b := by rw [grp_length]; exact HPL.out
  go_wp2_with fail
  refine (block_any _ m b i w2 (s2.other (Nat.le_refl _)) hm).mono ?_
  rintro e w3 ⟨v3, rfl, e3, o3⟩
  have hg3 := b2.lt
  have s3 := o3.srcs g (Or.inl hg3)
  obtain ⟨ad3, cap3, ev3⟩ := o3.len
  subst ev3
  go_wp2_with fail
  refine (addBlock_any g b cap1 _ _ _ w3 (b2.ext e3) hl2 s3 (by rw [hl2]; exact hbt) (by omega)).mono ?_
  rintro e w4 ⟨rfl, o4, b4⟩
  have z2 := e2.size
  have z3 := e3.size
  have e4 : Ext w w4 := o4.below (e2.trans e3) hg (by omega)
  have hl4 : (xorL (grp p (gb m b c q)) (blockT m b i)).length = b := by rw [xorL_length]; exact hl2
  have fin : ∀ bh, (bh < w.heap.size ∨ w4.heap.size ≤ bh) → Src w4 (.slice (some ⟨g, 0, none⟩) (blockT m b i).length cap1) (madeL p m b c q i) bh := fun bh hbh => by
    have hgb : g ≠ bh := by
      have := b4.lt
      omega
    have s5 := b4.src bh hgb b cap1 hl4 (by omega)
    rw [← Hmd.out]
    obtain ⟨_, _, sb, so, ev, y2, y3, y4, y5, y6⟩ := s5
    injection ev with q1 _ q2
    subst q1 q2
    have y3' := y3 (by omega)
    refine ⟨_, cap1, sb, so, by rw [List.length_take, hl4, Nat.min_eq_left hbt], by rw [List.length_take, hl4]; omega, fun _ => y3', y4, fun t ht => ?_, fun h => by cases h⟩
    rw [List.length_take, hl4] at ht
    rw [y5 t (by omega), List.getElem?_take_of_lt (by omega)]
  have Fin := Lib.hid fin; clear fin
  obtain ⟨X, hX⟩ : ∃ X, X = (blockT m b i).length := ⟨_, rfl⟩
  rw [← hX] at Fin hbt ⊢
  have xc : X ≤ cap1 := by omega
  clear hX s3 o3 b4 b2 o4 o2 s1 s2 hl2 hl4 b1 o1
  go_wp2
  go_ret
  exact ⟨_, rfl, e4, Fin.out⟩
end Go.Proofs.YtdohngjhfonifaaDoor
