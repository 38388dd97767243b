/- What the law asks of roots: two leaves changed about, or one changed, make another root. No conditions. -/
import Derived.Test.YtmplnlcmdcogmaaDoorKg
import Derived.Laws.BytesArg
import Derived.Laws.Strings
namespace Go.Lane
open Go.Sha

theorem eqS_iff (m n : List Int) : eqS m n = true ↔ m.map (fun n => UInt8.ofNat n.toNat) = n.map (fun n => UInt8.ofNat n.toNat) := by
  unfold eqS
  rw [beq_iff_eq, ByteArray.toList_eq, ByteArray.toList_eq, strOfNums_data, strOfNums_data]
theorem byte_inj (x y : Int) (hx : 0 ≤ x ∧ x < 256) (hy : 0 ≤ y ∧ y < 256) (h : UInt8.ofNat x.toNat = UInt8.ofNat y.toNat) : x = y := by
  have h1 := congrArg UInt8.toNat h
  rw [UInt8.toNat_ofNat', UInt8.toNat_ofNat'] at h1
  omega
theorem eqS_ne (r s : S8) (R : Ok r) (T : Ok s) (h : r.a ≠ s.a) : eqS (bts r) (bts s) = false := by
  cases e : eqS (bts r) (bts s) with
  | false => rfl
  | true =>
    exfalso
    have h1 := (eqS_iff _ _).1 e
    have key : ∀ (x : S8), ∃ rest, bts x = ((x.a : Int) / 16777216 % 256) :: ((x.a : Int) / 65536 % 256) :: ((x.a : Int) / 256 % 256) :: ((x.a : Int) % 256) :: rest := fun x => ⟨_, rfl⟩
    obtain ⟨p, hp⟩ := key r
    obtain ⟨q, hq⟩ := key s
    rw [hp, hq] at h1
    simp only [List.map_cons, List.cons.injEq] at h1
    obtain ⟨b0, b1, b2, b3, _⟩ := h1
    have c0 := byte_inj _ _ (byte_in _ _) (byte_in _ _) b0
    have c1 := byte_inj _ _ (byte_in _ _) (byte_in _ _) b1
    have c2 := byte_inj _ _ (byte_in _ _) (byte_in _ _) b2
    have c3 := byte_inj _ _ (byte_in0 _) (byte_in0 _) b3
    have := R.a
    have := T.a
    apply h
    omega
theorem perm_le (a b p n : Nat) (hn : n ≤ 60) (ha : a < n) (hb : b ≤ 60) (hp : p < n) : perm a b p ≤ 60 := by
  unfold perm
  cases Nat.beq p a <;> cases Nat.beq p b <;> simp <;> omega
theorem map_lf (n : Nat) (f : Nat → Nat) (h : ∀ p, p < n → f p ≤ 60) : (List.range n).map (fun p => lfL (f p)) = ((List.range n).map fun p => leafT (f p)).map bts := by
  rw [List.map_map]
  apply List.map_congr_left
  intro p hp
  exact lfL_eq (f p) (h p (List.mem_range.1 hp))
/-- The root of changed leaves is another one. -/
theorem root_ne (n a b : Nat) (hn : n ≤ 60) (ha : a < n) (hb : a < b ∧ b < n ∨ b = 60) : eqS (rootL ((List.range n).map fun p => lfL (perm a b p))) (rootL ((List.range n).map fun p => lfL p)) = false := by
  rw [map_lf n (fun p => perm a b p) (fun p hp => perm_le a b p n hn ha (by omega) hp), map_lf n (fun p => p) (fun p hp => by omega)]
  obtain ⟨r, R, e1, a1⟩ := root_bytes ((List.range n).map fun p => leafT (perm a b p)) (fun x hx => by obtain ⟨p, _, rfl⟩ := List.mem_map.1 hx; exact leafT_okw _) (by simp; omega) (by simp; omega)
  obtain ⟨s, S, e2, a2⟩ := root_bytes ((List.range n).map fun p => leafT p) (fun x hx => by obtain ⟨p, _, rfl⟩ := List.mem_map.1 hx; exact leafT_okw _) (by simp; omega) (by simp; omega)
  rw [e1, e2]
  refine eqS_ne r s R S ?_
  rw [a1, a2]
  exact all_sizes n a b hn ha hb
/-- The leaves of the law. -/
def lvs (n : Nat) : List (List Int) := (List.range n).map fun i : Nat => leafL [(i : Int)]
theorem lvs_eq (n : Nat) (hn : n ≤ 60) : lvs n = (List.range n).map fun p => lfL p := by
  unfold lvs
  apply List.map_congr_left
  intro p hp
  have := List.mem_range.1 hp
  unfold lfL
  rw [if_pos (by omega)]
theorem perm_swap (a b p : Nat) : perm a b p = perm b a p := by
  unfold perm
  cases h1 : Nat.beq p a <;> cases h2 : Nat.beq p b <;> simp
  have := Nat.eq_of_beq_eq_true h1
  have := Nat.eq_of_beq_eq_true h2
  omega
theorem lvs_get (n i : Nat) (h : i < n) : (lvs n)[i]? = some (leafL [(i : Int)]) := by simp [lvs, h]
theorem set_perm (n a b : Nat) (hn : n ≤ 60) (ha : a < n) (hb : b < n) : ((lvs n).set a (leafL [(b : Int)])).set b (leafL [(a : Int)]) = (List.range n).map fun p => lfL (perm a b p) := by
  apply List.ext_getElem?
  intro i
  by_cases hi : i < n
  · have hl : i < (lvs n).length := by simpa [lvs] using hi
    have hr : ((List.range n).map fun p => lfL (perm a b p))[i]? = some (lfL (perm a b i)) := by simp [hi]
    rw [hr, List.getElem?_set, List.getElem?_set]
    have l1 : (lvs n).length = n := by simp [lvs]
    simp only [List.length_set, l1, lvs_get n i hi]
    unfold perm lfL
    by_cases h1 : b = i
    · subst h1
      rw [if_pos rfl, if_pos hi]
      by_cases h2 : b = a
      · subst h2; simp; omega
      · have e1 : Nat.beq b a = false := by cases hb : Nat.beq b a with | false => rfl | true => exact absurd (Nat.eq_of_beq_eq_true hb) h2
        simp [e1]; omega
    · rw [if_neg h1]
      have e2 : Nat.beq i b = false := by cases hb : Nat.beq i b with | false => rfl | true => exact absurd (Nat.eq_of_beq_eq_true hb).symm h1
      by_cases h2 : a = i
      · subst h2; simp [hi]; omega
      · have e1 : Nat.beq i a = false := by cases hb : Nat.beq i a with | false => rfl | true => exact absurd (Nat.eq_of_beq_eq_true hb).symm h2
        simp [e1, e2, h2]; omega
  · rw [List.getElem?_eq_none (by simp [lvs]; omega), List.getElem?_eq_none (by simp; omega)]
theorem set_other (n a : Nat) (hn : n ≤ 60) (ha : a < n) : (lvs n).set a (leafL [111, 116, 104, 101, 114]) = (List.range n).map fun p => lfL (perm a 60 p) := by
  apply List.ext_getElem?
  intro i
  by_cases hi : i < n
  · have hr : ((List.range n).map fun p => lfL (perm a 60 p))[i]? = some (lfL (perm a 60 i)) := by simp [hi]
    rw [hr, List.getElem?_set]
    have l1 : (lvs n).length = n := by simp [lvs]
    simp only [l1, lvs_get n i hi]
    unfold perm lfL
    have e2 : Nat.beq i 60 = false := by cases hb : Nat.beq i 60 with | false => rfl | true => exact absurd (Nat.eq_of_beq_eq_true hb) (by omega)
    by_cases h2 : a = i
    · subst h2; simp [hi]
    · have e1 : Nat.beq i a = false := by cases hb : Nat.beq i a with | false => rfl | true => exact absurd (Nat.eq_of_beq_eq_true hb).symm h2
      simp [e1, e2, h2]; omega
  · rw [List.getElem?_eq_none (by simp [lvs]; omega), List.getElem?_eq_none (by simp; omega)]
/-- The root of two leaves changed about is the same just if they are one. -/
theorem root_swap (n a b : Nat) (hn : n ≤ 60) (ha : a < n) (hb : b < n) : eqS (rootL (((lvs n).set a (leafL [(b : Int)])).set b (leafL [(a : Int)]))) (rootL (lvs n)) = decide (a = b) := by
  by_cases h : a = b
  · subst h
    have e : ((lvs n).set a (leafL [(a : Int)])).set a (leafL [(a : Int)]) = lvs n := by
      rw [List.set_set]
      apply List.ext_getElem?
      intro i
      rw [List.getElem?_set]
      by_cases hi : a = i
      · subst hi; simp [lvs, ha]
      · simp [hi]
    rw [e]
    have : eqS (rootL (lvs n)) (rootL (lvs n)) = true := (eqS_iff _ _).2 rfl
    rw [this]; simp
  · rw [set_perm n a b hn ha hb, lvs_eq n hn]
    rw [show decide (a = b) = false by simpa using h]
    by_cases hlt : a < b
    · exact root_ne n a b hn ha (Or.inl ⟨hlt, hb⟩)
    · rw [show (fun p => lfL (perm a b p)) = fun p => lfL (perm b a p) from funext fun p => by rw [perm_swap a b p]]
      exact root_ne n b a hn hb (Or.inl ⟨by omega, ha⟩)
theorem root_other (n a : Nat) (hn : n ≤ 60) (ha : a < n) : eqS (rootL ((lvs n).set a (leafL [111, 116, 104, 101, 114]))) (rootL (lvs n)) = false := by
  rw [set_other n a hn ha, lvs_eq n hn]
  exact root_ne n a 60 hn ha (Or.inr rfl)
end Go.Lane
