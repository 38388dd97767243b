/- The law's refs are an image, whatever the numbers. No conditions: lemmas. -/
import Derived.Test.YtnhokjnmpdiokaaGreatDoorKcM
import Derived.Test.YtnhokjnmpdiokaaGreatDoorJkM
namespace Go.Proofs.YtnhokjnmpdiokaaGreatDoor
open Go.RowKit Go.Sha Go.Pth
set_option linter.unusedSimpArgs false
set_option linter.unusedVariables false

theorem nm_list (i : Nat) : (nmI i).toList = [UInt8.ofNat (97 + i)] := by
  unfold nmI
  rw [ByteArray.toList_eq]
  show [UInt8.ofNat (97 + (i : Int)).toNat] = _
  rw [show (97 + (i : Int)).toNat = 97 + i by omega]
theorem nm_ok (i : Nat) (h : i < 20) : valid (nmI i).toList = true ∧ hidden (nmI i).toList = false := by
  rw [nm_list]
  have key : ∀ i : Fin 20, valid [UInt8.ofNat (97 + i.val)] = true ∧ hidden [UInt8.ofNat (97 + i.val)] = false := by decide +kernel
  exact key ⟨i, h⟩
theorem nm_less (i j : Nat) (hij : i < j) (h : j < 20) : less (nmI i).toList (nmI j).toList = true := by
  rw [nm_list, nm_list]
  have key : ∀ i j : Fin 20, i.val < j.val → less [UInt8.ofNat (97 + i.val)] [UInt8.ofNat (97 + j.val)] = true := by decide +kernel
  exact key ⟨i, by omega⟩ ⟨j, h⟩ hij
theorem refD_p (i : Nat) (a : Int) : (refD i a).p = nmI i ∧ (refD i a).t = a := by unfold refD; split <;> exact ⟨rfl, rfl⟩
theorem tmod_in (a n : Int) (ha : 0 ≤ a) (hn : 0 < n) : 0 ≤ a.tmod n ∧ a.tmod n < n := by
  rw [Int.tmod_eq_emod_of_nonneg ha]
  exact ⟨Int.emod_nonneg _ (by omega), Int.emod_lt_of_pos _ hn⟩
theorem refD_may (i : Nat) (a : Int) (hi : i < 20) (ha : 0 ≤ a) : mayR (refD i a) = true := by
  rw [mayR_iff]
  have h7 := tmod_in a 7 ha (by omega)
  have h100 := tmod_in a 100 ha (by omega)
  obtain ⟨v, hd⟩ := nm_ok i hi
  unfold refD
  split
  · exact ⟨v, hd, ⟨Int.le_refl _, by simp only; omega⟩, ⟨h7.1, by simp only; omega⟩, Or.inr ⟨rfl, rfl⟩⟩
  · exact ⟨v, hd, ⟨h100.1, by simp only; omega⟩, ⟨h7.1, by simp only; omega⟩, Or.inl ⟨rfl, shaL_length _⟩⟩
theorem refsK_mem (ms : List Int) (k : Nat) (x : RD) (h : x ∈ refsK ms k) : ∃ i a, i < k ∧ ms[i]? = some a ∧ 0 ≤ a ∧ x = refD i a := by
  unfold refsK at h
  obtain ⟨i, hi, hx⟩ := List.mem_flatMap.1 h
  unfold refO at hx
  split at hx
  · cases hx
  · rename_i a e
    split at hx
    · cases hx
    · rename_i hn
      exact ⟨i, a, List.mem_range.1 hi, e, by omega, by simpa using hx⟩
theorem refsK_pair (ms : List Int) : ∀ (k : Nat), k ≤ 20 → List.Pairwise (fun x y : RD => less x.p.toList y.p.toList = true) (refsK ms k)
  | 0, _ => by simp [refsK]
  | k + 1, hk => by
    rw [refsK_succ, List.pairwise_append]
    refine ⟨refsK_pair ms k (by omega), ?_, fun x hx y hy => ?_⟩
    · unfold refO
      split
      · exact List.Pairwise.nil
      · split
        · exact List.Pairwise.nil
        · exact List.pairwise_singleton _ _
    · obtain ⟨i, a, hi, _, _, rfl⟩ := refsK_mem ms k x hx
      unfold refO at hy
      split at hy
      · cases hy
      · split at hy
        · cases hy
        · rw [List.mem_singleton.1 hy, (refD_p i _).1, (refD_p k _).1]
          exact nm_less i k hi (by omega)
theorem image_of {l : List RD} (h1 : l.length ≤ 100) (h2 : ∀ x ∈ l, mayR x = true) (h3 : List.Pairwise (fun x y : RD => less x.p.toList y.p.toList = true) l) : imageL l = true := by
  unfold imageL okTo
  simp only [Bool.and_eq_true, decide_eq_true_eq, List.all_eq_true, List.mem_range]
  refine ⟨h1, fun i hi => ?_⟩
  rw [stepL_get (x := l[i]) (List.getElem?_eq_getElem hi), h2 _ (List.getElem_mem hi)]
  simp only [Bool.true_and, Bool.or_eq_true, beq_iff_eq]
  rcases Nat.eq_zero_or_pos i with k | k
  · exact Or.inl k
  · right
    rw [List.getElem?_eq_getElem (by omega)]
    exact List.pairwise_iff_getElem.1 h3 (i - 1) i (by omega) hi (by omega)
theorem refsK_image (ms : List Int) : imageL (refsK ms 20) = true :=
  image_of (Nat.le_trans (refsK_len ms 20) (by omega)) (fun x hx => by obtain ⟨i, a, hi, _, ha, rfl⟩ := refsK_mem ms 20 x hx; exact refD_may i a hi ha) (refsK_pair ms 20 (Nat.le_refl _))
theorem refsK_byt (ms : List Int) : BytR (refsK ms 20) := fun x hx => by
  obtain ⟨i, a, hi, _, ha, rfl⟩ := refsK_mem ms 20 x hx
  unfold refD
  split
  · exact byt_nil
  · exact sha_byt _
theorem refsK_tim (ms : List Int) (h : ∀ a ∈ ms, -9223372036854775808 ≤ a ∧ a ≤ 9223372036854775807) : TimR (refsK ms 20) := fun x hx => by
  obtain ⟨i, a, hi, hm, ha, rfl⟩ := refsK_mem ms 20 x hx
  rw [(refD_p i a).2]
  have := h a (List.mem_of_getElem? hm)
  omega
end Go.Proofs.YtnhokjnmpdiokaaGreatDoor
