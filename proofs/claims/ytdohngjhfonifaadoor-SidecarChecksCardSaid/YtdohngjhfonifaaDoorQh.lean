/- What the document's own search for a group's bad places comes to. No conditions: lemmas. -/
import Derived.Test.YtdohngjhfonifaaDoorQe
namespace Go.Sha
open Go.Proofs.YtdohngjhfonifaaDoor
/-- Two rising lists with the same members are one. -/
theorem asc_ext : ∀ a b : List Nat, a.Pairwise (· < ·) → b.Pairwise (· < ·) → (∀ x, x ∈ a ↔ x ∈ b) → a = b
  | [], [], _, _, _ => rfl
  | [], y :: b, _, _, h => by have := (h y).2 (by simp); simp at this
  | x :: a, [], _, _, h => by have := (h x).1 (by simp); simp at this
  | x :: a, y :: b, ha, hb, h => by
    obtain ⟨ha1, ha2⟩ := List.pairwise_cons.1 ha
    obtain ⟨hb1, hb2⟩ := List.pairwise_cons.1 hb
    have e : x = y := by
      have h1 := (h x).1 (by simp)
      have h2 := (h y).2 (by simp)
      rcases List.mem_cons.1 h1 with e | h1
      · exact e
      · rcases List.mem_cons.1 h2 with e | h2
        · exact e.symm
        · have := hb1 x h1
          have := ha1 y h2
          omega
    subst e
    congr 1
    refine asc_ext a b ha2 hb2 fun z => ⟨fun hz => ?_, fun hz => ?_⟩
    · have := (h z).1 (List.mem_cons_of_mem _ hz)
      rcases List.mem_cons.1 this with e | hz'
      · have := ha1 z hz; omega
      · exact hz'
    · have := (h z).2 (List.mem_cons_of_mem _ hz)
      rcases List.mem_cons.1 this with e | hz'
      · have := hb1 z hz; omega
      · exact hz'
/-- The bad places, as naturals. -/
def badA (m : List Int) (B : Int) (leaves : List (List Int)) : List Nat := (List.range (cntL m.length B).toNat).filter (badB m B leaves)
theorem badA_cast (m : List Int) (B : Int) (leaves : List (List Int)) : badL m B leaves = (badA m B leaves).map fun i : Nat => (i : Int) := rfl
theorem badA_group (m : List Int) (B : Int) (leaves : List (List Int)) (c g : Nat) (hc : 1 ≤ c) : (badA m B leaves).filter (fun x => x / c == g) = gbad m B leaves c g := by
  refine asc_ext _ _ ?_ ?_ fun x => ?_
  · exact (List.pairwise_lt_range.filter _).filter _
  · unfold gbad
    refine List.Pairwise.filter _ ?_
    rw [List.pairwise_map]
    exact List.Pairwise.imp (fun h => by omega) List.pairwise_lt_range
  · unfold badA gbad
    simp only [List.mem_filter, List.mem_range, List.mem_map, Bool.and_eq_true, decide_eq_true_eq, beq_iff_eq]
    have h0 := cntL_nonneg m.length B
    constructor
    · rintro ⟨⟨h1, h2⟩, h3⟩
      refine ⟨⟨x % c, Nat.mod_lt _ (by omega), ?_⟩, by omega, h2⟩
      rw [← h3, Nat.mul_comm]; exact Nat.div_add_mod x c
    · rintro ⟨⟨j, hj, rfl⟩, h2, h3⟩
      refine ⟨⟨by omega, h3⟩, ?_⟩
      rw [Nat.mul_comm, Nat.mul_add_div (by omega), Nat.div_eq_of_lt hj, Nat.add_zero]
/-- The search: how many, and which was the last. -/
def seekN (l : List Nat) (c g i : Nat) : List Nat := (l.take i).filter (fun x => x / c == g)
theorem seekN_succ (l : List Nat) (c g i x : Nat) (h : l[i]? = some x) : seekN l c g (i + 1) = seekN l c g i ++ (if x / c == g then [x] else []) := by
  unfold seekN
  rw [List.take_add_one, h, List.filter_append]
  congr 1
  by_cases e : (x / c == g) = true
  · simp [e]
  · simp [e]
theorem seekN_full (l : List Nat) (c g : Nat) : seekN l c g l.length = l.filter (fun x => x / c == g) := by
  unfold seekN
  rw [List.take_length]
def lastN (l : List Nat) : Nat := l.getLast?.getD 0
theorem lastN_snoc (l : List Nat) (x : Nat) : lastN (l ++ [x]) = x := by simp [lastN]
theorem seekN_len (l : List Nat) (c g i : Nat) : (seekN l c g i).length ≤ i := by
  unfold seekN
  exact Nat.le_trans (List.length_filter_le _ _) (by simp; omega)
end Go.Sha
