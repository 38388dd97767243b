/- Bad blocks and healing: plain functions over lists. No conditions: definitions and lemmas. -/
import Derived.Test.YtdohngjhfonifaaDoorPe
namespace Go.Sha
open Go.Proofs.YtdohngjhfonifaaDoor

/-- Has it the leaf that is told there? -/
def goodL (one : List Int) (i : Nat) (leaves : List (List Int)) : Bool := decide (i < leaves.length) && eqS (leafL one) (leaves[i]?.getD [])
def badB (m : List Int) (B : Int) (leaves : List (List Int)) (i : Nat) : Bool := !goodL (blockT m B i) i leaves
/-- The bad places among the first n. -/
def badN (m : List Int) (B : Int) (leaves : List (List Int)) (n : Nat) : List Int := ((List.range n).filter (badB m B leaves)).map fun i : Nat => (i : Int)
def badL (m : List Int) (B : Int) (leaves : List (List Int)) : List Int := badN m B leaves (cntL m.length B).toNat
theorem badN_succ (m : List Int) (B : Int) (leaves : List (List Int)) (n : Nat) : badN m B leaves (n + 1) = badN m B leaves n ++ (if badB m B leaves n then [(n : Int)] else []) := by
  unfold badN
  rw [List.range_succ, List.filter_append, List.map_append]
  congr 1
  by_cases h : badB m B leaves n <;> simp [h]
theorem badN_len (m : List Int) (B : Int) (leaves : List (List Int)) (n : Nat) : (badN m B leaves n).length ≤ n := by
  unfold badN
  rw [List.length_map]
  exact Nat.le_trans (List.length_filter_le _ _) (by simp)

/-- Xored in twice, a block is out again. -/
theorem xorL_twice : ∀ s o : List Int, Byt s → xorL (xorL s o) o = s
  | [], _, _ => rfl
  | _ :: _, [], _ => rfl
  | a :: s, b :: o, h => by
    simp only [xorL]
    rw [xb_assoc, xb_self, xb_zero a (h a (by simp)), xorL_twice s o fun y hy => h y (List.mem_cons_of_mem _ hy)]
/-- A group's blocks but one, xored in. -/
def butN (s m : List Int) (B : Int) (K g one : Nat) : Nat → List Int
  | 0 => s
  | j + 1 => if g * K + j = one then butN s m B K g one j else xorL (butN s m B K g one j) (blockT m B ((g * K + j : Nat) : Int))
theorem butN_length (s m : List Int) (B : Int) (K g one : Nat) : ∀ j, (butN s m B K g one j).length = s.length
  | 0 => rfl
  | j + 1 => by
    unfold butN
    split
    · exact butN_length s m B K g one j
    · rw [xorL_length]; exact butN_length s m B K g one j
theorem butN_byt (s m : List Int) (B : Int) (K g one : Nat) (h : Byt s) : ∀ j, Byt (butN s m B K g one j)
  | 0 => h
  | j + 1 => by
    unfold butN
    split
    · exact butN_byt s m B K g one h j
    · exact xorL_byt _ _ (butN_byt s m B K g one h j)
theorem butN_succ (s m : List Int) (B : Int) (K g one j : Nat) : butN s m B K g one (j + 1) = if g * K + j = one then butN s m B K g one j else xorL (butN s m B K g one j) (blockT m B ((g * K + j : Nat) : Int)) := rfl
theorem grp_but (s m : List Int) (B : Int) (K g j0 : Nat) : ∀ J, grp s ((List.range J).map fun j => blockT m B ((g * K + j : Nat) : Int)) = if j0 < J then xorL (butN s m B K g (g * K + j0) J) (blockT m B ((g * K + j0 : Nat) : Int)) else butN s m B K g (g * K + j0) J
  | 0 => by simp [grp, butN]
  | J + 1 => by
    have hs := gb_succ m B K g J
    rw [hs, grp_snoc, grp_but s m B K g j0 J, butN_succ]
    by_cases e : J = j0
    · subst e
      rw [if_neg (Nat.lt_irrefl _), if_pos (Nat.lt_succ_self _), if_pos rfl]
    · rw [if_neg (show ¬ (g * K + J = g * K + j0) by omega)]
      by_cases h : j0 < J
      · rw [if_pos h, if_pos (show j0 < J + 1 by omega), xorL_right]
      · rw [if_neg h, if_neg (show ¬ j0 < J + 1 by omega)]
/-- What the parity and the other blocks make of a block. -/
def madeL (par m : List Int) (B : Int) (K g one : Nat) : List Int := (butN par m B K g one K).take (blockT m B one).length
theorem made_eq (par m : List Int) (B : Int) (K g j0 : Nat) (h : Byt par) (hj : j0 < K) : (xorL (grp par (gb m B K g)) (blockT m B ((g * K + j0 : Nat) : Int))).take (blockT m B ((g * K + j0 : Nat) : Int)).length = madeL par m B K g (g * K + j0) := by
  have h1 := grp_but par m B K g j0 K
  rw [if_pos hj] at h1
  unfold gb madeL
  rw [h1, xorL_twice _ _ (butN_byt par m B K g _ h K)]

/-- Bytes put over others. -/
def putAt (l : List Int) (o : Nat) (x : List Int) : List Int := l.take o ++ x ++ l.drop (o + x.length)
theorem putAt_length (l : List Int) (o : Nat) (x : List Int) (h : o + x.length ≤ l.length) : (putAt l o x).length = l.length := by
  simp [putAt]; omega
/-- The bad places of a group. -/
def gbad (m : List Int) (B : Int) (leaves : List (List Int)) (K g : Nat) : List Nat := ((List.range K).map fun j => g * K + j).filter fun i => decide ((i : Int) < cntL m.length B) && badB m B leaves i
/-- One group healed. -/
def heal (m : List Int) (B : Int) (K : Nat) (leaves par : List (List Int)) (f : List Int) (g : Nat) : List Int :=
  match gbad m B leaves K g with
  | [i] => if (((par[g]?.getD []).length : Int) == B) && goodL (madeL (par[g]?.getD []) m B K g i) i leaves then putAt f (i * B.toNat) (madeL (par[g]?.getD []) m B K g i) else f
  | _ => f
def healN (m : List Int) (B : Int) (K : Nat) (leaves par : List (List Int)) (n : Nat) : List Int := (List.range n).foldl (heal m B K leaves par) m
theorem healN_succ (m : List Int) (B : Int) (K : Nat) (leaves par : List (List Int)) (n : Nat) : healN m B K leaves par (n + 1) = heal m B K leaves par (healN m B K leaves par n) n := by
  simp [healN, List.range_succ]
/-- How many groups are looked at. -/
def healC (m : List Int) (B K : Int) (par : List (List Int)) : Nat := min (grpsN m.length B K).toNat par.length
def fixL (m : List Int) (B K : Int) (leaves par : List (List Int)) : List Int := healN m B K.toNat leaves par (healC m B K par)

/-- A block that there is lies within the data. -/
theorem block_in (m : List Int) (B i : Nat) (h : (i : Int) < cntL m.length B) : 1 ≤ B ∧ B ≤ 4096 ∧ i * B + (blockT m B i).length ≤ m.length ∧ (blockT m B i).length ≤ B ∧ 0 < (blockT m B i).length := by
  obtain ⟨h1, h2, h3⟩ := cnt_lt m.length B i (by omega) h
  simp only [Int.toNat_natCast] at h3
  unfold blockT
  rw [if_pos ⟨by omega, h⟩, Int.toNat_natCast, Int.toNat_natCast]
  unfold blkL
  rw [List.length_take, List.length_drop]
  refine ⟨by omega, by omega, by omega, by omega, by omega⟩
theorem madeL_length (par m : List Int) (B : Int) (K g one : Nat) (h : (blockT m B one).length ≤ par.length) : (madeL par m B K g one).length = (blockT m B one).length := by
  unfold madeL
  rw [List.length_take, butN_length]; omega
theorem gbad_mem (m : List Int) (B : Int) (leaves : List (List Int)) (K g i : Nat) (h : i ∈ gbad m B leaves K g) : ∃ j, j < K ∧ i = g * K + j ∧ (i : Int) < cntL m.length B ∧ badB m B leaves i = true := by
  unfold gbad at h
  obtain ⟨h1, h2⟩ := List.mem_filter.1 h
  obtain ⟨j, hj, rfl⟩ := List.mem_map.1 h1
  simp only [Bool.and_eq_true, decide_eq_true_eq] at h2
  exact ⟨j, List.mem_range.1 hj, rfl, h2.1, h2.2⟩
theorem heal_length (m : List Int) (B : Nat) (K : Nat) (leaves par : List (List Int)) (f : List Int) (g : Nat) (hf : f.length = m.length) : (heal m B K leaves par f g).length = m.length := by
  unfold heal
  split
  · rename_i i hi
    split
    · rename_i hc
      simp only [Bool.and_eq_true, beq_iff_eq] at hc
      obtain ⟨j, _, _, h3, _⟩ := gbad_mem m B leaves K g i (by rw [hi]; simp)
      obtain ⟨_, _, h6, h7, _⟩ := block_in m B i h3
      rw [putAt_length]
      · exact hf
      · rw [madeL_length _ _ _ _ _ _ (by omega), hf, Int.toNat_natCast]; exact h6
    · exact hf
  · exact hf
theorem healN_length (m : List Int) (B : Nat) (K : Nat) (leaves par : List (List Int)) : ∀ n, (healN m B K leaves par n).length = m.length
  | 0 => rfl
  | n + 1 => by rw [healN_succ]; exact heal_length m B K leaves par _ n (healN_length m B K leaves par n)
end Go.Sha
