/- The contracts of Count, piece and Block, the code's and the document's. -/
import Derived.Test.YtblhipdcgdhmiaaDoorWq
namespace Go.Proofs.YtblhipdcgdhmiaaDoor
open Go.RowKit Go.Sha

/-- A block that there is. -/
theorem cnt_lt (n : Nat) (B k : Int) (hk0 : 0 ≤ k) (hk : k < cntL n B) : 1 ≤ B ∧ B ≤ 4096 ∧ k.toNat * B.toNat < n := by
  unfold cntL at hk
  by_cases h : (n : Int) < 0 ∨ (n : Int) > 1048576 ∨ B < 1 ∨ B > 4096
  · rw [if_pos h] at hk; omega
  · rw [if_neg h] at hk
    refine ⟨by omega, by omega, ?_⟩
    obtain ⟨b, rfl⟩ := Int.eq_ofNat_of_zero_le (show 0 ≤ B by omega)
    obtain ⟨q, rfl⟩ := Int.eq_ofNat_of_zero_le hk0
    have h1 : (q + 1 : Int) * b ≤ (n : Int) + b - 1 := by
      have := (Int.le_ediv_iff_mul_le (c := (b : Int)) (a := (q + 1 : Int)) (b := (n : Int) + b - 1) (by omega)).1 (by omega)
      exact this
    rw [Int.add_mul] at h1
    simp only [Int.toNat_natCast]
    have h2 : ((q * b : Nat) : Int) = (q : Int) * (b : Int) := by push_cast; rfl
    omega
theorem blk_src {w : World} {ad : Option Addr} {m : List Int} {cap bh : Nat} (B k : Nat) (h : Src w (.slice ad m.length cap) m bh) (hk : k * B < m.length) : ∃ sb so, ad = some ⟨sb, so, none⟩ ∧ m.length ≤ cap ∧
    ∀ n, n = min B (m.length - k * B) → Src w (.slice (some ⟨sb, so + k * B, none⟩) n (cap - k * B)) (blkL m B k) bh := by
  obtain ⟨ad', cap', sb, so, e, x2, x3, x4, x5, x6⟩ := h
  injection e with e1 _ e3
  subst e1 e3
  obtain rfl := x3 (by omega)
  have hl : (blkL m B k).length = min B (m.length - k * B) := by rw [blkL, List.length_take, List.length_drop]
  refine ⟨sb, so, rfl, x2, fun n hn => ⟨_, cap - k * B, sb, so + k * B, by rw [hl, hn], by rw [hl]; omega, fun _ => rfl, x4, fun j hj => ?_, fun h => by cases h⟩⟩
  rw [hl] at hj
  rw [Nat.add_assoc, x5 (k * B + j) (by omega), blkL, List.getElem?_take_of_lt (by omega), List.getElem?_drop]

/-- The k-th block, none if there is none. -/
def blockT (m : List Int) (B k : Int) : List Int := if 0 ≤ k ∧ k < cntL m.length B then blkL m B.toNat k.toNat else []

end Go.Proofs.YtblhipdcgdhmiaaDoor
