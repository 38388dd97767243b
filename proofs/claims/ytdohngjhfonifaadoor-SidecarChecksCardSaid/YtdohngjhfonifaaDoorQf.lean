/- The contract of the document's own Update. -/
import Derived.Test.YtdohngjhfonifaaDoorPd
import Derived.Test.YtdohngjhfonifaaDoorPc
import Derived.Test.YtdohngjhfonifaaDoorPe
import Derived.BigRegion
namespace Go.Sha
open Go.Proofs.YtdohngjhfonifaaDoor
theorem grps_1 (B K : Int) (h : 1 ≤ B ∧ B ≤ 4096) (hK : 1 ≤ K ∧ K ≤ 8) : grpsN 1 B K = 1 := by
  unfold grpsN cntL
  rw [if_neg (by omega), if_neg (by omega)]
  have : (1 + B - 1) / B = 1 := by rw [show (1 : Int) + B - 1 = B by omega, Int.ediv_self (by omega)]
  rw [this, show (1 : Int) + K - 1 = K by omega, Int.ediv_self (by omega)]
/-- What the document makes of a group. -/
def rupG (par : List (List Int)) (old now : List Int) (B : Int) (K g : Nat) : List Int :=
  if ((g : Nat) : Int) < grpsN old.length B K then xorL (xorL (parL now B K g) (parL old B K g)) (par[g]?.getD []) else parL now B K g
theorem xorL_swap : ∀ a b : List Int, a.length = b.length → xorL a b = xorL b a
  | [], [], _ => rfl
  | [], _ :: _, h => by simp at h
  | _ :: _, [], h => by simp at h
  | x :: a, y :: b, h => by simp only [xorL]; rw [xb_comm, xorL_swap a b (by simpa using h)]
theorem rup_upd (par : List (List Int)) (old now : List Int) (B : Int) (K g : Nat) (hK : 1 ≤ K) (hK8 : K ≤ 8) (hB : 0 ≤ B) (hl : ∀ x ∈ par, (x.length : Int) = B) (hb : ∀ x ∈ par, Byt x) (hn : (par.length : Int) = grpsN old.length B K) : rupG par old now B K g = updG par old now B K g := by
  unfold rupG updG
  by_cases hg : ((g : Nat) : Int) < grpsN old.length B K
  · rw [if_pos hg]
    obtain ⟨p, hp⟩ : ∃ p, par[g]? = some p := ⟨_, List.getElem?_eq_getElem (by omega)⟩
    have hpl := hl p (List.mem_of_getElem? hp)
    have hpb := hb p (List.mem_of_getElem? hp)
    rw [hp, Option.getD_some, Option.getD_some]
    have e1 := grp_eq (gb old B K g) p hpb
    have e2 := grp_eq (gb now B K g) (grp p (gb old B K g)) (grp_byt _ _ hpb)
    have n1 : p.length = B.toNat := by omega
    rw [grp_length] at e2
    rw [e2, e1, n1]
    show xorL (xorL (parL now B K g) (parL old B K g)) p = xorL (xorL p (parL old B K g)) (parL now B K g)
    rw [xorL_right, xorL_swap (parL now B K g) p (by rw [parL_length, n1]), xorL_right]
  · rw [if_neg hg]
    have hp : par[g]? = none := List.getElem?_eq_none_iff.2 (by omega)
    rw [hp, Option.getD_none, grp_none _ _ (gb_none old B K g hK hK8 (by omega))]
    rfl
/-- A row filled from its beginning. -/
def fillN (R : List Int) (b j : Nat) : List Int := R.take j ++ List.replicate (b - j) 0
theorem fillN_length (R : List Int) (b j : Nat) (h : R.length = b) (hj : j ≤ b) : (fillN R b j).length = b := by simp [fillN]; omega
theorem fillN_set (R : List Int) (b j : Nat) (h : R.length = b) (hj : j < b) : (fillN R b j).set j (R[j]?.getD 0) = fillN R b (j + 1) := by
  unfold fillN
  have ht : (R.take j).length = j := by simp; omega
  rw [List.set_append_right _ _ (by omega), ht, Nat.sub_self, show b - j = (b - (j + 1)) + 1 by omega, List.replicate_succ, List.set_cons_zero, List.take_succ_eq_append_getElem (show j < R.length by omega), List.getElem?_eq_getElem (show j < R.length by omega), List.append_assoc]
  rfl
theorem xorL_get (a b : List Int) (j : Nat) (hj : j < a.length) (hl : a.length = b.length) : (xorL a b)[j]?.getD 0 = xb (a[j]?.getD 0) (b[j]?.getD 0) := by
  induction a generalizing b j with
  | nil => simp at hj
  | cons x a ih =>
    cases b with
    | nil => simp at hl
    | cons y b =>
      cases j with
      | zero => simp [xorL]
      | succ j => simpa [xorL] using ih b j (by simpa using hj) (by simpa using hl)
end Go.Sha

namespace Go.Proofs.YtdohngjhfonifaaDoor
open Go.RowKit Go.Sha
set_option linter.unusedSimpArgs false

def InvRf (w : World) (par : List (List Int)) (B : Int) (i : Value) (wr : World) : Prop := ∃ k : Nat, k ≤ par.length ∧ i = .int .i64 k ∧ w = wr ∧ (par.take k).all (fun x => (x.length : Int) == B) = true

end Go.Proofs.YtdohngjhfonifaaDoor
