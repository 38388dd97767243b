/- The contract of the document's own parts. The contract of the document's own Valid. The contract of the document's own Parent. The contracts of the document's own Under and Less. -/
import Derived.Test.YtnhokjnmpdiokaaGreatDoorVWM
import Derived.Deep.CutRange
namespace Go.Proofs.YtnhokjnmpdiokaaGreatDoor.V
open Go.RowKit Go.Pth

theorem strzero : (Tryz.prog.info? 9).map (fun i => (i.zero, i.size, i.bytes)) = some (some (.string ByteArray.empty), 1, 16) := by kernel_rfl
structure Cuts (L : B) (k f : Nat) (done : List B) : Prop where
  le : f ≤ k
  kl : k ≤ L.length
  all : cut L = done ++ cut (L.drop f)
  none : (47 : UInt8) ∉ (L.drop f).take (k - f)
  few : done.length ≤ k
theorem Cuts.start (L : B) : Cuts L 0 0 [] := ⟨by omega, by omega, rfl, by simp, by simp⟩
theorem Cuts.last {L : B} {f : Nat} {done : List B} (h : Cuts L L.length f done) : cut L = done ++ [(L.drop f).take (L.length - f)] := by
  have hn := h.none
  rw [List.take_of_length_le (by rw [List.length_drop]; omega)] at hn ⊢
  rw [h.all, cut_one _ hn]
theorem Cuts.at {L : B} {k f : Nat} {done : List B} (h : Cuts L k f done) (hk : L[k]? = some 47) : Cuts L (k + 1) (k + 1) (done ++ [(L.drop f).take (k - f)]) := by
  have hkl : k < L.length := (List.getElem?_eq_some_iff.1 hk).1
  have e : L.drop f = (L.drop f).take (k - f) ++ 47 :: L.drop (k + 1) := by
    have h1 : (L.drop f).drop (k - f) = 47 :: L.drop (k + 1) := by
      rw [List.drop_drop, show f + (k - f) = k by have := h.le; omega, List.drop_eq_getElem_cons hkl]
      rw [List.getElem?_eq_getElem hkl] at hk
      injection hk with hk
      rw [hk]
    rw [← h1, List.take_append_drop]
  refine ⟨by omega, by omega, ?_, by simp, by simp; have := h.few; omega⟩
  have hc : cut (L.drop f) = cut ((L.drop f).take (k - f)) ++ cut (L.drop (k + 1)) := by
    have := cut_app ((L.drop f).take (k - f)) (L.drop (k + 1))
    rw [← e] at this
    exact this
  rw [h.all, hc, cut_one _ h.none, List.append_assoc]
theorem Cuts.on {L : B} {k f : Nat} {done : List B} (h : Cuts L k f done) (c : UInt8) (hk : L[k]? = some c) (hc : c ≠ 47) : Cuts L (k + 1) f done := by
  have hkl : k < L.length := (List.getElem?_eq_some_iff.1 hk).1
  have hle := h.le
  refine ⟨by omega, by omega, h.all, ?_, by have := h.few; omega⟩
  rw [show k + 1 - f = (k - f) + 1 by omega, List.take_add_one, List.getElem?_drop, show f + (k - f) = k by omega, hk]
  intro hm
  rcases List.mem_append.1 hm with hm | hm
  · exact h.none hm
  · simp at hm; exact hc hm.symm

end Go.Proofs.YtnhokjnmpdiokaaGreatDoor.V

namespace Go.Proofs.YtnhokjnmpdiokaaGreatDoor.V
open Go.RowKit Go.Pth

end Go.Proofs.YtnhokjnmpdiokaaGreatDoor.V

namespace Go.Proofs.YtnhokjnmpdiokaaGreatDoor.V
open Go.RowKit Go.Pth


end Go.Proofs.YtnhokjnmpdiokaaGreatDoor.V

set_option linter.unusedSimpArgs false
set_option linter.unusedVariables false
namespace Go.Proofs.YtnhokjnmpdiokaaGreatDoor.V
open Go.RowKit Go.Pth

end Go.Proofs.YtnhokjnmpdiokaaGreatDoor.V
