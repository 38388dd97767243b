/- Slices of slices of bytes, as a call takes them. -/
import Derived.Test.YtaiadcekmooimaaRows
import Derived.Test.YtaiadcekmooimaaSpec4
import Derived.Handy
namespace Go.Proofs.Ytaiadcekmooimaa
open Go.RowKit Go.Sha
theorem u8zero : (Try.prog.info? 5).map (fun i => (i.zero, i.size, i.bytes)) = some (some (.int .u8 0), 1, 1) := by kernel_rfl
def flat (ps : List (Value × List Int)) : List Int := (ps.map (·.2)).flatten
theorem flat_snoc (ps : List (Value × List Int)) (x : Value × List Int) : flat (ps ++ [x]) = flat ps ++ x.2 := by simp [flat]
theorem flat_le (ps : List (Value × List Int)) (k : Nat) (x : Value × List Int) (hx : ps[k]? = some x) : (flat (ps.take k)).length + x.2.length ≤ (flat ps).length := by
  have hk : k < ps.length := (List.getElem?_eq_some_iff.1 hx).1
  have e : ps = ps.take k ++ (x :: ps.drop (k + 1)) := by
    have := (List.getElem?_eq_some_iff.1 hx).2
    rw [← this, List.getElem_cons_drop, List.take_append_drop]
  have : flat ps = flat (ps.take k) ++ (x.2 ++ flat (ps.drop (k + 1))) := by
    conv => lhs; rw [e]
    simp [flat]
  rw [this]; simp only [List.length_append]; omega
/-- A slice of slices of bytes. -/
def Srcs (w : World) (v : Value) (ps : List (Value × List Int)) : Prop :=
  ∃ ad cap pb po, v = .slice ad ps.length cap ∧ (0 < ps.length → ad = some ⟨pb, po, none⟩) ∧ ∀ j x, ps[j]? = some x → w.cell? ⟨pb, po + j, none⟩ = some x.1 ∧ Src w x.1 x.2 w.heap.size

end Go.Proofs.Ytaiadcekmooimaa
