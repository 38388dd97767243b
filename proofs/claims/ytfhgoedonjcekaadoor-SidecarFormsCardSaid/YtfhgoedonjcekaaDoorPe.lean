/- The contracts of Lists and of what the document fixes. -/
import Derived.Test.YtfhgoedonjcekaaDoorPd
namespace Go.Proofs.YtfhgoedonjcekaaDoor
open Go.RowKit Go.Sha
set_option linter.unusedSimpArgs false

theorem belowN {B : Nat} {a w : World} (h : Below B a w) (n : Nat) : Below B a (w.drewN n) := ⟨h.os, h.tape, h.output, h.size, h.block⟩
theorem convB {w : World} {v : Value} {m : List Int} {b : Nat} (h : Src w v m b) : (convert 22 9 v).run Tryd.prog w = .ok (.string (strOfNums m)) w := conv_src (P := Tryd.prog) 22 9 5 Tryd.underlying22 Tryd.underlying5 Tryd.underlying9 h

def InvC (w : World) (n : Nat) (i : Value) (wr : World) : Prop := ∃ k : Nat, k ≤ n ∧ i = .int .i64 k ∧ Ext w wr

theorem ab1 : buildL [1, 2, 3] 1 8 = [[0]] := by decide +kernel
theorem ab2 : fitsL [[0]] 3 1 8 = true := by decide +kernel
theorem ab3 : updL [[0]] [1, 2, 3] [1, 2, 7] 1 8 = [[4]] := by decide +kernel
theorem ab4 : fitsL [] 1 1 8 = false := by decide +kernel
theorem ab5 : grpsN 9 1 8 = 2 := by decide +kernel

end Go.Proofs.YtfhgoedonjcekaaDoor
