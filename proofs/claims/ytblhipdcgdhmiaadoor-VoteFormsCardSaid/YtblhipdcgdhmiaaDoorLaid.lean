/- What the listed table gives the walks. No conditions: lemmas. -/
import Derived.Test.YtblhipdcgdhmiaaDoorRw
namespace Go.Proofs.YtblhipdcgdhmiaaDoor
open Go.ChangeShapes Go.WideShapes Go.ChangeAt Go.RowKit Go.Sha

def laidK : List (String × DataW Unit) := [("linnet/digest.roundWords", Rows.laid_linnet_digest_roundWords)]
theorem gK : Tryd.prog.globalNamed "linnet/digest.roundWords" = some 0 := by kernel_rfl
theorem tK : (Tryd.prog.globals[0]?).map (·.type) = some 100 := by kernel_rfl

theorem door_met (os : Os) (args : Array Value) : laidMetH Tryd.prog laidK ((World.doorLaid Tryd.prog 400 os).forCall (fun _ _ => 0) ⟨#[], args, []⟩).memory :=
  laidMetH_of_parts3 (fuel := 8) (laidMet_of_run' 8 (by kernel_rfl) (by kernel_rfl)) (by kernel_rfl) (by kernel_rfl)

theorem k_of_laid {W : World} (h : laidMetH Tryd.prog laidK W) : KAt W := by
  rw [MakeChecks.laidMetH_plain _ _ _ (by kernel_rfl)] at h
  have h' : laidMet Tryd.prog (("linnet/digest.roundWords", Lib.tabData .u32 K) :: []) W := h
  have ht := Lib.tabIs_of_head gK tK Tryd.underlying100 Tryd.underlying90 (by kernel_rfl) (by kernel_rfl) h'
  intro j hj
  rw [ht.cell gK j (by rw [K_length]; exact hj)]; rfl
end Go.Proofs.YtblhipdcgdhmiaaDoor
