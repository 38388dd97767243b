/- The document's own sum: its table, and the text with what stands behind it. -/
import Derived.Test.YtblhipdcgdhmiaaDoorWg
import Derived.Test.YtblhipdcgdhmiaaDoorSpec4
namespace Go.Proofs.YtblhipdcgdhmiaaDoor
open Go.RowKit Go.Sha

set_option maxHeartbeats 1000000 in
set_option maxRecDepth 100000 in
theorem rounds_any (w : World) :
    Calls Tryd.prog 56 #[] w fun e w' => e = .returned (.agg (ws K)) ∧ Below w.heap.size w w' := by
  have a0 := At.new w (ws (List.replicate 64 0)) 100
  rw [← zeros64] at a0
  go_enter Tryd.func56, Tryd.ntmps56
  go_wp2_with (refine wpList_store_row rfl 100 _ _ rfl (w.heap.size) (ws K) rfl rfl 100 _ a0 sz45 rfl (ws_one _) ?_)
  exact bodyPost_ret (v := .agg (ws K)) (results_cell_row Tryd.results56 _ _ w.heap.size 100 _ (0, 0) _ rfl (a0.row _) Tryd.underlying100 rfl sz45) rfl ⟨rfl, below_setRow ((Below.refl _ _).alloc (Nat.le_refl _) _) (Nat.le_refl _) _⟩

end Go.Proofs.YtblhipdcgdhmiaaDoor
