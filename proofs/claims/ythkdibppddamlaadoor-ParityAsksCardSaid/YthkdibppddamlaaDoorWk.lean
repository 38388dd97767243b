/- The document's own sum: its table, and the text with what stands behind it. -/
import Derived.Test.YthkdibppddamlaaDoorWg
import Derived.Test.YthkdibppddamlaaDoorSpec4
namespace Go.Proofs.YthkdibppddamlaaDoor
open Go.RowKit Go.Sha

set_option maxHeartbeats 1000000 in
set_option maxRecDepth 100000 in
theorem rounds_any (w : World) :
    Calls Tryd.prog 36 #[] w fun e w' => e = .returned (.agg (ws K)) ∧ Below w.heap.size w w' := by
  have a0 := At.new w (ws (List.replicate 64 0)) 53
  rw [← zeros64] at a0
  go_enter Tryd.func36, Tryd.ntmps36
  go_wp2_with (refine wpList_store_row rfl 53 _ _ rfl (w.heap.size) (ws K) rfl rfl 53 _ a0 sz45 rfl (ws_one _) ?_)
  exact bodyPost_ret (v := .agg (ws K)) (results_cell_row Tryd.results36 _ _ w.heap.size 53 _ (0, 0) _ rfl (a0.row _) Tryd.underlying53 rfl sz45) rfl ⟨rfl, below_setRow ((Below.refl _ _).alloc (Nat.le_refl _) _) (Nat.le_refl _) _⟩

end Go.Proofs.YthkdibppddamlaaDoor
