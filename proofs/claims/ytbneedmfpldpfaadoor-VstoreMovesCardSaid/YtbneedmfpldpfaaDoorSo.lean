/- Contract of Stat of nothing. -/
import Derived.Test.YtbneedmfpldpfaaDoorSc
import Derived.Laws.ResultCell
namespace Go.Proofs.YtbneedmfpldpfaaDoor
open Go.RowKit Go.Pth

def zstat : Array Value := #[.string ⟨#[]⟩, .int .i64 0, .int .i64 0, .int .i64 0, .int .u64 0]
set_option maxRecDepth 100000 in
set_option maxHeartbeats 4000000 in
theorem stat_nil (p : ByteArray) (w : World) : Calls Tryd.prog 8 #[.pointer none, .string p] w fun e w' => e = .returned (.tuple #[.agg zstat, .int .i64 5]) ∧ Ext w w' := by
  have TH := Lib.hid there_nil
  have FI := Lib.hid (find_any (.slice none 0 0) [] p (w.alloc (.cells zstat 30)) (Tr.nil _) List.Pairwise.nil (by simp))
  simp only [show look [] p.toList = none from rfl, optr] at FI
  have hat : At (w.alloc (.cells zstat 30)) w.heap.size zstat 30 := At.new _ _ _
  unfold zstat at FI hat
  go_enter Tryd.func8, Tryd.ntmps8
  go_wp2_with fail
  refine (TH.out _).mono ?_
  rintro e w' ⟨rfl, rfl⟩
  go_wp2_with fail
  refine (FI.out).mono ?_
  rintro e w1 ⟨rfl, hE⟩
  have h1 := hat.ext hE
  have k0 := h1.cell 0
  have k1 := h1.cell 1
  have k2 := h1.cell 2
  have k3 := h1.cell 3
  have k4 := h1.cell 4
  have z0 := h1.frozen 0
  have z1 := h1.frozen 1
  have z2 := h1.frozen 2
  have z3 := h1.frozen 3
  have z4 := h1.frozen 4
  have a5 := ((((h1.set 0 (.string ⟨#[]⟩)).set 1 (.int .i64 0)).set 2 (.int .i64 0)).set 3 (.int .i64 0)).set 4 (.int .u64 0)
  have a5b : At (((((w1.setCell ⟨w.heap.size, 0, none⟩ (.string ⟨#[]⟩)).setCell ⟨w.heap.size, 1, none⟩ (.int .i64 0)).setCell ⟨w.heap.size, 2, none⟩ (.int .i64 0)).setCell ⟨w.heap.size, 3, none⟩ (.int .i64 0)).setCell ⟨w.heap.size, 4, none⟩ (.int .u64 0)) w.heap.size zstat 30 := by simpa [zstat] using a5
  have cg := ((((Chg.setCell w1 w.heap.size 0 (.string ⟨#[]⟩)).trans (Chg.setCell _ w.heap.size 1 (.int .i64 0)) fun _ _ x => x).trans (Chg.setCell _ w.heap.size 2 (.int .i64 0)) fun _ _ x => x).trans (Chg.setCell _ w.heap.size 3 (.int .i64 0)) fun _ _ x => x).trans (Chg.setCell _ w.heap.size 4 (.int .u64 0)) fun _ _ x => x
  have E := Lib.hid (((Chg.of_ext (X := fun _ => False) ((Ext.alloc w (.cells zstat 30)).trans hE)).trans cg (fun i hi e => by omega)).ext)
  have A5 := Lib.hid a5b
  clear hat h1 hE FI TH a5 a5b cg
  go_wp2
  generalize (((((w1.setCell ⟨w.heap.size, 0, none⟩ (.string ⟨#[]⟩)).setCell ⟨w.heap.size, 1, none⟩ (.int .i64 0)).setCell ⟨w.heap.size, 2, none⟩ (.int .i64 0)).setCell ⟨w.heap.size, 3, none⟩ (.int .i64 0)).setCell ⟨w.heap.size, 4, none⟩ (.int .u64 0)) = W5 at *
  clear k0 k1 k2 k3 k4 z0 z1 z2 z3 z4
  have k0 := A5.out.cell 0
  have k1 := A5.out.cell 1
  have k2 := A5.out.cell 2
  have k3 := A5.out.cell 3
  have k4 := A5.out.cell 4
  simp only [zstat] at k0 k1 k2 k3 k4
  refine bodyPost_ret (v := .tuple #[.agg zstat, .int .i64 5]) ?_ rfl ?_
  · rw [results_cell_tmp rfl]
    unfold zstat
    go_simp
  · exact ⟨rfl, E.out⟩
end Go.Proofs.YtbneedmfpldpfaaDoor
