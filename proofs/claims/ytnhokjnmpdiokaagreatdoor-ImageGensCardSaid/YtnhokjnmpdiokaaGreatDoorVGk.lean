/- Contracts of stat, Stat. -/
import Derived.Test.YtnhokjnmpdiokaaGreatDoorVHM
import Derived.Test.YtnhokjnmpdiokaaGreatDoorVFM
import Derived.StillTailTactics
set_option linter.unusedSimpArgs false
namespace Go.Proofs.YtnhokjnmpdiokaaGreatDoor.V
open Go.RowKit Go.Pth

theorem results_cell1 {fn : Func} {p : Tmp} {ty : TypeId} (h : fn.results = #[.cell p ty]) (tmps : Array Value) (P : Program) (w : World) :
    (results fn tmps).run P w = ((asAddr (tmps.getD p undef)).run P w).andThen fun a w₁ => (loadVar ty a).run P w₁ := by
  simp only [results, h]
  simp [Sem.run_bind, Result.andThen]
/-- What is said of one. -/
def statC (p : B) (N : NV) : Array Value := #[.string (tx p), .int .i64 N.kind, .int .i64 N.now.length, .int .i64 N.mt, .int .u64 N.stamp]
theorem set5 {w : World} {g : Nat} (v0 v1 v2 v3 v4 u0 u1 u2 u3 u4 : Value) (h : At w g #[u0, u1, u2, u3, u4] 40) :
    At (((((w.setCell ⟨g, 0, none⟩ v0).setCell ⟨g, 1, none⟩ v1).setCell ⟨g, 2, none⟩ v2).setCell ⟨g, 3, none⟩ v3).setCell ⟨g, 4, none⟩ v4) g #[v0, v1, v2, v3, v4] 40 ∧
    Chg (fun i => i = g) w (((((w.setCell ⟨g, 0, none⟩ v0).setCell ⟨g, 1, none⟩ v1).setCell ⟨g, 2, none⟩ v2).setCell ⟨g, 3, none⟩ v3).setCell ⟨g, 4, none⟩ v4) := by
  refine ⟨?_, ?_⟩
  · have a5 := ((((h.set 0 v0).set 1 v1).set 2 v2).set 3 v3).set 4 v4
    simpa using a5
  · exact ((((Chg.setCell w g 0 v0).trans (Chg.setCell _ g 1 v1) fun _ _ x => x).trans (Chg.setCell _ g 2 v2) fun _ _ x => x).trans (Chg.setCell _ g 3 v3) fun _ _ x => x).trans (Chg.setCell _ g 4 v4) fun _ _ x => x

set_option maxRecDepth 100000 in
set_option maxHeartbeats 8000000 in
theorem stat_any (p : B) (a : Nat) (N : NV) (V : Vs) (w : World) (h : NdIn w a N V) : Calls Tryz.prog 39 #[.agg #[.string (tx p), ptr a]] w fun e w' => e = .returned (.agg (statC p N)) ∧ Ext w w' := by
  obtain ⟨W1, hW1⟩ : ∃ W1, W1 = w.alloc (.cells #[.string (tx p), ptr a] 79) := ⟨_, rfl⟩
  obtain ⟨W2, hW2⟩ : ∃ W2, W2 = W1.alloc (.cells zstat 40) := ⟨_, rfl⟩
  have s1 : W1.heap.size = w.heap.size + 1 := by rw [hW1]; exact size_alloc _ _
  have e1 : Ext w W1 := by rw [hW1]; exact Ext.alloc _ _
  have e2 : Ext W1 W2 := by rw [hW2]; exact Ext.alloc _ _
  have a1 : At W2 w.heap.size #[.string (tx p), ptr a] 79 := by
    have : At W1 w.heap.size #[.string (tx p), ptr a] 79 := by rw [hW1]; exact At.new _ _ _
    exact this.ext e2
  have a2 : At W2 (w.heap.size + 1) zstat 40 := by rw [hW2, ← s1]; exact At.new _ _ _
  have n2 := h.cells.ext (e1.trans e2)
  have x0 := a1.cell 0
  have x1 := a1.cell 1
  have y0 := n2.cell 0
  have y1 := n2.cell 1
  have y2 := n2.cell 2
  have y3 := n2.cell 3
  obtain ⟨dn, kn, hvn, -⟩ := h.n.shape
  simp only [ncells, hvn] at y0 y1 y2 y3
  unfold zstat at a2
  obtain ⟨W3, hW3⟩ : ∃ W3, W3 = W2.drew := ⟨_, rfl⟩
  have a2d : At W3 (w.heap.size + 1) #[.string ⟨#[]⟩, .int .i64 0, .int .i64 0, .int .i64 0, .int .u64 0] 40 := by rw [hW3]; exact a2
  have e3 : Ext W2 W3 := by rw [hW3]; exact Ext.drew W2
  obtain ⟨f1, f2⟩ := set5 (.string (tx p)) (.int .i64 N.kind) (.int .i64 N.now.length) (.int .i64 N.mt) (.int .u64 N.stamp) _ _ _ _ _ a2d
  have F1 := Lib.hid f1
  have F2 := Lib.hid (((Chg.of_ext (X := fun _ => False) ((e1.trans e2).trans e3)).trans f2 (fun i hi e => by omega)).ext)
  have k0 := a2d.cell 0
  have k1 := a2d.cell 1
  have k2 := a2d.cell 2
  have k3 := a2d.cell 3
  have k4 := a2d.cell 4
  have z0 := a2d.frozen 0
  have z1 := a2d.frozen 1
  have z2 := a2d.frozen 2
  have z3 := a2d.frozen 3
  have z4 := a2d.frozen 4
  have HW2 := Lib.hid (show (w.alloc (.cells #[.string (tx p), ptr a] 79)).alloc (.cells #[.string ⟨#[]⟩, .int .i64 0, .int .i64 0, .int .i64 0, .int .u64 0] 40) = W2 by rw [hW2, hW1]; rfl)
  have HW3 := Lib.hid hW3.symm
  unfold ptr at *
  clear hW3 e3 hW1 hW2 a1 a2 a2d n2 f1 f2 e1 e2 s1 hvn h
  unfold statC
  generalize N.now.length = nl at *
  go_enter Tryz.func39, Tryz.ntmps39
  go_upto_region 1 with fail
  rw [HW2.out]
  go_upto_region 2 with fail
  go_still_tail 20, (by kernel_rfl)
  change wpList _ _ _ _ _ W2.drew
  rw [HW3.out]
  clear HW2 HW3 x0 x1 y0 y1 y2 y3
  go_wp2
  clear k0 k1 k2 k3 k4 z0 z1 z2 z3 z4
  generalize (((((W3.setCell ⟨w.heap.size + 1, 0, none⟩ (.string (tx p))).setCell ⟨w.heap.size + 1, 1, none⟩ (.int .i64 N.kind)).setCell ⟨w.heap.size + 1, 2, none⟩ (.int .i64 nl)).setCell ⟨w.heap.size + 1, 3, none⟩ (.int .i64 N.mt)).setCell ⟨w.heap.size + 1, 4, none⟩ (.int .u64 N.stamp)) = W5 at *
  have k0 := F1.out.cell 0
  have k1 := F1.out.cell 1
  have k2 := F1.out.cell 2
  have k3 := F1.out.cell 3
  have k4 := F1.out.cell 4
  refine bodyPost_ret (v := .agg #[.string (tx p), .int .i64 N.kind, .int .i64 nl, .int .i64 N.mt, .int .u64 N.stamp]) ?_ rfl ?_
  · rw [results_cell1 rfl]
    go_simp
  · exact ⟨rfl, F2.out⟩

set_option maxRecDepth 100000 in
set_option maxHeartbeats 8000000 in
/-- Stat of a name that is not there. -/
theorem stat_none (b : Nat) (S : SV) (V : SW) (L : Nat → Option Role) (p : ByteArray) (w : World) (h : Rep w b S V L) (hn : S.names.length ≤ 1000000) (hl : look S.names p.toList = none) :
    Calls Tryz.prog 16 #[ptr b, .string p] w fun e w' => e = .returned (.tuple #[.agg (zstat), .int .i64 5]) ∧ Ext w w' := by
  have TH := Lib.hid (there_any b S V L _ (h.ext (Ext.alloc w (.cells zstat 40))))
  have FI := Lib.hid (find_any V.n S.names p (w.alloc (.cells zstat 40)) (Tr.of_row (h.ext (Ext.alloc w (.cells zstat 40))).nm) h.sn hn)
  rw [hl] at FI
  simp only [optr] at FI
  have hat : At (w.alloc (.cells zstat 40)) w.heap.size zstat 40 := At.new _ _ _
  have E0 := Lib.hid (Ext.alloc w (.cells zstat 40))
  unfold zstat at FI hat TH E0
  unfold ptr at *
  clear h hn hl
  go_enter Tryz.func16, Tryz.ntmps16
  go_wp2_with fail
  refine (TH.out).mono ?_
  rintro e w' ⟨rfl, rfl⟩
  clear TH
  go_wp2_with fail
  refine (FI.out).mono ?_
  rintro e w1 ⟨rfl, hE⟩
  clear FI
  have h1 := hat.ext hE
  obtain ⟨f1, f2⟩ := set5 (.string ⟨#[]⟩) (.int .i64 0) (.int .i64 0) (.int .i64 0) (.int .u64 0) _ _ _ _ _ h1
  have F1 := Lib.hid f1
  have F2 := Lib.hid (((Chg.of_ext (X := fun _ => False) (E0.out.trans hE)).trans f2 (fun i hi e => by omega)).ext)
  have k0 := h1.cell 0
  have k1 := h1.cell 1
  have k2 := h1.cell 2
  have k3 := h1.cell 3
  have k4 := h1.cell 4
  have z0 := h1.frozen 0
  have z1 := h1.frozen 1
  have z2 := h1.frozen 2
  have z3 := h1.frozen 3
  have z4 := h1.frozen 4
  clear hat h1 hE f1 f2 E0
  go_wp2
  clear k0 k1 k2 k3 k4 z0 z1 z2 z3 z4
  generalize (((((w1.setCell ⟨w.heap.size, 0, none⟩ (.string ⟨#[]⟩)).setCell ⟨w.heap.size, 1, none⟩ (.int .i64 0)).setCell ⟨w.heap.size, 2, none⟩ (.int .i64 0)).setCell ⟨w.heap.size, 3, none⟩ (.int .i64 0)).setCell ⟨w.heap.size, 4, none⟩ (.int .u64 0)) = W5 at *
  have k0 := F1.out.cell 0
  have k1 := F1.out.cell 1
  have k2 := F1.out.cell 2
  have k3 := F1.out.cell 3
  have k4 := F1.out.cell 4
  refine bodyPost_ret (v := .tuple #[.agg #[.string ⟨#[]⟩, .int .i64 0, .int .i64 0, .int .i64 0, .int .u64 0], .int .i64 5]) ?_ rfl ?_
  · rw [results_cell_tmp rfl]
    go_simp
  · exact ⟨rfl, F2.out⟩

set_option maxRecDepth 100000 in
set_option maxHeartbeats 8000000 in
/-- Stat of a name. -/
theorem stat_some (b : Nat) (S : SV) (V : SW) (L : Nat → Option Role) (p : ByteArray) (a : Nat) (w : World) (h : Rep w b S V L) (hn : S.names.length ≤ 1000000) (hl : look S.names p.toList = some a) :
    Calls Tryz.prog 16 #[ptr b, .string p] w fun e w' => e = .returned (.tuple #[.agg (statC p.toList (S.nd a)), .int .i64 0]) ∧ Ext w w' := by
  have TH := Lib.hid (there_any b S V L _ (h.ext (Ext.alloc w (.cells zstat 40))))
  have FI := Lib.hid (find_any V.n S.names p (w.alloc (.cells zstat 40)) (Tr.of_row (h.ext (Ext.alloc w (.cells zstat 40))).nm) h.sn hn)
  rw [hl] at FI
  simp only [optr] at FI
  have ST := Lib.hid (fun w' (he : Ext w w') => by have := stat_any p.toList a (S.nd a) (V.nv a) w' ((h.ext he).nd a (h.rn _ (look_mem _ _ _ hl))).1; rw [list_tx] at this; exact this)
  unfold statC at ST ⊢
  rw [list_tx] at ST ⊢
  generalize (S.nd a).now.length = nl at *
  have hat : At (w.alloc (.cells zstat 40)) w.heap.size zstat 40 := At.new _ _ _
  have E0 := Lib.hid (Ext.alloc w (.cells zstat 40))
  unfold zstat at FI hat TH E0
  unfold ptr at *
  clear h hn hl
  go_enter Tryz.func16, Tryz.ntmps16
  go_wp2_with fail
  refine (TH.out).mono ?_
  rintro e w' ⟨rfl, rfl⟩
  clear TH
  go_wp2_with fail
  refine (FI.out).mono ?_
  rintro e w1 ⟨rfl, hE⟩
  clear FI
  have hEw := E0.out.trans hE
  go_wp2_with fail
  refine (ST.out _ hEw).mono ?_
  rintro e w2 ⟨rfl, hE2⟩
  have hE := hE.trans hE2
  clear ST hEw hE2
  have h1 := hat.ext hE
  obtain ⟨f1, f2⟩ := set5 (.string p) (.int .i64 (S.nd a).kind) (.int .i64 nl) (.int .i64 (S.nd a).mt) (.int .u64 (S.nd a).stamp) _ _ _ _ _ h1
  have F1 := Lib.hid f1
  have F2 := Lib.hid (((Chg.of_ext (X := fun _ => False) (E0.out.trans hE)).trans f2 (fun i hi e => by omega)).ext)
  have k0 := h1.cell 0
  have k1 := h1.cell 1
  have k2 := h1.cell 2
  have k3 := h1.cell 3
  have k4 := h1.cell 4
  have z0 := h1.frozen 0
  have z1 := h1.frozen 1
  have z2 := h1.frozen 2
  have z3 := h1.frozen 3
  have z4 := h1.frozen 4
  clear hat h1 hE f1 f2 E0
  go_wp2
  clear k0 k1 k2 k3 k4 z0 z1 z2 z3 z4
  generalize (((((w2.setCell ⟨w.heap.size, 0, none⟩ (.string p)).setCell ⟨w.heap.size, 1, none⟩ (.int .i64 (S.nd a).kind)).setCell ⟨w.heap.size, 2, none⟩ (.int .i64 nl)).setCell ⟨w.heap.size, 3, none⟩ (.int .i64 (S.nd a).mt)).setCell ⟨w.heap.size, 4, none⟩ (.int .u64 (S.nd a).stamp)) = W5 at *
  have k0 := F1.out.cell 0
  have k1 := F1.out.cell 1
  have k2 := F1.out.cell 2
  have k3 := F1.out.cell 3
  have k4 := F1.out.cell 4
  refine bodyPost_ret (v := .tuple #[.agg #[.string p, .int .i64 (S.nd a).kind, .int .i64 nl, .int .i64 (S.nd a).mt, .int .u64 (S.nd a).stamp], .int .i64 0]) ?_ rfl ?_
  · rw [results_cell_tmp rfl]
    go_simp
  · exact ⟨rfl, F2.out⟩
end Go.Proofs.YtnhokjnmpdiokaaGreatDoor.V
