/- Contracts of stat, Stat. Contract of List. Contracts of Remove of what is held, SameStats of what is alike. -/
import Derived.Test.YtbneedmfpldpfaaDoorSo
import Derived.Test.YtbneedmfpldpfaaDoorSg
import Derived.StillTailTactics
import Derived.Test.YtbneedmfpldpfaaDoorGc
import Derived.Test.YtbneedmfpldpfaaDoorGj
import Derived.BigQuiet
set_option linter.unusedSimpArgs false
namespace Go.Proofs.YtbneedmfpldpfaaDoor
open Go.RowKit Go.Pth

theorem results_cell1 {fn : Func} {p : Tmp} {ty : TypeId} (h : fn.results = #[.cell p ty]) (tmps : Array Value) (P : Program) (w : World) :
    (results fn tmps).run P w = ((asAddr (tmps.getD p undef)).run P w).andThen fun a w₁ => (loadVar ty a).run P w₁ := by
  simp only [results, h]
  simp [Sem.run_bind, Result.andThen]
/-- What is said of one. -/
def statC (p : B) (N : NV) : Array Value := #[.string (tx p), .int .i64 N.kind, .int .i64 N.now.length, .int .i64 N.mt, .int .u64 N.stamp]
theorem set5 {w : World} {g : Nat} (v0 v1 v2 v3 v4 u0 u1 u2 u3 u4 : Value) (h : At w g #[u0, u1, u2, u3, u4] 30) :
    At (((((w.setCell ⟨g, 0, none⟩ v0).setCell ⟨g, 1, none⟩ v1).setCell ⟨g, 2, none⟩ v2).setCell ⟨g, 3, none⟩ v3).setCell ⟨g, 4, none⟩ v4) g #[v0, v1, v2, v3, v4] 30 ∧
    Chg (fun i => i = g) w (((((w.setCell ⟨g, 0, none⟩ v0).setCell ⟨g, 1, none⟩ v1).setCell ⟨g, 2, none⟩ v2).setCell ⟨g, 3, none⟩ v3).setCell ⟨g, 4, none⟩ v4) := by
  refine ⟨?_, ?_⟩
  · have a5 := ((((h.set 0 v0).set 1 v1).set 2 v2).set 3 v3).set 4 v4
    simpa using a5
  · exact ((((Chg.setCell w g 0 v0).trans (Chg.setCell _ g 1 v1) fun _ _ x => x).trans (Chg.setCell _ g 2 v2) fun _ _ x => x).trans (Chg.setCell _ g 3 v3) fun _ _ x => x).trans (Chg.setCell _ g 4 v4) fun _ _ x => x

set_option maxRecDepth 100000 in
set_option maxHeartbeats 8000000 in
theorem stat_any (p : B) (a : Nat) (N : NV) (V : Vs) (w : World) (h : NdIn w a N V) : Calls Tryd.prog 28 #[.agg #[.string (tx p), ptr a]] w fun e w' => e = .returned (.agg (statC p N)) ∧ Ext w w' := by
  obtain ⟨W1, hW1⟩ : ∃ W1, W1 = w.alloc (.cells #[.string (tx p), ptr a] 64) := ⟨_, rfl⟩
  obtain ⟨W2, hW2⟩ : ∃ W2, W2 = W1.alloc (.cells zstat 30) := ⟨_, rfl⟩
  have s1 : W1.heap.size = w.heap.size + 1 := by rw [hW1]; exact size_alloc _ _
  have e1 : Ext w W1 := by rw [hW1]; exact Ext.alloc _ _
  have e2 : Ext W1 W2 := by rw [hW2]; exact Ext.alloc _ _
  have a1 : At W2 w.heap.size #[.string (tx p), ptr a] 64 := by
    have : At W1 w.heap.size #[.string (tx p), ptr a] 64 := by rw [hW1]; exact At.new _ _ _
    exact this.ext e2
  have a2 : At W2 (w.heap.size + 1) zstat 30 := by rw [hW2, ← s1]; exact At.new _ _ _
  have n2 := h.cells.ext (e1.trans e2)
  have x0 := a1.cell 0
  have x1 := a1.cell 1
  have y0 := n2.cell 0
  have y1 := n2.cell 1
  have y2 := n2.cell 2
  have y3 := n2.cell 3
  obtain ⟨dn, kn, hvn, -⟩ := h.n.shape
  simp only [ncells, hvn] at y0 y1 y2 y3
  unfold zstat at a2
  obtain ⟨W3, hW3⟩ : ∃ W3, W3 = W2.drew := ⟨_, rfl⟩
  have a2d : At W3 (w.heap.size + 1) #[.string ⟨#[]⟩, .int .i64 0, .int .i64 0, .int .i64 0, .int .u64 0] 30 := by rw [hW3]; exact a2
  have e3 : Ext W2 W3 := by rw [hW3]; exact Ext.drew W2
  obtain ⟨f1, f2⟩ := set5 (.string (tx p)) (.int .i64 N.kind) (.int .i64 N.now.length) (.int .i64 N.mt) (.int .u64 N.stamp) _ _ _ _ _ a2d
  have F1 := Lib.hid f1
  have F2 := Lib.hid (((Chg.of_ext (X := fun _ => False) ((e1.trans e2).trans e3)).trans f2 (fun i hi e => by omega)).ext)
  have k0 := a2d.cell 0
  have k1 := a2d.cell 1
  have k2 := a2d.cell 2
  have k3 := a2d.cell 3
  have k4 := a2d.cell 4
  have z0 := a2d.frozen 0
  have z1 := a2d.frozen 1
  have z2 := a2d.frozen 2
  have z3 := a2d.frozen 3
  have z4 := a2d.frozen 4
  have HW2 := Lib.hid (show (w.alloc (.cells #[.string (tx p), ptr a] 64)).alloc (.cells #[.string ⟨#[]⟩, .int .i64 0, .int .i64 0, .int .i64 0, .int .u64 0] 30) = W2 by rw [hW2, hW1]; rfl)
  have HW3 := Lib.hid hW3.symm
  unfold ptr at *
  clear hW3 e3 hW1 hW2 a1 a2 a2d n2 f1 f2 e1 e2 s1 hvn h
  unfold statC
  generalize N.now.length = nl at *
  go_enter Tryd.func28, Tryd.ntmps28
  go_upto_region 1 with fail
  rw [HW2.out]
  go_upto_region 2 with fail
  go_still_tail 20, (by kernel_rfl)
  change wpList _ _ _ _ _ W2.drew
  rw [HW3.out]
  clear HW2 HW3 x0 x1 y0 y1 y2 y3
  go_wp2
  clear k0 k1 k2 k3 k4 z0 z1 z2 z3 z4
  generalize (((((W3.setCell ⟨w.heap.size + 1, 0, none⟩ (.string (tx p))).setCell ⟨w.heap.size + 1, 1, none⟩ (.int .i64 N.kind)).setCell ⟨w.heap.size + 1, 2, none⟩ (.int .i64 nl)).setCell ⟨w.heap.size + 1, 3, none⟩ (.int .i64 N.mt)).setCell ⟨w.heap.size + 1, 4, none⟩ (.int .u64 N.stamp)) = W5 at *
  have k0 := F1.out.cell 0
  have k1 := F1.out.cell 1
  have k2 := F1.out.cell 2
  have k3 := F1.out.cell 3
  have k4 := F1.out.cell 4
  refine bodyPost_ret (v := .agg #[.string (tx p), .int .i64 N.kind, .int .i64 nl, .int .i64 N.mt, .int .u64 N.stamp]) ?_ rfl ?_
  · rw [results_cell1 rfl]
    go_simp
  · exact ⟨rfl, F2.out⟩

set_option maxRecDepth 100000 in
set_option maxHeartbeats 8000000 in
/-- Stat of a name that is not there. -/
theorem stat_none (b : Nat) (S : SV) (V : SW) (L : Nat → Option Role) (p : ByteArray) (w : World) (h : Rep w b S V L) (hn : S.names.length ≤ 1000000) (hl : look S.names p.toList = none) :
    Calls Tryd.prog 8 #[ptr b, .string p] w fun e w' => e = .returned (.tuple #[.agg (zstat), .int .i64 5]) ∧ Ext w w' := by
  have TH := Lib.hid (there_any b S V L _ (h.ext (Ext.alloc w (.cells zstat 30))))
  have FI := Lib.hid (find_any V.n S.names p (w.alloc (.cells zstat 30)) (Tr.of_row (h.ext (Ext.alloc w (.cells zstat 30))).nm) h.sn hn)
  rw [hl] at FI
  simp only [optr] at FI
  have hat : At (w.alloc (.cells zstat 30)) w.heap.size zstat 30 := At.new _ _ _
  have E0 := Lib.hid (Ext.alloc w (.cells zstat 30))
  unfold zstat at FI hat TH E0
  unfold ptr at *
  clear h hn hl
  go_enter Tryd.func8, Tryd.ntmps8
  go_wp2_with fail
  refine (TH.out).mono ?_
  rintro e w' ⟨rfl, rfl⟩
  clear TH
  go_wp2_with fail
  refine (FI.out).mono ?_
  rintro e w1 ⟨rfl, hE⟩
  clear FI
  have h1 := hat.ext hE
  obtain ⟨f1, f2⟩ := set5 (.string ⟨#[]⟩) (.int .i64 0) (.int .i64 0) (.int .i64 0) (.int .u64 0) _ _ _ _ _ h1
  have F1 := Lib.hid f1
  have F2 := Lib.hid (((Chg.of_ext (X := fun _ => False) (E0.out.trans hE)).trans f2 (fun i hi e => by omega)).ext)
  have k0 := h1.cell 0
  have k1 := h1.cell 1
  have k2 := h1.cell 2
  have k3 := h1.cell 3
  have k4 := h1.cell 4
  have z0 := h1.frozen 0
  have z1 := h1.frozen 1
  have z2 := h1.frozen 2
  have z3 := h1.frozen 3
  have z4 := h1.frozen 4
  clear hat h1 hE f1 f2 E0
  go_wp2
  clear k0 k1 k2 k3 k4 z0 z1 z2 z3 z4
  generalize (((((w1.setCell ⟨w.heap.size, 0, none⟩ (.string ⟨#[]⟩)).setCell ⟨w.heap.size, 1, none⟩ (.int .i64 0)).setCell ⟨w.heap.size, 2, none⟩ (.int .i64 0)).setCell ⟨w.heap.size, 3, none⟩ (.int .i64 0)).setCell ⟨w.heap.size, 4, none⟩ (.int .u64 0)) = W5 at *
  have k0 := F1.out.cell 0
  have k1 := F1.out.cell 1
  have k2 := F1.out.cell 2
  have k3 := F1.out.cell 3
  have k4 := F1.out.cell 4
  refine bodyPost_ret (v := .tuple #[.agg #[.string ⟨#[]⟩, .int .i64 0, .int .i64 0, .int .i64 0, .int .u64 0], .int .i64 5]) ?_ rfl ?_
  · rw [results_cell_tmp rfl]
    go_simp
  · exact ⟨rfl, F2.out⟩

set_option maxRecDepth 100000 in
set_option maxHeartbeats 8000000 in
/-- Stat of a name. -/
theorem stat_some (b : Nat) (S : SV) (V : SW) (L : Nat → Option Role) (p : ByteArray) (a : Nat) (w : World) (h : Rep w b S V L) (hn : S.names.length ≤ 1000000) (hl : look S.names p.toList = some a) :
    Calls Tryd.prog 8 #[ptr b, .string p] w fun e w' => e = .returned (.tuple #[.agg (statC p.toList (S.nd a)), .int .i64 0]) ∧ Ext w w' := by
  have TH := Lib.hid (there_any b S V L _ (h.ext (Ext.alloc w (.cells zstat 30))))
  have FI := Lib.hid (find_any V.n S.names p (w.alloc (.cells zstat 30)) (Tr.of_row (h.ext (Ext.alloc w (.cells zstat 30))).nm) h.sn hn)
  rw [hl] at FI
  simp only [optr] at FI
  have ST := Lib.hid (fun w' (he : Ext w w') => by have := stat_any p.toList a (S.nd a) (V.nv a) w' ((h.ext he).nd a (h.rn _ (look_mem _ _ _ hl))).1; rw [list_tx] at this; exact this)
  unfold statC at ST ⊢
  rw [list_tx] at ST ⊢
  generalize (S.nd a).now.length = nl at *
  have hat : At (w.alloc (.cells zstat 30)) w.heap.size zstat 30 := At.new _ _ _
  have E0 := Lib.hid (Ext.alloc w (.cells zstat 30))
  unfold zstat at FI hat TH E0
  unfold ptr at *
  clear h hn hl
  go_enter Tryd.func8, Tryd.ntmps8
  go_wp2_with fail
  refine (TH.out).mono ?_
  rintro e w' ⟨rfl, rfl⟩
  clear TH
  go_wp2_with fail
  refine (FI.out).mono ?_
  rintro e w1 ⟨rfl, hE⟩
  clear FI
  have hEw := E0.out.trans hE
  go_wp2_with fail
  refine (ST.out _ hEw).mono ?_
  rintro e w2 ⟨rfl, hE2⟩
  have hE := hE.trans hE2
  clear ST hEw hE2
  have h1 := hat.ext hE
  obtain ⟨f1, f2⟩ := set5 (.string p) (.int .i64 (S.nd a).kind) (.int .i64 nl) (.int .i64 (S.nd a).mt) (.int .u64 (S.nd a).stamp) _ _ _ _ _ h1
  have F1 := Lib.hid f1
  have F2 := Lib.hid (((Chg.of_ext (X := fun _ => False) (E0.out.trans hE)).trans f2 (fun i hi e => by omega)).ext)
  have k0 := h1.cell 0
  have k1 := h1.cell 1
  have k2 := h1.cell 2
  have k3 := h1.cell 3
  have k4 := h1.cell 4
  have z0 := h1.frozen 0
  have z1 := h1.frozen 1
  have z2 := h1.frozen 2
  have z3 := h1.frozen 3
  have z4 := h1.frozen 4
  clear hat h1 hE f1 f2 E0
  go_wp2
  clear k0 k1 k2 k3 k4 z0 z1 z2 z3 z4
  generalize (((((w2.setCell ⟨w.heap.size, 0, none⟩ (.string p)).setCell ⟨w.heap.size, 1, none⟩ (.int .i64 (S.nd a).kind)).setCell ⟨w.heap.size, 2, none⟩ (.int .i64 nl)).setCell ⟨w.heap.size, 3, none⟩ (.int .i64 (S.nd a).mt)).setCell ⟨w.heap.size, 4, none⟩ (.int .u64 (S.nd a).stamp)) = W5 at *
  have k0 := F1.out.cell 0
  have k1 := F1.out.cell 1
  have k2 := F1.out.cell 2
  have k3 := F1.out.cell 3
  have k4 := F1.out.cell 4
  refine bodyPost_ret (v := .tuple #[.agg #[.string p, .int .i64 (S.nd a).kind, .int .i64 nl, .int .i64 (S.nd a).mt, .int .u64 (S.nd a).stamp], .int .i64 0]) ?_ rfl ?_
  · rw [results_cell_tmp rfl]
    go_simp
  · exact ⟨rfl, F2.out⟩
end Go.Proofs.YtbneedmfpldpfaaDoor

set_option linter.unusedSimpArgs false
namespace Go.Proofs.YtbneedmfpldpfaaDoor
open Go.RowKit Go.Pth

def stats (nd : Nat → NV) (l : List Nm) : List Value := l.flatMap fun e => (statC e.1 (nd e.2)).toList
theorem stats_len (nd : Nat → NV) (l : List Nm) : (stats nd l).length = l.length * 5 := by
  induction l with
  | nil => rfl
  | cons a r ih => simp [stats, statC] at ih ⊢; omega
theorem stats_app (nd : Nat → NV) (a b : List Nm) : stats nd (a ++ b) = stats nd a ++ stats nd b := by simp [stats]
theorem info30 : (Tryd.prog.info? 30).map (fun i => (i.zero, i.size)) = some (some (.agg zstat), 5) := by kernel_rfl
theorem info30b : (Tryd.prog.info? 30).map (fun i => decide (i.bytes ≤ 100)) = some true := by kernel_rfl
def ListPost (w : World) (n : Nat) (xs : List Value) (e : Ending) (w' : World) : Prop := ∃ v, e = .returned v ∧ Row w' 30 5 v n xs ∧ Ext w w' ∧ ∀ q, v.ownBlock = some q → w.heap.size ≤ q
def InvLi (w : World) (nd : Nat → NV) (l : List Nm) (s3 s9 : Value) (wr : World) : Prop :=
  ∃ k : Nat, k ≤ l.length ∧ s9 = .int .i64 k ∧ Ext w wr ∧ Row wr 30 5 s3 k (stats nd (l.take k)) ∧ ∀ q, s3.ownBlock = some q → w.heap.size ≤ q

set_option maxRecDepth 100000 in
set_option maxHeartbeats 8000000 in
theorem list_any (b g cap : Nat) (S : SV) (V : SW) (L : Nat → Option Role) (w : World) (h : Rep w b S V L) (hn : S.names.length ≤ 100000) (hvn : V.n = .slice (some ⟨g, 0, none⟩) S.names.length cap) :
    Calls Tryd.prog 14 #[ptr b] w (ListPost w S.names.length (stats S.nd S.names)) := by
  have TH := Lib.hid (there_any b S V L w h)
  have HR := Lib.hid h
  have hnm := h.nm
  rw [hvn] at TH hnm
  have HNM := Lib.hid hnm
  obtain ⟨n, hnn⟩ : ∃ n, n = S.names.length := ⟨_, rfl⟩
  have HNN := Lib.hid hnn
  rw [← hnn] at TH hn HNM ⊢
  clear h hnm hvn hnn
  unfold ptr
  go_enter Tryd.func14, Tryd.ntmps14
  go_wp2_with fail
  refine (TH.out).mono ?_
  rintro e w' ⟨rfl, rfl⟩
  clear TH
  have I0 : InvLi w S.nd S.names (.slice none 0 0) (.int .i64 0) w := ⟨0, by omega, rfl, Ext.refl _, World.ownsRow_nil _ _ _ _, fun q hq => by cases hq⟩
  go_wp2
  go_loopw [3, 9] (fun s3 s9 wr => InvLi w S.nd S.names s3 s9 wr) (fun _ s9 _ => n - (intOf s9).toNat)
  case atStart => exact I0
  case round =>
    obtain ⟨k, hk, rfl, he, hrow, hfr⟩ := hrel
    rw [← HNN.out] at hk
    obtain ⟨d3, c3, hv3, hc1, hc2, hc3, hc4⟩ := hrow.shape
    subst hv3
    by_cases hlt : k < n
    · have hkl : k < S.names.length := by rw [← HNN.out]; exact hlt
      have RW := HNM.out.ext he
      have eg := ents_get S.names k hkl
      have c1 := (Row.cellK RW (k * 2) (by omega))
      have c2 := (Row.cellK RW (k * 2 + 1) (by omega))
      rw [eg.1] at c1
      rw [eg.2] at c2
      have htk : S.names.take (k + 1) = S.names.take k ++ [S.names[k]] := List.take_succ_eq_append_getElem hkl
      have hid := HR.out.rn _ (List.getElem_mem hkl)
      have ST := Lib.hid (fun w' (hw : Ext w w') => stat_any S.names[k].1 S.names[k].2 (S.nd S.names[k].2) (V.nv S.names[k].2) w' ((HR.out.ext hw).nd _ hid).1)
      obtain ⟨i, hi⟩ := Option.isSome_iff_exists.1 (show (Tryd.prog.info? 30).isSome = true by kernel_rfl)
      have hi2 := info30; rw [hi] at hi2; simp only [Option.map_some, Option.some.injEq, Prod.mk.injEq] at hi2
      have hi3 := info30b; rw [hi] at hi3; simp only [Option.map_some, Option.some.injEq, decide_eq_true_eq] at hi3
      obtain ⟨hiz, his⟩ := hi2
      have AP : Hid (∀ w2, Ext (wr.alloc (.cells #[.string (tx S.names[k].1), ptr S.names[k].2] 64)) w2 → ∃ d4 c4 w4, (Builtin.append_ #[39, 39] 39 #[.slice d3 k c3, .slice (some ⟨w2.heap.size, 0, none⟩) 1 1]).run Tryd.prog (w2.alloc (.cells (statC S.names[k].1 (S.nd S.names[k].2)) 30)) = .ok (.slice d4 (k + 1) c4) w4 ∧ InvLi w S.nd S.names (.slice d4 (k + 1) c4) (.int .i64 (k + 1 : Nat)) w4) := by
        intro w2 hw2
        have E2 : Ext wr w2 := (Ext.alloc wr _).trans hw2
        have E3 : Ext w2 (w2.alloc (.cells (statC S.names[k].1 (S.nd S.names[k].2)) 30)) := Ext.alloc _ _
        have hat : At (w2.alloc (.cells (statC S.names[k].1 (S.nd S.names[k].2)) 30)) w2.heap.size (statC S.names[k].1 (S.nd S.names[k].2)) 30 := At.new _ _ _
        obtain ⟨v4, w4, hrun, hr4, hg4⟩ := run_append_row (P := Tryd.prog) (w2.alloc (.cells (statC S.names[k].1 (S.nd S.names[k].2)) 30)) 39 39 39 30 i _ Tryd.underlying39 hi hiz (by rw [his]; rfl) (.slice d3 k c3) k (stats S.nd (S.names.take k)) (by rw [his]; exact (hrow.ext E2).ext E3) (.slice (some ⟨w2.heap.size, 0, none⟩) 1 1) 1 (statC S.names[k].1 (S.nd S.names[k].2)).toList (by
          rw [his]
          refine Src.ofSlice _ Tryd.underlying39 ⟨w2.heap.size, 0, none⟩ 1 1 _ (by simp [statC]) (fun q u hu => ?_) (by simp [statC, Value.oneCell'])
          rw [Addr.add_lit, Nat.zero_add, hat.cell, ← hu, Array.getElem?_toList]) (by simp only [maxLen]; omega) (by
          have : (k + 1) * i.bytes ≤ (k + 1) * 100 := Nat.mul_le_mul_left _ hi3
          omega)
        rw [his] at hr4
        have e4 : Ext w w4 := ((Chg.of_ext (X := fun _ => False) ((he.trans E2).trans E3)).trans hg4.chg (fun q hq e => by have := hfr q e; omega)).ext
        obtain ⟨d4, c4, hv4, -⟩ := hr4.shape
        subst hv4
        refine ⟨d4, c4, w4, hrun, k + 1, by omega, rfl, e4, ?_, fun q hq => ?_⟩
        · rw [htk, stats_app]
          simpa [stats] using hr4
        · rcases hg4.own with e | ⟨q', e1, e2⟩
          · rw [e] at hq; exact hfr q hq
          · rw [e1] at hq; injection hq with hq
            have := (he.trans (E2.trans E3)).size
            omega
      have HE := Lib.hid he
      unfold statC ptr at *
      have hcx0 : (wr.alloc (.cells #[.string (tx S.names[k].1), .pointer (some ⟨S.names[k].2, 0, none⟩)] 64)).cell? ⟨wr.heap.size, 0, none⟩ = some (.string (tx S.names[k].1)) := by rw [(At.new wr #[.string (tx S.names[k].1), .pointer (some ⟨S.names[k].2, 0, none⟩)] 64).cell]; rfl
      have hcx1 : (wr.alloc (.cells #[.string (tx S.names[k].1), .pointer (some ⟨S.names[k].2, 0, none⟩)] 64)).cell? ⟨wr.heap.size, 1, none⟩ = some (.pointer (some ⟨S.names[k].2, 0, none⟩)) := by rw [(At.new wr #[.string (tx S.names[k].1), .pointer (some ⟨S.names[k].2, 0, none⟩)] 64).cell]; rfl
      obtain ⟨c1a, c1b⟩ := c1
      obtain ⟨c2a, c2b⟩ := c2
      clear he hrow hfr RW eg htk hid hi hi3 hiz his hc2 hc3 hc4 I0
      generalize (S.nd S.names[k].2) = N at *
      generalize S.names[k].1 = xp at *
      generalize S.names[k].2 = xn at *
      have i0 : (0 : Int) ≤ (k : Int) := by omega
      have i1 : (k : Int) < (n : Int) := by omega
      go_wp2_with fail
      refine (ST.out _ (HE.out.trans (Ext.alloc wr _))).mono ?_
      rintro e w2 ⟨rfl, hE2⟩
      obtain ⟨d4, c4, w4, hrun, hinv⟩ := AP.out w2 hE2
      have R1 := Lib.hid hrun
      have HI := Lib.hid hinv
      clear AP ST hrun hinv hE2
      generalize N.now.length = nl at *
      go_wp2_with (at_builtin; refine Lib.wpList_append_run _ rfl _ _ _ _ rfl _ _ rfl rfl _ _ R1.out ?_)
      exact ⟨by have := HI.out; rw [Int.natCast_add] at this; exact this, by show n - ((k : Int) + 1).toNat < n - ((k : Int)).toNat; omega⟩
    · obtain rfl : k = n := by omega
      rw [List.take_of_length_le (by rw [← HNN.out]; omega)] at hrow
      have HRo := Lib.hid hrow
      have HE := Lib.hid he
      have HF := Lib.hid hfr
      have i1 : ¬ ((k : Int) < (k : Int)) := by omega
      clear hrow he hfr I0
      go_wp2
      go_ret
      exact ⟨_, rfl, HRo.out, HE.out, HF.out⟩
end Go.Proofs.YtbneedmfpldpfaaDoor

set_option linter.unusedSimpArgs false
namespace Go.Proofs.YtbneedmfpldpfaaDoor
open Go.RowKit Go.Pth

set_option maxRecDepth 100000 in
set_option maxHeartbeats 8000000 in
theorem remove_held (b g cap : Nat) (S : SV) (V : SW) (L : Nat → Option Role) (p : ByteArray) (w : World) (h : Rep w b S V L) (hf : S.Fit) (hvn : V.n = .slice (some ⟨g, 0, none⟩) S.names.length cap) (hb : S.begE [p.toList] = 0) (hr : 2 ≤ (rung S.names p.toList).length) :
    Calls Tryd.prog 23 #[ptr b, .string p] w fun e w' => e = .returned (.int .i64 12) ∧ Rep w' b S.beg V L ∧ StTo w w' L L := by
  have BG := Lib.hid (begin_one b S V L p w h hf)
  rw [hb] at BG
  have bs := beg_same S
  have hnl := hf.names
  obtain ⟨R, hR⟩ : ∃ R, R = rung S.names p.toList := ⟨_, rfl⟩
  have RU : Hid (∀ w', Rep w' b S.beg V L → Calls Tryd.prog 40 #[.slice (some ⟨g, 0, none⟩) S.names.length cap, .string p] w' (RunPost w' g R)) := fun w' r => by
    have hn := r.nm
    rw [bs.1, hvn] at hn
    obtain ⟨cur, hat, hn1, hcm, hcs, hxs⟩ := Row.at' hn
    rw [hR]
    exact run_any _ S.names p _ cap g 0 w' (Row.trr hn) hn1 hcm (fun hh => by cases hh) (fun A hA => by injection hA with hA; exact hA.symm) h.sn (by omega)
  have C2 : Hid (∀ w', Rep w' b S.beg V L → w'.cell? ⟨b, 2, none⟩ = some (.slice (some ⟨g, 0, none⟩) S.names.length cap)) := fun w' r => by rw [r.c 2, ← hvn]; rfl
  rw [← hR] at hr
  generalize S.names.length = n at *
  clear h hf hvn hb bs hnl hR
  unfold ptr at *
  go_enter Tryd.func23, Tryd.ntmps23
  go_wp2_with fail
  refine (BG.out).mono ?_
  rintro e w1 ⟨rfl, r1, t1⟩
  have R1 := Lib.hid r1
  have T1 := Lib.hid t1
  have d2 := C2.out _ R1.out
  clear BG r1 t1
  go_wp2_with fail
  refine (RU.out _ R1.out).mono ?_
  rintro e w2 ⟨v2, ad2, cap2, o2, rfl, e2, t2⟩
  have hv2 := t2.val
  subst hv2
  have E2 := Lib.hid e2
  clear RU t2 e2 d2
  generalize R.length = m at *
  have q0 : (m == 0) = false := by simp; omega
  have q1 : (m == 1) = false := by simp; omega
  have q2 : ((m : Int) == 0) = false := by simp; omega
  have q3 : ((m : Int) == 1) = false := by simp; omega
  have q4 : ¬ ((m : Int) = 1) := by omega
  have q5 : ¬ (m = 1) := by omega
  go_wp2
  go_ret
  exact ⟨rfl, R1.out.ext E2.out, T1.out.trans (StTo.of_ext E2.out)⟩

theorem stats_get (nd : Nat → NV) (l : List Nm) (j q : Nat) (h : j < l.length) (hq : q < 5) : (stats nd l)[j * 5 + q]? = (statC l[j].1 (nd l[j].2))[q]? := by
  induction l generalizing j with
  | nil => simp at h
  | cons a r ih =>
    have e : stats nd (a :: r) = (statC a.1 (nd a.2)).toList ++ stats nd r := rfl
    rw [e]
    have h5 : (statC a.1 (nd a.2)).toList.length = 5 := rfl
    cases j with
    | zero => rw [List.getElem?_append_left (by rw [h5]; omega), Nat.zero_mul, Nat.zero_add, Array.getElem?_toList]; rfl
    | succ j =>
      rw [List.getElem?_append_right (by rw [h5]; omega), h5, show (j + 1) * 5 + q - 5 = j * 5 + q by omega]
      exact ih j (by simpa using h)
def InvSS (w : World) (n : Nat) (s5 : Value) (wr : World) : Prop := ∃ k : Nat, k ≤ n ∧ s5 = .int .i64 k ∧ Ext w wr

set_option maxRecDepth 100000 in
set_option maxHeartbeats 8000000 in
theorem same_stats (nd : Nat → NV) (l : List Nm) (ga ca gb cb : Nat) (w : World) (ha : Row w 30 5 (.slice (some ⟨ga, 0, none⟩) l.length ca) l.length (stats nd l)) (hb : Row w 30 5 (.slice (some ⟨gb, 0, none⟩) l.length cb) l.length (stats nd l)) :
    Calls Tryd.prog 24 #[.slice (some ⟨ga, 0, none⟩) l.length ca, .slice (some ⟨gb, 0, none⟩) l.length cb] w fun e w' => e = .returned (.bool true) ∧ Ext w w' := by
  have HA := Lib.hid ha
  have HB := Lib.hid hb
  have hcm := (Row.at' ha)
  obtain ⟨cur, -, hn1, hcm, -⟩ := hcm
  simp only [maxLen] at hcm
  obtain ⟨n, hn⟩ : ∃ n, n = l.length := ⟨_, rfl⟩
  have HN := Lib.hid hn
  rw [← hn] at HA HB hn1 ⊢
  clear ha hb hn
  go_enter Tryd.func24, Tryd.ntmps24
  go_wp2
  go_loopw [5] (fun s5 wr => InvSS w n s5 wr) (fun s5 _ => n - (intOf s5).toNat)
  case atStart => exact ⟨0, by omega, rfl, Ext.refl _⟩
  case round =>
    obtain ⟨k, hk, rfl, he⟩ := hrel
    by_cases hlt : k < n
    · have hkl : k < l.length := by rw [← HN.out]; exact hlt
      have RA := HA.out.ext he
      have RB := HB.out.ext he
      have A0 := Row.cellK RA (k * 5 + 0) (by omega); rw [stats_get nd l k 0 hkl (by omega)] at A0
      have A1 := Row.cellK RA (k * 5 + 1) (by omega); rw [stats_get nd l k 1 hkl (by omega)] at A1
      have A2 := Row.cellK RA (k * 5 + 2) (by omega); rw [stats_get nd l k 2 hkl (by omega)] at A2
      have A3 := Row.cellK RA (k * 5 + 3) (by omega); rw [stats_get nd l k 3 hkl (by omega)] at A3
      have A4 := Row.cellK RA (k * 5 + 4) (by omega); rw [stats_get nd l k 4 hkl (by omega)] at A4
      have B0 := Row.cellK RB (k * 5 + 0) (by omega); rw [stats_get nd l k 0 hkl (by omega)] at B0
      have B1 := Row.cellK RB (k * 5 + 1) (by omega); rw [stats_get nd l k 1 hkl (by omega)] at B1
      have B2 := Row.cellK RB (k * 5 + 2) (by omega); rw [stats_get nd l k 2 hkl (by omega)] at B2
      have B3 := Row.cellK RB (k * 5 + 3) (by omega); rw [stats_get nd l k 3 hkl (by omega)] at B3
      have B4 := Row.cellK RB (k * 5 + 4) (by omega); rw [stats_get nd l k 4 hkl (by omega)] at B4
      unfold statC at *
      generalize (nd l[k].2) = N at *
      generalize tx l[k].1 = xp at *
      generalize N.now.length = nl at *
      generalize N.kind = N0 at *
      generalize N.mt = N1 at *
      generalize N.stamp = N2 at *
      simp only [Nat.add_zero] at A0 B0
      obtain ⟨a0, -⟩ := A0; obtain ⟨a1, -⟩ := A1; obtain ⟨a2, -⟩ := A2; obtain ⟨a3, -⟩ := A3; obtain ⟨a4, -⟩ := A4
      obtain ⟨b0, -⟩ := B0; obtain ⟨b1, -⟩ := B1; obtain ⟨b2, -⟩ := B2; obtain ⟨b3, -⟩ := B3; obtain ⟨b4, -⟩ := B4
      simp at a0 a1 a2 a3 a4 b0 b1 b2 b3 b4
      have HE := Lib.hid he
      have i0 : (0 : Int) ≤ (k : Int) := by omega
      have i1 : (k : Int) < (n : Int) := by omega
      clear RA RB he hkl
      go_wp2
      go_quiet (fail)
      go_wp2
      exact ⟨⟨k + 1, by omega, by norm_cast, HE.out.trans (Ext.drewN _ _)⟩, by show n - ((k : Int) + 1).toNat < n - ((k : Int)).toNat; omega⟩
    · obtain rfl : k = n := by omega
      have HE := Lib.hid he
      have i1 : ¬ ((k : Int) < (k : Int)) := by omega
      clear he
      go_wp2
      go_ret
      exact ⟨rfl, HE.out⟩
end Go.Proofs.YtbneedmfpldpfaaDoor
