/- Contract of Stat of nothing. Contracts of stat, Stat. What the walk of VstoreSafe wants: the document's store as it is made, both stores until the steps begin, bytes turned into a text. No conditions but those named: definitions and lemmas. -/
import Derived.Test.YtbneedmfpldpfaaGreatDoorSfM
import Derived.Laws.ResultCell
import Derived.StillTailTactics
import Derived.Test.YtbneedmfpldpfaaGreatDoorSmM
import Derived.Test.YtbneedmfpldpfaaGreatDoorSlM
import Derived.Test.YtbneedmfpldpfaaGreatDoorUaM
import Derived.Laws.BytesArg
namespace Go.Proofs.YtbneedmfpldpfaaGreatDoor
open Go.RowKit Go.Pth

def zstat : Array Value := #[.string ⟨#[]⟩, .int .i64 0, .int .i64 0, .int .i64 0, .int .u64 0]
end Go.Proofs.YtbneedmfpldpfaaGreatDoor

set_option linter.unusedSimpArgs false
namespace Go.Proofs.YtbneedmfpldpfaaGreatDoor
open Go.RowKit Go.Pth

theorem results_cell1 {fn : Func} {p : Tmp} {ty : TypeId} (h : fn.results = #[.cell p ty]) (tmps : Array Value) (P : Program) (w : World) :
    (results fn tmps).run P w = ((asAddr (tmps.getD p undef)).run P w).andThen fun a w₁ => (loadVar ty a).run P w₁ := by
  simp only [results, h]
  simp [Sem.run_bind, Result.andThen]
/-- What is said of one. -/
def statC (p : B) (N : NV) : Array Value := #[.string (tx p), .int .i64 N.kind, .int .i64 N.now.length, .int .i64 N.mt, .int .u64 N.stamp]
theorem set5 {w : World} {g : Nat} (v0 v1 v2 v3 v4 u0 u1 u2 u3 u4 : Value) (h : At w g #[u0, u1, u2, u3, u4] 39) :
    At (((((w.setCell ⟨g, 0, none⟩ v0).setCell ⟨g, 1, none⟩ v1).setCell ⟨g, 2, none⟩ v2).setCell ⟨g, 3, none⟩ v3).setCell ⟨g, 4, none⟩ v4) g #[v0, v1, v2, v3, v4] 39 ∧
    Chg (fun i => i = g) w (((((w.setCell ⟨g, 0, none⟩ v0).setCell ⟨g, 1, none⟩ v1).setCell ⟨g, 2, none⟩ v2).setCell ⟨g, 3, none⟩ v3).setCell ⟨g, 4, none⟩ v4) := by
  refine ⟨?_, ?_⟩
  · have a5 := ((((h.set 0 v0).set 1 v1).set 2 v2).set 3 v3).set 4 v4
    simpa using a5
  · exact ((((Chg.setCell w g 0 v0).trans (Chg.setCell _ g 1 v1) fun _ _ x => x).trans (Chg.setCell _ g 2 v2) fun _ _ x => x).trans (Chg.setCell _ g 3 v3) fun _ _ x => x).trans (Chg.setCell _ g 4 v4) fun _ _ x => x

set_option maxRecDepth 100000 in
set_option maxHeartbeats 8000000 in
theorem stat_any (p : B) (a : Nat) (N : NV) (V : Vs) (w : World) (h : NdIn w a N V) : Calls Tryz.prog 29 #[.agg #[.string (tx p), ptr a]] w fun e w' => e = .returned (.agg (statC p N)) ∧ Ext w w' := by
  obtain ⟨W1, hW1⟩ : ∃ W1, W1 = w.alloc (.cells #[.string (tx p), ptr a] 78) := ⟨_, rfl⟩
  obtain ⟨W2, hW2⟩ : ∃ W2, W2 = W1.alloc (.cells zstat 39) := ⟨_, rfl⟩
  have s1 : W1.heap.size = w.heap.size + 1 := by rw [hW1]; exact size_alloc _ _
  have e1 : Ext w W1 := by rw [hW1]; exact Ext.alloc _ _
  have e2 : Ext W1 W2 := by rw [hW2]; exact Ext.alloc _ _
  have a1 : At W2 w.heap.size #[.string (tx p), ptr a] 78 := by
    have : At W1 w.heap.size #[.string (tx p), ptr a] 78 := by rw [hW1]; exact At.new _ _ _
    exact this.ext e2
  have a2 : At W2 (w.heap.size + 1) zstat 39 := by rw [hW2, ← s1]; exact At.new _ _ _
  have n2 := h.cells.ext (e1.trans e2)
  have x0 := a1.cell 0
  have x1 := a1.cell 1
  have y0 := n2.cell 0
  have y1 := n2.cell 1
  have y2 := n2.cell 2
  have y3 := n2.cell 3
  obtain ⟨dn, kn, hvn, -⟩ := h.n.shape
  simp only [ncells, hvn] at y0 y1 y2 y3
  unfold zstat at a2
  obtain ⟨W3, hW3⟩ : ∃ W3, W3 = W2.drew := ⟨_, rfl⟩
  have a2d : At W3 (w.heap.size + 1) #[.string ⟨#[]⟩, .int .i64 0, .int .i64 0, .int .i64 0, .int .u64 0] 39 := by rw [hW3]; exact a2
  have e3 : Ext W2 W3 := by rw [hW3]; exact Ext.drew W2
  obtain ⟨f1, f2⟩ := set5 (.string (tx p)) (.int .i64 N.kind) (.int .i64 N.now.length) (.int .i64 N.mt) (.int .u64 N.stamp) _ _ _ _ _ a2d
  have F1 := Lib.hid f1
  have F2 := Lib.hid (((Chg.of_ext (X := fun _ => False) ((e1.trans e2).trans e3)).trans f2 (fun i hi e => by omega)).ext)
  have k0 := a2d.cell 0
  have k1 := a2d.cell 1
  have k2 := a2d.cell 2
  have k3 := a2d.cell 3
  have k4 := a2d.cell 4
  have z0 := a2d.frozen 0
  have z1 := a2d.frozen 1
  have z2 := a2d.frozen 2
  have z3 := a2d.frozen 3
  have z4 := a2d.frozen 4
  have HW2 := Lib.hid (show (w.alloc (.cells #[.string (tx p), ptr a] 78)).alloc (.cells #[.string ⟨#[]⟩, .int .i64 0, .int .i64 0, .int .i64 0, .int .u64 0] 39) = W2 by rw [hW2, hW1]; rfl)
  have HW3 := Lib.hid hW3.symm
  unfold ptr at *
  clear hW3 e3 hW1 hW2 a1 a2 a2d n2 f1 f2 e1 e2 s1 hvn h
  unfold statC
  generalize N.now.length = nl at *
  go_enter Tryz.func29, Tryz.ntmps29
  go_upto_region 1 with fail
  rw [HW2.out]
  go_upto_region 2 with fail
  go_still_tail 20, (by kernel_rfl)
  change wpList _ _ _ _ _ W2.drew
  rw [HW3.out]
  clear HW2 HW3 x0 x1 y0 y1 y2 y3
  go_wp2
  clear k0 k1 k2 k3 k4 z0 z1 z2 z3 z4
  generalize (((((W3.setCell ⟨w.heap.size + 1, 0, none⟩ (.string (tx p))).setCell ⟨w.heap.size + 1, 1, none⟩ (.int .i64 N.kind)).setCell ⟨w.heap.size + 1, 2, none⟩ (.int .i64 nl)).setCell ⟨w.heap.size + 1, 3, none⟩ (.int .i64 N.mt)).setCell ⟨w.heap.size + 1, 4, none⟩ (.int .u64 N.stamp)) = W5 at *
  have k0 := F1.out.cell 0
  have k1 := F1.out.cell 1
  have k2 := F1.out.cell 2
  have k3 := F1.out.cell 3
  have k4 := F1.out.cell 4
  refine bodyPost_ret (v := .agg #[.string (tx p), .int .i64 N.kind, .int .i64 nl, .int .i64 N.mt, .int .u64 N.stamp]) ?_ rfl ?_
  · rw [results_cell1 rfl]
    go_simp
  · exact ⟨rfl, F2.out⟩

set_option maxRecDepth 100000 in
set_option maxHeartbeats 8000000 in
/-- Stat of a name. -/
theorem stat_some (b : Nat) (S : SV) (V : SW) (L : Nat → Option Role) (p : ByteArray) (a : Nat) (w : World) (h : Rep w b S V L) (hn : S.names.length ≤ 1000000) (hl : look S.names p.toList = some a) :
    Calls Tryz.prog 12 #[ptr b, .string p] w fun e w' => e = .returned (.tuple #[.agg (statC p.toList (S.nd a)), .int .i64 0]) ∧ Ext w w' := by
  have TH := Lib.hid (there_any b S V L _ (h.ext (Ext.alloc w (.cells zstat 39))))
  have FI := Lib.hid (find_any V.n S.names p (w.alloc (.cells zstat 39)) (Tr.of_row (h.ext (Ext.alloc w (.cells zstat 39))).nm) h.sn hn)
  rw [hl] at FI
  simp only [optr] at FI
  have ST := Lib.hid (fun w' (he : Ext w w') => by have := stat_any p.toList a (S.nd a) (V.nv a) w' ((h.ext he).nd a (h.rn _ (look_mem _ _ _ hl))).1; rw [list_tx] at this; exact this)
  unfold statC at ST ⊢
  rw [list_tx] at ST ⊢
  generalize (S.nd a).now.length = nl at *
  have hat : At (w.alloc (.cells zstat 39)) w.heap.size zstat 39 := At.new _ _ _
  have E0 := Lib.hid (Ext.alloc w (.cells zstat 39))
  unfold zstat at FI hat TH E0
  unfold ptr at *
  clear h hn hl
  go_enter Tryz.func12, Tryz.ntmps12
  go_wp2_with fail
  refine (TH.out).mono ?_
  rintro e w' ⟨rfl, rfl⟩
  clear TH
  go_wp2_with fail
  refine (FI.out).mono ?_
  rintro e w1 ⟨rfl, hE⟩
  clear FI
  have hEw := E0.out.trans hE
  go_wp2_with fail
  refine (ST.out _ hEw).mono ?_
  rintro e w2 ⟨rfl, hE2⟩
  have hE := hE.trans hE2
  clear ST hEw hE2
  have h1 := hat.ext hE
  obtain ⟨f1, f2⟩ := set5 (.string p) (.int .i64 (S.nd a).kind) (.int .i64 nl) (.int .i64 (S.nd a).mt) (.int .u64 (S.nd a).stamp) _ _ _ _ _ h1
  have F1 := Lib.hid f1
  have F2 := Lib.hid (((Chg.of_ext (X := fun _ => False) (E0.out.trans hE)).trans f2 (fun i hi e => by omega)).ext)
  have k0 := h1.cell 0
  have k1 := h1.cell 1
  have k2 := h1.cell 2
  have k3 := h1.cell 3
  have k4 := h1.cell 4
  have z0 := h1.frozen 0
  have z1 := h1.frozen 1
  have z2 := h1.frozen 2
  have z3 := h1.frozen 3
  have z4 := h1.frozen 4
  clear hat h1 hE f1 f2 E0
  go_wp2
  clear k0 k1 k2 k3 k4 z0 z1 z2 z3 z4
  generalize (((((w2.setCell ⟨w.heap.size, 0, none⟩ (.string p)).setCell ⟨w.heap.size, 1, none⟩ (.int .i64 (S.nd a).kind)).setCell ⟨w.heap.size, 2, none⟩ (.int .i64 nl)).setCell ⟨w.heap.size, 3, none⟩ (.int .i64 (S.nd a).mt)).setCell ⟨w.heap.size, 4, none⟩ (.int .u64 (S.nd a).stamp)) = W5 at *
  have k0 := F1.out.cell 0
  have k1 := F1.out.cell 1
  have k2 := F1.out.cell 2
  have k3 := F1.out.cell 3
  have k4 := F1.out.cell 4
  refine bodyPost_ret (v := .tuple #[.agg #[.string p, .int .i64 (S.nd a).kind, .int .i64 nl, .int .i64 (S.nd a).mt, .int .u64 (S.nd a).stamp], .int .i64 0]) ?_ rfl ?_
  · rw [results_cell_tmp rfl]
    go_simp
  · exact ⟨rfl, F2.out⟩
end Go.Proofs.YtbneedmfpldpfaaGreatDoor

set_option linter.unusedSimpArgs false
set_option linter.unusedVariables false
namespace Go.Proofs.YtbneedmfpldpfaaGreatDoor
open Go.RowKit Go.Pth

theorem awake_on {w0 w : World} (h : Ext w0 w) : Calls Tryz.prog 5 #[] w fun e w' => e = .returned (.bool true) ∧ Ext w0 w' :=
  (awake_any w).mono fun _ _ ⟨x, y⟩ => ⟨x, h.trans y⟩
theorem bin_row2 {w : World} {g cap n : Nat} {l : List Int} (h : Row w 5 1 (.slice (some ⟨g, 0, none⟩) n cap) n (bts l)) (hl : l.length = n) : Bin w (.slice (some ⟨g, 0, none⟩) n cap) l (some ⟨g, 0, none⟩) cap g 0 :=
  ⟨by rw [hl], fun _ => rfl, fun j u hu => by
    have hj := (List.getElem?_eq_some_iff.1 hu).1
    rw [bts_len, hl] at hj
    rw [Nat.zero_add, (Row.cell h j hj).1, hu]⟩
theorem bin_off {w w' : World} {v : Value} {l : List Int} {ad : Option Addr} {cap bb o : Nat} {b : Nat} {S : SV} {V : SW} {L : Nat → Option Role} (h : Bin w v l ad cap bb o) (he : Ext w w') (r : Rep w' b S V L) (hL : ∀ i, L i ≠ none → w.heap.size ≤ i) :
    ∃ b2 o2, Bin w' v l ad cap b2 o2 ∧ L b2 = none := by
  cases l with
  | nil => exact ⟨w'.heap.size, 0, ⟨h.val, fun h => by simp at h, fun j u hu => by simp [bts] at hu⟩, none_new r⟩
  | cons y ys =>
    refine ⟨bb, o, h.ext he, ?_⟩
    have h1 := h.cell 0 (.int .u8 y) rfl
    have h2 := World.block_lt_of_cell? _ _ h1
    cases hc : L bb with
    | none => rfl
    | some q => have := hL bb (by rw [hc]; simp); simp at h2; omega
/-- Bytes lie in a block below. -/
theorem bin_low {w : World} {v : Value} {l : List Int} {ad : Option Addr} {cap bb o : Nat} (h : Bin w v l ad cap bb o) (h0 : 0 < w.heap.size) : ∃ b2 o2, Bin w v l ad cap b2 o2 ∧ b2 < w.heap.size := by
  cases l with
  | nil => exact ⟨0, 0, ⟨h.val, fun h => by simp at h, fun j u hu => by simp [bts] at hu⟩, h0⟩
  | cons y ys =>
    have h1 := h.cell 0 (.int .u8 y) rfl
    have h2 := World.block_lt_of_cell? _ _ h1
    exact ⟨bb, o, h, by simpa using h2⟩
theorem conv_zero (w : World) (p : Option Addr) (c : Nat) : (convert 22 9 (.slice p 0 c)).run Tryz.prog w = .ok (.string ByteArray.empty) w := by
  rw [run_convert_bytes_string w 22 9 5 _ 0 c Tryz.underlying22 Tryz.underlying5 Tryz.underlying9]
  cases p <;> simp [Conv.bytesToString, loadCells]
  all_goals rfl
/-- Bytes turned into a text. -/
theorem conv_bin {w : World} {l : List Int} {ad : Option Addr} {cap bb o n : Nat} (hn : n = l.length) (h : Bin w (.slice ad n cap) l ad cap bb o) : (convert 22 9 (.slice ad n cap)).run Tryz.prog w = .ok (.string (strOfNums l)) w := by
  cases l with
  | nil =>
    simp only [List.length_nil] at hn
    subst hn
    exact conv_zero w ad cap
  | cons y ys =>
    have ha := h.adr (by simp)
    subst ha
    exact run_convert_bytes_arg w 22 5 Tryz.underlying22 Tryz.underlying5 bb o n cap _ hn.symm (fun j hj => by
      refine h.cell j _ ?_
      rw [bts, List.getElem?_map, List.getElem?_eq_getElem (by omega)]
      simp [List.getD_eq_getElem?_getD, List.getElem?_eq_getElem (show j < (y :: ys).length by omega)]) 9 Tryz.underlying9
theorem conv_row2 {w : World} {l : List Int} {v : Value} {n : Nat} (hn : n = l.length) (h : Row w 5 1 v n (bts l)) : (convert 22 9 v).run Tryz.prog w = .ok (.string (strOfNums l)) w := by
  cases l with
  | nil =>
    simp only [List.length_nil] at hn
    subst hn
    obtain ⟨ad, cap, rfl, -⟩ := h.shape
    exact conv_zero w ad cap
  | cons y ys =>
    obtain ⟨g, k, rfl, -⟩ := Row.own h (by rw [hn]; simp)
    exact conv_bin hn (bin_row2 h hn.symm)
/-- The document's store as it is made. -/
def R0 : RV := ⟨0, .slice none 0 0, .slice none 0 0, .slice none 0 0, .slice none 0 0, 0, [], [], 0, []⟩
theorem r0_rep (w : World) : RRep (w.alloc (.cells (rsc R0) 62)) w.heap.size R0 (fun _ => False) 0 := by
  refine ⟨At.new _ _ _, World.ownsRow_nil _ _ _ _, World.ownsRow_nil _ _ _ _, World.ownsRow_nil _ _ _ _, (by intro u hu; cases hu), rfl, (by intro u hu; cases hu), (by intro u hu; cases hu), (by intro u hu; cases hu), (by intro u hu; cases hu), (by intro u hu; cases hu), (by intro u hu; cases hu), fun i hi => False.elim hi, fun h => h, Nat.le_refl _, Nat.le_refl _, Nat.le_refl _, ⟨by decide, by decide⟩, ⟨by decide, by decide⟩⟩
set_option maxRecDepth 100000 in
set_option maxHeartbeats 4000000 in
theorem rnew_big (w : World) : Calls Tryz.prog 7 #[.int .i64 1048576] w fun e w' => e = .returned (.tuple #[ptr w.heap.size, .int .i64 0]) ∧ w' = w.alloc (.cells (rsc R0) 62) := by
  unfold ptr rsc R0
  go_enter Tryz.func7, Tryz.ntmps7
  go_wp2
  go_ret2
  exact ⟨rfl, rfl⟩
/-- Both stores until the steps begin: the document's is as it was made. -/
structure Ap (w wr : World) (g : Nat) (L : Nat → Option Role) : Prop where
  ext : Ext w wr
  lab : ∀ i, L i ≠ none → w.heap.size ≤ i
  gl : L g = none
  gb : w.heap.size ≤ g
  rr : RRep wr g R0 (fun _ => False) 0
theorem Ap.step {w w1 w2 : World} {g : Nat} {L L' : Nat → Option Role} (h : Ap w w1 g L) (t : StTo w1 w2 L L') : Ap w w2 g L' := by
  obtain ⟨x, y⟩ := own_step h.ext h.lab t
  exact ⟨x, y, none_step t h.gl h.rr.cell.lt, h.gb, h.rr.keep (t.chg.block g h.rr.cell.lt (by rw [h.gl]; simp)) (fun i hi => False.elim hi) t.chg.size⟩
theorem Ap.up {w w1 w2 : World} {g : Nat} {L : Nat → Option Role} (h : Ap w w1 g L) (e : Ext w1 w2) : Ap w w2 g L := ⟨h.ext.trans e, h.lab, h.gl, h.gb, h.rr.ext e⟩
/-- Where the steps begin. -/
theorem Ap.two {w wr : World} {b g a pp : Nat} {V : SW} {L : Nat → Option Role} {old : List Int} {cut : Int} (h : Ap w wr g L) (r : Rep wr b ((SG 2 4 [(sq, a)] [] a (NB 2 old)).cutAt cut) V L) (hc : cut ≤ 9223372036854775807) (hp : L pp = none) (hg : g ≠ pp) (hl : pp < wr.heap.size) : Two wr b g 10 sq a (NB 2 old) w.heap.size pp :=
  ⟨_, V, L, R0, fun _ => False, r, sg_good a old cut hc, h.rr.up (by omega), h.gl, fun i hi => False.elim hi, fun i hi => ⟨h.lab i hi, fun e => hi (by rw [e]; exact hp)⟩, h.gb, hg, hl⟩
theorem sg_stat (a : Nat) (old : List Int) (n : Nat) (hn : n = old.length) : statC sq ((SG 2 4 [(sq, a)] [] a (NB 2 old)).nd a) = #[.string (tx sq), .int .i64 1, .int .i64 n, .int .i64 0, .int .u64 2] := by
  rw [sg_nd]; simp [statC, NB, hn]
theorem nb_stat (old : List Int) (n : Nat) (hn : n = old.length) : statC sq (NB 2 old) = #[.string (tx sq), .int .i64 1, .int .i64 n, .int .i64 0, .int .u64 2] := by
  simp [statC, NB, hn]
end Go.Proofs.YtbneedmfpldpfaaGreatDoor
