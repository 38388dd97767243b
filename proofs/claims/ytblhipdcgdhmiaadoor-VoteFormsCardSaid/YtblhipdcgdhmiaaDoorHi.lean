/- The contract of Vote (the code's). -/
import Derived.Test.YtblhipdcgdhmiaaDoorHh
namespace Go.Proofs.YtblhipdcgdhmiaaDoor
open Go.RowKit Go.Sha
set_option linter.unusedSimpArgs false
set_option linter.unusedVariables false

theorem setRow_same {w : World} {g : Nat} {c : Array Value} {t : TypeId} (h : At w g c t) : w.setRow g c = w := by
  have e : (w.setRow g c).heap = w.heap := by
    apply Array.ext_getElem?
    intro i
    by_cases hi : i = g
    · subst hi
      rw [setRow_heap w i c c t (0, 0) h]
      exact h.symm
    · exact heap_setRow _ _ _ _ hi
  have e2 : w.setRow g c = { w with heap := (w.setRow g c).heap } := rfl
  rw [e2, e]
theorem results_cell_tmp2 {fn : Func} {p u v : Tmp} {ty : TypeId} (h : fn.results = #[.cell p ty, .tmp u, .tmp v]) (tmps : Array Value) (P : Program) (w : World) :
    (results fn tmps).run P w =
      ((asAddr (tmps.getD p undef)).run P w).andThen fun a w₁ => ((loadVar ty a).run P w₁).andThen fun x w₂ => .ok (.tuple #[x, tmps.getD u undef, tmps.getD v undef]) w₂ := by
  simp only [results, h]
  simp [Sem.run_bind, Result.andThen]
theorem results_row_tmp2 {P : Program} {fn : Func} {p u v : Tmp} {ty : TypeId} (h : fn.results = #[.cell p ty, .tmp u, .tmp v]) (tmps : Array Value) (w : World) (g : Nat) (t : TypeId) (cs : Array Value) {d : TypeDesc} (hp : tmps.getD p undef = .pointer (some ⟨g, 0, none⟩)) (hg : At w g cs t)
    (hu : P.underlying ty = some d) (hd : (match d with | .struct _ | .array _ _ => true | _ => false) = true) (hi : (P.info? ty).map (·.size) = some cs.size) :
    (results fn tmps).run P w = .ok (.tuple #[.agg cs, tmps.getD u undef, tmps.getD v undef]) w := by
  rw [results_cell_tmp2 h, hp]
  simp only [asAddr, Sem.run_pure, Result.andThen_ok, run_loadVar_row w g t ty cs (0, 0) d hg hu hd hi]
/-- What Vote answers. -/
def VtPost (w : World) (p : Pg) (m : List Int) (err : Int) (e : Ending) (w' : World) : Prop :=
  ∃ vb vm, e = .returned (.tuple #[.agg #[.int .i64 p.1, vb], vm, .int .i64 err]) ∧ Ext w w' ∧ Src w' vb p.2 w'.heap.size ∧ IR w' vm m
/-- The page that counts, of three copies. -/
def voteP (a b c : List Int) : Pg := electL (pgs [a, b, c]) (0, [])
def voteM (a b c : List Int) : List Int := othL (voteP a b c) (pgs [a, b, c]) 0
theorem ir_nil (w : World) : IR w (.slice none 0 0) [] := ⟨none, 0, 0, 0, rfl, fun h => by simp at h, fun j a h => by simp at h⟩
theorem lr3 (w : World) (u1 u2 u3 : Value) (a b c : List Int) (t : TypeId) (h1 : Src w u1 a w.heap.size) (h2 : Src w u2 b w.heap.size) (h3 : Src w u3 c w.heap.size) (cap : Nat) :
    LR (w.alloc (.cells #[u1, u2, u3] t)) (.slice (some ⟨w.heap.size, 0, none⟩) 3 cap) [a, b, c] (w.alloc (.cells #[u1, u2, u3] t)).heap.size := by
  have e := Ext.alloc w (.cells #[u1, u2, u3] t)
  have A := At.new w #[u1, u2, u3] t
  refine ⟨_, cap, w.heap.size, 0, rfl, fun _ => rfl, by have := A.lt; omega, fun j m hj => ?_⟩
  match j, hj with
  | 0, hj => simp at hj; subst hj; exact ⟨u1, (A.cell 0).trans rfl, h1.now e⟩
  | 1, hj => simp at hj; subst hj; exact ⟨u2, (A.cell 1).trans rfl, h2.now e⟩
  | 2, hj => simp at hj; subst hj; exact ⟨u3, (A.cell 2).trans rfl, h3.now e⟩

set_option maxHeartbeats 4000000 in
set_option maxRecDepth 100000 in
theorem vote_any (v1 v2 v3 : Value) (a b c : List Int) (w : World) (hK : KAt w) (h1 : Src w v1 a w.heap.size) (h2 : Src w v2 b w.heap.size) (h3 : Src w v3 c w.heap.size) (hb : (Byt a ∧ a.length ≤ 100000000) ∧ (Byt b ∧ b.length ≤ 100000000) ∧ (Byt c ∧ c.length ≤ 100000000)) :
    Calls Tryd.prog 14 #[v1, v2, v3] w (fun e w' => (mayP (voteP a b c) = true → VtPost w (voteP a b c) (voteM a b c) 0 e w') ∧ (mayP (voteP a b c) = false → VtPost w (0, []) [] 10 e w')) := by
  have hB : ∀ m ∈ [a, b, c], Byt m ∧ m.length ≤ 100000000 := by
    intro m hm
    simp at hm
    rcases hm with h | h | h <;> subst h
    · exact hb.1
    · exact hb.2.1
    · exact hb.2.2
  have zone : (#[.int .i64 0, .slice none 0 0] : Array Value).all (·.oneCell') = true := by simp [Value.oneCell']
  have szz : (Tryd.prog.info? 25).map (·.size) = some (#[.int .i64 0, .slice none 0 0] : Array Value).size := szPage
  have e0 : Ext w (w.alloc (.cells #[.int .i64 0, .slice none 0 0] 25)) := Ext.alloc w _
  have a0 := At.new w #[.int .i64 0, .slice none 0 0] 25
  have L0 := lr3 (w.alloc (.cells #[.int .i64 0, .slice none 0 0] 25)) v1 v2 v3 a b c 22 (h1.now e0) (h2.now e0) (h3.now e0) 3
  have e1 : Ext w ((w.alloc (.cells #[.int .i64 0, .slice none 0 0] 25)).alloc (.cells #[v1, v2, v3] 22)) := e0.trans (Ext.alloc _ _)
  have a1 : At ((w.alloc (.cells #[.int .i64 0, .slice none 0 0] 25)).alloc (.cells #[v1, v2, v3] 22)) w.heap.size #[.int .i64 0, .slice none 0 0] 25 := a0.alloc _
  have RD := read_any _ [a, b, c] _ (hK.below e1 hK.lt) L0 hB (by simp)
  rw [size_alloc] at RD
  obtain ⟨E, hE⟩ : ∃ E, voteP a b c = E := ⟨_, rfl⟩
  obtain ⟨M, hM⟩ : ∃ E, voteM a b c = E := ⟨_, rfl⟩
  have hE' := hE
  have hM' := hM
  unfold voteP at hE'
  unfold voteM at hM'
  rw [hE] at hM' ⊢
  rw [hM]
  obtain ⟨B, hB2⟩ : ∃ B, mayP E = B := ⟨_, rfl⟩
  rw [hB2]
  have HBB := Lib.hid hB2
  clear hB2
  have HE := Lib.hid hE'
  have HM := Lib.hid hM'
  obtain ⟨ad1, cap1, ev⟩ := h1.len
  subst ev
  obtain ⟨ad2, cap2, ev⟩ := h2.len
  subst ev
  obtain ⟨ad3, cap3, ev⟩ := h3.len
  subst ev
  clear h1 h2 h3 hb hB e0 a0 L0 hE hM hE' hM'
  generalize a.length = na at *
  generalize b.length = nb at *
  generalize c.length = nc at *
  go_enter Tryd.func14, Tryd.ntmps14
  go_wp2_with fail
  refine RD.mono ?_
  rintro e w2 ⟨vp, l, rfl, e2, pr2, hv, hpr⟩
  have lt1 := a1.lt
  have HPR := Lib.hid (fun (W : World) (ho : Only w.heap.size w2 W) => hpr w.heap.size W lt1 ho)
  clear hpr lt1
  have a2 := at_ext a1 e2
  have e02 := e1.trans e2
  have hl := vals_len hv
  have hl' : l.length ≤ 1000000 := by rw [hl]; unfold pgs; simp
  have EL := elected_any vp l w2 pr2 hl'
  rw [hv, HE.out] at EL
  have OT := fun (W : World) (u : Value) (h : PR W vp l) (hu : Src W u E.2 W.heap.size) => others_any vp u l E W h hu hl'
  rw [hv, HM.out] at OT
  obtain ⟨adp, capp, evp⟩ := pr2.len
  subst evp
  obtain ⟨nl, hnl⟩ : ∃ n, n = l.length := ⟨_, rfl⟩
  rw [← hnl] at pr2 EL OT HPR ⊢
  have HOT := Lib.hid OT
  clear RD a1 e1 e2 hv hl OT hl' hnl
  go_wp2_with fail
  refine EL.mono ?_
  rintro e w3 ⟨vE, rfl, e3, iE⟩
  have a3 := at_ext a2 e3
  have e03 := e02.trans e3
  have pr3 := pr2.ext e3
  obtain ⟨gE, mE⟩ := E
  simp only at iE HOT ⊢
  obtain ⟨adE, capE, evE⟩ := (pr3.src iE).len
  obtain ⟨nE, hnE⟩ : ∃ n, n = mE.length := ⟨_, rfl⟩
  rw [← hnE] at evE
  clear hnE pr3
  subst evE
  have one : (#[.int .i64 gE, .slice adE nE capE] : Array Value).all (·.oneCell') = true := by simp [Value.oneCell']
  have sz2 : (Tryd.prog.info? 25).map (·.size) = some (#[.int .i64 gE, .slice adE nE capE] : Array Value).size := szPage
  have o4 := Only.setRow w.heap.size w3 #[.int .i64 gE, .slice adE nE capE]
  have a4 := a3.row #[.int .i64 gE, .slice adE nE capE]
  have e04 := ext_only' e03 o4 (Nat.le_refl _)
  have pr4 := HPR.out _ ((Only.of_below e3).trans o4)
  have IE := Lib.hid iE
  clear e02 e03 o4 iE e3 pr2 a2 EL
  go_upto_region 3 with (refine wpList_store_row rfl 25 _ _ rfl w.heap.size _ rfl rfl 25 _ a3 sz2 rfl one ?_)
  clear a3
  generalize w3.setRow w.heap.size #[.int .i64 gE, .slice adE nE capE] = w4 at *
  have MB := mayQ_any (gE, mE) _ w4 (pr4.src IE.out)
  rw [HBB.out] at MB
  simp only at MB
  have f0 := a4.cell 0
  have f1 := a4.cell 1
  go_wp2_with fail
  refine MB.mono ?_
  rintro e w5 ⟨rfl, e5⟩
  have a5 := at_ext a4 e5
  have e05 := e04.trans e5
  have pr5 := pr4.ext e5
  clear f0 f1 MB a4 e04 pr4 e5
  cases B
  · have F := Lib.hid (ext_only' e05 (Only.setRow w.heap.size w5 #[.int .i64 0, .slice none 0 0]) (Nat.le_refl _))
    clear e05 pr5
    go_wp2_with (refine wpList_store_row rfl 25 _ _ rfl w.heap.size _ rfl rfl 25 _ a5 szz rfl zone ?_)
    refine bodyPost_ret (results_row_tmp2 rfl _ _ w.heap.size 25 _ rfl (a5.row #[.int .i64 0, .slice none 0 0]) Tryd.underlying25 rfl szz) rfl ?_
    first | exact ⟨_, _, rfl, F.out, src_nil _ _, ir_nil _⟩ | exact ⟨fun h => by simp at h, fun _ => ⟨_, _, rfl, F.out, src_nil _ _, ir_nil _⟩⟩
  · go_upto_region 5 with (fail)
    have HA := Lib.hid (fun (W : World) (hW : Ext w5 W) => at_ext a5 hW)
    have HP5 := Lib.hid (fun (W : World) (hW : Ext w5 W) => pr5.ext hW)
    have HE5 := Lib.hid (fun (W : World) (hW : Ext w5 W) => e05.trans hW)
    clear a5 pr5 e05
    refine wp_region_held (S := Ext w5) (by kernel_rfl) ?_
    change wpAnyH _ _ _ _ _ _ _ _ w5.drew
    have S0 : Ext w5 w5.drew := Below.drew (Below.refl _ _)
    generalize w5.drew = W0 at *
    refine takeS 0 (some 21) (.agg #[.int .i64 gE, .slice adE nE capE]) rfl rfl (by kernel_rfl) (by kernel_rfl) (by kernel_rfl) (fun _ _ _ h => h) rfl S0 (fun w' hw' => by have c0 : w'.cell? ⟨w.heap.size, 0, none⟩ = some (.int .i64 gE) := ((HA.out w' hw').cell 0).trans rfl; have c1 : w'.cell? ⟨w.heap.size, 1, none⟩ = some (.slice adE nE capE) := ((HA.out w' hw').cell 1).trans rfl; go_simp) ?_
    simp only [Act.put, List.setIfInBounds_toArray, List.set_cons_zero, List.set_cons_succ]
    refine takeS 1 (some 22) (.slice adp nl capp) rfl rfl (by kernel_rfl) (by kernel_rfl) (by kernel_rfl) (fun _ _ _ h => h) rfl S0 (fun w' hw' => by go_simp) ?_
    simp only [Act.put, List.setIfInBounds_toArray, List.set_cons_zero, List.set_cons_succ]
    refine takeS 2 (some 23) (.agg #[.int .i64 gE, .slice adE nE capE]) rfl rfl (by kernel_rfl) (by kernel_rfl) (by kernel_rfl) (fun _ _ _ h => h) rfl S0 (fun w' hw' => by have c0 : w'.cell? ⟨w.heap.size, 0, none⟩ = some (.int .i64 gE) := ((HA.out w' hw').cell 0).trans rfl; have c1 : w'.cell? ⟨w.heap.size, 1, none⟩ = some (.slice adE nE capE) := ((HA.out w' hw').cell 1).trans rfl; go_simp) ?_
    simp only [Act.put, List.setIfInBounds_toArray, List.set_cons_zero, List.set_cons_succ]
    refine nextS 3 rfl (by kernel_rfl) rfl (callS (some 24) rfl 38 #[.slice adp nl capp, .agg #[.int .i64 gE, .slice adE nE capE]] (by go_simp) (fun v w' => Ext W0 w' ∧ IR w' v M) ((HOT.out W0 (.slice adE nE capE) (HP5.out W0 S0) ((HP5.out W0 S0).src IE.out)).mono fun _ _ he => by obtain ⟨v, h1, h2, h3⟩ := he; exact ⟨v, h1, h2, h3⟩) ?_)
    rintro vm W1 ⟨e1, rM⟩
    simp only [Act.put, List.setIfInBounds_toArray, List.set_cons_zero, List.set_cons_succ]
    have S1 := S0.trans e1
    clear e1 S0
    refine ⟨S1, ?_⟩
    refine nextS 4 rfl (by kernel_rfl) rfl (wp_store_row 25 (.tmp 6) (.tmp 21) rfl w.heap.size _ rfl rfl 25 _ (HA.out W1 S1) sz2 rfl one ?_)
    rw [setRow_same (HA.out W1 S1)]
    refine ⟨S1, ?_⟩
    simp only [Act.put, List.setIfInBounds_toArray, List.set_cons_zero, List.set_cons_succ]
    refine takeS 5 (some 7) vm rfl rfl (by kernel_rfl) (by kernel_rfl) (by kernel_rfl) (fun _ _ _ h => h) rfl S1 (fun w' hw' => by go_simp) ?_
    simp only [Act.put, List.setIfInBounds_toArray, List.set_cons_zero, List.set_cons_succ]
    refine takeS 6 (some 8) (.int .i64 0) rfl rfl (by kernel_rfl) (by kernel_rfl) (by kernel_rfl) (fun _ _ _ h => h) rfl S1 (fun w' hw' => by go_simp) ?_
    simp only [Act.put, List.setIfInBounds_toArray, List.set_cons_zero, List.set_cons_succ]
    refine wpAnyH_done (by kernel_rfl) ?_ _
    have aW := HA.out W1 S1
    have F := Lib.hid (And.intro (HE5.out W1 S1) (And.intro ((HP5.out W1 S1).src IE.out) rM))
    clear S1 rM
    go_wp2
    refine bodyPost_ret (results_row_tmp2 rfl _ _ w.heap.size 25 _ rfl aW Tryd.underlying25 rfl sz2) rfl ?_
    first | exact ⟨_, _, rfl, F.out.1, F.out.2.1, F.out.2.2⟩ | exact ⟨fun _ => ⟨_, _, rfl, F.out.1, F.out.2.1, F.out.2.2⟩, fun h => by simp at h⟩
end Go.Proofs.YtblhipdcgdhmiaaDoor
