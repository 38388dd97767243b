/- The contracts of Of and Ref. -/
import Derived.Test.YtaiadcekmooimaaCl
import Derived.BigQuiet
import Derived.Laws.ResultCell
import Derived.Deep.CutRange
namespace Go.Proofs.Ytaiadcekmooimaa
open Go.RowKit Go.Sha
set_option linter.unusedSimpArgs false
set_option linter.unusedVariables false

theorem exec_load_row {P : Program} {op : Oper} {a : Act} {w : World} (ty : TypeId) (x : Operand) (ho : op.op = .load ty x) (g : Nat) (hx : a.eval x = .pointer (some ⟨g, 0, none⟩)) (t : TypeId) (cs : Array Value) {d : TypeDesc} (hg : At w g cs t)
    (hu : P.underlying ty = some d) (hd : (match d with | .struct _ | .array _ _ => true | _ => false) = true) (hi : (P.info? ty).map (·.size) = some cs.size) : (execOp a.eval op).run P w = .ok (.value (.agg cs)) w := by
  unfold execOp
  simp only [ho, hx, Instr.loadAt, Instr.sureAddr, Sem.run_bind, Sem.run_pure, Result.andThen_ok, run_loadVar_row w g t ty cs (0, 0) d hg hu hd hi]

theorem at_ext {w w' : World} {b : Nat} {c : Array Value} {t : TypeId} (h : At w b c t) (he : Ext w w') : At w' b c t := h.below he h.lt
theorem Only.setRow (g : Nat) (w : World) (c : Array Value) : Only g w (w.setRow g c) := ⟨rfl, rfl, rfl, by rw [size_setRow]; exact Nat.le_refl _, fun k _ hk => heap_setRow _ _ _ _ hk⟩
theorem ext_only' {w w0 w1 : World} {b : Nat} (he : Ext w w0) (ho : Only b w0 w1) (hb : w.heap.size ≤ b) : Ext w w1 := ho.below he hb he.size
theorem results_row {P : Program} {fn : Func} {p : Tmp} {ty : TypeId} (h : fn.results = #[.cell p ty]) (tmps : Array Value) (w : World) (g : Nat) (t : TypeId) (cs : Array Value) {d : TypeDesc} (hp : tmps.getD p undef = .pointer (some ⟨g, 0, none⟩)) (hg : At w g cs t)
    (hu : P.underlying ty = some d) (hd : (match d with | .struct _ | .array _ _ => true | _ => false) = true) (hi : (P.info? ty).map (·.size) = some cs.size) :
    (results fn tmps).run P w = .ok (.agg cs) w := results_cell_row h tmps w g t cs (0, 0) d hp hg hu hd hi
theorem src_nil (w : World) (b : Nat) : Src w (.slice none 0 0) [] b := ⟨none, 0, b + 1, 0, rfl, by simp, fun h => by simp at h, by omega, fun j hj => by simp at hj, fun _ => rfl⟩
/-- What lies apart from all blocks below n, and from what is not there yet. -/
def Far {α : Type} (R : World → Value → α → Nat → Prop) (n : Nat) (w : World) (v : Value) (a : α) : Prop := ∀ bh, bh < n ∨ w.heap.size ≤ bh → R w v a bh
theorem Far.ext {α : Type} {R : World → Value → α → Nat → Prop} (k : Kept R) {n : Nat} {w w' : World} {v : Value} {a : α} (h : Far R n w v a) (he : Ext w w') : Far R n w' v a := fun bh hb =>
  k.ext (h bh (hb.imp_right fun hb => Nat.le_trans he.size hb)) he
theorem Far.only {α : Type} {R : World → Value → α → Nat → Prop} (k : Kept R) {n g : Nat} {w w' : World} {v : Value} {a : α} (h : Far R n w v a) (ho : Only g w w') (hg : g < n) : Far R n w' v a := fun bh hb =>
  k.keep (h g (Or.inl hg)) (h bh (hb.imp_right fun hb => Nat.le_trans ho.size hb)) ho
theorem Far.less {α : Type} {R : World → Value → α → Nat → Prop} {n n' : Nat} {w : World} {v : Value} {a : α} (h : Far R n w v a) (hn : n' ≤ n) : Far R n' w v a := fun bh hb => h bh (hb.imp_left fun h => Nat.lt_of_lt_of_le h hn)
theorem Far.now {α : Type} {R : World → Value → α → Nat → Prop} {n : Nat} {w : World} {v : Value} {a : α} (h : Far R n w v a) : R w v a w.heap.size := h _ (Or.inr (Nat.le_refl _))
theorem own_far {w : World} {base : Nat} {v : Value} {m : List Int} (h : OwnB w base v m) : Far Src base w v m := fun bh hb => h.srcs bh hb

set_option maxHeartbeats 4000000 in
set_option maxRecDepth 100000 in
theorem of_b (rp np : ByteArray) (rk rz rm rt nk nz nm nt : Int) (adr adu : Option Addr) (nr capr nu capu : Nat) (r0 r1 : List Int) (has is : Bool) (w : World) (o d b0 b1 b2 b3 : Bool)
    (s0 : Src w (.slice adr nr capr) r0 w.heap.size) (s1 : Src w (.slice adu nu capu) r1 w.heap.size) (hE : eqS r0 r1 = b1) (h0 : (nz == rz) = b0) (h2 : (nt == rt) = b2) (h3 : (nm == rm) = b3) (ho : (rk != nk) = o) (hd : (nk == 2) = d) :
    Calls Try.prog 9 #[.agg (refC rp rk rz rm rt (.slice adr nr capr)), .bool has, .agg (statC np nk nz nm nt), .bool is, .slice adu nu capu] w fun e w' => e = .returned (.int .i64 (ofL has is o d (ofDirL b3 b2) (ofFileL b0 b1 b2 b3))) ∧ Ext w w' := by
  unfold refC statC
  have a1 := (At.new w #[.string rp, .int .i64 rk, .int .i64 rz, .int .i64 rm, .int .u64 rt, .slice adr nr capr] 29).alloc (.cells #[.string np, .int .i64 nk, .int .i64 nz, .int .i64 nm, .int .u64 nt] 24)
  have a2 := At.new1 w (.cells #[.string rp, .int .i64 rk, .int .i64 rz, .int .i64 rm, .int .u64 rt, .slice adr nr capr] 29) #[.string np, .int .i64 nk, .int .i64 nz, .int .i64 nm, .int .u64 nt] 24
  have f0 := a1.cell 0
  have f1 := a1.cell 1
  have f2 := a1.cell 2
  have f3 := a1.cell 3
  have f4 := a1.cell 4
  have f5 := a1.cell 5
  have g0 := a2.cell 0
  have g1 := a2.cell 1
  have g2 := a2.cell 2
  have g3 := a2.cell 3
  have g4 := a2.cell 4
  have ex : Ext w ((w.alloc (.cells #[.string rp, .int .i64 rk, .int .i64 rz, .int .i64 rm, .int .u64 rt, .slice adr nr capr] 29)).alloc (.cells #[.string np, .int .i64 nk, .int .i64 nz, .int .i64 nm, .int .u64 nt] 24)) := (Ext.alloc w _).trans (Ext.alloc _ _)
  have Hs := Lib.hid (And.intro s0 (And.intro s1 hE))
  have Hh := Lib.hid (And.intro h0 (And.intro h2 h3))
  clear s0 s1 hE h0 h2 h3
  cases has
  · have Ha := Lib.hid (And.intro a1 a2)
    clear a1 a2
    cases is <;>
    · go_enter Try.func9, Try.ntmps9
      go_wp2
      go_ret
      exact ⟨rfl, ex⟩
  cases is
  · have Ha := Lib.hid (And.intro a1 a2)
    clear a1 a2
    go_enter Try.func9, Try.ntmps9
    go_wp2
    go_ret
    exact ⟨rfl, ex⟩
  cases o
  · cases d
    · have Ha := Lib.hid (And.intro a1 a2)
      clear a1 a2
      go_enter Try.func9, Try.ntmps9
      go_upto_region 1 with (fail)
      clear f0 f1 f2 f3 f4 f5 g0 g1 g2 g3 g4 ho hd
      have a1 := Ha.out.1
      have a2 := Ha.out.2
      have s0 := Hs.out.1.now ex
      have s1 := Hs.out.2.1.now ex
      have hE := Hs.out.2.2
      obtain ⟨h0, h2, h3⟩ := Hh.out
      obtain ⟨g2, hg2⟩ : ∃ g, g = w.heap.size + 1 := ⟨_, rfl⟩
      rw [← hg2] at a2 ⊢
      generalize (w.alloc (.cells #[.string rp, .int .i64 rk, .int .i64 rz, .int .i64 rm, .int .u64 rt, .slice adr nr capr] 29)).alloc (.cells #[.string np, .int .i64 nk, .int .i64 nz, .int .i64 nm, .int .u64 nt] 24) = w4 at *
      obtain ⟨g1, hg1⟩ : ∃ g, g = w.heap.size := ⟨_, rfl⟩
      rw [← hg1] at a1 ⊢
      clear hg1 hg2
      have HA := Lib.hid (fun (w' : World) (hw' : Ext w4 w') => at_ext a1 hw')
      have HB := Lib.hid (fun (w' : World) (hw' : Ext w4 w') => at_ext a2 hw')
      clear a1 a2 Ha Hs Hh
      refine wp_region_held (S := Ext w4) (by kernel_rfl) ?_
      change wpAnyH _ _ _ _ _ _ _ _ w4.drew
      have S0 : Ext w4 w4.drew := Below.drew (Below.refl _ _)
      replace s0 := s0.now S0
      replace s1 := s1.now S0
      generalize w4.drew = W at *
      refine takeS 0 (some 11) (.agg #[.string rp, .int .i64 rk, .int .i64 rz, .int .i64 rm, .int .u64 rt, .slice adr nr capr]) rfl rfl (by kernel_rfl) (by kernel_rfl) (by kernel_rfl) (fun _ _ _ h => h) rfl S0 (fun w' hw' => exec_load_row 29 _ rfl g1 rfl 29 _ (HA.out w' hw') Try.underlying29 rfl (by kernel_rfl)) ?_
      simp only [Act.put, List.setIfInBounds_toArray, List.set_cons_zero, List.set_cons_succ]
      refine takeS 1 (some 12) (.agg #[.string np, .int .i64 nk, .int .i64 nz, .int .i64 nm, .int .u64 nt]) rfl rfl (by kernel_rfl) (by kernel_rfl) (by kernel_rfl) (fun _ _ _ h => h) rfl S0 (fun w' hw' => exec_load_row 24 _ rfl g2 rfl 24 _ (HB.out w' hw') Try.underlying24 rfl (by kernel_rfl)) ?_
      simp only [Act.put, List.setIfInBounds_toArray, List.set_cons_zero, List.set_cons_succ]
      refine takeS 2 (some 13) (.pointer (some ⟨g1, 5, none⟩)) rfl rfl (by kernel_rfl) (by kernel_rfl) (by kernel_rfl) (fun _ _ _ h => h) rfl S0 (fun w' hw' => by go_simp) ?_
      simp only [Act.put, List.setIfInBounds_toArray, List.set_cons_zero, List.set_cons_succ]
      refine takeS 3 (some 14) (.slice adr nr capr) rfl rfl (by kernel_rfl) (by kernel_rfl) (by kernel_rfl) (fun _ _ _ h => h) rfl S0 (fun w' hw' => by have cc : w'.cell? ⟨g1, 5, none⟩ = some (.slice adr nr capr) := ((HA.out w' hw').cell 5).trans rfl; go_simp) ?_
      simp only [Act.put, List.setIfInBounds_toArray, List.set_cons_zero, List.set_cons_succ]
      refine takeS 4 (some 15) (.slice adu nu capu) rfl rfl (by kernel_rfl) (by kernel_rfl) (by kernel_rfl) (fun _ _ _ h => h) rfl S0 (fun w' hw' => by go_simp) ?_
      simp only [Act.put, List.setIfInBounds_toArray, List.set_cons_zero, List.set_cons_succ]
      refine nextS 5 rfl (by kernel_rfl) rfl (callS (some 16) rfl 15 #[.slice adr nr capr, .slice adu nu capu] (by go_simp) (fun v w' => v = .bool b1 ∧ W = w') ((deq_any _ _ r0 r1 W s0 s1).mono fun _ _ he => ⟨_, he.1.trans (by rw [hE]), rfl, he.2⟩) ?_)
      rintro v1 W1 ⟨rfl, rfl⟩
      simp only [Act.put, List.setIfInBounds_toArray, List.set_cons_zero, List.set_cons_succ]
      refine ⟨S0, ?_⟩
      refine nextS 6 rfl (by kernel_rfl) rfl (callS (some 17) rfl 14 #[.agg #[.string rp, .int .i64 rk, .int .i64 rz, .int .i64 rm, .int .u64 rt, .slice adr nr capr], .agg #[.string np, .int .i64 nk, .int .i64 nz, .int .i64 nm, .int .u64 nt], .bool b1] (by go_simp) (fun v w' => v = .int .i64 (ofFileL b0 b1 b2 b3) ∧ Ext W w') ((ofFile_b rp np rk rz rm rt nk nz nm nt adr nr capr W b0 b1 b2 b3 h0 h2 h3).mono fun _ _ he => ⟨_, he.1, rfl, he.2⟩) ?_)
      rintro v2 W2 ⟨rfl, e1⟩
      simp only [Act.put, List.setIfInBounds_toArray, List.set_cons_zero, List.set_cons_succ]
      have S2 := S0.trans e1
      clear e1 s0 s1
      refine ⟨S2, ?_⟩
      refine takeS 7 (some 10) (.int .i64 (ofFileL b0 b1 b2 b3)) rfl rfl (by kernel_rfl) (by kernel_rfl) (by kernel_rfl) (fun _ _ _ h => h) rfl S2 (fun w' hw' => by go_simp) ?_
      simp only [Act.put, List.setIfInBounds_toArray, List.set_cons_zero, List.set_cons_succ]
      refine wpAnyH_done (by kernel_rfl) ?_ _
      go_wp2
      go_ret
      exact ⟨rfl, ex.trans S2⟩
    · have Ha := Lib.hid (And.intro a1 a2)
      clear a1 a2
      have hR := fun (w : World) => (ofDir_b rp np rk rz rm rt nk nz nm nt adr nr capr w b3 b2 Hh.out.2.2 Hh.out.2.1)
      unfold refC statC at hR
      go_enter Try.func9, Try.ntmps9
      go_wp2_with fail
      refine (hR _).mono ?_
      rintro e w3 ⟨rfl, e1⟩
      go_wp2
      go_ret
      exact ⟨rfl, ex.trans e1⟩
  · have Ha := Lib.hid (And.intro a1 a2)
    clear a1 a2
    go_enter Try.func9, Try.ntmps9
    go_wp2
    go_ret
    exact ⟨rfl, ex⟩

/-- What Ref answers: its fields, and a root of its own. -/
def RefPost (w : World) (p : ByteArray) (k z m t : Int) (r : List Int) (e : Ending) (w' : World) : Prop :=
  ∃ v, e = .returned (.agg (refC p k z m t v)) ∧ Ext w w' ∧ Far Src w.heap.size w' v (if k = 2 then [] else r)
theorem szRef : (Try.prog.info? 29).map (·.size) = some 6 := by kernel_rfl
theorem szStat : (Try.prog.info? 24).map (·.size) = some 5 := by kernel_rfl
set_option maxHeartbeats 4000000 in
set_option maxRecDepth 100000 in
theorem ref_file (p : ByteArray) (k z m t : Int) (v : Value) (r : List Int) (w : World) (hs : Src w v r w.heap.size) (hl : r.length ≤ 70368744177664) (hk : (k != 2) = true) :
    Calls Try.prog 8 #[.agg (statC p k z m t), v] w (RefPost w p k z m t r) := by
  obtain ⟨ad, cap, ev⟩ := hs.len
  subst ev
  have hk2 : ¬ k = 2 := by simpa using hk
  have Hk := Lib.hid hk2
  clear hk2
  have e3 : Ext w (((w.alloc (.cells #[.string p, .int .i64 k, .int .i64 z, .int .i64 m, .int .u64 t] 24)).alloc (.cells #[.string ⟨#[]⟩, .int .i64 0, .int .i64 0, .int .i64 0, .int .u64 0, .slice none 0 0] 29)).alloc (.cells #[.string p, .int .i64 k, .int .i64 z, .int .i64 m, .int .u64 t, .slice none 0 0] 29)) := ((Ext.alloc w _).trans (Ext.alloc _ _)).trans (Ext.alloc _ _)
  have a2 : At (((w.alloc (.cells #[.string p, .int .i64 k, .int .i64 z, .int .i64 m, .int .u64 t] 24)).alloc (.cells #[.string ⟨#[]⟩, .int .i64 0, .int .i64 0, .int .i64 0, .int .u64 0, .slice none 0 0] 29)).alloc (.cells #[.string p, .int .i64 k, .int .i64 z, .int .i64 m, .int .u64 t, .slice none 0 0] 29)) w.heap.size #[.string p, .int .i64 k, .int .i64 z, .int .i64 m, .int .u64 t] 24 := ((At.new w _ _).alloc _).alloc _
  have a4 : At (((w.alloc (.cells #[.string p, .int .i64 k, .int .i64 z, .int .i64 m, .int .u64 t] 24)).alloc (.cells #[.string ⟨#[]⟩, .int .i64 0, .int .i64 0, .int .i64 0, .int .u64 0, .slice none 0 0] 29)).alloc (.cells #[.string p, .int .i64 k, .int .i64 z, .int .i64 m, .int .u64 t, .slice none 0 0] 29)) (w.heap.size + 1) #[.string ⟨#[]⟩, .int .i64 0, .int .i64 0, .int .i64 0, .int .u64 0, .slice none 0 0] 29 := (At.new1 w _ _ _).alloc _
  have a5 : At (((w.alloc (.cells #[.string p, .int .i64 k, .int .i64 z, .int .i64 m, .int .u64 t] 24)).alloc (.cells #[.string ⟨#[]⟩, .int .i64 0, .int .i64 0, .int .i64 0, .int .u64 0, .slice none 0 0] 29)).alloc (.cells #[.string p, .int .i64 k, .int .i64 z, .int .i64 m, .int .u64 t, .slice none 0 0] 29)) (w.heap.size + 2) #[.string p, .int .i64 k, .int .i64 z, .int .i64 m, .int .u64 t, .slice none 0 0] 29 := At.new2 w _ _ _ _
  have sz : w.heap.size + 3 ≤ (((w.alloc (.cells #[.string p, .int .i64 k, .int .i64 z, .int .i64 m, .int .u64 t] 24)).alloc (.cells #[.string ⟨#[]⟩, .int .i64 0, .int .i64 0, .int .i64 0, .int .u64 0, .slice none 0 0] 29)).alloc (.cells #[.string p, .int .i64 k, .int .i64 z, .int .i64 m, .int .u64 t, .slice none 0 0] 29)).heap.size := by rw [size_alloc, size_alloc, size_alloc]; omega
  have s3 := hs.now e3
  obtain ⟨N, hN⟩ : ∃ N, N = r.length := ⟨_, rfl⟩
  rw [← hN] at s3 hs hl ⊢
  have HN := Lib.hid hN
  clear hN hs
  have f0 := (At.new w #[.string p, .int .i64 k, .int .i64 z, .int .i64 m, .int .u64 t] 24).alloc (.cells #[.string ⟨#[]⟩, .int .i64 0, .int .i64 0, .int .i64 0, .int .u64 0, .slice none 0 0] 29)
  have c0 := f0.cell 0
  have c1 := f0.cell 1
  have c2 := f0.cell 2
  have c3 := f0.cell 3
  have c4 := f0.cell 4
  have d1 := a2.cell 1
  clear f0
  unfold statC
  go_enter Try.func8, Try.ntmps8
  go_wp2_with fail
  clear c0 c1 c2 c3 c4 d1
  generalize ((w.alloc (.cells #[.string p, .int .i64 k, .int .i64 z, .int .i64 m, .int .u64 t] 24)).alloc (.cells #[.string ⟨#[]⟩, .int .i64 0, .int .i64 0, .int .i64 0, .int .u64 0, .slice none 0 0] 29)).alloc (.cells #[.string p, .int .i64 k, .int .i64 z, .int .i64 m, .int .u64 t, .slice none 0 0] 29) = w3 at *
  refine (clone_any _ r w3 s3 (by rw [← HN.out]; exact hl)).mono ?_
  rintro e w4 ⟨u, rfl, e4, o4⟩
  replace a4 := at_ext a4 e4
  replace a5 := at_ext a5 e4
  have e34 := e3.trans e4
  have fu : Far Src (w.heap.size + 3) w4 u r := Far.less (own_far o4) sz
  obtain ⟨adu, capu, ev⟩ := (fu.now).len
  subst ev
  obtain ⟨M, hM⟩ : ∃ M, M = r.length := ⟨_, rfl⟩
  rw [← hM] at fu ⊢
  clear hM HN o4 a2 s3 sz hl
  have c5 := a5.cell 5
  have z5 := a5.frozen 5
  have o5 := Only.set (w.heap.size + 2) 5 w4 (.slice adu M capu)
  have a4' := o5.at a4 (by omega)
  have a5' : At (w4.setCell ⟨w.heap.size + 2, 5, none⟩ (.slice adu M capu)) (w.heap.size + 2) #[.string p, .int .i64 k, .int .i64 z, .int .i64 m, .int .u64 t, .slice adu M capu] 29 := a5.set 5 _
  have e5 := ext_only' e34 o5 (by omega)
  have f5 := fu.only src_kept o5 (by omega)
  clear a4 a5 o5 e34 e3 fu e4
  go_upto_region 4 with (fail)
  clear c5 z5
  generalize w4.setCell ⟨w.heap.size + 2, 5, none⟩ (.slice adu M capu) = w5 at *
  have b0 := a5'.cell 0
  have b1 := a5'.cell 1
  have b2 := a5'.cell 2
  have b3 := a5'.cell 3
  have b4 := a5'.cell 4
  have b5 := a5'.cell 5
  have o1 : (#[.string p, .int .i64 k, .int .i64 z, .int .i64 m, .int .u64 t, .slice adu M capu] : Array Value).all (·.oneCell') = true := by simp [Value.oneCell']
  have o6 := Only.setRow (w.heap.size + 1) w5 #[.string p, .int .i64 k, .int .i64 z, .int .i64 m, .int .u64 t, .slice adu M capu]
  have e6 := ext_only' e5 o6 (by omega)
  have a6 := a4'.row #[.string p, .int .i64 k, .int .i64 z, .int .i64 m, .int .u64 t, .slice adu M capu]
  have f6 := (f5.less (n' := w.heap.size + 2) (by omega)).only src_kept o6 (by omega)
  have Hf := Lib.hid (And.intro e6 (And.intro a6 f6))
  clear e5 e6 a6 o6 f5 f6
  go_wp2_with (refine wpList_store_row rfl 29 _ _ rfl (w.heap.size + 1) _ rfl rfl 29 _ a4' szRef rfl o1 ?_)
  exact bodyPost_ret (results_row rfl _ _ (w.heap.size + 1) 29 _ rfl Hf.out.2.1 Try.underlying29 rfl szRef) rfl ⟨_, rfl, Hf.out.1, by rw [if_neg Hk.out]; exact Far.less Hf.out.2.2 (by omega)⟩
set_option maxHeartbeats 4000000 in
set_option maxRecDepth 100000 in
theorem ref_dir (p : ByteArray) (k z m t : Int) (v : Value) (r : List Int) (w : World) (hs : Src w v r w.heap.size) (hk : (k != 2) = false) :
    Calls Try.prog 8 #[.agg (statC p k z m t), v] w (RefPost w p k z m t r) := by
  obtain ⟨ad, cap, ev⟩ := hs.len
  subst ev
  have hk2 : k = 2 := by simpa using hk
  have Hk := Lib.hid hk2
  clear hk2
  have e3 : Ext w (((w.alloc (.cells #[.string p, .int .i64 k, .int .i64 z, .int .i64 m, .int .u64 t] 24)).alloc (.cells #[.string ⟨#[]⟩, .int .i64 0, .int .i64 0, .int .i64 0, .int .u64 0, .slice none 0 0] 29)).alloc (.cells #[.string p, .int .i64 k, .int .i64 z, .int .i64 m, .int .u64 t, .slice none 0 0] 29)) := ((Ext.alloc w _).trans (Ext.alloc _ _)).trans (Ext.alloc _ _)
  have a2 : At (((w.alloc (.cells #[.string p, .int .i64 k, .int .i64 z, .int .i64 m, .int .u64 t] 24)).alloc (.cells #[.string ⟨#[]⟩, .int .i64 0, .int .i64 0, .int .i64 0, .int .u64 0, .slice none 0 0] 29)).alloc (.cells #[.string p, .int .i64 k, .int .i64 z, .int .i64 m, .int .u64 t, .slice none 0 0] 29)) w.heap.size #[.string p, .int .i64 k, .int .i64 z, .int .i64 m, .int .u64 t] 24 := ((At.new w _ _).alloc _).alloc _
  have a4 : At (((w.alloc (.cells #[.string p, .int .i64 k, .int .i64 z, .int .i64 m, .int .u64 t] 24)).alloc (.cells #[.string ⟨#[]⟩, .int .i64 0, .int .i64 0, .int .i64 0, .int .u64 0, .slice none 0 0] 29)).alloc (.cells #[.string p, .int .i64 k, .int .i64 z, .int .i64 m, .int .u64 t, .slice none 0 0] 29)) (w.heap.size + 1) #[.string ⟨#[]⟩, .int .i64 0, .int .i64 0, .int .i64 0, .int .u64 0, .slice none 0 0] 29 := (At.new1 w _ _ _).alloc _
  have a5 : At (((w.alloc (.cells #[.string p, .int .i64 k, .int .i64 z, .int .i64 m, .int .u64 t] 24)).alloc (.cells #[.string ⟨#[]⟩, .int .i64 0, .int .i64 0, .int .i64 0, .int .u64 0, .slice none 0 0] 29)).alloc (.cells #[.string p, .int .i64 k, .int .i64 z, .int .i64 m, .int .u64 t, .slice none 0 0] 29)) (w.heap.size + 2) #[.string p, .int .i64 k, .int .i64 z, .int .i64 m, .int .u64 t, .slice none 0 0] 29 := At.new2 w _ _ _ _
  obtain ⟨N, hN⟩ : ∃ N, N = r.length := ⟨_, rfl⟩
  rw [← hN] at hs ⊢
  clear hN hs
  have f0 := (At.new w #[.string p, .int .i64 k, .int .i64 z, .int .i64 m, .int .u64 t] 24).alloc (.cells #[.string ⟨#[]⟩, .int .i64 0, .int .i64 0, .int .i64 0, .int .u64 0, .slice none 0 0] 29)
  have c0 := f0.cell 0
  have c1 := f0.cell 1
  have c2 := f0.cell 2
  have c3 := f0.cell 3
  have c4 := f0.cell 4
  have d1 := a2.cell 1
  clear f0
  have b0 := a5.cell 0
  have b1 := a5.cell 1
  have b2 := a5.cell 2
  have b3 := a5.cell 3
  have b4 := a5.cell 4
  have b5 := a5.cell 5
  have o1 : (#[.string p, .int .i64 k, .int .i64 z, .int .i64 m, .int .u64 t, .slice none 0 0] : Array Value).all (·.oneCell') = true := by simp [Value.oneCell']
  have e5 := ext_only' e3 (Only.setRow (w.heap.size + 1) _ #[.string p, .int .i64 k, .int .i64 z, .int .i64 m, .int .u64 t, .slice none 0 0]) (by omega)
  have a6 := a4.row #[.string p, .int .i64 k, .int .i64 z, .int .i64 m, .int .u64 t, .slice none 0 0]
  have Hf := Lib.hid (And.intro e5 a6)
  clear e3 e5 a6
  unfold statC
  go_enter Try.func8, Try.ntmps8
  go_wp2_with (refine wpList_store_row rfl 29 _ _ rfl (w.heap.size + 1) _ rfl rfl 29 _ a4 szRef rfl o1 ?_)
  exact bodyPost_ret (results_row rfl _ _ (w.heap.size + 1) 29 _ rfl Hf.out.2 Try.underlying29 rfl szRef) rfl ⟨_, rfl, Hf.out.1, by rw [if_pos Hk.out]; exact fun bh _ => src_nil _ bh⟩
end Go.Proofs.Ytaiadcekmooimaa
