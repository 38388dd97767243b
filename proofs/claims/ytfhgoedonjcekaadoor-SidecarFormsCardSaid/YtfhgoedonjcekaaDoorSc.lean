/- The contract of Make (the code's). -/
import Derived.Test.YtfhgoedonjcekaaDoorSb
import Derived.Laws.ResultCell
namespace Go.Proofs.YtfhgoedonjcekaaDoor
open Go.RowKit Go.Sha
set_option linter.unusedSimpArgs false

/-- What lies apart from all blocks below n, and from what is not there yet. -/
def Far {α : Type} (R : World → Value → α → Nat → Prop) (n : Nat) (w : World) (v : Value) (a : α) : Prop := ∀ bh, bh < n ∨ w.heap.size ≤ bh → R w v a bh
theorem Far.ext {α : Type} {R : World → Value → α → Nat → Prop} (k : Kept R) {n : Nat} {w w' : World} {v : Value} {a : α} (h : Far R n w v a) (he : Ext w w') : Far R n w' v a := fun bh hb =>
  k.ext (h bh (hb.imp_right fun hb => Nat.le_trans he.size hb)) he
theorem Far.only {α : Type} {R : World → Value → α → Nat → Prop} (k : Kept R) {n g : Nat} {w w' : World} {v : Value} {a : α} (h : Far R n w v a) (ho : Only g w w') (hg : g < n) : Far R n w' v a := fun bh hb =>
  k.keep (h g (Or.inl hg)) (h bh (hb.imp_right fun hb => Nat.le_trans ho.size hb)) ho
theorem Far.less {α : Type} {R : World → Value → α → Nat → Prop} {n n' : Nat} {w : World} {v : Value} {a : α} (h : Far R n w v a) (hn : n' ≤ n) : Far R n' w v a := fun bh hb => h bh (hb.imp_left fun h => Nat.lt_of_lt_of_le h hn)
theorem Far.now {α : Type} {R : World → Value → α → Nat → Prop} {n : Nat} {w : World} {v : Value} {a : α} (h : Far R n w v a) : R w v a w.heap.size := h _ (Or.inr (Nat.le_refl _))
theorem own_far {w : World} {base : Nat} {v : Value} {m : List Int} (h : OwnB w base v m) : Far Src base w v m := fun bh hb => h.srcs bh hb
theorem Only.setRow (g : Nat) (w : World) (c : Array Value) : Only g w (w.setRow g c) := ⟨rfl, rfl, rfl, by rw [size_setRow]; exact Nat.le_refl _, fun k _ hk => heap_setRow _ _ _ _ hk⟩
theorem ext_only' {w w0 w1 : World} {b : Nat} (he : Ext w w0) (ho : Only b w0 w1) (hb : w.heap.size ≤ b) : Ext w w1 := ho.below he hb he.size

theorem results_row_tmp {P : Program} {fn : Func} {p u : Tmp} {ty : TypeId} (h : fn.results = #[.cell p ty, .tmp u]) (tmps : Array Value) (w : World) (g : Nat) (t : TypeId) (cs : Array Value) {d : TypeDesc} (hp : tmps.getD p undef = .pointer (some ⟨g, 0, none⟩)) (hg : At w g cs t)
    (hu : P.underlying ty = some d) (hd : (match d with | .struct _ | .array _ _ => true | _ => false) = true) (hi : (P.info? ty).map (·.size) = some cs.size) :
    (results fn tmps).run P w = .ok (.tuple #[.agg cs, tmps.getD u undef]) w := by
  rw [results_cell_tmp h, hp]
  simp only [asAddr, Sem.run_pure, Result.andThen_ok, run_loadVar_row w g t ty cs (0, 0) d hg hu hd hi]
theorem results_row {P : Program} {fn : Func} {p : Tmp} {ty : TypeId} (h : fn.results = #[.cell p ty]) (tmps : Array Value) (w : World) (g : Nat) (t : TypeId) (cs : Array Value) {d : TypeDesc} (hp : tmps.getD p undef = .pointer (some ⟨g, 0, none⟩)) (hg : At w g cs t)
    (hu : P.underlying ty = some d) (hd : (match d with | .struct _ | .array _ _ => true | _ => false) = true) (hi : (P.info? ty).map (·.size) = some cs.size) :
    (results fn tmps).run P w = .ok (.agg cs) w := results_cell_row h tmps w g t cs (0, 0) d hp hg hu hd hi

/-- A sidecar, and an error's number. -/
def MPost (w : World) (s : Sd) (err : Int) (e : Ending) (w' : World) : Prop := ∃ vr vl vp, e = .returned (.tuple #[.agg #[.int .i64 s.size, .int .i64 s.block, .int .i64 s.k, vr, vl, vp], .int .i64 err]) ∧ Ext w w' ∧ SR w' s vr vl vp

def zSide : Array Value := #[.int .i64 0, .int .i64 0, .int .i64 0, .slice none 0 0, .slice none 0 0, .slice none 0 0]
theorem zSide_one : zSide.all (·.oneCell') = true := by simp [zSide, Value.oneCell']
theorem src_nil (w : World) (b : Nat) : Src w (.slice none 0 0) [] b := ⟨none, 0, b + 1, 0, rfl, by simp, fun h => by simp at h, by omega, fun j hj => by simp at hj, fun _ => rfl⟩
theorem none_sr (w : World) : SR w noneL (.slice none 0 0) (.slice none 0 0) (.slice none 0 0) := ⟨src_nil w _, LR.nil w _, LR.nil w _⟩
theorem szSide : (Tryd.prog.info? 26).map (·.size) = some 6 := by kernel_rfl

set_option maxHeartbeats 1000000 in
theorem make_not (v : Value) (m : List Int) (b k : Int) (w : World) (hs : Src w v m w.heap.size) (hn : mayL m.length b k = false) :
    Calls Tryd.prog 7 #[v, .int .i64 b, .int .i64 k] w (MPost w noneL 1) := by
  obtain ⟨ad, cap, ev⟩ := hs.len
  subst ev
  obtain ⟨n, hl⟩ : ∃ n, n = m.length := ⟨_, rfl⟩
  rw [← hl] at hn ⊢
  clear hl hs
  have e0 : Ext w ((w.alloc (.cells zSide 26)).alloc (.cells #[.int .i64 n, .int .i64 b, .int .i64 k, .slice none 0 0, .slice none 0 0, .slice none 0 0] 26)) := (Ext.alloc w _).trans (Ext.alloc _ _)
  have a6 : At ((w.alloc (.cells zSide 26)).alloc (.cells #[.int .i64 n, .int .i64 b, .int .i64 k, .slice none 0 0, .slice none 0 0, .slice none 0 0] 26)) w.heap.size zSide 26 := (At.new w zSide 26).alloc _
  have C := mayBe_any n b k (.slice none 0 0) (.slice none 0 0) (.slice none 0 0) ((w.alloc (.cells zSide 26)).alloc (.cells #[.int .i64 n, .int .i64 b, .int .i64 k, .slice none 0 0, .slice none 0 0, .slice none 0 0] 26))
  rw [hn] at C
  have o1 := zSide_one
  have z1 : (Tryd.prog.info? 26).map (·.size) = some zSide.size := szSide
  unfold zSide at e0 a6 C o1 z1
  go_enter Tryd.func7, Tryd.ntmps7
  go_wp2_with fail
  refine C.mono ?_
  rintro e w1 ⟨rfl, e1⟩
  replace a6 := at_ext a6 e1
  replace e0 := e0.trans e1
  clear e1 C
  go_wp2_with (refine wpList_store_row rfl 26 _ _ rfl w.heap.size _ rfl rfl 26 _ a6 z1 rfl o1 ?_)
  refine bodyPost_ret (results_row_tmp rfl _ _ w.heap.size 26 _ rfl (a6.row _) Tryd.underlying26 rfl z1) rfl ?_
  exact ⟨_, _, _, rfl, ext_only' e0 (Only.setRow _ _ _) (Nat.le_refl _), none_sr _⟩

set_option maxHeartbeats 2000000 in
theorem make_ok (v : Value) (m : List Int) (b k : Int) (w : World) (hK : KAt w) (hs : Src w v m w.heap.size) (hn : mayL m.length b k = true) :
    Calls Tryd.prog 7 #[v, .int .i64 b, .int .i64 k] w (MPost w (makeL m b k) 0) := by
  obtain ⟨ad, cap, ev⟩ := hs.len
  subst ev
  have hm8 : m.length ≤ 8192 := by have := (mayL_iff _ _ _).1 hn; omega
  have hlL : (leavesL m b).length ≤ 1000000 := by
    have h3 := leavesL_length m b
    have h4 := (mayL_iff _ _ _).1 hn
    have h5 : cntL m.length b ≤ 20000 := by
      unfold cntL
      split
      · omega
      · exact Int.le_trans (Int.ediv_le_self _ (by omega)) (by omega)
    omega
  have hbL : ∀ x ∈ leavesL m b, x.length ≤ 1000000 := fun x hx => by rw [leavesL_all m b x hx]; omega
  unfold makeL
  obtain ⟨n, hl⟩ : ∃ n, n = m.length := ⟨_, rfl⟩
  rw [← hl] at hn hs ⊢
  have e0 : Ext w ((w.alloc (.cells zSide 26)).alloc (.cells #[.int .i64 n, .int .i64 b, .int .i64 k, .slice none 0 0, .slice none 0 0, .slice none 0 0] 26)) := (Ext.alloc w _).trans (Ext.alloc _ _)
  have a6 : At ((w.alloc (.cells zSide 26)).alloc (.cells #[.int .i64 n, .int .i64 b, .int .i64 k, .slice none 0 0, .slice none 0 0, .slice none 0 0] 26)) w.heap.size zSide 26 := (At.new w zSide 26).alloc _
  have a8 := At.new1 w (.cells zSide 26) #[.int .i64 n, .int .i64 b, .int .i64 k, .slice none 0 0, .slice none 0 0, .slice none 0 0] 26
  have C := mayBe_any n b k (.slice none 0 0) (.slice none 0 0) (.slice none 0 0) ((w.alloc (.cells zSide 26)).alloc (.cells #[.int .i64 n, .int .i64 b, .int .i64 k, .slice none 0 0, .slice none 0 0, .slice none 0 0] 26))
  have sz0 : w.heap.size + 2 ≤ ((w.alloc (.cells zSide 26)).alloc (.cells #[.int .i64 n, .int .i64 b, .int .i64 k, .slice none 0 0, .slice none 0 0, .slice none 0 0] 26)).heap.size := by rw [size_alloc, size_alloc]; omega
  rw [hn] at C
  unfold zSide at e0 a6 a8 C sz0
  have HL := Lib.hid hl; clear hl hn
  go_enter Tryd.func7, Tryd.ntmps7
  go_wp2_with fail
  refine C.mono ?_
  rintro e w1 ⟨rfl, e1⟩
  replace a6 := at_ext a6 e1
  replace a8 := at_ext a8 e1
  replace e0 := e0.trans e1
  have sz1 := Nat.le_trans sz0 e1.size
  clear e1 C sz0
  have k1 := hK.below e0 hK.lt
  have s1 := hs.now e0
  go_wp2_with fail
  refine (leaves_any _ m b w1 k1 s1 (by omega)).mono ?_
  rintro e w2 ⟨vl, rfl, e1, l2⟩
  replace a6 := at_ext a6 e1
  replace a8 := at_ext a8 e1
  replace e0 := e0.trans e1
  have F2 : Far LR (w.heap.size + 2) w2 vl (leavesL m b) := Far.less l2 sz1
  have sz2 := Nat.le_trans sz1 e1.size
  clear e1 l2 s1 k1 sz1
  obtain ⟨adl, capl, ev⟩ := F2.now.len
  subst ev
  have c4 := a8.cell 4
  have z4 := a8.frozen 4
  have o3 := Only.set (w.heap.size + 1) 4 w2 (.slice adl (leavesL m b).length capl)
  have a6' := o3.at a6 (by omega)
  have a8' : At (w2.setCell ⟨w.heap.size + 1, 4, none⟩ (.slice adl (leavesL m b).length capl)) (w.heap.size + 1) #[.int .i64 n, .int .i64 b, .int .i64 k, .slice none 0 0, .slice adl (leavesL m b).length capl, .slice none 0 0] 26 := a8.set 4 _
  have e3 := ext_only' e0 o3 (by omega)
  have F3 := F2.only lr_kept o3 (by omega)
  have sz3 := Nat.le_trans sz2 o3.size
  clear o3 a6 a8 e0 F2 sz2
  obtain ⟨NL, hNL⟩ : ∃ N, N = (leavesL m b).length := ⟨_, rfl⟩
  rw [← hNL] at hlL a6' a8' e3 F3 sz3 ⊢
  have HNL := Lib.hid hNL; clear hNL
  go_upto_region 5 with (fail)
  clear c4 z4
  generalize w2.setCell ⟨w.heap.size + 1, 4, none⟩ (.slice adl NL capl) = w3 at *
  have k3 := hK.below e3 hK.lt
  have c4 := a8'.cell 4
  go_wp2_with fail
  refine (root_any _ (leavesL m b) w3 k3 F3.now (by rw [← HNL.out]; exact hlL) hbL).mono ?_
  rintro e w4 ⟨vr, rfl, e1, o4⟩
  replace a6' := at_ext a6' e1
  replace a8' := at_ext a8' e1
  replace e3 := e3.trans e1
  have F4 := F3.ext lr_kept e1
  have G4 : Far Src (w.heap.size + 2) w4 vr (rootL (leavesL m b)) := Far.less (own_far o4) sz3
  have sz4 := Nat.le_trans sz3 e1.size
  clear e1 o4 k3 c4 F3 sz3
  obtain ⟨adr, capr, ev⟩ := G4.now.len
  subst ev
  have c3 := a8'.cell 3
  have z3 := a8'.frozen 3
  obtain ⟨NR, hNR⟩ : ∃ N, N = (rootL (leavesL m b)).length := ⟨_, rfl⟩
  rw [← hNR] at G4 ⊢
  have HNR := Lib.hid hNR; clear hNR
  have o5 := Only.set (w.heap.size + 1) 3 w4 (.slice adr NR capr)
  have a6 := o5.at a6' (by omega)
  have a8 : At (w4.setCell ⟨w.heap.size + 1, 3, none⟩ (.slice adr NR capr)) (w.heap.size + 1) #[.int .i64 n, .int .i64 b, .int .i64 k, .slice adr NR capr, .slice adl NL capl, .slice none 0 0] 26 := a8'.set 3 _
  have e5 := ext_only' e3 o5 (by omega)
  have F5 := F4.only lr_kept o5 (by omega)
  have G5 := G4.only src_kept o5 (by omega)
  have sz5 := Nat.le_trans sz4 o5.size
  clear o5 a6' a8' e3 F4 G4 sz4
  go_upto_region 6 with (fail)
  clear c3 z3
  generalize w4.setCell ⟨w.heap.size + 1, 3, none⟩ (.slice adr NR capr) = w5 at *
  have s5 := hs.now e5
  go_wp2_with fail
  refine (build_any _ m b k w5 s5 (by omega)).mono ?_
  rintro e w6 ⟨vp, rfl, e1, l6⟩
  replace a6 := at_ext a6 e1
  replace a8 := at_ext a8 e1
  replace e5 := e5.trans e1
  have F6 := F5.ext lr_kept e1
  have G6 := G5.ext src_kept e1
  have P6 : Far LR (w.heap.size + 2) w6 vp (buildL m b k) := Far.less l6 sz5
  have sz6 := Nat.le_trans sz5 e1.size
  clear e1 l6 s5 F5 G5 sz5
  obtain ⟨adp, capp, ev⟩ := P6.now.len
  subst ev
  have c5 := a8.cell 5
  have z5 := a8.frozen 5
  obtain ⟨NP, hNP⟩ : ∃ N, N = (buildL m b k).length := ⟨_, rfl⟩
  rw [← hNP] at P6 ⊢
  have HNP := Lib.hid hNP; clear hNP
  have o7 := Only.set (w.heap.size + 1) 5 w6 (.slice adp NP capp)
  have a6' := o7.at a6 (by omega)
  have a8' : At (w6.setCell ⟨w.heap.size + 1, 5, none⟩ (.slice adp NP capp)) (w.heap.size + 1) #[.int .i64 n, .int .i64 b, .int .i64 k, .slice adr NR capr, .slice adl NL capl, .slice adp NP capp] 26 := a8.set 5 _
  have e7 := ext_only' e5 o7 (by omega)
  have F7 := F6.only lr_kept o7 (by omega)
  have G7 := G6.only src_kept o7 (by omega)
  have P7 := P6.only lr_kept o7 (by omega)
  clear o7 a6 a8 e5 F6 G6 P6 sz6
  go_upto_region 7 with (fail)
  clear c5 z5
  generalize w6.setCell ⟨w.heap.size + 1, 5, none⟩ (.slice adp NP capp) = w7 at *
  have o1 : (#[.int .i64 n, .int .i64 b, .int .i64 k, .slice adr NR capr, .slice adl NL capl, .slice adp NP capp] : Array Value).all (·.oneCell') = true := by simp [Value.oneCell']
  have o8 := Only.setRow w.heap.size w7 #[.int .i64 n, .int .i64 b, .int .i64 k, .slice adr NR capr, .slice adl NL capl, .slice adp NP capp]
  have e8 := ext_only' e7 o8 (Nat.le_refl _)
  have F8 := F7.only lr_kept o8 (by omega)
  have G8 := G7.only src_kept o8 (by omega)
  have P8 := P7.only lr_kept o8 (by omega)
  have a9 := a6'.row #[.int .i64 n, .int .i64 b, .int .i64 k, .slice adr NR capr, .slice adl NL capl, .slice adp NP capp]
  have Hf := Lib.hid (And.intro e8 (And.intro F8 (And.intro G8 P8)))
  have Ha := Lib.hid a9
  clear o8 e8 F8 G8 P8 F7 G7 P7 e7 a9
  go_wp2_with (first | (refine wpList_load_row rfl 26 _ rfl (w.heap.size + 1) rfl 26 _ (0, 0) _ a8' Tryd.underlying26 rfl szSide ?_) | (refine wpList_store_row rfl 26 _ _ rfl w.heap.size _ rfl rfl 26 _ a6' szSide rfl o1 ?_))
  refine bodyPost_ret (results_row_tmp rfl _ _ w.heap.size 26 _ rfl Ha.out Tryd.underlying26 rfl szSide) rfl ?_
  obtain ⟨e8, F8, G8, P8⟩ := Hf.out
  exact ⟨_, _, _, rfl, e8, G8.now, F8.now, P8.now⟩
end Go.Proofs.YtfhgoedonjcekaaDoor
