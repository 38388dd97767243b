/- What the store holds of an archive behind Write, Truncate and Sync of a copy. No conditions: lemmas. What image's put, and the four acts that make a copy, do. No conditions but those named: contracts. -/
import Derived.Test.YtnhokjnmpdiokaaGreatDoorIcM
import Derived.Test.YtnhokjnmpdiokaaGreatDoorIf
set_option linter.unusedSimpArgs false
set_option linter.unusedVariables false
namespace Go.Proofs.YtnhokjnmpdiokaaGreatDoor.V
open Go.RowKit Go.Pth

def Con (S : SV) (ids : List Nat) (con : Nat → List Int) : Prop := ∀ i a, ids[i]? = some a → (S.nd a).now = con i
theorem ids_ne {l : List Nat} (h : l.Nodup) {i j a b : Nat} (hi : l[i]? = some a) (hj : l[j]? = some b) (hij : i ≠ j) : a ≠ b := fun e => by
  subst e
  obtain ⟨h1, e1⟩ := List.getElem?_eq_some_iff.1 hi
  obtain ⟨h2, e2⟩ := List.getElem?_eq_some_iff.1 hj
  rcases Nat.lt_or_ge i j with hl | hl
  · exact List.pairwise_iff_getElem.1 h i j h1 h2 hl (e1.trans e2.symm)
  · exact List.pairwise_iff_getElem.1 h j i h2 h1 (by omega) (e2.trans e1.symm)
theorem Con.upd {S S' : SV} {ids : List Nat} {con : Nat → List Int} (h : Con S ids con) (hn : ids.Nodup) {j a : Nat} (ha : ids[j]? = some a) (N : NV) (e : S'.nd = upd S.nd a N) : Con S' ids (V.upd con j N.now) := fun i b hb => by
  rw [e]
  by_cases hij : i = j
  · subst hij
    rw [ha] at hb; injection hb with hb; subst hb
    rw [upd_same, upd_same]
  · rw [upd_other _ _ _ _ (ids_ne hn hb ha hij), upd_other _ _ _ _ hij]
    exact h i b hb
theorem Con.same {S S' : SV} {ids : List Nat} {con : Nat → List Int} (h : Con S ids con) (e : S'.nd = S.nd) : Con S' ids con := fun i a ha => by rw [e]; exact h i a ha
theorem Md.nodups {S : SV} {n d : Nat} {ids : List Nat} {kj : Nat} (h : Md S n d ids kj) : ids.Nodup := (List.nodup_cons.1 h.nodup).2
theorem Md.trunc {S : SV} {n d : Nat} {ids : List Nat} {kj j a k : Nat} {con : Nat → List Int} (h : Md S n d ids kj) (c : Con S ids con) (ha : ids[j]? = some a) (hk : k ≤ (con j).length) :
    Md (S.beg.trunc a k) (n + 2) d ids kj ∧ Con (S.beg.trunc a k) ids (V.upd con j ((con j).take k)) := by
  have hm := List.mem_of_getElem? ha
  have hc := c j a ha
  have hb := Md.nd_beg S
  have e1 : ((S.beg.nd a).resize k).now = (con j).take k := by rw [hb, resize_now _ _ (by rw [hc]; exact hk), hc]
  refine ⟨h.beg.file a hm { (S.beg.nd a).resize k with stamp := S.beg.clock + 1 } ?_ ?_ (S.beg.clock + 1) (by omega) rfl, ?_⟩
  · show (S.beg.nd a).kind = 1; rw [hb]; exact h.kf a hm
  · show ((S.beg.nd a).resize k).now.length ≤ 65536
    rw [e1]
    have := h.lens a hm
    rw [hc] at this
    simp only [List.length_take]; omega
  · have := (c.same hb).upd h.nodups ha { (S.beg.nd a).resize k with stamp := S.beg.clock + 1 } (S' := S.beg.trunc a k) rfl
    rw [← e1]; exact this
theorem Md.wrote {S : SV} {n d : Nat} {ids : List Nat} {kj j a : Nat} {con : Nat → List Int} {x : List Int} (h : Md S n d ids kj) (c : Con S ids con) (ha : ids[j]? = some a) (hx : x.length ≤ 65536) :
    Md (S.beg.wrote a 0 x) (n + 2) d ids kj ∧ Con (S.beg.wrote a 0 x) ids (V.upd con j (x ++ (con j).drop x.length)) := by
  have hm := List.mem_of_getElem? ha
  have hc := c j a ha
  have hb := Md.nd_beg S
  have e1 : ((S.beg.nd a).write 0 x).now = x ++ (con j).drop x.length := by rw [hb, write_now, hc]
  have hk : ((S.beg.nd a).write 0 x).kind = 1 := by
    have : ∀ N : NV, (N.write 0 x).kind = N.kind := fun N => by unfold NV.write; split <;> rfl
    rw [this, hb]; exact h.kf a hm
  refine ⟨h.beg.file a hm { (S.beg.nd a).write 0 x with stamp := S.beg.clock + 1 } hk ?_ (S.beg.clock + 1) (by omega) rfl, ?_⟩
  · show ((S.beg.nd a).write 0 x).now.length ≤ 65536
    rw [e1]
    have := h.lens a hm
    rw [hc] at this
    simp only [List.length_append, List.length_drop]; omega
  · have := (c.same hb).upd h.nodups ha { (S.beg.nd a).write 0 x with stamp := S.beg.clock + 1 } (S' := S.beg.wrote a 0 x) rfl
    rw [← e1]; exact this
theorem Md.synced {S : SV} {n d : Nat} {ids : List Nat} {kj j a : Nat} {con : Nat → List Int} (h : Md S n d ids kj) (c : Con S ids con) (ha : ids[j]? = some a) :
    Md (S.beg.synced a) (n + 2) d ids kj ∧ Con (S.beg.synced a) ids con := by
  have hm := List.mem_of_getElem? ha
  have hc := c j a ha
  have hb := Md.nd_beg S
  refine ⟨h.beg.file a hm (S.beg.nd a).sync ?_ ?_ S.beg.clock (by omega) rfl, ?_⟩
  · show (S.beg.nd a).kind = 1; rw [hb]; exact h.kf a hm
  · show (S.beg.nd a).now.length ≤ 65536; rw [hb]; exact h.lens a hm
  · intro i b hbi
    have := (c.same hb).upd h.nodups ha (S.beg.nd a).sync (S' := S.beg.synced a) rfl i b hbi
    rw [this]
    by_cases hij : i = j
    · subst hij; rw [upd_same]; show (S.beg.nd a).now = _; rw [hb]; exact hc
    · rw [upd_other _ _ _ _ hij]
theorem Md.madeC {S : SV} {n d : Nat} {ids : List Nat} {con : Nat → List Int} (h : Mt S n d ids) (c : Con S ids con) (a : Nat) (ha : a ∉ S.ids) : Con (S.beg.made a (cpB ids.length) 1) (ids ++ [a]) (V.upd con ids.length []) := fun i b hb => by
  have hbg := beg_ops h.power
  rw [hbg]
  show (V.upd S.nd a _ b).now = _
  by_cases hi : i < ids.length
  · rw [List.getElem?_append_left hi] at hb
    rw [upd_other _ _ _ _ (fun e => ha (by rw [← e]; exact h.mem b (List.mem_of_getElem? hb))), upd_other _ _ _ _ (by omega)]
    exact c i b hb
  · rw [List.getElem?_append_right (by omega)] at hb
    obtain rfl : i = ids.length := by
      have := (List.getElem?_eq_some_iff.1 hb).1
      simp at this; omega
    simp at hb; subst hb
    rw [upd_same, upd_same]; rfl
theorem Md.safeC {S : SV} {n d : Nat} {ids : List Nat} {kj : Nat} {con : Nat → List Int} (h : Md S n d ids kj) (c : Con S ids con) (l : List Nm) : Con (S.beg.dirred l) ids con := c.same (Md.nd_beg S)
theorem Md.rotted {S : SV} {n d : Nat} {ids : List Nat} {kj j a k : Nat} {x : Int} {con : Nat → List Int} (h : Md S n d ids kj) (c : Con S ids con) (ha : ids[j]? = some a) (hk : k < (con j).length) :
    Md (S.rot a k x) (n + 1) d ids kj ∧ Con (S.rot a k x) ids (V.upd con j (rotB (con j) k x)) := by
  have hm := List.mem_of_getElem? ha
  have hc := c j a ha
  refine ⟨h.file a hm { (S.nd a) with now := rotB (S.nd a).now k x, kept := rotB (S.nd a).kept k x } (h.kf a hm) ?_ S.clock (by omega) rfl, ?_⟩
  · show (rotB (S.nd a).now k x).length ≤ 65536
    unfold rotB
    rw [splice_len _ _ _ (by rw [hc]; simp only [List.length_cons, List.length_nil]; omega)]
    exact h.lens a hm
  · have := c.upd h.nodups ha { (S.nd a) with now := rotB (S.nd a).now k x, kept := rotB (S.nd a).kept k x } (S' := S.rot a k x) rfl
    rw [← hc]; exact this
end Go.Proofs.YtnhokjnmpdiokaaGreatDoor.V

namespace Go.Proofs.YtnhokjnmpdiokaaGreatDoor
open Go.RowKit Go.Sha Go.Pth
set_option linter.unusedSimpArgs false
set_option linter.unusedVariables false

theorem cpT_list (j : Nat) : (cpT j).toList = V.cpB j := V.tx_list _
def Stg (w0 w : World) (sb ab g : Nat) (v : Value) (l : List RV) (L0 : Nat → Option V.Role) (n d : Nat) (ids : List Nat) (kj : Nat) (con : Nat → List Int) : Prop :=
  ∃ S W L, Arc w sb ab S W L g v l ∧ Mv w0 w ab L0 L ∧ V.Md S n d ids kj ∧ V.Con S ids con
theorem Stg.ext {w0 w w' : World} {sb ab g : Nat} {v : Value} {l : List RV} {L0 : Nat → Option V.Role} {n d : Nat} {ids : List Nat} {kj : Nat} {con : Nat → List Int} (h : Stg w0 w sb ab g v l L0 n d ids kj con) (e : Ext w w') : Stg w0 w' sb ab g v l L0 n d ids kj con := by
  obtain ⟨S, W, L, h1, h2, h3, h4⟩ := h
  exact ⟨S, W, L, h1.ext e, h2.trans (Mv.of_ext e), h3, h4⟩
theorem Stg.up {w0 w : World} {sb ab g : Nat} {v : Value} {l : List RV} {L0 : Nat → Option V.Role} {n m d : Nat} {ids : List Nat} {kj : Nat} {con : Nat → List Int} (h : Stg w0 w sb ab g v l L0 n d ids kj con) (hm : n ≤ m) : Stg w0 w sb ab g v l L0 m d ids kj con := by
  obtain ⟨S, W, L, h1, h2, h3, h4⟩ := h
  exact ⟨S, W, L, h1, h2, h3.up hm, h4⟩
theorem Stg.cell {w0 w : World} {sb ab g : Nat} {v : Value} {l : List RV} {L0 : Nat → Option V.Role} {n d : Nat} {ids : List Nat} {kj : Nat} {con : Nat → List Int} (h : Stg w0 w sb ab g v l L0 n d ids kj con) {p : Addr} {u : Value} (hp : w0.cell? p = some u) (hx : ¬ XL L0 ab p.block) : w.cell? p = some u := by
  obtain ⟨S, W, L, h1, h2, h3, h4⟩ := h
  exact h2.chg.cell hp hx
structure Byb (L0 : Nat → Option V.Role) (ab : Nat) (w0 : World) (v : Value) (x : List Int) (ad : Option Addr) (cap bb o : Nat) : Prop where
  bin : V.Bin w0 v x ad cap bb o
  apt : ¬ XL L0 ab bb
  lt : bb < w0.heap.size
  byt : Byt x
theorem Byb.l {L0 L : Nat → Option V.Role} {ab : Nat} {w0 w : World} {v : Value} {x : List Int} {ad : Option Addr} {cap bb o : Nat} (h : Byb L0 ab w0 v x ad cap bb o) (m : Mv w0 w ab L0 L) : L bb = none := by
  cases e : L bb with
  | none => rfl
  | some q =>
    rcases m.lab bb (by rw [e]; simp) with k | k
    · exact absurd (Or.inl k) h.apt
    · have := h.lt; omega
theorem Byb.b {L0 L : Nat → Option V.Role} {ab : Nat} {w0 w : World} {v : Value} {x : List Int} {ad : Option Addr} {cap bb o : Nat} (h : Byb L0 ab w0 v x ad cap bb o) (m : Mv w0 w ab L0 L) : V.Bin w v x ad cap bb o := h.bin.chg m.chg h.apt
theorem Byb.mv {L0 L : Nat → Option V.Role} {ab : Nat} {w0 w : World} {v : Value} {x : List Int} {ad : Option Addr} {cap bb o : Nat} (h : Byb L0 ab w0 v x ad cap bb o) (m : Mv w0 w ab L0 L) : Byb L ab w v x ad cap bb o :=
  ⟨h.b m, fun k => k.elim (fun k => k (h.l m)) fun k => h.apt (Or.inr k), Nat.lt_of_lt_of_le h.lt m.chg.size, h.byt⟩

theorem szStat : (Tryz.prog.info? 40).map (·.size) = some 5 := by kernel_rfl
set_option maxRecDepth 100000 in
set_option maxHeartbeats 8000000 in
theorem put_old {w0 w : World} {sb ab g : Nat} {v : Value} {l : List RV} {L0 : Nat → Option V.Role} {n d : Nat} {ids : List Nat} {con : Nat → List Int} (h : Stg w0 w sb ab g v l L0 n d ids ids.length con) (j : Nat) (hj : j < ids.length) (hn : n ≤ 50000)
    {vb : Value} {x : List Int} {ad : Option Addr} {cap bb o : Nat} (hb : Byb L0 ab w0 vb x ad cap bb o) (hx : x.length ≤ 65536) :
    Calls Tryz.prog 79 #[V.ptr ab, .string (cpT j), vb] w fun e w' => e = .returned (.int .i64 0) ∧ Stg w0 w' sb ab g v l L0 (n + 2) d ids ids.length (V.upd con j (x ++ (con j).drop x.length)) := by
  obtain ⟨S, W, L, A, M, MD, CN⟩ := h
  obtain ⟨a, ha⟩ : ∃ a, ids[j]? = some a := ⟨_, List.getElem?_eq_getElem hj⟩
  have hj3 : j < 3 := by have := MD.few; omega
  have lk : V.look S.names (cpT j).toList = some a := by rw [cpT_list, MD.names, V.look_cp d ids MD.few j hj3 (by omega), ha]
  have ff : S.file (cpT j).toList = (some a, 0) := by rw [cpT_list]; exact MD.filea j a hj3 ha
  have fit := MD.fit (by omega)
  have be : S.begE [(cpT j).toList] = 0 := by rw [cpT_list]; exact MD.begE _ (V.valid_cp j)
  have nl : S.names.length ≤ 1000000 := by have := fit.names; omega
  have ST := Lib.hid (fun w1 (r : V.Rep w1 sb S W L) => V.stat_some sb S W L (cpT j) a w1 r nl lk)
  have us := MD.used
  have rm := MD.room
  have WR := Lib.hid (fun w1 (r : V.Rep w1 sb S W L) (m : Mv w0 w1 ab L0 L) => V.write_ok sb S W L (cpT j) 0 x vb ad cap bb o a w1 r fit be ff (hb.b m) (hb.l m) hb.byt (by omega) (by omega))
  have HW := Lib.hid (MD.wrote CN ha hx)
  have HA := Lib.hid A
  have HM := Lib.hid M
  have c0 := A.c.1
  have ev := hb.bin.val
  have HXL : ∃ X, X = x.length := ⟨_, rfl⟩
  obtain ⟨X, hX⟩ := HXL
  rw [← hX] at ev
  clear A M MD CN lk ff fit be nl us rm hb ha hX
  subst ev
  obtain ⟨q0, q1, q2, q3, q4, hq⟩ : ∃ q0 q1 q2 q3 q4, V.statC (cpT j).toList (S.nd a) = #[.string q0, .int .i64 q1, .int .i64 q2, .int .i64 q3, .int .u64 q4] := ⟨_, _, _, _, _, rfl⟩
  rw [hq] at ST
  clear hq
  unfold V.ptr at c0 ST WR ⊢
  go_enter Tryz.func79, Tryz.ntmps79
  go_wp2_with fail
  refine (ST.out w HA.out.rep).mono ?_
  rintro e w1 ⟨rfl, e1⟩
  have eaw2 : Ext w1 (w1.alloc (.cells #[.string ⟨#[]⟩, .int .i64 0, .int .i64 0, .int .i64 0, .int .u64 0] 40)) := Ext.alloc w1 _
  have aaw2 := At.new w1 #[.string ⟨#[]⟩, .int .i64 0, .int .i64 0, .int .i64 0, .int .u64 0] 40
  have onew2 : (#[.string q0, .int .i64 q1, .int .i64 q2, .int .i64 q3, .int .u64 q4] : Array Value).all (·.oneCell') = true := by simp [Value.oneCell']
  have szw2 : (Tryz.prog.info? 40).map (·.size) = some (#[.string q0, .int .i64 q1, .int .i64 q2, .int .i64 q3, .int .u64 q4] : Array Value).size := szStat
  have Ew2 := ext_only' eaw2 (Only.setRow w1.heap.size _ #[.string q0, .int .i64 q1, .int .i64 q2, .int .i64 q3, .int .u64 q4]) (Nat.le_refl _)
  have Aw2 : At ((w1.alloc (.cells #[.string ⟨#[]⟩, .int .i64 0, .int .i64 0, .int .i64 0, .int .u64 0] 40)).setRow w1.heap.size #[.string q0, .int .i64 q1, .int .i64 q2, .int .i64 q3, .int .u64 q4]) w1.heap.size #[.string q0, .int .i64 q1, .int .i64 q2, .int .i64 q3, .int .u64 q4] 40 := aaw2.row _
  go_upto_region 2 with (refine wpList_store_row rfl 40 _ _ rfl w1.heap.size _ rfl rfl 40 _ aaw2 szw2 rfl onew2 ?_)
  clear eaw2 aaw2 szw2 onew2
  generalize (w1.alloc (.cells #[.string ⟨#[]⟩, .int .i64 0, .int .i64 0, .int .i64 0, .int .u64 0] 40)).setRow w1.heap.size #[.string q0, .int .i64 q1, .int .i64 q2, .int .i64 q3, .int .u64 q4] = w2 at *
  have E2 : Ext w w2 := (ext_v e1).trans Ew2
  have A2 := Lib.hid (HA.out.ext E2)
  have M2 := Lib.hid (HM.out.trans (Mv.of_ext (L := L) E2))
  have d0 := A2.out.c.1
  unfold V.ptr at d0
  clear e1 Ew2 Aw2 ST c0 HA HM
  go_wp2_with fail
  refine (WR.out w2 A2.out.rep M2.out).mono ?_
  rintro e w3 ⟨rfl, W3, L3, r3, t3⟩
  have F := Lib.hid (show Stg w0 w3 sb ab g v l L0 (n + 2) d ids ids.length (V.upd con j (x ++ (con j).drop x.length)) from ⟨_, _, L3, A2.out.st r3 t3, M2.out.trans (Mv.of_st t3), HW.out.1, HW.out.2⟩)
  clear r3 t3 WR A2 M2 d0
  go_wp2
  go_ret
  exact ⟨rfl, F.out⟩

set_option maxRecDepth 100000 in
set_option maxHeartbeats 8000000 in
theorem put_new {w0 w : World} {sb ab g : Nat} {v : Value} {l : List RV} {L0 : Nat → Option V.Role} {n d : Nat} {ids : List Nat} {con : Nat → List Int} (h : Stg w0 w sb ab g v l L0 n d ids ids.length con) (hl : ids.length < 3) (hn : n ≤ 50000)
    {vb : Value} {x : List Int} {ad : Option Addr} {cap bb o : Nat} (hb : Byb L0 ab w0 vb x ad cap bb o) (hx : x.length ≤ 65536) :
    Calls Tryz.prog 79 #[V.ptr ab, .string (cpT ids.length), vb] w fun e w' => e = .returned (.int .i64 0) ∧ ∃ a, Stg w0 w' sb ab g v l L0 (n + 3) d (ids ++ [a]) ids.length (V.upd con ids.length x) := by
  obtain ⟨S, W, L, A, M, MD, CN⟩ := h
  obtain ⟨j, hj⟩ : ∃ j, j = ids.length := ⟨_, rfl⟩
  have HJ := Lib.hid hj
  have lk : V.look S.names (cpT j).toList = none := by rw [cpT_list, MD.names, V.look_cp d ids MD.few j (by omega) (by omega), hj, List.getElem?_eq_none (Nat.le_refl _)]
  have fit := MD.fit (by omega)
  have be : S.begE [(cpT j).toList] = 0 := by rw [cpT_list]; exact MD.begE _ (V.valid_cp j)
  have nl : S.names.length ≤ 1000000 := by have := fit.names; omega
  have ST := Lib.hid (fun w1 (r : V.Rep w1 sb S W L) => V.stat_none sb S W L (cpT j) w1 r nl lk)
  have tk : V.takes S.names (V.kinds S) (cpT j).toList = 0 := by rw [cpT_list, hj]; exact MD.takes hl
  have pl : V.place S.names (cpT j).toList = S.names.length := by rw [cpT_list, hj]; exact MD.placed hl
  have CR := Lib.hid (fun w1 (r : V.Rep w1 sb S W L) => V.create_of sb (cpT j) 0 w1 (V.add_ok sb S W L (cpT j) 1 w1 r fit be tk pl))
  have MK := Lib.hid (fun a (ha : a ∉ S.ids) => (show V.Md (S.beg.made a (cpT j).toList 1) (n + 1) d (ids ++ [a]) ids.length ∧ V.Con (S.beg.made a (cpT j).toList 1) (ids ++ [a]) (V.upd con ids.length []) by
    rw [cpT_list, hj]; exact ⟨MD.made a ha hl, MD.madeC CN a ha⟩))
  have HA := Lib.hid A
  have HM := Lib.hid M
  have c0 := A.c.1
  have HB := Lib.hid hb
  have ev := hb.bin.val
  obtain ⟨X, hX⟩ : ∃ X, X = x.length := ⟨_, rfl⟩
  have HX := Lib.hid hx
  rw [← hX] at ev
  rw [← hj] at hl ⊢
  clear A M MD CN lk fit be nl tk pl hb hX hj hx
  subst ev
  unfold V.ptr at c0 ST CR ⊢
  unfold V.zstat at ST
  go_enter Tryz.func79, Tryz.ntmps79
  go_wp2_with fail
  refine (ST.out w HA.out.rep).mono ?_
  rintro e w1 ⟨rfl, e1⟩
  have eaw2 : Ext w1 (w1.alloc (.cells #[.string ⟨#[]⟩, .int .i64 0, .int .i64 0, .int .i64 0, .int .u64 0] 40)) := Ext.alloc w1 _
  have aaw2 := At.new w1 #[.string ⟨#[]⟩, .int .i64 0, .int .i64 0, .int .i64 0, .int .u64 0] 40
  have onew2 : (#[.string ⟨#[]⟩, .int .i64 0, .int .i64 0, .int .i64 0, .int .u64 0] : Array Value).all (·.oneCell') = true := by simp [Value.oneCell']
  have szw2 : (Tryz.prog.info? 40).map (·.size) = some (#[.string ⟨#[]⟩, .int .i64 0, .int .i64 0, .int .i64 0, .int .u64 0] : Array Value).size := szStat
  have Ew2 := ext_only' eaw2 (Only.setRow w1.heap.size _ #[.string ⟨#[]⟩, .int .i64 0, .int .i64 0, .int .i64 0, .int .u64 0]) (Nat.le_refl _)
  have Aw2 : At ((w1.alloc (.cells #[.string ⟨#[]⟩, .int .i64 0, .int .i64 0, .int .i64 0, .int .u64 0] 40)).setRow w1.heap.size #[.string ⟨#[]⟩, .int .i64 0, .int .i64 0, .int .i64 0, .int .u64 0]) w1.heap.size #[.string ⟨#[]⟩, .int .i64 0, .int .i64 0, .int .i64 0, .int .u64 0] 40 := aaw2.row _
  go_upto_region 2 with (refine wpList_store_row rfl 40 _ _ rfl w1.heap.size _ rfl rfl 40 _ aaw2 szw2 rfl onew2 ?_)
  clear eaw2 aaw2 szw2 onew2
  generalize (w1.alloc (.cells #[.string ⟨#[]⟩, .int .i64 0, .int .i64 0, .int .i64 0, .int .u64 0] 40)).setRow w1.heap.size #[.string ⟨#[]⟩, .int .i64 0, .int .i64 0, .int .i64 0, .int .u64 0] = w2 at *
  have E2 : Ext w w2 := (ext_v e1).trans Ew2
  have A2 := Lib.hid (HA.out.ext E2)
  have M2 := Lib.hid (HM.out.trans (Mv.of_ext (L := L) E2))
  have d0 := A2.out.c.1
  unfold V.ptr at d0
  clear e1 Ew2 Aw2 ST c0 HA HM
  go_wp2_with fail
  refine (CR.out w2 A2.out.rep).mono ?_
  rintro e w3 ⟨rfl, a, W3, L3, ha, r3, t3⟩
  have A3 := Lib.hid (A2.out.st r3 t3)
  have M3 := Lib.hid (M2.out.trans (Mv.of_st t3))
  have d3 := A3.out.c.1
  unfold V.ptr at d3
  have MK3 := Lib.hid (MK.out a ha)
  clear r3 t3 CR A2 M2 d0 MK ha
  have ia : (ids ++ [a])[j]? = some a := by rw [HJ.out]; simp
  have hcj : (V.upd con j []) j = [] := V.upd_same _ _ _
  have WO := Lib.hid (MK3.out.1.wrote (j := j) (a := a) (x := x) (by have := MK3.out.2; rw [← HJ.out] at this; exact this) ia HX.out)
  rw [hcj, List.drop_nil, List.append_nil] at WO
  have WR := Lib.hid (V.write_ok sb _ W3 L3 (cpT j) 0 x _ ad cap bb o a w3 A3.out.rep (MK3.out.1.fit (by omega)) (by have := MK3.out.1.begE _ (V.valid_cp j); rw [← cpT_list j] at this; exact this) (by have := MK3.out.1.filea j a hl ia; rw [← cpT_list j] at this; exact this) (HB.out.b M3.out) (HB.out.l M3.out) HB.out.byt (by have := HX.out; omega) (by have := MK3.out.1.used; have := MK3.out.1.room; have := HX.out; omega))
  unfold V.ptr at WR
  clear ia hcj
  go_wp2_with fail
  refine (WR.out).mono ?_
  rintro e w4 ⟨rfl, W4, L4, r4, t4⟩
  have F := Lib.hid (show Stg w0 w4 sb ab g v l L0 (n + 3) d (ids ++ [a]) ids.length (V.upd con j x) from ⟨_, _, L4, A3.out.st r4 t4, M3.out.trans (Mv.of_st t4), WO.out.1, by
    have := WO.out.2
    intro i b hb
    rw [this i b hb]
    unfold V.upd; split <;> rfl⟩)
  clear r4 t4 WR A3 M3 d3 WO MK3
  go_wp2
  go_ret
  exact ⟨rfl, a, by rw [HJ.out]; have := F.out; rw [HJ.out] at this; exact this⟩

structure Bx (w : World) (b0 b1 b2 b3 ab j : Nat) (vb : Value) (size : Nat) : Prop where
  c0 : w.cell? ⟨b0, 0, none⟩ = some (V.ptr ab)
  c1 : w.cell? ⟨b1, 0, none⟩ = some (.string (cpT j))
  c2 : w.cell? ⟨b2, 0, none⟩ = some vb
  c3 : w.cell? ⟨b3, 0, none⟩ = some (.int .i64 (size : Int))
def bx (b : Nat) : Value := .pointer (some ⟨b, 0, none⟩)
set_option maxRecDepth 100000 in
set_option maxHeartbeats 8000000 in
theorem act1 {R : World → Prop} (w : World) (b0 b1 b2 b3 ab j : Nat) (vb : Value) (size : Nat) (h : Bx w b0 b1 b2 b3 ab j vb size) (ad : Option Addr) (k cap : Nat) (ev : vb = .slice ad k cap)
    (hp : Calls Tryz.prog 79 #[V.ptr ab, .string (cpT j), vb] w fun e w' => e = .returned (.int .i64 0) ∧ R w') :
    Calls Tryz.prog 78 #[bx b0, bx b1, bx b2] w fun e w' => e = .returned (.int .i64 0) ∧ R w' := by
  obtain ⟨c0, c1, c2, c3⟩ := h
  subst ev
  unfold V.ptr at hp c0
  unfold bx
  go_enter Tryz.func78, Tryz.ntmps78
  go_wp2_with fail
  refine hp.mono ?_
  rintro e w1 ⟨rfl, r⟩
  have HR := Lib.hid r
  clear r hp
  go_wp2
  go_ret
  exact ⟨rfl, HR.out⟩
set_option maxRecDepth 100000 in
set_option maxHeartbeats 8000000 in
theorem act2 {R : World → Prop} (w : World) (b0 b1 b2 b3 ab sb j : Nat) (vb : Value) (size : Nat) (h : Bx w b0 b1 b2 b3 ab j vb size) (hs : w.cell? ⟨ab, 0, none⟩ = some (V.ptr sb))
    (hp : ∀ w1, Ext w w1 → Calls Tryz.prog 81 #[V.ptr sb, .string (cpT j), .int .i64 (size : Int)] w1 fun e w' => e = .returned (.int .i64 0) ∧ R w') :
    Calls Tryz.prog 80 #[bx b0, bx b1, bx b3] w fun e w' => e = .returned (.int .i64 0) ∧ R w' := by
  obtain ⟨c0, c1, c2, c3⟩ := h
  clear c2
  unfold V.ptr at hp c0 hs
  unfold bx
  go_enter Tryz.func80, Tryz.ntmps80
  go_upto_region 1 with fail
  go_still_tail 6, (by kernel_rfl)
  change wpList _ _ _ _ _ w.drew
  have HP := Lib.hid (hp w.drew (Below.drew (Below.refl _ _)))
  clear hp
  go_wp2_with fail
  refine (HP.out).mono ?_
  rintro e w1 ⟨rfl, r⟩
  have HR := Lib.hid r
  clear r HP
  go_wp2
  go_ret
  exact ⟨rfl, HR.out⟩
set_option maxRecDepth 100000 in
set_option maxHeartbeats 8000000 in
theorem act3 {R : World → Prop} (w : World) (b0 b1 b2 b3 ab sb j : Nat) (vb : Value) (size : Nat) (h : Bx w b0 b1 b2 b3 ab j vb size) (hs : w.cell? ⟨ab, 0, none⟩ = some (V.ptr sb))
    (hp : ∀ w1, Ext w w1 → Calls Tryz.prog 83 #[V.ptr sb, .string (cpT j)] w1 fun e w' => e = .returned (.int .i64 0) ∧ R w') :
    Calls Tryz.prog 82 #[bx b0, bx b1] w fun e w' => e = .returned (.int .i64 0) ∧ R w' := by
  obtain ⟨c0, c1, c2, c3⟩ := h
  clear c2 c3
  unfold V.ptr at hp c0 hs
  unfold bx
  go_enter Tryz.func82, Tryz.ntmps82
  go_upto_region 1 with fail
  go_still_tail 5, (by kernel_rfl)
  change wpList _ _ _ _ _ w.drew
  have HP := Lib.hid (hp w.drew (Below.drew (Below.refl _ _)))
  clear hp
  go_wp2_with fail
  refine (HP.out).mono ?_
  rintro e w1 ⟨rfl, r⟩
  have HR := Lib.hid r
  clear r HP
  go_wp2
  go_ret
  exact ⟨rfl, HR.out⟩

def fns (b0 b1 b2 b3 sb : Nat) : Array Value := #[.func (.func 78) #[] #[bx b0, bx b1, bx b2], .func (.func 80) #[] #[bx b0, bx b1, bx b3], .func (.func 82) #[] #[bx b0, bx b1], .func (.func 84) #[V.ptr sb] #[]]
set_option maxRecDepth 100000 in
set_option maxHeartbeats 8000000 in
theorem acts_any (w : World) (ab sb j : Nat) (ad : Option Addr) (k cap size : Nat) (hs : w.cell? ⟨ab, 0, none⟩ = some (V.ptr sb)) :
    Calls Tryz.prog 58 #[V.ptr ab, .string (cpT j), .slice ad k cap, .int .i64 (size : Int)] w fun e w' => e = .returned (.slice (some ⟨w.heap.size + 4, 0, none⟩) 4 4) ∧ Ext w w' ∧
      Bx w' w.heap.size (w.heap.size + 1) (w.heap.size + 2) (w.heap.size + 3) ab j (.slice ad k cap) size ∧ At w' (w.heap.size + 4) (fns w.heap.size (w.heap.size + 1) (w.heap.size + 2) (w.heap.size + 3) sb) 88 ∧ w'.heap.size = w.heap.size + 5 := by
  obtain ⟨w4, hw4⟩ : ∃ w4, w4 = (((w.alloc (.cells #[.pointer (some ⟨ab, 0, none⟩)] 27)).alloc (.cells #[.string (cpT j)] 9)).alloc (.cells #[.slice ad k cap] 50)).alloc (.cells #[.int .i64 (size : Int)] 3) := ⟨_, rfl⟩
  have e4 : Ext w w4 := by subst hw4; exact (((Ext.alloc w _).trans (Ext.alloc _ _)).trans (Ext.alloc _ _)).trans (Ext.alloc _ _)
  have z4 : w4.heap.size = w.heap.size + 4 := by subst hw4; simp
  have x0 : w4.cell? ⟨w.heap.size, 0, none⟩ = some (.pointer (some ⟨ab, 0, none⟩)) := by
    subst hw4; exact ext_cell (((Ext.alloc _ _).trans (Ext.alloc _ _)).trans (Ext.alloc _ _)) ((At.new w #[.pointer (some ⟨ab, 0, none⟩)] 27).cell 0)
  have x1 : w4.cell? ⟨w.heap.size + 1, 0, none⟩ = some (.string (cpT j)) := by
    subst hw4; exact ext_cell ((Ext.alloc _ _).trans (Ext.alloc _ _)) ((At.new1 w _ #[.string (cpT j)] 9).cell 0)
  have x2 : w4.cell? ⟨w.heap.size + 2, 0, none⟩ = some (.slice ad k cap) := by
    subst hw4
    have := (At.new ((w.alloc (.cells #[.pointer (some ⟨ab, 0, none⟩)] 27)).alloc (.cells #[.string (cpT j)] 9)) #[.slice ad k cap] 50).cell 0
    exact ext_cell (Ext.alloc _ _) (by simpa using this)
  have x3 : w4.cell? ⟨w.heap.size + 3, 0, none⟩ = some (.int .i64 (size : Int)) := by
    subst hw4
    have := (At.new (((w.alloc (.cells #[.pointer (some ⟨ab, 0, none⟩)] 27)).alloc (.cells #[.string (cpT j)] 9)).alloc (.cells #[.slice ad k cap] 50)) #[.int .i64 (size : Int)] 3).cell 0
    simpa using this
  have s4 := ext_cell e4 hs
  have B4 := Lib.hid (show Bx w4 w.heap.size (w.heap.size + 1) (w.heap.size + 2) (w.heap.size + 3) ab j (.slice ad k cap) size from ⟨x0, x1, x2, x3⟩)
  have EN := Lib.hid (And.intro e4 z4)
  clear x1 x2 x3 e4 z4
  have hmf : ∀ (fn : Fn) (first cap : Array Value) (w : World), (Instr.makeFunc fn first cap).run Tryz.prog w = .ok (.func fn first cap) w := fun _ _ _ _ => rfl
  unfold V.ptr at hs s4 ⊢
  rw [hw4] at s4 x0
  go_enter Tryz.func58, Tryz.ntmps58
  go_wp2
  rw [← hw4]
  go_ret
  have z4 := EN.out.2
  refine ⟨rfl, EN.out.1.trans (Ext.alloc _ _), ⟨ext_cell (Ext.alloc _ _) B4.out.c0, ext_cell (Ext.alloc _ _) B4.out.c1, ext_cell (Ext.alloc _ _) B4.out.c2, ext_cell (Ext.alloc _ _) B4.out.c3⟩, ?_, ?_⟩
  · have := At.new w4 (fns w.heap.size (w.heap.size + 1) (w.heap.size + 2) (w.heap.size + 3) sb) 88
    rw [z4] at this
    exact this
  · rw [V.size_alloc, z4]
end Go.Proofs.YtnhokjnmpdiokaaGreatDoor
