/- Image's put, roomFor, and what is done behind it, on a store of whatever room. No conditions but those named: contracts. Image's write of all copies on a store of whatever room: done, or refused ahead of any change. No conditions but those named: contracts. Commit and Open on a store of whatever room. No conditions but those named: contracts. What a nil Archive answers; the law's shows where no number is asked. No conditions but those named: contracts. An archive on a store of whatever room, between two rounds of ImageFull. No conditions: a definition and contracts. The walk of ImageFull. No conditions: a contract. -/
import Derived.Test.YtnhokjnmpdiokaaGreatDoorFa
import Derived.Test.YtnhokjnmpdiokaaGreatDoorIkM
import Derived.Test.YtnhokjnmpdiokaaGreatDoorIm
import Derived.Test.YtnhokjnmpdiokaaGreatDoorKfM
import Derived.Test.YtnhokjnmpdiokaaGreatDoorKl
import Derived.Test.YtnhokjnmpdiokaaGreatDoorKm
import Derived.Test.YtnhokjnmpdiokaaGreatDoorJkM
namespace Go.Proofs.YtnhokjnmpdiokaaGreatDoor
open Go.RowKit Go.Sha Go.Pth
set_option linter.unusedSimpArgs false
set_option linter.unusedVariables false

def StgF (R : Int) (w0 w : World) (sb ab g : Nat) (v : Value) (l : List RV) (L0 : Nat → Option V.Role) (n d : Nat) (ids : List Nat) (con : Nat → List Int) : Prop :=
 ∃ S W L, Arc w sb ab S W L g v l ∧ Mv w0 w ab L0 L ∧ V.Mq R S n d ids ∧ V.Con S ids con
theorem StgF.ext {R : Int} {w0 w w' : World} {sb ab g : Nat} {v : Value} {l : List RV} {L0 : Nat → Option V.Role} {n d : Nat} {ids : List Nat} {con : Nat → List Int} (h : StgF R w0 w sb ab g v l L0 n d ids con) (e : Ext w w') : StgF R w0 w' sb ab g v l L0 n d ids con := by
 obtain ⟨S, W, L, h1, h2, h3, h4⟩ := h
 exact ⟨S, W, L, h1.ext e, h2.trans (Mv.of_ext e), h3, h4⟩
theorem StgF.up {R : Int} {w0 w : World} {sb ab g : Nat} {v : Value} {l : List RV} {L0 : Nat → Option V.Role} {n m d : Nat} {ids : List Nat} {con : Nat → List Int} (h : StgF R w0 w sb ab g v l L0 n d ids con) (hm : n ≤ m) : StgF R w0 w sb ab g v l L0 m d ids con := by
 obtain ⟨S, W, L, h1, h2, h3, h4⟩ := h
 exact ⟨S, W, L, h1, h2, h3.up hm, h4⟩
theorem StgF.cell {R : Int} {w0 w : World} {sb ab g : Nat} {v : Value} {l : List RV} {L0 : Nat → Option V.Role} {n d : Nat} {ids : List Nat} {con : Nat → List Int} (h : StgF R w0 w sb ab g v l L0 n d ids con) {p : Addr} {u : Value} (hp : w0.cell? p = some u) (hx : ¬ XL L0 ab p.block) : w.cell? p = some u := by
 obtain ⟨S, W, L, h1, h2, h3, h4⟩ := h
 exact h2.chg.cell hp hx
theorem StgF.sptr {R : Int} {w0 w : World} {sb ab g : Nat} {v : Value} {l : List RV} {L0 : Nat → Option V.Role} {n d : Nat} {ids : List Nat} {con : Nat → List Int} (h : StgF R w0 w sb ab g v l L0 n d ids con) : w.cell? ⟨ab, 0, none⟩ = some (V.ptr sb) := by
 obtain ⟨S, W, L, A, M, MD, CN⟩ := h; exact A.c.1

set_option maxRecDepth 100000 in
set_option maxHeartbeats 8000000 in
theorem put_oldF {R : Int} {w0 w : World} {sb ab g : Nat} {v : Value} {l : List RV} {L0 : Nat → Option V.Role} {n d : Nat} {ids : List Nat} {con : Nat → List Int} (h : StgF R w0 w sb ab g v l L0 n d ids con) (j : Nat) (hj : j < ids.length) (hn : n ≤ 8000)
  {vb : Value} {x : List Int} {ad : Option Addr} {cap bb o : Nat} (hb : Byb L0 ab w0 vb x ad cap bb o) (hx : x.length ≤ 65536) (hroom : (V.tot con ids.length : Int) + max 0 ((x.length : Int) - (con j).length) ≤ R) :
  Calls Tryz.prog 79 #[V.ptr ab, .string (cpT j), vb] w fun e w' => e = .returned (.int .i64 0) ∧ StgF R w0 w' sb ab g v l L0 (n + 2) d ids (V.upd con j (x ++ (con j).drop x.length)) := by
 obtain ⟨S, W, L, A, M, MD, CN⟩ := h
 obtain ⟨a, ha⟩ : ∃ a, ids[j]? = some a := ⟨_, List.getElem?_eq_getElem hj⟩
 have hj3 : j < 3 := by have := MD.few; omega
 have lk : V.look S.names (cpT j).toList = some a := by rw [cpT_list, MD.names, V.look_cp d ids MD.few j hj3 (by omega), ha]
 have ff : S.file (cpT j).toList = (some a, 0) := by rw [cpT_list]; exact MD.filea j a hj3 ha
 have fit := MD.fit (by omega)
 have be : S.begE [(cpT j).toList] = 0 := by rw [cpT_list]; exact MD.begE _ (V.valid_cp j)
 have nl : S.names.length ≤ 1000000 := by have := fit.names; omega
 have ST := Lib.hid (fun w1 (r : V.Rep w1 sb S W L) => V.stat_some sb S W L (cpT j) a w1 r nl lk)
 have us := MD.used CN
 have rm := MD.room
 have WR := Lib.hid (fun w1 (r : V.Rep w1 sb S W L) (m : Mv w0 w1 ab L0 L) => V.write_ok sb S W L (cpT j) 0 x vb ad cap bb o a w1 r fit be ff (hb.b m) (hb.l m) hb.byt (by omega) (by rw [us, rm, CN j a ha]; omega))
 have HW := Lib.hid (MD.wrote CN ha hx)
 have HA := Lib.hid A
 have HM := Lib.hid M
 have c0 := A.c.1
 have ev := hb.bin.val
 have HXL : ∃ X, X = x.length := ⟨_, rfl⟩
 obtain ⟨X, hX⟩ := HXL
 rw [← hX] at ev
 clear A M MD CN lk ff fit be nl us rm hb ha hX
 subst ev
 obtain ⟨q0, q1, q2, q3, q4, hq⟩ : ∃ q0 q1 q2 q3 q4, V.statC (cpT j).toList (S.nd a) = #[.string q0, .int .i64 q1, .int .i64 q2, .int .i64 q3, .int .u64 q4] := ⟨_, _, _, _, _, rfl⟩
 rw [hq] at ST
 clear hq
 unfold V.ptr at c0 ST WR ⊢
 go_enter Tryz.func79, Tryz.ntmps79
 go_wp2_with fail
 refine (ST.out w HA.out.rep).mono ?_
 rintro e w1 ⟨rfl, e1⟩
 have eaw2 : Ext w1 (w1.alloc (.cells #[.string ⟨#[]⟩, .int .i64 0, .int .i64 0, .int .i64 0, .int .u64 0] 40)) := Ext.alloc w1 _
 have aaw2 := At.new w1 #[.string ⟨#[]⟩, .int .i64 0, .int .i64 0, .int .i64 0, .int .u64 0] 40
 have onew2 : (#[.string q0, .int .i64 q1, .int .i64 q2, .int .i64 q3, .int .u64 q4] : Array Value).all (·.oneCell') = true := by simp [Value.oneCell']
 have szw2 : (Tryz.prog.info? 40).map (·.size) = some (#[.string q0, .int .i64 q1, .int .i64 q2, .int .i64 q3, .int .u64 q4] : Array Value).size := szStat
 have Ew2 := ext_only' eaw2 (Only.setRow w1.heap.size _ #[.string q0, .int .i64 q1, .int .i64 q2, .int .i64 q3, .int .u64 q4]) (Nat.le_refl _)
 have Aw2 : At ((w1.alloc (.cells #[.string ⟨#[]⟩, .int .i64 0, .int .i64 0, .int .i64 0, .int .u64 0] 40)).setRow w1.heap.size #[.string q0, .int .i64 q1, .int .i64 q2, .int .i64 q3, .int .u64 q4]) w1.heap.size #[.string q0, .int .i64 q1, .int .i64 q2, .int .i64 q3, .int .u64 q4] 40 := aaw2.row _
 go_upto_region 2 with (refine wpList_store_row rfl 40 _ _ rfl w1.heap.size _ rfl rfl 40 _ aaw2 szw2 rfl onew2 ?_)
 clear eaw2 aaw2 szw2 onew2
 generalize (w1.alloc (.cells #[.string ⟨#[]⟩, .int .i64 0, .int .i64 0, .int .i64 0, .int .u64 0] 40)).setRow w1.heap.size #[.string q0, .int .i64 q1, .int .i64 q2, .int .i64 q3, .int .u64 q4] = w2 at *
 have E2 : Ext w w2 := (ext_v e1).trans Ew2
 have A2 := Lib.hid (HA.out.ext E2)
 have M2 := Lib.hid (HM.out.trans (Mv.of_ext (L := L) E2))
 have d0 := A2.out.c.1
 unfold V.ptr at d0
 clear e1 Ew2 Aw2 ST c0 HA HM
 go_wp2_with fail
 refine (WR.out w2 A2.out.rep M2.out).mono ?_
 rintro e w3 ⟨rfl, W3, L3, r3, t3⟩
 have F := Lib.hid (show StgF R w0 w3 sb ab g v l L0 (n + 2) d ids (V.upd con j (x ++ (con j).drop x.length)) from ⟨_, _, L3, A2.out.st r3 t3, M2.out.trans (Mv.of_st t3), HW.out.1, HW.out.2⟩)
 clear r3 t3 WR A2 M2 d0
 go_wp2
 go_ret
 exact ⟨rfl, F.out⟩

set_option maxRecDepth 100000 in
set_option maxHeartbeats 8000000 in
theorem put_oldX {R : Int} {w0 w : World} {sb ab g : Nat} {v : Value} {l : List RV} {L0 : Nat → Option V.Role} {n d : Nat} {ids : List Nat} {con : Nat → List Int} (h : StgF R w0 w sb ab g v l L0 n d ids con) (j : Nat) (hj : j < ids.length) (hn : n ≤ 8000)
  {vb : Value} {x : List Int} {ad : Option Addr} {cap bb o : Nat} (hb : Byb L0 ab w0 vb x ad cap bb o) (hx : x.length ≤ 65536) (hroom : (V.tot con ids.length : Int) + max 0 ((x.length : Int) - (con j).length) ≤ R → False) :
  Calls Tryz.prog 79 #[V.ptr ab, .string (cpT j), vb] w fun e w' => e = .returned (.int .i64 4) ∧ StgF R w0 w' sb ab g v l L0 (n + 2) d ids con := by
 obtain ⟨S, W, L, A, M, MD, CN⟩ := h
 obtain ⟨a, ha⟩ : ∃ a, ids[j]? = some a := ⟨_, List.getElem?_eq_getElem hj⟩
 have hj3 : j < 3 := by have := MD.few; omega
 have lk : V.look S.names (cpT j).toList = some a := by rw [cpT_list, MD.names, V.look_cp d ids MD.few j hj3 (by omega), ha]
 have ff : S.file (cpT j).toList = (some a, 0) := by rw [cpT_list]; exact MD.filea j a hj3 ha
 have fit := MD.fit (by omega)
 have be : S.begE [(cpT j).toList] = 0 := by rw [cpT_list]; exact MD.begE _ (V.valid_cp j)
 have nl : S.names.length ≤ 1000000 := by have := fit.names; omega
 have ST := Lib.hid (fun w1 (r : V.Rep w1 sb S W L) => V.stat_some sb S W L (cpT j) a w1 r nl lk)
 have us := MD.used CN
 have rm := MD.room
 have WR := Lib.hid (fun w1 (r : V.Rep w1 sb S W L) (m : Mv w0 w1 ab L0 L) => V.write_full sb S W L (cpT j) 0 x vb ad cap bb o a w1 r fit be ff (hb.b m) (hb.l m) hb.byt (by omega) (by rw [us, rm, CN j a ha]; intro q; exact hroom (by omega)))
 have HW := Lib.hid (And.intro (MD.beg.up (m := n + 2) (by omega)) (CN.same (V.Md.nd_beg S)))
 have HA := Lib.hid A
 have HM := Lib.hid M
 have c0 := A.c.1
 have ev := hb.bin.val
 have HXL : ∃ X, X = x.length := ⟨_, rfl⟩
 obtain ⟨X, hX⟩ := HXL
 rw [← hX] at ev
 clear A M MD CN lk ff fit be nl us rm hb ha hX
 subst ev
 obtain ⟨q0, q1, q2, q3, q4, hq⟩ : ∃ q0 q1 q2 q3 q4, V.statC (cpT j).toList (S.nd a) = #[.string q0, .int .i64 q1, .int .i64 q2, .int .i64 q3, .int .u64 q4] := ⟨_, _, _, _, _, rfl⟩
 rw [hq] at ST
 clear hq
 unfold V.ptr at c0 ST WR ⊢
 go_enter Tryz.func79, Tryz.ntmps79
 go_wp2_with fail
 refine (ST.out w HA.out.rep).mono ?_
 rintro e w1 ⟨rfl, e1⟩
 have eaw2 : Ext w1 (w1.alloc (.cells #[.string ⟨#[]⟩, .int .i64 0, .int .i64 0, .int .i64 0, .int .u64 0] 40)) := Ext.alloc w1 _
 have aaw2 := At.new w1 #[.string ⟨#[]⟩, .int .i64 0, .int .i64 0, .int .i64 0, .int .u64 0] 40
 have onew2 : (#[.string q0, .int .i64 q1, .int .i64 q2, .int .i64 q3, .int .u64 q4] : Array Value).all (·.oneCell') = true := by simp [Value.oneCell']
 have szw2 : (Tryz.prog.info? 40).map (·.size) = some (#[.string q0, .int .i64 q1, .int .i64 q2, .int .i64 q3, .int .u64 q4] : Array Value).size := szStat
 have Ew2 := ext_only' eaw2 (Only.setRow w1.heap.size _ #[.string q0, .int .i64 q1, .int .i64 q2, .int .i64 q3, .int .u64 q4]) (Nat.le_refl _)
 have Aw2 : At ((w1.alloc (.cells #[.string ⟨#[]⟩, .int .i64 0, .int .i64 0, .int .i64 0, .int .u64 0] 40)).setRow w1.heap.size #[.string q0, .int .i64 q1, .int .i64 q2, .int .i64 q3, .int .u64 q4]) w1.heap.size #[.string q0, .int .i64 q1, .int .i64 q2, .int .i64 q3, .int .u64 q4] 40 := aaw2.row _
 go_upto_region 2 with (refine wpList_store_row rfl 40 _ _ rfl w1.heap.size _ rfl rfl 40 _ aaw2 szw2 rfl onew2 ?_)
 clear eaw2 aaw2 szw2 onew2
 generalize (w1.alloc (.cells #[.string ⟨#[]⟩, .int .i64 0, .int .i64 0, .int .i64 0, .int .u64 0] 40)).setRow w1.heap.size #[.string q0, .int .i64 q1, .int .i64 q2, .int .i64 q3, .int .u64 q4] = w2 at *
 have E2 : Ext w w2 := (ext_v e1).trans Ew2
 have A2 := Lib.hid (HA.out.ext E2)
 have M2 := Lib.hid (HM.out.trans (Mv.of_ext (L := L) E2))
 have d0 := A2.out.c.1
 unfold V.ptr at d0
 clear e1 Ew2 Aw2 ST c0 HA HM
 go_wp2_with fail
 refine (WR.out w2 A2.out.rep M2.out).mono ?_
 rintro e w3 ⟨rfl, r3, t3⟩
 have F := Lib.hid (show StgF R w0 w3 sb ab g v l L0 (n + 2) d ids con from ⟨_, _, L, A2.out.st r3 t3, M2.out.trans (Mv.of_st t3), HW.out.1, HW.out.2⟩)
 clear r3 t3 WR A2 M2 d0
 go_wp2
 go_ret
 exact ⟨rfl, F.out⟩

theorem V.tot_updn (con : Nat → List Int) (j : Nat) (y : List Int) : ∀ n, n ≤ j → V.tot (V.upd con j y) n = V.tot con n
 | 0, _ => rfl
 | n + 1, h => by
  show V.tot (V.upd con j y) n + (V.upd con j y n).length = V.tot con n + (con n).length
  rw [V.tot_updn con j y n (by omega), V.upd_other _ _ _ _ (by omega)]
theorem V.tot_upd (con : Nat → List Int) (j : Nat) (y : List Int) : V.tot (V.upd con j y) j = V.tot con j := V.tot_updn con j y j (Nat.le_refl _)

set_option maxRecDepth 100000 in
set_option maxHeartbeats 8000000 in
theorem put_newF {R : Int} {w0 w : World} {sb ab g : Nat} {v : Value} {l : List RV} {L0 : Nat → Option V.Role} {n d : Nat} {ids : List Nat} {con : Nat → List Int} (h : StgF R w0 w sb ab g v l L0 n d ids con) (hl : ids.length < 3) (hn : n ≤ 8000)
  {vb : Value} {x : List Int} {ad : Option Addr} {cap bb o : Nat} (hb : Byb L0 ab w0 vb x ad cap bb o) (hx : x.length ≤ 65536) (hroom : (V.tot con ids.length : Int) + x.length ≤ R) :
  Calls Tryz.prog 79 #[V.ptr ab, .string (cpT ids.length), vb] w fun e w' => e = .returned (.int .i64 0) ∧ ∃ a, StgF R w0 w' sb ab g v l L0 (n + 3) d (ids ++ [a]) (V.upd con ids.length x) := by
 obtain ⟨S, W, L, A, M, MD, CN⟩ := h
 obtain ⟨j, hj⟩ : ∃ j, j = ids.length := ⟨_, rfl⟩
 have HJ := Lib.hid hj
 have lk : V.look S.names (cpT j).toList = none := by rw [cpT_list, MD.names, V.look_cp d ids MD.few j (by omega) (by omega), hj, List.getElem?_eq_none (Nat.le_refl _)]
 have fit := MD.fit (by omega)
 have be : S.begE [(cpT j).toList] = 0 := by rw [cpT_list]; exact MD.begE _ (V.valid_cp j)
 have nl : S.names.length ≤ 1000000 := by have := fit.names; omega
 have ST := Lib.hid (fun w1 (r : V.Rep w1 sb S W L) => V.stat_none sb S W L (cpT j) w1 r nl lk)
 have tk : V.takes S.names (V.kinds S) (cpT j).toList = 0 := by rw [cpT_list, hj]; exact MD.takes hl
 have pl : V.place S.names (cpT j).toList = S.names.length := by rw [cpT_list, hj]; exact MD.placed hl
 have CR := Lib.hid (fun w1 (r : V.Rep w1 sb S W L) => V.create_of sb (cpT j) 0 w1 (V.add_ok sb S W L (cpT j) 1 w1 r fit be tk pl))
 have MK := Lib.hid (fun a (ha : a ∉ S.ids) => (show V.Mq R (S.beg.made a (cpT j).toList 1) (n + 1) d (ids ++ [a]) ∧ V.Con (S.beg.made a (cpT j).toList 1) (ids ++ [a]) (V.upd con ids.length []) by
  rw [cpT_list, hj]; exact ⟨MD.made (by omega) a ha hl, MD.madeC CN a ha⟩))
 have HA := Lib.hid A
 have HM := Lib.hid M
 have c0 := A.c.1
 have HB := Lib.hid hb
 have ev := hb.bin.val
 obtain ⟨X, hX⟩ : ∃ X, X = x.length := ⟨_, rfl⟩
 have HX := Lib.hid hx
 have HRM := Lib.hid (show (V.tot con j : Int) + x.length ≤ R by rw [hj]; exact hroom)
 rw [← hX] at ev
 rw [← hj] at hl ⊢
 clear A M MD CN lk fit be nl tk pl hb hX hj hx hroom
 subst ev
 unfold V.ptr at c0 ST CR ⊢
 unfold V.zstat at ST
 go_enter Tryz.func79, Tryz.ntmps79
 go_wp2_with fail
 refine (ST.out w HA.out.rep).mono ?_
 rintro e w1 ⟨rfl, e1⟩
 have eaw2 : Ext w1 (w1.alloc (.cells #[.string ⟨#[]⟩, .int .i64 0, .int .i64 0, .int .i64 0, .int .u64 0] 40)) := Ext.alloc w1 _
 have aaw2 := At.new w1 #[.string ⟨#[]⟩, .int .i64 0, .int .i64 0, .int .i64 0, .int .u64 0] 40
 have onew2 : (#[.string ⟨#[]⟩, .int .i64 0, .int .i64 0, .int .i64 0, .int .u64 0] : Array Value).all (·.oneCell') = true := by simp [Value.oneCell']
 have szw2 : (Tryz.prog.info? 40).map (·.size) = some (#[.string ⟨#[]⟩, .int .i64 0, .int .i64 0, .int .i64 0, .int .u64 0] : Array Value).size := szStat
 have Ew2 := ext_only' eaw2 (Only.setRow w1.heap.size _ #[.string ⟨#[]⟩, .int .i64 0, .int .i64 0, .int .i64 0, .int .u64 0]) (Nat.le_refl _)
 have Aw2 : At ((w1.alloc (.cells #[.string ⟨#[]⟩, .int .i64 0, .int .i64 0, .int .i64 0, .int .u64 0] 40)).setRow w1.heap.size #[.string ⟨#[]⟩, .int .i64 0, .int .i64 0, .int .i64 0, .int .u64 0]) w1.heap.size #[.string ⟨#[]⟩, .int .i64 0, .int .i64 0, .int .i64 0, .int .u64 0] 40 := aaw2.row _
 go_upto_region 2 with (refine wpList_store_row rfl 40 _ _ rfl w1.heap.size _ rfl rfl 40 _ aaw2 szw2 rfl onew2 ?_)
 clear eaw2 aaw2 szw2 onew2
 generalize (w1.alloc (.cells #[.string ⟨#[]⟩, .int .i64 0, .int .i64 0, .int .i64 0, .int .u64 0] 40)).setRow w1.heap.size #[.string ⟨#[]⟩, .int .i64 0, .int .i64 0, .int .i64 0, .int .u64 0] = w2 at *
 have E2 : Ext w w2 := (ext_v e1).trans Ew2
 have A2 := Lib.hid (HA.out.ext E2)
 have M2 := Lib.hid (HM.out.trans (Mv.of_ext (L := L) E2))
 have d0 := A2.out.c.1
 unfold V.ptr at d0
 clear e1 Ew2 Aw2 ST c0 HA HM
 go_wp2_with fail
 refine (CR.out w2 A2.out.rep).mono ?_
 rintro e w3 ⟨rfl, a, W3, L3, ha, r3, t3⟩
 have A3 := Lib.hid (A2.out.st r3 t3)
 have M3 := Lib.hid (M2.out.trans (Mv.of_st t3))
 have d3 := A3.out.c.1
 unfold V.ptr at d3
 have MK3 := Lib.hid (MK.out a ha)
 clear r3 t3 CR A2 M2 d0 MK ha
 have ia : (ids ++ [a])[j]? = some a := by rw [HJ.out]; simp
 have hcj : (V.upd con j []) j = [] := V.upd_same _ _ _
 have WO := Lib.hid (MK3.out.1.wrote (j := j) (a := a) (x := x) (by have := MK3.out.2; rw [← HJ.out] at this; exact this) ia HX.out)
 rw [hcj, List.drop_nil, List.append_nil] at WO
 have LEN := Lib.hid (show (V.used (S.beg.made a (cpT j).toList 1).nd (S.beg.made a (cpT j).toList 1).names) = V.tot con j ∧ ((S.beg.made a (cpT j).toList 1).nd a).now = [] ∧ (S.beg.made a (cpT j).toList 1).room = R from by
  have c := MK3.out.2
  rw [← HJ.out] at c
  have u := MK3.out.1.used (con := V.upd con j []) c
  refine ⟨?_, ?_, MK3.out.1.room⟩
  ·rw [u, List.length_append, List.length_singleton, ← HJ.out]
   show V.tot (V.upd con j []) j + (V.upd con j [] j).length = _
   rw [V.upd_same, V.tot_upd]; rfl
  ·have := c j a ia
   rw [V.upd_same] at this
   exact this)
 have WR := Lib.hid (V.write_ok sb _ W3 L3 (cpT j) 0 x _ ad cap bb o a w3 A3.out.rep (MK3.out.1.fit (by omega)) (by have := MK3.out.1.begE _ (V.valid_cp j); rw [← cpT_list j] at this; exact this) (by have := MK3.out.1.filea j a hl ia; rw [← cpT_list j] at this; exact this) (HB.out.b M3.out) (HB.out.l M3.out) HB.out.byt (by have := HX.out; omega) (by rw [LEN.out.1, LEN.out.2.1, LEN.out.2.2]; have := HRM.out; simp only [List.length_nil]; omega))
 unfold V.ptr at WR
 clear ia hcj
 go_wp2_with fail
 refine (WR.out).mono ?_
 rintro e w4 ⟨rfl, W4, L4, r4, t4⟩
 have F := Lib.hid (show StgF R w0 w4 sb ab g v l L0 (n + 3) d (ids ++ [a]) (V.upd con j x) from ⟨_, _, L4, A3.out.st r4 t4, M3.out.trans (Mv.of_st t4), WO.out.1, by
  have := WO.out.2
  intro i b hb
  rw [this i b hb]
  unfold V.upd; split <;> rfl⟩)
 clear r4 t4 WR LEN HRM A3 M3 d3 WO MK3
 go_wp2
 go_ret
 exact ⟨rfl, a, F.out⟩

set_option maxHeartbeats 2000000 in
theorem or_two (w : World) (g : Nat) (y : Int) (h : At w g #[.int .i64 0, .int .i64 y] 30) (hy : y ≠ 0) : Calls Tryz.prog 107 #[.slice (some ⟨g, 0, none⟩) 2 2] w fun e w' => e = .returned (.int .i64 y) ∧ w = w' := by
 have c0 := h.cell 0
 have c1 := h.cell 1
 have hy0 : (y != 0) = true := by simpa using hy
 clear h
 go_enter Tryz.func107, Tryz.ntmps107
 go_wp2
 go_loopw [8] (fun i wr => (i = .int .i64 0 ∨ i = .int .i64 1) ∧ wr = w) (fun i _ => 2 - (intOf i).toNat)
 case atStart => exact ⟨Or.inl rfl, rfl⟩
 case round =>
  obtain ⟨rfl | rfl, rfl⟩ := hrel
  ·go_wp2
   exact ⟨⟨Or.inr rfl, trivial⟩, by simp [intOf]⟩
  ·go_wp2
   go_ret
   exact ⟨rfl, rfl⟩

set_option maxRecDepth 100000 in
set_option maxHeartbeats 8000000 in
theorem put_newX {R : Int} {w0 w : World} {sb ab g : Nat} {v : Value} {l : List RV} {L0 : Nat → Option V.Role} {n d : Nat} {ids : List Nat} {con : Nat → List Int} (h : StgF R w0 w sb ab g v l L0 n d ids con) (hl : ids.length < 3) (hn : n ≤ 8000)
  {vb : Value} {x : List Int} {ad : Option Addr} {cap bb o : Nat} (hb : Byb L0 ab w0 vb x ad cap bb o) (hx : x.length ≤ 65536) (hroom : (V.tot con ids.length : Int) + x.length ≤ R → False) (h0 : ids = []) :
  Calls Tryz.prog 79 #[V.ptr ab, .string (cpT ids.length), vb] w fun e w' => e = .returned (.int .i64 4) ∧ StgF R w0 w' sb ab g v l L0 (n + 3) d ids con := by
 obtain ⟨S, W, L, A, M, MD, CN⟩ := h
 obtain ⟨j, hj⟩ : ∃ j, j = ids.length := ⟨_, rfl⟩
 have HJ := Lib.hid hj
 have lk : V.look S.names (cpT j).toList = none := by rw [cpT_list, MD.names, V.look_cp d ids MD.few j (by omega) (by omega), hj, List.getElem?_eq_none (Nat.le_refl _)]
 have fit := MD.fit (by omega)
 have be : S.begE [(cpT j).toList] = 0 := by rw [cpT_list]; exact MD.begE _ (V.valid_cp j)
 have nl : S.names.length ≤ 1000000 := by have := fit.names; omega
 have ST := Lib.hid (fun w1 (r : V.Rep w1 sb S W L) => V.stat_none sb S W L (cpT j) w1 r nl lk)
 have tk : V.takes S.names (V.kinds S) (cpT j).toList = 0 := by rw [cpT_list, hj]; exact MD.takes hl
 have pl : V.place S.names (cpT j).toList = S.names.length := by rw [cpT_list, hj]; exact MD.placed hl
 have CR := Lib.hid (fun w1 (r : V.Rep w1 sb S W L) => V.create_of sb (cpT j) 0 w1 (V.add_ok sb S W L (cpT j) 1 w1 r fit be tk pl))
 have MK := Lib.hid (fun a (ha : a ∉ S.ids) => (show V.Mq R (S.beg.made a (cpT j).toList 1) (n + 1) d (ids ++ [a]) ∧ V.Con (S.beg.made a (cpT j).toList 1) (ids ++ [a]) (V.upd con ids.length []) by
  rw [cpT_list, hj]; exact ⟨MD.made (by omega) a ha hl, MD.madeC CN a ha⟩))
 have HA := Lib.hid A
 have HM := Lib.hid M
 have c0 := A.c.1
 have HB := Lib.hid hb
 have ev := hb.bin.val
 obtain ⟨X, hX⟩ : ∃ X, X = x.length := ⟨_, rfl⟩
 have HX := Lib.hid hx
 have HRM := Lib.hid (show (V.tot con j : Int) + x.length ≤ R → False by rw [hj]; exact hroom)
 have H0 := Lib.hid h0
 rw [← hX] at ev
 rw [← hj] at hl ⊢
 clear A M MD CN lk fit be nl tk pl hb hX hj hx hroom h0
 subst ev
 unfold V.ptr at c0 ST CR ⊢
 unfold V.zstat at ST
 go_enter Tryz.func79, Tryz.ntmps79
 go_wp2_with fail
 refine (ST.out w HA.out.rep).mono ?_
 rintro e w1 ⟨rfl, e1⟩
 have eaw2 : Ext w1 (w1.alloc (.cells #[.string ⟨#[]⟩, .int .i64 0, .int .i64 0, .int .i64 0, .int .u64 0] 40)) := Ext.alloc w1 _
 have aaw2 := At.new w1 #[.string ⟨#[]⟩, .int .i64 0, .int .i64 0, .int .i64 0, .int .u64 0] 40
 have onew2 : (#[.string ⟨#[]⟩, .int .i64 0, .int .i64 0, .int .i64 0, .int .u64 0] : Array Value).all (·.oneCell') = true := by simp [Value.oneCell']
 have szw2 : (Tryz.prog.info? 40).map (·.size) = some (#[.string ⟨#[]⟩, .int .i64 0, .int .i64 0, .int .i64 0, .int .u64 0] : Array Value).size := szStat
 have Ew2 := ext_only' eaw2 (Only.setRow w1.heap.size _ #[.string ⟨#[]⟩, .int .i64 0, .int .i64 0, .int .i64 0, .int .u64 0]) (Nat.le_refl _)
 have Aw2 : At ((w1.alloc (.cells #[.string ⟨#[]⟩, .int .i64 0, .int .i64 0, .int .i64 0, .int .u64 0] 40)).setRow w1.heap.size #[.string ⟨#[]⟩, .int .i64 0, .int .i64 0, .int .i64 0, .int .u64 0]) w1.heap.size #[.string ⟨#[]⟩, .int .i64 0, .int .i64 0, .int .i64 0, .int .u64 0] 40 := aaw2.row _
 go_upto_region 2 with (refine wpList_store_row rfl 40 _ _ rfl w1.heap.size _ rfl rfl 40 _ aaw2 szw2 rfl onew2 ?_)
 clear eaw2 aaw2 szw2 onew2
 generalize (w1.alloc (.cells #[.string ⟨#[]⟩, .int .i64 0, .int .i64 0, .int .i64 0, .int .u64 0] 40)).setRow w1.heap.size #[.string ⟨#[]⟩, .int .i64 0, .int .i64 0, .int .i64 0, .int .u64 0] = w2 at *
 have E2 : Ext w w2 := (ext_v e1).trans Ew2
 have A2 := Lib.hid (HA.out.ext E2)
 have M2 := Lib.hid (HM.out.trans (Mv.of_ext (L := L) E2))
 have d0 := A2.out.c.1
 unfold V.ptr at d0
 clear e1 Ew2 Aw2 ST c0 HA HM
 go_wp2_with fail
 refine (CR.out w2 A2.out.rep).mono ?_
 rintro e w3 ⟨rfl, a, W3, L3, ha, r3, t3⟩
 have A3 := Lib.hid (A2.out.st r3 t3)
 have M3 := Lib.hid (M2.out.trans (Mv.of_st t3))
 have d3 := A3.out.c.1
 unfold V.ptr at d3
 have MK3 := Lib.hid (MK.out a ha)
 clear r3 t3 CR A2 M2 d0 MK ha
 have ia : (ids ++ [a])[j]? = some a := by rw [HJ.out]; simp
 have hcj : (V.upd con j []) j = [] := V.upd_same _ _ _
 have LEN := Lib.hid (show (V.used (S.beg.made a (cpT j).toList 1).nd (S.beg.made a (cpT j).toList 1).names) = V.tot con j ∧ ((S.beg.made a (cpT j).toList 1).nd a).now = [] ∧ (S.beg.made a (cpT j).toList 1).room = R from by
  have c := MK3.out.2
  rw [← HJ.out] at c
  have u := MK3.out.1.used (con := V.upd con j []) c
  refine ⟨?_, ?_, MK3.out.1.room⟩
  ·rw [u, List.length_append, List.length_singleton, ← HJ.out]
   show V.tot (V.upd con j []) j + (V.upd con j [] j).length = _
   rw [V.upd_same, V.tot_upd]; rfl
  ·have := c j a ia
   rw [V.upd_same] at this
   exact this)
 have WR := Lib.hid (V.write_full sb _ W3 L3 (cpT j) 0 x _ ad cap bb o a w3 A3.out.rep (MK3.out.1.fit (by omega)) (by have := MK3.out.1.begE _ (V.valid_cp j); rw [← cpT_list j] at this; exact this) (by have := MK3.out.1.filea j a hl ia; rw [← cpT_list j] at this; exact this) (HB.out.b M3.out) (HB.out.l M3.out) HB.out.byt (by have := HX.out; omega) (by rw [LEN.out.1, LEN.out.2.1, LEN.out.2.2]; simp only [List.length_nil]; intro q; exact HRM.out (by omega)))
 unfold V.ptr at WR
 clear ia hcj
 go_wp2_with fail
 refine (WR.out).mono ?_
 rintro e w4 ⟨rfl, r4, t4⟩
 have A4 := Lib.hid (A3.out.st r4 t4)
 have M4 := Lib.hid (M3.out.trans (Mv.of_st t4))
 have MK4 := Lib.hid (MK3.out.1.beg)
 have d4 := A4.out.c.1
 unfold V.ptr at d4
 have J0 := Lib.hid (show j = 0 by rw [HJ.out, H0.out]; rfl)
 have RM := Lib.hid (V.remove_ok sb _ W3 L3 (cpT j) w4 A4.out.rep (MK4.out.fit (by omega)) (by have := MK4.out.begE _ (V.valid_cp j); rw [← cpT_list j] at this; exact this) (by rw [cpT_list]; exact beq_eq_false_iff_ne.2 (valid_ne (V.valid_cp j))) (by
  have m := MK4.out.names
  rw [H0.out, List.nil_append] at m
  rw [m, cpT_list, J0.out, (V.rung_one d a).1]; rfl))
 unfold V.ptr at RM
 clear r4 t4 WR LEN HRM A3 M3 d3
 go_wp2_with fail
 refine (RM.out).mono ?_
 rintro e w5 ⟨rfl, W5, L5, r5, t5⟩
 have a5 := At.new w5 #[.int .i64 0, .int .i64 4] 30
 have OT := Lib.hid (or_two _ _ 4 a5 (by decide))
 have F := Lib.hid (show StgF R w0 w5 sb ab g v l L0 (n + 3) d [] con from ⟨_, _, L5, A4.out.st r5 t5, M4.out.trans (Mv.of_st t5), by
  rw [cpT_list, J0.out]
  have m := MK4.out
  rw [H0.out, List.nil_append] at m
  have := m.gone (by omega)
  rw [cpT_list, J0.out] at this
  exact this, fun i b hb => by simp at hb⟩)
 clear r5 t5 RM A4 M4 MK4 MK3 d4 a5
 go_wp2_with fail
 refine (OT.out).mono ?_
 rintro e w6 ⟨rfl, rfl⟩
 have F2 := Lib.hid (F.out.ext (Ext.alloc w5 (.cells #[.int .i64 0, .int .i64 4] 30)))
 clear OT F
 go_wp2
 go_ret
 exact ⟨rfl, by rw [H0.out]; exact F2.out⟩

def lenC (ids : List Nat) (con : Nat → List Int) (j : Nat) : Nat := if j < ids.length then (con j).length else 0
def roomK (size m1 m2 : Nat) : Nat → Nat
 | 0 => size
 | 1 => size
 | 2 => size + m1
 | _ => size + m1 + m2
theorem stat_cpF {R : Int} {sb n d : Nat} {S : V.SV} {W : V.SW} {L : Nat → Option V.Role} {ids js : List Nat} {con : Nat → List Int} (MD : V.Mq R S n d ids) (CN : V.Con S ids con) (hA : Ask ids js) (j : Nat) (hj : j < 3) (hn : n ≤ 8000) (w : World) (r : V.Rep w sb S W L) :
  Calls Tryz.prog 16 #[V.ptr sb, .string (cpT j)] w fun e w' => (∃ q0 q1 q3 q4 q5, e = .returned (.tuple #[.agg #[.string q0, .int .i64 q1, .int .i64 (lenC ids con j : Int), .int .i64 q3, .int .u64 q4], .int .i64 q5]) ∧ (q1 == 2) = false) ∧ Ext w w' := by
 have nl : S.names.length ≤ 1000000 := by have := (MD.fit (by omega)).names; omega
 have lk : V.look S.names (cpT j).toList = ids[j]? := by rw [cpT_list, MD.names, hA.look d j hj]
 unfold lenC
 cases e : ids[j]? with
 | none =>
  have hl : ¬ j < ids.length := by have := List.getElem?_eq_none_iff.1 e; omega
  rw [if_neg hl]
  refine (V.stat_none sb S W L (cpT j) w r nl (lk.trans e)).mono fun e w' ⟨h1, h2⟩ => ⟨⟨_, _, _, _, _, h1, rfl⟩, ext_v h2⟩
 | some a =>
  have ha := List.mem_of_getElem? e
  have hl : j < ids.length := (List.getElem?_eq_some_iff.1 e).1
  rw [if_pos hl]
  refine (V.stat_some sb S W L (cpT j) a w r nl (lk.trans e)).mono fun e' w' ⟨h1, h2⟩ => ⟨⟨V.tx (cpT j).toList, (S.nd a).kind, (S.nd a).mt, (S.nd a).stamp, 0, h1.trans (by unfold V.statC; rw [CN j a e]), ?_⟩, ext_v h2⟩
  rw [MD.kf a ha]; rfl
def InvRq (w : World) (size m1 m2 n : Nat) (r i : Value) (wr : World) : Prop := ∃ (k : Nat), k ≤ n ∧ i = .int .i64 k ∧ r = .int .i64 (roomK size m1 m2 k : Int) ∧ Ext w wr
set_option maxRecDepth 100000 in
set_option maxHeartbeats 8000000 in
theorem roomForF {R : Int} {w : World} {sb ab g : Nat} {v : Value} {l : List RV} {S : V.SV} {W : V.SW} {L : Nat → Option V.Role} {n d : Nat} {ids : List Nat} {con : Nat → List Int} (A : Arc w sb ab S W L g v l) (MD : V.Mq R S n d ids) (CN : V.Con S ids con) (hA : Ask ids [0, 1, 2]) (hn : n ≤ 8000)
  (size : Nat) (hs : size ≤ 20000) {cl : Value} {ad : Option Addr} {cap b o : Nat} (hc : Cps w cl [0, 1, 2] ad cap b o) :
  Calls Tryz.prog 57 #[V.ptr ab, cl, .int .i64 (size : Int)] w fun e w' => e = .returned (.tuple #[.int .i64 (((size + (size - lenC ids con 1) + (size - lenC ids con 2)) : Nat) : Int), .int .i64 0]) ∧ Ext w w' := by
 have ev := hc.val
 have ST := Lib.hid (fun j (hj : j < 3) w1 (r : V.Rep w1 sb S W L) => stat_cpF MD CN hA j hj hn w1 r)
 have HAR := Lib.hid A
 have HC := Lib.hid hc
 have HLE := Lib.hid (fun k => (show lenC ids con k ≤ 65536 by
  unfold lenC
  split
  ·rename_i hl
   obtain ⟨a, ha⟩ : ∃ a, ids[k]? = some a := ⟨_, List.getElem?_eq_getElem hl⟩
   rw [← CN k a ha]; exact MD.lens a (List.mem_of_getElem? ha)
  ·omega))
 obtain ⟨m1, hm1⟩ : ∃ m, m = size - lenC ids con 1 := ⟨_, rfl⟩
 obtain ⟨m2, hm2⟩ : ∃ m, m = size - lenC ids con 2 := ⟨_, rfl⟩
 rw [← hm1, ← hm2]
 have HM := Lib.hid (And.intro hm1 hm2)
 have hb1 : m1 ≤ size := by omega
 have hb2 : m2 ≤ size := by omega
 simp only [List.length_cons, List.length_nil] at ev
 subst ev
 clear A MD CN hA hc hm1 hm2
 unfold V.ptr at ST ⊢
 go_enter Tryz.func57, Tryz.ntmps57
 go_wp2
 go_loopw [8, 16] (fun r i wr => InvRq w size m1 m2 3 r i wr) (fun _ i _ => 3 - (intOf i).toNat)
 case atStart => exact ⟨0, by omega, rfl, rfl, Ext.refl w⟩
 case round =>
  obtain ⟨k, hk, rfl, rfl, ex⟩ := hrel
  by_cases hlt : k < 3
  ·have i0 : (k : Int) < 3 := by omega
   have i1 : (0 : Int) ≤ (k : Int) := by omega
   have ea := HC.out.adr (by simp)
   have hj : ([0, 1, 2] : List Nat)[k]? = some k := by
    match k, hlt with
    | 0, _ => rfl
    | 1, _ => rfl
    | 2, _ => rfl
   have cj := ext_cell ex (HC.out.cell k k hj)
   have cs := ext_cell ex HAR.out.c.1
   have ST2 := Lib.hid (ST.out k hlt wr (HAR.out.rep.ext ex))
   subst ea
   unfold V.ptr at cs
   clear hj
   obtain ⟨LC, hLC⟩ : ∃ n, n = lenC ids con k := ⟨_, rfl⟩
   rw [← hLC] at ST2
   have HLC := Lib.hid hLC
   have HLB := Lib.hid (show LC ≤ 65536 by rw [hLC]; exact HLE.out k)
   clear hLC
   go_wp2_with fail
   refine (ST2.out).mono ?_
   rintro e w1 ⟨⟨q0, q1, q3, q4, q5, rfl, hq1⟩, e1⟩
   have ea : Ext w1 (w1.alloc (.cells #[.string ⟨#[]⟩, .int .i64 0, .int .i64 0, .int .i64 0, .int .u64 0] 40)) := Ext.alloc w1 _
   have aa := At.new w1 #[.string ⟨#[]⟩, .int .i64 0, .int .i64 0, .int .i64 0, .int .u64 0] 40
   have one : (#[.string q0, .int .i64 q1, .int .i64 (LC : Int), .int .i64 q3, .int .u64 q4] : Array Value).all (·.oneCell') = true := by simp [Value.oneCell']
   have sz : (Tryz.prog.info? 40).map (·.size) = some (#[.string q0, .int .i64 q1, .int .i64 (LC : Int), .int .i64 q3, .int .u64 q4] : Array Value).size := szStat
   have E2 := ext_only' ea (Only.setRow w1.heap.size _ #[.string q0, .int .i64 q1, .int .i64 (LC : Int), .int .i64 q3, .int .u64 q4]) (Nat.le_refl _)
   have A2 : At ((w1.alloc (.cells #[.string ⟨#[]⟩, .int .i64 0, .int .i64 0, .int .i64 0, .int .u64 0] 40)).setRow w1.heap.size #[.string q0, .int .i64 q1, .int .i64 (LC : Int), .int .i64 q3, .int .u64 q4]) w1.heap.size #[.string q0, .int .i64 q1, .int .i64 (LC : Int), .int .i64 q3, .int .u64 q4] 40 := aa.row _
   go_upto_region 6 with (refine wpList_store_row rfl 40 _ _ rfl w1.heap.size _ rfl rfl 40 _ aa sz rfl one ?_)
   clear ea aa sz one cs cj
   generalize (w1.alloc (.cells #[.string ⟨#[]⟩, .int .i64 0, .int .i64 0, .int .i64 0, .int .u64 0] 40)).setRow w1.heap.size #[.string q0, .int .i64 q1, .int .i64 (LC : Int), .int .i64 q3, .int .u64 q4] = w2 at *
   obtain ⟨g2, hg2⟩ : ∃ g, g = w1.heap.size := ⟨_, rfl⟩
   rw [← hg2] at A2 ⊢
   clear hg2
   have EX := Lib.hid ((ex.trans e1).trans E2)
   have f1 := A2.cell 1
   have f2 := A2.cell 2
   clear ex e1 E2 A2 ST2
   obtain hk0 | hk0 | hk0 : k = 0 ∨ k = 1 ∨ k = 2 := by omega
   ·subst hk0
    clear hk hlt i0 i1
    go_wp2
    exact ⟨⟨1, by omega, rfl, rfl, EX.out⟩, by simp [intOf]⟩
   ·subst hk0
    have hmx : max 0 ((size : Int) - (LC : Int)) = (m1 : Int) := by have := HM.out.1; rw [← HLC.out] at this; omega
    have wx : IntKind.i64.wrap (((roomK size m1 m2 1 : Nat) : Int) + (m1 : Int)) = ((roomK size m1 m2 2 : Nat) : Int) := (IntWalk.i64_in _ (by simp only [roomK]; omega)).trans (by simp only [roomK]; omega)
    have wy : IntKind.i64.wrap ((size : Int) - (LC : Int)) = (size : Int) - (LC : Int) := IntWalk.i64_in _ (by have := HLB.out; omega)
    clear hk hlt i0 i1
    go_wp2
    exact ⟨⟨2, by omega, rfl, by first | rw [hmx, wx] | exact congrArg _ wx | rfl, EX.out⟩, by simp [intOf]⟩
   ·subst hk0
    have hmx : max 0 ((size : Int) - (LC : Int)) = (m2 : Int) := by have := HM.out.2; rw [← HLC.out] at this; omega
    have wx : IntKind.i64.wrap (((roomK size m1 m2 2 : Nat) : Int) + (m2 : Int)) = ((roomK size m1 m2 3 : Nat) : Int) := (IntWalk.i64_in _ (by simp only [roomK]; omega)).trans (by simp only [roomK]; omega)
    have wy : IntKind.i64.wrap ((size : Int) - (LC : Int)) = (size : Int) - (LC : Int) := IntWalk.i64_in _ (by have := HLB.out; omega)
    clear hk hlt i0 i1
    go_wp2
    exact ⟨⟨3, by omega, rfl, by first | rw [hmx, wx] | exact congrArg _ wx | rfl, EX.out⟩, by simp [intOf]⟩
  ·have EX := Lib.hid ex
   obtain rfl : k = 3 := by omega
   clear hlt ex
   go_wp2
   go_ret2
   exact ⟨rfl, EX.out⟩

theorem sd_anyF {R : Int} {w0 w : World} {sb ab g : Nat} {v : Value} {l : List RV} {L0 : Nat → Option V.Role} {n d : Nat} {ids : List Nat} {con : Nat → List Int} (h : StgF R w0 w sb ab g v l L0 n d ids con) (hn : n ≤ 8000) :
  Calls Tryz.prog 84 #[V.ptr sb] w fun e w' => e = .returned (.int .i64 0) ∧ StgF R w0 w' sb ab g v l L0 (n + 1) d ids con := by
 obtain ⟨S, W, L, A, M, MD, CN⟩ := h
 exact (V.syncdir_ok sb S W L w A.rep (MD.fit (by omega)) MD.sound MD.begN).mono fun e w' ⟨h1, W', L', r, t⟩ => ⟨h1, _, W', L', A.st r t, M.trans (Mv.of_st t), MD.safe, MD.safeC CN _⟩

theorem tr_anyF {R : Int} {w0 w : World} {sb ab g : Nat} {v : Value} {l : List RV} {L0 : Nat → Option V.Role} {n d : Nat} {ids : List Nat} {con : Nat → List Int} (h : StgF R w0 w sb ab g v l L0 n d ids con) (hn : n ≤ 8000) (j : Nat) (hj : j < ids.length) (size : Nat) (hs : size ≤ (con j).length) :
  Calls Tryz.prog 81 #[V.ptr sb, .string (cpT j), .int .i64 (size : Int)] w fun e w' => e = .returned (.int .i64 0) ∧ StgF R w0 w' sb ab g v l L0 (n + 2) d ids (V.upd con j ((con j).take size)) := by
 obtain ⟨S, W, L, A, M, MD, CN⟩ := h
 obtain ⟨a, ha⟩ : ∃ a, ids[j]? = some a := ⟨_, List.getElem?_eq_getElem hj⟩
 have hj3 : j < 3 := by have := MD.few; omega
 have ff : S.file (cpT j).toList = (some a, 0) := by rw [cpT_list]; exact MD.filea j a hj3 ha
 have be : S.begE [(cpT j).toList] = 0 := by rw [cpT_list]; exact MD.begE _ (V.valid_cp j)
 have t := MD.trunc CN ha hs
 exact (V.trunc_ok sb S W L (cpT j) a size w A.rep (MD.fit (by omega)) be ff (by rw [CN j a ha]; exact hs)).mono fun e w' ⟨h1, W', L', r, s⟩ => ⟨h1, _, W', L', A.st r s, M.trans (Mv.of_st s), t.1, t.2⟩

theorem sy_anyF {R : Int} {w0 w : World} {sb ab g : Nat} {v : Value} {l : List RV} {L0 : Nat → Option V.Role} {n d : Nat} {ids : List Nat} {con : Nat → List Int} (h : StgF R w0 w sb ab g v l L0 n d ids con) (hn : n ≤ 8000) (j : Nat) (hj : j < ids.length) :
  Calls Tryz.prog 83 #[V.ptr sb, .string (cpT j)] w fun e w' => e = .returned (.int .i64 0) ∧ StgF R w0 w' sb ab g v l L0 (n + 2) d ids con := by
 obtain ⟨S, W, L, A, M, MD, CN⟩ := h
 obtain ⟨a, ha⟩ : ∃ a, ids[j]? = some a := ⟨_, List.getElem?_eq_getElem hj⟩
 have hj3 : j < 3 := by have := MD.few; omega
 have ff : S.file (cpT j).toList = (some a, 0) := by rw [cpT_list]; exact MD.filea j a hj3 ha
 have be : S.begE [(cpT j).toList] = 0 := by rw [cpT_list]; exact MD.begE _ (V.valid_cp j)
 have t := MD.synced CN ha
 exact (V.sync_ok sb S W L (cpT j) a w A.rep (MD.fit (by omega)) be ff).mono fun e w' ⟨h1, W', L', r, s⟩ => ⟨h1, _, W', L', A.st r s, M.trans (Mv.of_st s), t.1, t.2⟩


end Go.Proofs.YtnhokjnmpdiokaaGreatDoor

namespace Go.Proofs.YtnhokjnmpdiokaaGreatDoor
open Go.RowKit Go.Sha Go.Pth
set_option linter.unusedSimpArgs false
set_option linter.unusedVariables false

def StageF (R : Int) (c : Cx) (w : World) : Nat → Prop
 | 0 => StgF R c.wa w c.sb c.ab c.g c.v c.l c.L c.n c.d c.ids c.con
 | 1 => ∃ ids1 y, StgF R c.wa w c.sb c.ab c.g c.v c.l c.L (c.n + 3) c.d ids1 (V.upd c.con c.j y) ∧ c.page.length ≤ y.length ∧ y.take c.page.length = c.page ∧ IdOk c.ids ids1 c.j
 | 2 => ∃ ids1, StgF R c.wa w c.sb c.ab c.g c.v c.l c.L (c.n + 5) c.d ids1 (V.upd c.con c.j c.page) ∧ IdOk c.ids ids1 c.j
 | 3 => ∃ ids1, StgF R c.wa w c.sb c.ab c.g c.v c.l c.L (c.n + 7) c.d ids1 (V.upd c.con c.j c.page) ∧ IdOk c.ids ids1 c.j
 | _ => ∃ ids1, StgF R c.wa w c.sb c.ab c.g c.v c.l c.L (c.n + 8) c.d ids1 (V.upd c.con c.j c.page) ∧ IdOk c.ids ids1 c.j
theorem StageF.cell {R : Int} {c : Cx} {w : World} {q : Nat} (h : StageF R c w q) {p : Addr} {u : Value} (hp : c.wa.cell? p = some u) (hx : ¬ XL c.L c.ab p.block) : w.cell? p = some u := by
 match q, h with
 | 0, h => exact StgF.cell h hp hx
 | 1, ⟨_, _, h, _⟩ => exact StgF.cell h hp hx
 | 2, ⟨_, h, _⟩ => exact StgF.cell h hp hx
 | 3, ⟨_, h, _⟩ => exact StgF.cell h hp hx
 | q + 4, ⟨_, h, _⟩ => exact StgF.cell h hp hx
theorem Rd.bxsF {R : Int} {c : Cx} {b0 b1 b2 b3 : Nat} {vb : Value} {x : List Int} {ad : Option Addr} {cap bb o : Nat} (r : Rd c b0 b1 b2 b3 vb x ad cap bb o) {w : World} {q : Nat} (h : StageF R c w q) : Bx w b0 b1 b2 b3 c.ab c.j vb c.page.length :=
 ⟨h.cell r.bx.c0 r.a0, h.cell r.bx.c1 r.a1, h.cell r.bx.c2 r.a2, h.cell r.bx.c3 r.a3⟩
def FitJ (R : Int) (ids : List Nat) (con : Nat → List Int) (j x : Nat) : Prop := (V.tot con ids.length : Int) + max 0 ((x : Int) - lenC ids con j) ≤ R

set_option maxRecDepth 100000 in
set_option maxHeartbeats 8000000 in
theorem act1v {R : World → Prop} (w : World) (b0 b1 b2 b3 ab j : Nat) (vb : Value) (size : Nat) (h : Bx w b0 b1 b2 b3 ab j vb size) (ad : Option Addr) (k cap : Nat) (ev : vb = .slice ad k cap)
  (hp : Calls Tryz.prog 79 #[V.ptr ab, .string (cpT j), vb] w fun e w' => e = .returned (.int .i64 4) ∧ R w') :
  Calls Tryz.prog 78 #[bx b0, bx b1, bx b2] w fun e w' => e = .returned (.int .i64 4) ∧ R w' := by
 obtain ⟨c0, c1, c2, c3⟩ := h
 subst ev
 unfold V.ptr at hp c0
 unfold bx
 go_enter Tryz.func78, Tryz.ntmps78
 go_wp2_with fail
 refine hp.mono ?_
 rintro e w1 ⟨rfl, r⟩
 have HR := Lib.hid r
 clear r hp
 go_wp2
 go_ret
 exact ⟨rfl, HR.out⟩

theorem st1F {R : Int} {c : Cx} {b0 b1 b2 b3 : Nat} {vb : Value} {x : List Int} {ad : Option Addr} {cap bb o : Nat} (r : Rd c b0 b1 b2 b3 vb x ad cap bb o) {w : World} (hn : c.n ≤ 7000) (hf : FitJ R c.ids c.con c.j x.length) (h : StageF R c w 0) :
  Calls Tryz.prog 78 #[bx b0, bx b1, bx b2] w fun e w' => e = .returned (.int .i64 0) ∧ StageF R c w' 1 := by
 refine act1 w b0 b1 b2 b3 c.ab c.j vb c.page.length (r.bxsF h) ad x.length cap r.byb.bin.val ?_
 have hn := hn
 by_cases hj : c.j < c.ids.length
 ·refine (put_oldF h c.j hj (by omega) r.byb r.len.2 (by unfold FitJ lenC at hf; rw [if_pos hj] at hf; exact hf)).mono fun e w' ⟨h1, h2⟩ => ⟨h1, c.ids, _, h2.up (by omega), ?_, ?_, Or.inl ⟨hj, rfl⟩⟩
  ·have := r.len.1
   simp only [List.length_append]; omega
  ·rw [List.take_append_of_le_length r.len.1]; exact r.tk
 ·have e : c.j = c.ids.length := by have := r.j.1; omega
  rw [e]
  refine (put_newF h (by have := r.j.2; omega) (by omega) r.byb r.len.2 (by unfold FitJ lenC at hf; rw [if_neg hj] at hf; omega)).mono fun e' w' ⟨h1, a, h2⟩ => ⟨h1, c.ids ++ [a], x, ?_, r.len.1, r.tk, Or.inr ⟨e, a, rfl⟩⟩
  rw [e]; exact h2

theorem st1X {R : Int} {c : Cx} {b0 b1 b2 b3 : Nat} {vb : Value} {x : List Int} {ad : Option Addr} {cap bb o : Nat} (r : Rd c b0 b1 b2 b3 vb x ad cap bb o) {w : World} (hn : c.n ≤ 7000) (hf : FitJ R c.ids c.con c.j x.length → False) (h0 : c.j < c.ids.length ∨ c.ids = []) (h : StageF R c w 0) :
  Calls Tryz.prog 78 #[bx b0, bx b1, bx b2] w fun e w' => e = .returned (.int .i64 4) ∧ StgF R c.wa w' c.sb c.ab c.g c.v c.l c.L (c.n + 3) c.d c.ids c.con := by
 refine act1v w b0 b1 b2 b3 c.ab c.j vb c.page.length (r.bxsF h) ad x.length cap r.byb.bin.val ?_
 by_cases hj : c.j < c.ids.length
 ·exact (put_oldX h c.j hj (by omega) r.byb r.len.2 (fun q => hf (by unfold FitJ lenC; rw [if_pos hj]; exact q))).mono fun e w' ⟨h1, h2⟩ => ⟨h1, h2.up (by omega)⟩
 ·have e : c.j = c.ids.length := by have := r.j.1; omega
  have h1 := h0.resolve_left hj
  rw [e]
  exact put_newX h (by have := r.j.2; omega) (by omega) r.byb r.len.2 (fun q => hf (by unfold FitJ lenC; rw [if_neg hj]; omega)) h1

theorem st2F {R : Int} {c : Cx} {b0 b1 b2 b3 : Nat} {vb : Value} {x : List Int} {ad : Option Addr} {cap bb o : Nat} (r : Rd c b0 b1 b2 b3 vb x ad cap bb o) {w : World} (hn : c.n ≤ 7000) (h : StageF R c w 1) :
  Calls Tryz.prog 80 #[bx b0, bx b1, bx b3] w fun e w' => e = .returned (.int .i64 0) ∧ StageF R c w' 2 := by
 have hb := r.bxsF h
 obtain ⟨ids1, y, hs, hl, ht, ho⟩ := h
 have hn := hn
 refine act2 w b0 b1 b2 b3 c.ab c.sb c.j vb c.page.length hb hs.sptr fun w1 e1 => ?_
 have ey : (V.upd c.con c.j y) c.j = y := V.upd_same _ _ _
 refine (tr_anyF (hs.ext e1) (by omega) c.j ho.lt c.page.length (by rw [ey]; exact hl)).mono fun e w' ⟨h1, h2⟩ => ⟨h1, ids1, ?_, ho⟩
 rw [ey, ht, V.upd_upd] at h2
 exact h2

theorem st3F {R : Int} {c : Cx} {b0 b1 b2 b3 : Nat} {vb : Value} {x : List Int} {ad : Option Addr} {cap bb o : Nat} (r : Rd c b0 b1 b2 b3 vb x ad cap bb o) {w : World} (hn : c.n ≤ 7000) (h : StageF R c w 2) :
  Calls Tryz.prog 82 #[bx b0, bx b1] w fun e w' => e = .returned (.int .i64 0) ∧ StageF R c w' 3 := by
 have hb := r.bxsF h
 obtain ⟨ids1, hs, ho⟩ := h
 have hn := hn
 refine act3 w b0 b1 b2 b3 c.ab c.sb c.j vb c.page.length hb hs.sptr fun w1 e1 => ?_
 exact (sy_anyF (hs.ext e1) (by omega) c.j ho.lt).mono fun e w' ⟨h1, h2⟩ => ⟨h1, ids1, h2, ho⟩

theorem st4F {R : Int} {c : Cx} {b0 b1 b2 b3 : Nat} {vb : Value} {x : List Int} {ad : Option Addr} {cap bb o : Nat} (r : Rd c b0 b1 b2 b3 vb x ad cap bb o) {w : World} (hn : c.n ≤ 7000) (h : StageF R c w 3) :
  Calls Tryz.prog 84 #[V.ptr c.sb] w fun e w' => e = .returned (.int .i64 0) ∧ StageF R c w' 4 := by
 obtain ⟨ids1, hs, ho⟩ := h
 have hn := hn
 exact (sd_anyF hs (by omega)).mono fun e w' ⟨h1, h2⟩ => ⟨h1, ids1, h2, ho⟩


def NxtF (L : Nat → Option V.Role) (ab : Nat) (w : World) (page : List Int) (len : Nat) (v : Value) : Prop := ∃ x ad cap bb o, Byb L ab w v x ad cap bb o ∧ page.length ≤ x.length ∧ x.length ≤ 65536 ∧ x.take page.length = page ∧ x.length = len
def InvWrF (R : Int) (room : Nat) (c : Wx) (e b i : Value) (wr : World) : Prop := ∃ (k : Nat) (ids1 : List Nat), k ≤ c.js.length ∧ e = .int .i64 0 ∧ i = .int .i64 k ∧ NxtF c.L c.ab c.wB c.page (if k = 0 then room else c.page.length) b ∧
 StgF R c.wB wr c.sb c.ab c.g c.v c.l c.L (c.n + 8 * k) c.d ids1 (conK c.js c.page c.con k) ∧ ids1.length = max c.ids.length k ∧ (c.ids.length = 3 → ids1 = c.ids)
def InvAcF (R : Int) (c : Cx) (e i : Value) (wx : World) : Prop := ∃ q : Nat, q ≤ 4 ∧ e = .int .i64 0 ∧ i = .int .i64 q ∧ StageF R c wx q
def WrPF (R : Int) (w : World) (c : Wx) (e : Ending) (w' : World) : Prop := e = .returned (.int .i64 0) ∧ ∃ ids1, StgF R w w' c.sb c.ab c.g c.v c.l c.L (c.n + 24) c.d ids1 (conK c.js c.page c.con c.js.length) ∧ ids1.length = max c.ids.length c.js.length ∧ (c.ids.length = 3 → ids1 = c.ids)
def allRoom (ids : List Nat) (con : Nat → List Int) (Z : Nat) : Nat := Z + (Z - lenC ids con 1) + (Z - lenC ids con 2)
def FitP (R : Int) (ids : List Nat) (con : Nat → List Int) (Z : Nat) : Prop := FitJ R ids con 0 (allRoom ids con Z)
theorem fits_k {R : Int} {ids ids1 : List Nat} {con : Nat → List Int} {page : List Int} (H : FitP R ids con page.length) (hi : ids.length = 3 ∨ ids.length = 0) {k : Nat} (hk : k < 3) (hl : ids1.length = max ids.length k) : FitJ R ids1 (conK [0, 1, 2] page con k) k (if k = 0 then allRoom ids con page.length else page.length) := by
 unfold FitP FitJ allRoom lenC at H
 unfold FitJ allRoom lenC
 rw [hl]
 have hk3 : k = 0 ∨ k = 1 ∨ k = 2 := by omega
 rcases hi with h | h <;> rw [h] at H ⊢ <;> rcases hk3 with rfl | rfl | rfl <;> simp [V.tot, conK] at H ⊢ <;> omega

set_option maxRecDepth 100000 in
set_option maxHeartbeats 16000000 in
theorem writeF {R : Int} {w : World} {sb ab g : Nat} {v : Value} {l : List RV} {S : V.SV} {W : V.SW} {L : Nat → Option V.Role} {n d : Nat} {ids js : List Nat} {con : Nat → List Int} (A : Arc w sb ab S W L g v l) (MD : V.Mq R S n d ids) (CN : V.Con S ids con) (hjs : js = [0, 1, 2]) (hA : Ask ids js) (hn : n ≤ 6000)
  {cl : Value} {ad : Option Addr} {cap b o : Nat} (hc : Cps w cl js ad cap b o) (hcx : ¬ XL L ab b) {pv : Value} {page : List Int} {pad : Option Addr} {pcap pb po : Nat} (hp : Byb L ab w pv page pad pcap pb po) (hp0 : 0 < page.length) (hp1 : page.length ≤ 16000) (hfit : FitP R ids con page.length) :
  Calls Tryz.prog 33 #[V.ptr ab, cl, pv] w (WrPF R w ⟨w, sb, ab, g, v, l, L, n, d, ids, js, con, page⟩) := by
 have ec := hc.val
 have ep := hp.bin.val
 have ea := hp.bin.adr hp0
 subst ea
 obtain ⟨Z, hZ⟩ : ∃ n, n = page.length := ⟨_, rfl⟩
 have HZ := Lib.hid hZ
 rw [← hZ] at ep hp0 hp1
 clear hZ
 obtain ⟨room, hrm⟩ : ∃ r, r = allRoom ids con page.length := ⟨_, rfl⟩
 have RO := Lib.hid (roomForF A MD CN (hjs ▸ hA) (by omega) page.length (by rw [← HZ.out]; omega) (hjs ▸ hc))
 have hr1 : Z ≤ room := by rw [hrm, ← HZ.out]; unfold allRoom; omega
 have hr2 : room ≤ Z * 4 := by rw [hrm, ← HZ.out]; unfold allRoom; omega
 change Hid (Calls _ _ _ _ fun e w' => e = .returned (.tuple #[.int .i64 ((allRoom ids con page.length : Nat) : Int), .int .i64 0]) ∧ Ext w w') at RO
 rw [← hrm, ← HZ.out] at RO
 have HRM := Lib.hid hrm
 have HJS := Lib.hid hjs
 have HFT := Lib.hid hfit
 clear hrm hfit hjs
 obtain ⟨N, hN⟩ : ∃ N, N = js.length := ⟨_, rfl⟩
 have HN := Lib.hid hN
 have hN3 : N ≤ 3 := by have := hA.few; omega
 rw [← hN] at ec
 have HA := Lib.hid A
 have HMD := Lib.hid MD
 have HCN := Lib.hid CN
 have HC := Lib.hid hc
 have HP := Lib.hid hp
 have HJ := Lib.hid hA
 subst ec ep
 clear A MD CN hc hp hA hN
 unfold V.ptr at RO ⊢
 go_enter Tryz.func33, Tryz.ntmps33
 go_wp2
 go_step3
 go_wp2_with fail
 refine (RO.out).mono ?_
 rintro e w1 ⟨rfl, e1⟩
 have E1 := Lib.hid e1
 have hroom : room ≤ 64000 := by omega
 have hmk := fun w => run_make_row' (P := Tryz.prog) 50 5 (.int .u8 0) 1 Tryz.underlying50 u8zero rfl .i64 .i64 room (by omega) (by omega) w
 clear RO e1
 obtain ⟨mE, mC, mT, mL⟩ := made_copy w1 room page (by rw [← HZ.out]; exact hr1)
 have hsrc := Lib.hid (show ∀ j u, (V.bts page)[j]? = some u → (w1.alloc (.cells (madeCells #[Value.int .u8 0] room) 5)).cell? ((⟨pb, po, none⟩ : Addr).add j) = some u from fun j u hu => by
  have := (HP.out.ext (E1.out.trans (Ext.alloc w1 (.cells (madeCells #[Value.int .u8 0] room) 5)))).bin.cell j u hu
  cases j with
  | zero => simpa [Addr.add] using this
  | succ q => simpa [Addr.add] using this)
 have hth := Lib.hid mT
 rw [← HZ.out] at hth
 have hone : ∀ v ∈ V.bts page, v.oneCell' = true := V.bts_one page
 have hmin := Lib.hid (show Z = Nat.min Z room from (Nat.min_eq_left hr1).symm)
 have hlen : (V.bts page).length = Z := by rw [V.bts_len]; exact HZ.out.symm
 go_wp2_with (refine list_copy2 rfl (.tmp 27) (.tmp 28) 50 50 rfl 5 Tryz.underlying50 sz5' w1.heap.size 0 room room (some ⟨w1.heap.size, 0, none⟩) ⟨pb, po, none⟩ Z pcap rfl (fun _ => rfl) rfl (V.bts page) Z hlen hmin.out hsrc.out hth.out hone ?_)
 have EB := Lib.hid (E1.out.trans mE)
 have NX := Lib.hid (show NxtF L ab ((w1.alloc (.cells (madeCells #[Value.int .u8 0] room) 5)).setCells w1.heap.size 0 (V.bts page)) page room (.slice (some ⟨w1.heap.size, 0, none⟩) room room) from by
  have hxl : (page ++ List.replicate (room - page.length) (0 : Int)).length = room := by rw [List.length_append, List.length_replicate, ← HZ.out]; omega
  refine ⟨page ++ List.replicate (room - page.length) 0, some ⟨w1.heap.size, 0, none⟩, room, w1.heap.size, 0, ⟨⟨by rw [hxl], fun _ => rfl, mC⟩, fun k => ?_, mL, fun y hy => ?_⟩, by rw [hxl, ← HZ.out]; exact hr1, by rw [hxl]; omega, List.take_left, hxl⟩
  ·have s1 := E1.out.size
   rcases k with k | k
   ·have := HA.out.rep.lt _ k; omega
   ·have := HA.out.lt; omega
  ·rcases List.mem_append.1 hy with hy | hy
   ·exact HP.out.byt y hy
   ·rw [List.eq_of_mem_replicate hy]; omega)
 clear hsrc hth hone hmin hlen mE mC mT mL
 generalize (w1.alloc (.cells (madeCells #[Value.int .u8 0] room) 5)).setCells w1.heap.size 0 (V.bts page) = wB at *
 have AB := Lib.hid (HA.out.ext EB.out)
 have PB := Lib.hid (HP.out.ext EB.out)
 have CB := Lib.hid (HC.out.ext EB.out)
 have ZB := Lib.hid (show page.length ≤ 16000 by rw [← HZ.out]; exact hp1)
 clear E1 hmk
 go_step3
 go_wp2
 go_loopw [8, 9, 32] (fun e b i wr => InvWrF R room ⟨wB, sb, ab, g, v, l, L, n, d, ids, js, con, page⟩ e b i wr) (fun _ _ i _ => N - (intOf i).toNat)
 case atStart =>
  refine ⟨0, ids, by omega, rfl, rfl, NX.out, ?_, by simp, fun _ => rfl⟩
  rw [conK_zero]
  exact ⟨S, W, L, AB.out, Mv.refl wB ab L, HMD.out, HCN.out⟩
 case round =>
  obtain ⟨k, ids1, hk, rfl, rfl, nx, sg, il, i3⟩ := hrel
  simp only at hk nx sg il i3
  rw [← HN.out] at hk
  by_cases hlt : k < N
  ·have i0 : (k : Int) < (N : Int) := by omega
   have i1 : (0 : Int) ≤ (k : Int) := by omega
   have ead := CB.out.adr (by rw [← HN.out]; omega)
   obtain ⟨j, hj⟩ : ∃ j, js[k]? = some j := ⟨_, List.getElem?_eq_getElem (by rw [← HN.out]; exact hlt)⟩
   have hj3 := HJ.out.lt j (List.mem_of_getElem? hj)
   obtain ⟨x, adx, capx, bbx, ox, byb, hx1, hx2, hx3, hx4⟩ := nx
   obtain ⟨S1, W1, L1, A1, M1, MD1, CN1⟩ := sg
   have cj := M1.chg.cell (CB.out.cell k j hj) hcx
   have ev := byb.bin.val
   obtain ⟨X, hX⟩ : ∃ n, n = x.length := ⟨_, rfl⟩
   rw [← hX] at ev
   subst ev ead
   have AC := Lib.hid (acts_any wr ab sb j adx X capx Z A1.c.1)
   have hjk : ids.length = 3 ∨ (ids.length = 0 ∧ j = k) := by
    rcases HJ.out.three with h3 | ⟨h3, h4⟩
    ·exact Or.inl h3
    ·refine Or.inr ⟨by rw [h3]; rfl, ?_⟩
     rw [h4] at hj
     match k, hj with
     | 0, hj => simp at hj; omega
     | 1, hj => simp at hj; omega
     | 2, hj => simp at hj; omega
   have hjl : j ≤ ids1.length := by rw [il]; omega
   have FT := Lib.hid (show FitJ R ids1 (conK js page con k) j x.length from by
    have e : j = k := by
     rw [HJS.out] at hj
     match k, hj with
     | 0, hj => simp at hj; omega
     | 1, hj => simp at hj; omega
     | 2, hj => simp at hj; omega
    rw [hx4, e, HJS.out, HRM.out]
    exact fits_k HFT.out (by rcases HJ.out.three with h3 | ⟨h3, _⟩; exact Or.inl h3; exact Or.inr (by rw [h3]; rfl)) (by have := HN.out; rw [HJS.out] at this; simp at this; omega) il)
   have SG := Lib.hid (And.intro A1 (And.intro M1 (And.intro MD1 CN1)))
   have BY := Lib.hid (And.intro byb (And.intro hx1 (And.intro hx2 hx3)))
   have HX := Lib.hid hX
   have CO := Lib.hid (conK_succ js page con k j hj)
   have IL := Lib.hid (And.intro il i3)
   have HJ3 := Lib.hid (And.intro hj3 (And.intro hjl hjk))
   clear A1 M1 MD1 CN1 byb hx1 hx2 hx3 hx4 hX hj il i3 hj3 hjl hjk
   unfold V.ptr at AC
   go_wp2_with fail
   refine (AC.out).mono ?_
   rintro e wa ⟨rfl, ea, bxs, af, hz⟩
   have EA := Lib.hid ea
   have AF := Lib.hid af
   have RD := Lib.hid (show Rd ⟨wa, sb, ab, g, v, l, L1, n + 8 * k, d, ids1, conK js page con k, j, page⟩ wr.heap.size (wr.heap.size + 1) (wr.heap.size + 2) (wr.heap.size + 3) (.slice adx X capx) x adx capx bbx ox from by
    have nx : ∀ q, wr.heap.size ≤ q → ¬ XL L1 ab q := fun q hq k => by
     rcases k with k | k
     ·have := SG.out.1.rep.lt _ k; omega
     ·have := SG.out.1.lt; omega
    exact ⟨by rw [HZ.out] at bxs; exact bxs, nx _ (by omega), nx _ (by omega), nx _ (by omega), nx _ (by omega), (BY.out.1.mv SG.out.2.1).ext EA.out, ⟨BY.out.2.1, BY.out.2.2.1⟩, BY.out.2.2.2, ⟨HJ3.out.2.1, HJ3.out.1⟩, by show n + 8 * k ≤ 40000; omega⟩)
   have NB := Lib.hid (show n + 8 * k ≤ 7000 by omega)
   have a4x := Lib.hid (show ¬ XL L1 ab (wr.heap.size + 4) from fun k => by
     rcases k with k | k
     ·have := SG.out.1.rep.lt _ k; omega
     ·have := SG.out.1.lt; omega)
   have ST0 := Lib.hid (show StageF R ⟨wa, sb, ab, g, v, l, L1, n + 8 * k, d, ids1, conK js page con k, j, page⟩ wa 0 from ⟨S1, W1, L1, SG.out.1.ext EA.out, Mv.refl wa ab L1, SG.out.2.2.1, SG.out.2.2.2⟩)
   clear ea bxs af hz AC cj
   go_wp2
   go_loopw [8, 43] (fun e i wx => InvAcF R ⟨wa, sb, ab, g, v, l, L1, n + 8 * k, d, ids1, conK js page con k, j, page⟩ e i wx) (fun _ i _ => 4 - (intOf i).toNat)
   case atStart => exact ⟨0, by omega, rfl, rfl, ST0.out⟩
   case round =>
    obtain ⟨q, hq, rfl, rfl, hs⟩ := hrel
    have hq5 : q = 0 ∨ q = 1 ∨ q = 2 ∨ q = 3 ∨ q = 4 := by omega
    clear hq
    rcases hq5 with rfl | rfl | rfl | rfl | rfl
    ·have fq := hs.cell (AF.out.cell 0) a4x.out
     have CA := Lib.hid (st1F RD.out NB.out FT.out hs)
     clear hs
     unfold fns bx V.ptr at fq
     unfold bx at CA
     go_wp2_with fail
     refine (CA.out).mono ?_
     rintro e wy ⟨rfl, hs2⟩
     have HS2 := Lib.hid hs2
     clear hs2 CA fq
     go_wp2
     exact ⟨⟨1, by omega, rfl, rfl, HS2.out⟩, by simp [intOf]⟩
    ·have fq := hs.cell (AF.out.cell 1) a4x.out
     have CA := Lib.hid (st2F RD.out NB.out hs)
     clear hs
     unfold fns bx V.ptr at fq
     unfold bx at CA
     go_wp2_with fail
     refine (CA.out).mono ?_
     rintro e wy ⟨rfl, hs2⟩
     have HS2 := Lib.hid hs2
     clear hs2 CA fq
     go_wp2
     exact ⟨⟨2, by omega, rfl, rfl, HS2.out⟩, by simp [intOf]⟩
    ·have fq := hs.cell (AF.out.cell 2) a4x.out
     have CA := Lib.hid (st3F RD.out NB.out hs)
     clear hs
     unfold fns bx V.ptr at fq
     unfold bx at CA
     go_wp2_with fail
     refine (CA.out).mono ?_
     rintro e wy ⟨rfl, hs2⟩
     have HS2 := Lib.hid hs2
     clear hs2 CA fq
     go_wp2
     exact ⟨⟨3, by omega, rfl, rfl, HS2.out⟩, by simp [intOf]⟩
    ·have fq := hs.cell (AF.out.cell 3) a4x.out
     have CA := Lib.hid (st4F RD.out NB.out hs)
     clear hs
     unfold fns bx V.ptr at fq
     unfold V.ptr at CA
     go_wp2_with fail
     refine (CA.out).mono ?_
     rintro e wy ⟨rfl, hs2⟩
     have HS2 := Lib.hid hs2
     clear hs2 CA fq
     go_wp2
     exact ⟨⟨4, by omega, rfl, rfl, HS2.out⟩, by simp [intOf]⟩
    ·obtain ⟨ids2, s4, ok⟩ := hs
     have F := Lib.hid (And.intro s4 ok)
     clear s4 ok
     go_wp2
     refine ⟨⟨k + 1, ids2, by show k + 1 ≤ js.length; rw [← HN.out]; omega, rfl, by go_num, ?_, ?_, ?_, ?_⟩, by simp [intOf]; omega⟩
     ·exact ⟨page, _, _, _, _, PB.out, Nat.le_refl _, by have := ZB.out; omega, List.take_length, by simp⟩
     ·obtain ⟨S2, W2, L2, A2, M2, MD2, CN2⟩ := F.out.1
      refine ⟨S2, W2, L2, A2, (SG.out.2.1.trans (Mv.of_ext EA.out)).trans M2, MD2, ?_⟩
      rw [CO.out]; exact CN2
     ·have h1 : ids2.length = max ids1.length (j + 1) := F.out.2.len
      have h2 : ids1.length = max ids.length k := IL.out.1
      have h3 := HJ3.out
      show ids2.length = max ids.length (k + 1)
      omega
     ·intro h3
      have h2 : ids1 = ids := IL.out.2 h3
      have h3' : ids.length = 3 := h3
      rcases F.out.2 with ⟨_, h4⟩ | ⟨h4, _⟩
      ·exact h4.trans h2
      ·have h5 : j = ids1.length := h4
       rw [h2] at h5; have := HJ3.out.1; omega
  ·have d0 : decide ((k : Int) < (N : Int)) = false := by simp; omega
   obtain rfl : k = N := by omega
   obtain ⟨S1, W1, L1, A1, M1, MD1, CN1⟩ := sg
   have c3 := A1.c.2.2.2
   have z3 := A1.fz 3
   have e3 := V.At.set_same A1.cell (j := 3) (v := .bool false) rfl
   have F := Lib.hid (show WrPF R w ⟨w, sb, ab, g, v, l, L, n, d, ids, js, con, page⟩ (.returned (.int .i64 0)) wr from ⟨rfl, ids1, ⟨S1, W1, L1, A1, (Mv.of_ext EB.out).trans M1, MD1.up (by show n + 8 * k ≤ n + 24; omega), by rw [← HN.out]; exact CN1⟩, by rw [il]; show max ids.length k = max ids.length js.length; rw [← HN.out], i3⟩)
   have E3 := Lib.hid e3
   clear A1 M1 MD1 CN1 il i3 nx e3 hlt
   go_wp2
   rw [E3.out]
   try rw [Exit.noGoto_ret]
   go_ret
   exact F.out

set_option maxRecDepth 100000 in
set_option maxHeartbeats 16000000 in
theorem writeX {R : Int} {w : World} {sb ab g : Nat} {v : Value} {l : List RV} {S : V.SV} {W : V.SW} {L : Nat → Option V.Role} {n d : Nat} {ids js : List Nat} {con : Nat → List Int} (A : Arc w sb ab S W L g v l) (MD : V.Mq R S n d ids) (CN : V.Con S ids con) (hjs : js = [0, 1, 2]) (hA : Ask ids js) (hn : n ≤ 6000)
  {cl : Value} {ad : Option Addr} {cap b o : Nat} (hc : Cps w cl js ad cap b o) (hcx : ¬ XL L ab b) {pv : Value} {page : List Int} {pad : Option Addr} {pcap pb po : Nat} (hp : Byb L ab w pv page pad pcap pb po) (hp0 : 0 < page.length) (hp1 : page.length ≤ 16000) (hfit : FitP R ids con page.length → False) :
  Calls Tryz.prog 33 #[V.ptr ab, cl, pv] w fun e w' => e = .returned (.int .i64 4) ∧ StgF R w w' sb ab g v l L (n + 24) d ids con := by
 have ec := hc.val
 have ep := hp.bin.val
 have ea := hp.bin.adr hp0
 subst ea
 obtain ⟨Z, hZ⟩ : ∃ n, n = page.length := ⟨_, rfl⟩
 have HZ := Lib.hid hZ
 rw [← hZ] at ep hp0 hp1
 clear hZ
 obtain ⟨room, hrm⟩ : ∃ r, r = allRoom ids con page.length := ⟨_, rfl⟩
 have RO := Lib.hid (roomForF A MD CN (hjs ▸ hA) (by omega) page.length (by rw [← HZ.out]; omega) (hjs ▸ hc))
 have hr1 : Z ≤ room := by rw [hrm, ← HZ.out]; unfold allRoom; omega
 have hr2 : room ≤ Z * 4 := by rw [hrm, ← HZ.out]; unfold allRoom; omega
 change Hid (Calls _ _ _ _ fun e w' => e = .returned (.tuple #[.int .i64 ((allRoom ids con page.length : Nat) : Int), .int .i64 0]) ∧ Ext w w') at RO
 rw [← hrm, ← HZ.out] at RO
 have HRM := Lib.hid hrm
 have HJS := Lib.hid hjs
 have HFT := Lib.hid hfit
 clear hrm hfit hjs
 obtain ⟨N, hN⟩ : ∃ N, N = js.length := ⟨_, rfl⟩
 have HN := Lib.hid hN
 have hN3 : N ≤ 3 := by have := hA.few; omega
 rw [← hN] at ec
 have HA := Lib.hid A
 have HMD := Lib.hid MD
 have HCN := Lib.hid CN
 have HC := Lib.hid hc
 have HP := Lib.hid hp
 have HJ := Lib.hid hA
 subst ec ep
 clear A MD CN hc hp hA hN
 unfold V.ptr at RO ⊢
 go_enter Tryz.func33, Tryz.ntmps33
 go_wp2
 go_step3
 go_wp2_with fail
 refine (RO.out).mono ?_
 rintro e w1 ⟨rfl, e1⟩
 have E1 := Lib.hid e1
 have hroom : room ≤ 64000 := by omega
 have hmk := fun w => run_make_row' (P := Tryz.prog) 50 5 (.int .u8 0) 1 Tryz.underlying50 u8zero rfl .i64 .i64 room (by omega) (by omega) w
 clear RO e1
 obtain ⟨mE, mC, mT, mL⟩ := made_copy w1 room page (by rw [← HZ.out]; exact hr1)
 have hsrc := Lib.hid (show ∀ j u, (V.bts page)[j]? = some u → (w1.alloc (.cells (madeCells #[Value.int .u8 0] room) 5)).cell? ((⟨pb, po, none⟩ : Addr).add j) = some u from fun j u hu => by
  have := (HP.out.ext (E1.out.trans (Ext.alloc w1 (.cells (madeCells #[Value.int .u8 0] room) 5)))).bin.cell j u hu
  cases j with
  | zero => simpa [Addr.add] using this
  | succ q => simpa [Addr.add] using this)
 have hth := Lib.hid mT
 rw [← HZ.out] at hth
 have hone : ∀ v ∈ V.bts page, v.oneCell' = true := V.bts_one page
 have hmin := Lib.hid (show Z = Nat.min Z room from (Nat.min_eq_left hr1).symm)
 have hlen : (V.bts page).length = Z := by rw [V.bts_len]; exact HZ.out.symm
 go_wp2_with (refine list_copy2 rfl (.tmp 27) (.tmp 28) 50 50 rfl 5 Tryz.underlying50 sz5' w1.heap.size 0 room room (some ⟨w1.heap.size, 0, none⟩) ⟨pb, po, none⟩ Z pcap rfl (fun _ => rfl) rfl (V.bts page) Z hlen hmin.out hsrc.out hth.out hone ?_)
 have EB := Lib.hid (E1.out.trans mE)
 have NX := Lib.hid (show NxtF L ab ((w1.alloc (.cells (madeCells #[Value.int .u8 0] room) 5)).setCells w1.heap.size 0 (V.bts page)) page room (.slice (some ⟨w1.heap.size, 0, none⟩) room room) from by
  have hxl : (page ++ List.replicate (room - page.length) (0 : Int)).length = room := by rw [List.length_append, List.length_replicate, ← HZ.out]; omega
  refine ⟨page ++ List.replicate (room - page.length) 0, some ⟨w1.heap.size, 0, none⟩, room, w1.heap.size, 0, ⟨⟨by rw [hxl], fun _ => rfl, mC⟩, fun k => ?_, mL, fun y hy => ?_⟩, by rw [hxl, ← HZ.out]; exact hr1, by rw [hxl]; omega, List.take_left, hxl⟩
  ·have s1 := E1.out.size
   rcases k with k | k
   ·have := HA.out.rep.lt _ k; omega
   ·have := HA.out.lt; omega
  ·rcases List.mem_append.1 hy with hy | hy
   ·exact HP.out.byt y hy
   ·rw [List.eq_of_mem_replicate hy]; omega)
 clear hsrc hth hone hmin hlen mE mC mT mL
 generalize (w1.alloc (.cells (madeCells #[Value.int .u8 0] room) 5)).setCells w1.heap.size 0 (V.bts page) = wB at *
 have AB := Lib.hid (HA.out.ext EB.out)
 have PB := Lib.hid (HP.out.ext EB.out)
 have CB := Lib.hid (HC.out.ext EB.out)
 have ZB := Lib.hid (show page.length ≤ 16000 by rw [← HZ.out]; exact hp1)
 clear E1 hmk
 go_step3
 go_wp2
 go_loopw [8, 9, 32] (fun e b i wr => InvWrF R room ⟨wB, sb, ab, g, v, l, L, n, d, ids, js, con, page⟩ e b i wr ∧ i = .int .i64 0) (fun _ _ i _ => N - (intOf i).toNat)
 case atStart =>
  refine ⟨⟨0, ids, by omega, rfl, rfl, NX.out, ?_, by simp, fun _ => rfl⟩, rfl⟩
  rw [conK_zero]
  exact ⟨S, W, L, AB.out, Mv.refl wB ab L, HMD.out, HCN.out⟩
 case round =>
  obtain ⟨⟨k, ids1, hk, rfl, rfl, nx, sg, il, i3⟩, hi0⟩ := hrel
  simp only at hk nx sg il i3
  have K0 := Lib.hid (show k = 0 by injection hi0 with _ q; omega)
  clear hi0
  rw [← HN.out] at hk
  by_cases hlt : k < N
  ·have i0 : (k : Int) < (N : Int) := by omega
   have i1 : (0 : Int) ≤ (k : Int) := by omega
   have ead := CB.out.adr (by rw [← HN.out]; omega)
   obtain ⟨j, hj⟩ : ∃ j, js[k]? = some j := ⟨_, List.getElem?_eq_getElem (by rw [← HN.out]; exact hlt)⟩
   have hj3 := HJ.out.lt j (List.mem_of_getElem? hj)
   obtain ⟨x, adx, capx, bbx, ox, byb, hx1, hx2, hx3, hx4⟩ := nx
   obtain ⟨S1, W1, L1, A1, M1, MD1, CN1⟩ := sg
   have cj := M1.chg.cell (CB.out.cell k j hj) hcx
   have ev := byb.bin.val
   obtain ⟨X, hX⟩ : ∃ n, n = x.length := ⟨_, rfl⟩
   rw [← hX] at ev
   subst ev ead
   have AC := Lib.hid (acts_any wr ab sb j adx X capx Z A1.c.1)
   have hjk : ids.length = 3 ∨ (ids.length = 0 ∧ j = k) := by
    rcases HJ.out.three with h3 | ⟨h3, h4⟩
    ·exact Or.inl h3
    ·refine Or.inr ⟨by rw [h3]; rfl, ?_⟩
     rw [h4] at hj
     match k, hj with
     | 0, hj => simp at hj; omega
     | 1, hj => simp at hj; omega
     | 2, hj => simp at hj; omega
   have hjl : j ≤ ids1.length := by rw [il]; omega
   have J0 := Lib.hid (show j = 0 by rw [HJS.out, K0.out] at hj; simp at hj; omega)
   have II := Lib.hid (show ids1 = ids from by
    rcases HJ.out.three with h3 | ⟨h3, _⟩
    ·exact i3 h3
    ·rw [h3]; rw [h3, K0.out] at il; simp at il; exact il)
   have FT := Lib.hid (show FitJ R ids1 (conK js page con k) j x.length → False from fun q => HFT.out (by
    rw [hx4, J0.out, K0.out, conK_zero, II.out, if_pos rfl, HRM.out] at q
    exact q))
   have I0 := Lib.hid (show j < ids1.length ∨ ids1 = [] from by
    rw [II.out, J0.out]
    rcases HJ.out.three with h3 | ⟨h3, _⟩
    ·exact Or.inl (by omega)
    ·exact Or.inr h3)
   have SG := Lib.hid (And.intro A1 (And.intro M1 (And.intro MD1 CN1)))
   have BY := Lib.hid (And.intro byb (And.intro hx1 (And.intro hx2 hx3)))
   have HX := Lib.hid hX
   have CO := Lib.hid (conK_succ js page con k j hj)
   have IL := Lib.hid (And.intro il i3)
   have HJ3 := Lib.hid (And.intro hj3 (And.intro hjl hjk))
   clear A1 M1 MD1 CN1 byb hx1 hx2 hx3 hx4 hX hj il i3 hj3 hjl hjk
   unfold V.ptr at AC
   go_wp2_with fail
   refine (AC.out).mono ?_
   rintro e wa ⟨rfl, ea, bxs, af, hz⟩
   have EA := Lib.hid ea
   have AF := Lib.hid af
   have RD := Lib.hid (show Rd ⟨wa, sb, ab, g, v, l, L1, n + 8 * k, d, ids1, conK js page con k, j, page⟩ wr.heap.size (wr.heap.size + 1) (wr.heap.size + 2) (wr.heap.size + 3) (.slice adx X capx) x adx capx bbx ox from by
    have nx : ∀ q, wr.heap.size ≤ q → ¬ XL L1 ab q := fun q hq k => by
     rcases k with k | k
     ·have := SG.out.1.rep.lt _ k; omega
     ·have := SG.out.1.lt; omega
    exact ⟨by rw [HZ.out] at bxs; exact bxs, nx _ (by omega), nx _ (by omega), nx _ (by omega), nx _ (by omega), (BY.out.1.mv SG.out.2.1).ext EA.out, ⟨BY.out.2.1, BY.out.2.2.1⟩, BY.out.2.2.2, ⟨HJ3.out.2.1, HJ3.out.1⟩, by show n + 8 * k ≤ 40000; omega⟩)
   have NB := Lib.hid (show n + 8 * k ≤ 7000 by omega)
   have a4x := Lib.hid (show ¬ XL L1 ab (wr.heap.size + 4) from fun k => by
     rcases k with k | k
     ·have := SG.out.1.rep.lt _ k; omega
     ·have := SG.out.1.lt; omega)
   have ST0 := Lib.hid (show StageF R ⟨wa, sb, ab, g, v, l, L1, n + 8 * k, d, ids1, conK js page con k, j, page⟩ wa 0 from ⟨S1, W1, L1, SG.out.1.ext EA.out, Mv.refl wa ab L1, SG.out.2.2.1, SG.out.2.2.2⟩)
   clear ea bxs af hz AC cj
   go_wp2
   go_loopw [8, 43] (fun e i wx => InvAcF R ⟨wa, sb, ab, g, v, l, L1, n + 8 * k, d, ids1, conK js page con k, j, page⟩ e i wx ∧ i = .int .i64 0) (fun _ i _ => 4 - (intOf i).toNat)
   case atStart => exact ⟨⟨0, by omega, rfl, rfl, ST0.out⟩, rfl⟩
   case round =>
    obtain ⟨⟨q, hq, rfl, rfl, hs⟩, hi0⟩ := hrel
    obtain rfl : q = 0 := by injection hi0 with _ z; omega
    clear hi0 hq
    have fq := hs.cell (AF.out.cell 0) a4x.out
    have CA := Lib.hid (st1X RD.out NB.out FT.out I0.out hs)
    clear hs
    unfold fns bx V.ptr at fq
    unfold bx at CA
    go_wp2_with fail
    refine (CA.out).mono ?_
    rintro e wy ⟨rfl, hs2⟩
    obtain ⟨S2, W2, L2, A2, M2, MD2, CN2⟩ := hs2
    have c3 := A2.c.2.2.2
    have z3 := A2.fz 3
    have e3 := V.At.set_same A2.cell (j := 3) (v := .bool false) rfl
    have F := Lib.hid (show StgF R w wy sb ab g v l L (n + 24) d ids con from ⟨S2, W2, L2, A2, (Mv.of_ext EB.out).trans ((SG.out.2.1.trans (Mv.of_ext EA.out)).trans M2), by
     have := MD2.up (m := n + 24) (by show n + 8 * k + 3 ≤ n + 24; have := K0.out; omega)
     rw [II.out] at this; exact this, by
     have := CN2
     rw [II.out, K0.out, conK_zero] at this; exact this⟩)
    have E3 := Lib.hid e3
    clear A2 M2 MD2 CN2 e3 CA fq
    go_wp2
    rw [E3.out]
    try rw [Exit.noGoto_ret]
    go_ret
    exact ⟨rfl, F.out⟩
  ·exfalso
   have := HN.out
   rw [HJS.out] at this
   simp at this
   have := K0.out
   omega

end Go.Proofs.YtnhokjnmpdiokaaGreatDoor

namespace Go.Proofs.YtnhokjnmpdiokaaGreatDoor
open Go.RowKit Go.Sha Go.Pth
set_option linter.unusedSimpArgs false
set_option linter.unusedVariables false

def CmPF (R : Int) (w : World) (sb ab : Nat) (L : Nat → Option V.Role) (g n d : Nat) (ds : List RD) (w' : World) : Prop :=
 ∃ S' W' L' v' l' ids', Arc w' sb ab S' W' L' g v' l' ∧ l'.map RV.d = ds ∧ V.Mq R S' n d ids' ∧ V.Con S' ids' (fun _ => pageI g ds) ∧ ids'.length = 3 ∧ Mv w w' ab L L'
def CmXF (R : Int) (w : World) (sb ab : Nat) (L : Nat → Option V.Role) (g n d : Nat) (v : Value) (l : List RV) (ids : List Nat) (con : Nat → List Int) (w' : World) : Prop :=
 ∃ S' W' L', Arc w' sb ab S' W' L' g v l ∧ V.Mq R S' n d ids ∧ V.Con S' ids con ∧ Mv w w' ab L L'

set_option maxRecDepth 100000 in
set_option maxHeartbeats 16000000 in
theorem commitF {R : Int} {w : World} {sb ab g : Nat} {v : Value} {l : List RV} {S : V.SV} {W : V.SW} {L : Nat → Option V.Role} {n d : Nat} {ids : List Nat} {con : Nat → List Int} (A : Arc w sb ab S W L g v l) (MD : V.Mq R S n d ids) (CN : V.Con S ids con) (h3 : ids.length = 3 ∨ ids = []) (hn : n ≤ 5000)
  (hK : KAt w) {u : Value} {lu : List RV} (hr : RR (XL L ab) w u lu) (hi : imageL (lu.map RV.d) = true) (hb : BytR (lu.map RV.d)) (hg : g ≤ 1000000) (hfit : FitP R ids con (pageI (g + 1) (lu.map RV.d)).length) :
  Calls Tryz.prog 12 #[V.ptr ab, u] w fun e w' => e = .returned (.int .i64 0) ∧ CmPF R w sb ab L (g + 1) (n + 24) d (lu.map RV.d) w' := by
 have MY := Lib.hid (may_any _ u lu w hr (by have := (image_all hi).1; rw [List.length_map] at this; omega))
 rw [hi] at MY
 have HA := Lib.hid A
 have HMD := Lib.hid MD
 have HCN := Lib.hid CN
 have HR := Lib.hid hr
 have HI := Lib.hid hi
 have HB := Lib.hid hb
 have HK := Lib.hid hK
 have H3 := Lib.hid h3
 have HFT := Lib.hid hfit
 obtain ⟨_, _, _, _, hrr⟩ := hr
 obtain ⟨adu, capu, eu⟩ : ∃ ad cap, u = .slice ad lu.length cap := ⟨_, _, hrr.val⟩
 obtain ⟨NU, hNU⟩ : ∃ n, n = lu.length := ⟨_, rfl⟩
 rw [← hNU] at eu
 have HNU := Lib.hid hNU
 clear A MD CN hi hb hK h3 hfit hrr hNU
 subst eu
 unfold V.ptr
 go_enter Tryz.func12, Tryz.ntmps12
 go_wp2_with fail
 refine (MY.out).mono ?_
 rintro e w1 ⟨rfl, e1⟩
 have A1 := Lib.hid (HA.out.ext e1)
 have E1 := Lib.hid e1
 have DD := Lib.hid (dead_any w1 ab A1.out.c.2.2.2)
 unfold V.ptr at DD
 clear e1 MY
 go_wp2_with fail
 refine (DD.out).mono ?_
 rintro e w1' ⟨rfl, rfl⟩
 have c1 := A1.out.c.2.1
 have wg : IntKind.i64.wrap ((g : Int) + 1) = (g : Int) + 1 := IntWalk.i64_in _ (by omega)
 have PG := Lib.hid (pageOf_any _ (.slice adu NU capu) lu (g + 1) w1 (HK.out.below E1.out HK.out.lt) (HR.out.ext E1.out) HI.out ⟨by omega, by omega⟩)
 rw [show (((g + 1 : Nat) : Int)) = (g : Int) + 1 by omega] at PG
 clear DD
 go_wp2_with fail
 refine (PG.out).mono ?_
 rintro e w2 ⟨pv, rfl, e2, o2⟩
 have A2 := Lib.hid (A1.out.ext e2)
 have E2 := Lib.hid (E1.out.trans e2)
 have PL := page_len (g + 1) HI.out
 obtain ⟨pad, pcap, pb, po, byb⟩ := byb_own (L := L) (ab := ab) o2 PL.1 (fun i k => A1.out.xlt i k) (pageI_byt (g + 1) HB.out)
 have BY := Lib.hid byb
 have PLH := Lib.hid PL
 have ep := byb.bin.val
 obtain ⟨PN, hPN⟩ : ∃ n, n = (pageI (g + 1) (lu.map RV.d)).length := ⟨_, rfl⟩
 rw [← hPN] at ep
 have CO := Lib.hid (copies_any w2)
 clear e2 o2 PG c1 wg byb PL hPN A1
 subst ep
 go_wp2_with fail
 refine (CO.out).mono ?_
 rintro e w3 ⟨rfl, rfl⟩
 have A3 := Lib.hid (A2.out.ext (Ext.alloc w2 (.cells #[.string (cpT 0), .string (cpT 1), .string (cpT 2)] 9)))
 have E3 := Lib.hid (E2.out.trans (Ext.alloc w2 (.cells #[.string (cpT 0), .string (cpT 1), .string (cpT 2)] 9)))
 have WR := Lib.hid (writeF (js := [0, 1, 2]) A3.out HMD.out HCN.out rfl ⟨H3.out.imp_right fun h => ⟨h, rfl⟩, by simp, by simp⟩ (by omega) (cps_new w2) (fun k => by have := A2.out.xlt _ k; omega) (BY.out.ext (Ext.alloc w2 (.cells #[.string (cpT 0), .string (cpT 1), .string (cpT 2)] 9))) PLH.out.1 PLH.out.2 HFT.out)
 unfold V.ptr at WR
 generalize w2.alloc (.cells #[.string (cpT 0), .string (cpT 1), .string (cpT 2)] 9) = w3 at *
 clear CO A2 E2
 go_wp2_with fail
 refine (WR.out).mono ?_
 rintro e w4 ⟨rfl, ids4, ⟨S4, W4, L4, A4, M4, MD4, CN4⟩, il4, -⟩
 have H4 := Lib.hid (And.intro A4 (And.intro M4 (And.intro MD4 (And.intro CN4 il4))))
 have c1 := A4.c.2.1
 have z1 := A4.fz 1
 have wg : IntKind.i64.wrap ((g : Int) + 1) = (g : Int) + 1 := IntWalk.i64_in _ (by omega)
 have SG := A4.setg (g + 1)
 rw [show (((g + 1 : Nat) : Int)) = (g : Int) + 1 by omega] at SG
 have M5 := Lib.hid (((Mv.of_ext (L := L) E3.out).trans M4).trans SG.2)
 have A5 := Lib.hid SG.1
 have CL := Lib.hid (cloned_any _ (.slice adu NU capu) lu (w4.setCell ⟨ab, 1, none⟩ (.int .i64 ((g : Int) + 1))) (HR.out.mv M5.out) (by have := (image_all HI.out).1; rw [List.length_map] at this; omega) (fun x hx => by
  have := (mayR_len ((mayR_iff _).1 (image_may HI.out x.d (List.mem_map_of_mem hx)))).2
  have e : x.d.r = x.r := rfl
  rw [e] at this; omega))
 clear A4 M4 MD4 CN4 il4 WR SG A3 E3
 go_wp2_with fail
 refine (CL.out).mono ?_
 rintro e w6 ⟨v6, l6, rfl, e6, o6, hd6⟩
 have A6 := Lib.hid (A5.out.ext e6)
 have R6 := Lib.hid (o6.rr (X := XL L4 ab) fun i k => A5.out.xlt i k)
 obtain ⟨ad6, cap6, ev6⟩ := o6.len
 have c2 := A6.out.c.2.2.1
 have z2 := A6.out.fz 2
 have SR := A6.out.setr R6.out
 obtain ⟨N6, hN6⟩ : ∃ n, n = l6.length := ⟨_, rfl⟩
 rw [← hN6] at ev6
 have F := Lib.hid (show CmPF R w sb ab L (g + 1) (n + 24) d (lu.map RV.d) (w6.setCell ⟨ab, 2, none⟩ v6) from ⟨S4, W4, L4, v6, l6, ids4, SR.1, hd6, H4.out.2.2.1, fun i a ha => by
  have := H4.out.2.2.2.1 i a ha
  rw [this]
  have hl : i < ids4.length := (List.getElem?_eq_some_iff.1 ha).1
  have h5 : ids4.length = max ids.length 3 := H4.out.2.2.2.2
  have h6 : i < 3 := by
   rcases H3.out with h | h
   ·omega
   ·rw [h] at h5; simp at h5; omega
  show conK [0, 1, 2] _ con 3 i = _
  unfold conK
  rw [if_pos]
  match i, h6 with
  | 0, _ => simp
  | 1, _ => simp
  | 2, _ => simp, by
  have h5 : ids4.length = max ids.length 3 := H4.out.2.2.2.2
  rcases H3.out with h | h
  ·omega
  ·rw [h] at h5; simpa using h5, (M5.out.trans (Mv.of_ext e6)).trans SR.2⟩)
 clear o6 hd6 e6 SR CL hN6
 subst ev6
 go_wp2
 go_ret
 exact ⟨rfl, F.out⟩

set_option maxRecDepth 100000 in
set_option maxHeartbeats 16000000 in
theorem commitX {R : Int} {w : World} {sb ab g : Nat} {v : Value} {l : List RV} {S : V.SV} {W : V.SW} {L : Nat → Option V.Role} {n d : Nat} {ids : List Nat} {con : Nat → List Int} (A : Arc w sb ab S W L g v l) (MD : V.Mq R S n d ids) (CN : V.Con S ids con) (h3 : ids.length = 3 ∨ ids = []) (hn : n ≤ 5000)
  (hK : KAt w) {u : Value} {lu : List RV} (hr : RR (XL L ab) w u lu) (hi : imageL (lu.map RV.d) = true) (hb : BytR (lu.map RV.d)) (hg : g ≤ 1000000) (hfit : FitP R ids con (pageI (g + 1) (lu.map RV.d)).length → False) :
  Calls Tryz.prog 12 #[V.ptr ab, u] w fun e w' => e = .returned (.int .i64 4) ∧ CmXF R w sb ab L g (n + 24) d v l ids con w' := by
 have MY := Lib.hid (may_any _ u lu w hr (by have := (image_all hi).1; rw [List.length_map] at this; omega))
 rw [hi] at MY
 have HA := Lib.hid A
 have HMD := Lib.hid MD
 have HCN := Lib.hid CN
 have HR := Lib.hid hr
 have HI := Lib.hid hi
 have HB := Lib.hid hb
 have HK := Lib.hid hK
 have H3 := Lib.hid h3
 have HFT := Lib.hid hfit
 obtain ⟨_, _, _, _, hrr⟩ := hr
 obtain ⟨adu, capu, eu⟩ : ∃ ad cap, u = .slice ad lu.length cap := ⟨_, _, hrr.val⟩
 obtain ⟨NU, hNU⟩ : ∃ n, n = lu.length := ⟨_, rfl⟩
 rw [← hNU] at eu
 have HNU := Lib.hid hNU
 clear A MD CN hi hb hK h3 hfit hrr hNU
 subst eu
 unfold V.ptr
 go_enter Tryz.func12, Tryz.ntmps12
 go_wp2_with fail
 refine (MY.out).mono ?_
 rintro e w1 ⟨rfl, e1⟩
 have A1 := Lib.hid (HA.out.ext e1)
 have E1 := Lib.hid e1
 have DD := Lib.hid (dead_any w1 ab A1.out.c.2.2.2)
 unfold V.ptr at DD
 clear e1 MY
 go_wp2_with fail
 refine (DD.out).mono ?_
 rintro e w1' ⟨rfl, rfl⟩
 have c1 := A1.out.c.2.1
 have wg : IntKind.i64.wrap ((g : Int) + 1) = (g : Int) + 1 := IntWalk.i64_in _ (by omega)
 have PG := Lib.hid (pageOf_any _ (.slice adu NU capu) lu (g + 1) w1 (HK.out.below E1.out HK.out.lt) (HR.out.ext E1.out) HI.out ⟨by omega, by omega⟩)
 rw [show (((g + 1 : Nat) : Int)) = (g : Int) + 1 by omega] at PG
 clear DD
 go_wp2_with fail
 refine (PG.out).mono ?_
 rintro e w2 ⟨pv, rfl, e2, o2⟩
 have A2 := Lib.hid (A1.out.ext e2)
 have E2 := Lib.hid (E1.out.trans e2)
 have PL := page_len (g + 1) HI.out
 obtain ⟨pad, pcap, pb, po, byb⟩ := byb_own (L := L) (ab := ab) o2 PL.1 (fun i k => A1.out.xlt i k) (pageI_byt (g + 1) HB.out)
 have BY := Lib.hid byb
 have PLH := Lib.hid PL
 have ep := byb.bin.val
 obtain ⟨PN, hPN⟩ : ∃ n, n = (pageI (g + 1) (lu.map RV.d)).length := ⟨_, rfl⟩
 rw [← hPN] at ep
 have CO := Lib.hid (copies_any w2)
 clear e2 o2 PG c1 wg byb PL hPN A1
 subst ep
 go_wp2_with fail
 refine (CO.out).mono ?_
 rintro e w3 ⟨rfl, rfl⟩
 have A3 := Lib.hid (A2.out.ext (Ext.alloc w2 (.cells #[.string (cpT 0), .string (cpT 1), .string (cpT 2)] 9)))
 have E3 := Lib.hid (E2.out.trans (Ext.alloc w2 (.cells #[.string (cpT 0), .string (cpT 1), .string (cpT 2)] 9)))
 have WR := Lib.hid (writeX (js := [0, 1, 2]) A3.out HMD.out HCN.out rfl ⟨H3.out.imp_right fun h => ⟨h, rfl⟩, by simp, by simp⟩ (by omega) (cps_new w2) (fun k => by have := A2.out.xlt _ k; omega) (BY.out.ext (Ext.alloc w2 (.cells #[.string (cpT 0), .string (cpT 1), .string (cpT 2)] 9))) PLH.out.1 PLH.out.2 HFT.out)
 unfold V.ptr at WR
 generalize w2.alloc (.cells #[.string (cpT 0), .string (cpT 1), .string (cpT 2)] 9) = w3 at *
 clear CO A2 E2
 go_wp2_with fail
 refine (WR.out).mono ?_
 rintro e w4 ⟨rfl, S4, W4, L4, A4, M4, MD4, CN4⟩
 have F := Lib.hid (show CmXF R w sb ab L g (n + 24) d v l ids con w4 from ⟨S4, W4, L4, A4, MD4, CN4, (Mv.of_ext (L := L) E3.out).trans M4⟩)
 clear A4 M4 MD4 CN4 WR A3 E3
 go_wp2
 go_ret
 exact ⟨rfl, F.out⟩

set_option maxRecDepth 100000 in
set_option maxHeartbeats 16000000 in
theorem bad_okF {R : Int} {w : World} {sb ab g : Nat} {v : Value} {l : List RV} {S : V.SV} {W : V.SW} {L : Nat → Option V.Role} {n d : Nat} {ids : List Nat} {con : Nat → List Int} (A : Arc w sb ab S W L g v l) (MD : V.Mq R S n d ids) (CN : V.Con S ids con) (h3 : ids.length = 3) (hn : n ≤ 8000)
  (hK : KAt w) (hi : imageL (l.map RV.d) = true) (hg : 1 ≤ g ∧ g ≤ 2000000) :
  Calls Tryz.prog 41 #[V.ptr ab] w (BdP w con (pageI g (l.map RV.d))) := by
 refine bad_gen A (fun w' hw' k hk => ?_) hK hi hg
 obtain ⟨a, ha⟩ : ∃ a, ids[k]? = some a := ⟨_, List.getElem?_eq_getElem (by omega)⟩
 have ff : S.file (cpT k).toList = (some a, 0) := by rw [cpT_list]; exact MD.filea k a hk ha
 have := (V.read_ok sb S W L (cpT k) a w' (A.rep.ext hw') (by have := (MD.fit (by omega)).names; omega) ff).mono fun e w2 ⟨x, h1, h2, h3, h4⟩ => (⟨x, h1, own_row h2 h4, h3⟩ : ∃ x, e = Ending.returned (.tuple #[x, .int .i64 0]) ∧ OwnB w2 w'.heap.size x (S.nd a).now ∧ Ext w' w2)
 rw [CN k a ha] at this
 exact this

theorem roomFor_nil (w : World) (p : Value) (ad : Option Addr) (cap Z : Nat) : Calls Tryz.prog 57 #[p, .slice ad 0 cap, .int .i64 (Z : Int)] w fun e w' => e = .returned (.tuple #[.int .i64 (Z : Int), .int .i64 0]) ∧ w = w' := by
 go_enter Tryz.func57, Tryz.ntmps57
 go_wp2
 go_loopw [8, 16] (fun r i wr => r = .int .i64 (Z : Int) ∧ i = .int .i64 0 ∧ w = wr) (fun _ _ _ => 0)
 case atStart => exact ⟨rfl, rfl, rfl⟩
 case round =>
  obtain ⟨rfl, rfl, rfl⟩ := hrel
  go_wp2
  go_ret2
  exact ⟨rfl, rfl⟩

set_option maxRecDepth 100000 in
set_option maxHeartbeats 16000000 in
theorem writeN {w : World} {sb ab g : Nat} {v : Value} {l : List RV} {S : V.SV} {W : V.SW} {L : Nat → Option V.Role} {js : List Nat} (A : Arc w sb ab S W L g v l) (h0 : js = [])
  {cl : Value} {ad : Option Addr} {cap b o : Nat} (hc : Cps w cl js ad cap b o) (hcx : ¬ XL L ab b) {pv : Value} {page : List Int} {pad : Option Addr} {pcap pb po : Nat} (hp : Byb L ab w pv page pad pcap pb po) (hp0 : 0 < page.length) (hp1 : page.length ≤ 16000) :
  Calls Tryz.prog 33 #[V.ptr ab, cl, pv] w fun e w' => e = .returned (.int .i64 0) ∧ Ext w w' := by
 have ec := hc.val
 have ep := hp.bin.val
 have ea := hp.bin.adr hp0
 subst ea
 obtain ⟨Z, hZ⟩ : ∃ n, n = page.length := ⟨_, rfl⟩
 have HZ := Lib.hid hZ
 rw [← hZ] at ep hp0 hp1
 clear hZ
 have RO := Lib.hid (roomFor_nil w (V.ptr ab) ad cap Z)
 have hr1 : Z ≤ Z := Nat.le_refl _
 obtain ⟨N, hN⟩ : ∃ N, N = js.length := ⟨_, rfl⟩
 have hN0 : N = 0 := by rw [hN, h0]; rfl
 rw [← hN, hN0] at ec
 have HA := Lib.hid A
 have HC := Lib.hid hc
 have HP := Lib.hid hp
 subst ec ep
 clear A hc hp hN hN0 h0
 unfold V.ptr at RO ⊢
 go_enter Tryz.func33, Tryz.ntmps33
 go_wp2
 go_step3
 go_wp2_with fail
 refine (RO.out).mono ?_
 rintro e w ⟨rfl, rfl⟩
 have E1 := Lib.hid (Ext.refl w)
 have hroom : Z ≤ 64000 := by omega
 have hmk := fun w => run_make_row' (P := Tryz.prog) 50 5 (.int .u8 0) 1 Tryz.underlying50 u8zero rfl .i64 .i64 Z (by omega) (by omega) w
 clear RO
 obtain ⟨mE, mC, mT, mL⟩ := made_copy w Z page (by rw [← HZ.out]; exact hr1)
 have hsrc := Lib.hid (show ∀ j u, (V.bts page)[j]? = some u → (w.alloc (.cells (madeCells #[Value.int .u8 0] Z) 5)).cell? ((⟨pb, po, none⟩ : Addr).add j) = some u from fun j u hu => by
  have := (HP.out.ext (E1.out.trans (Ext.alloc w (.cells (madeCells #[Value.int .u8 0] Z) 5)))).bin.cell j u hu
  cases j with
  | zero => simpa [Addr.add] using this
  | succ q => simpa [Addr.add] using this)
 have hth := Lib.hid mT
 rw [← HZ.out] at hth
 have hone : ∀ v ∈ V.bts page, v.oneCell' = true := V.bts_one page
 have hmin := Lib.hid (show Z = Nat.min Z Z from (Nat.min_eq_left hr1).symm)
 have hlen : (V.bts page).length = Z := by rw [V.bts_len]; exact HZ.out.symm
 go_wp2_with (refine list_copy2 rfl (.tmp 27) (.tmp 28) 50 50 rfl 5 Tryz.underlying50 sz5' w.heap.size 0 Z Z (some ⟨w.heap.size, 0, none⟩) ⟨pb, po, none⟩ Z pcap rfl (fun _ => rfl) rfl (V.bts page) Z hlen hmin.out hsrc.out hth.out hone ?_)
 have EB := Lib.hid (E1.out.trans mE)
 clear hsrc hth hone hmin hlen mE mC mT mL
 generalize (w.alloc (.cells (madeCells #[Value.int .u8 0] Z) 5)).setCells w.heap.size 0 (V.bts page) = wB at *
 have AB := Lib.hid (HA.out.ext EB.out)
 clear E1 hmk
 go_step3
 go_wp2
 go_loopw [8, 9, 32] (fun e b i wr => e = .int .i64 0 ∧ i = .int .i64 0 ∧ wB = wr) (fun _ _ _ _ => 0)
 case atStart => exact ⟨rfl, rfl, rfl⟩
 case round =>
  obtain ⟨rfl, rfl, rfl⟩ := hrel
  have c3 := AB.out.c.2.2.2
  have z3 := AB.out.fz 3
  have E3 := Lib.hid (V.At.set_same AB.out.cell (j := 3) (v := .bool false) rfl)
  go_wp2
  rw [E3.out]
  try rw [Exit.noGoto_ret]
  go_ret
  exact ⟨rfl, EB.out⟩

set_option maxRecDepth 100000 in
set_option maxHeartbeats 16000000 in
theorem scrubF {R : Int} {w : World} {sb ab g : Nat} {v : Value} {l : List RV} {S : V.SV} {W : V.SW} {L : Nat → Option V.Role} {n d : Nat} {ids : List Nat} {con : Nat → List Int} (A : Arc w sb ab S W L g v l) (MD : V.Mq R S n d ids) (CN : V.Con S ids con) (h3 : ids.length = 3) (hn : n ≤ 8000) (h0 : badL con (pageI g (l.map RV.d)) 3 = [])
  (hK : KAt w) (hi : imageL (l.map RV.d) = true) (hb : BytR (l.map RV.d)) (hg : 1 ≤ g ∧ g ≤ 2000000) :
  Calls Tryz.prog 18 #[V.ptr ab] w fun e w' => e = .returned (.tuple #[.int .i64 0, .int .i64 0]) ∧ Ext w w' := by
 obtain ⟨page, hpage⟩ : ∃ p, p = pageI g (l.map RV.d) := ⟨_, rfl⟩
 have BD := Lib.hid (bad_okF A MD CN h3 (by omega) hK hi hg)
 have DD := Lib.hid (dead_any w ab A.c.2.2.2)
 rw [← hpage] at BD
 have PL := page_len g hi
 have PB := pageI_byt g hb
 rw [← hpage] at PL PB
 have HPG := Lib.hid hpage
 rw [← hpage] at h0
 have WRC := Lib.hid (fun (w1 : World) (e1 : Ext w w1) (pv cl : Value) (op : OwnB w1 w.heap.size pv page) (oc : V.Own w1 w.heap.size cl ((badL con page 3).map V.cpB)) => (by
  obtain ⟨pad, pcap, pb, po, byb⟩ := byb_own (L := L) (ab := ab) op PL.1 (fun i k => A.xlt i k) PB
  obtain ⟨cad, ccap, cb, co, hc, hcb⟩ := own_cps oc e1.size
  exact writeN (A.ext e1) h0 hc (fun k => by have := A.xlt _ k; omega) byb PL.1 PL.2 : Calls Tryz.prog 33 #[V.ptr ab, cl, pv] w1 fun e w2 => e = .returned (.int .i64 0) ∧ Ext w1 w2))
 have NB0 : ((badL con page 3).length) = 0 := by rw [h0]; rfl
 clear A MD CN h3 hn h0 hK hi hb hg hpage PL PB
 have HNB := Lib.hid NB0
 clear NB0
 unfold V.ptr at BD DD WRC ⊢
 go_enter Tryz.func18, Tryz.ntmps18
 go_wp2_with fail
 refine (DD.out).mono ?_
 rintro e w1' ⟨rfl, rfl⟩
 go_wp2_with fail
 refine (BD.out).mono ?_
 rintro e w1 ⟨pv, cl, rfl, e1, op, oc⟩
 have WR := Lib.hid (WRC.out w1 e1 pv cl op oc)
 obtain ⟨cad, ccap, cbl, ecl, -, -⟩ := oc.txt
 obtain ⟨pad, pcap, ep⟩ := op.len
 rw [List.length_map, HNB.out] at ecl
 have E1 := Lib.hid e1
 obtain ⟨PN, hPN⟩ : ∃ n, n = page.length := ⟨_, rfl⟩
 rw [← hPN] at ep
 clear BD DD WRC e1 op oc hPN
 subst ecl ep
 go_wp2_with fail
 refine (WR.out).mono ?_
 rintro e w2 ⟨rfl, hc⟩
 have F := Lib.hid (E1.out.trans hc)
 clear hc WR
 go_wp2
 go_ret2
 exact ⟨rfl, F.out⟩

theorem takes_homeF {R : Int} {S : V.SV} {n d : Nat} {ids : List Nat} (h : V.Mq R S n d ids) : V.takes S.names (V.kinds S) V.homeB = 6 := by
 unfold V.takes
 rw [h.names, V.look_home d ids]

set_option maxRecDepth 100000 in
set_option maxHeartbeats 8000000 in
theorem makeHome_thereF {R : Int} {w : World} {sb ab g : Nat} {v : Value} {l : List RV} {S : V.SV} {W : V.SW} {L : Nat → Option V.Role} {n d : Nat} {ids : List Nat} (A : Arc w sb ab S W L g v l) (MD : V.Mq R S n d ids) (hn : n ≤ 8000) :
  Calls Tryz.prog 66 #[V.ptr ab] w fun e w' => e = .returned (.int .i64 0) ∧ Arc w' sb ab S.beg W L g v l ∧ Mv w w' ab L L := by
 have MK := Lib.hid (V.mkdir_of sb hT 6 w (V.add_err sb S W L hT 2 6 w A.rep (MD.fit (by omega)) (by rw [hT_list]; exact MD.begE _ V.valid_home) (by rw [hT_list]; exact takes_homeF MD) (by omega)))
 have HA := Lib.hid A
 have HM := Lib.hid MD.beg
 have c0 := A.c.1
 clear A MD
 unfold V.ptr at c0 MK ⊢
 unfold hT at MK
 go_enter Tryz.func66, Tryz.ntmps66
 go_wp2_with fail
 refine (MK.out).mono ?_
 rintro e w1 ⟨rfl, r1, t1⟩
 have A1 := Lib.hid (HA.out.st r1 t1)
 have M1 := Lib.hid (Mv.of_st (ab := ab) t1)
 have ST := Lib.hid (V.stat_some sb _ W L hT d w1 r1 (by have := (HM.out.fit (by omega)).names; omega) (by rw [hT_list, HM.out.names]; exact V.look_home d ids))
 have kd := HM.out.kd
 obtain ⟨q0, q2, q3, q4, hq⟩ : ∃ q0 q2 q3 q4, V.statC hT.toList (S.beg.nd d) = #[.string q0, .int .i64 2, .int .i64 q2, .int .i64 q3, .int .u64 q4] := ⟨_, _, _, _, by unfold V.statC; rw [kd]⟩
 rw [hq] at ST
 have d0 := A1.out.c.1
 unfold V.ptr at ST d0
 unfold hT at ST
 clear hq r1 t1 MK c0 kd
 go_wp2_with fail
 refine (ST.out).mono ?_
 rintro e w2 ⟨rfl, e2⟩
 have ea : Ext w2 (w2.alloc (.cells #[.string ⟨#[]⟩, .int .i64 0, .int .i64 0, .int .i64 0, .int .u64 0] 40)) := Ext.alloc w2 _
 have aa := At.new w2 #[.string ⟨#[]⟩, .int .i64 0, .int .i64 0, .int .i64 0, .int .u64 0] 40
 have one : (#[.string q0, .int .i64 2, .int .i64 q2, .int .i64 q3, .int .u64 q4] : Array Value).all (·.oneCell') = true := by simp [Value.oneCell']
 have sz : (Tryz.prog.info? 40).map (·.size) = some (#[.string q0, .int .i64 2, .int .i64 q2, .int .i64 q3, .int .u64 q4] : Array Value).size := szStat
 have E3 := ext_only' ea (Only.setRow w2.heap.size _ #[.string q0, .int .i64 2, .int .i64 q2, .int .i64 q3, .int .u64 q4]) (Nat.le_refl _)
 have A3 : At ((w2.alloc (.cells #[.string ⟨#[]⟩, .int .i64 0, .int .i64 0, .int .i64 0, .int .u64 0] 40)).setRow w2.heap.size #[.string q0, .int .i64 2, .int .i64 q2, .int .i64 q3, .int .u64 q4]) w2.heap.size #[.string q0, .int .i64 2, .int .i64 q2, .int .i64 q3, .int .u64 q4] 40 := aa.row _
 go_upto_region 3 with (refine wpList_store_row rfl 40 _ _ rfl w2.heap.size _ rfl rfl 40 _ aa sz rfl one ?_)
 clear ea aa sz one d0
 generalize (w2.alloc (.cells #[.string ⟨#[]⟩, .int .i64 0, .int .i64 0, .int .i64 0, .int .u64 0] 40)).setRow w2.heap.size #[.string q0, .int .i64 2, .int .i64 q2, .int .i64 q3, .int .u64 q4] = w3 at *
 have z1 := A3.cell 1
 have EX := (ext_v e2).trans E3
 have F := Lib.hid (show Arc w3 sb ab S.beg W L g v l ∧ Mv w w3 ab L L from ⟨A1.out.ext EX, M1.out.trans (Mv.of_ext EX)⟩)
 clear e2 E3 EX A1 M1 ST A3
 go_wp2
 go_ret
 exact ⟨rfl, F.out⟩

set_option maxRecDepth 100000 in
set_option maxHeartbeats 8000000 in
theorem settle_conF {R : Int} {w : World} {sb ab g : Nat} {v : Value} {l : List RV} {S : V.SV} {W : V.SW} {L : Nat → Option V.Role} {n d : Nat} {ids : List Nat} {con : Nat → List Int} (A : Arc w sb ab S W L g v l) (MD : V.Mq R S n d ids) (CN : V.Con S ids con) (h3 : ids.length = 3) (hn : n ≤ 7000) (h0 : badL con (pageI g (l.map RV.d)) 3 = [])
  (hK : KAt w) (hKw : ∀ w', Mv w w' ab L L → KAt w') (hi : imageL (l.map RV.d) = true) (hb : BytR (l.map RV.d)) (hg : 1 ≤ g ∧ g ≤ 2000000) :
  Calls Tryz.prog 43 #[V.ptr ab] w fun e w' => e = .returned (.int .i64 0) ∧ CmXF R w sb ab L g (n + 25) d v l ids con w' := by
 have MH := Lib.hid (makeHome_thereF A MD (by omega))
 have SCR := Lib.hid (fun (w1 : World) (A1 : Arc w1 sb ab S.beg W L g v l) (K1 : KAt w1) => scrubF A1 MD.beg (CN.same (V.Md.nd_beg S)) h3 (by omega) h0 K1 hi hb hg)
 have HKW := Lib.hid hKw
 have g0 : ((g : Int) == 0) = false := by simp; omega
 have HMC := Lib.hid (And.intro (MD.beg.up (m := n + 25) (by omega)) (CN.same (V.Md.nd_beg S)))
 clear A MD CN h3 hK hKw hi hb hg h0
 unfold V.ptr at MH SCR ⊢
 go_enter Tryz.func43, Tryz.ntmps43
 go_wp2_with fail
 refine (MH.out).mono ?_
 rintro e w1 ⟨rfl, A1, M1⟩
 have c1 := A1.c.2.1
 have HM1 := Lib.hid M1
 have SC := Lib.hid (SCR.out w1 A1 (HKW.out w1 M1))
 have HA1 := Lib.hid A1
 clear A1 M1 MH SCR
 go_wp2_with fail
 refine (SC.out).mono ?_
 rintro e w2 ⟨rfl, e2⟩
 have F := Lib.hid (show CmXF R w sb ab L g (n + 25) d v l ids con w2 from ⟨_, W, L, HA1.out.ext e2, HMC.out.1, HMC.out.2, HM1.out.trans (Mv.of_ext e2)⟩)
 clear e2 SC c1
 go_wp2
 go_ret
 exact ⟨rfl, F.out⟩

def OpF (R : Int) (w : World) (sb : Nat) (L : Nat → Option V.Role) (gen n d : Nat) (ds : List RD) (ids : List Nat) (con : Nat → List Int) (e : Ending) (w' : World) : Prop :=
 ∃ ab w1 v1 l1, e = .returned (.tuple #[V.ptr ab, .int .i64 0]) ∧ w.heap.size ≤ ab ∧ ab < w1.heap.size ∧ Ext w w1 ∧ l1.map RV.d = ds ∧ CmXF R w1 sb ab L gen n d v1 l1 ids con w'

theorem badL_none {con : Nat → List Int} {page : List Int} (hc : ∀ k, k < 3 → Byt (con k) ∧ (con k).length ≤ 70000) (h : ∀ i, i < 3 → con i = page) (hp : Byt page) : badL con page 3 = [] := by
 unfold badL
 rw [List.filter_eq_nil_iff]
 intro i hi
 have hi3 : i < 3 := List.mem_range.1 hi
 rw [h i hi3, eqS_self']
 simp

set_option maxRecDepth 100000 in
set_option maxHeartbeats 8000000 in
theorem open_conF {R : Int} {w0 w : World} {sb : Nat} {S : V.SV} {W : V.SW} {L : Nat → Option V.Role} {n d : Nat} {ids : List Nat} {con : Nat → List Int} (r : V.Rep w sb S W L) (MD : V.Mq R S n d ids) (CN : V.Con S ids con) (h3 : ids.length = 3) (hn : n ≤ 7000)
  (hK : KAt w0) (e0 : Ext w0 w) (hL : ∀ i, L i ≠ none → w0.heap.size ≤ i) (gen : Nat) (ds : List RD) (hi : imageL ds = true) (hb : BytR ds) (ht : TimR ds) (hg : 1 ≤ gen ∧ gen ≤ 2000000)
  (ep : ∀ i, i < 3 → con i = pageI gen ds) :
  Calls Tryz.prog 19 #[V.ptr sb] w (OpF R w sb L gen (n + 25) d ds ids con) := by
 have hKw := hK.below e0 hK.lt
 have hcon : ∀ k, k < 3 → Byt (con k) ∧ (con k).length ≤ 70000 := fun k hk => by
  obtain ⟨a, ha⟩ : ∃ a, ids[k]? = some a := ⟨_, List.getElem?_eq_getElem (by omega)⟩
  have hm := List.mem_of_getElem? ha
  rw [← CN k a ha]
  exact ⟨fun x hx => (r.nd a (MD.mem a hm)).2.bn x hx, by have := MD.lens a hm; omega⟩
 have RDO : ∀ w1, Ext w w1 → ∀ k, k < 3 → Calls Tryz.prog 61 #[V.ptr sb, .string (cpT k)] w1 fun e w2 => ∃ x, e = .returned (.tuple #[x, .int .i64 0]) ∧ OwnB w2 w1.heap.size x (con k) ∧ Ext w1 w2 := fun w1 e1 k hk => by
  obtain ⟨a, ha⟩ : ∃ a, ids[k]? = some a := ⟨_, List.getElem?_eq_getElem (by omega)⟩
  have ff : S.file (cpT k).toList = (some a, 0) := by rw [cpT_list]; exact MD.filea k a hk ha
  have := (V.read_ok sb S W L (cpT k) a w1 (r.ext e1) (by have := (MD.fit (by omega)).names; omega) ff).mono fun e w2 ⟨x, h1, h2, h3, h4⟩ => (⟨x, h1, own_row h2 h4, h3⟩ : ∃ x, e = Ending.returned (.tuple #[x, .int .i64 0]) ∧ OwnB w2 w1.heap.size x (S.nd a).now ∧ Ext w1 w2)
  rw [CN k a ha] at this
  exact this
 have VO := Lib.hid (voted_con sb w hKw con hcon RDO gen ds hi hb ht ⟨hg.1, by omega⟩ 0 1 (by omega) (by omega) (ep 0 (by omega)) (ep 1 (by omega)))
 have SET := Lib.hid (fun (w1 : World) (ab : Nat) (v1 : Value) (l1 : List RV) (e1 : Ext w w1) (hab : w.heap.size ≤ ab) (A1 : Arc w1 sb ab S W L gen v1 l1) (hd : l1.map RV.d = ds) => settle_conF A1 MD CN h3 hn (by rw [hd]; exact badL_none hcon ep (pageI_byt gen hb)) (hKw.below e1 hKw.lt) (fun w' M => (hKw.below e1 hKw.lt).below (M.below (n := w0.heap.size) hL (by have := e0.size; omega) (by have := e0.size; have := e1.size; omega)).1 hK.lt) (by rw [hd]; exact hi) (by rw [hd]; exact hb) hg)
 have HR := Lib.hid r
 have hlt := fun i (h : L i ≠ none) => r.lt i h
 have HLT := Lib.hid hlt
 clear r MD CN h3 hn hK e0 hL hi hb ht hg ep hKw hcon RDO hlt
 unfold V.ptr at VO ⊢
 go_enter Tryz.func19, Tryz.ntmps19
 go_wp2_with fail
 refine (VO.out).mono ?_
 rintro e w1 ⟨ab, v1, l1, rfl, e1, hab, a1, rr, hd⟩
 have A1 : Arc w1 sb ab S W L gen v1 l1 := ⟨HR.out.ext e1, by
  cases e : L ab with
  | none => rfl
  | some q => have := HLT.out ab (by rw [e]; simp); omega, a1, rr _ fun i hi => by
   rcases hi with hi | hi
   ·exact Or.inl (HLT.out i hi)
   ·exact Or.inr hi⟩
 have ST := Lib.hid (SET.out w1 ab v1 l1 e1 hab A1 hd)
 have HD1 := Lib.hid hd
 have HAB := Lib.hid (And.intro hab (And.intro A1.lt e1))
 unfold V.ptr at ST
 clear A1 VO hab e1 a1 rr hd SET
 go_wp2_with fail
 refine (ST.out).mono ?_
 rintro e w2 ⟨rfl, cm⟩
 have F := Lib.hid (show OpF R w sb L gen (n + 25) d ds ids con (.returned (.tuple #[.pointer (some ⟨ab, 0, none⟩), .int .i64 0])) w2 from ⟨ab, w1, v1, l1, rfl, HAB.out.1, HAB.out.2.1, HAB.out.2.2, HD1.out, cm⟩)
 clear cm ST
 go_wp2
 go_ret2
 exact F.out

structure NulF (R : Int) (S : V.SV) (n : Nat) : Prop where
 names : S.names = []
 kept : S.kept = []
 acts : S.acts = []
 power : S.power = 0
 clock : 0 ≤ S.clock ∧ S.clock ≤ n
 ops : 0 ≤ S.ops ∧ S.ops ≤ n
 left : 0 ≤ S.left ∧ S.left ≤ 9223372036854775807
 room : S.room = R

theorem NulF.fit {R : Int} {S : V.SV} {n : Nat} (h : NulF R S n) (hn : n ≤ 10000) : S.Fit := ⟨h.left, ⟨h.ops.1, by have := h.ops.2; omega⟩, ⟨h.clock.1, by have := h.clock.2; omega⟩, by rw [h.names]; simp, by rw [h.acts]; simp⟩

theorem NulF.begE {R : Int} {S : V.SV} {n : Nat} (h : NulF R S n) : S.begE [V.homeB] = 0 := by
 unfold V.SV.begE
 rw [V.beg_ops h.power]
 simp [h.power, V.valid_home]

theorem NulF.takes {R : Int} {S : V.SV} {n : Nat} (h : NulF R S n) : V.takes S.names (V.kinds S) V.homeB = 0 := by
 unfold V.takes
 rw [h.names, V.look_empty]
 simp only
 rw [if_pos V.parent_home]

theorem NulF.safe {R : Int} {S : V.SV} {n : Nat} (h : NulF R S n) (d : Nat) : V.Mq R ((S.beg.made d V.homeB 2).beg.dirred ([] ++ [(V.homeB, d)])) (n + 2) d [] := by
 have hb := V.beg_ops h.power
 have hp2 : (S.beg.made d V.homeB 2).power = 0 := by rw [hb]; exact h.power
 have hb2 := V.beg_ops hp2
 rw [hb2, hb]
 refine ⟨?_, ⟨?_, trivial, ?_, (fun a ha => by cases ha), by show (1 : Nat) ≤ _; omega, by show (0 : Nat) ≤ _; omega⟩, by show (0 : Nat) ≤ _; omega, h.power, by simp, ?_, ?_, by simp, by simp, by simp, List.mem_cons_self, ?_, ?_, h.left, h.room, by simp⟩
 ·show S.names ++ [(V.homeB, d)] = _; rw [h.names]; rfl
 ·show V.Tree [(V.homeB, d)]
  exact ⟨List.pairwise_singleton _ _, fun x hx => by simp at hx; subst hx; exact V.valid_home, fun x hx => by simp at hx; subst hx; exact Or.inl V.parent_home⟩
 ·show S.names ++ [(V.homeB, d)] = [(V.homeB, d)]; rw [h.names]; rfl
 ·show (V.upd S.nd d _ d).kind = 2; rw [V.upd_same]; rfl
 ·show (V.upd S.nd d _ d).now = []; rw [V.upd_same]; rfl
 ·show 0 ≤ S.clock + 1 ∧ S.clock + 1 ≤ ((n + 2 : Nat) : Int); have := h.clock; omega
 ·show 0 ≤ S.ops + 1 + 1 ∧ S.ops + 1 + 1 ≤ ((n + 2 : Nat) : Int); have := h.ops; omega

theorem made_fitF {R : Int} {S : V.SV} {n : Nat} (h : NulF R S n) (hn : n ≤ 10000) (d : Nat) : (S.beg.made d V.homeB 2).Fit ∧ (S.beg.made d V.homeB 2).power = 0 ∧ (S.beg.made d V.homeB 2).kept = [] ∧ (S.beg.made d V.homeB 2).acts = [⟨[], V.homeB, some d⟩] ∧ (S.beg.made d V.homeB 2).names = V.names4 d [] ∧ d ∈ (S.beg.made d V.homeB 2).ids := by
 have hb := V.beg_ops h.power
 rw [hb]
 refine ⟨⟨h.left, ?_, ?_, ?_, ?_⟩, h.power, h.kept, ?_, ?_, List.mem_cons_self⟩
 ·show 0 ≤ S.ops + 1 ∧ S.ops + 1 ≤ 100000; have := h.ops; omega
 ·show 0 ≤ S.clock + 1 ∧ S.clock + 1 ≤ 100000; have := h.clock; omega
 ·show (S.names ++ _).length ≤ 10000; rw [h.names]; simp
 ·show (S.acts ++ _).length ≤ 10000; rw [h.acts]; simp
 ·show S.acts ++ _ = _; rw [h.acts]; rfl
 ·show S.names ++ _ = _; rw [h.names]; rfl

set_option maxRecDepth 100000 in
set_option maxHeartbeats 8000000 in
theorem makeHome_newF {R : Int} {w : World} {sb ab : Nat} {S : V.SV} {W : V.SW} {L : Nat → Option V.Role} {n : Nat} (A : Arc w sb ab S W L 0 (.slice none 0 0) []) (h : NulF R S n) (hn : n ≤ 10000) :
  Calls Tryz.prog 66 #[V.ptr ab] w fun e w' => e = .returned (.int .i64 0) ∧ HmP w sb ab S L w' := by
 have MK := Lib.hid (V.mkdir_of sb hT 0 w (V.add_ok sb S W L hT 2 w A.rep (h.fit hn) (by rw [hT_list]; exact h.begE) (by rw [hT_list]; exact h.takes) (by rw [hT_list, h.names]; rfl)))
 rw [hT_list] at MK
 have HA := Lib.hid A
 have HN := Lib.hid h
 have c0 := A.c.1
 clear A h
 unfold V.ptr at c0 MK ⊢
 unfold hT at MK
 go_enter Tryz.func66, Tryz.ntmps66
 go_wp2_with fail
 refine (MK.out).mono ?_
 rintro e w1 ⟨rfl, d, W1, L1, hd, r1, t1⟩
 have A1 := Lib.hid (HA.out.st r1 t1)
 have M1 := Lib.hid (Mv.of_st (ab := ab) t1)
 have MF := made_fitF HN.out hn d
 have ST := Lib.hid (V.stat_some sb _ W1 L1 hT d w1 r1 (by have := MF.1.names; omega) (by rw [hT_list, MF.2.2.2.2.1]; exact V.look_home d []))
 obtain ⟨q0, q1, q2, q3, q4, hq⟩ : ∃ q0 q1 q2 q3 q4, V.statC hT.toList ((S.beg.made d V.homeB 2).nd d) = #[.string q0, .int .i64 q1, .int .i64 q2, .int .i64 q3, .int .u64 q4] := ⟨_, _, _, _, _, rfl⟩
 rw [hq] at ST
 have d0 := A1.out.c.1
 unfold V.ptr at ST d0
 unfold hT at ST
 clear hq MF r1 t1 MK c0 hd
 go_wp2_with fail
 refine (ST.out).mono ?_
 rintro e w2 ⟨rfl, e2⟩
 have ea : Ext w2 (w2.alloc (.cells #[.string ⟨#[]⟩, .int .i64 0, .int .i64 0, .int .i64 0, .int .u64 0] 40)) := Ext.alloc w2 _
 have aa := At.new w2 #[.string ⟨#[]⟩, .int .i64 0, .int .i64 0, .int .i64 0, .int .u64 0] 40
 have one : (#[.string q0, .int .i64 q1, .int .i64 q2, .int .i64 q3, .int .u64 q4] : Array Value).all (·.oneCell') = true := by simp [Value.oneCell']
 have sz : (Tryz.prog.info? 40).map (·.size) = some (#[.string q0, .int .i64 q1, .int .i64 q2, .int .i64 q3, .int .u64 q4] : Array Value).size := szStat
 have E3 := ext_only' ea (Only.setRow w2.heap.size _ #[.string q0, .int .i64 q1, .int .i64 q2, .int .i64 q3, .int .u64 q4]) (Nat.le_refl _)
 go_upto_region 3 with (refine wpList_store_row rfl 40 _ _ rfl w2.heap.size _ rfl rfl 40 _ aa sz rfl one ?_)
 clear ea aa sz one d0
 generalize (w2.alloc (.cells #[.string ⟨#[]⟩, .int .i64 0, .int .i64 0, .int .i64 0, .int .u64 0] 40)).setRow w2.heap.size #[.string q0, .int .i64 q1, .int .i64 q2, .int .i64 q3, .int .u64 q4] = w3 at *
 have EX := (ext_v e2).trans E3
 have F := Lib.hid (show HmP w sb ab S L w3 from ⟨d, W1, L1, A1.out.ext EX, M1.out.trans (Mv.of_ext EX)⟩)
 clear e2 E3 EX A1 M1 ST
 go_wp2
 go_ret
 exact ⟨rfl, F.out⟩

def NwPF (R : Int) (w : World) (sb ab n : Nat) (L : Nat → Option V.Role) (w' : World) : Prop := ∃ S' W' L' d, Arc w' sb ab S' W' L' 0 (.slice none 0 0) [] ∧ V.Mq R S' n d [] ∧ Mv w w' ab L L'

set_option maxRecDepth 100000 in
set_option maxHeartbeats 8000000 in
theorem clear_newF {R : Int} {w : World} {sb ab : Nat} {S : V.SV} {W : V.SW} {L : Nat → Option V.Role} {n d : Nat} (h : NulF R S n) (hn : n ≤ 10000) (A : Arc w sb ab (S.beg.made d V.homeB 2) W L 0 (.slice none 0 0) []) :
  Calls Tryz.prog 67 #[V.ptr ab] w fun e w' => e = .returned (.int .i64 0) ∧ NwPF R w sb ab (n + 2) L w' := by
 have CO := Lib.hid (copies_any w)
 have MF := made_fitF h hn d
 have ST := Lib.hid (fun w1 (e1 : Ext w w1) (k : Nat) (hk : k < 3) => V.stat_none sb _ W L (cpT k) w1 (A.rep.ext e1) (by have := MF.1.names; omega) (by rw [cpT_list, MF.2.2.2.2.1]; exact V.look_far d k hk))
 have SD := Lib.hid (fun w1 (e1 : Ext w w1) => V.syncdir_end [] sb _ W L V.homeB d w1 (A.rep.ext e1) MF.1 MF.2.1 MF.2.2.1 (by simp) rfl MF.2.2.2.1 MF.2.2.2.2.2)
 have HA := Lib.hid A
 have HN := Lib.hid (h.safe d)
 clear A h MF
 unfold V.ptr at ST SD ⊢
 unfold V.zstat at ST
 go_enter Tryz.func67, Tryz.ntmps67
 go_wp2_with fail
 refine (CO.out).mono ?_
 rintro e w3 ⟨rfl, rfl⟩
 have E3 := Lib.hid (Ext.alloc w (.cells #[.string (cpT 0), .string (cpT 1), .string (cpT 2)] 9))
 have C3 := Lib.hid (cps_new w)
 generalize w.alloc (.cells #[.string (cpT 0), .string (cpT 1), .string (cpT 2)] 9) = w3 at *
 obtain ⟨b3, hb3⟩ : ∃ b, b = w.heap.size := ⟨_, rfl⟩
 rw [← hb3] at C3 ⊢
 clear CO hb3
 go_wp2
 go_loopw [10] (fun i wr => InvZ w3 i wr) (fun i _ => 3 - (intOf i).toNat)
 case atStart => exact ⟨0, by omega, rfl, Ext.refl _⟩
 case round =>
  obtain ⟨k, hk, rfl, ex⟩ := hrel
  have EW := Lib.hid (E3.out.trans ex)
  have EX := Lib.hid ex
  by_cases hlt : k < 3
  ·have i0 : (k : Int) < 3 := by omega
   have i1 : (0 : Int) ≤ (k : Int) := by omega
   have ck := ext_cell ex (C3.out.cell k k (by
    match k, hlt with
    | 0, _ => rfl
    | 1, _ => rfl
    | 2, _ => rfl))
   rw [Nat.zero_add] at ck
   have d0 := (HA.out.ext EW.out).c.1
   unfold V.ptr at d0
   have SK := Lib.hid (ST.out wr EW.out k hlt)
   clear ex
   go_wp2_with fail
   refine (SK.out).mono ?_
   rintro e w1 ⟨rfl, e1⟩
   have ea : Ext w1 (w1.alloc (.cells #[.string ⟨#[]⟩, .int .i64 0, .int .i64 0, .int .i64 0, .int .u64 0] 40)) := Ext.alloc w1 _
   have aa := At.new w1 #[.string ⟨#[]⟩, .int .i64 0, .int .i64 0, .int .i64 0, .int .u64 0] 40
   have one : (#[.string ⟨#[]⟩, .int .i64 0, .int .i64 0, .int .i64 0, .int .u64 0] : Array Value).all (·.oneCell') = true := by simp [Value.oneCell']
   have sz : (Tryz.prog.info? 40).map (·.size) = some (#[.string ⟨#[]⟩, .int .i64 0, .int .i64 0, .int .i64 0, .int .u64 0] : Array Value).size := szStat
   have E2 := ext_only' ea (Only.setRow w1.heap.size _ #[.string ⟨#[]⟩, .int .i64 0, .int .i64 0, .int .i64 0, .int .u64 0]) (Nat.le_refl _)
   have A2 : At ((w1.alloc (.cells #[.string ⟨#[]⟩, .int .i64 0, .int .i64 0, .int .i64 0, .int .u64 0] 40)).setRow w1.heap.size #[.string ⟨#[]⟩, .int .i64 0, .int .i64 0, .int .i64 0, .int .u64 0]) w1.heap.size #[.string ⟨#[]⟩, .int .i64 0, .int .i64 0, .int .i64 0, .int .u64 0] 40 := aa.row _
   go_upto_region 5 with (refine wpList_store_row rfl 40 _ _ rfl w1.heap.size _ rfl rfl 40 _ aa sz rfl one ?_)
   clear ea aa sz one d0 ck
   generalize (w1.alloc (.cells #[.string ⟨#[]⟩, .int .i64 0, .int .i64 0, .int .i64 0, .int .u64 0] 40)).setRow w1.heap.size #[.string ⟨#[]⟩, .int .i64 0, .int .i64 0, .int .i64 0, .int .u64 0] = w2 at *
   obtain ⟨g2, hg2⟩ : ∃ g, g = w1.heap.size := ⟨_, rfl⟩
   rw [← hg2] at A2 ⊢
   have f1 := A2.cell 1
   have F := Lib.hid ((EX.out.trans (ext_v e1)).trans E2)
   clear e1 E2 A2 hg2
   go_wp2
   exact ⟨⟨k + 1, by omega, by go_num, F.out⟩, by simp [intOf]; omega⟩
  ·have d1 : decide ((k : Int) < 3) = false := by simp; omega
   obtain rfl : k = 3 := by omega
   have d0 := (HA.out.ext EW.out).c.1
   unfold V.ptr at d0
   have SK := Lib.hid (SD.out wr EW.out)
   clear ex hlt
   go_wp2_with fail
   refine (SK.out).mono ?_
   rintro e w1 ⟨rfl, W1, L1, r1, t1⟩
   have F := Lib.hid (show NwPF R w sb ab (n + 2) L w1 from ⟨_, W1, L1, d, (HA.out.ext EW.out).st r1 t1, HN.out, (Mv.of_ext EW.out).trans (Mv.of_st t1)⟩)
   clear r1 t1 SK d0
   go_wp2
   go_ret
   exact ⟨rfl, F.out⟩

set_option maxRecDepth 100000 in
set_option maxHeartbeats 8000000 in
theorem settle_newF {R : Int} {w : World} {sb ab : Nat} {S : V.SV} {W : V.SW} {L : Nat → Option V.Role} {n : Nat} (A : Arc w sb ab S W L 0 (.slice none 0 0) []) (h : NulF R S n) (hn : n ≤ 10000) :
  Calls Tryz.prog 43 #[V.ptr ab] w fun e w' => e = .returned (.int .i64 0) ∧ NwPF R w sb ab (n + 2) L w' := by
 have MH := Lib.hid (makeHome_newF A h hn)
 have CL := Lib.hid (fun (d : Nat) (W1 : V.SW) (L1 : Nat → Option V.Role) (w1 : World) (A1 : Arc w1 sb ab (S.beg.made d V.homeB 2) W1 L1 0 (.slice none 0 0) []) => clear_newF h hn A1)
 clear A h
 unfold V.ptr at MH CL ⊢
 go_enter Tryz.func43, Tryz.ntmps43
 go_wp2_with fail
 refine (MH.out).mono ?_
 rintro e w1 ⟨rfl, d, W1, L1, A1, M1⟩
 have c1 : w1.cell? ⟨ab, 1, none⟩ = some (.int .i64 0) := A1.c.2.1
 have CK := Lib.hid (CL.out d W1 L1 w1 A1)
 have HM1 := Lib.hid M1
 clear A1 M1 MH CL
 go_wp2_with fail
 refine (CK.out).mono ?_
 rintro e w2 ⟨rfl, S2, W2, L2, d2, A2, MD2, M2⟩
 have SC := Lib.hid (scrub_zero A2)
 have H2 := Lib.hid (And.intro A2 (And.intro MD2 (HM1.out.trans M2)))
 unfold V.ptr at SC
 clear A2 MD2 M2 CK c1
 go_wp2_with fail
 refine (SC.out).mono ?_
 rintro e w3 ⟨rfl, e3⟩
 have F := Lib.hid (show NwPF R w sb ab (n + 2) L w3 from ⟨S2, W2, L2, d2, H2.out.1.ext e3, H2.out.2.1, H2.out.2.2.trans (Mv.of_ext e3)⟩)
 clear e3 SC
 go_wp2
 go_ret
 exact ⟨rfl, F.out⟩

def FrPF (R : Int) (w : World) (n : Nat) (w' : World) (sb ab : Nat) : Prop := ∃ S W L d, Arc w' sb ab S W L 0 (.slice none 0 0) [] ∧ V.Mq R S n d [] ∧ Ext w w' ∧ (∀ i, L i ≠ none → w.heap.size ≤ i) ∧ w.heap.size ≤ ab

set_option maxRecDepth 100000 in
set_option maxHeartbeats 8000000 in
theorem open_newF {R : Int} {w0 w : World} {sb : Nat} {S : V.SV} {W : V.SW} {L : Nat → Option V.Role} {n : Nat} (r : V.Rep w sb S W L) (h : NulF R S n) (hn : n ≤ 10000) (hK : KAt w) (e0 : Ext w0 w) (hL : ∀ i, L i ≠ none → w0.heap.size ≤ i) :
  Calls Tryz.prog 19 #[V.ptr sb] w fun e w' => ∃ ab, e = .returned (.tuple #[V.ptr ab, .int .i64 0]) ∧ FrPF R w0 (n + 2) w' sb ab := by
 have VO := Lib.hid (voted_new sb S W L w r h.names hK)
 have HR := Lib.hid r
 have HN := Lib.hid h
 have HL := Lib.hid hL
 have H0 := Lib.hid e0
 clear r h hK e0 hL
 unfold V.ptr at VO ⊢
 go_enter Tryz.func19, Tryz.ntmps19
 go_wp2_with fail
 refine (VO.out).mono ?_
 rintro e w1 ⟨ab, rfl, e1, hab, a1⟩
 have A1 : Arc w1 sb ab S W L 0 (.slice none 0 0) [] := ⟨HR.out.ext e1, by
  cases e : L ab with
  | none => rfl
  | some q => have := HR.out.lt ab (by rw [e]; simp); omega, a1, RR.nil _ _⟩
 have ST := Lib.hid (settle_newF A1 HN.out hn)
 have HAB := Lib.hid (And.intro hab e1)
 unfold V.ptr at ST
 clear A1 VO hab e1 a1
 go_wp2_with fail
 refine (ST.out).mono ?_
 rintro e w2 ⟨rfl, S2, W2, L2, d, A2, MD2, M2⟩
 have F := Lib.hid (show FrPF R w0 (n + 2) w2 sb ab from by
  have hs := H0.out.size
  have hs1 := HAB.out.2.size
  have hl := HAB.out.1
  have b := M2.below (n := w0.heap.size) HL.out (by omega) (by omega)
  exact ⟨S2, W2, L2, d, A2, MD2, Below.trans (H0.out.trans HAB.out.2) b.1, b.2, by omega⟩)
 clear A2 MD2 M2 ST
 go_wp2
 go_ret2
 exact ⟨ab, rfl, F.out⟩

theorem look_cpsF {R : Int} {S : V.SV} {n d : Nat} (h : V.Mq R S n d []) (k : Nat) : V.look S.names (cpT k).toList = none := by
 rw [h.names]
 rcases Nat.lt_or_ge k 3 with q | q
 ·rw [cpT_list]; exact V.look_far d k q
 ·rw [cpT_two k (by omega)]; exact V.look_far d 2 (by omega)

set_option maxRecDepth 100000 in
set_option maxHeartbeats 8000000 in
theorem clear_noneF {R : Int} {w : World} {sb ab : Nat} {S : V.SV} {W : V.SW} {L : Nat → Option V.Role} {n d : Nat} (h : V.Mq R S n d []) (hn : n ≤ 8000) (A : Arc w sb ab S W L 0 (.slice none 0 0) []) :
  Calls Tryz.prog 67 #[V.ptr ab] w fun e w' => e = .returned (.int .i64 0) ∧ NwPF R w sb ab (n + 1) L w' := by
 have CO := Lib.hid (copies_any w)
 have MF := h.fit (by omega)
 have ST := Lib.hid (fun w1 (e1 : Ext w w1) (k : Nat) (hk : k < 3) => V.stat_none sb _ W L (cpT k) w1 (A.rep.ext e1) (by have := MF.names; omega) (look_cpsF h k))
 have SD := Lib.hid (fun w1 (e1 : Ext w w1) => V.syncdir_ok sb S W L w1 (A.rep.ext e1) MF h.sound h.begN)
 have HA := Lib.hid A
 have HN := Lib.hid h.safe
 clear A h MF
 unfold V.ptr at ST SD ⊢
 unfold V.zstat at ST
 go_enter Tryz.func67, Tryz.ntmps67
 go_wp2_with fail
 refine (CO.out).mono ?_
 rintro e w3 ⟨rfl, rfl⟩
 have E3 := Lib.hid (Ext.alloc w (.cells #[.string (cpT 0), .string (cpT 1), .string (cpT 2)] 9))
 have C3 := Lib.hid (cps_new w)
 generalize w.alloc (.cells #[.string (cpT 0), .string (cpT 1), .string (cpT 2)] 9) = w3 at *
 obtain ⟨b3, hb3⟩ : ∃ b, b = w.heap.size := ⟨_, rfl⟩
 rw [← hb3] at C3 ⊢
 clear CO hb3
 go_wp2
 go_loopw [10] (fun i wr => InvZ w3 i wr) (fun i _ => 3 - (intOf i).toNat)
 case atStart => exact ⟨0, by omega, rfl, Ext.refl _⟩
 case round =>
  obtain ⟨k, hk, rfl, ex⟩ := hrel
  have EW := Lib.hid (E3.out.trans ex)
  have EX := Lib.hid ex
  by_cases hlt : k < 3
  ·have i0 : (k : Int) < 3 := by omega
   have i1 : (0 : Int) ≤ (k : Int) := by omega
   have ck := ext_cell ex (C3.out.cell k k (by
    match k, hlt with
    | 0, _ => rfl
    | 1, _ => rfl
    | 2, _ => rfl))
   rw [Nat.zero_add] at ck
   have d0 := (HA.out.ext EW.out).c.1
   unfold V.ptr at d0
   have SK := Lib.hid (ST.out wr EW.out k hlt)
   clear ex
   go_wp2_with fail
   refine (SK.out).mono ?_
   rintro e w1 ⟨rfl, e1⟩
   have ea : Ext w1 (w1.alloc (.cells #[.string ⟨#[]⟩, .int .i64 0, .int .i64 0, .int .i64 0, .int .u64 0] 40)) := Ext.alloc w1 _
   have aa := At.new w1 #[.string ⟨#[]⟩, .int .i64 0, .int .i64 0, .int .i64 0, .int .u64 0] 40
   have one : (#[.string ⟨#[]⟩, .int .i64 0, .int .i64 0, .int .i64 0, .int .u64 0] : Array Value).all (·.oneCell') = true := by simp [Value.oneCell']
   have sz : (Tryz.prog.info? 40).map (·.size) = some (#[.string ⟨#[]⟩, .int .i64 0, .int .i64 0, .int .i64 0, .int .u64 0] : Array Value).size := szStat
   have E2 := ext_only' ea (Only.setRow w1.heap.size _ #[.string ⟨#[]⟩, .int .i64 0, .int .i64 0, .int .i64 0, .int .u64 0]) (Nat.le_refl _)
   have A2 : At ((w1.alloc (.cells #[.string ⟨#[]⟩, .int .i64 0, .int .i64 0, .int .i64 0, .int .u64 0] 40)).setRow w1.heap.size #[.string ⟨#[]⟩, .int .i64 0, .int .i64 0, .int .i64 0, .int .u64 0]) w1.heap.size #[.string ⟨#[]⟩, .int .i64 0, .int .i64 0, .int .i64 0, .int .u64 0] 40 := aa.row _
   go_upto_region 5 with (refine wpList_store_row rfl 40 _ _ rfl w1.heap.size _ rfl rfl 40 _ aa sz rfl one ?_)
   clear ea aa sz one d0 ck
   generalize (w1.alloc (.cells #[.string ⟨#[]⟩, .int .i64 0, .int .i64 0, .int .i64 0, .int .u64 0] 40)).setRow w1.heap.size #[.string ⟨#[]⟩, .int .i64 0, .int .i64 0, .int .i64 0, .int .u64 0] = w2 at *
   obtain ⟨g2, hg2⟩ : ∃ g, g = w1.heap.size := ⟨_, rfl⟩
   rw [← hg2] at A2 ⊢
   have f1 := A2.cell 1
   have F := Lib.hid ((EX.out.trans (ext_v e1)).trans E2)
   clear e1 E2 A2 hg2
   go_wp2
   exact ⟨⟨k + 1, by omega, by go_num, F.out⟩, by simp [intOf]; omega⟩
  ·have d1 : decide ((k : Int) < 3) = false := by simp; omega
   obtain rfl : k = 3 := by omega
   have d0 := (HA.out.ext EW.out).c.1
   unfold V.ptr at d0
   have SK := Lib.hid (SD.out wr EW.out)
   clear ex hlt
   go_wp2_with fail
   refine (SK.out).mono ?_
   rintro e w1 ⟨rfl, W1, L1, r1, t1⟩
   have F := Lib.hid (show NwPF R w sb ab (n + 1) L w1 from ⟨_, W1, L1, d, (HA.out.ext EW.out).st r1 t1, HN.out, (Mv.of_ext EW.out).trans (Mv.of_st t1)⟩)
   clear r1 t1 SK d0
   go_wp2
   go_ret
   exact ⟨rfl, F.out⟩

set_option maxRecDepth 100000 in
set_option maxHeartbeats 8000000 in
theorem settle_noneF {R : Int} {w : World} {sb ab : Nat} {S : V.SV} {W : V.SW} {L : Nat → Option V.Role} {n d : Nat} (A : Arc w sb ab S W L 0 (.slice none 0 0) []) (h : V.Mq R S n d []) (hn : n ≤ 7000) :
  Calls Tryz.prog 43 #[V.ptr ab] w fun e w' => e = .returned (.int .i64 0) ∧ NwPF R w sb ab (n + 2) L w' := by
 have MH := Lib.hid (makeHome_thereF A h (by omega))
 have CL := Lib.hid (fun (w1 : World) (A1 : Arc w1 sb ab S.beg W L 0 (.slice none 0 0) []) => clear_noneF h.beg (by omega) A1)
 clear A h
 unfold V.ptr at MH CL ⊢
 go_enter Tryz.func43, Tryz.ntmps43
 go_wp2_with fail
 refine (MH.out).mono ?_
 rintro e w1 ⟨rfl, A1, M1⟩
 have c1 : w1.cell? ⟨ab, 1, none⟩ = some (.int .i64 0) := A1.c.2.1
 have CK := Lib.hid (CL.out w1 A1)
 have HM1 := Lib.hid M1
 clear A1 M1 MH CL
 go_wp2_with fail
 refine (CK.out).mono ?_
 rintro e w2 ⟨rfl, S2, W2, L2, d2, A2, MD2, M2⟩
 have SC := Lib.hid (scrub_zero A2)
 have H2 := Lib.hid (And.intro A2 (And.intro MD2 (HM1.out.trans M2)))
 unfold V.ptr at SC
 clear A2 MD2 M2 CK c1
 go_wp2_with fail
 refine (SC.out).mono ?_
 rintro e w3 ⟨rfl, e3⟩
 have F := Lib.hid (show NwPF R w sb ab (n + 2) L w3 from ⟨S2, W2, L2, d2, H2.out.1.ext e3, H2.out.2.1, H2.out.2.2.trans (Mv.of_ext e3)⟩)
 clear e3 SC
 go_wp2
 go_ret
 exact ⟨rfl, F.out⟩

set_option maxRecDepth 100000 in
set_option maxHeartbeats 8000000 in
theorem open_noneF {R : Int} {w0 w : World} {sb : Nat} {S : V.SV} {W : V.SW} {L : Nat → Option V.Role} {n d : Nat} (r : V.Rep w sb S W L) (h : V.Mq R S n d []) (hn : n ≤ 7000) (hK : KAt w) (e0 : Ext w0 w) (hL : ∀ i, L i ≠ none → w0.heap.size ≤ i) :
  Calls Tryz.prog 19 #[V.ptr sb] w fun e w' => ∃ ab, e = .returned (.tuple #[V.ptr ab, .int .i64 0]) ∧ FrPF R w0 (n + 2) w' sb ab := by
 have VO := Lib.hid (voted_none sb S W L w r (by have := (h.fit (by omega)).names; omega) (look_cpsF h) hK)
 have HR := Lib.hid r
 have HN := Lib.hid h
 have HL := Lib.hid hL
 have H0 := Lib.hid e0
 clear r h hK e0 hL
 unfold V.ptr at VO ⊢
 go_enter Tryz.func19, Tryz.ntmps19
 go_wp2_with fail
 refine (VO.out).mono ?_
 rintro e w1 ⟨ab, rfl, e1, hab, a1⟩
 have A1 : Arc w1 sb ab S W L 0 (.slice none 0 0) [] := ⟨HR.out.ext e1, by
  cases e : L ab with
  | none => rfl
  | some q => have := HR.out.lt ab (by rw [e]; simp); omega, a1, RR.nil _ _⟩
 have ST := Lib.hid (settle_noneF A1 HN.out hn)
 have HAB := Lib.hid (And.intro hab e1)
 unfold V.ptr at ST
 clear A1 VO hab e1 a1
 go_wp2_with fail
 refine (ST.out).mono ?_
 rintro e w2 ⟨rfl, S2, W2, L2, d, A2, MD2, M2⟩
 have F := Lib.hid (show FrPF R w0 (n + 2) w2 sb ab from by
  have hs := H0.out.size
  have hs1 := HAB.out.2.size
  have hl := HAB.out.1
  have b := M2.below (n := w0.heap.size) HL.out (by omega) (by omega)
  exact ⟨S2, W2, L2, d, A2, MD2, Below.trans (H0.out.trans HAB.out.2) b.1, b.2, by omega⟩)
 clear A2 MD2 M2 ST
 go_wp2
 go_ret2
 exact ⟨ab, rfl, F.out⟩

end Go.Proofs.YtnhokjnmpdiokaaGreatDoor

namespace Go.Proofs.YtnhokjnmpdiokaaGreatDoor
open Go.RowKit Go.Sha Go.Pth
set_option linter.unusedSimpArgs false
set_option linter.unusedVariables false

theorem held_nil (w : World) : Calls Tryz.prog 45 #[.pointer none] w fun e w' => e = .returned (.slice none 0 0) ∧ w = w' := by
  go_enter Tryz.func45, Tryz.ntmps45
  go_wp2
  go_ret
  exact ⟨rfl, rfl⟩
theorem gen_nil (w : World) : Calls Tryz.prog 23 #[.pointer none] w fun e w' => e = .returned (.int .i64 0) ∧ w = w' := by
  go_enter Tryz.func23, Tryz.ntmps23
  go_wp2
  go_ret
  exact ⟨rfl, rfl⟩
theorem dead_nil (w : World) : Calls Tryz.prog 24 #[.pointer none] w fun e w' => e = .returned (.bool true) ∧ w = w' := by
  go_enter Tryz.func24, Tryz.ntmps24
  go_wp2
  go_ret
  exact ⟨rfl, rfl⟩
theorem openS_nil (w : World) : Calls Tryz.prog 19 #[.pointer none] w fun e w' => e = .returned (.tuple #[.pointer none, .int .i64 1]) ∧ w = w' := by
  go_enter Tryz.func19, Tryz.ntmps19
  go_wp2
  go_ret2
  exact ⟨rfl, rfl⟩
theorem all_nil (w : World) : Calls Tryz.prog 22 #[.pointer none] w fun e w' => (∃ ad cap, e = .returned (.slice ad 0 cap)) ∧ Ext w w' := by
  have HE := Lib.hid (held_nil w)
  have CL := Lib.hid (cloned_any (fun _ => False) (.slice none 0 0) [] w (RR.nil _ w) (by simp) (fun x hx => by simp at hx))
  go_enter Tryz.func22, Tryz.ntmps22
  go_wp2_with fail
  refine (HE.out).mono ?_
  rintro e w1 ⟨rfl, rfl⟩
  go_wp2_with fail
  refine (CL.out).mono ?_
  rintro e w2 ⟨v, l, rfl, e2, o2, hd⟩
  obtain rfl : l = [] := by simpa using hd
  obtain ⟨ad, cap, ev⟩ := o2.len
  have F := Lib.hid e2
  clear e2 o2 hd CL HE
  simp only [List.length_nil] at ev
  subst ev
  go_wp2
  go_ret
  exact ⟨⟨_, _, rfl⟩, F.out⟩
theorem commit_nil (w : World) : Calls Tryz.prog 12 #[.pointer none, .slice none 0 0] w fun e w' => e = .returned (.int .i64 7) ∧ Ext w w' := by
  have MY := Lib.hid (may_any (fun _ => False) (.slice none 0 0) [] w (RR.nil _ w) (by simp))
  have hi : imageL (([] : List RV).map RV.d) = true := by rfl
  rw [hi] at MY
  have DD := Lib.hid (fun w => dead_nil w)
  clear hi
  go_enter Tryz.func12, Tryz.ntmps12
  go_wp2_with fail
  refine (MY.out).mono ?_
  rintro e w1 ⟨rfl, e1⟩
  have F := Lib.hid e1
  clear e1 MY
  go_wp2_with fail
  refine (DD.out _).mono ?_
  rintro e w2 ⟨rfl, rfl⟩
  go_wp2
  go_ret
  exact ⟨rfl, F.out⟩
set_option maxRecDepth 100000 in
set_option maxHeartbeats 16000000 in
theorem get_nil (q : ByteArray) (w : World) : Calls Tryz.prog 21 #[.pointer none, .string q] w fun e w' => Ext w w' ∧ ∃ q0 q1 q2 q3 q4 ad n cap, e = .returned (.tuple #[.agg #[.string q0, .int .i64 q1, .int .i64 q2, .int .i64 q3, .int .u64 q4, .slice ad n cap], .bool false]) := by
  have e0 : Ext w (w.alloc (.cells #[.string ⟨#[]⟩, .int .i64 0, .int .i64 0, .int .i64 0, .int .u64 0, .slice none 0 0] 52)) := Ext.alloc w _
  have a0 := At.new w #[.string ⟨#[]⟩, .int .i64 0, .int .i64 0, .int .i64 0, .int .u64 0, .slice none 0 0] 52
  have HE := Lib.hid (held_nil (w.alloc (.cells #[.string ⟨#[]⟩, .int .i64 0, .int .i64 0, .int .i64 0, .int .u64 0, .slice none 0 0] 52)))
  have H0 := Lib.hid (And.intro e0 a0)
  clear e0 a0
  go_enter Tryz.func21, Tryz.ntmps21
  go_wp2_with fail
  refine (HE.out).mono ?_
  rintro e w1 ⟨rfl, rfl⟩
  go_wp2
  go_loopw [11] (fun i wr => i = .int .i64 0 ∧ Ext w wr ∧ At wr w.heap.size #[.string ⟨#[]⟩, .int .i64 0, .int .i64 0, .int .i64 0, .int .u64 0, .slice none 0 0] 52) (fun _ _ => 0)
  case atStart => exact ⟨rfl, H0.out.1, H0.out.2⟩
  case round =>
    obtain ⟨rfl, ex, aw⟩ := hrel
    have EX := Lib.hid ex
    have one : (#[.string ⟨#[]⟩, .int .i64 0, .int .i64 0, .int .i64 0, .int .u64 0, .slice none 0 0] : Array Value).all (·.oneCell') = true := by simp [Value.oneCell']
    have sz2 : (Tryz.prog.info? 52).map (·.size) = some (#[.string ⟨#[]⟩, .int .i64 0, .int .i64 0, .int .i64 0, .int .u64 0, .slice none 0 0] : Array Value).size := szRef
    have oS := Only.setRow w.heap.size wr #[.string ⟨#[]⟩, .int .i64 0, .int .i64 0, .int .i64 0, .int .u64 0, .slice none 0 0]
    have F := Lib.hid (show Ext w (wr.setRow w.heap.size #[.string ⟨#[]⟩, .int .i64 0, .int .i64 0, .int .i64 0, .int .u64 0, .slice none 0 0]) from ext_only' EX.out oS (Nat.le_refl _))
    have AS := Lib.hid (aw.row #[.string ⟨#[]⟩, .int .i64 0, .int .i64 0, .int .i64 0, .int .u64 0, .slice none 0 0])
    clear ex oS
    go_wp2_with (refine wpList_store_row rfl 52 _ _ rfl w.heap.size _ rfl rfl 52 _ aw sz2 rfl one ?_)
    refine bodyPost_ret (results_row_tmp rfl _ _ w.heap.size 52 _ rfl AS.out Tryz.underlying52 rfl szRef) rfl ?_
    exact ⟨F.out, _, _, _, _, _, _, _, _, rfl⟩
set_option maxRecDepth 100000 in
set_option maxHeartbeats 16000000 in
theorem shows_neg {w : World} {sb ab g : Nat} {v : Value} {l : List RV} {S : V.SV} {W : V.SW} {L : Nat → Option V.Role} (A : Arc w sb ab S W L g v l) (hi : imageL (l.map RV.d) = true) (X : Nat → Prop) (u : Value) (lu : List RV) (h : RR X w u lu) (hd : l.map RV.d = lu.map RV.d) :
    Calls Tryz.prog 13 #[V.ptr ab, u, .int .i64 (-1)] w fun e w' => e = .returned (.bool true) ∧ Ext w w' := by
  have AL := Lib.hid (all_any A hi)
  have GE := Lib.hid (fun w1 (e1 : Ext w w1) => gen_any w1 ab g (A.ext e1).c.2.1)
  have GT := Lib.hid (fun w1 (e1 : Ext w w1) (q : ByteArray) => get_any (A.ext e1) hi q)
  have hi2 : imageL (lu.map RV.d) = true := by rw [← hd]; exact hi
  have SI := Lib.hid (small_image hi2)
  have HRX := Lib.hid h
  obtain ⟨ad, cap, b, o, hrr⟩ := h
  have ev := hrr.val
  have hcap := hrr.cap_
  have hadr := Lib.hid hrr.adr
  have HR := Lib.hid hrr
  have HD := Lib.hid hd
  have HI2 := Lib.hid hi2
  have FN := Lib.hid (find_none hi)
  obtain ⟨n, hn⟩ : ∃ n, n = lu.length := ⟨_, rfl⟩
  have hn100 : n ≤ 100 := by rw [hn]; exact SI.out.1
  have HN := Lib.hid hn
  rw [← hn] at ev hcap
  subst ev
  clear A hi hrr hn hd hi2
  unfold V.ptr at AL GE GT ⊢
  go_enter Tryz.func13, Tryz.ntmps13
  go_wp2_with fail
  refine (AL.out).mono ?_
  rintro e w1 ⟨v1, l1, rfl, e1, o1, hd1⟩
  have R1 := o1.rr (X := fun _ => False) (fun _ k => k.elim)
  have hdd : l1.map RV.d = lu.map RV.d := hd1.trans HD.out
  have hi1 : imageL (l1.map RV.d) = true := by rw [hdd]; exact HI2.out
  have SR := Lib.hid (sameRefs_eq _ _ v1 (.slice ad n cap) l1 lu w1 R1 (HRX.out.ext e1) hdd (by have := (small_image hi1).1; omega) (small_image hi1).2)
  obtain ⟨ad1, cap1, ev1⟩ := o1.len
  have hl1 : l1.length = n := by have := congrArg List.length hdd; simp at this; rw [this]; exact HN.out.symm
  rw [hl1] at ev1
  have E1 := Lib.hid e1
  clear e1 o1 hd1 R1 hdd hi1 hl1 AL
  subst ev1
  go_wp2_with fail
  refine (SR.out).mono ?_
  rintro e w2 ⟨rfl, e2⟩
  have E2 := Lib.hid (E1.out.trans e2)
  clear e2 SR E1 GE
  go_wp2
  go_loopw [7] (fun i wr => InvSh w2 n i wr) (fun i _ => n - (intOf i).toNat)
  case atStart => exact ⟨0, by omega, rfl, Ext.refl _⟩
  case round =>
    obtain ⟨k, hk, rfl, ex⟩ := hrel
    have EW := Lib.hid (E2.out.trans ex)
    have EX := Lib.hid ex
    by_cases hlt : k < n
    · have i0 : (k : Int) < (n : Int) := by omega
      have i1 : (0 : Int) ≤ (k : Int) := by omega
      obtain ⟨y, hy⟩ : ∃ y, lu[k]? = some y := ⟨_, List.getElem?_eq_getElem (by rw [← HN.out]; exact hlt)⟩
      have hyd : (lu.map RV.d)[k]? = some y.d := by rw [List.getElem?_map, hy]; rfl
      have fp := find_path HI2.out k y.d hyd
      rw [← HD.out] at fp
      have ea := hadr.out (by rw [← HN.out]; omega)
      subst ea
      obtain ⟨e0, e1, e2, e3, e4, e5⟩ := HR.out.cells k y hy
      have S2 := HR.out.src y (List.mem_of_getElem? hy)
      have HRL := Lib.hid (SI.out.2 y (List.mem_of_getElem? hy))
      obtain ⟨p, xk, z, m, t, vv, r⟩ := y
      simp only at e0 e1 e2 e3 e4 e5 S2
      simp only [RV.d] at fp
      obtain ⟨ady, capy, evy, -⟩ := S2.val
      obtain ⟨R, hR⟩ : ∃ n, n = r.length := ⟨_, rfl⟩
      rw [← hR] at evy
      have HRr := Lib.hid hR
      clear hR
      subst evy
      replace e0 := Lib.hid (ext_cell EW.out e0)
      replace e1 := Lib.hid (ext_cell EW.out e1)
      replace e2 := Lib.hid (ext_cell EW.out e2)
      replace e3 := Lib.hid (ext_cell EW.out e3)
      replace e4 := Lib.hid (ext_cell EW.out e4)
      replace e5 := Lib.hid (ext_cell EW.out e5)
      have GK := GT.out wr EW.out p
      rw [fp] at GK
      have GKH := Lib.hid GK
      have SYH := Lib.hid (S2.now.now EW.out)
      have f0 := e0.out
      clear hy hyd fp GK S2 ex hlt
      go_wp2_with fail
      refine (GKH.out).mono ?_
      rintro e w4 ⟨e6, adx, capx, rfl, s4⟩
      simp only at s4
      rw [← HRr.out] at s4 ⊢
      have S4 := Lib.hid s4
      have E4 := Lib.hid e6
      clear s4 e6 GKH f0
      have ea : Ext w4 (w4.alloc (.cells #[.string ⟨#[]⟩, .int .i64 0, .int .i64 0, .int .i64 0, .int .u64 0, .slice none 0 0] 52)) := Ext.alloc w4 _
      have aa := At.new w4 #[.string ⟨#[]⟩, .int .i64 0, .int .i64 0, .int .i64 0, .int .u64 0, .slice none 0 0] 52
      have one : (#[.string p, .int .i64 xk, .int .i64 z, .int .i64 m, .int .u64 t, .slice adx R capx] : Array Value).all (·.oneCell') = true := by simp [Value.oneCell']
      have sz : (Tryz.prog.info? 52).map (·.size) = some (#[.string p, .int .i64 xk, .int .i64 z, .int .i64 m, .int .u64 t, .slice adx R capx] : Array Value).size := szRef
      have Ew5 := ext_only' ea (Only.setRow w4.heap.size _ #[.string p, .int .i64 xk, .int .i64 z, .int .i64 m, .int .u64 t, .slice adx R capx]) (Nat.le_refl _)
      have A5 : At ((w4.alloc (.cells #[.string ⟨#[]⟩, .int .i64 0, .int .i64 0, .int .i64 0, .int .u64 0, .slice none 0 0] 52)).setRow w4.heap.size #[.string p, .int .i64 xk, .int .i64 z, .int .i64 m, .int .u64 t, .slice adx R capx]) w4.heap.size #[.string p, .int .i64 xk, .int .i64 z, .int .i64 m, .int .u64 t, .slice adx R capx] 52 := aa.row _
      go_upto_region 7 with (refine wpList_store_row rfl 52 _ _ rfl w4.heap.size _ rfl rfl 52 _ aa sz rfl one ?_)
      clear ea aa sz one
      generalize (w4.alloc (.cells #[.string ⟨#[]⟩, .int .i64 0, .int .i64 0, .int .i64 0, .int .u64 0, .slice none 0 0] 52)).setRow w4.heap.size #[.string p, .int .i64 xk, .int .i64 z, .int .i64 m, .int .u64 t, .slice adx R capx] = w5 at *
      obtain ⟨g8, hg8⟩ : ∃ g, g = w4.heap.size := ⟨_, rfl⟩
      rw [← hg8] at A5 ⊢
      have HG := Lib.hid (fun w' (hw' : Ext w5 w') => at_ext A5 hw')
      have EX5 := Lib.hid (EX.out.trans (E4.out.trans Ew5))
      have SX := Lib.hid (fun (W : World) (hW : Ext w5 W) => (S4.out.now Ew5).now hW)
      have SY := Lib.hid (fun (W : World) (hW : Ext w5 W) => ((SYH.out.now E4.out).now Ew5).now hW)
      replace e0 := Lib.hid (ext_cell (E4.out.trans Ew5) e0.out)
      replace e1 := Lib.hid (ext_cell (E4.out.trans Ew5) e1.out)
      replace e2 := Lib.hid (ext_cell (E4.out.trans Ew5) e2.out)
      replace e3 := Lib.hid (ext_cell (E4.out.trans Ew5) e3.out)
      replace e4 := Lib.hid (ext_cell (E4.out.trans Ew5) e4.out)
      replace e5 := Lib.hid (ext_cell (E4.out.trans Ew5) e5.out)
      clear A5 Ew5 hg8
      refine wp_region_held (S := Ext w5) (by kernel_rfl) ?_
      change wpAnyH _ _ _ _ _ _ _ _ w5.drew
      have S0 : Ext w5 w5.drew := Below.drew (Below.refl _ _)
      generalize w5.drew = W at *
      refine tkS 0 (some 47) (.bool true) S0 ?_
      simp only [pt0, pt4, pt1, pt2, pt3]
      refine tkS 1 (some 48) (.bool false) S0 ?_
      simp only [pt0, pt4, pt1, pt2, pt3]
      refine tkS 2 (some 49) (.bool false) S0 ?_
      simp only [pt0, pt4, pt1, pt2, pt3]
      refine takeS 3 (some 50) (.agg #[.string p, .int .i64 xk, .int .i64 z, .int .i64 m, .int .u64 t, .slice adx R capx]) rfl rfl (by kernel_rfl) (by kernel_rfl) (by kernel_rfl) (fun _ _ _ h => h) rfl S0 (fun w' hw' => exec_load_row 52 _ rfl g8 rfl 52 _ (HG.out w' hw') Tryz.underlying52 rfl (by kernel_rfl)) ?_
      simp only [pt0, pt4, pt1, pt2, pt3]
      refine tkS 4 (some 51) (.slice (some ⟨b, o, none⟩) n cap) S0 ?_
      simp only [pt0, pt4, pt1, pt2, pt3]
      refine tkS 5 (some 52) (.int .i64 (k : Int)) S0 ?_
      simp only [pt0, pt4, pt1, pt2, pt3]
      refine tkS 6 (some 53) (.pointer (some ⟨b, o + k * 6, none⟩)) S0 ?_
      simp only [pt0, pt4, pt1, pt2, pt3]
      refine tkS 7 (some 54) (.agg #[.string p, .int .i64 xk, .int .i64 z, .int .i64 m, .int .u64 t, .slice ady R capy]) S0 ?_ (hy := fun w' hw' => by have q0 := ext_cell hw' e0.out; have q1 := ext_cell hw' e1.out; have q2 := ext_cell hw' e2.out; have q3 := ext_cell hw' e3.out; have q4 := ext_cell hw' e4.out; have q5 := ext_cell hw' e5.out; go_simp)
      simp only [pt0, pt4, pt1, pt2, pt3]
      refine nextS 8 rfl (by kernel_rfl) rfl (callS (some 55) rfl 36 #[.agg #[.string p, .int .i64 xk, .int .i64 z, .int .i64 m, .int .u64 t, .slice adx R capx], .agg #[.string p, .int .i64 xk, .int .i64 z, .int .i64 m, .int .u64 t, .slice ady R capy]] (by go_simp) (fun v w' => v = .bool true ∧ Ext w5 w') (((sameRef_eq p xk z m t r adx ady R capx capy W HRr.out (SX.out W S0) (SY.out W S0) (by have := HRL.out; omega)).mono fun _ _ he => ⟨_, he.1, rfl, S0.trans he.2⟩)) ?_)
      rintro v1 W1 ⟨rfl, S1⟩
      simp only [pt0, pt4, pt1, pt2, pt3]
      refine ⟨S1, ?_⟩
      refine tkS 9 (some 56) (.bool false) S1 ?_
      simp only [pt0, pt4, pt1, pt2, pt3]
      refine tkS 10 (some 57) (.bool false) S1 ?_
      simp only [pt0, pt4, pt1, pt2, pt3]
      refine wpAnyH_done (by kernel_rfl) ?_ _
      have F := Lib.hid (EX5.out.trans S1)
      clear S1 S0
      go_wp2
      exact ⟨⟨k + 1, by omega, by go_num, F.out⟩, by simp [intOf]; omega⟩
    · have d0 : decide ((k : Int) < (n : Int)) = false := by simp; omega
      obtain rfl : k = n := by omega
      have GK := GT.out wr EW.out ⟨#[47, 47]⟩
      rw [FN.out] at GK
      have GKH := Lib.hid GK
      clear hlt ex GK
      go_wp2_with fail
      refine (GKH.out).mono ?_
      rintro e w4 ⟨e6, q0, q1, q2, q3, q4, qa, qn, qc, rfl⟩
      have E4 := Lib.hid (EW.out.trans e6)
      clear e6 GKH
      have ea : Ext w4 (w4.alloc (.cells #[.string ⟨#[]⟩, .int .i64 0, .int .i64 0, .int .i64 0, .int .u64 0, .slice none 0 0] 52)) := Ext.alloc w4 _
      have aa := At.new w4 #[.string ⟨#[]⟩, .int .i64 0, .int .i64 0, .int .i64 0, .int .u64 0, .slice none 0 0] 52
      have one : (#[.string q0, .int .i64 q1, .int .i64 q2, .int .i64 q3, .int .u64 q4, .slice qa qn qc] : Array Value).all (·.oneCell') = true := by simp [Value.oneCell']
      have sz : (Tryz.prog.info? 52).map (·.size) = some (#[.string q0, .int .i64 q1, .int .i64 q2, .int .i64 q3, .int .u64 q4, .slice qa qn qc] : Array Value).size := szRef
      have Ew5 := ext_only' ea (Only.setRow w4.heap.size _ #[.string q0, .int .i64 q1, .int .i64 q2, .int .i64 q3, .int .u64 q4, .slice qa qn qc]) (Nat.le_refl _)
      have A5 : At ((w4.alloc (.cells #[.string ⟨#[]⟩, .int .i64 0, .int .i64 0, .int .i64 0, .int .u64 0, .slice none 0 0] 52)).setRow w4.heap.size #[.string q0, .int .i64 q1, .int .i64 q2, .int .i64 q3, .int .u64 q4, .slice qa qn qc]) w4.heap.size #[.string q0, .int .i64 q1, .int .i64 q2, .int .i64 q3, .int .u64 q4, .slice qa qn qc] 52 := aa.row _
      go_upto_region 10 with (refine wpList_store_row rfl 52 _ _ rfl w4.heap.size _ rfl rfl 52 _ aa sz rfl one ?_)
      clear ea aa sz one
      generalize (w4.alloc (.cells #[.string ⟨#[]⟩, .int .i64 0, .int .i64 0, .int .i64 0, .int .u64 0, .slice none 0 0] 52)).setRow w4.heap.size #[.string q0, .int .i64 q1, .int .i64 q2, .int .i64 q3, .int .u64 q4, .slice qa qn qc] = w5 at *
      have F := Lib.hid (E4.out.trans Ew5)
      clear A5 Ew5
      go_wp2
      go_ret
      exact ⟨rfl, F.out⟩
end Go.Proofs.YtnhokjnmpdiokaaGreatDoor

namespace Go.Proofs.YtnhokjnmpdiokaaGreatDoor
open Go.RowKit Go.Sha Go.Pth
set_option linter.unusedSimpArgs false
set_option linter.unusedVariables false

theorem rr_nil_any {X X' : Nat → Prop} {w w' : World} {u : Value} (h : RR X w u []) : RR X' w' u [] := by
  obtain ⟨ad, cap, b, o, h⟩ := h
  exact ⟨ad, cap, b, o, h.val, h.cap_, fun k => by simp at k, fun k => by simp at k, fun j x hj => by simp at hj, fun x hx => by simp at hx⟩
def FS (R : Int) (w0 : World) (sb ab k : Nat) (u : Value) (lu : List RV) (wr : World) : Prop :=
  ∃ S W L v l ids con g d, Arc wr sb ab S W L g v l ∧ l.map RV.d = lu.map RV.d ∧ RR (XL L ab) wr u lu ∧ V.Mq R S (2 + 30 * k) d ids ∧ V.Con S ids con ∧
    ((ids.length = 3 ∧ (∀ i, i < 3 → con i = pageI g (lu.map RV.d)) ∧ 1 ≤ g) ∨ (ids = [] ∧ g = 0 ∧ lu = [])) ∧ g ≤ k ∧ imageL (lu.map RV.d) = true ∧ BytR (lu.map RV.d) ∧ TimR (lu.map RV.d) ∧ (∀ i, L i ≠ none → w0.heap.size ≤ i) ∧ w0.heap.size ≤ ab ∧ Ext w0 wr
theorem FS.e {R : Int} {w0 wr : World} {sb ab k : Nat} {u : Value} {lu : List RV} (h : FS R w0 sb ab k u lu wr) : Ext w0 wr := by
  obtain ⟨S, W, L, v, l, ids, con, g, d, A, hd, hr, MD, CN, cs, hg, hi, hb, ht, hL, hab, e⟩ := h
  exact e
theorem FS.len {R : Int} {w0 wr : World} {sb ab k : Nat} {u : Value} {lu : List RV} (h : FS R w0 sb ab k u lu wr) : ∃ ad cap, u = .slice ad lu.length cap := by
  obtain ⟨S, W, L, v, l, ids, con, g, d, A, hd, ⟨_, _, _, _, hr⟩, _⟩ := h
  exact ⟨_, _, hr.val⟩
theorem FS.ext {R : Int} {w0 wr w' : World} {sb ab k : Nat} {u : Value} {lu : List RV} (h : FS R w0 sb ab k u lu wr) (e' : Ext wr w') : FS R w0 sb ab k u lu w' := by
  obtain ⟨S, W, L, v, l, ids, con, g, d, A, hd, hr, MD, CN, cs, hg, hi, hb, ht, hL, hab, e⟩ := h
  exact ⟨S, W, L, v, l, ids, con, g, d, A.ext e', hd, hr.ext e', MD, CN, cs, hg, hi, hb, ht, hL, hab, e.trans e'⟩
theorem FS.freshFS {R : Int} {w0 w1 : World} {sb ab : Nat} (h : FrPF R w0 2 w1 sb ab) : FS R w0 sb ab 0 (.slice none 0 0) [] w1 := by
  obtain ⟨S, W, L, d, A, MT, e, hL, hb⟩ := h
  exact ⟨S, W, L, _, [], [], fun _ => [], 0, d, A, rfl, RR.nil _ _, MT, fun i a ha => by simp at ha, Or.inr ⟨rfl, rfl, rfl⟩, Nat.le_refl _, rfl, fun x hx => by simp at hx, fun x hx => by simp at hx, hL, hb, e⟩
theorem FS.showsFS {R : Int} {w0 wr : World} {sb ab k : Nat} {u : Value} {lu : List RV} (h : FS R w0 sb ab k u lu wr) : Calls Tryz.prog 13 #[V.ptr ab, u, .int .i64 (-1)] wr fun e w' => e = .returned (.bool true) ∧ FS R w0 sb ab k u lu w' := by
  have h0 := h
  obtain ⟨S, W, L, v, l, ids, con, g, d, A, hd, hr, MD, CN, cs, hg, hi, hb, ht, hL, hab, e⟩ := h
  exact (shows_neg A (by rw [hd]; exact hi) _ u lu hr hd).mono fun _ _ q => ⟨q.1, h0.ext q.2⟩
theorem FS.renewFS {R : Int} {w0 wr w1 : World} {sb ab k : Nat} {u u' : Value} {lu lu' : List RV} (h : FS R w0 sb ab k u lu wr) (e1 : Ext wr w1) (hr' : OwnR w1 wr.heap.size u' lu') (hd' : lu'.map RV.d = lu.map RV.d) : FS R w0 sb ab k u' lu' w1 := by
  obtain ⟨S, W, L, v, l, ids, con, g, d, A, hd, hr, MD, CN, cs, hg, hi, hb, ht, hL, hab, e⟩ := h
  refine ⟨S, W, L, v, l, ids, con, g, d, A.ext e1, by rw [hd, hd'], hr'.rr fun i hi => A.xlt i hi, MD, CN, ?_, hg, by rw [hd']; exact hi, by rw [hd']; exact hb, by rw [hd']; exact ht, hL, hab, e.trans e1⟩
  rw [hd']
  rcases cs with cs | ⟨h1, h2, h3⟩
  · exact Or.inl cs
  · refine Or.inr ⟨h1, h2, ?_⟩
    rw [h3] at hd'
    simpa using hd'
theorem FS.commitFS {R : Int} {w0 wr w1 : World} {sb ab k : Nat} {u : Value} {lu : List RV} (h : FS R w0 sb ab k u lu wr) (hk : k ≤ 12) (hK : KAt w0) (e1 : Ext wr w1) {ms : List Int} (hm : B64 ms) {u' : Value} {lu' : List RV} (hr' : OwnR w1 wr.heap.size u' lu') (hd' : lu'.map RV.d = refsK ms 20) :
    Calls Tryz.prog 12 #[V.ptr ab, u'] w1 fun e w' => (e = .returned (.int .i64 0) ∧ FS R w0 sb ab (k + 1) u' lu' w') ∨ (e = .returned (.int .i64 4) ∧ FS R w0 sb ab (k + 1) u lu w') := by
  have hi' : imageL (lu'.map RV.d) = true := by rw [hd']; exact refsK_image ms
  have hb' : BytR (lu'.map RV.d) := by rw [hd']; exact refsK_byt ms
  have ht' : TimR (lu'.map RV.d) := by rw [hd']; exact refsK_tim ms hm
  obtain ⟨S, W, L, v, l, ids, con, g, d, A, hd, hr, MD, CN, cs, hg, hi, hb, ht, hL, hab, e⟩ := h
  have e' := e.trans e1
  have r1 : RR (XL L ab) w1 u' lu' := hr'.rr fun i hi => A.xlt i hi
  have h3 : ids.length = 3 ∨ ids = [] := cs.imp (fun q => q.1) (fun q => q.1)
  by_cases hf : FitP R ids con (pageI (g + 1) (lu'.map RV.d)).length
  · refine (commitF (A.ext e1) MD CN h3 (by omega) (hK.below e' hK.lt) r1 hi' hb' (by omega) hf).mono fun _ _ q => Or.inl ⟨q.1, ?_⟩
    obtain ⟨S', W', L', v', l', ids', A', hd2, MD', CN', hk', M⟩ := q.2
    obtain ⟨b1, b2⟩ := M.below hL hab e'.size
    exact ⟨S', W', L', v', l', ids', _, g + 1, d, A', hd2, r1.mv M, MD'.up (by omega), CN', Or.inl ⟨hk', fun i _ => rfl, by omega⟩, by omega, hi', hb', ht', b2, hab, Below.trans e' b1⟩
  · refine (commitX (A.ext e1) MD CN h3 (by omega) (hK.below e' hK.lt) r1 hi' hb' (by omega) hf).mono fun _ _ q => Or.inr ⟨q.1, ?_⟩
    obtain ⟨S', W', L', A', MD', CN', M⟩ := q.2
    obtain ⟨b1, b2⟩ := M.below hL hab e'.size
    exact ⟨S', W', L', v, l, ids, con, g, d, A', hd, (hr.ext e1).mv M, MD'.up (by omega), CN', cs, by omega, hi, hb, ht, b2, hab, Below.trans e' b1⟩
theorem FS.openFS {R : Int} {w0 wr : World} {sb ab k : Nat} {u : Value} {lu : List RV} (h : FS R w0 sb ab k u lu wr) (hk : k ≤ 13) (hK : KAt w0) : Calls Tryz.prog 19 #[V.ptr sb] wr fun e w' => ∃ ab', e = .returned (.tuple #[V.ptr ab', .int .i64 0]) ∧ Ext w0 w' ∧
    Calls Tryz.prog 13 #[V.ptr ab', u, .int .i64 (-1)] w' fun e w2 => e = .returned (.bool true) ∧ Ext w0 w2 := by
  obtain ⟨S, W, L, v, l, ids, con, g, d, A, hd, hr, MD, CN, cs, hg, hi, hb, ht, hL, hab, e⟩ := h
  rcases cs with ⟨h3, hc, hg1⟩ | ⟨h0, hg0, hl0⟩
  · refine (open_conF A.rep MD CN h3 (by omega) hK e hL g (lu.map RV.d) hi hb ht ⟨hg1, by omega⟩ hc).mono fun e' w' s => ?_
    obtain ⟨ab', w1, v1, l1, h1, h2, h3', e1, hd1, S', W', L', A', MD', CN', M⟩ := s
    have hsz := e.size
    have hsz1 := e1.size
    have r1 : RR (XL L ab') w1 u lu := (hr.mono (X' := XL L ab') fun i k => by
      rcases k with k | k
      · exact Or.inl (Or.inl k)
      · exact Or.inr (by omega)).ext e1
    obtain ⟨b1, b2⟩ := M.below (n := w0.heap.size) hL (by omega) (by omega)
    have ee : Ext w0 w' := Below.trans (e.trans e1) b1
    exact ⟨ab', h1, ee, (shows_neg A' (by rw [hd1]; exact hi) _ u lu (r1.mv M) hd1).mono fun _ _ q => ⟨q.1, ee.trans q.2⟩⟩
  · subst h0 hl0
    refine (open_noneF A.rep MD (by omega) (hK.below e hK.lt) e hL).mono fun e' w' q => ?_
    obtain ⟨ab', h1, S', W', L', d', A', MT, ee, hL', hb'⟩ := q
    exact ⟨ab', h1, ee, (shows_neg A' (by rfl) (fun _ => False) u [] (rr_nil_any hr) rfl).mono fun _ _ q => ⟨q.1, ee.trans q.2⟩⟩
end Go.Proofs.YtnhokjnmpdiokaaGreatDoor

namespace Go.Proofs.YtnhokjnmpdiokaaGreatDoor
open Go.RowKit Go.Sha Go.Pth
set_option linter.unusedSimpArgs false
set_option linter.unusedVariables false

def InvFu (R : Int) (w : World) (sb ab N : Nat) (u i : Value) (wr : World) : Prop := ∃ (k : Nat) (lu : List RV), k ≤ N ∧ i = .int .i64 k ∧ FS R w sb ab k u lu wr
set_option maxRecDepth 100000 in
set_option maxHeartbeats 32000000 in
theorem full_any (room : Int) (v1 : Value) (ls : List (List Int)) (w : World) (hK : KAt w) (h1 : IRR w v1 ls) (hl : ls.length ≤ 9223372036854775807) :
    Calls Tryz.prog 5 #[.int .i64 room, v1] w fun e w' => e = .returned (.bool true) ∧ Ext w w' := by
  have HK := Lib.hid hK
  have H1 := Lib.hid h1
  obtain ⟨ad1, cap1, b1, o1, ev1, ha1, hc1⟩ := h1
  have HA1 := Lib.hid ha1
  have HC1 := Lib.hid hc1
  have AW := Lib.hid (fun (wr : World) (e : Ext w wr) => (awake_any wr (hK.below e hK.lt)).mono (R' := fun e w' => e = .returned (.bool true) ∧ Ext w w') fun _ _ q => ⟨q.1, e.trans q.2⟩)
  obtain ⟨N, hN⟩ : ∃ n, n = ls.length := ⟨_, rfl⟩
  have HN := Lib.hid hN
  rw [← hN] at ev1 hl
  clear hK ha1 hc1 hN
  subst ev1
  by_cases hbad : room < 0 ∨ 4000 < room ∨ 12 < N
  · have A1 := Lib.hid (AW.out w (Ext.refl w))
    by_cases m0 : room < 0
    · have t1 : decide (room < 0) = true := decide_eq_true m0
      clear hbad m0
      go_enter Tryz.func5, Tryz.ntmps5
      go_wp2_with fail
      refine (A1.out).mono ?_
      rintro e w2 ⟨rfl, e2⟩
      have F := Lib.hid e2
      clear e2 A1
      go_wp2
      go_ret
      exact ⟨rfl, F.out⟩
    · have t1 : decide (room < 0) = false := decide_eq_false m0
      by_cases m1 : 4000 < room
      · have t2 : decide (4000 < room) = true := decide_eq_true m1
        clear hbad m0 m1
        go_enter Tryz.func5, Tryz.ntmps5
        go_wp2_with fail
        refine (A1.out).mono ?_
        rintro e w2 ⟨rfl, e2⟩
        have F := Lib.hid e2
        clear e2 A1
        go_wp2
        go_ret
        exact ⟨rfl, F.out⟩
      · have t2 : decide (4000 < room) = false := decide_eq_false m1
        have t3 : decide ((12 : Int) < (N : Int)) = true := by simp; omega
        clear hbad m0 m1
        go_enter Tryz.func5, Tryz.ntmps5
        go_wp2_with fail
        refine (A1.out).mono ?_
        rintro e w2 ⟨rfl, e2⟩
        have F := Lib.hid e2
        clear e2 A1
        go_wp2
        go_ret
        exact ⟨rfl, F.out⟩
  · have t1 : decide (room < 0) = false := decide_eq_false (by omega)
    have t2 : decide (4000 < room) = false := decide_eq_false (by omega)
    have t3 : decide ((12 : Int) < (N : Int)) = false := by simp; omega
    have HL12 := Lib.hid (show N ≤ 12 by omega)
    have hR0 : 0 ≤ room := by omega
    have hR1 : room ≤ 1099511627776 := by omega
    clear hbad
    have GN := Lib.hid (fun w => get_nil ⟨#[97]⟩ w)
    have ON := Lib.hid (fun w => openS_nil w)
    have CN := Lib.hid (fun w => commit_nil w)
    have AN := Lib.hid (fun w => all_nil w)
    have EN := Lib.hid (fun w => gen_nil w)
    have DN := Lib.hid (fun w => dead_nil w)
    go_enter Tryz.func5, Tryz.ntmps5
    go_wp2_with fail
    refine (GN.out w).mono ?_
    rintro e wa ⟨ea, q0, q1, q2, q3, q4, qa, qn, qc, rfl⟩
    have EA := Lib.hid (ea.trans (Ext.alloc wa (.cells #[.string q0, .int .i64 q1, .int .i64 q2, .int .i64 q3, .int .u64 q4, .slice qa qn qc] 52)))
    clear ea GN t1 t2 t3
    go_wp2_with fail
    refine (ON.out _).mono ?_
    rintro e wb ⟨rfl, rfl⟩
    generalize wa.alloc (.cells #[.string q0, .int .i64 q1, .int .i64 q2, .int .i64 q3, .int .u64 q4, .slice qa qn qc] 52) = wb at *
    clear ON
    go_wp2_with fail
    refine (CN.out wb).mono ?_
    rintro e wc ⟨rfl, ec⟩
    have EC := Lib.hid (EA.out.trans ec)
    clear ec CN EA
    go_wp2_with fail
    refine (AN.out wc).mono ?_
    rintro e wd ⟨⟨adn, capn, rfl⟩, ed⟩
    have ED := Lib.hid (EC.out.trans ed)
    clear ed AN EC
    go_wp2_with fail
    refine (EN.out wd).mono ?_
    rintro e we ⟨rfl, rfl⟩
    clear EN
    go_wp2_with fail
    refine (DN.out wd).mono ?_
    rintro e we ⟨rfl, rfl⟩
    have NW := Lib.hid (V.new_ok room wd hR0 hR1)
    unfold V.ptr at NW
    clear DN
    go_wp2_with fail
    refine (NW.out).mono ?_
    rintro e w1 ⟨rfl, e1, W1, L1, r1, hL⟩
    have OP := Lib.hid (open_newF (R := room) (w0 := w) (n := 0) r1 ⟨rfl, rfl, rfl, rfl, ⟨Int.le_refl _, Int.le_refl _⟩, ⟨Int.le_refl _, Int.le_refl _⟩, ⟨Int.le_refl _, by show (0 : Int) ≤ 9223372036854775807; omega⟩, rfl⟩ (by omega) (HK.out.below (ED.out.trans e1) HK.out.lt) (ED.out.trans e1) fun i hi => by have := hL i hi; have := ED.out.size; omega)
    obtain ⟨sb, hsb⟩ : ∃ b, b = wd.heap.size := ⟨_, rfl⟩
    rw [← hsb] at OP ⊢
    unfold V.ptr at OP
    clear r1 hL NW e1 hsb ED
    go_wp2_with fail
    refine (OP.out).mono ?_
    rintro e w2 ⟨ab, rfl, fr⟩
    have BT := Lib.hid (FS.freshFS fr)
    clear fr OP
    go_wp2
    go_loopw [14, 15] (fun u i wr => InvFu room w sb ab N u i wr) (fun _ i _ => N - (intOf i).toNat)
    case atStart => exact ⟨0, [], by omega, rfl, BT.out⟩
    case round =>
      obtain ⟨k, lu, hk, rfl, fs⟩ := hrel
      have FSH := Lib.hid fs
      obtain ⟨adu, capu, eu⟩ := fs.len
      obtain ⟨LU, hLU⟩ : ∃ n, n = lu.length := ⟨_, rfl⟩
      rw [← hLU] at eu
      clear fs hLU BT
      subst eu
      by_cases hlt : k < N
      · have i0 : (k : Int) < (N : Int) := by omega
        have i1 : (0 : Int) ≤ (k : Int) := by omega
        obtain ⟨ms, hms⟩ : ∃ ms, ls[k]? = some ms := ⟨_, List.getElem?_eq_getElem (by rw [← HN.out]; exact hlt)⟩
        obtain ⟨um, hum, irm, hlm, hbm⟩ := HC1.out k ms hms
        have ea1 := HA1.out (by rw [← HN.out]; omega)
        subst ea1
        have ck := ext_cell FSH.out.e hum
        have IM := Lib.hid irm
        have CKW := Lib.hid hum
        have HLM := Lib.hid hlm
        have HBM := Lib.hid hbm
        obtain ⟨adm, capm, em⟩ := ir_len irm
        obtain ⟨NM, hNM⟩ : ∃ n, n = ms.length := ⟨_, rfl⟩
        rw [← hNM] at em hlm
        clear hum irm hbm hms hNM
        subst em
        by_cases h30 : 30 < NM
        · have d30 : decide ((30 : Int) < (NM : Int)) = true := by simp; omega
          have A1 := Lib.hid (AW.out wr FSH.out.e)
          clear h30
          go_wp2_with fail
          refine (A1.out).mono ?_
          rintro e w3 ⟨rfl, e3⟩
          have F := Lib.hid e3
          clear e3 A1
          go_wp2
          go_ret
          exact ⟨rfl, F.out⟩
        · have d30 : decide ((30 : Int) < (NM : Int)) = false := by simp; omega
          have RF := Lib.hid (refs_any _ ms wr (ir_ext IM.out FSH.out.e) HBM.out HLM.out)
          clear h30
          go_wp2_with fail
          refine (RF.out).mono ?_
          rintro e w3 ⟨u3, l3, rfl, e3, o3, hd3⟩
          have CM := Lib.hid (FSH.out.commitFS (by have := HL12.out; omega) HK.out e3 HBM.out o3 hd3)
          have HD3 := Lib.hid hd3
          obtain ⟨ad3, cap3, ev3⟩ := o3.len
          obtain ⟨N3, hN3⟩ : ∃ n, n = l3.length := ⟨_, rfl⟩
          rw [← hN3] at ev3
          unfold V.ptr at CM
          clear e3 o3 hd3 hN3 RF ck
          subst ev3
          go_wp2_with fail
          refine (CM.out).mono ?_
          rintro e w4 (⟨rfl, fs4⟩ | ⟨rfl, fs4⟩)
          · have F4 := Lib.hid fs4
            have ck4 := ext_cell fs4.e CKW.out
            have RF := Lib.hid (refs_any _ ms w4 (ir_ext IM.out fs4.e) HBM.out HLM.out)
            clear fs4 CM
            go_wp2_with fail
            refine (RF.out).mono ?_
            rintro e w5 ⟨u5, l5, rfl, e5, o5, hd5⟩
            have SH := Lib.hid (F4.out.renewFS e5 o5 (hd5.trans HD3.out.symm)).showsFS
            obtain ⟨ad5, cap5, ev5⟩ := o5.len
            obtain ⟨N5, hN5⟩ : ∃ n, n = l5.length := ⟨_, rfl⟩
            rw [← hN5] at ev5
            unfold V.ptr at SH
            clear e5 o5 hd5 hN5 RF ck4
            subst ev5
            go_wp2_with fail
            refine (SH.out).mono ?_
            rintro e w6 ⟨rfl, fs6⟩
            have F := Lib.hid fs6
            clear fs6 SH
            go_wp2
            exact ⟨⟨k + 1, l5, by omega, by go_num, F.out⟩, by simp [intOf]; omega⟩
          · have SH := Lib.hid fs4.showsFS
            unfold V.ptr at SH
            clear fs4 CM
            go_wp2_with fail
            refine (SH.out).mono ?_
            rintro e w6 ⟨rfl, fs6⟩
            have F := Lib.hid fs6
            clear fs6 SH
            go_wp2
            exact ⟨⟨k + 1, lu, by omega, by go_num, F.out⟩, by simp [intOf]; omega⟩
      · have d0 : decide ((k : Int) < (N : Int)) = false := by simp; omega
        obtain rfl : k = N := by omega
        have OP := Lib.hid (FSH.out.openFS (by have := HL12.out; omega) HK.out)
        unfold V.ptr at OP
        clear hlt
        go_wp2_with fail
        refine (OP.out).mono ?_
        rintro e w3 ⟨ab2, rfl, e3, sh⟩
        have SH := Lib.hid sh
        clear sh OP e3
        go_wp2_with fail
        refine (SH.out).mono ?_
        rintro e w4 ⟨rfl, e4⟩
        have A1 := Lib.hid (AW.out w4 e4)
        clear SH e4
        go_wp2_with fail
        refine (A1.out).mono ?_
        rintro e w5 ⟨rfl, e5⟩
        have F := Lib.hid e5
        clear e5 A1
        go_wp2
        go_ret
        exact ⟨rfl, F.out⟩
end Go.Proofs.YtnhokjnmpdiokaaGreatDoor
