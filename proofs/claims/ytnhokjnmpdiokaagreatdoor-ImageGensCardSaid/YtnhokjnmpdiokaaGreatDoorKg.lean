/- What Open answers on a store with copies. No conditions but those named: contracts. -/
import Derived.Test.YtnhokjnmpdiokaaGreatDoorKf
import Derived.Test.YtnhokjnmpdiokaaGreatDoorJkM
namespace Go.Proofs.YtnhokjnmpdiokaaGreatDoor
open Go.RowKit Go.Sha Go.Pth
set_option linter.unusedSimpArgs false
set_option linter.unusedVariables false

theorem takes_home {S : V.SV} {n d : Nat} {ids : List Nat} (h : V.Md S n d ids ids.length) : V.takes S.names (V.kinds S) V.homeB = 6 := by
  unfold V.takes
  rw [h.names, V.look_home d ids]
set_option maxRecDepth 100000 in
set_option maxHeartbeats 8000000 in
theorem makeHome_there {w : World} {sb ab g : Nat} {v : Value} {l : List RV} {S : V.SV} {W : V.SW} {L : Nat → Option V.Role} {n d : Nat} {ids : List Nat} (A : Arc w sb ab S W L g v l) (MD : V.Md S n d ids ids.length) (hn : n ≤ 50000) :
    Calls Tryz.prog 66 #[V.ptr ab] w fun e w' => e = .returned (.int .i64 0) ∧ Arc w' sb ab S.beg W L g v l ∧ Mv w w' ab L L := by
  have MK := Lib.hid (V.mkdir_of sb hT 6 w (V.add_err sb S W L hT 2 6 w A.rep (MD.fit (by omega)) (by rw [hT_list]; exact MD.begE _ V.valid_home) (by rw [hT_list]; exact takes_home MD) (by omega)))
  have HA := Lib.hid A
  have HM := Lib.hid MD.beg
  have c0 := A.c.1
  clear A MD
  unfold V.ptr at c0 MK ⊢
  unfold hT at MK
  go_enter Tryz.func66, Tryz.ntmps66
  go_wp2_with fail
  refine (MK.out).mono ?_
  rintro e w1 ⟨rfl, r1, t1⟩
  have A1 := Lib.hid (HA.out.st r1 t1)
  have M1 := Lib.hid (Mv.of_st (ab := ab) t1)
  have ST := Lib.hid (V.stat_some sb _ W L hT d w1 r1 (by have := (HM.out.fit (by omega)).names; omega) (by rw [hT_list, HM.out.names]; exact V.look_home d ids))
  have kd := HM.out.kd
  obtain ⟨q0, q2, q3, q4, hq⟩ : ∃ q0 q2 q3 q4, V.statC hT.toList (S.beg.nd d) = #[.string q0, .int .i64 2, .int .i64 q2, .int .i64 q3, .int .u64 q4] := ⟨_, _, _, _, by unfold V.statC; rw [kd]⟩
  rw [hq] at ST
  have d0 := A1.out.c.1
  unfold V.ptr at ST d0
  unfold hT at ST
  clear hq r1 t1 MK c0 kd
  go_wp2_with fail
  refine (ST.out).mono ?_
  rintro e w2 ⟨rfl, e2⟩
  have ea : Ext w2 (w2.alloc (.cells #[.string ⟨#[]⟩, .int .i64 0, .int .i64 0, .int .i64 0, .int .u64 0] 40)) := Ext.alloc w2 _
  have aa := At.new w2 #[.string ⟨#[]⟩, .int .i64 0, .int .i64 0, .int .i64 0, .int .u64 0] 40
  have one : (#[.string q0, .int .i64 2, .int .i64 q2, .int .i64 q3, .int .u64 q4] : Array Value).all (·.oneCell') = true := by simp [Value.oneCell']
  have sz : (Tryz.prog.info? 40).map (·.size) = some (#[.string q0, .int .i64 2, .int .i64 q2, .int .i64 q3, .int .u64 q4] : Array Value).size := szStat
  have E3 := ext_only' ea (Only.setRow w2.heap.size _ #[.string q0, .int .i64 2, .int .i64 q2, .int .i64 q3, .int .u64 q4]) (Nat.le_refl _)
  have A3 : At ((w2.alloc (.cells #[.string ⟨#[]⟩, .int .i64 0, .int .i64 0, .int .i64 0, .int .u64 0] 40)).setRow w2.heap.size #[.string q0, .int .i64 2, .int .i64 q2, .int .i64 q3, .int .u64 q4]) w2.heap.size #[.string q0, .int .i64 2, .int .i64 q2, .int .i64 q3, .int .u64 q4] 40 := aa.row _
  go_upto_region 3 with (refine wpList_store_row rfl 40 _ _ rfl w2.heap.size _ rfl rfl 40 _ aa sz rfl one ?_)
  clear ea aa sz one d0
  generalize (w2.alloc (.cells #[.string ⟨#[]⟩, .int .i64 0, .int .i64 0, .int .i64 0, .int .u64 0] 40)).setRow w2.heap.size #[.string q0, .int .i64 2, .int .i64 q2, .int .i64 q3, .int .u64 q4] = w3 at *
  have z1 := A3.cell 1
  have EX := (ext_v e2).trans E3
  have F := Lib.hid (show Arc w3 sb ab S.beg W L g v l ∧ Mv w w3 ab L L from ⟨A1.out.ext EX, M1.out.trans (Mv.of_ext EX)⟩)
  clear e2 E3 EX A1 M1 ST A3
  go_wp2
  go_ret
  exact ⟨rfl, F.out⟩
set_option maxRecDepth 100000 in
set_option maxHeartbeats 8000000 in
theorem settle_con {w : World} {sb ab g : Nat} {v : Value} {l : List RV} {S : V.SV} {W : V.SW} {L : Nat → Option V.Role} {n d : Nat} {ids : List Nat} {con : Nat → List Int} (A : Arc w sb ab S W L g v l) (MD : V.Md S n d ids ids.length) (CN : V.Con S ids con) (h3 : ids.length = 3) (hn : n ≤ 20000)
    (hK : KAt w) (hKw : ∀ w', Mv w w' ab L L → KAt w') (hi : imageL (l.map RV.d) = true) (hb : BytR (l.map RV.d)) (hg : 1 ≤ g ∧ g ≤ 2000000) :
    Calls Tryz.prog 43 #[V.ptr ab] w fun e w' => e = .returned (.int .i64 0) ∧ CmP w sb ab L g (n + 25) d (l.map RV.d) w' := by
  have MH := Lib.hid (makeHome_there A MD (by omega))
  have SCR := Lib.hid (fun (w1 : World) (A1 : Arc w1 sb ab S.beg W L g v l) (K1 : KAt w1) => scrub_ok A1 MD.beg (CN.same (V.Md.nd_beg S)) h3 (by omega) K1 hi hb hg)
  have HKW := Lib.hid hKw
  have g0 : ((g : Int) == 0) = false := by simp; omega
  obtain ⟨NB, hNB⟩ : ∃ b, b = ((badL con (pageI g (l.map RV.d)) 3).length : Int) := ⟨_, rfl⟩
  rw [← hNB] at SCR
  clear A MD CN h3 hK hKw hi hb hg hNB
  unfold V.ptr at MH SCR ⊢
  go_enter Tryz.func43, Tryz.ntmps43
  go_wp2_with fail
  refine (MH.out).mono ?_
  rintro e w1 ⟨rfl, A1, M1⟩
  have c1 := A1.c.2.1
  have HM1 := Lib.hid M1
  have SC := Lib.hid (SCR.out w1 A1 (HKW.out w1 M1))
  clear A1 M1 MH SCR
  go_wp2_with fail
  refine (SC.out).mono ?_
  rintro e w2 ⟨rfl, S2, W2, L2, v2, l2, ids2, A2, hd2, MD2, CN2, h32, M2⟩
  have F := Lib.hid (show CmP w sb ab L g (n + 25) d (l.map RV.d) w2 from ⟨S2, W2, L2, v2, l2, ids2, A2, hd2, MD2, CN2, h32, HM1.out.trans M2⟩)
  clear A2 hd2 MD2 CN2 h32 M2 SC c1
  go_wp2
  go_ret
  exact ⟨rfl, F.out⟩
/-- Where the store's copies say an image, Open answers it. -/
def OpP (w : World) (sb : Nat) (L : Nat → Option V.Role) (gen n d : Nat) (ds : List RD) (e : Ending) (w' : World) : Prop :=
  ∃ ab w1, e = .returned (.tuple #[V.ptr ab, .int .i64 0]) ∧ w.heap.size ≤ ab ∧ ab < w1.heap.size ∧ Ext w w1 ∧ CmP w1 sb ab L gen n d ds w'
set_option maxRecDepth 100000 in
set_option maxHeartbeats 8000000 in
theorem open_con {w0 w : World} {sb : Nat} {S : V.SV} {W : V.SW} {L : Nat → Option V.Role} {n d : Nat} {ids : List Nat} {con : Nat → List Int} (r : V.Rep w sb S W L) (MD : V.Md S n d ids ids.length) (CN : V.Con S ids con) (h3 : ids.length = 3) (hn : n ≤ 20000)
    (hK : KAt w0) (e0 : Ext w0 w) (hL : ∀ i, L i ≠ none → w0.heap.size ≤ i) (gen : Nat) (ds : List RD) (hi : imageL ds = true) (hb : BytR ds) (ht : TimR ds) (hg : 1 ≤ gen ∧ gen ≤ 2000000)
    (p q : Nat) (hpq : p < q) (hq : q < 3) (ep : con p = pageI gen ds) (eq : con q = pageI gen ds) :
    Calls Tryz.prog 19 #[V.ptr sb] w (OpP w sb L gen (n + 25) d ds) := by
  have hKw := hK.below e0 hK.lt
  have hcon : ∀ k, k < 3 → Byt (con k) ∧ (con k).length ≤ 70000 := fun k hk => by
    obtain ⟨a, ha⟩ : ∃ a, ids[k]? = some a := ⟨_, List.getElem?_eq_getElem (by omega)⟩
    have hm := List.mem_of_getElem? ha
    rw [← CN k a ha]
    exact ⟨fun x hx => (r.nd a (MD.mem a hm)).2.bn x hx, by have := MD.lens a hm; omega⟩
  have RDO : ∀ w1, Ext w w1 → ∀ k, k < 3 → Calls Tryz.prog 61 #[V.ptr sb, .string (cpT k)] w1 fun e w2 => ∃ x, e = .returned (.tuple #[x, .int .i64 0]) ∧ OwnB w2 w1.heap.size x (con k) ∧ Ext w1 w2 := fun w1 e1 k hk => by
    obtain ⟨a, ha⟩ : ∃ a, ids[k]? = some a := ⟨_, List.getElem?_eq_getElem (by omega)⟩
    have ff : S.file (cpT k).toList = (some a, 0) := by rw [cpT_list]; exact MD.filea k a hk ha
    have := (V.read_ok sb S W L (cpT k) a w1 (r.ext e1) (by have := (MD.fit (by omega)).names; omega) ff).mono fun e w2 ⟨x, h1, h2, h3, h4⟩ => (⟨x, h1, own_row h2 h4, h3⟩ : ∃ x, e = Ending.returned (.tuple #[x, .int .i64 0]) ∧ OwnB w2 w1.heap.size x (S.nd a).now ∧ Ext w1 w2)
    rw [CN k a ha] at this
    exact this
  have VO := Lib.hid (voted_con sb w hKw con hcon RDO gen ds hi hb ht ⟨hg.1, by omega⟩ p q hpq hq ep eq)
  have SET := Lib.hid (fun (w1 : World) (ab : Nat) (v1 : Value) (l1 : List RV) (e1 : Ext w w1) (hab : w.heap.size ≤ ab) (A1 : Arc w1 sb ab S W L gen v1 l1) (hd : l1.map RV.d = ds) => settle_con A1 MD CN h3 hn (hKw.below e1 hKw.lt) (fun w' M => (hKw.below e1 hKw.lt).below (M.below (n := w0.heap.size) hL (by have := e0.size; omega) (by have := e0.size; have := e1.size; omega)).1 hK.lt) (by rw [hd]; exact hi) (by rw [hd]; exact hb) hg)
  have HR := Lib.hid r
  have hlt := fun i (h : L i ≠ none) => r.lt i h
  have HLT := Lib.hid hlt
  clear r MD CN h3 hn hK e0 hL hi hb ht hg hpq hq ep eq hKw hcon RDO hlt
  unfold V.ptr at VO ⊢
  go_enter Tryz.func19, Tryz.ntmps19
  go_wp2_with fail
  refine (VO.out).mono ?_
  rintro e w1 ⟨ab, v1, l1, rfl, e1, hab, a1, rr, hd⟩
  have A1 : Arc w1 sb ab S W L gen v1 l1 := ⟨HR.out.ext e1, by
    cases e : L ab with
    | none => rfl
    | some q => have := HLT.out ab (by rw [e]; simp); omega, a1, rr _ fun i hi => by
      rcases hi with hi | hi
      · exact Or.inl (HLT.out i hi)
      · exact Or.inr hi⟩
  have ST := Lib.hid (SET.out w1 ab v1 l1 e1 hab A1 hd)
  rw [hd] at ST
  have HAB := Lib.hid (And.intro hab (And.intro A1.lt e1))
  unfold V.ptr at ST
  clear A1 VO hab e1 a1 rr hd SET
  go_wp2_with fail
  refine (ST.out).mono ?_
  rintro e w2 ⟨rfl, cm⟩
  have F := Lib.hid (show OpP w sb L gen (n + 25) d ds (.returned (.tuple #[.pointer (some ⟨ab, 0, none⟩), .int .i64 0])) w2 from ⟨ab, w1, rfl, HAB.out.1, HAB.out.2.1, HAB.out.2.2, cm⟩)
  clear cm ST
  go_wp2
  go_ret2
  exact F.out
end Go.Proofs.YtnhokjnmpdiokaaGreatDoor
