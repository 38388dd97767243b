/- The contracts of the document's own lists and SameSide, and of the law's flat and made. -/
import Derived.Test.YtfhgoedonjcekaaDoorSc
import Derived.Test.YtfhgoedonjcekaaDoorPe
namespace Go.Sha
open Go.RowKit
/-- Whether two lists are alike. -/
def eqLL (a b : List (List Int)) : Bool := ((a.length : Int) == (b.length : Int)) && (a.zip b).all fun p => eqS p.1 p.2
theorem eqLL_self (a : List (List Int)) : eqLL a a = true := by
  unfold eqLL
  simp only [beq_self_eq_true, Bool.true_and, List.all_eq_true]
  intro p hp
  have : p.1 = p.2 := by
    obtain ⟨i, h1, h2⟩ := List.mem_iff_getElem.1 hp
    rw [← h2, List.getElem_zip]
  rw [this, eqS_self]
def sameL (a b : Sd) : Bool := (a.size == b.size) && (a.block == b.block) && (a.k == b.k) && eqS a.root b.root && eqLL a.leaves b.leaves && eqLL a.parity b.parity
theorem sameL_self (a : Sd) : sameL a a = true := by simp [sameL, eqS_self, eqLL_self]
end Go.Sha
namespace Go.Proofs.YtfhgoedonjcekaaDoor
open Go.RowKit Go.Sha
set_option linter.unusedSimpArgs false

def InvLs (w : World) (a b : List (List Int)) (n : Nat) (i : Value) (wr : World) : Prop := ∃ k : Nat, k ≤ n ∧ i = .int .i64 k ∧ ((a.zip b).take k).all (fun p => eqS p.1 p.2) = true ∧ Ext w wr

set_option maxHeartbeats 1000000 in
theorem rlists_any (v u : Value) (a b : List (List Int)) (w : World) (hv : LR w v a w.heap.size) (hu : LR w u b w.heap.size) (hl : a.length ≤ 9223372036854775807) (hl2 : b.length ≤ 9223372036854775807) :
    Calls Tryd.prog 33 #[v, u] w fun e w' => e = .returned (.bool (eqLL a b)) ∧ Ext w w' := by
  obtain ⟨adv, capv, ev⟩ := hv.len
  subst ev
  obtain ⟨adu, capu, eu⟩ := hu.len
  subst eu
  obtain ⟨N, hN⟩ : ∃ N, N = a.length := ⟨_, rfl⟩
  obtain ⟨M, hM⟩ : ∃ N, N = b.length := ⟨_, rfl⟩
  have F : eqLL a b = (((N : Int) == (M : Int)) && (a.zip b).all fun p => eqS p.1 p.2) := by rw [eqLL, hN, hM]
  rw [F]
  clear F
  have HV := Lib.hid hv; clear hv
  have HU := Lib.hid hu; clear hu
  rw [← hN] at HV hl ⊢
  rw [← hM] at HU hl2 ⊢
  have HN := Lib.hid hN; clear hN
  have HM := Lib.hid hM; clear hM
  by_cases hNM : N = M
  · subst hNM
    have t0 : ((N : Int) == (N : Int)) = true := by simp
    rw [t0, Bool.true_and]
    go_enter Tryd.func33, Tryd.ntmps33
    go_wp2
    go_loopw [5] (fun i wr => InvLs w a b N i wr) (fun i _ => N - (intOf i).toNat)
    case atStart => exact ⟨0, by omega, rfl, by simp, Ext.refl w⟩
    case round =>
      obtain ⟨k, hk, rfl, hall, ex⟩ := hrel
      by_cases hlt : k < N
      · have i0 : (k : Int) < (N : Int) := by omega
        have i1 : (0 : Int) ≤ (k : Int) := by omega
        obtain ⟨m1, hm1⟩ : ∃ m, a[k]? = some m := ⟨_, List.getElem?_eq_getElem (by rw [← HN.out]; exact hlt)⟩
        obtain ⟨m2, hm2⟩ : ∃ m, b[k]? = some m := ⟨_, List.getElem?_eq_getElem (by rw [← HM.out]; exact hlt)⟩
        have hv := HV.out
        have hu := HU.out
        rw [HN.out] at hv
        rw [HM.out] at hu
        obtain ⟨cap1, pb, po, ev1, _, hc1⟩ := lr_at hv (by rw [← HN.out]; omega)
        obtain ⟨cap2, qb, qo, ev2, _, hc2⟩ := lr_at hu (by rw [← HM.out]; omega)
        injection ev1 with a1 _ a2
        injection ev2 with a3 _ a4
        subst a1 a2 a3 a4
        obtain ⟨x1, c1, s1⟩ := hc1 k m1 hm1
        obtain ⟨x2, c2, s2⟩ := hc2 k m2 hm2
        have c1' : wr.cell? ⟨pb, po + k, none⟩ = some x1 := by rw [Below.cell (p := ⟨pb, po + k, none⟩) ex (World.block_lt_of_cell? w _ c1)]; exact c1
        have c2' : wr.cell? ⟨qb, qo + k, none⟩ = some x2 := by rw [Below.cell (p := ⟨qb, qo + k, none⟩) ex (World.block_lt_of_cell? w _ c2)]; exact c2
        have v1 : ∀ n, (convert 22 9 x1).run Tryd.prog (wr.drewN n) = .ok (.string (strOfNums m1)) (wr.drewN n) := fun n => convB (s1.ext (belowN ex n))
        have v2 : ∀ n, (convert 22 9 x2).run Tryd.prog (wr.drewN n) = .ok (.string (strOfNums m2)) (wr.drewN n) := fun n => convB (s2.ext (belowN ex n))
        have hz : (a.zip b)[k]? = some (m1, m2) := by rw [List.getElem?_zip_eq_some]; exact ⟨hm1, hm2⟩
        have hstep : ((a.zip b).take (k + 1)).all (fun p => eqS p.1 p.2) = eqS m1 m2 := by
          rw [List.take_add_one, hz, List.all_append, hall]; simp
        have hmem := List.mem_of_getElem? hz
        have Hs := Lib.hid hstep
        clear hv hu hc1 hc2 c1 c2 s1 s2 HV HU hm1 hm2 hstep hz hall
        by_cases hb : eqS m1 m2 = true
        · have t1 : ((strOfNums m1).toList == (strOfNums m2).toList) = true := hb
          rw [hb] at Hs
          clear hb hmem
          go_wp2
          go_quiet (fail)
          go_wp2
          refine ⟨⟨k + 1, by omega, by go_num, Hs.out, belowN ex _⟩, by simp [intOf]; omega⟩
        · have hf : eqS m1 m2 = false := by simpa using hb
          have t1 : ((strOfNums m1).toList == (strOfNums m2).toList) = false := hf
          have fin : (a.zip b).all (fun p => eqS p.1 p.2) = false := by
            rw [List.all_eq_false]
            exact ⟨_, hmem, by simpa using hf⟩
          have Hf := Lib.hid fin
          clear hb hf hmem fin Hs
          go_wp2
          go_quiet (fail)
          go_wp2
          go_ret
          exact ⟨by rw [Hf.out]; rfl, belowN ex _⟩
      · have i0 : ¬ ((k : Int) < (N : Int)) := by omega
        have d0 : decide ((k : Int) < (N : Int)) = false := by simp; omega
        rw [List.take_of_length_le (by rw [List.length_zip, ← HN.out, ← HM.out]; omega)] at hall
        have Hf := Lib.hid hall
        clear hlt hall
        go_wp2
        go_ret
        exact ⟨by rw [Hf.out]; rfl, ex⟩
  · have t0 : ((N : Int) == (M : Int)) = false := by simp; omega
    rw [t0, Bool.false_and]
    replace t0 : ((N : Int) != (M : Int)) = true := by simp; omega
    go_enter Tryd.func33, Tryd.ntmps33
    go_wp2
    go_ret
    exact ⟨rfl, Ext.refl w⟩

theorem szRSide : (Tryd.prog.info? 30).map (·.size) = some 6 := by kernel_rfl
set_option maxHeartbeats 1000000 in
/-- The law's 'flat': the same cells. -/
theorem flat_any (z b k : Int) (adr adl adp : Option Addr) (nr capr nl capl np capp : Nat) (w : World) :
    Calls Tryd.prog 10 #[.agg #[.int .i64 z, .int .i64 b, .int .i64 k, .slice adr nr capr, .slice adl nl capl, .slice adp np capp]] w fun e w' => e = .returned (.agg #[.int .i64 z, .int .i64 b, .int .i64 k, .slice adr nr capr, .slice adl nl capl, .slice adp np capp]) ∧ Ext w w' := by
  have e0 : Ext w ((w.alloc (.cells #[.int .i64 z, .int .i64 b, .int .i64 k, .slice adr nr capr, .slice adl nl capl, .slice adp np capp] 26)).alloc (.cells zSide 30)) := (Ext.alloc w _).trans (Ext.alloc _ _)
  have a2 := At.new1 w (.cells #[.int .i64 z, .int .i64 b, .int .i64 k, .slice adr nr capr, .slice adl nl capl, .slice adp np capp] 26) zSide 30
  have o1 : (#[.int .i64 z, .int .i64 b, .int .i64 k, .slice adr nr capr, .slice adl nl capl, .slice adp np capp] : Array Value).all (·.oneCell') = true := by simp [Value.oneCell']
  have e1 := ext_only' e0 (Only.setRow (w.heap.size + 1) _ #[.int .i64 z, .int .i64 b, .int .i64 k, .slice adr nr capr, .slice adl nl capl, .slice adp np capp]) (by omega)
  have a3 := a2.row #[.int .i64 z, .int .i64 b, .int .i64 k, .slice adr nr capr, .slice adl nl capl, .slice adp np capp]
  have Hf := Lib.hid (And.intro e1 a3)
  unfold zSide at a2 Hf
  clear e0 e1 a3
  go_enter Tryd.func10, Tryd.ntmps10
  go_wp2_with (refine wpList_store_row rfl 30 _ _ rfl (w.heap.size + 1) _ rfl rfl 30 _ a2 szRSide rfl o1 ?_)
  exact bodyPost_ret (results_row rfl _ _ (w.heap.size + 1) 30 _ rfl Hf.out.2 Tryd.underlying30 rfl szRSide) rfl ⟨rfl, Hf.out.1⟩
set_option maxHeartbeats 1000000 in
/-- The law's 'made': the same cells. -/
theorem made_any (z b k : Int) (adr adl adp : Option Addr) (nr capr nl capl np capp : Nat) (w : World) :
    Calls Tryd.prog 14 #[.agg #[.int .i64 z, .int .i64 b, .int .i64 k, .slice adr nr capr, .slice adl nl capl, .slice adp np capp]] w fun e w' => e = .returned (.agg #[.int .i64 z, .int .i64 b, .int .i64 k, .slice adr nr capr, .slice adl nl capl, .slice adp np capp]) ∧ Ext w w' := by
  have e0 : Ext w ((w.alloc (.cells #[.int .i64 z, .int .i64 b, .int .i64 k, .slice adr nr capr, .slice adl nl capl, .slice adp np capp] 30)).alloc (.cells zSide 26)) := (Ext.alloc w _).trans (Ext.alloc _ _)
  have a2 := At.new1 w (.cells #[.int .i64 z, .int .i64 b, .int .i64 k, .slice adr nr capr, .slice adl nl capl, .slice adp np capp] 30) zSide 26
  have o1 : (#[.int .i64 z, .int .i64 b, .int .i64 k, .slice adr nr capr, .slice adl nl capl, .slice adp np capp] : Array Value).all (·.oneCell') = true := by simp [Value.oneCell']
  have e1 := ext_only' e0 (Only.setRow (w.heap.size + 1) _ #[.int .i64 z, .int .i64 b, .int .i64 k, .slice adr nr capr, .slice adl nl capl, .slice adp np capp]) (by omega)
  have a3 := a2.row #[.int .i64 z, .int .i64 b, .int .i64 k, .slice adr nr capr, .slice adl nl capl, .slice adp np capp]
  have Hf := Lib.hid (And.intro e1 a3)
  unfold zSide at a2 Hf
  clear e0 e1 a3
  go_enter Tryd.func14, Tryd.ntmps14
  go_wp2_with (refine wpList_store_row rfl 26 _ _ rfl (w.heap.size + 1) _ rfl rfl 26 _ a2 szSide rfl o1 ?_)
  exact bodyPost_ret (results_row rfl _ _ (w.heap.size + 1) 26 _ rfl Hf.out.2 Tryd.underlying26 rfl szSide) rfl ⟨rfl, Hf.out.1⟩
end Go.Proofs.YtfhgoedonjcekaaDoor
