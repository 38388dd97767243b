/- The contract of minority (the document's). -/
import Derived.Test.YtblhipdcgdhmiaaDoorHo
import Derived.Test.YtblhipdcgdhmiaaDoorHr
import Derived.BigQuiet
namespace Go.Proofs.YtblhipdcgdhmiaaDoor
open Go.RowKit Go.Sha
set_option linter.unusedSimpArgs false
set_option linter.unusedVariables false

/-- Numbers that lie in new memory. -/
def DPn (w : World) (l : List Int) (e : Ending) (w' : World) : Prop := ∃ v, e = .returned v ∧ Ext w w' ∧ IR w' v l ∧ ∀ g W, g < w.heap.size → Only g w' W → IR W v l
theorem own_ir_only {w W : World} {base g : Nat} {v : Value} {ps : List (Value × Int)} (h : OwnI w base v ps (fun _ => False)) (hg : g < base) (ho : Only g w W) : IR W v (ps.map (·.2)) := by
  have hb := h.block
  obtain ⟨ad, cap, pb, po, rfl, h1, h2⟩ := own_ir h
  refine ⟨ad, cap, pb, po, rfl, h1, fun j a hj => ?_⟩
  have hl : 0 < (ps.map (·.2)).length := by have := (List.getElem?_eq_some_iff.1 hj).1; omega
  obtain rfl := h1 hl
  have hne := hb pb rfl
  exact (World.cell?_of_block (ho.block pb hne.2 (by omega))).trans (h2 j a hj)
/-- Three slices in an array. -/
def AR (w : World) (v0 v1 v2 : Value) (L : List (List Int)) : Prop := ∀ k, k < 3 → ∃ v, (#[v0, v1, v2] : Array Value)[k]? = some v ∧ Src w v (L[k]?.getD []) w.heap.size
theorem AR.ext {w w' : World} {v0 v1 v2 : Value} {L : List (List Int)} (h : AR w v0 v1 v2 L) (he : Ext w w') : AR w' v0 v1 v2 L := fun k hk => by
  obtain ⟨v, h1, h2⟩ := h k hk
  exact ⟨v, h1, h2.now he⟩
theorem ar3 {w : World} {v0 v1 v2 : Value} {a b c : List Int} (h0 : Src w v0 a w.heap.size) (h1 : Src w v1 b w.heap.size) (h2 : Src w v2 c w.heap.size) : AR w v0 v1 v2 [a, b, c] := fun k hk => by
  match k, hk with
  | 0, _ => exact ⟨v0, rfl, h0⟩
  | 1, _ => exact ⟨v1, rfl, h1⟩
  | 2, _ => exact ⟨v2, rfl, h2⟩
def InvMi (w : World) (v0 v1 v2 : Value) (L : List (List Int)) (x : List Int) (v i : Value) (wr : World) : Prop :=
  ∃ (k : Nat) (ps : List (Value × Int)), k ≤ 3 ∧ i = .int .i64 k ∧ ps.length ≤ k ∧ ps.map (·.2) = minD L x k ∧ OwnI wr (w.heap.size + 1) v ps (fun _ => False) ∧ Ext w wr ∧ At wr w.heap.size #[v0, v1, v2] 38

set_option maxHeartbeats 4000000 in
set_option maxRecDepth 100000 in
theorem minority_any (v0 v1 v2 : Value) (L : List (List Int)) (i : Nat) (hi : i < 3) (w : World) (h : AR w v0 v1 v2 L) :
    Calls Tryd.prog 39 #[.agg #[v0, v1, v2], .int .i64 (i : Int)] w (DPn w (minD L (L[i]?.getD []) 3)) := by
  obtain ⟨xi, hxi, si⟩ := h i hi
  have HR := Lib.hid h
  have HXI := Lib.hid hxi
  obtain ⟨X, hX⟩ : ∃ X, L[i]?.getD [] = X := ⟨_, rfl⟩
  rw [hX] at si ⊢
  have SI := Lib.hid si
  have i3 : (i : Int) < 3 := by omega
  have i2 : (0 : Int) ≤ (i : Int) := by omega
  have e0 : Ext w (w.alloc (.cells #[v0, v1, v2] 38)) := Ext.alloc w _
  have a0 := At.new w #[v0, v1, v2] 38
  have H0 := Lib.hid (And.intro e0 a0)
  clear h hxi hX si e0 a0
  go_enter Tryd.func39, Tryd.ntmps39
  go_wp2
  go_loopw [5, 6] (fun v i wr => InvMi w v0 v1 v2 L X v i wr) (fun _ i _ => 3 - (intOf i).toNat)
  case atStart => exact ⟨0, [], by omega, rfl, by simp, rfl, OwnG.nil _ _ _ _ _, H0.out.1, H0.out.2⟩
  case round =>
    clear H0
    obtain ⟨k, ps, hk, rfl, hpl, hps, ow, ex, a0⟩ := hrel
    obtain ⟨ado, capo, evo⟩ := ow.len
    obtain ⟨q, hq⟩ : ∃ n, n = ps.length := ⟨_, rfl⟩
    rw [← hq] at evo hpl
    have Hq := Lib.hid hq
    clear hq
    subst evo
    have HPS := Lib.hid hps
    clear hps
    by_cases hlt : k < 3
    · have i0 : (k : Int) < 3 := by omega
      have i1 : (0 : Int) ≤ (k : Int) := by omega
      obtain ⟨xk, hxk, sk⟩ := HR.out k hlt
      obtain ⟨Z, hZ⟩ : ∃ X, L[k]?.getD [] = X := ⟨_, rfl⟩
      rw [hZ] at sk
      have HZ := Lib.hid hZ
      have ck : wr.cell? ⟨w.heap.size, k, none⟩ = some xk := (a0.cell k).trans hxk
      have ci : wr.cell? ⟨w.heap.size, i, none⟩ = some xi := (a0.cell i).trans HXI.out
      have k1 : ∀ n, (convert 22 9 xk).run Tryd.prog (wr.drewN n) = .ok (.string (strOfNums Z)) (wr.drewN n) := fun n => convB (sk.ext (belowN ex n))
      have k2 : ∀ n, (convert 22 9 xi).run Tryd.prog (wr.drewN n) = .ok (.string (strOfNums X)) (wr.drewN n) := fun n => convB (SI.out.ext (belowN ex n))
      obtain ⟨B, hB⟩ : ∃ B, eqS Z X = B := ⟨_, rfl⟩
      have HB := Lib.hid hB
      have hB2 : ((strOfNums Z).toList == (strOfNums X).toList) = B := hB
      have HA := Lib.hid a0
      have HO := Lib.hid ow
      have HE := Lib.hid ex
      clear hxk sk hZ hB a0 ow ex
      cases B
      · go_wp2
        go_quiet (fail)
        have ex2 : Ext w (wr.drewN nq) := belowN HE.out nq
        have a2 := at_ext HA.out (belowN (Ext.refl wr) nq)
        have ow2 := HO.out.ext ri_kept (belowN (Ext.refl wr) nq)
        generalize wr.drewN nq = w6 at *
        have lt6 := a2.lt
        have cI := cell_one w6 (.int .i64 (k : Int)) 3
        have e7 : Ext w6 (w6.alloc (.cells #[.int .i64 (k : Int)] 3)) := Ext.alloc w6 _
        have a37 := at_ext a2 e7
        have sz7 : w.heap.size + 1 ≤ (w6.alloc (.cells #[.int .i64 (k : Int)] 3)).heap.size := a37.lt
        have F := Lib.hid (And.intro (ex2.trans e7) a37)
        clear a2 a37 e7 ex2 ck ci k1 k2 HE HA HO hB2
        go_wp2_with (refine list_append_g ri_kept rfl (.tmp 20) (.tmp 22) 40 rfl (.int .i64 0) 8 Tryd.underlying40 u3zero rfl (by omega) (w.heap.size + 1) (.slice ado q capo) ps (fun _ => False) rfl (own_one ri_kept ow2 _ 3) w6.heap.size 1 _ (k : Int) rfl cI rfl (fun _ _ => rfl) (by have := Hq.out; omega) sz7 ?_; intro v3 w4 o3 b3)
        have b4 : Below w.heap.size _ w4 := ⟨b3.os, b3.tape, b3.output, b3.size, fun k hk => b3.block k (by omega)⟩
        exact ⟨⟨k + 1, _, by omega, by go_num, by have := Hq.out; simp; omega, by rw [minD, HZ.out, HB.out, ← HPS.out]; simp, o3, Below.trans F.out.1 b4, F.out.2.below b3 (by omega)⟩, by simp [intOf]; omega⟩
      · go_wp2
        go_quiet (fail)
        have ex2 : Ext w (wr.drewN nq) := belowN HE.out nq
        have a2 := at_ext HA.out (belowN (Ext.refl wr) nq)
        have ow2 := HO.out.ext ri_kept (belowN (Ext.refl wr) nq)
        have F := Lib.hid (And.intro ow2 (And.intro ex2 a2))
        clear a2 ex2 ow2 ck ci k1 k2 HE HA HO hB2
        go_wp2
        exact ⟨⟨k + 1, ps, by omega, by go_num, by have := Hq.out; omega, by rw [minD, HZ.out, HB.out, ← HPS.out]; simp, F.out.1, F.out.2.1, F.out.2.2⟩, by simp [intOf]; omega⟩
    · have i0 : ¬ ((k : Int) < 3) := by omega
      have d0 : decide ((k : Int) < 3) = false := by simp; omega
      obtain rfl : k = 3 := by omega
      have F := Lib.hid (And.intro ex (And.intro (own_ir ow) (fun (g : Nat) (W : World) (hg : g < w.heap.size) (ho : Only g wr W) => own_ir_only ow (by omega) ho)))
      clear hlt ow ex
      have hq := Hq.out
      subst hq
      go_wp2
      go_ret
      refine ⟨_, rfl, F.out.1, ?_, fun g W hg ho => ?_⟩
      · rw [← HPS.out]; exact F.out.2.1
      · rw [← HPS.out]; exact F.out.2.2 g W hg ho
end Go.Proofs.YtblhipdcgdhmiaaDoor
