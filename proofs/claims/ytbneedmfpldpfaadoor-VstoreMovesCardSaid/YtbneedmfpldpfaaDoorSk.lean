/- Contracts of apply of no act, held where there is none or one that makes a name. -/
import Derived.Test.YtbneedmfpldpfaaDoorSi
set_option linter.unusedSimpArgs false
namespace Go.Proofs.YtbneedmfpldpfaaDoor
open Go.RowKit Go.Pth

set_option maxHeartbeats 4000000 in
theorem apply_none (p : Value) (ad : Option Addr) (cap : Nat) (w : World) : Calls Tryd.prog 33 #[p, .slice ad 0 cap] w fun e w' => e = .returned (.tuple #[]) ∧ w = w' := by
  go_enter Tryd.func33, Tryd.ntmps33
  go_wp2
  go_loopw [8] (fun s8 wr => s8 = .int .i64 0 ∧ w = wr) (fun _ _ => 0)
  case atStart => exact ⟨rfl, rfl⟩
  case round =>
    obtain ⟨rfl, rfl⟩ := hrel
    go_wp2
    go_end0
    exact ⟨rfl, rfl⟩
set_option maxRecDepth 100000 in
set_option maxHeartbeats 8000000 in
theorem held_none (b : Nat) (S : SV) (V : SW) (L : Nat → Option Role) (pick : Int) (w : World) (h : Rep w b S V L) (ha : S.acts = []) (hk : S.kept.length ≤ 100000) :
    Calls Tryd.prog 35 #[ptr b, .int .i64 pick] w fun e w' => ∃ v, e = .returned v ∧ Tr w' v S.kept ∧ Ext w w' := by
  obtain ⟨da, ca, hva, hc1, hc2, hc3, -⟩ := h.ac.shape
  rw [ha] at hva hc1 hc3
  simp only [List.length_nil] at hva hc1 hc3
  have c4 := h.c 4
  have c3 := h.c 3
  simp only [scells, hva] at c4
  have C3 := Lib.hid (show w.cell? ⟨b, 3, none⟩ = some V.k by rw [c3]; rfl)
  have CT := Lib.hid (clonet_any V.k S.kept w h.kp (by omega))
  have AN := Lib.hid apply_none
  simp only [maxLen] at hc2
  have C4 := Lib.hid (show w.cell? ⟨b, 4, none⟩ = some (.slice da 0 ca) by rw [c4]; rfl)
  clear h ha hva c3 c4 hc3
  have d4 := C4.out
  have d3 := C3.out
  unfold ptr
  go_enter Tryd.func35, Tryd.ntmps35
  go_wp2_with fail
  refine (CT.out).mono ?_
  rintro e w1 ⟨v, rfl, rv, hE, hfr⟩
  obtain ⟨dv, kv, hvv, -⟩ := rv.shape
  have RV := Lib.hid rv
  have HE := Lib.hid hE
  subst hvv
  obtain ⟨W2, hW2⟩ : ∃ W2, W2 = w1.alloc (.cells #[.slice dv S.kept.length kv] 60) := ⟨_, rfl⟩
  have e4 := (hE.trans (Ext.alloc w1 (.cells #[.slice dv S.kept.length kv] 60))).cell C4.out
  have EW := Lib.hid (hE.trans (Ext.alloc w1 (.cells #[.slice dv S.kept.length kv] 60)))
  have RW := Lib.hid (rv.ext (Ext.alloc w1 (.cells #[.slice dv S.kept.length kv] 60)))
  clear rv hE hfr CT hW2 W2 d3 d4
  go_wp2_with (go_at_call 33; refine (AN.out _ _ _ _).mono ?_; rintro e w' ⟨rfl, rfl⟩)
  go_ret
  exact ⟨_, rfl, Tr.of_row RW.out, EW.out⟩

set_option maxRecDepth 100000 in
set_option maxHeartbeats 8000000 in
/-- One act is not safe, and holds. -/
theorem held_one (b : Nat) (S : SV) (V : SW) (L : Nat → Option Role) (p : B) (a : Nat) (w : World) (h : Rep w b S V L) (ha : S.acts = [⟨[], p, some a⟩]) (hk : S.kept.length ≤ 100000) (hend : place S.kept p = S.kept.length) :
    Calls Tryd.prog 35 #[ptr b, .int .i64 1] w fun e w' => ∃ v, e = .returned v ∧ Tr w' v (S.kept ++ [(p, a)]) ∧ Ext w w' := by
  have hac := h.ac
  rw [ha] at hac
  obtain ⟨ga, ca, cura, hva, -, hga, hc1, hc2, hcs, hx⟩ : ∃ g cap cur, V.a = .slice (some ⟨g, 0, none⟩) 1 cap ∧ 0 ≤ g ∧ w.heap[g]? = some (.cells cur 87 (0, 0)) ∧ 1 ≤ cap ∧ cap ≤ maxLen ∧ cur.size = cap * 3 ∧ cur.toList.take (1 * 3) = acells [⟨[], p, some a⟩] := by
    rcases hac.2 with ⟨_, h0⟩ | h0
    · cases h0
    · exact h0
  have hat : At w ga cura 87 := hga
  have cx : ∀ j, j < 3 → w.cell? ⟨ga, j, none⟩ = (acells [⟨[], p, some a⟩])[j]? := fun j hj => by
    rw [hat.cell, ← hx, List.getElem?_take_of_lt (by omega), Array.getElem?_toList]
  have x0 := Lib.hid (show w.cell? ⟨ga, 0, none⟩ = some (.string ⟨#[]⟩) from cx 0 (by omega))
  have x1 := Lib.hid (show w.cell? ⟨ga, 0 + 1, none⟩ = some (.string (tx p)) from cx 1 (by omega))
  have x2 := Lib.hid (show w.cell? ⟨ga, 0 + 2, none⟩ = some (ptr a) from cx 2 (by omega))
  have C3 := Lib.hid (show w.cell? ⟨b, 3, none⟩ = some V.k by rw [h.c 3]; rfl)
  have C4 := Lib.hid (show w.cell? ⟨b, 4, none⟩ = some (.slice (some ⟨ga, 0, none⟩) 1 ca) by rw [h.c 4, ← hva]; rfl)
  have CT := Lib.hid (clonet_any V.k S.kept w h.kp (by omega))
  have SK := Lib.hid h.sk
  have HK := Lib.hid hend
  simp only [maxLen] at hc2
  clear h ha hva hac hat cx hga hcs hx hend
  have d4 := C4.out
  have d3 := C3.out
  have i0 : (1 : Int) ≤ (ca : Int) := by omega
  unfold ptr
  go_enter Tryd.func35, Tryd.ntmps35
  go_wp2_with fail
  refine (CT.out).mono ?_
  rintro e w1 ⟨v, rfl, rv, hE, hfr⟩
  obtain ⟨dv, kv, hvv, -⟩ := rv.shape
  subst hvv
  have eA := Ext.alloc w1 (.cells #[.slice dv S.kept.length kv] 60)
  have e4 := (hE.trans eA).cell C4.out
  have hatb : At (w1.alloc (.cells #[.slice dv S.kept.length kv] 60)) w1.heap.size #[.slice dv S.kept.length kv] 60 := At.new _ _ _
  have AP := apply_made w1.heap.size 0 #[.slice dv S.kept.length kv] 60 (.slice dv S.kept.length kv) S.kept p a ga 0 ca _ hatb rfl (rv.ext eA) (fun e => by have := rv.lt _ e; omega) SK.out (by omega) HK.out ((hE.trans eA).cell x0.out) ((hE.trans eA).cell x1.out) ((hE.trans eA).cell x2.out)
  have AP2 : Calls Tryd.prog 33 #[.pointer (some ⟨w1.heap.size, 0, none⟩), .slice (some ⟨ga, 0, none⟩) 1 ca] (w1.alloc (.cells #[.slice dv S.kept.length kv] 60)) fun e w' => e = .returned (.tuple #[]) ∧ ∃ v', w'.cell? ⟨w1.heap.size, 0, none⟩ = some v' ∧ Tr w' v' (S.kept ++ [(p, a)]) ∧ Ext w w' :=
    AP.mono fun e w' ⟨q1, v', w2, q2, q3, q4⟩ => by
      subst q4
      have nb : v'.ownBlock ≠ some w1.heap.size := grew_na q3 hatb.lt (fun e => by have := rv.lt _ e; omega)
      have hc := (q3.chg.at hatb (fun e => by have := rv.lt _ e; omega)).set 0 v'
      have sc := Chg.setCell w2 w1.heap.size 0 v'
      refine ⟨q1, v', by rw [hc.cell]; rfl, Tr.of_row (by rw [List.length_append]; exact q2.chg sc fun q hq e => nb (e ▸ hq)), ?_⟩
      have s1 := hE.size
      have s2 := eA.size
      rw [size_alloc] at s2
      have k1 := (Chg.of_ext (X := fun _ => False) (hE.trans eA)).trans q3.chg (fun i hi e => by have := hfr i e; omega)
      exact (k1.trans sc (fun i hi e => by omega)).ext
  have HP := Lib.hid AP2
  clear AP AP2 hatb eA rv hE hfr CT d3 d4 C3 C4 x0 x1 x2 SK HK
  go_wp2_with (go_at_call 33; refine (HP.out).mono ?_; rintro e w' ⟨rfl, v', hcv, htr, hEE⟩)
  go_ret
  exact ⟨_, rfl, htr, hEE⟩
end Go.Proofs.YtbneedmfpldpfaaDoor
