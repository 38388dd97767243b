/- put, wherever the names go; take. -/
import Derived.Test.YtbneedmfpldpfaaDoorGd
set_option linter.unusedSimpArgs false
namespace Go.Proofs.YtbneedmfpldpfaaDoor
open Go.RowKit Go.Pth

def PutPost (w : World) (c j q : Nat) (v : Value) (X : List Value) (e : Ending) (w' : World) : Prop := e = .returned (.tuple #[]) ∧ ∃ v' w1, Row w1 64 2 v' q X ∧ Grew w w1 v v' ∧ w' = w1.setCell ⟨c, j, none⟩ v'
def InsPost (w : World) (q : Nat) (v : Value) (X : List Value) (e : Ending) (w' : World) : Prop := ∃ v', e = .returned v' ∧ Row w' 64 2 v' q X ∧ Grew w w' v v'

set_option maxRecDepth 100000 in
set_option maxHeartbeats 8000000 in
theorem put_gen (c j k q : Nat) (X : List Value) (cs : Array Value) (tc : TypeId) (v vr : Value) (l r : List Nm) (w : World) (hc : At w c cs tc) (hj : cs[j]? = some v) (h : Row w 64 2 v l.length (ents l)) (hoc : v.ownBlock ≠ some c) {ad : Option Addr} {cap b o : Nat} (hr : TrR w vr r ad cap b o) (hr0 : 0 < r.length) (hs : Srt l) (hl : l.length ≤ 1000000)
    (hend : place l (r[0]'hr0).1 = k) (hin : ∀ w', Ext w w' → Calls Tryd.prog 72 #[v, .int .i64 k, vr] w' (InsPost w' q v X)) :
    Calls Tryd.prog 55 #[.pointer (some ⟨c, j, none⟩), vr] w (PutPost w c j q v X) := by
  have cv : w.cell? ⟨c, j, none⟩ = some v := by rw [hc.cell, hj]
  have cn : w.cell? ⟨b, o, none⟩ = some (.string (tx r[0].1)) := by have := hr.nm 0 hr0; simpa using this
  have hv := hr.val
  have had := hr.adr hr0
  subst had
  subst hv
  obtain ⟨dv, kv, hvv, -⟩ := h.shape
  subst hvv
  have PL := Lib.hid (fun w' (he : Ext w w') => (place_any (.slice dv l.length kv) l (tx r[0].1) w' ((Tr.of_row h).ext he) hs hl))
  rw [tx_list, hend] at PL
  have IN := Lib.hid hin
  have AT := Lib.hid (fun w' (he : Ext w w') v' w1 (g : Grew w' w1 (.slice dv l.length kv) v') => g.chg.at (hc.ext he) hoc)
  have CJ := Lib.hid hj
  have GE := Lib.hid (fun w' (he : Ext w w') v' w1 (g : Grew w' w1 (.slice dv l.length kv) v') => (⟨(Chg.of_ext he).trans g.chg fun _ _ x => x, by rcases g.own with e | ⟨q, e1, e2⟩; exact Or.inl e; exact Or.inr ⟨q, e1, Nat.le_trans he.size e2⟩⟩ : Grew w w1 (.slice dv l.length kv) v'))
  have hE : Ext w w.drew := Ext.drew w
  clear hc hj h hr hs hend hoc hin
  generalize tx r[0].1 = nm at *
  have m0 : (0 : Int) < (r.length : Int) := by omega
  generalize r.length = m at *
  generalize l.length = n at *
  go_enter Tryd.func55, Tryd.ntmps55
  go_upto_region 0 with fail
  refine wp_region_any (by kernel_rfl) ?_
  change wpAny _ _ _ _ _ _ _ (World.drew _)
  refine take_at 0 (some 4) (.pointer (some ⟨c, j, none⟩)) rfl rfl (by kernel_rfl) (by kernel_rfl) (by kernel_rfl) (fun _ _ _ h => h) rfl (fun _ => by go_simp) ?_
  simp only [Act.put, List.setIfInBounds_toArray, List.set_cons_zero, List.set_cons_succ]
  refine take_at 1 (some 5) (.pointer (some ⟨c, j, none⟩)) rfl rfl (by kernel_rfl) (by kernel_rfl) (by kernel_rfl) (fun _ _ _ h => h) rfl (fun _ => by go_simp) ?_
  simp only [Act.put, List.setIfInBounds_toArray, List.set_cons_zero, List.set_cons_succ]
  refine take_at 2 (some 6) (.pointer (some ⟨c, j, none⟩)) rfl rfl (by kernel_rfl) (by kernel_rfl) (by kernel_rfl) (fun _ _ _ h => h) rfl (fun _ => by go_simp) ?_
  simp only [Act.put, List.setIfInBounds_toArray, List.set_cons_zero, List.set_cons_succ]
  refine take_at 4 (some 8) (.pointer (some ⟨c, j, none⟩)) rfl rfl (by kernel_rfl) (by kernel_rfl) (by kernel_rfl) (fun _ _ _ h => h) rfl (fun _ => by go_simp) ?_
  simp only [Act.put, List.setIfInBounds_toArray, List.set_cons_zero, List.set_cons_succ]
  refine take_at 5 (some 9) (.pointer (some ⟨c, j, none⟩)) rfl rfl (by kernel_rfl) (by kernel_rfl) (by kernel_rfl) (fun _ _ _ h => h) rfl (fun _ => by go_simp) ?_
  simp only [Act.put, List.setIfInBounds_toArray, List.set_cons_zero, List.set_cons_succ]
  refine take_at 7 (some 11) (.slice (some ⟨b, o, none⟩) m cap) rfl rfl (by kernel_rfl) (by kernel_rfl) (by kernel_rfl) (fun _ _ _ h => h) rfl (fun _ => by go_simp) ?_
  simp only [Act.put, List.setIfInBounds_toArray, List.set_cons_zero, List.set_cons_succ]
  refine take_at 8 (some 12) (.pointer (some ⟨b, o, none⟩)) rfl rfl (by kernel_rfl) (by kernel_rfl) (by kernel_rfl) (fun _ _ _ h => h) rfl (fun _ => by go_simp) ?_
  simp only [Act.put, List.setIfInBounds_toArray, List.set_cons_zero, List.set_cons_succ]
  refine take_at 9 (some 13) (.pointer (some ⟨b, o, none⟩)) rfl rfl (by kernel_rfl) (by kernel_rfl) (by kernel_rfl) (fun _ _ _ h => h) rfl (fun _ => by go_simp) ?_
  simp only [Act.put, List.setIfInBounds_toArray, List.set_cons_zero, List.set_cons_succ]
  refine take_at 12 (some 16) (.slice (some ⟨b, o, none⟩) m cap) rfl rfl (by kernel_rfl) (by kernel_rfl) (by kernel_rfl) (fun _ _ _ h => h) rfl (fun _ => by go_simp) ?_
  simp only [Act.put, List.setIfInBounds_toArray, List.set_cons_zero, List.set_cons_succ]
  refine next_three 3 6 10 rfl rfl rfl (by kernel_rfl) rfl rfl rfl (fun K hK => ?_) (fun K hK => ?_) (fun K hK => ?_)
  · refine runL (some 7) rfl (.slice dv n kv) (by have := hE.cell cv; go_simp) ?_
    refine hK _ _ ?_
    clear hK K
    simp only [Act.put, List.setIfInBounds_toArray, List.set_cons_zero, List.set_cons_succ]
    refine next_two 6 10 rfl rfl (by kernel_rfl) rfl rfl (fun K hK => ?_) (fun K hK => ?_)
    · refine runL (some 10) rfl (.slice dv n kv) (by have := hE.cell cv; go_simp) ?_
      refine hK _ _ ?_
      clear hK K
      simp only [Act.put, List.setIfInBounds_toArray, List.set_cons_zero, List.set_cons_succ]
      refine next_one 10 rfl (by kernel_rfl) rfl (fun K hK => ?_)
      refine runL (some 14) rfl (.string nm) (by have := hE.cell cn; go_simp) ?_
      refine hK _ _ ?_
      clear hK K
      simp only [Act.put, List.setIfInBounds_toArray, List.set_cons_zero, List.set_cons_succ]
      refine next_one 11 rfl (by kernel_rfl) rfl (fun K hK => ?_)
      refine callS (some 15) rfl 51 #[.slice dv n kv, .string nm] (by go_simp) (fun v' w' => v' = .int .i64 k ∧ Ext w w') ((PL.out _ hE).mono fun e w' he => ⟨_, he.1, rfl, hE.trans he.2⟩) ?_
      rintro v3 w3 ⟨rfl, hE⟩
      refine hK _ _ ?_
      clear hK K
      simp only [Act.put, List.setIfInBounds_toArray, List.set_cons_zero, List.set_cons_succ]
      refine next_one 13 rfl (by kernel_rfl) rfl (fun K hK => ?_)
      refine callS (some 17) rfl 72 #[.slice dv n kv, .int .i64 k, .slice (some ⟨b, o, none⟩) m cap] (by go_simp) (fun v' w' => Row w' 64 2 v' q X ∧ Grew _ w' (.slice dv n kv) v') ((IN.out _ hE).mono fun e w' he => he) ?_
      rintro v4 w4 ⟨r4, g4⟩
      refine hK _ _ ?_
      clear hK K
      simp only [Act.put, List.setIfInBounds_toArray, List.set_cons_zero, List.set_cons_succ]
      have at4 := AT.out _ hE _ _ g4
      have c4 := at4.cell j
      rw [CJ.out] at c4
      have f4 := at4.frozen j
      have G4 := Lib.hid (GE.out _ hE _ _ g4)
      have R4 := Lib.hid r4
      obtain ⟨d4, k4, hv4, -⟩ := r4.shape
      subst hv4
      clear r4 g4 at4
      refine take_at 14 (some 18) (.pointer (some ⟨c, j, none⟩)) rfl rfl (by kernel_rfl) (by kernel_rfl) (by kernel_rfl) (fun _ _ _ h => h) rfl (fun _ => by go_simp) ?_
      simp only [Act.put, List.setIfInBounds_toArray, List.set_cons_zero, List.set_cons_succ]
      refine next_one 15 rfl (by kernel_rfl) rfl (fun K hK => ?_)
      refine runN rfl (w4.setCell ⟨c, j, none⟩ (.slice d4 q k4)) (by go_simp) ?_
      refine hK _ _ ?_
      clear hK K
      refine wpAny_done (by kernel_rfl) ?_ _
      go_wp2
      go_end0
      exact ⟨rfl, _, _, R4.out, G4.out, rfl⟩
    · refine runL (some 14) rfl (.string nm) (by have := hE.cell cn; go_simp) ?_
      refine hK _ _ ?_
      clear hK K
      simp only [Act.put, List.setIfInBounds_toArray, List.set_cons_zero, List.set_cons_succ]
      refine next_one 6 rfl (by kernel_rfl) rfl (fun K hK => ?_)
      refine runL (some 10) rfl (.slice dv n kv) (by have := hE.cell cv; go_simp) ?_
      refine hK _ _ ?_
      clear hK K
      simp only [Act.put, List.setIfInBounds_toArray, List.set_cons_zero, List.set_cons_succ]
      refine next_one 11 rfl (by kernel_rfl) rfl (fun K hK => ?_)
      refine callS (some 15) rfl 51 #[.slice dv n kv, .string nm] (by go_simp) (fun v' w' => v' = .int .i64 k ∧ Ext w w') ((PL.out _ hE).mono fun e w' he => ⟨_, he.1, rfl, hE.trans he.2⟩) ?_
      rintro v3 w3 ⟨rfl, hE⟩
      refine hK _ _ ?_
      clear hK K
      simp only [Act.put, List.setIfInBounds_toArray, List.set_cons_zero, List.set_cons_succ]
      refine next_one 13 rfl (by kernel_rfl) rfl (fun K hK => ?_)
      refine callS (some 17) rfl 72 #[.slice dv n kv, .int .i64 k, .slice (some ⟨b, o, none⟩) m cap] (by go_simp) (fun v' w' => Row w' 64 2 v' q X ∧ Grew _ w' (.slice dv n kv) v') ((IN.out _ hE).mono fun e w' he => he) ?_
      rintro v4 w4 ⟨r4, g4⟩
      refine hK _ _ ?_
      clear hK K
      simp only [Act.put, List.setIfInBounds_toArray, List.set_cons_zero, List.set_cons_succ]
      have at4 := AT.out _ hE _ _ g4
      have c4 := at4.cell j
      rw [CJ.out] at c4
      have f4 := at4.frozen j
      have G4 := Lib.hid (GE.out _ hE _ _ g4)
      have R4 := Lib.hid r4
      obtain ⟨d4, k4, hv4, -⟩ := r4.shape
      subst hv4
      clear r4 g4 at4
      refine take_at 14 (some 18) (.pointer (some ⟨c, j, none⟩)) rfl rfl (by kernel_rfl) (by kernel_rfl) (by kernel_rfl) (fun _ _ _ h => h) rfl (fun _ => by go_simp) ?_
      simp only [Act.put, List.setIfInBounds_toArray, List.set_cons_zero, List.set_cons_succ]
      refine next_one 15 rfl (by kernel_rfl) rfl (fun K hK => ?_)
      refine runN rfl (w4.setCell ⟨c, j, none⟩ (.slice d4 q k4)) (by go_simp) ?_
      refine hK _ _ ?_
      clear hK K
      refine wpAny_done (by kernel_rfl) ?_ _
      go_wp2
      go_end0
      exact ⟨rfl, _, _, R4.out, G4.out, rfl⟩
  · refine runL (some 10) rfl (.slice dv n kv) (by have := hE.cell cv; go_simp) ?_
    refine hK _ _ ?_
    clear hK K
    simp only [Act.put, List.setIfInBounds_toArray, List.set_cons_zero, List.set_cons_succ]
    refine next_two 3 10 rfl rfl (by kernel_rfl) rfl rfl (fun K hK => ?_) (fun K hK => ?_)
    · refine runL (some 7) rfl (.slice dv n kv) (by have := hE.cell cv; go_simp) ?_
      refine hK _ _ ?_
      clear hK K
      simp only [Act.put, List.setIfInBounds_toArray, List.set_cons_zero, List.set_cons_succ]
      refine next_one 10 rfl (by kernel_rfl) rfl (fun K hK => ?_)
      refine runL (some 14) rfl (.string nm) (by have := hE.cell cn; go_simp) ?_
      refine hK _ _ ?_
      clear hK K
      simp only [Act.put, List.setIfInBounds_toArray, List.set_cons_zero, List.set_cons_succ]
      refine next_one 11 rfl (by kernel_rfl) rfl (fun K hK => ?_)
      refine callS (some 15) rfl 51 #[.slice dv n kv, .string nm] (by go_simp) (fun v' w' => v' = .int .i64 k ∧ Ext w w') ((PL.out _ hE).mono fun e w' he => ⟨_, he.1, rfl, hE.trans he.2⟩) ?_
      rintro v3 w3 ⟨rfl, hE⟩
      refine hK _ _ ?_
      clear hK K
      simp only [Act.put, List.setIfInBounds_toArray, List.set_cons_zero, List.set_cons_succ]
      refine next_one 13 rfl (by kernel_rfl) rfl (fun K hK => ?_)
      refine callS (some 17) rfl 72 #[.slice dv n kv, .int .i64 k, .slice (some ⟨b, o, none⟩) m cap] (by go_simp) (fun v' w' => Row w' 64 2 v' q X ∧ Grew _ w' (.slice dv n kv) v') ((IN.out _ hE).mono fun e w' he => he) ?_
      rintro v4 w4 ⟨r4, g4⟩
      refine hK _ _ ?_
      clear hK K
      simp only [Act.put, List.setIfInBounds_toArray, List.set_cons_zero, List.set_cons_succ]
      have at4 := AT.out _ hE _ _ g4
      have c4 := at4.cell j
      rw [CJ.out] at c4
      have f4 := at4.frozen j
      have G4 := Lib.hid (GE.out _ hE _ _ g4)
      have R4 := Lib.hid r4
      obtain ⟨d4, k4, hv4, -⟩ := r4.shape
      subst hv4
      clear r4 g4 at4
      refine take_at 14 (some 18) (.pointer (some ⟨c, j, none⟩)) rfl rfl (by kernel_rfl) (by kernel_rfl) (by kernel_rfl) (fun _ _ _ h => h) rfl (fun _ => by go_simp) ?_
      simp only [Act.put, List.setIfInBounds_toArray, List.set_cons_zero, List.set_cons_succ]
      refine next_one 15 rfl (by kernel_rfl) rfl (fun K hK => ?_)
      refine runN rfl (w4.setCell ⟨c, j, none⟩ (.slice d4 q k4)) (by go_simp) ?_
      refine hK _ _ ?_
      clear hK K
      refine wpAny_done (by kernel_rfl) ?_ _
      go_wp2
      go_end0
      exact ⟨rfl, _, _, R4.out, G4.out, rfl⟩
    · refine runL (some 14) rfl (.string nm) (by have := hE.cell cn; go_simp) ?_
      refine hK _ _ ?_
      clear hK K
      simp only [Act.put, List.setIfInBounds_toArray, List.set_cons_zero, List.set_cons_succ]
      refine next_two 3 11 rfl rfl (by kernel_rfl) rfl rfl (fun K hK => ?_) (fun K hK => ?_)
      · refine runL (some 7) rfl (.slice dv n kv) (by have := hE.cell cv; go_simp) ?_
        refine hK _ _ ?_
        clear hK K
        simp only [Act.put, List.setIfInBounds_toArray, List.set_cons_zero, List.set_cons_succ]
        refine next_one 11 rfl (by kernel_rfl) rfl (fun K hK => ?_)
        refine callS (some 15) rfl 51 #[.slice dv n kv, .string nm] (by go_simp) (fun v' w' => v' = .int .i64 k ∧ Ext w w') ((PL.out _ hE).mono fun e w' he => ⟨_, he.1, rfl, hE.trans he.2⟩) ?_
        rintro v3 w3 ⟨rfl, hE⟩
        refine hK _ _ ?_
        clear hK K
        simp only [Act.put, List.setIfInBounds_toArray, List.set_cons_zero, List.set_cons_succ]
        refine next_one 13 rfl (by kernel_rfl) rfl (fun K hK => ?_)
        refine callS (some 17) rfl 72 #[.slice dv n kv, .int .i64 k, .slice (some ⟨b, o, none⟩) m cap] (by go_simp) (fun v' w' => Row w' 64 2 v' q X ∧ Grew _ w' (.slice dv n kv) v') ((IN.out _ hE).mono fun e w' he => he) ?_
        rintro v4 w4 ⟨r4, g4⟩
        refine hK _ _ ?_
        clear hK K
        simp only [Act.put, List.setIfInBounds_toArray, List.set_cons_zero, List.set_cons_succ]
        have at4 := AT.out _ hE _ _ g4
        have c4 := at4.cell j
        rw [CJ.out] at c4
        have f4 := at4.frozen j
        have G4 := Lib.hid (GE.out _ hE _ _ g4)
        have R4 := Lib.hid r4
        obtain ⟨d4, k4, hv4, -⟩ := r4.shape
        subst hv4
        clear r4 g4 at4
        refine take_at 14 (some 18) (.pointer (some ⟨c, j, none⟩)) rfl rfl (by kernel_rfl) (by kernel_rfl) (by kernel_rfl) (fun _ _ _ h => h) rfl (fun _ => by go_simp) ?_
        simp only [Act.put, List.setIfInBounds_toArray, List.set_cons_zero, List.set_cons_succ]
        refine next_one 15 rfl (by kernel_rfl) rfl (fun K hK => ?_)
        refine runN rfl (w4.setCell ⟨c, j, none⟩ (.slice d4 q k4)) (by go_simp) ?_
        refine hK _ _ ?_
        clear hK K
        refine wpAny_done (by kernel_rfl) ?_ _
        go_wp2
        go_end0
        exact ⟨rfl, _, _, R4.out, G4.out, rfl⟩
      · refine callS (some 15) rfl 51 #[.slice dv n kv, .string nm] (by go_simp) (fun v' w' => v' = .int .i64 k ∧ Ext w w') ((PL.out _ hE).mono fun e w' he => ⟨_, he.1, rfl, hE.trans he.2⟩) ?_
        rintro v3 w3 ⟨rfl, hE⟩
        refine hK _ _ ?_
        clear hK K
        simp only [Act.put, List.setIfInBounds_toArray, List.set_cons_zero, List.set_cons_succ]
        refine next_one 3 rfl (by kernel_rfl) rfl (fun K hK => ?_)
        refine runL (some 7) rfl (.slice dv n kv) (by have := hE.cell cv; go_simp) ?_
        refine hK _ _ ?_
        clear hK K
        simp only [Act.put, List.setIfInBounds_toArray, List.set_cons_zero, List.set_cons_succ]
        refine next_one 13 rfl (by kernel_rfl) rfl (fun K hK => ?_)
        refine callS (some 17) rfl 72 #[.slice dv n kv, .int .i64 k, .slice (some ⟨b, o, none⟩) m cap] (by go_simp) (fun v' w' => Row w' 64 2 v' q X ∧ Grew _ w' (.slice dv n kv) v') ((IN.out _ hE).mono fun e w' he => he) ?_
        rintro v4 w4 ⟨r4, g4⟩
        refine hK _ _ ?_
        clear hK K
        simp only [Act.put, List.setIfInBounds_toArray, List.set_cons_zero, List.set_cons_succ]
        have at4 := AT.out _ hE _ _ g4
        have c4 := at4.cell j
        rw [CJ.out] at c4
        have f4 := at4.frozen j
        have G4 := Lib.hid (GE.out _ hE _ _ g4)
        have R4 := Lib.hid r4
        obtain ⟨d4, k4, hv4, -⟩ := r4.shape
        subst hv4
        clear r4 g4 at4
        refine take_at 14 (some 18) (.pointer (some ⟨c, j, none⟩)) rfl rfl (by kernel_rfl) (by kernel_rfl) (by kernel_rfl) (fun _ _ _ h => h) rfl (fun _ => by go_simp) ?_
        simp only [Act.put, List.setIfInBounds_toArray, List.set_cons_zero, List.set_cons_succ]
        refine next_one 15 rfl (by kernel_rfl) rfl (fun K hK => ?_)
        refine runN rfl (w4.setCell ⟨c, j, none⟩ (.slice d4 q k4)) (by go_simp) ?_
        refine hK _ _ ?_
        clear hK K
        refine wpAny_done (by kernel_rfl) ?_ _
        go_wp2
        go_end0
        exact ⟨rfl, _, _, R4.out, G4.out, rfl⟩
  · refine runL (some 14) rfl (.string nm) (by have := hE.cell cn; go_simp) ?_
    refine hK _ _ ?_
    clear hK K
    simp only [Act.put, List.setIfInBounds_toArray, List.set_cons_zero, List.set_cons_succ]
    refine next_two 3 6 rfl rfl (by kernel_rfl) rfl rfl (fun K hK => ?_) (fun K hK => ?_)
    · refine runL (some 7) rfl (.slice dv n kv) (by have := hE.cell cv; go_simp) ?_
      refine hK _ _ ?_
      clear hK K
      simp only [Act.put, List.setIfInBounds_toArray, List.set_cons_zero, List.set_cons_succ]
      refine next_one 6 rfl (by kernel_rfl) rfl (fun K hK => ?_)
      refine runL (some 10) rfl (.slice dv n kv) (by have := hE.cell cv; go_simp) ?_
      refine hK _ _ ?_
      clear hK K
      simp only [Act.put, List.setIfInBounds_toArray, List.set_cons_zero, List.set_cons_succ]
      refine next_one 11 rfl (by kernel_rfl) rfl (fun K hK => ?_)
      refine callS (some 15) rfl 51 #[.slice dv n kv, .string nm] (by go_simp) (fun v' w' => v' = .int .i64 k ∧ Ext w w') ((PL.out _ hE).mono fun e w' he => ⟨_, he.1, rfl, hE.trans he.2⟩) ?_
      rintro v3 w3 ⟨rfl, hE⟩
      refine hK _ _ ?_
      clear hK K
      simp only [Act.put, List.setIfInBounds_toArray, List.set_cons_zero, List.set_cons_succ]
      refine next_one 13 rfl (by kernel_rfl) rfl (fun K hK => ?_)
      refine callS (some 17) rfl 72 #[.slice dv n kv, .int .i64 k, .slice (some ⟨b, o, none⟩) m cap] (by go_simp) (fun v' w' => Row w' 64 2 v' q X ∧ Grew _ w' (.slice dv n kv) v') ((IN.out _ hE).mono fun e w' he => he) ?_
      rintro v4 w4 ⟨r4, g4⟩
      refine hK _ _ ?_
      clear hK K
      simp only [Act.put, List.setIfInBounds_toArray, List.set_cons_zero, List.set_cons_succ]
      have at4 := AT.out _ hE _ _ g4
      have c4 := at4.cell j
      rw [CJ.out] at c4
      have f4 := at4.frozen j
      have G4 := Lib.hid (GE.out _ hE _ _ g4)
      have R4 := Lib.hid r4
      obtain ⟨d4, k4, hv4, -⟩ := r4.shape
      subst hv4
      clear r4 g4 at4
      refine take_at 14 (some 18) (.pointer (some ⟨c, j, none⟩)) rfl rfl (by kernel_rfl) (by kernel_rfl) (by kernel_rfl) (fun _ _ _ h => h) rfl (fun _ => by go_simp) ?_
      simp only [Act.put, List.setIfInBounds_toArray, List.set_cons_zero, List.set_cons_succ]
      refine next_one 15 rfl (by kernel_rfl) rfl (fun K hK => ?_)
      refine runN rfl (w4.setCell ⟨c, j, none⟩ (.slice d4 q k4)) (by go_simp) ?_
      refine hK _ _ ?_
      clear hK K
      refine wpAny_done (by kernel_rfl) ?_ _
      go_wp2
      go_end0
      exact ⟨rfl, _, _, R4.out, G4.out, rfl⟩
    · refine runL (some 10) rfl (.slice dv n kv) (by have := hE.cell cv; go_simp) ?_
      refine hK _ _ ?_
      clear hK K
      simp only [Act.put, List.setIfInBounds_toArray, List.set_cons_zero, List.set_cons_succ]
      refine next_two 3 11 rfl rfl (by kernel_rfl) rfl rfl (fun K hK => ?_) (fun K hK => ?_)
      · refine runL (some 7) rfl (.slice dv n kv) (by have := hE.cell cv; go_simp) ?_
        refine hK _ _ ?_
        clear hK K
        simp only [Act.put, List.setIfInBounds_toArray, List.set_cons_zero, List.set_cons_succ]
        refine next_one 11 rfl (by kernel_rfl) rfl (fun K hK => ?_)
        refine callS (some 15) rfl 51 #[.slice dv n kv, .string nm] (by go_simp) (fun v' w' => v' = .int .i64 k ∧ Ext w w') ((PL.out _ hE).mono fun e w' he => ⟨_, he.1, rfl, hE.trans he.2⟩) ?_
        rintro v3 w3 ⟨rfl, hE⟩
        refine hK _ _ ?_
        clear hK K
        simp only [Act.put, List.setIfInBounds_toArray, List.set_cons_zero, List.set_cons_succ]
        refine next_one 13 rfl (by kernel_rfl) rfl (fun K hK => ?_)
        refine callS (some 17) rfl 72 #[.slice dv n kv, .int .i64 k, .slice (some ⟨b, o, none⟩) m cap] (by go_simp) (fun v' w' => Row w' 64 2 v' q X ∧ Grew _ w' (.slice dv n kv) v') ((IN.out _ hE).mono fun e w' he => he) ?_
        rintro v4 w4 ⟨r4, g4⟩
        refine hK _ _ ?_
        clear hK K
        simp only [Act.put, List.setIfInBounds_toArray, List.set_cons_zero, List.set_cons_succ]
        have at4 := AT.out _ hE _ _ g4
        have c4 := at4.cell j
        rw [CJ.out] at c4
        have f4 := at4.frozen j
        have G4 := Lib.hid (GE.out _ hE _ _ g4)
        have R4 := Lib.hid r4
        obtain ⟨d4, k4, hv4, -⟩ := r4.shape
        subst hv4
        clear r4 g4 at4
        refine take_at 14 (some 18) (.pointer (some ⟨c, j, none⟩)) rfl rfl (by kernel_rfl) (by kernel_rfl) (by kernel_rfl) (fun _ _ _ h => h) rfl (fun _ => by go_simp) ?_
        simp only [Act.put, List.setIfInBounds_toArray, List.set_cons_zero, List.set_cons_succ]
        refine next_one 15 rfl (by kernel_rfl) rfl (fun K hK => ?_)
        refine runN rfl (w4.setCell ⟨c, j, none⟩ (.slice d4 q k4)) (by go_simp) ?_
        refine hK _ _ ?_
        clear hK K
        refine wpAny_done (by kernel_rfl) ?_ _
        go_wp2
        go_end0
        exact ⟨rfl, _, _, R4.out, G4.out, rfl⟩
      · refine callS (some 15) rfl 51 #[.slice dv n kv, .string nm] (by go_simp) (fun v' w' => v' = .int .i64 k ∧ Ext w w') ((PL.out _ hE).mono fun e w' he => ⟨_, he.1, rfl, hE.trans he.2⟩) ?_
        rintro v3 w3 ⟨rfl, hE⟩
        refine hK _ _ ?_
        clear hK K
        simp only [Act.put, List.setIfInBounds_toArray, List.set_cons_zero, List.set_cons_succ]
        refine next_one 3 rfl (by kernel_rfl) rfl (fun K hK => ?_)
        refine runL (some 7) rfl (.slice dv n kv) (by have := hE.cell cv; go_simp) ?_
        refine hK _ _ ?_
        clear hK K
        simp only [Act.put, List.setIfInBounds_toArray, List.set_cons_zero, List.set_cons_succ]
        refine next_one 13 rfl (by kernel_rfl) rfl (fun K hK => ?_)
        refine callS (some 17) rfl 72 #[.slice dv n kv, .int .i64 k, .slice (some ⟨b, o, none⟩) m cap] (by go_simp) (fun v' w' => Row w' 64 2 v' q X ∧ Grew _ w' (.slice dv n kv) v') ((IN.out _ hE).mono fun e w' he => he) ?_
        rintro v4 w4 ⟨r4, g4⟩
        refine hK _ _ ?_
        clear hK K
        simp only [Act.put, List.setIfInBounds_toArray, List.set_cons_zero, List.set_cons_succ]
        have at4 := AT.out _ hE _ _ g4
        have c4 := at4.cell j
        rw [CJ.out] at c4
        have f4 := at4.frozen j
        have G4 := Lib.hid (GE.out _ hE _ _ g4)
        have R4 := Lib.hid r4
        obtain ⟨d4, k4, hv4, -⟩ := r4.shape
        subst hv4
        clear r4 g4 at4
        refine take_at 14 (some 18) (.pointer (some ⟨c, j, none⟩)) rfl rfl (by kernel_rfl) (by kernel_rfl) (by kernel_rfl) (fun _ _ _ h => h) rfl (fun _ => by go_simp) ?_
        simp only [Act.put, List.setIfInBounds_toArray, List.set_cons_zero, List.set_cons_succ]
        refine next_one 15 rfl (by kernel_rfl) rfl (fun K hK => ?_)
        refine runN rfl (w4.setCell ⟨c, j, none⟩ (.slice d4 q k4)) (by go_simp) ?_
        refine hK _ _ ?_
        clear hK K
        refine wpAny_done (by kernel_rfl) ?_ _
        go_wp2
        go_end0
        exact ⟨rfl, _, _, R4.out, G4.out, rfl⟩
end Go.Proofs.YtbneedmfpldpfaaDoor
