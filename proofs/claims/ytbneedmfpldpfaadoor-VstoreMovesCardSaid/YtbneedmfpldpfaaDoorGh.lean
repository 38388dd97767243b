/- Contract of apply: one act that moves names: the walk. -/
import Derived.Test.YtbneedmfpldpfaaDoorGg
set_option linter.unusedSimpArgs false
namespace Go.Proofs.YtbneedmfpldpfaaDoor
open Go.RowKit Go.Pth

theorem MovePost.ext {w0 w : World} {c j n : Nat} {v : Value} {X : List Value} {e : Ending} {w' : World} (he : Ext w0 w) (h : MovePost w c j n v X e w') : MovePost w0 c j n v X e w' := by
  obtain ⟨h1, v', w1, h2, g, h3⟩ := h
  exact ⟨h1, v', w1, h2, ⟨(Chg.of_ext he).trans g.chg fun _ _ x => x, by rcases g.own with e | ⟨q, e1, e2⟩; exact Or.inl e; exact Or.inr ⟨q, e1, Nat.le_trans he.size e2⟩⟩, h3⟩
def InvMo (w : World) (c j n : Nat) (v : Value) (X : List Value) (s8 : Value) (wr : World) : Prop := (s8 = .int .i64 0 ∧ w = wr) ∨ (s8 = .int .i64 1 ∧ MovePost w c j n v X (.returned (.tuple #[])) wr)

set_option maxRecDepth 100000 in
set_option maxHeartbeats 8000000 in
theorem apply_moved (c j g cap k : Nat) (cs : Array Value) (tc : TypeId) (l : List Nm) (f t : ByteArray) (ab ao acap : Nat) (w : World) (hc : At w c cs tc) (hgw : g < w.heap.size) (hf0 : (f.toList == []) = false) (ht0 : (t.toList == []) = false)
    (hst : ∀ w', Ext w w' → Steps w' c j g cap l f t k)
    (c0 : w.cell? ⟨ab, ao, none⟩ = some (.string f)) (c1 : w.cell? ⟨ab, ao + 1, none⟩ = some (.string t)) (c2 : w.cell? ⟨ab, ao + 2, none⟩ = some (.pointer none)) :
    Calls Tryd.prog 33 #[.pointer (some ⟨c, j, none⟩), .slice (some ⟨ab, ao, none⟩) 1 acap] w (MovePost w c j l.length (.slice (some ⟨g, 0, none⟩) l.length cap) (ents (mvl l f.toList t.toList k))) := by
  obtain ⟨W1, hW1⟩ : ∃ W1, W1 = w.alloc (.cells #[.string f, .string t, .pointer none] 87) := ⟨_, rfl⟩
  have e1 : Ext w W1 := by rw [hW1]; exact Ext.alloc _ _
  have hA : At W1 w.heap.size #[.string f, .string t, .pointer none] 87 := by rw [hW1]; exact At.new _ _ _
  have e2 : Ext w W1.drew := e1.trans (Ext.drew W1)
  have HS := Lib.hid (hst _ e2)
  have hAc : ¬ w.heap.size = c := by have := hc.lt; omega
  have hAg : ¬ w.heap.size = g := by omega
  have ME : Hid (∀ n v X e w', MovePost W1.drew c j n v X e w' → MovePost w c j n v X e w') := fun n v X e w' => MovePost.ext e2
  have CH : Hid (∀ vr w', TakePost W1.drew c j g cap (rest l f.toList).length (rest l f.toList) (rung l f.toList) (.returned vr) w' → ∀ q u, W1.cell? ⟨w.heap.size, q, none⟩ = some u → w'.cell? ⟨w.heap.size, q, none⟩ = some u) := by
    rintro vr w' ⟨vr', w1, -, -, -, -, h5, h6⟩ q u hu
    rw [h6]
    exact (Chg.setCell w1 c j _).cell (h5.cell hu hAg) hAc
  have CP : Hid (∀ n v X e w', MovePost W1.drew c j n v X e w' → (v.ownBlock = some g) → ∀ q u, W1.cell? ⟨w.heap.size, q, none⟩ = some u → w'.cell? ⟨w.heap.size, q, none⟩ = some u) := by
    rintro n v X e w' ⟨-, v', w1, -, gg, h6⟩ hv q u hu
    rw [h6]
    exact (Chg.setCell w1 c j _).cell (gg.chg.cell hu (fun e => by rw [hv] at e; injection e with e; exact hAg e.symm)) hAc
  have a0 : W1.cell? ⟨w.heap.size, 0, none⟩ = some (.string f) := by rw [hA.cell]; rfl
  have a1 : W1.cell? ⟨w.heap.size, 1, none⟩ = some (.string t) := by rw [hA.cell]; rfl
  clear hst hc e1 e2 hA
  go_enter Tryd.func33, Tryd.ntmps33
  go_wp2
  go_loopw [8] (fun s8 wr => InvMo w c j l.length (.slice (some ⟨g, 0, none⟩) l.length cap) (ents (mvl l f.toList t.toList k)) s8 wr) (fun s8 _ => 1 - (intOf s8).toNat)
  case atStart => exact Or.inl ⟨rfl, rfl⟩
  case round =>
    rcases hrel with ⟨rfl, rfl⟩ | ⟨rfl, hh⟩
    · go_upto_region 3 with fail
      refine wp_region_held (S := fun w' => w'.cell? ⟨w.heap.size, 0, none⟩ = some (.string f) ∧ w'.cell? ⟨w.heap.size, 1, none⟩ = some (.string t)) (by kernel_rfl) ?_
      rw [← hW1]
      change wpAnyH _ _ _ _ _ _ _ _ W1.drew
      have hS : W1.drew.cell? ⟨w.heap.size, 0, none⟩ = some (.string f) ∧ W1.drew.cell? ⟨w.heap.size, 1, none⟩ = some (.string t) := ⟨a0, a1⟩
      clear hW1
      refine takeS 0 (some 12) (.pointer (some ⟨c, j, none⟩)) rfl rfl (by kernel_rfl) (by kernel_rfl) (by kernel_rfl) (fun _ _ _ h => h) rfl hS (fun w' hw' => by go_simp) ?_
      simp only [Act.put, List.setIfInBounds_toArray, List.set_cons_zero, List.set_cons_succ]
      refine takeS 1 (some 13) (.pointer (some ⟨c, j, none⟩)) rfl rfl (by kernel_rfl) (by kernel_rfl) (by kernel_rfl) (fun _ _ _ h => h) rfl hS (fun w' hw' => by go_simp) ?_
      simp only [Act.put, List.setIfInBounds_toArray, List.set_cons_zero, List.set_cons_succ]
      refine takeS 2 (some 14) (.pointer (some ⟨w.heap.size, 0, none⟩)) rfl rfl (by kernel_rfl) (by kernel_rfl) (by kernel_rfl) (fun _ _ _ h => h) rfl hS (fun w' hw' => by go_simp) ?_
      simp only [Act.put, List.setIfInBounds_toArray, List.set_cons_zero, List.set_cons_succ]
      refine takeS 3 (some 15) (.string f) rfl rfl (by kernel_rfl) (by kernel_rfl) (by kernel_rfl) (fun _ _ _ h => h) rfl hS (fun w' hw' => by have := hw'.1; go_simp) ?_
      simp only [Act.put, List.setIfInBounds_toArray, List.set_cons_zero, List.set_cons_succ]
      refine takeS 5 (some 17) (.pointer (some ⟨w.heap.size, 0, none⟩)) rfl rfl (by kernel_rfl) (by kernel_rfl) (by kernel_rfl) (fun _ _ _ h => h) rfl hS (fun w' hw' => by go_simp) ?_
      simp only [Act.put, List.setIfInBounds_toArray, List.set_cons_zero, List.set_cons_succ]
      refine takeS 6 (some 18) (.string f) rfl rfl (by kernel_rfl) (by kernel_rfl) (by kernel_rfl) (fun _ _ _ h => h) rfl hS (fun w' hw' => by have := hw'.1; go_simp) ?_
      simp only [Act.put, List.setIfInBounds_toArray, List.set_cons_zero, List.set_cons_succ]
      refine takeS 7 (some 19) (.pointer (some ⟨w.heap.size, 1, none⟩)) rfl rfl (by kernel_rfl) (by kernel_rfl) (by kernel_rfl) (fun _ _ _ h => h) rfl hS (fun w' hw' => by go_simp) ?_
      simp only [Act.put, List.setIfInBounds_toArray, List.set_cons_zero, List.set_cons_succ]
      refine takeS 8 (some 20) (.string t) rfl rfl (by kernel_rfl) (by kernel_rfl) (by kernel_rfl) (fun _ _ _ h => h) rfl hS (fun w' hw' => by have := hw'.2; go_simp) ?_
      simp only [Act.put, List.setIfInBounds_toArray, List.set_cons_zero, List.set_cons_succ]
      refine nextS 4 rfl (by kernel_rfl) rfl ?_
      refine callS (some 16) rfl 56 #[.pointer (some ⟨c, j, none⟩), .string f] (by go_simp) (fun v w' => TakePost W1.drew c j g cap (rest l f.toList).length (rest l f.toList) (rung l f.toList) (.returned v) w') (HS.out.take.mono fun e w' ⟨vr, w1, h1, h2⟩ => ⟨vr, h1, vr, w1, rfl, h2⟩) ?_
      rintro v5 w5 h5
      have hS5 := And.intro (CH.out _ _ h5 0 _ a0) (CH.out _ _ h5 1 _ a1)
      refine ⟨hS5, ?_⟩
      simp only [Act.put, List.setIfInBounds_toArray, List.set_cons_zero, List.set_cons_succ]
      refine nextS 9 rfl (by kernel_rfl) rfl ?_
      refine callS (some 21) rfl 43 #[v5, .string f, .string t] (by go_simp) (fun v w' => MvPost w5 (mvd (rung l f.toList) f.toList t.toList) (.returned v) w') ((HS.out.move _ _ h5).mono fun e w' ⟨vr, h1, h2⟩ => ⟨vr, h1, vr, rfl, h2⟩) ?_
      rintro v6 w6 h6
      have e56 : Ext w5 w6 := by obtain ⟨_, _, _, e, _⟩ := h6; exact e
      have hS6 := And.intro (e56.cell hS5.1) (e56.cell hS5.2)
      refine ⟨hS6, ?_⟩
      simp only [Act.put, List.setIfInBounds_toArray, List.set_cons_zero, List.set_cons_succ]
      refine nextS 10 rfl (by kernel_rfl) rfl ?_
      refine callS (some 22) rfl 55 #[.pointer (some ⟨c, j, none⟩), v6] (by go_simp) (fun v w' => v = .tuple #[] ∧ MovePost W1.drew c j l.length (.slice (some ⟨g, 0, none⟩) l.length cap) (ents (mvl l f.toList t.toList k)) (.returned (.tuple #[])) w') ((HS.out.put _ _ _ _ h5 h6).mono fun e w' h => ⟨_, h.1, rfl, by obtain ⟨x1, x2⟩ := h; subst x1; exact ⟨rfl, x2⟩⟩) ?_
      rintro v7 w7 ⟨rfl, h7⟩
      refine ⟨And.intro (CP.out _ _ _ _ _ h7 rfl 0 _ a0) (CP.out _ _ _ _ _ h7 rfl 1 _ a1), ?_⟩
      simp only [Act.put, List.setIfInBounds_toArray, List.set_cons_zero, List.set_cons_succ]
      refine wpAnyH_done (by kernel_rfl) ?_ _
      have H7 := Lib.hid (ME.out _ _ _ _ _ h7)
      clear h5 h6 h7 hS hS5 hS6 e56 CH CP HS ME
      go_wp2
      exact ⟨Or.inr ⟨rfl, H7.out⟩, by simp [intOf]⟩
    · have HH := Lib.hid hh
      clear hh
      go_wp2
      go_end0
      exact HH.out
end Go.Proofs.YtbneedmfpldpfaaDoor
