/- Contract of apply: one act that moves names: the walk. apply: one act that takes a name away. Contract of change: one act that moves names. change: a name is taken away. -/
import Derived.Test.YtnhokjnmpdiokaaGreatDoorVKM
import Derived.Test.YtnhokjnmpdiokaaGreatDoorVFM
set_option linter.unusedSimpArgs false
namespace Go.Proofs.YtnhokjnmpdiokaaGreatDoor.V
open Go.RowKit Go.Pth

theorem MovePost.ext {w0 w : World} {c j n : Nat} {v : Value} {X : List Value} {e : Ending} {w' : World} (he : Ext w0 w) (h : MovePost w c j n v X e w') : MovePost w0 c j n v X e w' := by
  obtain ⟨h1, v', w1, h2, g, h3⟩ := h
  exact ⟨h1, v', w1, h2, ⟨(Chg.of_ext he).trans g.chg fun _ _ x => x, by rcases g.own with e | ⟨q, e1, e2⟩; exact Or.inl e; exact Or.inr ⟨q, e1, Nat.le_trans he.size e2⟩⟩, h3⟩
def InvMo (w : World) (c j n : Nat) (v : Value) (X : List Value) (s8 : Value) (wr : World) : Prop := (s8 = .int .i64 0 ∧ w = wr) ∨ (s8 = .int .i64 1 ∧ MovePost w c j n v X (.returned (.tuple #[])) wr)

end Go.Proofs.YtnhokjnmpdiokaaGreatDoor.V

set_option linter.unusedSimpArgs false
set_option linter.unusedVariables false
namespace Go.Proofs.YtnhokjnmpdiokaaGreatDoor.V
open Go.RowKit Go.Pth

set_option maxRecDepth 100000 in
set_option maxHeartbeats 8000000 in
theorem apply_gone (c j g cap : Nat) (cs : Array Value) (tc : TypeId) (l : List Nm) (f : ByteArray) (ab ao acap : Nat) (w : World) (hc : At w c cs tc) (hj : cs[j]? = some (.slice (some ⟨g, 0, none⟩) l.length cap)) (h : Row w 79 2 (.slice (some ⟨g, 0, none⟩) l.length cap) l.length (ents l)) (hgc : ¬ c = g) (hs : Srt l) (hl : l.length ≤ 1000000) (hR : 0 < (rung l f.toList).length) (hf0 : (f.toList == []) = false)
    (c0 : w.cell? ⟨ab, ao, none⟩ = some (.string f)) (c1 : w.cell? ⟨ab, ao + 1, none⟩ = some (.string ⟨#[]⟩)) (c2 : w.cell? ⟨ab, ao + 2, none⟩ = some (.pointer none)) :
    Calls Tryz.prog 112 #[.pointer (some ⟨c, j, none⟩), .slice (some ⟨ab, ao, none⟩) 1 acap] w (MovePost w c j (rest l f.toList).length (.slice (some ⟨g, 0, none⟩) l.length cap) (ents (rest l f.toList))) := by
  obtain ⟨W1, hW1⟩ : ∃ W1, W1 = w.alloc (.cells #[.string f, .string ⟨#[]⟩, .pointer none] 167) := ⟨_, rfl⟩
  have e1 : Ext w W1 := by rw [hW1]; exact Ext.alloc _ _
  have TK := take_all c j g cap cs tc l f W1 (hc.ext e1) hj (h.ext e1) hgc hs hl hR
  rw [← rest_len] at TK
  have TK2 : Calls Tryz.prog 135 #[.pointer (some ⟨c, j, none⟩), .string f] W1 fun e w' => ∃ v, e = .returned v ∧ MovePost w c j (rest l f.toList).length (.slice (some ⟨g, 0, none⟩) l.length cap) (ents (rest l f.toList)) (.returned (.tuple #[])) w' :=
    TK.mono fun e w' ⟨vr, w1, h1, h2, h3, h4, h5, h6⟩ => ⟨vr, h1, rfl, _, w1, h4, ⟨(Chg.of_ext e1).trans (h5.mono fun i _ e => by rw [e]; rfl) fun _ _ x => x, Or.inl rfl⟩, h6⟩
  have HP := Lib.hid TK2
  clear TK TK2 e1 hc hj h hgc hs hl hR
  have HW := Lib.hid hW1
  go_enter Tryz.func112, Tryz.ntmps112
  go_wp2
  go_loopw [8] (fun s8 wr => InvMo w c j (rest l f.toList).length (.slice (some ⟨g, 0, none⟩) l.length cap) (ents (rest l f.toList)) s8 wr) (fun s8 _ => 1 - (intOf s8).toNat)
  case atStart => exact Or.inl ⟨rfl, rfl⟩
  case round =>
    rcases hrel with ⟨rfl, rfl⟩ | ⟨rfl, hh⟩
    · go_wp2_with (go_at_call 135; rw [← hW1]; refine (HP.out).mono ?_; rintro e w' ⟨v, rfl, hfin⟩)
      exact ⟨Or.inr ⟨rfl, hfin⟩, by simp [intOf]⟩
    · have HH := Lib.hid hh
      clear hh
      go_wp2
      go_end0
      exact HH.out
end Go.Proofs.YtnhokjnmpdiokaaGreatDoor.V

set_option linter.unusedSimpArgs false
namespace Go.Proofs.YtnhokjnmpdiokaaGreatDoor.V
open Go.RowKit Go.Pth

end Go.Proofs.YtnhokjnmpdiokaaGreatDoor.V

set_option linter.unusedSimpArgs false
set_option linter.unusedVariables false
namespace Go.Proofs.YtnhokjnmpdiokaaGreatDoor.V
open Go.RowKit Go.Pth

set_option maxRecDepth 100000 in
set_option maxHeartbeats 8000000 in
theorem change_gone (b g cap : Nat) (S : SV) (V : SW) (L : Nat → Option Role) (f : ByteArray) (w : World) (h : Rep w b S V L) (hac : S.acts.length ≤ 100000) (hnl : S.names.length ≤ 1000000) (hvn : V.n = .slice (some ⟨g, 0, none⟩) S.names.length cap) (hf0 : (f.toList == []) = false)
    (hR : 0 < (rung S.names f.toList).length) (hms : Srt (rest S.names f.toList)) (hmr : ∀ p ∈ rest S.names f.toList, p.2 ∈ S.ids) :
    Calls Tryz.prog 121 #[ptr b, .agg #[.string f, .string ⟨#[]⟩, .pointer none]] w fun e w' => e = .returned (.tuple #[]) ∧ ∃ V' L', Rep w' b { S with names := rest S.names f.toList, acts := S.acts ++ [⟨f.toList, [], none⟩] } V' L' ∧ StTo w w' L L' := by
  obtain ⟨W1, hW1⟩ : ∃ W1, W1 = w.alloc (.cells #[.string f, .string ⟨#[]⟩, .pointer none] 167) := ⟨_, rfl⟩
  have e1 : Ext w W1.drew := by rw [hW1]; exact (Ext.alloc _ _).trans (Ext.drew _)
  have hat1 : At W1 w.heap.size #[.string f, .string ⟨#[]⟩, .pointer none] 167 := by rw [hW1]; exact At.new _ _ _
  obtain ⟨W2, hW2⟩ : ∃ W2, W2 = W1.drew.alloc (.cells #[.string f, .string ⟨#[]⟩, .pointer none] 167) := ⟨_, rfl⟩
  have s1 : W1.heap.size = w.heap.size + 1 := by rw [hW1]; exact size_alloc _ _
  have e2 : Ext W1 W2 := by rw [hW2]; exact (Ext.drew _).trans (Ext.alloc _ _)
  have e12 : Ext w W2 := by refine Ext.trans ?_ e2; rw [hW1]; exact Ext.alloc _ _
  have hat2 : At W2 (w.heap.size + 1) #[.string f, .string ⟨#[]⟩, .pointer none] 167 := by rw [hW2, ← s1]; exact At.new _ _ _
  have h2 := h.ext e12
  have hgb : V.n.ownBlock = some g := by rw [hvn]; rfl
  have hbg : ¬ b = g := fun e => by have := h.ln g hgb; rw [← e, h.lb] at this; cases this
  have AP := apply_gone b 2 g cap (scells S V) 92 S.names f (w.heap.size + 1) 0 1 W2 h2.cell (by rw [← hvn]; rfl) (by rw [← hvn]; exact h2.nm) hbg h.sn hnl hR hf0 (by rw [hat2.cell]; rfl) (by rw [hat2.cell]; rfl) (by rw [hat2.cell]; rfl)
  have AP2 : Calls Tryz.prog 112 #[.pointer (some ⟨b, 2, none⟩), .slice (some ⟨w.heap.size + 1, 0, none⟩) 1 1] W2 fun e w' => e = .returned (.tuple #[]) ∧ ∃ V' L', Rep w' b { S with names := rest S.names f.toList } V' L' ∧ StTo w w' L L' ∧ w'.cell? ⟨w.heap.size, 0, none⟩ = some (.string f) ∧ w'.cell? ⟨w.heap.size, 1, none⟩ = some (.string ⟨#[]⟩) ∧ w'.cell? ⟨w.heap.size, 2, none⟩ = some (.pointer none) :=
    AP.mono fun e w' ⟨q1, v', w1, q2, q3, q4⟩ => by
      rw [← hvn] at q3
      have r := h2.setNames (l' := rest S.names f.toList) (by exact q2) q3 hms hmr
      have hL : ¬ L w.heap.size ≠ none := fun e => by have := h.lt _ e; omega
      have hc := r.2.chg.at (hat1.ext e2) hL
      subst q4
      exact ⟨q1, _, _, r.1, (StTo.of_ext e12).trans r.2, by rw [hc.cell]; rfl, by rw [hc.cell]; rfl, by rw [hc.cell]; rfl⟩
  have HP := Lib.hid AP2
  have C0 : W1.drew.cell? ⟨w.heap.size, 0, none⟩ = some (.string f) := by rw [show W1.drew.cell? ⟨w.heap.size, 0, none⟩ = W1.cell? ⟨w.heap.size, 0, none⟩ from rfl, hat1.cell]; rfl
  have C1 : W1.drew.cell? ⟨w.heap.size, 1, none⟩ = some (.string ⟨#[]⟩) := by rw [show W1.drew.cell? ⟨w.heap.size, 1, none⟩ = W1.cell? ⟨w.heap.size, 1, none⟩ from rfl, hat1.cell]; rfl
  have C2 : W1.drew.cell? ⟨w.heap.size, 2, none⟩ = some (.pointer none) := by rw [show W1.drew.cell? ⟨w.heap.size, 2, none⟩ = W1.cell? ⟨w.heap.size, 2, none⟩ from rfl, hat1.cell]; rfl
  have HW1 := Lib.hid hW1
  have HW2 := Lib.hid hW2
  have S1 := Lib.hid s1
  clear AP AP2 h2 hat1 hat2 e1 e2 e12 h hvn hms hmr hf0 hR hnl hbg hgb s1
  unfold ptr at *
  go_enter Tryz.func121, Tryz.ntmps121
  go_upto_region 1 with fail
  rw [← HW1.out]
  refine wp_region_any (by kernel_rfl) ?_
  change wpAny _ _ _ _ _ _ _ (World.drew _)
  refine take_at 0 (some 4) (.pointer (some ⟨b, 0, none⟩)) rfl rfl (by kernel_rfl) (by kernel_rfl) (by kernel_rfl) (fun _ _ _ h => h) rfl (fun _ => by go_simp) ?_
  simp only [Act.put, List.setIfInBounds_toArray, List.set_cons_zero, List.set_cons_succ]
  refine take_at 1 (some 5) (.pointer (some ⟨b, 0, none⟩)) rfl rfl (by kernel_rfl) (by kernel_rfl) (by kernel_rfl) (fun _ _ _ h => h) rfl (fun _ => by go_simp) ?_
  simp only [Act.put, List.setIfInBounds_toArray, List.set_cons_zero, List.set_cons_succ]
  refine take_at 2 (some 6) (.pointer (some ⟨b, 2, none⟩)) rfl rfl (by kernel_rfl) (by kernel_rfl) (by kernel_rfl) (fun _ _ _ h => h) rfl (fun _ => by go_simp) ?_
  simp only [Act.put, List.setIfInBounds_toArray, List.set_cons_zero, List.set_cons_succ]
  refine next_one 3 rfl (by kernel_rfl) rfl (fun K hK => ?_)
  refine runL (some 7) rfl (.agg #[.string f, .string ⟨#[]⟩, .pointer none]) (by go_simp) ?_
  refine hK _ _ ?_
  clear hK K
  simp only [Act.put, List.setIfInBounds_toArray, List.set_cons_zero, List.set_cons_succ]
  refine next_one 4 rfl (by kernel_rfl) rfl (fun K hK => ?_)
  refine runV (some 8) rfl (.slice (some ⟨w.heap.size + 1, 0, none⟩) 1 1) W2 (by have h1 := HW2.out; have h2 := S1.out; go_simp) ?_
  refine hK _ _ ?_
  clear hK K
  simp only [Act.put, List.setIfInBounds_toArray, List.set_cons_zero, List.set_cons_succ]
  refine next_one 5 rfl (by kernel_rfl) rfl (fun K hK => ?_)
  refine callS (some 9) rfl 112 #[.pointer (some ⟨b, 2, none⟩), .slice (some ⟨w.heap.size + 1, 0, none⟩) 1 1] (by go_simp) (fun v w' => v = .tuple #[] ∧ ∃ V' L', Rep w' b { S with names := rest S.names f.toList } V' L' ∧ StTo w w' L L' ∧ w'.cell? ⟨w.heap.size, 0, none⟩ = some (.string f) ∧ w'.cell? ⟨w.heap.size, 1, none⟩ = some (.string ⟨#[]⟩) ∧ w'.cell? ⟨w.heap.size, 2, none⟩ = some (.pointer none)) ((HP.out).mono fun e w' he => ⟨_, he.1, rfl, he.2⟩) ?_
  rintro v3 W3 ⟨rfl, V3, L3, r3, t3, k0, k1, k2⟩
  refine hK _ _ ?_
  clear hK K
  simp only [Act.put, List.setIfInBounds_toArray, List.set_cons_zero, List.set_cons_succ]
  refine wpAny_done (by kernel_rfl) ?_ _
  clear HP HW1 HW2 S1 C0 C1 C2 hW1 hW2 W1 W2
  have D0 : W3.drew.cell? ⟨w.heap.size, 0, none⟩ = some (.string f) := k0
  have D1 : W3.drew.cell? ⟨w.heap.size, 1, none⟩ = some (.string ⟨#[]⟩) := k1
  have D2 : W3.drew.cell? ⟨w.heap.size, 2, none⟩ = some (.pointer none) := k2
  have ca : W3.drew.cell? ⟨b, 4, none⟩ = some V3.a := by rw [show W3.drew.cell? ⟨b, 4, none⟩ = W3.cell? ⟨b, 4, none⟩ from rfl, r3.c 4]; rfl
  obtain ⟨W4, hW4⟩ : ∃ W4, W4 = W3.drew.alloc (.cells #[.string f, .string ⟨#[]⟩, .pointer none] 167) := ⟨_, rfl⟩
  have e4 : Ext W3.drew W4 := by rw [hW4]; exact Ext.alloc _ _
  have r4 := (r3.ext (Ext.drew W3)).ext e4
  have hat4 : At W4 W3.heap.size #[.string f, .string ⟨#[]⟩, .pointer none] 167 := by rw [hW4]; exact At.new W3.drew _ _
  obtain ⟨i, hi1, hi2, hi3, hi4⟩ := info_of info87
  obtain ⟨v5, W5, hrun, hrow, hg⟩ := run_append_row (P := Tryz.prog) W4 90 90 90 167 i _ Tryz.underlying90 hi1 hi2 (by rw [hi3]; rfl) V3.a S.acts.length (acells S.acts) (by rw [hi3]; exact r4.ac) (.slice (some ⟨W3.heap.size, 0, none⟩) 1 1) 1 [.string f, .string ⟨#[]⟩, .pointer none] (by
    rw [hi3]
    refine Src.ofSlice W4 Tryz.underlying90 ⟨W3.heap.size, 0, none⟩ 1 1 _ rfl (fun q u hu => ?_) (by simp [Value.oneCell'])
    rw [Addr.add_lit, Nat.zero_add, hat4.cell, ← hu]; simp) (by simp only [maxLen]; omega) (by rw [hi4]; omega)
  rw [hi3] at hrow
  have hac2 : acells S.acts ++ [.string f, .string ⟨#[]⟩, .pointer none] = acells (S.acts ++ [⟨f.toList, [], none⟩]) := by rw [acells_app]; simp only [acells, List.flatMap_cons, List.flatMap_nil, List.append_nil, list_tx]; rfl
  rw [hac2] at hrow
  obtain ⟨d5, k5, hv5, -⟩ := hrow.shape
  subst hv5
  have FN := r4.setActs (l' := S.acts ++ [⟨f.toList, [], none⟩]) (by simpa using hrow) hg
  have FIN := Lib.hid (⟨_, _, FN.1, t3.trans (((StTo.of_ext (Ext.drew W3)).trans (StTo.of_ext e4)).trans FN.2)⟩ : ∃ V' L', Rep (W5.setCell ⟨b, 4, none⟩ (.slice d5 (S.acts.length + 1) k5)) b { S with names := rest S.names f.toList, acts := S.acts ++ [⟨f.toList, [], none⟩] } V' L' ∧ StTo w _ L L')
  have at5 := hg.chg.at r4.cell (fun e => by have := r4.la b e; rw [r4.lb] at this; cases this)
  have c5 := at5.cell 4
  simp only [scells] at c5
  have f5 := at5.frozen 4
  have ca4 := e4.cell ca
  have HR := Lib.hid hrun
  have E4 := Lib.hid e4
  have HW4 := Lib.hid hW4
  clear FN hrow hg at5 hrun hat4 r4 r3 t3 hi1 hi2 hi3 hi4 e4 hac2 k0 k1 k2 hW4
  generalize S.acts.length = na at *
  go_upto_region 2 with fail
  refine wp_region_any (by kernel_rfl) ?_
  change wpAny _ _ _ _ _ _ _ (World.drew _)
  refine take_at 0 (some 10) (.pointer (some ⟨b, 0, none⟩)) rfl rfl (by kernel_rfl) (by kernel_rfl) (by kernel_rfl) (fun _ _ _ h => h) rfl (fun _ => by go_simp) ?_
  simp only [Act.put, List.setIfInBounds_toArray, List.set_cons_zero, List.set_cons_succ]
  refine take_at 1 (some 11) (.pointer (some ⟨b, 0, none⟩)) rfl rfl (by kernel_rfl) (by kernel_rfl) (by kernel_rfl) (fun _ _ _ h => h) rfl (fun _ => by go_simp) ?_
  simp only [Act.put, List.setIfInBounds_toArray, List.set_cons_zero, List.set_cons_succ]
  refine take_at 2 (some 12) (.pointer (some ⟨b, 0, none⟩)) rfl rfl (by kernel_rfl) (by kernel_rfl) (by kernel_rfl) (fun _ _ _ h => h) rfl (fun _ => by go_simp) ?_
  simp only [Act.put, List.setIfInBounds_toArray, List.set_cons_zero, List.set_cons_succ]
  refine take_at 3 (some 13) (.pointer (some ⟨b, 4, none⟩)) rfl rfl (by kernel_rfl) (by kernel_rfl) (by kernel_rfl) (fun _ _ _ h => h) rfl (fun _ => by go_simp) ?_
  simp only [Act.put, List.setIfInBounds_toArray, List.set_cons_zero, List.set_cons_succ]
  refine next_two 4 5 rfl rfl (by kernel_rfl) rfl rfl (fun K hK => ?_) (fun K hK => ?_)
  · first | (refine runL (some 14) rfl V3.a (by go_simp) ?_; refine hK _ _ ?_; clear hK K; simp only [Act.put, List.setIfInBounds_toArray, List.set_cons_zero, List.set_cons_succ])
    refine next_one 5 rfl (by kernel_rfl) rfl (fun K hK => ?_)
    refine runL (some 15) rfl (.agg #[.string f, .string ⟨#[]⟩, .pointer none]) (by go_simp) ?_
    refine hK _ _ ?_
    clear hK K
    simp only [Act.put, List.setIfInBounds_toArray, List.set_cons_zero, List.set_cons_succ]
    refine next_one 6 rfl (by kernel_rfl) rfl (fun K hK => ?_)
    refine runV (some 16) rfl (.slice (some ⟨W3.heap.size, 0, none⟩) 1 1) W4 (by have h1 := HW4.out; go_simp) ?_
    refine hK _ _ ?_
    clear hK K
    simp only [Act.put, List.setIfInBounds_toArray, List.set_cons_zero, List.set_cons_succ]
    refine next_one 7 rfl (by kernel_rfl) rfl (fun K hK => ?_)
    refine Lib.wp_append_run _ (.tmp 14) (.tmp 16) 90 90 rfl V3.a (.slice (some ⟨W3.heap.size, 0, none⟩) 1 1) rfl rfl _ _ HR.out ?_
    refine hK _ _ ?_
    clear hK K
    simp only [Act.put, List.setIfInBounds_toArray, List.set_cons_zero, List.set_cons_succ]
    refine take_at 8 (some 18) (.pointer (some ⟨b, 0, none⟩)) rfl rfl (by kernel_rfl) (by kernel_rfl) (by kernel_rfl) (fun _ _ _ h => h) rfl (fun _ => by go_simp) ?_
    simp only [Act.put, List.setIfInBounds_toArray, List.set_cons_zero, List.set_cons_succ]
    refine take_at 9 (some 19) (.pointer (some ⟨b, 4, none⟩)) rfl rfl (by kernel_rfl) (by kernel_rfl) (by kernel_rfl) (fun _ _ _ h => h) rfl (fun _ => by go_simp) ?_
    simp only [Act.put, List.setIfInBounds_toArray, List.set_cons_zero, List.set_cons_succ]
    refine next_one 10 rfl (by kernel_rfl) rfl (fun K hK => ?_)
    refine runN rfl (W5.setCell ⟨b, 4, none⟩ (.slice d5 (na + 1) k5)) (by go_simp) ?_
    refine hK _ _ ?_
    clear hK K
    refine wpAny_done (by kernel_rfl) ?_ _
    go_wp2
    go_end0
    exact ⟨rfl, FIN.out⟩
  · refine runL (some 15) rfl (.agg #[.string f, .string ⟨#[]⟩, .pointer none]) (by go_simp) ?_
    refine hK _ _ ?_
    clear hK K
    simp only [Act.put, List.setIfInBounds_toArray, List.set_cons_zero, List.set_cons_succ]
    refine next_two 4 6 rfl rfl (by kernel_rfl) rfl rfl (fun K hK => ?_) (fun K hK => ?_)
    · first | (refine runL (some 14) rfl V3.a (by go_simp) ?_; refine hK _ _ ?_; clear hK K; simp only [Act.put, List.setIfInBounds_toArray, List.set_cons_zero, List.set_cons_succ])
      refine next_one 6 rfl (by kernel_rfl) rfl (fun K hK => ?_)
      refine runV (some 16) rfl (.slice (some ⟨W3.heap.size, 0, none⟩) 1 1) W4 (by have h1 := HW4.out; go_simp) ?_
      refine hK _ _ ?_
      clear hK K
      simp only [Act.put, List.setIfInBounds_toArray, List.set_cons_zero, List.set_cons_succ]
      refine next_one 7 rfl (by kernel_rfl) rfl (fun K hK => ?_)
      refine Lib.wp_append_run _ (.tmp 14) (.tmp 16) 90 90 rfl V3.a (.slice (some ⟨W3.heap.size, 0, none⟩) 1 1) rfl rfl _ _ HR.out ?_
      refine hK _ _ ?_
      clear hK K
      simp only [Act.put, List.setIfInBounds_toArray, List.set_cons_zero, List.set_cons_succ]
      refine take_at 8 (some 18) (.pointer (some ⟨b, 0, none⟩)) rfl rfl (by kernel_rfl) (by kernel_rfl) (by kernel_rfl) (fun _ _ _ h => h) rfl (fun _ => by go_simp) ?_
      simp only [Act.put, List.setIfInBounds_toArray, List.set_cons_zero, List.set_cons_succ]
      refine take_at 9 (some 19) (.pointer (some ⟨b, 4, none⟩)) rfl rfl (by kernel_rfl) (by kernel_rfl) (by kernel_rfl) (fun _ _ _ h => h) rfl (fun _ => by go_simp) ?_
      simp only [Act.put, List.setIfInBounds_toArray, List.set_cons_zero, List.set_cons_succ]
      refine next_one 10 rfl (by kernel_rfl) rfl (fun K hK => ?_)
      refine runN rfl (W5.setCell ⟨b, 4, none⟩ (.slice d5 (na + 1) k5)) (by go_simp) ?_
      refine hK _ _ ?_
      clear hK K
      refine wpAny_done (by kernel_rfl) ?_ _
      go_wp2
      go_end0
      exact ⟨rfl, FIN.out⟩
    · refine runV (some 16) rfl (.slice (some ⟨W3.heap.size, 0, none⟩) 1 1) W4 (by have h1 := HW4.out; go_simp) ?_
      refine hK _ _ ?_
      clear hK K
      simp only [Act.put, List.setIfInBounds_toArray, List.set_cons_zero, List.set_cons_succ]
      refine next_one 4 rfl (by kernel_rfl) rfl (fun K hK => ?_)
      first | (refine runL (some 14) rfl V3.a (by go_simp) ?_; refine hK _ _ ?_; clear hK K; simp only [Act.put, List.setIfInBounds_toArray, List.set_cons_zero, List.set_cons_succ])
      refine next_one 7 rfl (by kernel_rfl) rfl (fun K hK => ?_)
      refine Lib.wp_append_run _ (.tmp 14) (.tmp 16) 90 90 rfl V3.a (.slice (some ⟨W3.heap.size, 0, none⟩) 1 1) rfl rfl _ _ HR.out ?_
      refine hK _ _ ?_
      clear hK K
      simp only [Act.put, List.setIfInBounds_toArray, List.set_cons_zero, List.set_cons_succ]
      refine take_at 8 (some 18) (.pointer (some ⟨b, 0, none⟩)) rfl rfl (by kernel_rfl) (by kernel_rfl) (by kernel_rfl) (fun _ _ _ h => h) rfl (fun _ => by go_simp) ?_
      simp only [Act.put, List.setIfInBounds_toArray, List.set_cons_zero, List.set_cons_succ]
      refine take_at 9 (some 19) (.pointer (some ⟨b, 4, none⟩)) rfl rfl (by kernel_rfl) (by kernel_rfl) (by kernel_rfl) (fun _ _ _ h => h) rfl (fun _ => by go_simp) ?_
      simp only [Act.put, List.setIfInBounds_toArray, List.set_cons_zero, List.set_cons_succ]
      refine next_one 10 rfl (by kernel_rfl) rfl (fun K hK => ?_)
      refine runN rfl (W5.setCell ⟨b, 4, none⟩ (.slice d5 (na + 1) k5)) (by go_simp) ?_
      refine hK _ _ ?_
      clear hK K
      refine wpAny_done (by kernel_rfl) ?_ _
      go_wp2
      go_end0
      exact ⟨rfl, FIN.out⟩
end Go.Proofs.YtnhokjnmpdiokaaGreatDoor.V
