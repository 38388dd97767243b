/- The store's rows become others; contract of change. Contracts of there, file, Used, Clock, and all of nothing. Contracts of add, Create, Mkdir. Contract of a node's write. -/
import Derived.Test.YtnhokjnmpdiokaaGreatDoorVSM
import Derived.Test.YtnhokjnmpdiokaaGreatDoorVNM
import Derived.Laws.IdiomCopy
set_option linter.unusedSimpArgs false
namespace Go.Proofs.YtnhokjnmpdiokaaGreatDoor.V
open Go.RowKit Go.Pth

def relab (L : Nat → Option Role) (w w1 : World) (r : Role) : Nat → Option Role := fun i => if w.heap.size ≤ i ∧ i < w1.heap.size then some r else L i
theorem relab_old (L : Nat → Option Role) (w w1 : World) (r : Role) (i : Nat) (h : i < w.heap.size) : relab L w w1 r i = L i := by unfold relab; rw [if_neg (by omega)]
theorem relab_new (L : Nat → Option Role) (w w1 : World) (r : Role) (i : Nat) (h : w.heap.size ≤ i ∧ i < w1.heap.size) : relab L w w1 r i = some r := by unfold relab; rw [if_pos h]
theorem relab_sup (L : Nat → Option Role) (w w1 : World) (r : Role) (i : Nat) (h : relab L w w1 r i ≠ none) : L i ≠ none ∨ (w.heap.size ≤ i ∧ i < w1.heap.size) := by
  unfold relab at h
  by_cases e : w.heap.size ≤ i ∧ i < w1.heap.size
  · exact Or.inr e
  · rw [if_neg e] at h; exact Or.inl h

theorem Rep.setNames {w w1 : World} {b : Nat} {S : SV} {V : SW} {L : Nat → Option Role} (h : Rep w b S V L) {v' : Value} {l' : List Nm} (hr : Row w1 79 2 v' l'.length (ents l')) (g : Grew w w1 V.n v') (hst : Srt l') (hrf : ∀ p ∈ l', p.2 ∈ S.ids) :
    Rep (w1.setCell ⟨b, 2, none⟩ v') b { S with names := l' } { V with n := v' } (relab L w w1 .names) ∧ StTo w (w1.setCell ⟨b, 2, none⟩ v') L (relab L w w1 .names) := by
  have sc := Chg.setCell w1 b 2 v'
  have hb : V.n.ownBlock ≠ some b := fun e => by have := h.ln b e; rw [h.lb] at this; cases this
  have nb := grew_na g h.cell.lt hb
  have ng : ∀ i q, L i = some q → q ≠ .names → ¬ V.n.ownBlock = some i := fun i q hi hq e => by rw [h.ln i e] at hi; injection hi with hi; exact hq hi.symm
  have ns : ∀ i q, L i = some q → q ≠ .store → ¬ i = b := fun i q hi hq e => by subst e; rw [h.lb] at hi; injection hi with hi; exact hq hi.symm
  have hsz := g.chg.size
  refine ⟨⟨?_, ?_, ?_, ?_, ?_, (relab_old _ _ _ _ _ h.cell.lt).trans h.lb, ?_, ?_, ?_, ?_, ?_, ?_, ?_, ?_, ?_⟩, ?_, ?_⟩
  · have := (g.chg.at h.cell hb).set 2 v'
    simpa [scells] using this
  · exact hr.chg sc fun q hq e => nb (e ▸ hq)
  · exact (h.kp.chg g.chg fun q hq => ng q _ (h.lk q hq) (by simp)).chg sc fun q hq => ns q _ (h.lk q hq) (by simp)
  · exact (h.ac.chg g.chg fun q hq => ng q _ (h.la q hq) (by simp)).chg sc fun q hq => ns q _ (h.la q hq) (by simp)
  · exact fun a ha => ⟨((h.nd a ha).1.chg g.chg fun i hi => ng i _ (h.ld a ha i hi) (by simp)).chg sc fun i hi => ns i _ (h.ld a ha i hi) (by simp), (h.nd a ha).2⟩
  · intro q hq
    rcases g.own with e | ⟨q', e1, e2⟩
    · have hq' : V.n.ownBlock = some q := by rw [← e]; exact hq
      exact (relab_old _ _ _ _ _ (h.nm.lt q hq')).trans (h.ln q hq')
    · have hq : v'.ownBlock = some q := hq
      have hlt := hr.lt q hq
      rw [e1] at hq; injection hq with hq
      exact relab_new _ _ _ _ _ ⟨by omega, hlt⟩
  · exact fun q hq => (relab_old _ _ _ _ _ (h.kp.lt q hq)).trans (h.lk q hq)
  · exact fun q hq => (relab_old _ _ _ _ _ (h.ac.lt q hq)).trans (h.la q hq)
  · exact fun a ha i hi => (relab_old _ _ _ _ _ ((h.nd a ha).1.lt i hi)).trans (h.ld a ha i hi)
  · intro i hi
    rw [size_setCell]
    rcases relab_sup _ _ _ _ _ hi with h1 | h1
    · exact Nat.lt_of_lt_of_le (h.lt i h1) hsz
    · exact h1.2
  · exact hst
  · exact h.sk
  · exact hrf
  · exact h.rk
  · exact (g.chg.mono fun i _ hi => by rw [h.ln i hi]; simp).trans (sc.mono fun i _ e => by rw [e, h.lb]; simp) fun _ _ x => x
  · intro i hi
    rcases relab_sup _ _ _ _ _ hi with h1 | h1
    · exact Or.inl h1
    · exact Or.inr h1.1

theorem Rep.setKept {w w1 : World} {b : Nat} {S : SV} {V : SW} {L : Nat → Option Role} (h : Rep w b S V L) {v' : Value} {l' : List Nm} (hr : Row w1 79 2 v' l'.length (ents l')) (g : Grew w w1 V.k v') (hst : Srt l') (hrf : ∀ p ∈ l', p.2 ∈ S.ids) :
    Rep (w1.setCell ⟨b, 3, none⟩ v') b { S with kept := l' } { V with k := v' } (relab L w w1 .kept) ∧ StTo w (w1.setCell ⟨b, 3, none⟩ v') L (relab L w w1 .kept) := by
  have sc := Chg.setCell w1 b 3 v'
  have hb : V.k.ownBlock ≠ some b := fun e => by have := h.lk b e; rw [h.lb] at this; cases this
  have nb := grew_na g h.cell.lt hb
  have ng : ∀ i q, L i = some q → q ≠ .kept → ¬ V.k.ownBlock = some i := fun i q hi hq e => by rw [h.lk i e] at hi; injection hi with hi; exact hq hi.symm
  have ns : ∀ i q, L i = some q → q ≠ .store → ¬ i = b := fun i q hi hq e => by subst e; rw [h.lb] at hi; injection hi with hi; exact hq hi.symm
  have hsz := g.chg.size
  refine ⟨⟨?_, ?_, ?_, ?_, ?_, (relab_old _ _ _ _ _ h.cell.lt).trans h.lb, ?_, ?_, ?_, ?_, ?_, ?_, ?_, ?_, ?_⟩, ?_, ?_⟩
  · have := (g.chg.at h.cell hb).set 3 v'
    simpa [scells] using this
  · exact (h.nm.chg g.chg fun q hq => ng q _ (h.ln q hq) (by simp)).chg sc fun q hq => ns q _ (h.ln q hq) (by simp)
  · exact hr.chg sc fun q hq e => nb (e ▸ hq)
  · exact (h.ac.chg g.chg fun q hq => ng q _ (h.la q hq) (by simp)).chg sc fun q hq => ns q _ (h.la q hq) (by simp)
  · exact fun a ha => ⟨((h.nd a ha).1.chg g.chg fun i hi => ng i _ (h.ld a ha i hi) (by simp)).chg sc fun i hi => ns i _ (h.ld a ha i hi) (by simp), (h.nd a ha).2⟩
  · exact fun q hq => (relab_old _ _ _ _ _ (h.nm.lt q hq)).trans (h.ln q hq)
  · intro q hq
    rcases g.own with e | ⟨q', e1, e2⟩
    · have hq' : V.k.ownBlock = some q := by rw [← e]; exact hq
      exact (relab_old _ _ _ _ _ (h.kp.lt q hq')).trans (h.lk q hq')
    · have hq : v'.ownBlock = some q := hq
      have hlt := hr.lt q hq
      rw [e1] at hq; injection hq with hq
      exact relab_new _ _ _ _ _ ⟨by omega, hlt⟩
  · exact fun q hq => (relab_old _ _ _ _ _ (h.ac.lt q hq)).trans (h.la q hq)
  · exact fun a ha i hi => (relab_old _ _ _ _ _ ((h.nd a ha).1.lt i hi)).trans (h.ld a ha i hi)
  · intro i hi
    rw [size_setCell]
    rcases relab_sup _ _ _ _ _ hi with h1 | h1
    · exact Nat.lt_of_lt_of_le (h.lt i h1) hsz
    · exact h1.2
  · exact h.sn
  · exact hst
  · exact h.rn
  · exact hrf
  · exact (g.chg.mono fun i _ hi => by rw [h.lk i hi]; simp).trans (sc.mono fun i _ e => by rw [e, h.lb]; simp) fun _ _ x => x
  · intro i hi
    rcases relab_sup _ _ _ _ _ hi with h1 | h1
    · exact Or.inl h1
    · exact Or.inr h1.1

theorem Rep.setActs {w w1 : World} {b : Nat} {S : SV} {V : SW} {L : Nat → Option Role} (h : Rep w b S V L) {v' : Value} {l' : List Ac} (hr : Row w1 167 3 v' l'.length (acells l')) (g : Grew w w1 V.a v') :
    Rep (w1.setCell ⟨b, 4, none⟩ v') b { S with acts := l' } { V with a := v' } (relab L w w1 .acts) ∧ StTo w (w1.setCell ⟨b, 4, none⟩ v') L (relab L w w1 .acts) := by
  have sc := Chg.setCell w1 b 4 v'
  have hb : V.a.ownBlock ≠ some b := fun e => by have := h.la b e; rw [h.lb] at this; cases this
  have nb := grew_na g h.cell.lt hb
  have ng : ∀ i q, L i = some q → q ≠ .acts → ¬ V.a.ownBlock = some i := fun i q hi hq e => by rw [h.la i e] at hi; injection hi with hi; exact hq hi.symm
  have ns : ∀ i q, L i = some q → q ≠ .store → ¬ i = b := fun i q hi hq e => by subst e; rw [h.lb] at hi; injection hi with hi; exact hq hi.symm
  have hsz := g.chg.size
  refine ⟨⟨?_, ?_, ?_, ?_, ?_, (relab_old _ _ _ _ _ h.cell.lt).trans h.lb, ?_, ?_, ?_, ?_, ?_, ?_, ?_, ?_, ?_⟩, ?_, ?_⟩
  · have := (g.chg.at h.cell hb).set 4 v'
    simpa [scells] using this
  · exact (h.nm.chg g.chg fun q hq => ng q _ (h.ln q hq) (by simp)).chg sc fun q hq => ns q _ (h.ln q hq) (by simp)
  · exact (h.kp.chg g.chg fun q hq => ng q _ (h.lk q hq) (by simp)).chg sc fun q hq => ns q _ (h.lk q hq) (by simp)
  · exact hr.chg sc fun q hq e => nb (e ▸ hq)
  · exact fun a ha => ⟨((h.nd a ha).1.chg g.chg fun i hi => ng i _ (h.ld a ha i hi) (by simp)).chg sc fun i hi => ns i _ (h.ld a ha i hi) (by simp), (h.nd a ha).2⟩
  · exact fun q hq => (relab_old _ _ _ _ _ (h.nm.lt q hq)).trans (h.ln q hq)
  · exact fun q hq => (relab_old _ _ _ _ _ (h.kp.lt q hq)).trans (h.lk q hq)
  · intro q hq
    rcases g.own with e | ⟨q', e1, e2⟩
    · have hq' : V.a.ownBlock = some q := by rw [← e]; exact hq
      exact (relab_old _ _ _ _ _ (h.ac.lt q hq')).trans (h.la q hq')
    · have hq : v'.ownBlock = some q := hq
      have hlt := hr.lt q hq
      rw [e1] at hq; injection hq with hq
      exact relab_new _ _ _ _ _ ⟨by omega, hlt⟩
  · exact fun a ha i hi => (relab_old _ _ _ _ _ ((h.nd a ha).1.lt i hi)).trans (h.ld a ha i hi)
  · intro i hi
    rw [size_setCell]
    rcases relab_sup _ _ _ _ _ hi with h1 | h1
    · exact Nat.lt_of_lt_of_le (h.lt i h1) hsz
    · exact h1.2
  · exact h.sn
  · exact h.sk
  · exact h.rn
  · exact h.rk
  · exact (g.chg.mono fun i _ hi => by rw [h.la i hi]; simp).trans (sc.mono fun i _ e => by rw [e, h.lb]; simp) fun _ _ x => x
  · intro i hi
    rcases relab_sup _ _ _ _ _ hi with h1 | h1
    · exact Or.inl h1
    · exact Or.inr h1.1

theorem Srt.app {l : List Nm} {p : B} {a : Nat} (hs : Srt l) (he : place l p = l.length) : Srt (l ++ [(p, a)]) := by
  unfold Srt at *
  rw [List.pairwise_append]
  refine ⟨hs, List.pairwise_singleton _ _, fun x hx y hy => ?_⟩
  obtain rfl := List.mem_singleton.1 hy
  obtain ⟨i, hi, rfl⟩ := List.mem_iff_getElem.1 hx
  exact place_before l p i (by omega) hi
theorem acells_app (a b : List Ac) : acells (a ++ b) = acells a ++ acells b := by simp [acells]
set_option maxRecDepth 100000 in
set_option maxHeartbeats 8000000 in
theorem change_made (b : Nat) (S : SV) (V : SW) (L : Nat → Option Role) (p : B) (a : Nat) (w : World) (h : Rep w b S V L) (hn : S.names.length ≤ 100000) (hac : S.acts.length ≤ 100000) (hend : place S.names p = S.names.length) (ha : a ∈ S.ids) :
    Calls Tryz.prog 121 #[ptr b, .agg #[.string ⟨#[]⟩, .string (tx p), ptr a]] w fun e w' => e = .returned (.tuple #[]) ∧ ∃ V' L', Rep w' b { S with names := S.names ++ [(p, a)], acts := S.acts ++ [⟨[], p, some a⟩] } V' L' ∧ StTo w w' L L' := by
  obtain ⟨W1, hW1⟩ : ∃ W1, W1 = w.alloc (.cells #[.string ⟨#[]⟩, .string (tx p), ptr a] 167) := ⟨_, rfl⟩
  have e1 : Ext w W1.drew := by rw [hW1]; exact (Ext.alloc _ _).trans (Ext.drew _)
  have hat1 : At W1 w.heap.size #[.string ⟨#[]⟩, .string (tx p), ptr a] 167 := by rw [hW1]; exact At.new _ _ _
  obtain ⟨W2, hW2⟩ : ∃ W2, W2 = W1.drew.alloc (.cells #[.string ⟨#[]⟩, .string (tx p), ptr a] 167) := ⟨_, rfl⟩
  have s1 : W1.heap.size = w.heap.size + 1 := by rw [hW1]; exact size_alloc _ _
  have e2 : Ext W1 W2 := by rw [hW2]; exact (Ext.drew _).trans (Ext.alloc _ _)
  have e12 : Ext w W2 := by refine Ext.trans ?_ e2; rw [hW1]; exact Ext.alloc _ _
  have hat2 : At W2 (w.heap.size + 1) #[.string ⟨#[]⟩, .string (tx p), ptr a] 167 := by rw [hW2, ← s1]; exact At.new _ _ _
  have h2 := h.ext e12
  have AP := apply_made b 2 (scells S V) 92 V.n S.names p a (w.heap.size + 1) 0 1 W2 h2.cell rfl h2.nm (fun e => by have := h.ln b e; rw [h.lb] at this; cases this) h.sn (by omega) hend (by rw [hat2.cell]; rfl) (by rw [hat2.cell]; rfl) (by rw [hat2.cell]; rfl)
  have AP2 : Calls Tryz.prog 112 #[.pointer (some ⟨b, 2, none⟩), .slice (some ⟨w.heap.size + 1, 0, none⟩) 1 1] W2 fun e w' => e = .returned (.tuple #[]) ∧ ∃ V' L', Rep w' b { S with names := S.names ++ [(p, a)] } V' L' ∧ StTo w w' L L' ∧ w'.cell? ⟨w.heap.size, 0, none⟩ = some (.string ⟨#[]⟩) ∧ w'.cell? ⟨w.heap.size, 1, none⟩ = some (.string (tx p)) ∧ w'.cell? ⟨w.heap.size, 2, none⟩ = some (ptr a) :=
    AP.mono fun e w' ⟨q1, v', w1, q2, q3, q4⟩ => by
      have r := h2.setNames (l' := S.names ++ [(p, a)]) (by simpa using q2) q3 (Srt.app h.sn hend) (fun x hx => by
        rcases List.mem_append.1 hx with hx | hx
        · exact h.rn x hx
        · obtain rfl := List.mem_singleton.1 hx; exact ha)
      have hL : ¬ L w.heap.size ≠ none := fun e => by have := h.lt _ e; omega
      have hc := r.2.chg.at (hat1.ext e2) hL
      subst q4
      exact ⟨q1, _, _, r.1, (StTo.of_ext e12).trans r.2, by rw [hc.cell]; rfl, by rw [hc.cell]; rfl, by rw [hc.cell]; rfl⟩
  have HP := Lib.hid AP2
  have C0 : W1.drew.cell? ⟨w.heap.size, 0, none⟩ = some (.string ⟨#[]⟩) := by rw [show W1.drew.cell? ⟨w.heap.size, 0, none⟩ = W1.cell? ⟨w.heap.size, 0, none⟩ from rfl, hat1.cell]; rfl
  have C1 : W1.drew.cell? ⟨w.heap.size, 1, none⟩ = some (.string (tx p)) := by rw [show W1.drew.cell? ⟨w.heap.size, 1, none⟩ = W1.cell? ⟨w.heap.size, 1, none⟩ from rfl, hat1.cell]; rfl
  have C2 : W1.drew.cell? ⟨w.heap.size, 2, none⟩ = some (ptr a) := by rw [show W1.drew.cell? ⟨w.heap.size, 2, none⟩ = W1.cell? ⟨w.heap.size, 2, none⟩ from rfl, hat1.cell]; rfl
  have HW1 := Lib.hid hW1
  have HW2 := Lib.hid hW2
  have S1 := Lib.hid s1
  clear AP AP2 h2 hat1 hat2 e1 e2 e12 h hend ha hn s1
  unfold ptr at *
  go_enter Tryz.func121, Tryz.ntmps121
  go_upto_region 1 with fail
  rw [← HW1.out]
  refine wp_region_any (by kernel_rfl) ?_
  change wpAny _ _ _ _ _ _ _ (World.drew _)
  refine take_at 0 (some 4) (.pointer (some ⟨b, 0, none⟩)) rfl rfl (by kernel_rfl) (by kernel_rfl) (by kernel_rfl) (fun _ _ _ h => h) rfl (fun _ => by go_simp) ?_
  simp only [Act.put, List.setIfInBounds_toArray, List.set_cons_zero, List.set_cons_succ]
  refine take_at 1 (some 5) (.pointer (some ⟨b, 0, none⟩)) rfl rfl (by kernel_rfl) (by kernel_rfl) (by kernel_rfl) (fun _ _ _ h => h) rfl (fun _ => by go_simp) ?_
  simp only [Act.put, List.setIfInBounds_toArray, List.set_cons_zero, List.set_cons_succ]
  refine take_at 2 (some 6) (.pointer (some ⟨b, 2, none⟩)) rfl rfl (by kernel_rfl) (by kernel_rfl) (by kernel_rfl) (fun _ _ _ h => h) rfl (fun _ => by go_simp) ?_
  simp only [Act.put, List.setIfInBounds_toArray, List.set_cons_zero, List.set_cons_succ]
  refine next_one 3 rfl (by kernel_rfl) rfl (fun K hK => ?_)
  refine runL (some 7) rfl (.agg #[.string ⟨#[]⟩, .string (tx p), .pointer (some ⟨a, 0, none⟩)]) (by go_simp) ?_
  refine hK _ _ ?_
  clear hK K
  simp only [Act.put, List.setIfInBounds_toArray, List.set_cons_zero, List.set_cons_succ]
  refine next_one 4 rfl (by kernel_rfl) rfl (fun K hK => ?_)
  refine runV (some 8) rfl (.slice (some ⟨w.heap.size + 1, 0, none⟩) 1 1) W2 (by have h1 := HW2.out; have h2 := S1.out; go_simp) ?_
  refine hK _ _ ?_
  clear hK K
  simp only [Act.put, List.setIfInBounds_toArray, List.set_cons_zero, List.set_cons_succ]
  refine next_one 5 rfl (by kernel_rfl) rfl (fun K hK => ?_)
  refine callS (some 9) rfl 112 #[.pointer (some ⟨b, 2, none⟩), .slice (some ⟨w.heap.size + 1, 0, none⟩) 1 1] (by go_simp) (fun v w' => v = .tuple #[] ∧ ∃ V' L', Rep w' b { S with names := S.names ++ [(p, a)] } V' L' ∧ StTo w w' L L' ∧ w'.cell? ⟨w.heap.size, 0, none⟩ = some (.string ⟨#[]⟩) ∧ w'.cell? ⟨w.heap.size, 1, none⟩ = some (.string (tx p)) ∧ w'.cell? ⟨w.heap.size, 2, none⟩ = some (.pointer (some ⟨a, 0, none⟩))) ((HP.out).mono fun e w' he => ⟨_, he.1, rfl, he.2⟩) ?_
  rintro v3 W3 ⟨rfl, V3, L3, r3, t3, k0, k1, k2⟩
  refine hK _ _ ?_
  clear hK K
  simp only [Act.put, List.setIfInBounds_toArray, List.set_cons_zero, List.set_cons_succ]
  refine wpAny_done (by kernel_rfl) ?_ _
  clear HP HW1 HW2 S1 C0 C1 C2 hW1 hW2 W1 W2
  have D0 : W3.drew.cell? ⟨w.heap.size, 0, none⟩ = some (.string ⟨#[]⟩) := k0
  have D1 : W3.drew.cell? ⟨w.heap.size, 1, none⟩ = some (.string (tx p)) := k1
  have D2 : W3.drew.cell? ⟨w.heap.size, 2, none⟩ = some (.pointer (some ⟨a, 0, none⟩)) := k2
  have ca : W3.drew.cell? ⟨b, 4, none⟩ = some V3.a := by rw [show W3.drew.cell? ⟨b, 4, none⟩ = W3.cell? ⟨b, 4, none⟩ from rfl, r3.c 4]; rfl
  obtain ⟨W4, hW4⟩ : ∃ W4, W4 = W3.drew.alloc (.cells #[.string ⟨#[]⟩, .string (tx p), .pointer (some ⟨a, 0, none⟩)] 167) := ⟨_, rfl⟩
  have e4 : Ext W3.drew W4 := by rw [hW4]; exact Ext.alloc _ _
  have r4 := (r3.ext (Ext.drew W3)).ext e4
  have hat4 : At W4 W3.heap.size #[.string ⟨#[]⟩, .string (tx p), .pointer (some ⟨a, 0, none⟩)] 167 := by rw [hW4]; exact At.new W3.drew _ _
  obtain ⟨i, hi1, hi2, hi3, hi4⟩ := info_of info87
  obtain ⟨v5, W5, hrun, hrow, hg⟩ := run_append_row (P := Tryz.prog) W4 90 90 90 167 i _ Tryz.underlying90 hi1 hi2 (by rw [hi3]; rfl) V3.a S.acts.length (acells S.acts) (by rw [hi3]; exact r4.ac) (.slice (some ⟨W3.heap.size, 0, none⟩) 1 1) 1 [.string ⟨#[]⟩, .string (tx p), .pointer (some ⟨a, 0, none⟩)] (by
    rw [hi3]
    refine Src.ofSlice W4 Tryz.underlying90 ⟨W3.heap.size, 0, none⟩ 1 1 _ rfl (fun q u hu => ?_) (by simp [Value.oneCell'])
    rw [Addr.add_lit, Nat.zero_add, hat4.cell, ← hu]; simp) (by simp only [maxLen]; omega) (by rw [hi4]; omega)
  rw [hi3] at hrow
  have hac2 : acells S.acts ++ [.string ⟨#[]⟩, .string (tx p), .pointer (some ⟨a, 0, none⟩)] = acells (S.acts ++ [⟨[], p, some a⟩]) := by rw [acells_app]; rfl
  rw [hac2] at hrow
  obtain ⟨d5, k5, hv5, -⟩ := hrow.shape
  subst hv5
  have FN := r4.setActs (l' := S.acts ++ [⟨[], p, some a⟩]) (by simpa using hrow) hg
  have FIN := Lib.hid (⟨_, _, FN.1, t3.trans (((StTo.of_ext (Ext.drew W3)).trans (StTo.of_ext e4)).trans FN.2)⟩ : ∃ V' L', Rep (W5.setCell ⟨b, 4, none⟩ (.slice d5 (S.acts.length + 1) k5)) b { S with names := S.names ++ [(p, a)], acts := S.acts ++ [⟨[], p, some a⟩] } V' L' ∧ StTo w _ L L')
  have at5 := hg.chg.at r4.cell (fun e => by have := r4.la b e; rw [r4.lb] at this; cases this)
  have c5 := at5.cell 4
  simp only [scells] at c5
  have f5 := at5.frozen 4
  have ca4 := e4.cell ca
  have HR := Lib.hid hrun
  have E4 := Lib.hid e4
  have HW4 := Lib.hid hW4
  clear FN hrow hg at5 hrun hat4 r4 r3 t3 hi1 hi2 hi3 hi4 e4 hac2 k0 k1 k2 hW4
  generalize S.acts.length = na at *
  go_upto_region 2 with fail
  refine wp_region_any (by kernel_rfl) ?_
  change wpAny _ _ _ _ _ _ _ (World.drew _)
  refine take_at 0 (some 10) (.pointer (some ⟨b, 0, none⟩)) rfl rfl (by kernel_rfl) (by kernel_rfl) (by kernel_rfl) (fun _ _ _ h => h) rfl (fun _ => by go_simp) ?_
  simp only [Act.put, List.setIfInBounds_toArray, List.set_cons_zero, List.set_cons_succ]
  refine take_at 1 (some 11) (.pointer (some ⟨b, 0, none⟩)) rfl rfl (by kernel_rfl) (by kernel_rfl) (by kernel_rfl) (fun _ _ _ h => h) rfl (fun _ => by go_simp) ?_
  simp only [Act.put, List.setIfInBounds_toArray, List.set_cons_zero, List.set_cons_succ]
  refine take_at 2 (some 12) (.pointer (some ⟨b, 0, none⟩)) rfl rfl (by kernel_rfl) (by kernel_rfl) (by kernel_rfl) (fun _ _ _ h => h) rfl (fun _ => by go_simp) ?_
  simp only [Act.put, List.setIfInBounds_toArray, List.set_cons_zero, List.set_cons_succ]
  refine take_at 3 (some 13) (.pointer (some ⟨b, 4, none⟩)) rfl rfl (by kernel_rfl) (by kernel_rfl) (by kernel_rfl) (fun _ _ _ h => h) rfl (fun _ => by go_simp) ?_
  simp only [Act.put, List.setIfInBounds_toArray, List.set_cons_zero, List.set_cons_succ]
  refine next_two 4 5 rfl rfl (by kernel_rfl) rfl rfl (fun K hK => ?_) (fun K hK => ?_)
  · first | (refine runL (some 14) rfl V3.a (by go_simp) ?_; refine hK _ _ ?_; clear hK K; simp only [Act.put, List.setIfInBounds_toArray, List.set_cons_zero, List.set_cons_succ])
    refine next_one 5 rfl (by kernel_rfl) rfl (fun K hK => ?_)
    refine runL (some 15) rfl (.agg #[.string ⟨#[]⟩, .string (tx p), .pointer (some ⟨a, 0, none⟩)]) (by go_simp) ?_
    refine hK _ _ ?_
    clear hK K
    simp only [Act.put, List.setIfInBounds_toArray, List.set_cons_zero, List.set_cons_succ]
    refine next_one 6 rfl (by kernel_rfl) rfl (fun K hK => ?_)
    refine runV (some 16) rfl (.slice (some ⟨W3.heap.size, 0, none⟩) 1 1) W4 (by have h1 := HW4.out; go_simp) ?_
    refine hK _ _ ?_
    clear hK K
    simp only [Act.put, List.setIfInBounds_toArray, List.set_cons_zero, List.set_cons_succ]
    refine next_one 7 rfl (by kernel_rfl) rfl (fun K hK => ?_)
    refine Lib.wp_append_run _ (.tmp 14) (.tmp 16) 90 90 rfl V3.a (.slice (some ⟨W3.heap.size, 0, none⟩) 1 1) rfl rfl _ _ HR.out ?_
    refine hK _ _ ?_
    clear hK K
    simp only [Act.put, List.setIfInBounds_toArray, List.set_cons_zero, List.set_cons_succ]
    refine take_at 8 (some 18) (.pointer (some ⟨b, 0, none⟩)) rfl rfl (by kernel_rfl) (by kernel_rfl) (by kernel_rfl) (fun _ _ _ h => h) rfl (fun _ => by go_simp) ?_
    simp only [Act.put, List.setIfInBounds_toArray, List.set_cons_zero, List.set_cons_succ]
    refine take_at 9 (some 19) (.pointer (some ⟨b, 4, none⟩)) rfl rfl (by kernel_rfl) (by kernel_rfl) (by kernel_rfl) (fun _ _ _ h => h) rfl (fun _ => by go_simp) ?_
    simp only [Act.put, List.setIfInBounds_toArray, List.set_cons_zero, List.set_cons_succ]
    refine next_one 10 rfl (by kernel_rfl) rfl (fun K hK => ?_)
    refine runN rfl (W5.setCell ⟨b, 4, none⟩ (.slice d5 (na + 1) k5)) (by go_simp) ?_
    refine hK _ _ ?_
    clear hK K
    refine wpAny_done (by kernel_rfl) ?_ _
    go_wp2
    go_end0
    exact ⟨rfl, FIN.out⟩
  · refine runL (some 15) rfl (.agg #[.string ⟨#[]⟩, .string (tx p), .pointer (some ⟨a, 0, none⟩)]) (by go_simp) ?_
    refine hK _ _ ?_
    clear hK K
    simp only [Act.put, List.setIfInBounds_toArray, List.set_cons_zero, List.set_cons_succ]
    refine next_two 4 6 rfl rfl (by kernel_rfl) rfl rfl (fun K hK => ?_) (fun K hK => ?_)
    · first | (refine runL (some 14) rfl V3.a (by go_simp) ?_; refine hK _ _ ?_; clear hK K; simp only [Act.put, List.setIfInBounds_toArray, List.set_cons_zero, List.set_cons_succ])
      refine next_one 6 rfl (by kernel_rfl) rfl (fun K hK => ?_)
      refine runV (some 16) rfl (.slice (some ⟨W3.heap.size, 0, none⟩) 1 1) W4 (by have h1 := HW4.out; go_simp) ?_
      refine hK _ _ ?_
      clear hK K
      simp only [Act.put, List.setIfInBounds_toArray, List.set_cons_zero, List.set_cons_succ]
      refine next_one 7 rfl (by kernel_rfl) rfl (fun K hK => ?_)
      refine Lib.wp_append_run _ (.tmp 14) (.tmp 16) 90 90 rfl V3.a (.slice (some ⟨W3.heap.size, 0, none⟩) 1 1) rfl rfl _ _ HR.out ?_
      refine hK _ _ ?_
      clear hK K
      simp only [Act.put, List.setIfInBounds_toArray, List.set_cons_zero, List.set_cons_succ]
      refine take_at 8 (some 18) (.pointer (some ⟨b, 0, none⟩)) rfl rfl (by kernel_rfl) (by kernel_rfl) (by kernel_rfl) (fun _ _ _ h => h) rfl (fun _ => by go_simp) ?_
      simp only [Act.put, List.setIfInBounds_toArray, List.set_cons_zero, List.set_cons_succ]
      refine take_at 9 (some 19) (.pointer (some ⟨b, 4, none⟩)) rfl rfl (by kernel_rfl) (by kernel_rfl) (by kernel_rfl) (fun _ _ _ h => h) rfl (fun _ => by go_simp) ?_
      simp only [Act.put, List.setIfInBounds_toArray, List.set_cons_zero, List.set_cons_succ]
      refine next_one 10 rfl (by kernel_rfl) rfl (fun K hK => ?_)
      refine runN rfl (W5.setCell ⟨b, 4, none⟩ (.slice d5 (na + 1) k5)) (by go_simp) ?_
      refine hK _ _ ?_
      clear hK K
      refine wpAny_done (by kernel_rfl) ?_ _
      go_wp2
      go_end0
      exact ⟨rfl, FIN.out⟩
    · refine runV (some 16) rfl (.slice (some ⟨W3.heap.size, 0, none⟩) 1 1) W4 (by have h1 := HW4.out; go_simp) ?_
      refine hK _ _ ?_
      clear hK K
      simp only [Act.put, List.setIfInBounds_toArray, List.set_cons_zero, List.set_cons_succ]
      refine next_one 4 rfl (by kernel_rfl) rfl (fun K hK => ?_)
      first | (refine runL (some 14) rfl V3.a (by go_simp) ?_; refine hK _ _ ?_; clear hK K; simp only [Act.put, List.setIfInBounds_toArray, List.set_cons_zero, List.set_cons_succ])
      refine next_one 7 rfl (by kernel_rfl) rfl (fun K hK => ?_)
      refine Lib.wp_append_run _ (.tmp 14) (.tmp 16) 90 90 rfl V3.a (.slice (some ⟨W3.heap.size, 0, none⟩) 1 1) rfl rfl _ _ HR.out ?_
      refine hK _ _ ?_
      clear hK K
      simp only [Act.put, List.setIfInBounds_toArray, List.set_cons_zero, List.set_cons_succ]
      refine take_at 8 (some 18) (.pointer (some ⟨b, 0, none⟩)) rfl rfl (by kernel_rfl) (by kernel_rfl) (by kernel_rfl) (fun _ _ _ h => h) rfl (fun _ => by go_simp) ?_
      simp only [Act.put, List.setIfInBounds_toArray, List.set_cons_zero, List.set_cons_succ]
      refine take_at 9 (some 19) (.pointer (some ⟨b, 4, none⟩)) rfl rfl (by kernel_rfl) (by kernel_rfl) (by kernel_rfl) (fun _ _ _ h => h) rfl (fun _ => by go_simp) ?_
      simp only [Act.put, List.setIfInBounds_toArray, List.set_cons_zero, List.set_cons_succ]
      refine next_one 10 rfl (by kernel_rfl) rfl (fun K hK => ?_)
      refine runN rfl (W5.setCell ⟨b, 4, none⟩ (.slice d5 (na + 1) k5)) (by go_simp) ?_
      refine hK _ _ ?_
      clear hK K
      refine wpAny_done (by kernel_rfl) ?_ _
      go_wp2
      go_end0
      exact ⟨rfl, FIN.out⟩
end Go.Proofs.YtnhokjnmpdiokaaGreatDoor.V

namespace Go.Proofs.YtnhokjnmpdiokaaGreatDoor.V
open Go.RowKit Go.Pth

set_option maxHeartbeats 4000000 in
theorem there_any (b : Nat) (S : SV) (V : SW) (L : Nat → Option Role) (w : World) (h : Rep w b S V L) : Calls Tryz.prog 37 #[ptr b] w fun e w' => e = .returned V.n ∧ w = w' := by
  have c2 := h.c 2
  simp only [scells] at c2
  unfold ptr
  clear h
  go_enter Tryz.func37, Tryz.ntmps37
  go_wp2
  go_ret
  exact ⟨rfl, rfl⟩
def SV.file (S : SV) (p : B) : Option Nat × Int :=
  match look S.names p with
  | none => (none, 5)
  | some a => if (S.nd a).kind = 1 then (some a, 0) else (none, 8)
set_option maxRecDepth 100000 in
set_option maxHeartbeats 4000000 in
theorem file_any (b : Nat) (S : SV) (V : SW) (L : Nat → Option Role) (p : ByteArray) (w : World) (h : Rep w b S V L) (hn : S.names.length ≤ 1000000) :
    Calls Tryz.prog 40 #[ptr b, .string p] w fun e w' => e = .returned (.tuple #[optr (S.file p.toList).1, .int .i64 (S.file p.toList).2]) ∧ Ext w w' := by
  have TH := Lib.hid (there_any b S V L w h)
  have FI := Lib.hid (find_any V.n S.names p w (Tr.of_row h.nm) h.sn hn)
  have fe : S.file p.toList = match look S.names p.toList with
    | none => (none, 5)
    | some a => if (S.nd a).kind = 1 then (some a, 0) else (none, 8) := rfl
  unfold ptr at TH ⊢
  cases h1 : look S.names p.toList with
  | none =>
    rw [h1] at fe FI
    have FE := Lib.hid fe
    clear fe h
    go_enter Tryz.func40, Tryz.ntmps40
    go_wp2_with (first | (go_at_call 37; refine (TH.out).mono ?_; rintro e w' ⟨rfl, rfl⟩) | (go_at_call 38; refine (FI.out).mono ?_; rintro e w' ⟨rfl, hE⟩; simp only [optr]))
    go_ret2
    exact ⟨by rw [FE.out] <;> rfl, hE⟩
  | some a =>
    rw [h1] at fe FI
    have hid := h.rn _ (look_mem _ _ _ h1)
    have c0 := (h.nd a hid).1.c 0
    simp only [ncells] at c0
    have C0 := Lib.hid c0
    have fe : S.file p.toList = if (S.nd a).kind = 1 then (some a, 0) else (none, 8) := fe
    clear c0 h
    generalize (S.nd a).kind = kk at *
    by_cases h2 : kk = 1
    · subst h2
      simp only [if_true] at fe
      have FE := Lib.hid fe
      clear fe
      go_enter Tryz.func40, Tryz.ntmps40
      go_wp2_with (first | (go_at_call 37; refine (TH.out).mono ?_; rintro e w' ⟨rfl, rfl⟩) | (go_at_call 38; refine (FI.out).mono ?_; rintro e w' ⟨rfl, hE⟩; simp only [optr, ptr]; have d0 := hE.cell C0.out))
      go_ret2
      exact ⟨by rw [FE.out] <;> rfl, hE⟩
    · have q : (kk == 1) = false := by simpa using h2
      simp only [if_neg h2] at fe
      have FE := Lib.hid fe
      clear fe h2
      go_enter Tryz.func40, Tryz.ntmps40
      go_wp2_with (first | (go_at_call 37; refine (TH.out).mono ?_; rintro e w' ⟨rfl, rfl⟩) | (go_at_call 38; refine (FI.out).mono ?_; rintro e w' ⟨rfl, hE⟩; simp only [optr, ptr]; have d0 := hE.cell C0.out))
      go_ret2
      exact ⟨by rw [FE.out] <;> rfl, hE⟩
def used (nd : Nat → NV) (l : List Nm) : Nat := (l.map fun p => (nd p.2).now.length).sum
def InvU (w : World) (S : SV) (s3 s9 : Value) (wr : World) : Prop := ∃ k : Nat, k ≤ S.names.length ∧ s9 = .int .i64 k ∧ s3 = .int .i64 (used S.nd (S.names.take k)) ∧ Ext w wr
theorem used_step (nd : Nat → NV) (l : List Nm) (k : Nat) (h : k < l.length) : used nd (l.take (k + 1)) = used nd (l.take k) + (nd l[k].2).now.length := by
  unfold used; rw [List.take_succ_eq_append_getElem h, List.map_append, List.sum_append]; rfl
theorem used_le (nd : Nat → NV) (l : List Nm) (h : ∀ p ∈ l, (nd p.2).now.length ≤ 65536) : used nd l ≤ l.length * 65536 := by
  unfold used
  induction l with
  | nil => simp
  | cons a r ih =>
    have := ih fun p hp => h p (List.mem_cons_of_mem _ hp)
    have := h a (List.mem_cons_self)
    simp only [List.map_cons, List.sum_cons, List.length_cons]
    omega
set_option maxRecDepth 100000 in
set_option maxHeartbeats 4000000 in
theorem used_any (b : Nat) (S : SV) (V : SW) (L : Nat → Option Role) (w : World) (h : Rep w b S V L) (hn : S.names.length ≤ 1000000) :
    Calls Tryz.prog 128 #[ptr b] w fun e w' => e = .returned (.int .i64 (used S.nd S.names)) ∧ Ext w w' := by
  have TH := Lib.hid (there_any b S V L w h)
  obtain ⟨ad, cap, tb, o, ht⟩ := Tr.of_row h.nm
  have hvn := ht.val
  have HT := Lib.hid ht
  have ND := Lib.hid (fun a ha => (h.nd a ha))
  have RN := Lib.hid h.rn
  have UB := Lib.hid (used_le S.nd S.names fun p hp => (h.nd _ (h.rn p hp)).2.len)
  rw [hvn] at TH
  unfold ptr at TH ⊢
  obtain ⟨n, hN⟩ : ∃ n, n = S.names.length := ⟨_, rfl⟩
  have HN := Lib.hid hN
  rw [← hN] at hn TH
  have E0 := Lib.hid (Ext.refl w)
  clear h hvn ht hN
  go_enter Tryz.func128, Tryz.ntmps128
  go_wp2_with (go_at_call 37; refine (TH.out).mono ?_; rintro e w' ⟨rfl, rfl⟩)
  go_loopw [3, 9] (fun s3 s9 wr => InvU w S s3 s9 wr) (fun _ s9 _ => n - (intOf s9).toNat)
  case atStart => exact ⟨0, Nat.zero_le _, rfl, rfl, E0.out⟩
  case round =>
    obtain ⟨k, hk, rfl, rfl, he⟩ := hrel
    rw [← HN.out] at hk
    have HE := Lib.hid he
    clear he
    by_cases hlt : k < n
    · have hkl : k < S.names.length := by rw [← HN.out]; exact hlt
      have had := HT.out.adr (by omega)
      have c1 := HE.out.cell (HT.out.nm k hkl)
      have c2 := HE.out.cell (HT.out.nd k hkl)
      have nn := (ND.out _ (RN.out _ (List.getElem_mem hkl)))
      have c3 := HE.out.cell (show w.cell? ⟨S.names[k].2, 3, none⟩ = some (V.nv S.names[k].2).n by rw [nn.1.c 3]; rfl)
      obtain ⟨d3, k3, hv3, -⟩ := nn.1.n.shape
      rw [hv3] at c3
      have us := Lib.hid (used_step S.nd S.names k hkl)
      have l1 := nn.2.len
      have l2 : used S.nd (S.names.take k) ≤ k * 65536 := by
        have := used_le S.nd (S.names.take k) fun p hp => (ND.out _ (RN.out _ (List.mem_of_mem_take hp))).2.len
        rw [List.length_take, Nat.min_eq_left (by omega)] at this
        exact this
      subst had
      clear nn hv3
      generalize S.names[k].1 = pk at *
      generalize S.names[k].2 = ak at *
      generalize (S.nd ak).now.length = ln at *
      generalize used S.nd (S.names.take k) = u0 at *
      unfold ptr at c2
      have i0 : (0 : Int) ≤ (k : Int) := by omega
      have i1 : (k : Int) < (n : Int) := by omega
      clear hkl
      have c4 := (Ext.alloc wr (.cells #[.string (tx pk), .pointer (some ⟨ak, 0, none⟩)] 79)).cell c3
      have E2 := Lib.hid (HE.out.trans (Ext.alloc wr (.cells #[.string (tx pk), .pointer (some ⟨ak, 0, none⟩)] 79)))
      go_wp2
      exact ⟨⟨k + 1, by rw [← HN.out]; omega, rfl, by rw [us.out]; rfl, E2.out⟩, by simp [intOf]; omega⟩
    · obtain rfl : k = n := by omega
      clear hlt
      have ut : used S.nd (S.names.take k) = used S.nd S.names := by rw [HN.out, List.take_length]
      rw [ut]
      go_wp2
      go_ret
      exact ⟨rfl, HE.out⟩
end Go.Proofs.YtnhokjnmpdiokaaGreatDoor.V

namespace Go.Proofs.YtnhokjnmpdiokaaGreatDoor.V
open Go.RowKit Go.Pth

theorem upd_upd {α : Type} (f : Nat → α) (a : Nat) (x y : α) : upd (upd f a x) a y = upd f a y := by
  funext i; unfold upd; by_cases h : i = a <;> simp [h]
def newN (k st : Int) : NV := ⟨k, 0, st, [], [], []⟩
def SV.made (S : SV) (a : Nat) (p : B) (k : Int) : SV :=
  { S with clock := S.clock + 1, ids := a :: S.ids, nd := upd S.nd a (newN k (S.clock + 1)), names := S.names ++ [(p, a)], acts := S.acts ++ [⟨[], p, some a⟩] }
def kinds (S : SV) : Nat → Int := fun a => (S.nd a).kind
theorem newN_ok (k st : Int) : (newN k st).Ok := ⟨rfl, by simp [newN, secs], by simp [newN], by simp [newN], by simp [newN]⟩
def nilV : Vs := ⟨.slice none 0 0, .slice none 0 0, .slice none 0 0⟩
theorem newN_in (w : World) (k st : Int) : NdIn (w.alloc (.cells #[.int .i64 k, .int .i64 0, .int .u64 st, .slice none 0 0, .slice none 0 0, .slice none 0 0] 85)) w.heap.size (newN k st) nilV :=
  ⟨At.new _ _ _, World.ownsRow_nil _ _ _ _, World.ownsRow_nil _ _ _ _, World.ownsRow_nil _ _ _ _, by simp [nilV, Value.ownBlock], by simp [nilV, Value.ownBlock], by simp [nilV, Value.ownBlock], by simp [nilV, Value.ownBlock], by simp [nilV, Value.ownBlock], by simp [nilV, Value.ownBlock]⟩
theorem Rep.kindc {w : World} {b : Nat} {S : SV} {V : SW} {L : Nat → Option Role} (h : Rep w b S V L) : ∀ p ∈ S.names, w.cell? ⟨p.2, 0, none⟩ = some (.int .i64 (kinds S p.2)) := fun p hp => by
  rw [(h.nd _ (h.rn p hp)).1.c 0]; rfl
theorem txt_one (w : World) (p : ByteArray) : Txt (w.alloc (.cells #[.string p] 9)) (.slice (some ⟨w.heap.size, 0, none⟩) 1 1) [p.toList] :=
  ⟨_, _, w.heap.size, rfl, fun _ => rfl, fun j hj => by
    obtain rfl : j = 0 := by simpa using hj
    rw [(At.new w #[.string p] 9).cell]; simp [list_tx]⟩
structure SV.Fit (S : SV) : Prop where
  left : 0 ≤ S.left ∧ S.left ≤ 9223372036854775807
  ops : 0 ≤ S.ops ∧ S.ops ≤ 100000
  clock : 0 ≤ S.clock ∧ S.clock ≤ 100000
  names : S.names.length ≤ 10000
  acts : S.acts.length ≤ 10000
theorem begin_one (b : Nat) (S : SV) (V : SW) (L : Nat → Option Role) (p : ByteArray) (w : World) (h : Rep w b S V L) (hf : S.Fit) :
    Calls Tryz.prog 108 #[ptr b, .slice (some ⟨w.heap.size, 0, none⟩) 1 1] (w.alloc (.cells #[.string p] 9)) fun e w' => e = .returned (.int .i64 (S.begE [p.toList])) ∧ Rep w' b S.beg V L ∧ StTo w w' L L :=
  (begin_any b S V L _ [p.toList] _ (h.ext (Ext.alloc _ _)) hf.left ⟨hf.ops.1, by have := hf.ops.2; omega⟩ (txt_one w p) (by simp) (fun ad n c hv => by
    injection hv with h1; injection h1 with h1; rw [← h1]
    cases hc : L w.heap.size with
    | none => rfl
    | some r => have := h.lt w.heap.size (by rw [hc]; simp); omega)).mono fun e w' ⟨h1, h2, h3⟩ => ⟨h1, h2, (StTo.of_ext (Ext.alloc _ _)).trans h3⟩
theorem beg_same (S : SV) : S.beg.names = S.names ∧ S.beg.nd = S.nd ∧ S.beg.ids = S.ids ∧ S.beg.clock = S.clock ∧ S.beg.acts = S.acts ∧ S.beg.room = S.room ∧ S.beg.kept = S.kept := by
  unfold SV.beg SV.spend
  by_cases h1 : S.power = 1
  · by_cases h2 : S.left = 0 <;> simp [h1, h2]
  · simp [h1]

set_option maxRecDepth 100000 in
set_option maxHeartbeats 8000000 in
theorem add_err (b : Nat) (S : SV) (V : SW) (L : Nat → Option Role) (p : ByteArray) (k c : Int) (w : World) (h : Rep w b S V L) (hf : S.Fit) (hb : S.begE [p.toList] = 0) (ht : takes S.names (kinds S) p.toList = c) (hc : c ≠ 0) :
    Calls Tryz.prog 119 #[ptr b, .string p, .int .i64 k] w fun e w' => e = .returned (.int .i64 c) ∧ Rep w' b S.beg V L ∧ StTo w w' L L := by
  have BG := Lib.hid (begin_one b S V L p w h hf)
  rw [hb] at BG
  have bs := beg_same S
  have TK := Lib.hid (fun w' (r : Rep w' b S.beg V L) => takes_any V.n S.beg.names (kinds S.beg) p w' (Tr.of_row r.nm) r.sn (by rw [bs.1]; have := hf.names; omega) r.kindc)
  rw [show takes S.beg.names (kinds S.beg) p.toList = c by unfold kinds; rw [bs.1, bs.2.1]; exact ht] at TK
  have q : (c == 0) = false := by simpa using hc
  clear h hf hb ht hc bs
  unfold ptr at *
  go_enter Tryz.func119, Tryz.ntmps119
  go_wp2_with fail
  refine (BG.out).mono ?_
  rintro e w1 ⟨rfl, r1, t1⟩
  have c2 := r1.c 2
  simp only [scells] at c2
  have R1 := Lib.hid r1
  clear r1
  go_wp2_with (go_at_call 138; refine (TK.out _ R1.out).mono ?_; rintro e w' ⟨rfl, hE⟩)
  go_ret
  exact ⟨rfl, R1.out.ext hE, t1.trans (StTo.of_ext hE)⟩
theorem mk_node (b : Nat) (S : SV) (V : SW) (L : Nat → Option Role) (k : Int) (w : World) (r : Rep w b S V L) (hck : 0 ≤ S.clock ∧ S.clock ≤ 1000000) :
    Calls Tryz.prog 110 #[ptr b, ptr w.heap.size] (w.alloc (.cells #[.int .i64 k, .int .i64 0, .int .u64 0, .slice none 0 0, .slice none 0 0, .slice none 0 0] 85)) fun e w' => e = .returned (.tuple #[]) ∧
      ∃ V' L', Rep w' b { S with clock := S.clock + 1, ids := w.heap.size :: S.ids, nd := upd S.nd w.heap.size (newN k (S.clock + 1)) } V' L' ∧ StTo w w' L L' := by
  obtain ⟨L', r2, t2⟩ := r.more (Ext.alloc w (.cells #[.int .i64 k, .int .i64 0, .int .u64 0, .slice none 0 0, .slice none 0 0, .slice none 0 0] 85)) w.heap.size (Nat.le_refl _) (newN k 0) nilV (newN_in w k 0) (newN_ok k 0) (fun i hi => by
    rcases hi with e | e | e | e
    · omega
    · cases e
    · cases e
    · cases e)
  refine (mark_any b w.heap.size _ _ L' _ r2 (List.mem_cons_self) hck).mono ?_
  rintro e w' ⟨h1, V', L2, r3, t3⟩
  refine ⟨h1, V', L2, ?_, t2.trans t3⟩
  simp only [upd_upd, upd_same] at r3
  exact r3
set_option maxRecDepth 100000 in
set_option maxHeartbeats 8000000 in
theorem add_ok (b : Nat) (S : SV) (V : SW) (L : Nat → Option Role) (p : ByteArray) (k : Int) (w : World) (h : Rep w b S V L) (hf : S.Fit) (hb : S.begE [p.toList] = 0) (ht : takes S.names (kinds S) p.toList = 0) (hend : place S.names p.toList = S.names.length) :
    Calls Tryz.prog 119 #[ptr b, .string p, .int .i64 k] w fun e w' => e = .returned (.int .i64 0) ∧ ∃ a V' L', a ∉ S.ids ∧ Rep w' b (S.beg.made a p.toList k) V' L' ∧ StTo w w' L L' := by
  have BG := Lib.hid (begin_one b S V L p w h hf)
  rw [hb] at BG
  have bs := beg_same S
  have TK := Lib.hid (fun w' (r : Rep w' b S.beg V L) => takes_any V.n S.beg.names (kinds S.beg) p w' (Tr.of_row r.nm) r.sn (by rw [bs.1]; have := hf.names; omega) r.kindc)
  rw [show takes S.beg.names (kinds S.beg) p.toList = 0 by unfold kinds; rw [bs.1, bs.2.1]; exact ht] at TK
  have hck : 0 ≤ S.beg.clock ∧ S.beg.clock ≤ 1000000 := by rw [bs.2.2.2.1]; have := hf.clock; omega
  have MK := Lib.hid (fun w' (r : Rep w' b S.beg V L) => mk_node b S.beg V L k w' r hck)
  have CH := Lib.hid (fun (w' : World) (a : Nat) (V' : SW) (L' : Nat → Option Role) (S' : SV) (r : Rep w' b S' V' L') (h1 : S'.names = S.names) (h2 : S'.acts = S.acts) (h3 : a ∈ S'.ids) => change_made b S' V' L' p.toList a w' r (by rw [h1]; have := hf.names; omega) (by rw [h2]; have := hf.acts; omega) (by rw [h1]; exact hend) h3)
  have NI := Lib.hid (fun (w' : World) (r : Rep w' b S.beg V L) => (fun e => by have := (r.nd w'.heap.size (by rw [bs.2.2.1]; exact e)).1.cells.lt; omega : w'.heap.size ∉ S.ids))
  have BS := Lib.hid bs
  clear h hf hb ht bs hck hend
  rw [list_tx] at CH
  unfold ptr at *
  go_enter Tryz.func119, Tryz.ntmps119
  go_wp2_with fail
  refine (BG.out).mono ?_
  rintro e w1 ⟨rfl, r1, t1⟩
  have c2 := r1.c 2
  simp only [scells] at c2
  have R1 := Lib.hid r1
  clear r1
  go_wp2_with fail
  refine (TK.out _ R1.out).mono ?_
  rintro e w2 ⟨rfl, hE⟩
  have R2 := Lib.hid (R1.out.ext hE)
  have T2 := Lib.hid (t1.trans (StTo.of_ext hE))
  clear R1 t1 c2
  go_wp2_with fail
  refine (MK.out _ R2.out).mono ?_
  rintro e w3 ⟨rfl, V3, L3, r3, t3⟩
  have R3 := Lib.hid r3
  have T3 := Lib.hid (T2.out.trans t3)
  clear r3 t3
  go_wp2_with fail
  refine (CH.out w3 w2.heap.size V3 L3 _ R3.out BS.out.1 BS.out.2.2.2.2.1 List.mem_cons_self).mono ?_
  rintro e w4 ⟨rfl, V4, L4, r4, t4⟩
  have R4 := Lib.hid r4
  have T4 := Lib.hid (T3.out.trans t4)
  clear r4 t4
  go_wp2
  go_ret
  refine ⟨rfl, w2.heap.size, V4, L4, NI.out _ R2.out, ?_, T4.out⟩
  exact R4.out
set_option maxHeartbeats 4000000 in
theorem create_of {R : World → Prop} (b : Nat) (p : ByteArray) (c : Int) (w : World) (h : Calls Tryz.prog 119 #[ptr b, .string p, .int .i64 1] w fun e w' => e = .returned (.int .i64 c) ∧ R w') : Calls Tryz.prog 106 #[ptr b, .string p] w fun e w' => e = .returned (.int .i64 c) ∧ R w' := by
  have H := Lib.hid h
  clear h
  unfold ptr at *
  go_enter Tryz.func106, Tryz.ntmps106
  go_wp2_with (go_at_call 119; refine (H.out).mono ?_; rintro e w' ⟨rfl, hE⟩)
  go_ret
  exact ⟨rfl, hE⟩
set_option maxHeartbeats 4000000 in
theorem mkdir_of {R : World → Prop} (b : Nat) (p : ByteArray) (c : Int) (w : World) (h : Calls Tryz.prog 119 #[ptr b, .string p, .int .i64 2] w fun e w' => e = .returned (.int .i64 c) ∧ R w') : Calls Tryz.prog 98 #[ptr b, .string p] w fun e w' => e = .returned (.int .i64 c) ∧ R w' := by
  have H := Lib.hid h
  clear h
  unfold ptr at *
  go_enter Tryz.func98, Tryz.ntmps98
  go_wp2_with (go_at_call 119; refine (H.out).mono ?_; rintro e w' ⟨rfl, hE⟩)
  go_ret
  exact ⟨rfl, hE⟩
end Go.Proofs.YtnhokjnmpdiokaaGreatDoor.V

namespace Go.Proofs.YtnhokjnmpdiokaaGreatDoor.V
open Go.RowKit Go.Pth

theorem copy_in {w : World} {a : Nat} {N : NV} {V : Vs} (h : NdIn w a N V) {g kn : Nat} (hv : V.n = .slice (some ⟨g, 0, none⟩) N.now.length kn) (off : Nat) (x : List Int) {ad : Option Addr} {cap b o : Nat} (hb : Bin w (.slice ad x.length cap) x ad cap b o) (hl : off + x.length ≤ N.now.length)
    (da : Option Addr) (dl dc : Nat) (hd : 0 < x.length → da = some ⟨g, off, none⟩) (hdl : dl = N.now.length - off) :
    (Builtin.copy_ #[50, 50] 3 #[.slice da dl dc, .slice ad x.length cap]).run Tryz.prog w = .ok (.int .i64 x.length) (w.setCells g off (bts x)) := by
  have sz : (Tryz.prog.info? 5).map (·.size) = some 1 := by kernel_rfl
  have hmin : Nat.min x.length dl = x.length := Nat.min_eq_left (by omega)
  by_cases h0 : 0 < x.length
  · rw [hd h0, hb.adr h0]
    have hr := h.n
    rw [hv] at hr
    have := run_copy_cells (P := Tryz.prog) w 50 50 3 5 g off dl dc ⟨b, o, none⟩ x.length cap (bts x) Tryz.underlying50 sz (by rw [bts_len]; exact hmin.symm) (fun j u hu => by rw [Addr.add_lit]; exact hb.cell j u hu) (fun j hj => by rw [bts_len] at hj; rw [(Row.cell hr (off + j) (by omega)).1]; simp [bts]; omega) (fun j hj => by rw [bts_len] at hj; exact (Row.cell hr (off + j) (by omega)).2) (bts_one x)
    rw [bts_len] at this
    exact this
  · have hx : x = [] := List.length_eq_zero_iff.1 (by omega)
    subst hx
    have := run_copy_none (P := Tryz.prog) w 50 50 3 5 da ad dl dc 0 cap Tryz.underlying50 sz (by simp)
    exact this

def InvW (w : World) (a : Nat) (N : NV) (f t : Nat) (V V1 : Vs) (s8 : Value) (wr : World) : Prop :=
  ∃ k : Nat, f ≤ k ∧ k ≤ t ∧ s8 = .int .i64 k ∧ NdIn wr a { N with loose := mark N.loose f k } V1 ∧ NdTo w wr a V V1
set_option maxRecDepth 100000 in
set_option maxHeartbeats 4000000 in
theorem nwrite_any (a : Nat) (N : NV) (V : Vs) (off : Nat) (x : List Int) (vb : Value) (ad : Option Addr) (cap b o : Nat) (w : World) (h : NdIn w a N V) (ok : N.Ok) (hb : Bin w vb x ad cap b o) (hnb : ¬ Foot a V b) (hsz : off + x.length ≤ 65536) :
    Calls Tryz.prog 129 #[ptr a, .int .i64 off, vb] w fun e w' => e = .returned (.tuple #[]) ∧ ∃ V', NdIn w' a (N.write off x) V' ∧ NdTo w w' a V V' := by
  obtain ⟨dn, kn, hvn, -⟩ := h.n.shape
  have hvb := hb.val
  subst hvb
  have c3 := h.c 3
  simp only [ncells, hvn] at c3
  have hlen := ok.len
  have H := Lib.hid h
  have HB := Lib.hid hb
  have OK := Lib.hid ok
  unfold ptr
  by_cases hA : min off N.now.length = off + x.length
  · have e : N.write off x = N := by unfold NV.write; rw [if_pos hA]
    rw [e]
    have hx0 : x.length = 0 := by omega
    have hof : off ≤ N.now.length := by omega
    clear e hA h hb ok
    rw [hx0]
    generalize N.now.length = L at *
    have m1 : min (off : Int) (L : Int) = (off : Int) := by omega
    go_enter Tryz.func129, Tryz.ntmps129
    go_wp2
    (try simp only [Exit.inBlock, Exit.then])
    refine bodyPost_ret (results_none rfl _ _ _) rfl ?_
    exact ⟨rfl, V, H.out, NdTo.refl _ _ _⟩
  · obtain ⟨L, hL⟩ : ∃ L, L = N.now.length := ⟨_, rfl⟩
    obtain ⟨X, hX⟩ : ∃ X, X = x.length := ⟨_, rfl⟩
    obtain ⟨F, hF⟩ : ∃ F, F = min off L := ⟨_, rfl⟩
    obtain ⟨T, hT⟩ : ∃ T, T = off + X := ⟨_, rfl⟩
    obtain ⟨M, hM⟩ : ∃ M, M = max T L := ⟨_, rfl⟩
    rw [← hX] at hsz hA ⊢
    rw [← hL] at c3 hlen hA
    have q1 : (F == T) = false := by simp; omega
    have hM2 : M ≤ 65536 := by omega
    have hT2 : T ≤ 65536 := by omega
    have hoT : off ≤ T := by omega
    have hTM : T ≤ M := by omega
    have m1 := Lib.hid (show min (off : Int) (L : Int) = (F : Int) by omega)
    have m2 := Lib.hid (show (off : Int) + (X : Int) = (T : Int) by omega)
    have m3 := Lib.hid (show max (T : Int) (L : Int) = (M : Int) by omega)
    have RZ := Lib.hid (resize_any a N V M w h ok hM2)
    unfold ptr at RZ
    have HNW : Hid (N.write off x = { N.resize M with now := splice (N.resize M).now off x, loose := mark (N.resize M).loose (F / 16) (secs T) }) := Lib.hid (by
      unfold NV.write
      rw [← hX, ← hL, if_neg hA, ← hT, ← hM, ← hF])
    have HF := Lib.hid hF
    have HL := Lib.hid hL
    have HX := Lib.hid hX
    have HT := Lib.hid hT
    have HM := Lib.hid hM
    clear hA h hb ok hL hX hF hT hM
    go_enter Tryz.func129, Tryz.ntmps129
    go_upto_region 1 with fail
    rw [m1.out, m2.out]
    go_upto_region 2 with fail
    go_wp2_with fail
    rw [m3.out]
    refine (RZ.out).mono ?_
    rintro e w1 ⟨rfl, V1, n1, t1⟩
    clear RZ
    have hln : (N.resize M).now.length = M := by simp [NV.resize, fitL_len]
    have hll : (N.resize M).loose.length = secs M := by simp [NV.resize, fitL_len]
    have d3 := n1.c 3
    have rn := n1.n
    have rl := n1.l
    rw [hln] at rn
    rw [hll] at rl
    have hM0 : 0 < M := by have := HM.out; have := HT.out; have := HF.out; simp at q1; omega
    have hs0 : 0 < secs M := by unfold secs; omega
    obtain ⟨gn, kn1, hvn1, hk1, hk2⟩ := Row.own rn hM0
    obtain ⟨gl, kl1, hvl1, hk3, hk4⟩ := Row.own rl hs0
    simp only [maxLen] at hk2 hk4
    simp only [ncells, hvn1] at d3
    have N1 := Lib.hid n1
    have T1 := Lib.hid t1
    have B1 := Lib.hid (HB.out.chg t1.chg hnb)
    clear n1 t1 rn rl HB H hnb c3
    have hxl : off + x.length ≤ (N.resize M).now.length := by rw [hln, ← HX.out, ← HT.out]; exact hTM
    have HX2 := Lib.hid hxl
    have HV := Lib.hid (show V1.n = .slice (some ⟨gn, 0, none⟩) (N.resize M).now.length kn1 by rw [hln]; exact hvn1)
    have HW2 := Lib.hid (N1.out.putN HV.out off x hxl)
    have HLN := Lib.hid hln
    clear hxl hln
    go_upto_region 3 with fail
    go_cut [32] from 32 to 39 (fun s32 wx => s32 = .pointer (some ⟨a, 0, none⟩) ∧ wx = w1.setCells gn off (bts x))
    case first =>
      have s0 : (0 : Int) ≤ (off : Int) := by omega
      have s1 : (off : Int) ≤ (M : Int) := by omega
      have s2 : (M : Int) ≤ (kn1 : Int) := by omega
      have s3 : (off : Int) ≤ (kn1 : Int) := by omega
      by_cases hk : kn1 = off
      · have hc := copy_in N1.out HV.out off x B1.out HX2.out (some ⟨gn, 0, none⟩) 0 0 (fun h => by have := HX.out; have := HT.out; omega) (by rw [HLN.out]; omega)
        rw [← HX.out] at hc
        subst hk
        go_wp2
        go_meet
        exact ⟨rfl, rfl⟩
      · have hc := copy_in N1.out HV.out off x B1.out HX2.out (some ⟨gn, off, none⟩) (M - off) (kn1 - off) (fun h => rfl) (by rw [HLN.out])
        rw [← HX.out] at hc
        go_wp2
        go_meet
        exact ⟨rfl, rfl⟩
    case rest =>
      obtain ⟨rfl, rfl⟩ := hcut
      have hlen2 : (N.resize M).loose.length = secs M := hll
      have hFT : F ≤ T := by have := HF.out; omega
      have hsT : secs T ≤ secs M := by unfold secs; omega
      obtain ⟨Q, hQ⟩ : ∃ Q, Q = F / 16 := ⟨_, rfl⟩
      have hq : (F : Int) / 16 = (Q : Int) := by omega
      have hq2 : (F : Int).tdiv 16 = (Q : Int) := by rw [Int.tdiv_eq_ediv_of_nonneg (by omega)]; omega
      have hF2 : Q ≤ secs T := by unfold secs; omega
      rw [← hQ] at HNW
      clear hQ
      have SC := Lib.hid (sectors_any T)
      have hsm : secs M ≤ 65536 := by unfold secs; omega
      have W2 := Lib.hid (⟨HW2.out.1, T1.out.trans HW2.out.2⟩ : _ ∧ _)
      have HLL := Lib.hid hll
      generalize hw2 : w1.setCells gn off (bts x) = w2 at *
      clear hw2 HW2 N1 T1 B1 HV HX2 hll hlen2
      have W3 := Lib.hid (show InvW w a { N.resize M with now := splice (N.resize M).now off x } (Q) (secs T) V V1 (.int .i64 (Q : Int)) w2 from
        ⟨Q, Nat.le_refl _, hF2, rfl, by rw [mark_none _ _ _ (Nat.le_refl _)]; exact W2.out.1, W2.out.2⟩)
      clear W2
      go_wp2
      go_loopw [8] (fun s8 wr => InvW w a { N.resize M with now := splice (N.resize M).now off x } (Q) (secs T) V V1 s8 wr) (fun s8 _ => secs T - (intOf s8).toNat)
      case atStart => exact W3.out
      case round =>
        obtain ⟨k, hk0, hk9, rfl, hn, ht⟩ := hrel
        have HN3 := Lib.hid hn
        have HT3 := Lib.hid ht
        by_cases hlt : k < secs T
        · have e1 := hn.c 5
          simp only [ncells, hvl1] at e1
          have hll3 : k < secs M := by omega
          have hkl : k < (mark (N.resize M).loose (Q) k).length := by rw [mark_len, HLL.out]; exact hll3
          have hvl : V1.l = .slice (some ⟨gl, 0, none⟩) (mark (N.resize M).loose (Q) k).length kl1 := by rw [mark_len, HLL.out]; exact hvl1
          have nx := Lib.hid (HN3.out.markL hvl k hkl)
          have rw1 := HN3.out.l
          rw [hvl] at rw1
          have cc := Row.cell rw1 k hkl
          have cs : ∃ c, wr.cell? ⟨gl, k, none⟩ = some c := by rw [cc.1]; exact ⟨_, List.getElem?_eq_getElem (by rw [bls_len]; exact hkl)⟩
          obtain ⟨c0, cs⟩ := cs
          have cf := cc.2
          have i0 : (0 : Int) ≤ (k : Int) := by omega
          have i1 : (k : Int) < (secs M : Int) := by omega
          have d1 : decide (k < secs T) = true := decide_eq_true hlt
          clear hn ht cc rw1 hvl hkl W3
          go_wp2_with (go_at_call 133; refine (SC.out _ (by omega)).mono ?_; rintro e w' ⟨rfl, rfl⟩)
          refine ⟨⟨k + 1, by omega, by omega, rfl, ?_, HT3.out.trans nx.out.2⟩, by simp [intOf]; omega⟩
          have := nx.out.1
          simp only [mark_set _ _ _ hk0] at this
          exact this
        · obtain rfl : k = secs T := by omega
          clear hlt hn ht W3
          go_wp2_with (go_at_call 133; refine (SC.out _ (by omega)).mono ?_; rintro e w' ⟨rfl, rfl⟩)
          go_end0
          exact ⟨rfl, V1, by rw [HNW.out]; exact HN3.out, HT3.out⟩
end Go.Proofs.YtnhokjnmpdiokaaGreatDoor.V
