/- The store's rows become others; contract of change. -/
import Derived.Test.YtbneedmfpldpfaaDoorSe
import Derived.Test.YtbneedmfpldpfaaDoorSb
set_option linter.unusedSimpArgs false
namespace Go.Proofs.YtbneedmfpldpfaaDoor
open Go.RowKit Go.Pth

def relab (L : Nat → Option Role) (w w1 : World) (r : Role) : Nat → Option Role := fun i => if w.heap.size ≤ i ∧ i < w1.heap.size then some r else L i
theorem relab_old (L : Nat → Option Role) (w w1 : World) (r : Role) (i : Nat) (h : i < w.heap.size) : relab L w w1 r i = L i := by unfold relab; rw [if_neg (by omega)]
theorem relab_new (L : Nat → Option Role) (w w1 : World) (r : Role) (i : Nat) (h : w.heap.size ≤ i ∧ i < w1.heap.size) : relab L w w1 r i = some r := by unfold relab; rw [if_pos h]
theorem relab_sup (L : Nat → Option Role) (w w1 : World) (r : Role) (i : Nat) (h : relab L w w1 r i ≠ none) : L i ≠ none ∨ (w.heap.size ≤ i ∧ i < w1.heap.size) := by
  unfold relab at h
  by_cases e : w.heap.size ≤ i ∧ i < w1.heap.size
  · exact Or.inr e
  · rw [if_neg e] at h; exact Or.inl h

theorem Rep.setNames {w w1 : World} {b : Nat} {S : SV} {V : SW} {L : Nat → Option Role} (h : Rep w b S V L) {v' : Value} {l' : List Nm} (hr : Row w1 64 2 v' l'.length (ents l')) (g : Grew w w1 V.n v') (hst : Srt l') (hrf : ∀ p ∈ l', p.2 ∈ S.ids) :
    Rep (w1.setCell ⟨b, 2, none⟩ v') b { S with names := l' } { V with n := v' } (relab L w w1 .names) ∧ StTo w (w1.setCell ⟨b, 2, none⟩ v') L (relab L w w1 .names) := by
  have sc := Chg.setCell w1 b 2 v'
  have hb : V.n.ownBlock ≠ some b := fun e => by have := h.ln b e; rw [h.lb] at this; cases this
  have nb := grew_na g h.cell.lt hb
  have ng : ∀ i q, L i = some q → q ≠ .names → ¬ V.n.ownBlock = some i := fun i q hi hq e => by rw [h.ln i e] at hi; injection hi with hi; exact hq hi.symm
  have ns : ∀ i q, L i = some q → q ≠ .store → ¬ i = b := fun i q hi hq e => by subst e; rw [h.lb] at hi; injection hi with hi; exact hq hi.symm
  have hsz := g.chg.size
  refine ⟨⟨?_, ?_, ?_, ?_, ?_, (relab_old _ _ _ _ _ h.cell.lt).trans h.lb, ?_, ?_, ?_, ?_, ?_, ?_, ?_, ?_, ?_⟩, ?_, ?_⟩
  · have := (g.chg.at h.cell hb).set 2 v'
    simpa [scells] using this
  · exact hr.chg sc fun q hq e => nb (e ▸ hq)
  · exact (h.kp.chg g.chg fun q hq => ng q _ (h.lk q hq) (by simp)).chg sc fun q hq => ns q _ (h.lk q hq) (by simp)
  · exact (h.ac.chg g.chg fun q hq => ng q _ (h.la q hq) (by simp)).chg sc fun q hq => ns q _ (h.la q hq) (by simp)
  · exact fun a ha => ⟨((h.nd a ha).1.chg g.chg fun i hi => ng i _ (h.ld a ha i hi) (by simp)).chg sc fun i hi => ns i _ (h.ld a ha i hi) (by simp), (h.nd a ha).2⟩
  · intro q hq
    rcases g.own with e | ⟨q', e1, e2⟩
    · have hq' : V.n.ownBlock = some q := by rw [← e]; exact hq
      exact (relab_old _ _ _ _ _ (h.nm.lt q hq')).trans (h.ln q hq')
    · have hq : v'.ownBlock = some q := hq
      have hlt := hr.lt q hq
      rw [e1] at hq; injection hq with hq
      exact relab_new _ _ _ _ _ ⟨by omega, hlt⟩
  · exact fun q hq => (relab_old _ _ _ _ _ (h.kp.lt q hq)).trans (h.lk q hq)
  · exact fun q hq => (relab_old _ _ _ _ _ (h.ac.lt q hq)).trans (h.la q hq)
  · exact fun a ha i hi => (relab_old _ _ _ _ _ ((h.nd a ha).1.lt i hi)).trans (h.ld a ha i hi)
  · intro i hi
    rw [size_setCell]
    rcases relab_sup _ _ _ _ _ hi with h1 | h1
    · exact Nat.lt_of_lt_of_le (h.lt i h1) hsz
    · exact h1.2
  · exact hst
  · exact h.sk
  · exact hrf
  · exact h.rk
  · exact (g.chg.mono fun i _ hi => by rw [h.ln i hi]; simp).trans (sc.mono fun i _ e => by rw [e, h.lb]; simp) fun _ _ x => x
  · intro i hi
    rcases relab_sup _ _ _ _ _ hi with h1 | h1
    · exact Or.inl h1
    · exact Or.inr h1.1

theorem Rep.setKept {w w1 : World} {b : Nat} {S : SV} {V : SW} {L : Nat → Option Role} (h : Rep w b S V L) {v' : Value} {l' : List Nm} (hr : Row w1 64 2 v' l'.length (ents l')) (g : Grew w w1 V.k v') (hst : Srt l') (hrf : ∀ p ∈ l', p.2 ∈ S.ids) :
    Rep (w1.setCell ⟨b, 3, none⟩ v') b { S with kept := l' } { V with k := v' } (relab L w w1 .kept) ∧ StTo w (w1.setCell ⟨b, 3, none⟩ v') L (relab L w w1 .kept) := by
  have sc := Chg.setCell w1 b 3 v'
  have hb : V.k.ownBlock ≠ some b := fun e => by have := h.lk b e; rw [h.lb] at this; cases this
  have nb := grew_na g h.cell.lt hb
  have ng : ∀ i q, L i = some q → q ≠ .kept → ¬ V.k.ownBlock = some i := fun i q hi hq e => by rw [h.lk i e] at hi; injection hi with hi; exact hq hi.symm
  have ns : ∀ i q, L i = some q → q ≠ .store → ¬ i = b := fun i q hi hq e => by subst e; rw [h.lb] at hi; injection hi with hi; exact hq hi.symm
  have hsz := g.chg.size
  refine ⟨⟨?_, ?_, ?_, ?_, ?_, (relab_old _ _ _ _ _ h.cell.lt).trans h.lb, ?_, ?_, ?_, ?_, ?_, ?_, ?_, ?_, ?_⟩, ?_, ?_⟩
  · have := (g.chg.at h.cell hb).set 3 v'
    simpa [scells] using this
  · exact (h.nm.chg g.chg fun q hq => ng q _ (h.ln q hq) (by simp)).chg sc fun q hq => ns q _ (h.ln q hq) (by simp)
  · exact hr.chg sc fun q hq e => nb (e ▸ hq)
  · exact (h.ac.chg g.chg fun q hq => ng q _ (h.la q hq) (by simp)).chg sc fun q hq => ns q _ (h.la q hq) (by simp)
  · exact fun a ha => ⟨((h.nd a ha).1.chg g.chg fun i hi => ng i _ (h.ld a ha i hi) (by simp)).chg sc fun i hi => ns i _ (h.ld a ha i hi) (by simp), (h.nd a ha).2⟩
  · exact fun q hq => (relab_old _ _ _ _ _ (h.nm.lt q hq)).trans (h.ln q hq)
  · intro q hq
    rcases g.own with e | ⟨q', e1, e2⟩
    · have hq' : V.k.ownBlock = some q := by rw [← e]; exact hq
      exact (relab_old _ _ _ _ _ (h.kp.lt q hq')).trans (h.lk q hq')
    · have hq : v'.ownBlock = some q := hq
      have hlt := hr.lt q hq
      rw [e1] at hq; injection hq with hq
      exact relab_new _ _ _ _ _ ⟨by omega, hlt⟩
  · exact fun q hq => (relab_old _ _ _ _ _ (h.ac.lt q hq)).trans (h.la q hq)
  · exact fun a ha i hi => (relab_old _ _ _ _ _ ((h.nd a ha).1.lt i hi)).trans (h.ld a ha i hi)
  · intro i hi
    rw [size_setCell]
    rcases relab_sup _ _ _ _ _ hi with h1 | h1
    · exact Nat.lt_of_lt_of_le (h.lt i h1) hsz
    · exact h1.2
  · exact h.sn
  · exact hst
  · exact h.rn
  · exact hrf
  · exact (g.chg.mono fun i _ hi => by rw [h.lk i hi]; simp).trans (sc.mono fun i _ e => by rw [e, h.lb]; simp) fun _ _ x => x
  · intro i hi
    rcases relab_sup _ _ _ _ _ hi with h1 | h1
    · exact Or.inl h1
    · exact Or.inr h1.1

theorem Rep.setActs {w w1 : World} {b : Nat} {S : SV} {V : SW} {L : Nat → Option Role} (h : Rep w b S V L) {v' : Value} {l' : List Ac} (hr : Row w1 87 3 v' l'.length (acells l')) (g : Grew w w1 V.a v') :
    Rep (w1.setCell ⟨b, 4, none⟩ v') b { S with acts := l' } { V with a := v' } (relab L w w1 .acts) ∧ StTo w (w1.setCell ⟨b, 4, none⟩ v') L (relab L w w1 .acts) := by
  have sc := Chg.setCell w1 b 4 v'
  have hb : V.a.ownBlock ≠ some b := fun e => by have := h.la b e; rw [h.lb] at this; cases this
  have nb := grew_na g h.cell.lt hb
  have ng : ∀ i q, L i = some q → q ≠ .acts → ¬ V.a.ownBlock = some i := fun i q hi hq e => by rw [h.la i e] at hi; injection hi with hi; exact hq hi.symm
  have ns : ∀ i q, L i = some q → q ≠ .store → ¬ i = b := fun i q hi hq e => by subst e; rw [h.lb] at hi; injection hi with hi; exact hq hi.symm
  have hsz := g.chg.size
  refine ⟨⟨?_, ?_, ?_, ?_, ?_, (relab_old _ _ _ _ _ h.cell.lt).trans h.lb, ?_, ?_, ?_, ?_, ?_, ?_, ?_, ?_, ?_⟩, ?_, ?_⟩
  · have := (g.chg.at h.cell hb).set 4 v'
    simpa [scells] using this
  · exact (h.nm.chg g.chg fun q hq => ng q _ (h.ln q hq) (by simp)).chg sc fun q hq => ns q _ (h.ln q hq) (by simp)
  · exact (h.kp.chg g.chg fun q hq => ng q _ (h.lk q hq) (by simp)).chg sc fun q hq => ns q _ (h.lk q hq) (by simp)
  · exact hr.chg sc fun q hq e => nb (e ▸ hq)
  · exact fun a ha => ⟨((h.nd a ha).1.chg g.chg fun i hi => ng i _ (h.ld a ha i hi) (by simp)).chg sc fun i hi => ns i _ (h.ld a ha i hi) (by simp), (h.nd a ha).2⟩
  · exact fun q hq => (relab_old _ _ _ _ _ (h.nm.lt q hq)).trans (h.ln q hq)
  · exact fun q hq => (relab_old _ _ _ _ _ (h.kp.lt q hq)).trans (h.lk q hq)
  · intro q hq
    rcases g.own with e | ⟨q', e1, e2⟩
    · have hq' : V.a.ownBlock = some q := by rw [← e]; exact hq
      exact (relab_old _ _ _ _ _ (h.ac.lt q hq')).trans (h.la q hq')
    · have hq : v'.ownBlock = some q := hq
      have hlt := hr.lt q hq
      rw [e1] at hq; injection hq with hq
      exact relab_new _ _ _ _ _ ⟨by omega, hlt⟩
  · exact fun a ha i hi => (relab_old _ _ _ _ _ ((h.nd a ha).1.lt i hi)).trans (h.ld a ha i hi)
  · intro i hi
    rw [size_setCell]
    rcases relab_sup _ _ _ _ _ hi with h1 | h1
    · exact Nat.lt_of_lt_of_le (h.lt i h1) hsz
    · exact h1.2
  · exact h.sn
  · exact h.sk
  · exact h.rn
  · exact h.rk
  · exact (g.chg.mono fun i _ hi => by rw [h.la i hi]; simp).trans (sc.mono fun i _ e => by rw [e, h.lb]; simp) fun _ _ x => x
  · intro i hi
    rcases relab_sup _ _ _ _ _ hi with h1 | h1
    · exact Or.inl h1
    · exact Or.inr h1.1

theorem Srt.app {l : List Nm} {p : B} {a : Nat} (hs : Srt l) (he : place l p = l.length) : Srt (l ++ [(p, a)]) := by
  unfold Srt at *
  rw [List.pairwise_append]
  refine ⟨hs, List.pairwise_singleton _ _, fun x hx y hy => ?_⟩
  obtain rfl := List.mem_singleton.1 hy
  obtain ⟨i, hi, rfl⟩ := List.mem_iff_getElem.1 hx
  exact place_before l p i (by omega) hi
theorem acells_app (a b : List Ac) : acells (a ++ b) = acells a ++ acells b := by simp [acells]
theorem acells_len (l : List Ac) : (acells l).length = l.length * 3 := by
  induction l with
  | nil => rfl
  | cons a r ih => simp [acells] at ih ⊢; omega

set_option maxRecDepth 100000 in
set_option maxHeartbeats 8000000 in
/-- A name is made, behind all that there are. -/
theorem change_made (b : Nat) (S : SV) (V : SW) (L : Nat → Option Role) (p : B) (a : Nat) (w : World) (h : Rep w b S V L) (hn : S.names.length ≤ 100000) (hac : S.acts.length ≤ 100000) (hend : place S.names p = S.names.length) (ha : a ∈ S.ids) :
    Calls Tryd.prog 45 #[ptr b, .agg #[.string ⟨#[]⟩, .string (tx p), ptr a]] w fun e w' => e = .returned (.tuple #[]) ∧ ∃ V' L', Rep w' b { S with names := S.names ++ [(p, a)], acts := S.acts ++ [⟨[], p, some a⟩] } V' L' ∧ StTo w w' L L' := by
  obtain ⟨W1, hW1⟩ : ∃ W1, W1 = w.alloc (.cells #[.string ⟨#[]⟩, .string (tx p), ptr a] 87) := ⟨_, rfl⟩
  have e1 : Ext w W1.drew := by rw [hW1]; exact (Ext.alloc _ _).trans (Ext.drew _)
  have hat1 : At W1 w.heap.size #[.string ⟨#[]⟩, .string (tx p), ptr a] 87 := by rw [hW1]; exact At.new _ _ _
  obtain ⟨W2, hW2⟩ : ∃ W2, W2 = W1.drew.alloc (.cells #[.string ⟨#[]⟩, .string (tx p), ptr a] 87) := ⟨_, rfl⟩
  have s1 : W1.heap.size = w.heap.size + 1 := by rw [hW1]; exact size_alloc _ _
  have e2 : Ext W1 W2 := by rw [hW2]; exact (Ext.drew _).trans (Ext.alloc _ _)
  have e12 : Ext w W2 := by refine Ext.trans ?_ e2; rw [hW1]; exact Ext.alloc _ _
  have hat2 : At W2 (w.heap.size + 1) #[.string ⟨#[]⟩, .string (tx p), ptr a] 87 := by rw [hW2, ← s1]; exact At.new _ _ _
  have h2 := h.ext e12
  have AP := apply_made b 2 (scells S V) 68 V.n S.names p a (w.heap.size + 1) 0 1 W2 h2.cell rfl h2.nm (fun e => by have := h.ln b e; rw [h.lb] at this; cases this) h.sn (by omega) hend (by rw [hat2.cell]; rfl) (by rw [hat2.cell]; rfl) (by rw [hat2.cell]; rfl)
  have AP2 : Calls Tryd.prog 33 #[.pointer (some ⟨b, 2, none⟩), .slice (some ⟨w.heap.size + 1, 0, none⟩) 1 1] W2 fun e w' => e = .returned (.tuple #[]) ∧ ∃ V' L', Rep w' b { S with names := S.names ++ [(p, a)] } V' L' ∧ StTo w w' L L' ∧ w'.cell? ⟨w.heap.size, 0, none⟩ = some (.string ⟨#[]⟩) ∧ w'.cell? ⟨w.heap.size, 1, none⟩ = some (.string (tx p)) ∧ w'.cell? ⟨w.heap.size, 2, none⟩ = some (ptr a) :=
    AP.mono fun e w' ⟨q1, v', w1, q2, q3, q4⟩ => by
      have r := h2.setNames (l' := S.names ++ [(p, a)]) (by simpa using q2) q3 (Srt.app h.sn hend) (fun x hx => by
        rcases List.mem_append.1 hx with hx | hx
        · exact h.rn x hx
        · obtain rfl := List.mem_singleton.1 hx; exact ha)
      have hL : ¬ L w.heap.size ≠ none := fun e => by have := h.lt _ e; omega
      have hc := r.2.chg.at (hat1.ext e2) hL
      subst q4
      exact ⟨q1, _, _, r.1, (StTo.of_ext e12).trans r.2, by rw [hc.cell]; rfl, by rw [hc.cell]; rfl, by rw [hc.cell]; rfl⟩
  have HP := Lib.hid AP2
  have C0 : W1.drew.cell? ⟨w.heap.size, 0, none⟩ = some (.string ⟨#[]⟩) := by rw [show W1.drew.cell? ⟨w.heap.size, 0, none⟩ = W1.cell? ⟨w.heap.size, 0, none⟩ from rfl, hat1.cell]; rfl
  have C1 : W1.drew.cell? ⟨w.heap.size, 1, none⟩ = some (.string (tx p)) := by rw [show W1.drew.cell? ⟨w.heap.size, 1, none⟩ = W1.cell? ⟨w.heap.size, 1, none⟩ from rfl, hat1.cell]; rfl
  have C2 : W1.drew.cell? ⟨w.heap.size, 2, none⟩ = some (ptr a) := by rw [show W1.drew.cell? ⟨w.heap.size, 2, none⟩ = W1.cell? ⟨w.heap.size, 2, none⟩ from rfl, hat1.cell]; rfl
  have HW1 := Lib.hid hW1
  have HW2 := Lib.hid hW2
  have S1 := Lib.hid s1
  clear AP AP2 h2 hat1 hat2 e1 e2 e12 h hend ha hn s1
  unfold ptr at *
  go_enter Tryd.func45, Tryd.ntmps45
  go_upto_region 1 with fail
  rw [← HW1.out]
  refine wp_region_any (by kernel_rfl) ?_
  change wpAny _ _ _ _ _ _ _ (World.drew _)
  refine take_at 0 (some 4) (.pointer (some ⟨b, 0, none⟩)) rfl rfl (by kernel_rfl) (by kernel_rfl) (by kernel_rfl) (fun _ _ _ h => h) rfl (fun _ => by go_simp) ?_
  simp only [Act.put, List.setIfInBounds_toArray, List.set_cons_zero, List.set_cons_succ]
  refine take_at 1 (some 5) (.pointer (some ⟨b, 0, none⟩)) rfl rfl (by kernel_rfl) (by kernel_rfl) (by kernel_rfl) (fun _ _ _ h => h) rfl (fun _ => by go_simp) ?_
  simp only [Act.put, List.setIfInBounds_toArray, List.set_cons_zero, List.set_cons_succ]
  refine take_at 2 (some 6) (.pointer (some ⟨b, 2, none⟩)) rfl rfl (by kernel_rfl) (by kernel_rfl) (by kernel_rfl) (fun _ _ _ h => h) rfl (fun _ => by go_simp) ?_
  simp only [Act.put, List.setIfInBounds_toArray, List.set_cons_zero, List.set_cons_succ]
  refine next_one 3 rfl (by kernel_rfl) rfl (fun K hK => ?_)
  refine runL (some 7) rfl (.agg #[.string ⟨#[]⟩, .string (tx p), .pointer (some ⟨a, 0, none⟩)]) (by go_simp) ?_
  refine hK _ _ ?_
  clear hK K
  simp only [Act.put, List.setIfInBounds_toArray, List.set_cons_zero, List.set_cons_succ]
  refine next_one 4 rfl (by kernel_rfl) rfl (fun K hK => ?_)
  refine runV (some 8) rfl (.slice (some ⟨w.heap.size + 1, 0, none⟩) 1 1) W2 (by have h1 := HW2.out; have h2 := S1.out; go_simp) ?_
  refine hK _ _ ?_
  clear hK K
  simp only [Act.put, List.setIfInBounds_toArray, List.set_cons_zero, List.set_cons_succ]
  refine next_one 5 rfl (by kernel_rfl) rfl (fun K hK => ?_)
  refine callS (some 9) rfl 33 #[.pointer (some ⟨b, 2, none⟩), .slice (some ⟨w.heap.size + 1, 0, none⟩) 1 1] (by go_simp) (fun v w' => v = .tuple #[] ∧ ∃ V' L', Rep w' b { S with names := S.names ++ [(p, a)] } V' L' ∧ StTo w w' L L' ∧ w'.cell? ⟨w.heap.size, 0, none⟩ = some (.string ⟨#[]⟩) ∧ w'.cell? ⟨w.heap.size, 1, none⟩ = some (.string (tx p)) ∧ w'.cell? ⟨w.heap.size, 2, none⟩ = some (.pointer (some ⟨a, 0, none⟩))) ((HP.out).mono fun e w' he => ⟨_, he.1, rfl, he.2⟩) ?_
  rintro v3 W3 ⟨rfl, V3, L3, r3, t3, k0, k1, k2⟩
  refine hK _ _ ?_
  clear hK K
  simp only [Act.put, List.setIfInBounds_toArray, List.set_cons_zero, List.set_cons_succ]
  refine wpAny_done (by kernel_rfl) ?_ _
  clear HP HW1 HW2 S1 C0 C1 C2 hW1 hW2 W1 W2
  have D0 : W3.drew.cell? ⟨w.heap.size, 0, none⟩ = some (.string ⟨#[]⟩) := k0
  have D1 : W3.drew.cell? ⟨w.heap.size, 1, none⟩ = some (.string (tx p)) := k1
  have D2 : W3.drew.cell? ⟨w.heap.size, 2, none⟩ = some (.pointer (some ⟨a, 0, none⟩)) := k2
  have ca : W3.drew.cell? ⟨b, 4, none⟩ = some V3.a := by rw [show W3.drew.cell? ⟨b, 4, none⟩ = W3.cell? ⟨b, 4, none⟩ from rfl, r3.c 4]; rfl
  obtain ⟨W4, hW4⟩ : ∃ W4, W4 = W3.drew.alloc (.cells #[.string ⟨#[]⟩, .string (tx p), .pointer (some ⟨a, 0, none⟩)] 87) := ⟨_, rfl⟩
  have e4 : Ext W3.drew W4 := by rw [hW4]; exact Ext.alloc _ _
  have r4 := (r3.ext (Ext.drew W3)).ext e4
  have hat4 : At W4 W3.heap.size #[.string ⟨#[]⟩, .string (tx p), .pointer (some ⟨a, 0, none⟩)] 87 := by rw [hW4]; exact At.new W3.drew _ _
  obtain ⟨i, hi1, hi2, hi3, hi4⟩ := info_of info87
  obtain ⟨v5, W5, hrun, hrow, hg⟩ := run_append_row (P := Tryd.prog) W4 66 66 66 87 i _ Tryd.underlying66 hi1 hi2 (by rw [hi3]; rfl) V3.a S.acts.length (acells S.acts) (by rw [hi3]; exact r4.ac) (.slice (some ⟨W3.heap.size, 0, none⟩) 1 1) 1 [.string ⟨#[]⟩, .string (tx p), .pointer (some ⟨a, 0, none⟩)] (by
    rw [hi3]
    refine Src.ofSlice W4 Tryd.underlying66 ⟨W3.heap.size, 0, none⟩ 1 1 _ rfl (fun q u hu => ?_) (by simp [Value.oneCell'])
    rw [Addr.add_lit, Nat.zero_add, hat4.cell, ← hu]; simp) (by simp only [maxLen]; omega) (by rw [hi4]; omega)
  rw [hi3] at hrow
  have hac2 : acells S.acts ++ [.string ⟨#[]⟩, .string (tx p), .pointer (some ⟨a, 0, none⟩)] = acells (S.acts ++ [⟨[], p, some a⟩]) := by rw [acells_app]; rfl
  rw [hac2] at hrow
  obtain ⟨d5, k5, hv5, -⟩ := hrow.shape
  subst hv5
  have FN := r4.setActs (l' := S.acts ++ [⟨[], p, some a⟩]) (by simpa using hrow) hg
  have FIN := Lib.hid (⟨_, _, FN.1, t3.trans (((StTo.of_ext (Ext.drew W3)).trans (StTo.of_ext e4)).trans FN.2)⟩ : ∃ V' L', Rep (W5.setCell ⟨b, 4, none⟩ (.slice d5 (S.acts.length + 1) k5)) b { S with names := S.names ++ [(p, a)], acts := S.acts ++ [⟨[], p, some a⟩] } V' L' ∧ StTo w _ L L')
  have at5 := hg.chg.at r4.cell (fun e => by have := r4.la b e; rw [r4.lb] at this; cases this)
  have c5 := at5.cell 4
  simp only [scells] at c5
  have f5 := at5.frozen 4
  have ca4 := e4.cell ca
  have HR := Lib.hid hrun
  have E4 := Lib.hid e4
  have HW4 := Lib.hid hW4
  clear FN hrow hg at5 hrun hat4 r4 r3 t3 hi1 hi2 hi3 hi4 e4 hac2 k0 k1 k2 hW4
  generalize S.acts.length = na at *
  go_upto_region 2 with fail
  refine wp_region_any (by kernel_rfl) ?_
  change wpAny _ _ _ _ _ _ _ (World.drew _)
  refine take_at 0 (some 10) (.pointer (some ⟨b, 0, none⟩)) rfl rfl (by kernel_rfl) (by kernel_rfl) (by kernel_rfl) (fun _ _ _ h => h) rfl (fun _ => by go_simp) ?_
  simp only [Act.put, List.setIfInBounds_toArray, List.set_cons_zero, List.set_cons_succ]
  refine take_at 1 (some 11) (.pointer (some ⟨b, 0, none⟩)) rfl rfl (by kernel_rfl) (by kernel_rfl) (by kernel_rfl) (fun _ _ _ h => h) rfl (fun _ => by go_simp) ?_
  simp only [Act.put, List.setIfInBounds_toArray, List.set_cons_zero, List.set_cons_succ]
  refine take_at 2 (some 12) (.pointer (some ⟨b, 0, none⟩)) rfl rfl (by kernel_rfl) (by kernel_rfl) (by kernel_rfl) (fun _ _ _ h => h) rfl (fun _ => by go_simp) ?_
  simp only [Act.put, List.setIfInBounds_toArray, List.set_cons_zero, List.set_cons_succ]
  refine take_at 3 (some 13) (.pointer (some ⟨b, 4, none⟩)) rfl rfl (by kernel_rfl) (by kernel_rfl) (by kernel_rfl) (fun _ _ _ h => h) rfl (fun _ => by go_simp) ?_
  simp only [Act.put, List.setIfInBounds_toArray, List.set_cons_zero, List.set_cons_succ]
  refine next_two 4 5 rfl rfl (by kernel_rfl) rfl rfl (fun K hK => ?_) (fun K hK => ?_)
  · first | (refine runL (some 14) rfl V3.a (by go_simp) ?_; refine hK _ _ ?_; clear hK K; simp only [Act.put, List.setIfInBounds_toArray, List.set_cons_zero, List.set_cons_succ])
    refine next_one 5 rfl (by kernel_rfl) rfl (fun K hK => ?_)
    refine runL (some 15) rfl (.agg #[.string ⟨#[]⟩, .string (tx p), .pointer (some ⟨a, 0, none⟩)]) (by go_simp) ?_
    refine hK _ _ ?_
    clear hK K
    simp only [Act.put, List.setIfInBounds_toArray, List.set_cons_zero, List.set_cons_succ]
    refine next_one 6 rfl (by kernel_rfl) rfl (fun K hK => ?_)
    refine runV (some 16) rfl (.slice (some ⟨W3.heap.size, 0, none⟩) 1 1) W4 (by have h1 := HW4.out; go_simp) ?_
    refine hK _ _ ?_
    clear hK K
    simp only [Act.put, List.setIfInBounds_toArray, List.set_cons_zero, List.set_cons_succ]
    refine next_one 7 rfl (by kernel_rfl) rfl (fun K hK => ?_)
    refine Lib.wp_append_run _ (.tmp 14) (.tmp 16) 66 66 rfl V3.a (.slice (some ⟨W3.heap.size, 0, none⟩) 1 1) rfl rfl _ _ HR.out ?_
    refine hK _ _ ?_
    clear hK K
    simp only [Act.put, List.setIfInBounds_toArray, List.set_cons_zero, List.set_cons_succ]
    refine take_at 8 (some 18) (.pointer (some ⟨b, 0, none⟩)) rfl rfl (by kernel_rfl) (by kernel_rfl) (by kernel_rfl) (fun _ _ _ h => h) rfl (fun _ => by go_simp) ?_
    simp only [Act.put, List.setIfInBounds_toArray, List.set_cons_zero, List.set_cons_succ]
    refine take_at 9 (some 19) (.pointer (some ⟨b, 4, none⟩)) rfl rfl (by kernel_rfl) (by kernel_rfl) (by kernel_rfl) (fun _ _ _ h => h) rfl (fun _ => by go_simp) ?_
    simp only [Act.put, List.setIfInBounds_toArray, List.set_cons_zero, List.set_cons_succ]
    refine next_one 10 rfl (by kernel_rfl) rfl (fun K hK => ?_)
    refine runN rfl (W5.setCell ⟨b, 4, none⟩ (.slice d5 (na + 1) k5)) (by go_simp) ?_
    refine hK _ _ ?_
    clear hK K
    refine wpAny_done (by kernel_rfl) ?_ _
    go_wp2
    go_end0
    exact ⟨rfl, FIN.out⟩
  · refine runL (some 15) rfl (.agg #[.string ⟨#[]⟩, .string (tx p), .pointer (some ⟨a, 0, none⟩)]) (by go_simp) ?_
    refine hK _ _ ?_
    clear hK K
    simp only [Act.put, List.setIfInBounds_toArray, List.set_cons_zero, List.set_cons_succ]
    refine next_two 4 6 rfl rfl (by kernel_rfl) rfl rfl (fun K hK => ?_) (fun K hK => ?_)
    · first | (refine runL (some 14) rfl V3.a (by go_simp) ?_; refine hK _ _ ?_; clear hK K; simp only [Act.put, List.setIfInBounds_toArray, List.set_cons_zero, List.set_cons_succ])
      refine next_one 6 rfl (by kernel_rfl) rfl (fun K hK => ?_)
      refine runV (some 16) rfl (.slice (some ⟨W3.heap.size, 0, none⟩) 1 1) W4 (by have h1 := HW4.out; go_simp) ?_
      refine hK _ _ ?_
      clear hK K
      simp only [Act.put, List.setIfInBounds_toArray, List.set_cons_zero, List.set_cons_succ]
      refine next_one 7 rfl (by kernel_rfl) rfl (fun K hK => ?_)
      refine Lib.wp_append_run _ (.tmp 14) (.tmp 16) 66 66 rfl V3.a (.slice (some ⟨W3.heap.size, 0, none⟩) 1 1) rfl rfl _ _ HR.out ?_
      refine hK _ _ ?_
      clear hK K
      simp only [Act.put, List.setIfInBounds_toArray, List.set_cons_zero, List.set_cons_succ]
      refine take_at 8 (some 18) (.pointer (some ⟨b, 0, none⟩)) rfl rfl (by kernel_rfl) (by kernel_rfl) (by kernel_rfl) (fun _ _ _ h => h) rfl (fun _ => by go_simp) ?_
      simp only [Act.put, List.setIfInBounds_toArray, List.set_cons_zero, List.set_cons_succ]
      refine take_at 9 (some 19) (.pointer (some ⟨b, 4, none⟩)) rfl rfl (by kernel_rfl) (by kernel_rfl) (by kernel_rfl) (fun _ _ _ h => h) rfl (fun _ => by go_simp) ?_
      simp only [Act.put, List.setIfInBounds_toArray, List.set_cons_zero, List.set_cons_succ]
      refine next_one 10 rfl (by kernel_rfl) rfl (fun K hK => ?_)
      refine runN rfl (W5.setCell ⟨b, 4, none⟩ (.slice d5 (na + 1) k5)) (by go_simp) ?_
      refine hK _ _ ?_
      clear hK K
      refine wpAny_done (by kernel_rfl) ?_ _
      go_wp2
      go_end0
      exact ⟨rfl, FIN.out⟩
    · refine runV (some 16) rfl (.slice (some ⟨W3.heap.size, 0, none⟩) 1 1) W4 (by have h1 := HW4.out; go_simp) ?_
      refine hK _ _ ?_
      clear hK K
      simp only [Act.put, List.setIfInBounds_toArray, List.set_cons_zero, List.set_cons_succ]
      refine next_one 4 rfl (by kernel_rfl) rfl (fun K hK => ?_)
      first | (refine runL (some 14) rfl V3.a (by go_simp) ?_; refine hK _ _ ?_; clear hK K; simp only [Act.put, List.setIfInBounds_toArray, List.set_cons_zero, List.set_cons_succ])
      refine next_one 7 rfl (by kernel_rfl) rfl (fun K hK => ?_)
      refine Lib.wp_append_run _ (.tmp 14) (.tmp 16) 66 66 rfl V3.a (.slice (some ⟨W3.heap.size, 0, none⟩) 1 1) rfl rfl _ _ HR.out ?_
      refine hK _ _ ?_
      clear hK K
      simp only [Act.put, List.setIfInBounds_toArray, List.set_cons_zero, List.set_cons_succ]
      refine take_at 8 (some 18) (.pointer (some ⟨b, 0, none⟩)) rfl rfl (by kernel_rfl) (by kernel_rfl) (by kernel_rfl) (fun _ _ _ h => h) rfl (fun _ => by go_simp) ?_
      simp only [Act.put, List.setIfInBounds_toArray, List.set_cons_zero, List.set_cons_succ]
      refine take_at 9 (some 19) (.pointer (some ⟨b, 4, none⟩)) rfl rfl (by kernel_rfl) (by kernel_rfl) (by kernel_rfl) (fun _ _ _ h => h) rfl (fun _ => by go_simp) ?_
      simp only [Act.put, List.setIfInBounds_toArray, List.set_cons_zero, List.set_cons_succ]
      refine next_one 10 rfl (by kernel_rfl) rfl (fun K hK => ?_)
      refine runN rfl (W5.setCell ⟨b, 4, none⟩ (.slice d5 (na + 1) k5)) (by go_simp) ?_
      refine hK _ _ ?_
      clear hK K
      refine wpAny_done (by kernel_rfl) ?_ _
      go_wp2
      go_end0
      exact ⟨rfl, FIN.out⟩
end Go.Proofs.YtbneedmfpldpfaaDoor
