/- What a call of the document's store makes: copies, fits, appends. -/
import Derived.Test.YtbneedmfpldpfaaGreatDoorBn
set_option linter.unusedSimpArgs false
set_option linter.unusedVariables false
namespace Go.Proofs.YtbneedmfpldpfaaGreatDoor
open Go.RowKit Go.Pth

/-- append to an empty slice that is none of nothing. -/
theorem app_src {t e : TypeId} (ty : TypeId) {k : Nat} {z : Value} {bytes : Nat} (ht : Tryz.prog.underlying t = some (.slice e)) (hinf : (Tryz.prog.info? e).map (fun i => (i.zero, i.size, i.bytes)) = some (some z, k, bytes)) (hzs : z.cells.size = k) (hb : bytes ≤ 1000) {w : World} {g0 m : Nat} {v : Value} {news : List Value} (hz : Row w e k (.slice (some ⟨g0, 0, none⟩) 0 0) 0 []) (hs : Src Tryz.prog k t v m news w) (hm : m ≤ 100000) :
    ∃ v' w', (Builtin.append_ #[t, t] ty #[.slice (some ⟨g0, 0, none⟩) 0 0, v]).run Tryz.prog w = .ok v' w' ∧ Row w' e k v' m news ∧ Ext w w' ∧ (∀ i, v'.ownBlock = some i → i = g0 ∨ w.heap.size ≤ i) := by
  obtain ⟨i, hi1, hi2, hi3, hi4⟩ := info_of hinf
  subst hi3
  by_cases h0 : m = 0
  · subst h0
    have hn : news = [] := List.eq_nil_of_length_eq_zero (by simpa using hs.newsLen)
    subst hn
    have hr := run_append_room_src (P := Tryz.prog) w t t ty e i ht hi1 g0 0 0 0 v 0 [] hs (by omega) (fun j hj => by simp at hj) (fun j hj => by simp at hj)
    exact ⟨_, _, hr, hz, Ext.refl _, fun q hq => by have h_ : some g0 = some q := hq; injection h_ with h_; exact Or.inl h_.symm⟩
  · have hr := run_append_grow_src (P := Tryz.prog) w t t ty e i z ht hi1 hi2 (some ⟨g0, 0, none⟩) 0 0 [] (run_firstCells_some w.drew i.size 0 ⟨g0, 0, none⟩ 0 0 [] (by simp) (by simp)) v m news hs (by omega) (by omega) (growslice_fits (by omega) (by rw [hi4]; have : (0 + m) * bytes ≤ 100000 * 1000 := Nat.mul_le_mul (by omega) hb; omega))
    have hg := row_grown (w := w) (e := e) (i := i) (z := z) hzs (n := 0) (m := m) (old := 0) (xs := []) (news := news) (by simp) hs.newsLen (by simp only [maxLen]; omega)
    refine ⟨_, _, hr, ?_, (Ext.drew w).trans (Ext.alloc _ _), fun q hq => Or.inr ?_⟩
    · rw [Nat.zero_add, List.nil_append] at hg
      simpa using hg
    · have h_ : some w.heap.size = some q := hq
      injection h_ with h_
      omega
abbrev BlR (w : World) (v : Value) (n : Nat) : Prop := ∃ l : List Bool, l.length = n ∧ Row w 4 1 v n (bls l)
abbrev ByV (w : World) (v : Value) (n : Nat) : Prop := ∃ l : List Int, l.length = n ∧ Row w 5 1 v n (bts l)
theorem byv_ext {w w' : World} {v : Value} {n : Nat} (h : ByV w v n) (e : Ext w w') : ByV w' v n := by
  obtain ⟨l, h1, h2⟩ := h; exact ⟨l, h1, h2.ext e⟩
theorem blr_ext {w w' : World} {v : Value} {n : Nat} (h : BlR w v n) (e : Ext w w') : BlR w' v n := by
  obtain ⟨l, h1, h2⟩ := h; exact ⟨l, h1, h2.ext e⟩
theorem byv_chg {X : Nat → Prop} {w w' : World} {v : Value} {n : Nat} (h : ByV w v n) (c : Chg X w w') (hx : ∀ i, v.ownBlock = some i → ¬ X i) : ByV w' v n := by
  obtain ⟨l, h1, h2⟩ := h; exact ⟨l, h1, h2.chg c hx⟩
theorem blr_chg {X : Nat → Prop} {w w' : World} {v : Value} {n : Nat} (h : BlR w v n) (c : Chg X w w') (hx : ∀ i, v.ownBlock = some i → ¬ X i) : BlR w' v n := by
  obtain ⟨l, h1, h2⟩ := h; exact ⟨l, h1, h2.chg c hx⟩
theorem byv_lt {w : World} {v : Value} {n : Nat} (h : ByV w v n) (i : Nat) (hi : v.ownBlock = some i) : i < w.heap.size := by
  obtain ⟨l, h1, h2⟩ := h; exact h2.lt i hi
theorem blr_lt {w : World} {v : Value} {n : Nat} (h : BlR w v n) (i : Nat) (hi : v.ownBlock = some i) : i < w.heap.size := by
  obtain ⟨l, h1, h2⟩ := h; exact h2.lt i hi
/-- Fit of what is there. -/
theorem rfit_v {w : World} {v : Value} {n : Nat} (h : ByV w v n) (a : Nat) (hn : n ≤ 65536) (ha : a ≤ 65536) :
    Calls Tryz.prog 67 #[v, .int .i64 a] w fun e w' => ∃ v', e = .returned v' ∧ (ByV w' v' a ∧ Ext w w' ∧ ∀ i, v'.ownBlock = some i → w.heap.size ≤ i) := by
  obtain ⟨l, h1, h2⟩ := h
  subst h1
  exact (rfit_any v l a w h2 hn ha).mono fun e w' ⟨v', e1, l', h3, h4, h5, h6⟩ => ⟨v', e1, ⟨l', h3, h4⟩, h5, h6⟩

theorem name_goal {P : Program} {md : Region.Mode} {ops : Array Oper} {Q : Exit → Act → World → Prop} {S : World → Prop} {fuel : Nat} {listed : Array Bool} {a : Act} {w : World} (h : ∀ Z : Nat → Array Bool → Act → World → Prop, Z = wpAnyH P md ops Q S → Z fuel listed a w) : wpAnyH P md ops Q S fuel listed a w := h _ rfl
end Go.Proofs.YtbneedmfpldpfaaGreatDoor
