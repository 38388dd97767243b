/- Names in memory; where one stands. Contracts of sort.Search, place, find. -/
import Derived.Test.YtbneedmfpldpfaaDoorMa
import Derived.Test.YtbneedmfpldpfaaDoorWe
import Derived.Deep.LoopGhost
namespace Go.Proofs.YtbneedmfpldpfaaDoor
open Go.RowKit Go.Pth

abbrev Nm := B × Nat
def ptr (a : Nat) : Value := .pointer (some ⟨a, 0, none⟩)
def ents (l : List Nm) : List Value := l.flatMap fun p => [.string (tx p.1), ptr p.2]
theorem ents_len (l : List Nm) : (ents l).length = l.length * 2 := by
  induction l with
  | nil => rfl
  | cons a r ih => simp [ents] at ih ⊢; omega
theorem ents_get (l : List Nm) (j : Nat) (h : j < l.length) : (ents l)[j * 2]? = some (.string (tx l[j].1)) ∧ (ents l)[j * 2 + 1]? = some (ptr l[j].2) := by
  induction l generalizing j with
  | nil => simp at h
  | cons a r ih =>
    cases j with
    | zero => simp [ents]
    | succ j =>
      have := ih j (by simpa using h)
      simp only [ents, List.flatMap_cons] at this ⊢
      rw [show (j + 1) * 2 = j * 2 + 1 + 1 by omega]
      simpa using this
/-- Names in memory, to be read. -/
structure TrR (w : World) (v : Value) (l : List Nm) (ad : Option Addr) (cap b o : Nat) : Prop where
  val : v = .slice ad l.length cap
  adr : 0 < l.length → ad = some ⟨b, o, none⟩
  nm : ∀ j (h : j < l.length), w.cell? ⟨b, o + j * 2, none⟩ = some (.string (tx l[j].1))
  nd : ∀ j (h : j < l.length), w.cell? ⟨b, o + j * 2 + 1, none⟩ = some (ptr l[j].2)
def Tr (w : World) (v : Value) (l : List Nm) : Prop := ∃ ad cap b o, TrR w v l ad cap b o
theorem TrR.ext {w w' : World} {v : Value} {l : List Nm} {ad : Option Addr} {cap b o : Nat} (h : TrR w v l ad cap b o) (he : Ext w w') : TrR w' v l ad cap b o :=
  ⟨h.val, h.adr, fun j hj => he.cell (h.nm j hj), fun j hj => he.cell (h.nd j hj)⟩
theorem Tr.ext {w w' : World} {v : Value} {l : List Nm} (h : Tr w v l) (he : Ext w w') : Tr w' v l := by
  obtain ⟨ad, cap, b, o, h⟩ := h; exact ⟨ad, cap, b, o, h.ext he⟩
theorem Tr.nil (w : World) : Tr w (.slice none 0 0) [] := ⟨none, 0, 0, 0, rfl, fun h => by simp at h, fun j h => by simp at h, fun j h => by simp at h⟩
theorem Tr.of_row {w : World} {v : Value} {l : List Nm} (h : Row w 64 2 v l.length (ents l)) : Tr w v l := by
  obtain ⟨_, ⟨rfl, h0⟩ | ⟨g, cap, cur, rfl, _, hg, hn, _, _, hx⟩⟩ := h
  · have : l = [] := List.length_eq_zero_iff.1 h0
    subst this; exact Tr.nil w
  · have hat : At w g cur 64 := hg
    have key : ∀ q, q < l.length * 2 → w.cell? ⟨g, q, none⟩ = (ents l)[q]? := fun q hq => by
      rw [hat.cell, ← hx, List.getElem?_take_of_lt hq, Array.getElem?_toList]
    refine ⟨_, cap, g, 0, rfl, fun _ => rfl, fun j hj => ?_, fun j hj => ?_⟩
    · rw [Nat.zero_add, key _ (by omega)]; exact (ents_get l j hj).1
    · rw [Nat.zero_add, key _ (by omega)]; exact (ents_get l j hj).2

def Srt (l : List Nm) : Prop := l.Pairwise fun a b => less a.1 b.1 = true
/-- Where a name stands, or would. -/
def place (l : List Nm) (at_ : B) : Nat := (l.takeWhile fun p => less p.1 at_).length
theorem place_le (l : List Nm) (a : B) : place l a ≤ l.length := (List.takeWhile_sublist _).length_le
theorem place_nil (a : B) : place [] a = 0 := rfl
theorem place_before (l : List Nm) (a : B) (j : Nat) (h : j < place l a) (hj : j < l.length) : less l[j].1 a = true := by
  unfold place at h
  have h2 : (l.takeWhile fun p => less p.1 a)[j] = l[j] := by
    have := (List.takeWhile_prefix (l := l) fun p => less p.1 a).getElem h
    exact this
  have := List.all_takeWhile (p := fun p : Nm => less p.1 a) (l := l)
  have := List.all_eq_true.1 this _ (List.getElem_mem h)
  rw [h2] at this; exact this
theorem place_at (l : List Nm) (a : B) (h : place l a < l.length) : less l[place l a].1 a = false := by
  induction l with
  | nil => simp at h
  | cons x r ih =>
    cases hx : less x.1 a with
    | false =>
      have e : place (x :: r) a = 0 := by simp [place, List.takeWhile, hx]
      simp [e, hx]
    | true =>
      have e : place (x :: r) a = place r a + 1 := by simp [place, List.takeWhile, hx]
      have h' : place r a < r.length := by rw [e] at h; simpa using h
      have := ih h'
      simp only [e, List.getElem_cons_succ]; exact this
theorem place_uniq (l : List Nm) (a : B) (k : Nat) (hk : k ≤ l.length) (h1 : ∀ j (h : j < l.length), j < k → less l[j].1 a = true) (h2 : ∀ (h : k < l.length), less l[k].1 a = false) : place l a = k := by
  rcases Nat.lt_trichotomy (place l a) k with h | h | h
  · have := h1 (place l a) (by omega) h
    rw [place_at l a (by omega)] at this; cases this
  · exact h
  · have hlt : k < l.length := Nat.lt_of_lt_of_le h (place_le l a)
    have := place_before l a k h hlt
    rw [h2 hlt] at this; cases this
theorem place_after (l : List Nm) (a : B) (hs : Srt l) (j : Nat) (hj : j < l.length) (h : place l a ≤ j) : less l[j].1 a = false := by
  have hp : place l a < l.length := by omega
  have h0 := place_at l a hp
  rcases Nat.eq_or_lt_of_le h with h | h
  · simp only [← h]; exact h0
  · have h1 : less l[place l a].1 l[j].1 = true := (List.pairwise_iff_getElem.1 hs) _ _ hp hj h
    cases hc : less l[j].1 a with
    | false => rfl
    | true => rw [less_trans _ _ _ h1 hc] at h0; cases h0
end Go.Proofs.YtbneedmfpldpfaaDoor
