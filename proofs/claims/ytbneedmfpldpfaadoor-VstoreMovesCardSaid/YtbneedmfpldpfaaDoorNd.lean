/- Cells of a node's rows set; bytes to be read; write. -/
import Derived.Test.YtbneedmfpldpfaaDoorNc
namespace Go.Proofs.YtbneedmfpldpfaaDoor
open Go.RowKit Go.Pth

/-- Cells of a row set in their place. -/
theorem Row.sets {w : World} {e : TypeId} {g cap n : Nat} {xs : List Value} (h : Row w e 1 (.slice (some ⟨g, 0, none⟩) n cap) n xs) (o : Nat) (vs : List Value) (hl : o + vs.length ≤ n) :
    Row (w.setCells g o vs) e 1 (.slice (some ⟨g, 0, none⟩) n cap) n (xs.take o ++ vs ++ xs.drop (o + vs.length)) := by
  have hx : xs.length = n := by simpa using h.1
  rcases h.2 with ⟨h1, h2⟩ | ⟨g', cap', cur, hv, hb, hg, hn, hc, hcs, hxs⟩
  · cases h1
  · injection hv with h1 h3 h4
    injection h1 with h1
    injection h1 with h1
    subst h1 h4
    simp only [Nat.mul_one] at hcs hxs
    have hat : At w g cur e := hg
    refine ⟨by simp [hx]; omega, .inr ⟨g, cap, _, rfl, hb, At.sets vs o w cur hat (by omega), hn, hc, ?_, ?_⟩⟩
    · simp; omega
    · simp only [Nat.mul_one]
      rw [← hxs]
      have hcl : cur.toList.length = cap := by simp [hcs]
      rw [List.take_append, List.take_append, List.take_take, List.drop_take]
      simp only [List.length_append, List.length_take, hcl]
      rw [Nat.min_eq_right (by omega : o ≤ n), Nat.min_eq_left (by omega : o ≤ cap), List.take_of_length_le (l := vs) (by omega)]
      simp only [List.take_take, Nat.min_eq_left (by omega : o ≤ n)]
theorem Row.own {w : World} {e : TypeId} {v : Value} {n : Nat} {xs : List Value} (h : Row w e 1 v n xs) (hn : 0 < n) : ∃ g cap, v = .slice (some ⟨g, 0, none⟩) n cap ∧ n ≤ cap ∧ cap ≤ maxLen := by
  rcases h.2 with ⟨_, h2⟩ | ⟨g, cap, cur, hv, _, _, h1, h2, _⟩
  · omega
  · exact ⟨g, cap, hv, h1, h2⟩
theorem Row.cell {w : World} {e : TypeId} {g cap n : Nat} {xs : List Value} (h : Row w e 1 (.slice (some ⟨g, 0, none⟩) n cap) n xs) (j : Nat) (hj : j < n) : w.cell? ⟨g, j, none⟩ = xs[j]? ∧ w.frozen? ⟨g, j, none⟩ = false := by
  rcases h.2 with ⟨h1, h2⟩ | ⟨g', cap', cur, hv, hb, hg, hn, hc, hcs, hxs⟩
  · cases h1
  · injection hv with h1 h3 h4
    injection h1 with h1
    injection h1 with h1
    subst h1
    have hat : At w g cur e := hg
    simp only [Nat.mul_one] at hxs
    exact ⟨by rw [hat.cell, ← hxs, List.getElem?_take_of_lt hj, Array.getElem?_toList], hat.frozen j⟩
def splice {α : Type} (l : List α) (o : Nat) (x : List α) : List α := l.take o ++ x ++ l.drop (o + x.length)
theorem splice_len {α : Type} (l : List α) (o : Nat) (x : List α) (h : o + x.length ≤ l.length) : (splice l o x).length = l.length := by simp [splice]; omega
theorem bts_splice (l : List Int) (o : Nat) (x : List Int) : (bts l).take o ++ bts x ++ (bts l).drop (o + (bts x).length) = bts (splice l o x) := by simp [bts, splice, List.map_take, List.map_drop]
theorem bls_set (l : List Bool) (o : Nat) (h : o < l.length) : (bls l).take o ++ [.bool true] ++ (bls l).drop (o + 1) = bls (l.set o true) := by
  rw [List.set_eq_take_append_cons_drop, if_pos h]; simp [bls, List.map_take, List.map_drop]
theorem NdIn.putN {w : World} {a : Nat} {N : NV} {V : Vs} (h : NdIn w a N V) {g cap : Nat} (hv : V.n = .slice (some ⟨g, 0, none⟩) N.now.length cap) (o : Nat) (x : List Int) (hl : o + x.length ≤ N.now.length) :
    NdIn (w.setCells g o (bts x)) a { N with now := splice N.now o x } V ∧ NdTo w (w.setCells g o (bts x)) a V V := by
  have hg : V.n.ownBlock = some g := by rw [hv]; rfl
  have sc := Chg.sets g (bts x) o w
  have hr := h.n
  rw [hv] at hr
  have hr2 := Row.sets hr o (bts x) (by rw [bts_len]; exact hl)
  rw [bts_splice, ← hv] at hr2
  refine ⟨⟨sc.at h.cells fun e => h.an (by rw [e]; exact hg), by rw [splice_len _ _ _ hl]; exact hr2, h.k.chg sc fun q hq e => h.nk g hg (by rw [← e]; exact hq), h.l.chg sc fun q hq e => h.nl g hg (by rw [← e]; exact hq), h.an, h.ak, h.al, h.nk, h.nl, h.kl⟩, sc.mono fun i _ e => Or.inr (Or.inl (by rw [e]; exact hg)), fun i hi => Or.inl hi⟩
theorem NdIn.markL {w : World} {a : Nat} {N : NV} {V : Vs} (h : NdIn w a N V) {g cap : Nat} (hv : V.l = .slice (some ⟨g, 0, none⟩) N.loose.length cap) (o : Nat) (hl : o < N.loose.length) :
    NdIn (w.setCell ⟨g, o, none⟩ (.bool true)) a { N with loose := N.loose.set o true } V ∧ NdTo w (w.setCell ⟨g, o, none⟩ (.bool true)) a V V := by
  have hg : V.l.ownBlock = some g := by rw [hv]; rfl
  have sc := Chg.setCell w g o (.bool true)
  have hr := h.l
  rw [hv] at hr
  have hr2 := Row.sets hr o [.bool true] (by simp; omega)
  simp only [List.length_cons, List.length_nil, Nat.zero_add] at hr2
  rw [bls_set _ _ hl, ← hv] at hr2
  refine ⟨⟨sc.at h.cells fun e => h.al (by rw [e]; exact hg), h.n.chg sc fun q hq e => h.nl q hq (by rw [e]; exact hg), h.k.chg sc fun q hq e => h.kl q hq (by rw [e]; exact hg), by rw [List.length_set]; exact hr2, h.an, h.ak, h.al, h.nk, h.nl, h.kl⟩, sc.mono fun i _ e => Or.inr (Or.inr (Or.inr (by rw [e]; exact hg))), fun i hi => Or.inl hi⟩

/-- Bytes in memory, to be read. -/
structure Bin (w : World) (v : Value) (l : List Int) (ad : Option Addr) (cap b o : Nat) : Prop where
  val : v = .slice ad l.length cap
  adr : 0 < l.length → ad = some ⟨b, o, none⟩
  cell : ∀ j u, (bts l)[j]? = some u → w.cell? ⟨b, o + j, none⟩ = some u
theorem Bin.chg {X : Nat → Prop} {w w' : World} {v : Value} {l : List Int} {ad : Option Addr} {cap b o : Nat} (h : Bin w v l ad cap b o) (hc : Chg X w w') (hx : ¬ X b) : Bin w' v l ad cap b o :=
  ⟨h.val, h.adr, fun j u hu => hc.cell (h.cell j u hu) hx⟩
theorem Bin.ext {w w' : World} {v : Value} {l : List Int} {ad : Option Addr} {cap b o : Nat} (h : Bin w v l ad cap b o) (he : Ext w w') : Bin w' v l ad cap b o :=
  ⟨h.val, h.adr, fun j u hu => he.cell (h.cell j u hu)⟩
theorem Bin.of_row {w : World} {v : Value} {l : List Int} (h : Row w 5 1 v l.length (bts l)) : ∃ ad cap b, Bin w v l ad cap b 0 ∧ (∀ g, v.ownBlock = some g → b = g) := by
  rcases h.2 with ⟨rfl, h0⟩ | ⟨g, cap, cur, rfl, _, hg, hn, _, _, hx⟩
  · have : l = [] := List.length_eq_zero_iff.1 h0
    subst this
    exact ⟨none, 0, 0, ⟨rfl, fun h => by simp at h, fun j u hu => by simp [bts] at hu⟩, fun g hg => by cases hg⟩
  · refine ⟨_, cap, g, ⟨rfl, fun _ => rfl, fun j u hu => ?_⟩, fun q hq => by injection hq with hq⟩
    have hat : At w g cur 5 := hg
    have hj : j < l.length := by
      have := (List.getElem?_eq_some_iff.1 hu).1
      rw [bts_len] at this; exact this
    rw [Nat.zero_add, hat.cell, ← hu, ← hx, List.getElem?_take_of_lt (by omega), Array.getElem?_toList]

def mark (l : List Bool) (i j : Nat) : List Bool := l.mapIdx fun k x => if i ≤ k ∧ k < j then true else x
theorem mark_len (l : List Bool) (i j : Nat) : (mark l i j).length = l.length := by simp [mark]
theorem mark_none (l : List Bool) (i j : Nat) (h : j ≤ i) : mark l i j = l := by
  apply List.ext_getElem
  · simp [mark]
  · intro k h1 h2; simp [mark]; omega
theorem mark_set (l : List Bool) (i k : Nat) (h : i ≤ k) : (mark l i k).set k true = mark l i (k + 1) := by
  apply List.ext_getElem
  · simp [mark]
  · intro q h1 h2
    simp only [mark, List.getElem_set, List.getElem_mapIdx]
    by_cases e : k = q
    · subst e; simp [h]
    · rw [if_neg e]
      by_cases h3 : i ≤ q ∧ q < k
      · rw [if_pos h3, if_pos (by omega)]
      · rw [if_neg h3, if_neg (by omega)]
def NV.write (N : NV) (off : Nat) (x : List Int) : NV :=
  if min off N.now.length = off + x.length then N else
    let M := N.resize (max (off + x.length) N.now.length)
    { M with now := splice M.now off x, loose := mark M.loose (min off N.now.length / 16) (secs (off + x.length)) }
end Go.Proofs.YtbneedmfpldpfaaDoor
