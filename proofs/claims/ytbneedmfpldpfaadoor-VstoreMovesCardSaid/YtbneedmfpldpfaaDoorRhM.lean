/- The states that the law VstoreMoves goes through. No conditions: definitions and lemmas. The store at hand in VstoreMoves: what its calls answer, and how it goes on. No conditions: lemmas. Rename of the store in VstoreMoves: refused, and done. No conditions: lemmas. The store that VstoreMoves makes, step by step. No conditions: definitions and lemmas. -/
import Derived.Test.YtbneedmfpldpfaaDoorGnM
import Derived.Test.YtbneedmfpldpfaaDoorSn
import Derived.Test.YtbneedmfpldpfaaDoorGkM
namespace Go.Proofs.YtbneedmfpldpfaaDoor
open Go.RowKit Go.Pth
set_option linter.unusedSimpArgs false
set_option linter.unusedVariables false

/-- A store of which nothing was told of its power, of few acts. -/
structure Cl (S : SV) (l : List Nm) (N : Int) : Prop where
  nm : S.names = l
  pw : S.power = 0
  lf : S.left = 0
  op : 0 ≤ S.ops ∧ S.ops ≤ N
  ck : 0 ≤ S.clock ∧ S.clock ≤ N
  ac : (S.acts.length : Int) ≤ N
  rm : S.room = 1048576
theorem Cl.new : Cl (SV.new 1048576) [] 0 := ⟨rfl, rfl, rfl, by simp [SV.new], by simp [SV.new], by simp [SV.new], rfl⟩
theorem Cl.beg {S : SV} {l : List Nm} {N : Int} (h : Cl S l N) : Cl S.beg l (N + 1) := by
  obtain ⟨b1, b2, b3, b4, b5, b6, b7⟩ := beg_same S
  refine ⟨b1.trans h.nm, beg_power0 h.pw, (beg_left h.pw).trans h.lf, ?_, ?_, ?_, b6.trans h.rm⟩
  · rw [beg_ops h.pw]; have := h.op; omega
  · rw [b4]; have := h.ck; omega
  · rw [b5]; have := h.ac; omega
theorem Cl.made {S : SV} {l : List Nm} {N : Int} (h : Cl S l N) (a : Nat) (p : B) (k : Int) : Cl (S.made a p k) (l ++ [(p, a)]) (N + 1) := by
  refine ⟨?_, h.pw, h.lf, ?_, ?_, ?_, h.rm⟩
  · show S.names ++ [(p, a)] = _
    rw [h.nm]
  · show 0 ≤ S.ops ∧ S.ops ≤ N + 1
    have := h.op; omega
  · show 0 ≤ S.clock + 1 ∧ S.clock + 1 ≤ N + 1
    have := h.ck; omega
  · show ((S.acts ++ [(⟨[], p, some a⟩ : Ac)]).length : Int) ≤ N + 1
    have := h.ac
    rw [List.length_append]
    simp; omega
theorem Cl.wrote {S : SV} {l : List Nm} {N : Int} (h : Cl S l N) (a off : Nat) (x : List Int) : Cl (S.wrote a off x) l (N + 1) := by
  refine ⟨h.nm, h.pw, h.lf, ?_, ?_, ?_, h.rm⟩
  · show 0 ≤ S.ops ∧ S.ops ≤ N + 1
    have := h.op; omega
  · show 0 ≤ S.clock + 1 ∧ S.clock + 1 ≤ N + 1
    have := h.ck; omega
  · show (S.acts.length : Int) ≤ N + 1
    have := h.ac; omega
theorem Cl.fit {S : SV} {l : List Nm} {N : Int} (h : Cl S l N) (hN : N ≤ 1000) (hl : l.length ≤ 100) : S.Fit := by
  refine ⟨?_, ?_, ?_, ?_, ?_⟩
  · rw [h.lf]; omega
  · have := h.op; omega
  · have := h.ck; omega
  · rw [h.nm]; omega
  · have := h.ac; omega
theorem Cl.begE {S : SV} {l : List Nm} {N : Int} (h : Cl S l N) (p : B) (hv : valid p = true) : S.begE [p] = 0 := begE_ok h.pw p hv
theorem place_cons (p : B) (a : Nat) (l : List Nm) (t : B) : place ((p, a) :: l) t = if less p t = true then place l t + 1 else 0 := by
  unfold place
  by_cases h : less p t = true
  · rw [if_pos h, List.takeWhile_cons_of_pos (by exact h)]; rfl
  · rw [if_neg h, List.takeWhile_cons_of_neg (by exact h)]; rfl
theorem look_cons (p : B) (a : Nat) (l : List Nm) (t : B) : look ((p, a) :: l) t = if less p t = true then look l t else if p = t then some a else none := by
  unfold look
  rw [place_cons]
  by_cases h : less p t = true
  · rw [if_pos h]
    simp only [h, if_true, List.length_cons, Nat.add_lt_add_iff_right, List.getElem_cons_succ]
  · rw [if_neg h]
    simp [h]
/-- The four names one by one. -/
theorem l0 : place [] nD = ([] : List Nm).length := rfl
theorem l1 (a : Nat) : place [(nD, a)] nE = 1 ∧ look [(nD, a)] nE = none ∧ look [(nD, a)] nD = some a := by
  refine ⟨?_, ?_, ?_⟩
  · rw [place_cons, if_pos (by decide)]; rfl
  · rw [look_cons, if_pos (by decide)]; rfl
  · rw [look_cons, if_neg (by decide), if_pos rfl]
theorem l2 (a e : Nat) : place [(nD, a), (nE, e)] nF = 2 ∧ look [(nD, a), (nE, e)] nF = none ∧ look [(nD, a), (nE, e)] nE = some e := by
  refine ⟨?_, ?_, ?_⟩
  · rw [place_cons, if_pos (by decide), place_cons, if_pos (by decide)]; rfl
  · rw [look_cons, if_pos (by decide), look_cons, if_pos (by decide)]; rfl
  · rw [look_cons, if_pos (by decide), look_cons, if_neg (by decide), if_pos rfl]
theorem l3 (a e f : Nat) : place [(nD, a), (nE, e), (nF, f)] nX = 3 ∧ look [(nD, a), (nE, e), (nF, f)] nX = none ∧ look [(nD, a), (nE, e), (nF, f)] nF = some f := by
  refine ⟨?_, ?_, ?_⟩
  · rw [place_cons, if_pos (by decide), place_cons, if_pos (by decide), place_cons, if_pos (by decide)]; rfl
  · rw [look_cons, if_pos (by decide), look_cons, if_pos (by decide), look_cons, if_pos (by decide)]; rfl
  · rw [look_cons, if_pos (by decide), look_cons, if_pos (by decide), look_cons, if_neg (by decide), if_pos rfl]
def nY : B := [121]
theorem l4 (a e f x : Nat) : place (n4 a e f x) nY = 4 ∧ look (n4 a e f x) nY = none ∧ look (n4 a e f x) nF = some f := by
  unfold n4
  refine ⟨?_, ?_, ?_⟩
  · rw [place_cons, if_pos (by decide), place_cons, if_pos (by decide), place_cons, if_pos (by decide), place_cons, if_pos (by decide)]; rfl
  · rw [look_cons, if_pos (by decide), look_cons, if_pos (by decide), look_cons, if_pos (by decide), look_cons, if_pos (by decide)]; rfl
  · rw [look_cons, if_pos (by decide), look_cons, if_pos (by decide), look_cons, if_neg (by decide), if_pos rfl]
theorem l5 (a e f x y : Nat) : look (n4 a e f x ++ [(nY, y)]) nY = some y ∧ rung (n4 a e f x ++ [(nY, y)]) nD = [(nD, a), (nE, e), (nF, f)] ∧ look (n4 a e f x ++ [(nY, y)]) nF = some f := by
  unfold n4
  refine ⟨?_, ?_, ?_⟩
  · show look [(nD, a), (nE, e), (nF, f), (nX, x), (nY, y)] nY = _
    rw [look_cons, if_pos (by decide), look_cons, if_pos (by decide), look_cons, if_pos (by decide), look_cons, if_pos (by decide), look_cons, if_neg (by decide), if_pos rfl]
  · unfold rung
    show List.takeWhile (runF nD) (List.drop (place [(nD, a), (nE, e), (nF, f), (nX, x), (nY, y)] nD) [(nD, a), (nE, e), (nF, f), (nX, x), (nY, y)]) = _
    rw [place_cons, if_neg (by decide), List.drop_zero]
    have r1 : ∀ n, runF nD (nD, n) = true := fun n => by simp [runF]
    have r2 : ∀ n, runF nD (nE, n) = true := fun n => by
      have h : under nE nD = true := by decide
      simp [runF, h]
    have r3 : ∀ n, runF nD (nF, n) = true := fun n => by
      have h : under nF nD = true := by decide
      simp [runF, h]
    have r4 : ∀ n, runF nD (nX, n) = false := fun n => by
      have h : under nX nD = false := by decide
      simp [runF, h]; decide
    simp [List.takeWhile, r1, r2, r3, r4]
  · show look [(nD, a), (nE, e), (nF, f), (nX, x), (nY, y)] nF = _
    rw [look_cons, if_pos (by decide), look_cons, if_pos (by decide), look_cons, if_neg (by decide), if_pos rfl]
theorem takes_up {l : List Nm} {K : Nat → Int} {p q : B} {n : Nat} (h1 : look l p = none) (h2 : parent p = q) (h3 : q ≠ []) (h4 : look l q = some n) (h5 : K n = 2) : takes l K p = 0 := by
  unfold takes
  rw [h1, h2, h4]
  simp [h3, h5]
theorem takes_top {l : List Nm} {K : Nat → Int} {p : B} (h1 : look l p = none) (h2 : parent p = []) : takes l K p = 0 := by
  unfold takes
  rw [h1]
  simp [h2]
end Go.Proofs.YtbneedmfpldpfaaDoor

namespace Go.Proofs.YtbneedmfpldpfaaDoor
open Go.RowKit Go.Pth
set_option linter.unusedSimpArgs false
set_option linter.unusedVariables false

/-- A store made since w0. -/
def Held (w0 : World) (b : Nat) (S : SV) (w : World) : Prop := ∃ V L, Rep w b S V L ∧ Ext w0 w ∧ ∀ i, L i ≠ none → w0.heap.size ≤ i
theorem Held.now {w0 w : World} {b : Nat} {S : SV} (h : Held w0 b S w) : Ext w0 w := by obtain ⟨_, _, _, h, _⟩ := h; exact h
theorem Held.ext {w0 w w' : World} {b : Nat} {S : SV} (h : Held w0 b S w) (he : Ext w w') : Held w0 b S w' := by
  obtain ⟨V, L, r, e, l⟩ := h
  exact ⟨V, L, r.ext he, e.trans he, l⟩
theorem Held.chg {w0 w w' : World} {b g : Nat} {S : SV} (h : Held w0 b S w) (hc : Chg (fun i => i = g) w w') (hg : w.heap.size ≤ g) : Held w0 b S w' := by
  refine h.ext ⟨hc.os, hc.tape, hc.output, hc.size, fun i hi => hc.block i hi (by omega)⟩
theorem Held.step {w0 w w' : World} {b : Nat} {S' : SV} {L L' : Nat → Option Role} {V' : SW} (e : Ext w0 w) (l : ∀ i, L i ≠ none → w0.heap.size ≤ i) (r : Rep w' b S' V' L') (t : StTo w w' L L') : Held w0 b S' w' := by
  obtain ⟨h1, h2⟩ := own_step e l t
  exact ⟨V', L', r, h1, h2⟩
/-- .. beside which the blocks U lie. -/
def HeldU (w0 : World) (b : Nat) (S : SV) (U : Nat → Prop) (w : World) : Prop := ∃ V L, Rep w b S V L ∧ Ext w0 w ∧ (∀ i, L i ≠ none → w0.heap.size ≤ i) ∧ ∀ i, U i → L i = none ∧ i < w.heap.size
theorem Held.fresh {w0 w w' : World} {b : Nat} {S : SV} (h : Held w0 b S w) (he : Ext w w') : HeldU w0 b S (fun i => w.heap.size ≤ i ∧ i < w'.heap.size) w' := by
  obtain ⟨V, L, r, e, l⟩ := h
  refine ⟨V, L, r.ext he, e.trans he, l, fun i hi => ⟨?_, hi.2⟩⟩
  cases hL : L i with
  | none => rfl
  | some q => have := r.lt i (by rw [hL]; simp); omega
theorem Held.any {w0 w : World} {b : Nat} {S : SV} (h : Held w0 b S w) : HeldU w0 b S (fun _ => False) w := by
  obtain ⟨V, L, r, e, l⟩ := h
  exact ⟨V, L, r, e, l, fun i hi => hi.elim⟩
theorem kept_of {w w' : World} {L L' : Nat → Option Role} {U : Nat → Prop} (t : StTo w w' L L') (hU : ∀ i, U i → L i = none ∧ i < w.heap.size) : ∀ i, U i → w'.heap[i]? = w.heap[i]? := fun i hi =>
  t.chg.block i (hU i hi).2 (fun h => h (hU i hi).1)
theorem mkdir_h {w0 w : World} {b : Nat} {S : SV} {l : List Nm} {N : Int} (h : Held w0 b S w) (c : Cl S l N) (hN : N ≤ 900) (hl : l.length ≤ 100) (p : ByteArray) (q : B) (hq : p.toList = q) (hv : valid q = true) (ht : takes l (kinds S) q = 0) (hend : place l q = l.length) :
    Calls Tryd.prog 19 #[ptr b, .string p] w fun e w' => e = .returned (.int .i64 0) ∧ ∃ a, a ∉ S.ids ∧ Held w0 b (S.beg.made a q 2) w' := by
  obtain ⟨V, L, r, e, lb⟩ := h
  subst hq
  refine mkdir_of b p 0 w ((add_ok b S V L p 2 w r (c.fit (by omega) hl) (c.begE _ hv) (by rw [c.nm]; exact ht) (by rw [c.nm]; exact hend)).mono fun e' w' ⟨h1, a, V', L', h2, h3, h4⟩ => ⟨h1, a, h2, Held.step e lb h3 h4⟩)
theorem create_h {w0 w : World} {b : Nat} {S : SV} {l : List Nm} {N : Int} (h : Held w0 b S w) (c : Cl S l N) (hN : N ≤ 900) (hl : l.length ≤ 100) (p : ByteArray) (q : B) (hq : p.toList = q) (hv : valid q = true) (ht : takes l (kinds S) q = 0) (hend : place l q = l.length) :
    Calls Tryd.prog 10 #[ptr b, .string p] w fun e w' => e = .returned (.int .i64 0) ∧ ∃ a, a ∉ S.ids ∧ Held w0 b (S.beg.made a q 1) w' := by
  obtain ⟨V, L, r, e, lb⟩ := h
  subst hq
  refine create_of b p 0 w ((add_ok b S V L p 1 w r (c.fit (by omega) hl) (c.begE _ hv) (by rw [c.nm]; exact ht) (by rw [c.nm]; exact hend)).mono fun e' w' ⟨h1, a, V', L', h2, h3, h4⟩ => ⟨h1, a, h2, Held.step e lb h3 h4⟩)
theorem write_h {w0 w : World} {b : Nat} {S : SV} {l : List Nm} {N : Int} (h : Held w0 b S w) (c : Cl S l N) (hN : N ≤ 900) (hl : l.length ≤ 100) (p : ByteArray) (q : B) (hq : p.toList = q) (hv : valid q = true) (a : Nat) (hfile : S.file q = (some a, 0))
    (vb : Value) (x : List Int) (ad : Option Addr) (cap bb o : Nat) (hx : Bin w0 vb x ad cap bb o) (hbb : 0 < x.length → bb < w0.heap.size) (hbyt : ∀ y ∈ x, 0 ≤ y ∧ y < 256) (hsz : x.length ≤ 200) (hused : used S.nd l = 0) :
    Calls Tryd.prog 11 #[ptr b, .string p, .int .i64 0, vb] w fun e w' => e = .returned (.int .i64 0) ∧ Held w0 b (S.beg.wrote a 0 x) w' := by
  obtain ⟨V, L, r, e, lb⟩ := h
  subst hq
  obtain ⟨bb', hB, hL⟩ : ∃ bb', Bin w vb x ad cap bb' o ∧ L bb' = none := by
    by_cases h0 : 0 < x.length
    · refine ⟨bb, hx.ext e, ?_⟩
      have h1 := hbb h0
      cases hLb : L bb with
      | none => rfl
      | some r' => have := lb bb (by rw [hLb]; simp); omega
    · have hx0 : x = [] := List.length_eq_zero_iff.1 (by omega)
      refine ⟨w.heap.size, ⟨hx.val, fun h => absurd h h0, fun j u hu => by subst hx0; simp [bts] at hu⟩, ?_⟩
      cases hLb : L w.heap.size with
      | none => rfl
      | some r' => have := r.lt w.heap.size (by rw [hLb]; simp); omega
  have hroom : (used S.nd S.names : Int) + max 0 (((0 : Nat) : Int) + x.length - (S.nd a).now.length) ≤ S.room := by
    rw [c.nm, hused, c.rm]
    omega
  exact (write_ok b S V L p 0 x vb ad cap bb' o a w r (c.fit (by omega) hl) (c.begE _ hv) hfile hB hL hbyt (by omega) hroom).mono fun e' w' ⟨h1, V', L', h3, h4⟩ => ⟨h1, Held.step e lb h3 h4⟩
theorem names_own {w : World} {b : Nat} {S : SV} {V : SW} {L : Nat → Option Role} (h : Rep w b S V L) (h0 : 0 < S.names.length) : ∃ g cap, V.n = .slice (some ⟨g, 0, none⟩) S.names.length cap ∧ S.names.length ≤ cap ∧ V.n.ownBlock = some g := by
  obtain ⟨ad, cap, hv, hn, _, hno, hso⟩ := h.nm.shape
  cases ad with
  | none => have := (hno rfl).1; omega
  | some p =>
    obtain ⟨g, rfl, hg⟩ := hso p rfl
    exact ⟨g, cap, hv, hn, hg⟩
/-- What List answers, as the walk holds it. -/
def ListH (w : World) (n : Nat) (xs : List Value) (e : Ending) (w' : World) : Prop := ∃ g cap, e = .returned (.slice (some ⟨g, 0, none⟩) n cap) ∧ Row w' 30 5 (.slice (some ⟨g, 0, none⟩) n cap) n xs ∧ Ext w w' ∧ w.heap.size ≤ g
theorem list_h {w0 w : World} {b : Nat} {S : SV} {l : List Nm} {N : Int} (h : Held w0 b S w) (c : Cl S l N) (h0 : 0 < l.length) (hl : l.length ≤ 100) : Calls Tryd.prog 14 #[ptr b] w (ListH w l.length (stats S.nd l)) := by
  obtain ⟨V, L, r, e, lb⟩ := h
  obtain ⟨g, cap, hv, _, _⟩ := names_own r (by rw [c.nm]; exact h0)
  refine (list_any b g cap S V L w r (by rw [c.nm]; omega) hv).mono fun e' w' ⟨v, h1, h2, h3, h4⟩ => ?_
  rw [c.nm] at h2
  obtain ⟨ad, cp, hv2, _, _, hno, hso⟩ := h2.shape
  cases ad with
  | none => have := (hno rfl).1; omega
  | some p =>
    obtain ⟨g2, rfl, ho⟩ := hso p rfl
    have h5 := h4 g2 ho
    subst hv2
    exact ⟨g2, cp, h1, h2, h3, h5⟩
theorem stat_h {w0 w : World} {b : Nat} {S : SV} {l : List Nm} {N : Int} (h : Held w0 b S w) (c : Cl S l N) (hl : l.length ≤ 100) (p : ByteArray) (q : B) (hq : p.toList = q) (a : Nat) (hk : look l q = some a) :
    Calls Tryd.prog 8 #[ptr b, .string p] w fun e w' => e = .returned (.tuple #[.agg (statC q (S.nd a)), .int .i64 0]) ∧ Ext w w' := by
  obtain ⟨V, L, r, e, lb⟩ := h
  subst hq
  exact stat_some b S V L p a w r (by rw [c.nm]; omega) (by rw [c.nm]; exact hk)
theorem stat_n {w0 w : World} {b : Nat} {S : SV} {l : List Nm} {N : Int} (h : Held w0 b S w) (c : Cl S l N) (hl : l.length ≤ 100) (p : ByteArray) (q : B) (hq : p.toList = q) (hk : look l q = none) :
    Calls Tryd.prog 8 #[ptr b, .string p] w fun e w' => e = .returned (.tuple #[.agg zstat, .int .i64 5]) ∧ Ext w w' := by
  obtain ⟨V, L, r, e, lb⟩ := h
  subst hq
  exact stat_none b S V L p w r (by rw [c.nm]; omega) (by rw [c.nm]; exact hk)
theorem read_h {w0 w : World} {b : Nat} {S : SV} {l : List Nm} {N : Int} (h : Held w0 b S w) (c : Cl S l N) (hl : l.length ≤ 100) (p : ByteArray) (q : B) (hq : p.toList = q) (a : Nat) (hf : S.file q = (some a, 0)) :
    Calls Tryd.prog 7 #[ptr b, .string p] w fun e w' => ∃ v, e = .returned (.tuple #[v, .int .i64 0]) ∧ Row w' 5 1 v (S.nd a).now.length (bts (S.nd a).now) ∧ Ext w w' := by
  obtain ⟨V, L, r, e, lb⟩ := h
  subst hq
  exact (read_ok b S V L p a w r (by rw [c.nm]; omega) hf).mono fun e' w' ⟨v, h1, h2, h3, _⟩ => ⟨v, h1, h2, h3⟩
theorem remove_h {w0 w : World} {b : Nat} {S : SV} {l : List Nm} {N : Int} (h : Held w0 b S w) (c : Cl S l N) (hN : N ≤ 900) (h0 : 0 < l.length) (hl : l.length ≤ 100) (p : ByteArray) (hv : valid p.toList = true) (hr : 2 ≤ (rung l p.toList).length) :
    Calls Tryd.prog 23 #[ptr b, .string p] w fun e w' => e = .returned (.int .i64 12) ∧ Ext w0 w' := by
  obtain ⟨V, L, r, e, lb⟩ := h
  obtain ⟨g, cap, hvn, _, _⟩ := names_own r (by rw [c.nm]; exact h0)
  exact (remove_held b g cap S V L p w r (c.fit (by omega) hl) hvn (c.begE _ hv) (by rw [c.nm]; exact hr)).mono fun e' w' ⟨h1, h2, h3⟩ => ⟨h1, (own_step e lb h3).1⟩
end Go.Proofs.YtbneedmfpldpfaaDoor

namespace Go.Proofs.YtbneedmfpldpfaaDoor
open Go.RowKit Go.Pth
set_option linter.unusedSimpArgs false
set_option linter.unusedVariables false

def bD : ByteArray := ⟨#[100]⟩
theorem tD : bD.toList = nD := ByteArray.toList_mk _
theorem rung3_pre {l : List Nm} {a e f : Nat} (hr : rung l nD = [(nD, a), (nE, e), (nF, f)]) : ∀ p ∈ rung l bD.toList, bD.size ≤ p.1.length ∧ p.1.length ≤ 1000000 := by
  rw [tD, hr]
  have hb : bD.size = 1 := rfl
  intro p hp
  simp only [List.mem_cons, List.not_mem_nil, or_false] at hp
  rcases hp with rfl | rfl | rfl <;> simp [nD, nE, nF, hb]
/-- Refused: all stays. -/
theorem rename_c {w0 w : World} {b : Nat} {S : SV} {l : List Nm} {N : Int} {a e f : Nat} {U : Nat → Prop} (h : HeldU w0 b S U w) (c : Cl S l N) (hN : N ≤ 900) (h0 : 0 < l.length) (hl : l.length ≤ 100) (t : ByteArray) (ht : t.size ≤ 1000000) (hr : rung l nD = [(nD, a), (nE, e), (nF, f)]) (n : Int) (hn : renE S nD t.toList = n) (hn0 : n ≠ 0) :
    Calls Tryd.prog 20 #[ptr b, .string bD, .string t] w fun e w' => e = .returned (.int .i64 n) ∧ Held w0 b S.beg w' ∧ ∀ i, U i → w'.heap[i]? = w.heap[i]? := by
  obtain ⟨V, L, r, ex, lb, hU⟩ := h
  obtain ⟨g, cap, hvn, _, _⟩ := names_own r (by rw [c.nm]; exact h0)
  have hR := rename_any b g cap S S V L bD t w r (c.fit (by omega) hl) hvn (by rw [c.nm]; exact rung3_pre hr) ht (fun h0 => absurd (by rw [← hn, ← tD]; exact h0) hn0)
  rw [tD, hn] at hR
  exact hR.mono fun e' w' ⟨h1, h2, _⟩ => ⟨h1, Held.step ex lb (h2 hn0).1 (h2 hn0).2, kept_of (h2 hn0).2 hU⟩
theorem renE_ok {S : SV} {a e f x : Nat} {N : Int} {t : B} (c : Cl S (n4 a e f x) N) (hf : kinds S f = 1) (hx : kinds S x = 1) (h : renE S nD t = 0) : Mv t := by
  unfold renE at h
  have hbe : S.begE [nD, t] = if valid t = true then 0 else 1 := by
    unfold SV.begE
    rw [beg_power0 c.pw]
    have hv : valid nD = true := by decide
    simp [hv]
  rw [hbe] at h
  by_cases hv : valid t = true
  · rw [if_pos hv, if_neg (by simp)] at h
    rw [c.nm, n4_rung] at h
    rw [if_neg (by simp)] at h
    by_cases hu : (t == nD || under t nD) = true
    · rw [if_pos hu] at h; simp at h
    · rw [if_neg hu] at h
      by_cases htk : takes (n4 a e f x) (kinds S) t = 0
      · rw [if_neg (by simp [htk])] at h
        by_cases hm : mvOk (n4 a e f x) nD t = true
        · have hu1 : under t nD = false := by
            cases hh : under t nD with
            | false => rfl
            | true => exact absurd (by simp [hh]) hu
          have hnd : t ≠ nD := fun hh => hu (by simp [hh])
          obtain ⟨hp, hnx⟩ := takes_alone hv hu1 hf hx htk
          unfold mvOk at hm
          rw [n4_mvd] at hm
          simp only [List.all_cons, List.all_nil, Bool.and_true, Bool.and_eq_true] at hm
          exact ⟨hv, hm.2.1, hm.2.2, alone hv hp, hnx, hnd⟩
        · rw [if_neg hm] at h; simp at h
      · rw [if_pos htk] at h; exact absurd h htk
  · rw [if_neg hv, if_pos (by simp)] at h
    simp at h
/-- Done. -/
def SV.moved (S : SV) (t : B) (a e f x : Nat) : SV := { S.beg with names := mvl (n4 a e f x) nD t (place [(nX, x)] t), acts := S.beg.acts ++ [⟨nD, t, none⟩] }
theorem rename_d {w0 w : World} {b : Nat} {S : SV} {N : Int} {a e f x : Nat} {U : Nat → Prop} (h : HeldU w0 b S U w) (c : Cl S (n4 a e f x) N) (hN : N ≤ 900) (t : ByteArray) (ht : t.size ≤ 1000000) (hf : kinds S f = 1) (hx : kinds S x = 1) (hn : renE S nD t.toList = 0) :
    Calls Tryd.prog 20 #[ptr b, .string bD, .string t] w fun e' w' => e' = .returned (.int .i64 0) ∧ Held w0 b (S.moved t.toList a e f x) w' ∧ ∀ i, U i → w'.heap[i]? = w.heap[i]? := by
  obtain ⟨V, L, r, ex, lb, hU⟩ := h
  have hlen : S.names.length = 4 := by rw [c.nm]; rfl
  obtain ⟨g, cap, hvn, hcap, hgo⟩ := names_own r (by rw [hlen]; omega)
  have hM := renE_ok c hf hx hn
  have D := done4 a e f x t.toList hM
  have hbn : S.beg.names = n4 a e f x := by rw [(beg_same S).1, c.nm]
  have hR := rename_any b g cap S (S.moved t.toList a e f x) V L bD t w r (c.fit (by omega) (by simp [n4])) hvn (by rw [c.nm]; exact rung3_pre (n4_rung a e f x)) ht (fun _ w' hr => by
    have hvn' : V.n = .slice (some ⟨g, 0, none⟩) S.beg.names.length cap := by rw [hvn, (beg_same S).1]
    have cb := c.beg
    have h1 := change_moved b g cap (place [(nX, x)] t.toList) S.beg V L bD t w' hr (by have := cb.ac; omega) hvn' (by rw [tD]; decide) (by
        have := valid_ne hM.vt
        simpa using this) (fun w2 hr2 => by
      have hl4 : S.beg.names.length = 4 := by rw [hbn]; rfl
      refine steps_any b 2 g cap (place [(nX, x)] t.toList) (scells S.beg V) 68 S.beg.names bD t w2 hr2.cell ?_ ?_ ?_ hr2.sn (by rw [hl4]; omega) ?_ ?_ ?_ ht ?_ ?_
      · rw [← hvn']; rfl
      · rw [← hvn']; exact hr2.nm
      · intro hbg
        have h3 := hr2.ln g hgo
        rw [← hbg, hr2.lb] at h3
        cases h3
      · rw [hbn, tD, n4_rung]; simp
      · rw [hbn, tD, n4_rung, n4_place]; simp only [List.length_cons, List.length_nil]; omega
      · rw [hbn]; exact rung3_pre (n4_rung a e f x)
      · rw [hbn, tD, n4_rest]; simp [Srt]
      · simp only [hbn, tD, n4_rest, n4_mvd]; rfl) (by rw [hbn, tD]; exact D.srt) (by
      rw [hbn, tD]
      intro p hp
      have hid : ∀ q ∈ n4 a e f x, q.2 ∈ S.beg.ids := fun q hq => hr.rn q (by rw [hbn]; exact hq)
      rcases D.mem p hp with h | h | h | h <;> rw [h]
      · exact hid (nD, a) (by simp [n4])
      · exact hid (nE, e) (by simp [n4])
      · exact hid (nF, f) (by simp [n4])
      · exact hid (nX, x) (by simp [n4]))
    rw [hbn, tD] at h1
    exact h1)
  rw [tD, hn] at hR
  exact hR.mono fun e' w' ⟨h1, _, h3⟩ => by
    obtain ⟨V', L', r', t'⟩ := h3 rfl
    exact ⟨h1, Held.step ex lb r' t', kept_of t' hU⟩
end Go.Proofs.YtbneedmfpldpfaaDoor

namespace Go.Proofs.YtbneedmfpldpfaaDoor
open Go.RowKit Go.Pth
set_option linter.unusedSimpArgs false
set_option linter.unusedVariables false

def SM1 (a : Nat) : SV := (SV.new 1048576).beg.made a nD 2
def SM2 (a e : Nat) : SV := (SM1 a).beg.made e nE 2
def SM3 (a e f : Nat) : SV := (SM2 a e).beg.made f nF 1
def SM4 (a e f : Nat) (d : List Int) : SV := (SM3 a e f).beg.wrote f 0 d
def SM5 (a e f x : Nat) (d : List Int) : SV := (SM4 a e f d).beg.made x nX 1
def SM6 (a e f x y : Nat) (d : List Int) : SV := (SM5 a e f x d).beg.made y nY 1
theorem nd_made (S : SV) (a : Nat) (p : B) (k : Int) (i : Nat) : (S.beg.made a p k).nd i = if i = a then newN k (S.clock + 1) else S.nd i := by
  unfold SV.made
  simp only [(beg_same S).2.1, (beg_same S).2.2.2.1, upd]
theorem nd_wrote (S : SV) (a off : Nat) (x : List Int) (i : Nat) : (S.beg.wrote a off x).nd i = if i = a then { (S.nd a).write off x with stamp := S.clock + 1 } else S.nd i := by
  unfold SV.wrote
  simp only [(beg_same S).2.1, (beg_same S).2.2.2.1, upd]
theorem ids_made (S : SV) (a : Nat) (p : B) (k : Int) : (S.beg.made a p k).ids = a :: S.ids := by
  unfold SV.made
  simp only [(beg_same S).2.2.1]
theorem ids_wrote (S : SV) (a off : Nat) (x : List Int) : (S.beg.wrote a off x).ids = S.ids := by
  unfold SV.wrote
  simp only [(beg_same S).2.2.1]
theorem ids1 (a : Nat) : (SM1 a).ids = [a] := by unfold SM1; rw [ids_made]; rfl
theorem ids2 (a e : Nat) : (SM2 a e).ids = [e, a] := by unfold SM2; rw [ids_made, ids1]
theorem ids3 (a e f : Nat) : (SM3 a e f).ids = [f, e, a] := by unfold SM3; rw [ids_made, ids2]
theorem ids4 (a e f : Nat) (d : List Int) : (SM4 a e f d).ids = [f, e, a] := by unfold SM4; rw [ids_wrote, ids3]
theorem ids5 (a e f x : Nat) (d : List Int) : (SM5 a e f x d).ids = [x, f, e, a] := by unfold SM5; rw [ids_made, ids4]
theorem cl1 (a : Nat) : Cl (SM1 a) [(nD, a)] 2 := Cl.new.beg.made a nD 2
theorem cl2 (a e : Nat) : Cl (SM2 a e) [(nD, a), (nE, e)] 4 := (cl1 a).beg.made e nE 2
theorem cl3 (a e f : Nat) : Cl (SM3 a e f) [(nD, a), (nE, e), (nF, f)] 6 := (cl2 a e).beg.made f nF 1
theorem cl4 (a e f : Nat) (d : List Int) : Cl (SM4 a e f d) [(nD, a), (nE, e), (nF, f)] 8 := (cl3 a e f).beg.wrote f 0 d
theorem cl5 (a e f x : Nat) (d : List Int) : Cl (SM5 a e f x d) (n4 a e f x) 10 := (cl4 a e f d).beg.made x nX 1
theorem cl6 (a e f x y : Nat) (d : List Int) : Cl (SM6 a e f x y d) (n4 a e f x ++ [(nY, y)]) 12 := (cl5 a e f x d).beg.made y nY 1
theorem t1 (S : SV) : takes [] (kinds S) nD = 0 := takes_top rfl (by decide)
theorem t2 (a : Nat) : takes [(nD, a)] (kinds (SM1 a)) nE = 0 :=
  takes_up (l1 a).2.1 (by decide : parent nE = nD) (by decide) (l1 a).2.2 (by unfold kinds SM1; rw [nd_made, if_pos rfl]; rfl)
theorem t3 (a e : Nat) : takes [(nD, a), (nE, e)] (kinds (SM2 a e)) nF = 0 :=
  takes_up (l2 a e).2.1 (by decide : parent nF = nE) (by decide) (l2 a e).2.2 (by unfold kinds SM2; rw [nd_made, if_pos rfl]; rfl)
theorem t4 (a e f : Nat) (S : SV) : takes [(nD, a), (nE, e), (nF, f)] (kinds S) nX = 0 := takes_top (l3 a e f).2.1 (by decide)
theorem t5 (a e f x : Nat) (S : SV) : takes (n4 a e f x) (kinds S) nY = 0 := takes_top (l4 a e f x).2.1 (by decide)
theorem fl3 (a e f : Nat) : (SM3 a e f).file nF = (some f, 0) := by
  unfold SV.file
  rw [(cl3 a e f).nm, (l3 a e f).2.2]
  simp only
  rw [if_pos]
  unfold SM3; rw [nd_made, if_pos rfl]; rfl
theorem us3 (a e f : Nat) (h1 : e ≠ a) (h2 : f ≠ e) (h3 : f ≠ a) : used (SM3 a e f).nd [(nD, a), (nE, e), (nF, f)] = 0 := by
  have ha : (SM3 a e f).nd a = newN 2 ((SV.new 1048576).clock + 1) := by
    unfold SM3; rw [nd_made, if_neg (Ne.symm h3)]
    unfold SM2; rw [nd_made, if_neg (Ne.symm h1)]
    unfold SM1; rw [nd_made, if_pos rfl]
  have he : (SM3 a e f).nd e = newN 2 ((SM1 a).clock + 1) := by
    unfold SM3; rw [nd_made, if_neg (Ne.symm h2)]
    unfold SM2; rw [nd_made, if_pos rfl]
  have hf : (SM3 a e f).nd f = newN 1 ((SM2 a e).clock + 1) := by
    unfold SM3; rw [nd_made, if_pos rfl]
  simp [used, ha, he, hf, newN]
theorem written (k st : Int) (d : List Int) : ((newN k st).write 0 d).now = d ∧ ((newN k st).write 0 d).kind = k := by
  by_cases h : d = []
  · subst h
    unfold NV.write
    simp [newN]
  · rw [write_new k st d h]
    exact ⟨rfl, rfl⟩
theorem nf5 (a e f x : Nat) (d : List Int) (h : x ≠ f) : ((SM5 a e f x d).nd f).now = d ∧ kinds (SM5 a e f x d) f = 1 := by
  have : (SM5 a e f x d).nd f = { (newN 1 ((SM2 a e).clock + 1)).write 0 d with stamp := (SM3 a e f).clock + 1 } := by
    unfold SM5; rw [nd_made, if_neg (Ne.symm h)]
    unfold SM4; rw [nd_wrote, if_pos rfl]
    unfold SM3; rw [nd_made, if_pos rfl]
  obtain ⟨h1, h2⟩ := written 1 ((SM2 a e).clock + 1) d
  exact ⟨by rw [this]; exact h1, by unfold kinds; rw [this]; exact h2⟩
theorem nx5 (a e f x : Nat) (d : List Int) : kinds (SM5 a e f x d) x = 1 := by
  unfold kinds SM5; rw [nd_made, if_pos rfl]; rfl
theorem rung6 (a e f x y : Nat) : rung (n4 a e f x ++ [(nY, y)]) nD = [(nD, a), (nE, e), (nF, f)] := (l5 a e f x y).2.1
/-- What stands in the way is told. -/
theorem ren6 (a e f x y : Nat) (d : List Int) : renE (SM6 a e f x y d) nD nY = 6 := by
  have c := cl6 a e f x y d
  unfold renE
  have hbe : (SM6 a e f x y d).begE [nD, nY] = 0 := by
    unfold SV.begE
    rw [beg_power0 c.pw]
    have h1 : valid nD = true := by decide
    have h2 : valid nY = true := by decide
    simp [h1, h2]
  have htk : takes (n4 a e f x ++ [(nY, y)]) (kinds (SM6 a e f x y d)) nY = 6 := by
    unfold takes
    rw [(l5 a e f x y).1]
  have hu : (nY == nD || under nY nD) = false := by decide
  rw [hbe, c.nm, rung6, htk, hu]
  simp
theorem renSub {S : SV} {l : List Nm} {N : Int} {a e f : Nat} (c : Cl S l N) (hr : rung l nD = [(nD, a), (nE, e), (nF, f)]) (t : B) (hv : valid t = true) (hu : (t == nD || under t nD) = true) : renE S nD t = 1 := by
  unfold renE
  have hbe : S.begE [nD, t] = 0 := by
    unfold SV.begE
    rw [beg_power0 c.pw]
    have h1 : valid nD = true := by decide
    simp [h1, hv]
  rw [hbe, c.nm, hr, hu]
  simp
end Go.Proofs.YtbneedmfpldpfaaDoor
