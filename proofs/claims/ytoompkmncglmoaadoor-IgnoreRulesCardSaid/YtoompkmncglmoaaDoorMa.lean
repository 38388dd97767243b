/- Blocks, rows that grow, what changes. No conditions: definitions and lemmas. -/
import Derived.Test.YtoompkmncglmoaaDoorSp
import Derived.Deep.AppendSrc
import Derived.Lib.AppendZeros
import Derived.Lib.SliceRun
import Derived.Lib.Overlaps
namespace Go.Proofs
open Go.RowKit Go.Pth

/-- The block's cells in the heap. -/
def At (w : World) (b : Nat) (c : Array Value) (t : TypeId) : Prop := w.heap[b]? = some (.cells c t (0, 0))
theorem At.lt {w : World} {b : Nat} {c : Array Value} {t : TypeId} (h : At w b c t) : b < w.heap.size := by
  unfold At at h; exact (Array.getElem?_eq_some_iff.1 h).1
theorem At.cell {w : World} {b : Nat} {c : Array Value} {t : TypeId} (h : At w b c t) (j : Nat) : w.cell? ⟨b, j, none⟩ = c[j]? := by
  unfold At at h; simp [World.cell?, h]
theorem At.frozen {w : World} {b : Nat} {c : Array Value} {t : TypeId} (h : At w b c t) (j : Nat) : w.frozen? ⟨b, j, none⟩ = false := by
  unfold At at h; simp [World.frozen?, h]
theorem At.new (w : World) (c : Array Value) (t : TypeId) : At (w.alloc (.cells c t)) w.heap.size c t := by
  unfold At; exact heap_alloc_last w _
theorem At.set {w : World} {b : Nat} {c : Array Value} {t : TypeId} (h : At w b c t) (j : Nat) (v : Value) : At (w.setCell ⟨b, j, none⟩ v) b (c.setIfInBounds j v) t := by
  unfold At at *; simp [World.setCell, Array.getElem?_modify, h]
theorem At.keep {w w' : World} {b : Nat} {c : Array Value} {t : TypeId} (h : At w b c t) (e : w'.heap[b]? = w.heap[b]?) : At w' b c t := by
  unfold At at *; rw [e]; exact h
theorem At.ext {w w' : World} {b : Nat} {c : Array Value} {t : TypeId} (h : At w b c t) (e : Ext w w') : At w' b c t := h.keep (e.block b h.lt)
theorem size_alloc (w : World) (o : Obj) : (w.alloc o).heap.size = w.heap.size + 1 := by simp
theorem size_setCell (w : World) (a : Addr) (v : Value) : (w.setCell a v).heap.size = w.heap.size := by simp [World.setCell]
theorem At.sets {b : Nat} {t : TypeId} : ∀ (vs : List Value) (o : Nat) (w : World) (c : Array Value), At w b c t → o + vs.length ≤ c.size → At (w.setCells b o vs) b (c.toList.take o ++ vs ++ c.toList.drop (o + vs.length)).toArray t
  | [], o, w, c, h, _ => by simpa [World.setCells] using h
  | v :: r, o, w, c, h, hl => by
    simp only [List.length_cons] at hl
    have := At.sets r (o + 1) _ _ (h.set o v) (by simp; omega)
    rw [World.setCells]
    have e : (List.take (o + 1) (c.setIfInBounds o v).toList ++ r ++ List.drop (o + 1 + r.length) (c.setIfInBounds o v).toList).toArray = (List.take o c.toList ++ v :: r ++ List.drop (o + (v :: r).length) c.toList).toArray := by
      congr 1
      simp only [Array.toList_setIfInBounds, List.length_cons]
      rw [List.take_set, List.drop_set_of_lt (by omega)]
      have h3 : o < c.toList.length := by simp; omega
      rw [List.take_succ_eq_append_getElem h3, List.set_append_right _ _ (by simp; omega)]
      simp only [List.length_take, Nat.min_eq_left (Nat.le_of_lt h3), Nat.sub_self, List.set_cons_zero, List.append_assoc, List.singleton_append]
      rw [show o + 1 + r.length = o + (r.length + 1) by omega]
    rw [← e]; exact this

/-- What changes: nothing of what lay there but the blocks told. -/
structure Chg (X : Nat → Prop) (w w' : World) : Prop where
  os : w'.os = w.os
  tape : w'.tape = w.tape
  output : w'.output = w.output
  size : w.heap.size ≤ w'.heap.size
  block : ∀ i, i < w.heap.size → ¬ X i → w'.heap[i]? = w.heap[i]?
theorem Chg.refl (X : Nat → Prop) (w : World) : Chg X w w := ⟨rfl, rfl, rfl, Nat.le_refl _, fun _ _ _ => rfl⟩
theorem Chg.of_ext {X : Nat → Prop} {w w' : World} (h : Ext w w') : Chg X w w' := ⟨h.os, h.tape, h.output, h.size, fun i hi _ => h.block i hi⟩
theorem Chg.ext {w w' : World} (h : Chg (fun _ => False) w w') : Ext w w' := ⟨h.os, h.tape, h.output, h.size, fun i hi => h.block i hi id⟩
theorem Chg.mono {X Y : Nat → Prop} {w w' : World} (h : Chg X w w') (hxy : ∀ i, i < w.heap.size → X i → Y i) : Chg Y w w' := ⟨h.os, h.tape, h.output, h.size, fun i hi hn => h.block i hi fun hx => hn (hxy i hi hx)⟩
theorem Chg.trans {X Y : Nat → Prop} {a b c : World} (h : Chg X a b) (k : Chg Y b c) (hy : ∀ i, i < a.heap.size → Y i → X i) : Chg X a c :=
  ⟨k.os.trans h.os, k.tape.trans h.tape, k.output.trans h.output, Nat.le_trans h.size k.size, fun i hi hn => (k.block i (Nat.lt_of_lt_of_le hi h.size) fun hx => hn (hy i hi hx)).trans (h.block i hi hn)⟩
theorem Chg.of_grown {w w' : World} {row : Option Nat} (h : w.grownBy w' row) : Chg (fun i => row = some i) w w' := ⟨h.os, h.tape, h.output, h.size, fun i hi hn => h.block i hi fun e => hn e.symm⟩
theorem Chg.setCell (w : World) (b j : Nat) (v : Value) : Chg (fun i => i = b) w (w.setCell ⟨b, j, none⟩ v) :=
  ⟨rfl, rfl, rfl, by rw [size_setCell]; exact Nat.le_refl _, fun i _ hn => Below.heap_setCell _ _ _ _ (by simpa using hn)⟩
theorem Chg.sets (b : Nat) : ∀ (vs : List Value) (o : Nat) (w : World), Chg (fun i => i = b) w (w.setCells b o vs)
  | [], _, w => Chg.refl _ w
  | v :: r, o, w => (Chg.setCell w b o v).trans (Chg.sets b r (o + 1) _) fun _ _ h => h
theorem Chg.at {X : Nat → Prop} {w w' : World} (h : Chg X w w') {b : Nat} {c : Array Value} {t : TypeId} (ha : At w b c t) (hn : ¬ X b) : At w' b c t := ha.keep (h.block b ha.lt hn)
theorem Chg.cell {X : Nat → Prop} {w w' : World} (h : Chg X w w') {p : Addr} {v : Value} (hp : w.cell? p = some v) (hn : ¬ X p.block) : w'.cell? p = some v :=
  (World.cell?_of_block (h.block p.block (World.block_lt_of_cell? w p hp) hn)).trans hp

/-- A row of cells, k an element, that may grow. -/
abbrev Row (w : World) (e : TypeId) (k : Nat) (v : Value) (n : Nat) (xs : List Value) : Prop := w.ownsRow 0 e k v n xs
theorem Row.keep {w w' : World} {e : TypeId} {k : Nat} {v : Value} {n : Nat} {xs : List Value} (h : Row w e k v n xs) (hb : ∀ g, v.ownBlock = some g → w'.heap[g]? = w.heap[g]?) : Row w' e k v n xs := by
  refine ⟨h.1, ?_⟩
  rcases h.2 with hn | ⟨g, cap, cur, rfl, hb0, hgg, rest⟩
  · exact .inl hn
  · exact .inr ⟨g, cap, cur, rfl, hb0, by rw [hb g rfl]; exact hgg, rest⟩
theorem Row.lt {w : World} {e : TypeId} {k : Nat} {v : Value} {n : Nat} {xs : List Value} (h : Row w e k v n xs) (g : Nat) (hg : v.ownBlock = some g) : g < w.heap.size := (World.ownsRow.lt h g hg).2
theorem Row.ext {w w' : World} {e : TypeId} {k : Nat} {v : Value} {n : Nat} {xs : List Value} (h : Row w e k v n xs) (he : Ext w w') : Row w' e k v n xs := h.keep fun g hg => he.block g (h.lt g hg)
theorem Row.chg {X : Nat → Prop} {w w' : World} {e : TypeId} {k : Nat} {v : Value} {n : Nat} {xs : List Value} (h : Row w e k v n xs) (hc : Chg X w w') (hn : ∀ g, v.ownBlock = some g → ¬ X g) : Row w' e k v n xs := h.keep fun g hg => hc.block g (h.lt g hg) (hn g hg)
theorem Row.shape {w : World} {e : TypeId} {k : Nat} {v : Value} {n : Nat} {xs : List Value} (h : Row w e k v n xs) : ∃ ad cap, v = .slice ad n cap ∧ n ≤ cap ∧ cap ≤ maxLen ∧ (ad = none → n = 0 ∧ cap = 0) ∧ (∀ p, ad = some p → ∃ g, p = ⟨g, 0, none⟩ ∧ v.ownBlock = some g) := by
  rcases h.2 with ⟨rfl, rfl⟩ | ⟨g, cap, cur, rfl, _, _, h1, h2, _⟩
  · exact ⟨none, 0, rfl, Nat.le_refl _, Nat.zero_le _, fun _ => ⟨rfl, rfl⟩, fun p hp => by cases hp⟩
  · exact ⟨_, cap, rfl, h1, h2, fun hp => by (cases hp), fun p hp => ⟨g, by injection hp with hp; exact hp.symm, rfl⟩⟩
/-- Grown: in its own block, or in a new one. -/
structure Grew (w w' : World) (v v' : Value) : Prop where
  chg : Chg (fun i => v.ownBlock = some i) w w'
  own : v'.ownBlock = v.ownBlock ∨ ∃ g, v'.ownBlock = some g ∧ w.heap.size ≤ g

section
variable {P : Program}
theorem row_grown {w : World} {e : TypeId} {i : TypeInfo} {z : Value} (hzs : z.cells.size = i.size) {n m old : Nat} {xs news : List Value} (hl1 : xs.length = n * i.size) (hl2 : news.length = m * i.size) (h63 : n + m ≤ maxLen) :
    Row (w.drew.alloc (.cells ((xs ++ news).toArray ++ Builtin.zeroCells z.cells (grownCap w (n + m) old e - (n + m))) e)) e i.size (.slice (some ⟨w.heap.size, 0, none⟩) (n + m) (grownCap w (n + m) old e)) (n + m) (xs ++ news) := by
  have hlen : (xs ++ news).length = (n + m) * i.size := by rw [List.length_append, hl1, hl2, Nat.add_mul]
  have hge := grownCap_ge w (n + m) old e
  refine ⟨hlen, .inr ⟨w.heap.size, _, _, rfl, Nat.zero_le _, heap_alloc_new w.drew _, hge, grownCap_le_maxLen w (n + m) old e h63, ?_, ?_⟩⟩
  · rw [Array.size_append, List.size_toArray, size_zeroCells, hzs, hlen, ← Nat.add_mul]
    congr 1; omega
  · simp only [Array.toList_append]
    rw [← hlen]; exact List.take_left
theorem grew_new {w : World} {o : Obj} {v v' : Value} (h : v'.ownBlock = some w.heap.size) : Grew w (w.drew.alloc o) v v' :=
  ⟨Chg.of_ext (by exact (Ext.drew w).trans (Ext.alloc _ _)), Or.inr ⟨_, h, Nat.le_refl _⟩⟩
theorem row_in {w : World} {e : TypeId} {k g n m cap : Nat} {cur : Array Value} {xs news : List Value} (hl1 : xs.length = n * k) (hl2 : news.length = m * k) (hg : At w g cur e) (hroom : n + m ≤ cap) (hcm : cap ≤ maxLen) (hcs : cur.size = cap * k) (htake : cur.toList.take (n * k) = xs) :
    Row (w.setCells g (0 + n * k) news) e k (.slice (some ⟨g, 0, none⟩) (n + m) cap) (n + m) (xs ++ news) := by
  have hfit : n * k + news.length ≤ cur.size := by rw [hl2, hcs, ← Nat.add_mul]; exact Nat.mul_le_mul_right _ hroom
  have hlen : (xs ++ news).length = (n + m) * k := by rw [List.length_append, hl1, hl2, Nat.add_mul]
  rw [Nat.zero_add]
  refine ⟨hlen, .inr ⟨g, cap, _, rfl, Nat.zero_le _, At.sets news (n * k) w cur hg hfit, hroom, hcm, ?_, ?_⟩⟩
  · simp only [List.size_toArray, List.length_append, List.length_take, List.length_drop, Array.length_toList]; omega
  · rw [htake, ← hlen]; exact List.take_left

/-- append of what is told, to a row. -/
theorem run_append_row (w : World) (t tx ty e : TypeId) (i : TypeInfo) (z : Value) (ht : P.underlying t = some (.slice e)) (hi : P.info? e = some i) (hz : i.zero = some z) (hzs : z.cells.size = i.size)
    (v : Value) (n : Nat) (xs : List Value) (hown : Row w e i.size v n xs) (x : Value) (m : Nat) (news : List Value) (hs : Src P i.size tx x m news w) (h63 : n + m ≤ maxLen) (hbytes : (n + m) * i.bytes ≤ 140737488355328) :
    ∃ v' w', (Builtin.append_ #[t, tx] ty #[v, x]).run P w = .ok v' w' ∧ Row w' e i.size v' (n + m) (xs ++ news) ∧ Grew w w' v v' := by
  have hsmall : ((n + m : Nat) : Int) ≤ 9223372036854775807 := by simp only [maxLen] at h63; omega
  rcases hown.2 with ⟨rfl, rfl⟩ | ⟨g, cap, cur, rfl, hbg, hg, hnc, hcm, hcs, htake⟩
  · have hx : xs = [] := List.eq_nil_of_length_eq_zero (by simpa using hown.1)
    subst hx
    by_cases hm : m = 0
    · subst hm
      have hn : news = [] := List.eq_nil_of_length_eq_zero (by simpa using hs.newsLen)
      subst hn
      refine ⟨.slice none 0 0, w, ?_, World.ownsRow_nil w 0 e i.size, Chg.refl _ w, Or.inl rfl⟩
      rcases hs.kind with ⟨e', hk⟩ | hk <;> simp [Builtin.append_, run_underlying ht, run_underlying hk, sizeOf, typeInfo, hi, hs.len, hs.cells]
    · have hr := run_append_grow_src (P := P) w t tx ty e i z ht hi hz none 0 0 [] (run_firstCells_none w.drew i.size 0 0 0) x m news hs (by omega) hsmall (growslice_fits (by omega) hbytes)
      exact ⟨_, _, hr, row_grown hzs (by simp) hs.newsLen h63, grew_new rfl⟩
  · by_cases hroom : n + m ≤ cap
    · have hat : At w g cur e := hg
      have hfit : n * i.size + news.length ≤ cur.size := by rw [hs.newsLen, hcs, ← Nat.add_mul]; exact Nat.mul_le_mul_right _ hroom
      have hr := run_append_room_src (P := P) w t tx ty e i ht hi g 0 n cap x m news hs hroom (fun j hj => by rw [hat.cell, Array.getElem?_eq_getElem (by omega)]; rfl) (fun j hj => hat.frozen _)
      refine ⟨_, _, hr, row_in hown.1 hs.newsLen hat hroom hcm hcs htake, (Chg.sets g news _ w).mono fun i _ h => by rw [h]; rfl, Or.inl rfl⟩
    · have holds : ∀ j u, xs[j]? = some u → w.cell? ((⟨g, 0, none⟩ : Addr).add j) = some u := hown.cells (g := g) rfl
      have hr := run_append_grow_src (P := P) w t tx ty e i z ht hi hz (some ⟨g, 0, none⟩) n cap xs (run_firstCells_some w.drew i.size n ⟨g, 0, none⟩ n cap xs hown.1 (by simpa using holds)) x m news hs (by omega) hsmall (growslice_fits (by omega) hbytes)
      exact ⟨_, _, hr, row_grown hzs hown.1 hs.newsLen h63, grew_new rfl⟩

/-- append of as many zeros as are told. -/
theorem run_append_zeros (w : World) (t tn ty e : TypeId) (kn : IntKind) (i : TypeInfo) (z : Value) (ht : P.underlying t = some (.slice e)) (htn : P.underlying tn = some (.int kn)) (hi : P.info? e = some i) (hz : i.zero = some z) (hzs : z.cells.size = i.size) (hsz : 0 < i.size) (hone : ∀ u ∈ z.cells.toList, u.oneCell' = true)
    (v : Value) (n : Nat) (xs : List Value) (hown : Row w e i.size v n xs) (m : Nat) (h0 : 0 < m) (h63 : n + m ≤ maxLen) (hbytes : (n + m) * i.bytes ≤ 140737488355328) :
    ∃ v' w', (Builtin.append_ #[t, tn] ty #[v, .int .i64 m]).run P w = .ok v' w' ∧ Row w' e i.size v' (n + m) (xs ++ (Builtin.zeroCells z.cells m).toList) ∧ Grew w w' v v' := by
  have hsmall : ((n + m : Nat) : Int) ≤ 9223372036854775807 := by simp only [maxLen] at h63; omega
  have hw : IntKind.i64.wrap (m : Int) = m := by rw [IntKind.wrap_i64]; omega
  have hneg : ¬ ((m : Int) < 0) := by omega
  have hb1 : m * i.bytes ≤ 140737488355328 := Nat.le_trans (Nat.mul_le_mul_right _ (by omega)) hbytes
  have h48i : ¬ (281474976710656 < (m : Int) * (i.bytes : Int)) := by rw [← Int.natCast_mul]; omega
  have hm0 : m ≠ 0 := by omega
  have hns : ¬ (m * i.size = 0) := Nat.mul_ne_zero hm0 (by omega)
  have hnl : (Builtin.zeroCells z.cells m).toList.length = m * i.size := by rw [Array.length_toList, size_zeroCells, hzs]
  have hone' : ∀ u ∈ (Builtin.zeroCells z.cells m).toList, u.oneCell' = true := by
    intro u hu
    have : u ∈ Builtin.zeroCells z.cells m := by simpa using hu
    obtain ⟨j, hj, rfl⟩ := Array.mem_iff_getElem.1 this
    simp only [Builtin.zeroCells]
    exact hone _ (by
      have : j % z.cells.size < z.cells.size := Nat.mod_lt _ (by omega)
      simp [this])
  have h63' : ¬ (9223372036854775807 < ((n : Int) + (m : Int))) := by omega
  rcases hown.2 with ⟨rfl, rfl⟩ | ⟨g, cap, cur, rfl, hbg, hg, hnc, hcm, hcs, htake⟩
  · have hx : xs = [] := List.eq_nil_of_length_eq_zero (by simpa using hown.1)
    subst hx
    have hr := Lib.run_append_nil_zeros (P := P) w t tn ty e i z .i64 kn ht htn hi hz m h0 hsz (by omega) (by omega)
    have hrow := row_grown (w := w) (e := e) (i := i) (old := 0) hzs (n := 0) (m := m) (xs := []) (by simp) hnl (by omega)
    simp only [Nat.zero_add, List.nil_append, Array.toArray_toList] at hrow ⊢
    exact ⟨_, _, hr, hrow, grew_new rfl⟩
  · by_cases hroom : n + m ≤ cap
    · have hat : At w g cur e := hg
      have hfit : n * i.size + (Builtin.zeroCells z.cells m).toList.length ≤ cur.size := by rw [hnl, hcs, ← Nat.add_mul]; exact Nat.mul_le_mul_right _ hroom
      have hst := run_storeCells_cells (P := P) g (0 + n * i.size) (Builtin.zeroCells z.cells m).toList 0 w (fun j hj => by rw [hat.cell, Array.getElem?_eq_getElem (by omega)]; rfl) (fun j hj => hat.frozen _) hone'
      simp only [Nat.add_zero] at hst
      refine ⟨_, _, ?_, row_in hown.1 hnl hat hroom hcm hcs htake, (Chg.sets g _ _ w).mono fun i _ h => by rw [h]; rfl, Or.inl rfl⟩
      simp [Builtin.append_, run_underlying ht, run_underlying htn, sizeOf, typeInfo, zeroValue, hi, hz, asInt, asIntOf, hw, hns, hneg, h48i, hroom, Addr.add_lit]
      rw [Nat.zero_add] at hst
      simp [hst]
    · have hfit := growslice_fits (need := n + m) (old := cap) (bytes := i.bytes) (by omega) hbytes
      have h48' : ¬ (281474976710656 < Builtin.nextslicecap (n + m) cap * i.bytes) := by omega
      have holds : ∀ j u, xs[j]? = some u → w.cell? ((⟨g, 0, none⟩ : Addr).add j) = some u := hown.cells (g := g) rfl
      have hold := run_firstCells_some (P := P) w.drew i.size n ⟨g, 0, none⟩ n cap xs hown.1 (by simpa using holds)
      have hrow := row_grown (w := w) (e := e) (i := i) (old := cap) hzs (n := n) (m := m) (xs := xs) hown.1 hnl (by omega)
      refine ⟨_, _, ?_, hrow, grew_new rfl⟩
      simp [Builtin.append_, run_underlying ht, run_underlying htn, sizeOf, typeInfo, zeroValue, hi, hz, asInt, asIntOf, hw, hns, hneg, h48i, hroom, h63', h48', Question.forced, hold, newRow, grownCap]
      congr 2
      apply Array.ext'
      simp [List.append_assoc]
end
end Go.Proofs
