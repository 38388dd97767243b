/- What is kept beside a file, as functions of lists of bytes. No conditions: definitions and lemmas. The contracts of addBlock, addGroup and Groups. The contracts of Leaves, above, copied, Root and Levels (the code's). The contract of Build (the code's). The contracts of fits, Update (the code's) and Lists. The contracts of above and copied (the code's). The contracts of copied, Root and Levels (the code's). The contracts of the sidecar's small functions and of Sound (the code's). The contracts of Lists and of what the document fixes. -/
import Derived.Test.YtblhipdcgdhmiaaDoorPu
import Derived.Test.YtblhipdcgdhmiaaDoorWr
import Derived.Deep.OwnRows
import Derived.BigQuiet
namespace Go.Sha
open Go.RowKit

/-- A sidecar. -/
structure Sd where
  size : Int
  block : Int
  k : Int
  root : List Int
  leaves : List (List Int)
  parity : List (List Int)
def mayL (z b k : Int) : Bool := decide (0 ≤ z) && decide (z ≤ 8192) && decide (16 ≤ b) && decide (b ≤ 4096) && decide (1 ≤ k) && decide (k ≤ 8)
theorem mayL_iff (z b k : Int) : mayL z b k = true ↔ 0 ≤ z ∧ z ≤ 8192 ∧ 16 ≤ b ∧ b ≤ 4096 ∧ 1 ≤ k ∧ k ≤ 8 := by
  simp [mayL, and_assoc]
def allS (l : List (List Int)) (size : Int) : Bool := l.all fun x => (x.length : Int) == size
def allL (l : List (List Int)) (n size : Int) : Bool := allS l size && ((l.length : Int) == n)
def soundL (s : Sd) : Bool := mayL s.size s.block s.k && allL s.leaves (cntL s.size s.block) 32 && allL s.parity (grpsN s.size s.block s.k) s.block && eqS s.root (rootL s.leaves)
def makeL (m : List Int) (b k : Int) : Sd := ⟨m.length, b, k, rootL (leavesL m b), leavesL m b, buildL m b k⟩
def noneL : Sd := ⟨0, 0, 0, [], [], []⟩
theorem eqS_self (m : List Int) : eqS m m = true := by simp [eqS]

theorem leavesL_length (m : List Int) (b : Int) : ((leavesL m b).length : Int) = cntL m.length b := by
  have h : 0 ≤ cntL m.length b := by
    unfold cntL
    split
    · omega
    · exact Int.ediv_nonneg (by omega) (by omega)
  simp [leavesL]; omega
theorem leavesL_all (m : List Int) (b : Int) : ∀ x ∈ leavesL m b, x.length = 32 := by
  intro x hx
  unfold leavesL at hx
  obtain ⟨k, _, rfl⟩ := List.mem_map.1 hx
  exact leafL_length _
theorem sound_make (m : List Int) (b k : Int) (h : mayL m.length b k = true) : soundL (makeL m b k) = true := by
  have hm := (mayL_iff _ _ _).1 h
  unfold soundL makeL allL allS
  simp only [h, eqS_self, Bool.true_and, Bool.and_true, Bool.and_eq_true, List.all_eq_true, beq_iff_eq]
  refine ⟨⟨fun x hx => by rw [leavesL_all m b x hx]; rfl, leavesL_length m b⟩, fun x hx => ?_, ?_⟩
  · unfold buildL at hx
    obtain ⟨g, _, rfl⟩ := List.mem_map.1 hx
    rw [parL_length]; omega
  · have := buildL_length m b k
    have h0 := grpsN_nonneg m.length b k
    omega
/-- Few, where each is of so many bytes. -/
theorem allL_len {l : List (List Int)} {n s : Int} (h : allL l n s = true) : (l.length : Int) = n ∧ ∀ x ∈ l, (x.length : Int) = s := by
  unfold allL allS at h
  simp only [Bool.and_eq_true, List.all_eq_true, beq_iff_eq] at h
  exact ⟨h.2, h.1⟩
end Go.Sha

namespace Go.Proofs.YtblhipdcgdhmiaaDoor
open Go.RowKit Go.Sha

/-- A block that begins with these bytes, and may be written. -/
def Buf (w : World) (g : Nat) (s : List Int) : Prop := ∃ cur : Array Value, At w g cur 5 ∧ s.length ≤ cur.size ∧ ∀ j, j < s.length → cur[j]? = some (.int .u8 (s[j]?.getD 0))
theorem Buf.cell {w : World} {g : Nat} {s : List Int} (h : Buf w g s) (j : Nat) (hj : j < s.length) : w.cell? ⟨g, j, none⟩ = some (.int .u8 (s[j]?.getD 0)) := by
  obtain ⟨cur, a, _, c⟩ := h
  rw [a.cell]; exact c j hj
theorem Buf.frozen {w : World} {g : Nat} {s : List Int} (h : Buf w g s) (j : Nat) : w.frozen? ⟨g, j, none⟩ = false := by
  obtain ⟨cur, a, _⟩ := h
  exact a.frozen j
theorem Buf.lt {w : World} {g : Nat} {s : List Int} (h : Buf w g s) : g < w.heap.size := by
  obtain ⟨cur, a, _⟩ := h
  exact a.lt
theorem Buf.set {w : World} {g : Nat} {s : List Int} (h : Buf w g s) (j : Nat) (y : Int) (hj : j < s.length) : Buf (w.setCell ⟨g, j, none⟩ (.int .u8 y)) g (s.set j y) := by
  obtain ⟨cur, a, b, c⟩ := h
  refine ⟨_, a.set j (.int .u8 y), by simpa using b, fun i hi => ?_⟩
  rw [List.length_set] at hi
  by_cases e : i = j
  · subst e
    rw [Array.getElem?_setIfInBounds_self_of_lt (by omega)]
    rw [List.getElem?_set_self hi]; rfl
  · rw [Array.getElem?_setIfInBounds_ne (fun h => e h.symm), c i hi, List.getElem?_set_ne (fun h => e h.symm)]
theorem Buf.only {w w' : World} {g b : Nat} {s : List Int} (h : Buf w g s) (ho : Only b w w') (hb : g ≠ b) : Buf w' g s := by
  obtain ⟨cur, a, r⟩ := h
  exact ⟨cur, ho.at a hb, r⟩
theorem Buf.ext {w w' : World} {g : Nat} {s : List Int} (h : Buf w g s) (he : Ext w w') : Buf w' g s := by
  have hl := h.lt
  obtain ⟨cur, a, r⟩ := h
  exact ⟨cur, a.below he hl, r⟩
theorem Buf.src {w : World} {g : Nat} {s : List Int} (h : Buf w g s) (bh : Nat) (hb : g ≠ bh) (n cap : Nat) (hn : s.length = n) (hc : s.length ≤ cap) : Src w (.slice (some ⟨g, 0, none⟩) n cap) s bh := by
  subst hn
  exact ⟨_, cap, g, 0, rfl, hc, fun _ => rfl, hb, fun j hj => by rw [Nat.zero_add]; exact h.cell j hj, fun h => by cases h⟩
theorem Buf.new (w : World) (m : List Int) : Buf (w.alloc (.cells (bs m) 5)) w.heap.size m :=
  ⟨bs m, At.new w _ 5, by rw [bs_size]; omega, fun j hj => by rw [bs_get m j hj]; rfl⟩
theorem OwnB.buf {w : World} {base : Nat} {v : Value} {m : List Int} (h : OwnB w base v m) (h0 : 0 < m.length) : ∃ g cap, v = .slice (some ⟨g, 0, none⟩) m.length cap ∧ base ≤ g ∧ m.length ≤ cap ∧ Buf w g m := by
  obtain ⟨_, ⟨rfl, h1⟩ | ⟨g, cap, cur, rfl, hg, hw, hn, _, hs, hx⟩⟩ := h
  · omega
  · have hw' : At w g cur 5 := hw
    refine ⟨g, cap, rfl, hg, hn, cur, hw', ?_, fun j hj => ?_⟩
    · have := congrArg List.length hx
      simp at this
      omega
    · have e : cur.toList[j]? = (m.map (Value.int .u8))[j]? := by rw [← hx, List.getElem?_take_of_lt (by omega)]
      rw [← Array.getElem?_toList, e, List.getElem?_map, List.getElem?_eq_getElem hj]; rfl

/-- While a block is xored in. -/
def InvX1 (w : World) (g : Nat) (s o : List Int) (i : Value) (wr : World) : Prop := ∃ k : Nat, k ≤ o.length ∧ i = .int .i64 k ∧ Only g w wr ∧ Buf wr g (xorL s (o.take k))
def XPost (w : World) (g : Nat) (s : List Int) (e : Ending) (w' : World) : Prop := e = .returned (.tuple #[]) ∧ Only g w w' ∧ Buf w' g s

/-- While a group is xored in. -/
def InvX2 (w : World) (g : Nat) (s m : List Int) (B : Int) (K q : Nat) (i : Value) (wr : World) : Prop :=
  ∃ j : Nat, j ≤ K ∧ i = .int .i64 ((q * K + j : Nat) : Int) ∧ Only g w wr ∧ Buf wr g (grp s ((List.range j).map fun i => blockT m B ((q * K + i : Nat) : Int)))

end Go.Proofs.YtblhipdcgdhmiaaDoor

namespace Go.Proofs.YtblhipdcgdhmiaaDoor
open Go.RowKit Go.Sha

theorem u22zero : (Tryd.prog.info? 22).map (fun i => (i.zero, i.size, i.bytes)) = some (some (.slice none 0 0), 1, 24) := by kernel_rfl
theorem u25zero : (Tryd.prog.info? 88).map (fun i => (i.zero, i.size, i.bytes)) = some (some (.slice none 0 0), 1, 24) := by kernel_rfl
/-- A list in new memory. -/
def LPost (w : World) (ls : List (List Int)) (e : Ending) (w' : World) : Prop := ∃ v, e = .returned v ∧ Ext w w' ∧ ∀ bh, (bh < w.heap.size ∨ w'.heap.size ≤ bh) → LR w' v ls bh
def Old (w : World) : Nat → Prop := fun b => b < w.heap.size
/-- While a list is made. -/
def InvL (w : World) (ls : List (List Int)) (n : Nat) (l i : Value) (wr : World) : Prop :=
  ∃ (k : Nat) (ps : List (Value × List Int)), k ≤ n ∧ i = .int .i64 k ∧ ps.length = k ∧ ps.map (·.2) = ls.take k ∧ OwnL wr w.heap.size l ps (Old w) ∧ Ext w wr
theorem own_lpost {w wr : World} {ls : List (List Int)} {v : Value} {ps : List (Value × List Int)} (h : OwnL wr w.heap.size v ps (Old w)) (he : Ext w wr) (hp : ps.map (·.2) = ls) : LPost w ls (.returned v) wr :=
  ⟨v, rfl, he, fun bh hb => by rw [← hp]; exact h.lr bh (hb.imp_left fun h => ⟨h, h⟩)⟩
/-- Bytes just made may stand in a row that is older. -/
theorem new_src {w wr w2 : World} {v l : Value} {m : List Int} {ps : List (Value × List Int)} (o : OwnB w2 wr.heap.size v m) (h : OwnL wr w.heap.size l ps (Old w)) (he : Ext w wr) : ∀ bh, (Old w bh ∨ l.ownBlock = some bh ∨ w2.heap.size ≤ bh) → Src w2 v m bh := fun bh hb => by
  refine o.srcs bh ?_
  rcases hb with hb | hb | hb
  · exact Or.inl (Nat.lt_of_lt_of_le hb he.size)
  · exact Or.inl (h.block bh hb).2
  · exact Or.inr hb
/-- .. also when one more block was made for it. -/
theorem src_one_more {w : World} {v l x : Value} {m : List Int} {t : TypeId} {A : Nat → Prop} (h : ∀ bh, (A bh ∨ l.ownBlock = some bh ∨ w.heap.size ≤ bh) → Src w v m bh) : ∀ bh, (A bh ∨ l.ownBlock = some bh ∨ (w.alloc (.cells #[x] t)).heap.size ≤ bh) → Src (w.alloc (.cells #[x] t)) v m bh := fun bh hb =>
  (h bh (hb.imp_right (Or.imp_right fun h => by rw [size_alloc] at h; omega))).ext (Ext.alloc w _)

end Go.Proofs.YtblhipdcgdhmiaaDoor

namespace Go.Proofs.YtblhipdcgdhmiaaDoor
open Go.RowKit Go.Sha

theorem slzero : (Tryd.prog.info? 22).map (fun i => (i.zero, i.size, i.bytes)) = some (some (.slice none 0 0), 1, 24) := by kernel_rfl
theorem make_bytes (n : Nat) (hn : n ≤ 1048576) : ∀ w, (Instr.makeSlice 22 (.int .i64 (n : Int)) (.int .i64 (n : Int))).run Tryd.prog w = .ok (.slice (some ⟨w.heap.size, 0, none⟩) n n) (w.alloc (.cells (bs (List.replicate n 0)) 5)) := fun w => by
  have := run_make_row' (P := Tryd.prog) 22 5 (.int .u8 0) 1 Tryd.underlying22 u8zero rfl .i64 .i64 n (by omega) (by omega) w
  rw [made_bs] at this
  exact this

/-- A block just made may stand in a row that is older. -/
theorem buf_srcs {w wr w2 : World} {l : Value} {m : List Int} {ps : List (Value × List Int)} {n cap : Nat} (o : Buf w2 wr.heap.size m) (hn : m.length = n) (hc : n ≤ cap) (h : OwnL wr w.heap.size l ps (Old w)) (he : Ext w wr) : ∀ bh, (Old w bh ∨ l.ownBlock = some bh ∨ w2.heap.size ≤ bh) → Src w2 (.slice (some ⟨wr.heap.size, 0, none⟩) n cap) m bh := fun bh hb => by
  refine o.src bh ?_ n cap hn (by omega)
  rcases hb with hb | hb | hb
  · have h1 : bh < w.heap.size := hb
    have h2 := he.size
    omega
  · have := (h.block bh hb).2
    omega
  · have := o.lt
    omega
theorem take_next {ls : List (List Int)} {k : Nat} {x : List Int} (h : ls[k]? = some x) : ls.take k ++ [x] = ls.take (k + 1) := by
  rw [List.take_add_one, h]; rfl

end Go.Proofs.YtblhipdcgdhmiaaDoor

namespace Go.Proofs.YtblhipdcgdhmiaaDoor
open Go.RowKit Go.Sha
set_option linter.unusedSimpArgs false

theorem lr_at {w : World} {v : Value} {ls : List (List Int)} {bh : Nat} (h : LR w v ls bh) (h0 : 0 < ls.length) : ∃ cap pb po, v = .slice (some ⟨pb, po, none⟩) ls.length cap ∧ pb ≠ bh ∧ ∀ j m, ls[j]? = some m → ∃ x, w.cell? ⟨pb, po + j, none⟩ = some x ∧ Src w x m bh := by
  obtain ⟨ad, cap, pb, po, rfl, h1, h2, h3⟩ := h
  obtain rfl := h1 h0
  exact ⟨cap, pb, po, rfl, h2, h3⟩

/-- Has it the form of what Build makes? -/
def fitsL (par : List (List Int)) (size B K : Int) : Bool := !(grpsN 1 B K == 0) && ((par.length : Int) == grpsN size B K) && par.all fun x => (x.length : Int) == B
def InvF (w : World) (par : List (List Int)) (B : Int) (i : Value) (wr : World) : Prop := ∃ k : Nat, k ≤ par.length ∧ i = .int .i64 k ∧ w = wr ∧ (par.take k).all (fun x => (x.length : Int) == B) = true

/-- A list in new memory, and an error's number. -/
def UPost (w : World) (ls : List (List Int)) (err : Int) (e : Ending) (w' : World) : Prop := ∃ v, e = .returned (.tuple #[v, .int .i64 err]) ∧ Ext w w' ∧ ∀ bh, (bh < w.heap.size ∨ w'.heap.size ≤ bh) → LR w' v ls bh
theorem sz5b : (Tryd.prog.info? 5).map (·.size) = some 1 := by kernel_rfl
/-- A new block filled with bytes that lie elsewhere. -/
theorem copy_zeros (w : World) (g b : Nat) (m : List Int) (h : At w g (bs (List.replicate b 0)) 5) (hm : m.length = b) : Buf (w.setCells g 0 (m.map (Value.int .u8))) g m ∧ Only g w (w.setCells g 0 (m.map (Value.int .u8))) := by
  refine ⟨?_, Only.cells g _ 0 w⟩
  have := At.cells (t := 5) (m.map (Value.int .u8)) ((List.replicate b (0 : Int)).map (Value.int .u8)) 0 w h (by simp [hm])
  have e : splice ((List.replicate b (0 : Int)).map (Value.int .u8)) 0 (m.map (Value.int .u8)) = m.map (Value.int .u8) := by
    unfold splice
    simp [hm]
  rw [e] at this
  exact ⟨bs m, this, by rw [bs_size]; omega, fun j hj => by rw [bs_get m j hj]; rfl⟩

end Go.Proofs.YtblhipdcgdhmiaaDoor

namespace Go.Proofs.YtblhipdcgdhmiaaDoor
open Go.RowKit Go.Sha
set_option linter.unusedSimpArgs false

/-- While the next level is made. -/
def InvU (w : World) (A : Nat → Prop) (ls : List (List Int)) (l i : Value) (wr : World) : Prop :=
  ∃ (j : Nat) (ps : List (Value × List Int)), 2 * j ≤ ls.length + 1 ∧ i = .int .i64 ((2 * j : Nat) : Int) ∧ ps.length ≤ j ∧ ps.map (·.2) = upL (ls.take (2 * j)) ∧ OwnL wr w.heap.size l ps A ∧ Ext w wr
theorem lr_get {w : World} {v : Value} {ls : List (List Int)} {bh : Nat} (h : LR w v ls bh) (h0 : 0 < ls.length) : ∃ cap pb po, v = .slice (some ⟨pb, po, none⟩) ls.length cap ∧ pb ≠ bh ∧ ∀ j m, ls[j]? = some m → ∃ x, w.cell? ⟨pb, po + j, none⟩ = some x ∧ Src w x m bh := by
  obtain ⟨ad, cap, pb, po, rfl, h1, h2, h3⟩ := h
  obtain rfl := h1 h0
  exact ⟨cap, pb, po, rfl, h2, h3⟩

end Go.Proofs.YtblhipdcgdhmiaaDoor

namespace Go.Proofs.YtblhipdcgdhmiaaDoor
open Go.RowKit Go.Sha
set_option linter.unusedSimpArgs false

/-- The level at hand, while one goes up. -/
structure Cur (w : World) (top : List (List Int)) (l : Value) (cur : List (List Int)) (wr : World) : Prop where
  lr : LR wr l cur wr.heap.size
  top : topL cur = top
  pos : 0 < cur.length
  len : cur.length ≤ 1000000
  bd : ∀ m ∈ cur, m.length ≤ 1000000
  ext : Ext w wr

def InvT (w : World) (top : List (List Int)) (l : Value) (wr : World) : Prop := ∃ cur, Cur w top l cur wr

/-- Levels in new memory. -/
def LLPost (w : World) (l3 : List (List (List Int))) (e : Ending) (w' : World) : Prop := ∃ v, e = .returned v ∧ Ext w w' ∧ LLR w' v l3 w'.heap.size
def No : Nat → Prop := fun _ => False
/-- What stands above the level at hand. -/
def restL (cur : List (List Int)) : List (List (List Int)) := if cur.length ≤ 1 then [] else levelsL (upL cur)
theorem levelsL_rest (cur : List (List Int)) : levelsL cur = cur :: restL cur := by
  unfold restL
  by_cases h : cur.length ≤ 1
  · rw [if_pos h, levelsL_small cur h]
  · rw [if_neg h, levelsL_great cur h]
structure CurV (w : World) (all : List (List (List Int))) (l o : Value) (cur : List (List Int)) (vs : List (Value × List (List Int))) (wr : World) : Prop where
  lr : ∀ bh, (o.ownBlock = some bh ∨ wr.heap.size ≤ bh) → LR wr l cur bh
  all : vs.map (·.2) ++ restL cur = all
  own : OwnLL wr w.heap.size o vs No
  pos : 0 < cur.length
  few : vs.length + cur.length ≤ 1000000
  bd : ∀ m ∈ cur, m.length ≤ 1000000
  ext : Ext w wr
theorem CurV.now {w wr : World} {all : List (List (List Int))} {l o : Value} {cur : List (List Int)} {vs : List (Value × List (List Int))} (h : CurV w all l o cur vs wr) : LR wr l cur wr.heap.size := h.lr _ (Or.inr (Nat.le_refl _))
theorem own_made {w : World} {base : Nat} {x : Value} {ls : List (List Int)} (hb : base ≤ w.heap.size) (h : LR w x ls w.heap.size) : OwnLL (w.alloc (.cells #[x] 88)) base (.slice (some ⟨w.heap.size, 0, none⟩) 1 1) [(x, ls)] No := by
  refine ⟨⟨rfl, Or.inr ⟨w.heap.size, 1, #[x], rfl, hb, At.new w _ 88, Nat.le_refl _, by unfold maxLen; omega, rfl, rfl⟩⟩, fun y hy bh hbh => ?_⟩
  simp at hy
  subst hy
  have hle : w.heap.size ≤ bh := by
    rcases hbh with h | h | h
    · cases h
    · simp [Value.ownBlock] at h; omega
    · rw [size_alloc] at h; omega
  exact (lr_kept.fresh h hle).ext (Ext.alloc w _)
theorem lr_one_more {w : World} {v l x : Value} {m : List (List Int)} {t : TypeId} (h : ∀ bh, (l.ownBlock = some bh ∨ w.heap.size ≤ bh) → LR w v m bh) : ∀ bh, (No bh ∨ l.ownBlock = some bh ∨ (w.alloc (.cells #[x] t)).heap.size ≤ bh) → LR (w.alloc (.cells #[x] t)) v m bh := fun bh hb =>
  (h bh (by
    rcases hb with hb | hb | hb
    · cases hb
    · exact Or.inl hb
    · rw [size_alloc] at hb; exact Or.inr (by omega))).ext (Ext.alloc w _)
theorem curv_done {w wr : World} {all : List (List (List Int))} {l o : Value} {cur : List (List Int)} {vs : List (Value × List (List Int))} (h : CurV w all l o cur vs wr) (h1 : cur.length ≤ 1) : LLPost w all (.returned o) wr := by
  refine ⟨o, rfl, h.ext, ?_⟩
  have e := h.all
  rw [restL, if_pos h1, List.append_nil] at e
  rw [← e]
  exact h.own.llr _ (Or.inr (Nat.le_refl _))

def InvV (w : World) (all : List (List (List Int))) (l o : Value) (wr : World) : Prop := ∃ cur vs, CurV w all l o cur vs wr

end Go.Proofs.YtblhipdcgdhmiaaDoor

namespace Go.Proofs.YtblhipdcgdhmiaaDoor
open Go.RowKit Go.Sha
set_option linter.unusedSimpArgs false

/-- In a region that draws: an operation that is not wanted. -/
theorem skipS {P : Program} {ops : Array Oper} {Q : Exit → Act → World → Prop} {md : Region.Mode} {S : World → Prop} (i : Nat) (d : Option Tmp) {oi : Oper} {fuel : Nat} {listed : Array Bool} {a : Act} {w : World} (hi : ops[i]? = some oi) (hd : oi.dst = d)
    (hs : Region.noSelect ops = true) (hf : Region.free md ops listed i = true) (hr : (Region.ready md ops listed).contains i = true)
    (hQ : ∀ c a w, Q (.panic c) (a.put d undef) w → Q (.panic c) a w) (hw : Region.wanted oi (yielded ops a.tmps) = false) (hS : S w)
    (h : wpAnyH P md ops Q S fuel (listed.setIfInBounds i true) (a.put d undef) w) : wpAnyH P md ops Q S (fuel + 1) listed a w := by
  subst hd
  exact wpAnyH_take hi hs hf hr hQ (Or.inr ⟨hw, rfl⟩) hS h
/-- A whole struct, loaded. -/
theorem exec_load_row {P : Program} {op : Oper} {a : Act} {w : World} (ty : TypeId) (x : Operand) (ho : op.op = .load ty x) (g : Nat) (hx : a.eval x = .pointer (some ⟨g, 0, none⟩)) (t : TypeId) (cs : Array Value) {d : TypeDesc} (hg : At w g cs t)
    (hu : P.underlying ty = some d) (hd : (match d with | .struct _ | .array _ _ => true | _ => false) = true) (hi : (P.info? ty).map (·.size) = some cs.size) : (execOp a.eval op).run P w = .ok (.value (.agg cs)) w := by
  unfold execOp
  simp only [ho, hx, Instr.loadAt, Instr.sureAddr, Sem.run_bind, Sem.run_pure, Result.andThen_ok, run_loadVar_row w g t ty cs (0, 0) d hg hu hd hi]

/-- A sidecar's cells. -/
def sideC (s : Sd) (vr vl vp : Value) : Array Value := #[.int .i64 s.size, .int .i64 s.block, .int .i64 s.k, vr, vl, vp]
/-- A sidecar in memory. -/
structure SR (w : World) (s : Sd) (vr vl vp : Value) : Prop where
  r : Src w vr s.root w.heap.size
  l : LR w vl s.leaves w.heap.size
  p : LR w vp s.parity w.heap.size
theorem SR.ext {w w' : World} {s : Sd} {vr vl vp : Value} (h : SR w s vr vl vp) (he : Ext w w') : SR w' s vr vl vp := ⟨h.r.now he, h.l.now he, h.p.now he⟩

def InvAll (w : World) (ls : List (List Int)) (s : Int) (i : Value) (wr : World) : Prop := ∃ k : Nat, k ≤ ls.length ∧ i = .int .i64 k ∧ w = wr ∧ allS (ls.take k) s = true
/-- What stays true of the box. -/
theorem at_ext {w w' : World} {b : Nat} {c : Array Value} {t : TypeId} (h : At w b c t) (he : Ext w w') : At w' b c t := h.below he h.lt
end Go.Proofs.YtblhipdcgdhmiaaDoor

namespace Go.Proofs.YtblhipdcgdhmiaaDoor
open Go.RowKit Go.Sha
set_option linter.unusedSimpArgs false

theorem belowN {B : Nat} {a w : World} (h : Below B a w) (n : Nat) : Below B a (w.drewN n) := ⟨h.os, h.tape, h.output, h.size, h.block⟩
theorem convB {w : World} {v : Value} {m : List Int} {b : Nat} (h : Src w v m b) : (convert 22 9 v).run Tryd.prog w = .ok (.string (strOfNums m)) w := conv_src (P := Tryd.prog) 22 9 5 Tryd.underlying22 Tryd.underlying5 Tryd.underlying9 h

def InvC (w : World) (n : Nat) (i : Value) (wr : World) : Prop := ∃ k : Nat, k ≤ n ∧ i = .int .i64 k ∧ Ext w wr

theorem ab1 : buildL [1, 2, 3] 1 8 = [[0]] := by decide +kernel
theorem ab2 : fitsL [[0]] 3 1 8 = true := by decide +kernel
theorem ab3 : updL [[0]] [1, 2, 3] [1, 2, 7] 1 8 = [[4]] := by decide +kernel
theorem ab4 : fitsL [] 1 1 8 = false := by decide +kernel
theorem ab5 : grpsN 9 1 8 = 2 := by decide +kernel

end Go.Proofs.YtblhipdcgdhmiaaDoor
