/- What is kept beside a file, as functions of lists of bytes. No conditions: definitions and lemmas. The contracts of addBlock, addGroup and Groups. The contracts of Leaves, above, copied, Root and Levels (the code's). The contract of Build (the code's). The contracts of fits, Update (the code's) and Lists. The contracts of above and copied (the code's). The contracts of copied, Root and Levels (the code's). The contracts of the sidecar's small functions and of Sound (the code's). The contracts of Lists and of what the document fixes. -/
import Derived.Test.YtnhokjnmpdiokaaGreatDoorSpM
import Derived.Deep.OwnRows
import Derived.BigQuiet
namespace Go.Sha
open Go.RowKit

structure Sd where
  size : Int
  block : Int
  k : Int
  root : List Int
  leaves : List (List Int)
  parity : List (List Int)
end Go.Sha

namespace Go.Proofs.YtnhokjnmpdiokaaGreatDoor
open Go.RowKit Go.Sha

def Buf (w : World) (g : Nat) (s : List Int) : Prop := ∃ cur : Array Value, At w g cur 5 ∧ s.length ≤ cur.size ∧ ∀ j, j < s.length → cur[j]? = some (.int .u8 (s[j]?.getD 0))
theorem Buf.cell {w : World} {g : Nat} {s : List Int} (h : Buf w g s) (j : Nat) (hj : j < s.length) : w.cell? ⟨g, j, none⟩ = some (.int .u8 (s[j]?.getD 0)) := by
  obtain ⟨cur, a, _, c⟩ := h
  rw [a.cell]; exact c j hj
theorem Buf.frozen {w : World} {g : Nat} {s : List Int} (h : Buf w g s) (j : Nat) : w.frozen? ⟨g, j, none⟩ = false := by
  obtain ⟨cur, a, _⟩ := h
  exact a.frozen j
theorem Buf.lt {w : World} {g : Nat} {s : List Int} (h : Buf w g s) : g < w.heap.size := by
  obtain ⟨cur, a, _⟩ := h
  exact a.lt
theorem Buf.set {w : World} {g : Nat} {s : List Int} (h : Buf w g s) (j : Nat) (y : Int) (hj : j < s.length) : Buf (w.setCell ⟨g, j, none⟩ (.int .u8 y)) g (s.set j y) := by
  obtain ⟨cur, a, b, c⟩ := h
  refine ⟨_, a.set j (.int .u8 y), by simpa using b, fun i hi => ?_⟩
  rw [List.length_set] at hi
  by_cases e : i = j
  · subst e
    rw [Array.getElem?_setIfInBounds_self_of_lt (by omega)]
    rw [List.getElem?_set_self hi]; rfl
  · rw [Array.getElem?_setIfInBounds_ne (fun h => e h.symm), c i hi, List.getElem?_set_ne (fun h => e h.symm)]
theorem Buf.only {w w' : World} {g b : Nat} {s : List Int} (h : Buf w g s) (ho : Only b w w') (hb : g ≠ b) : Buf w' g s := by
  obtain ⟨cur, a, r⟩ := h
  exact ⟨cur, ho.at a hb, r⟩
theorem Buf.ext {w w' : World} {g : Nat} {s : List Int} (h : Buf w g s) (he : Ext w w') : Buf w' g s := by
  have hl := h.lt
  obtain ⟨cur, a, r⟩ := h
  exact ⟨cur, a.below he hl, r⟩
theorem Buf.src {w : World} {g : Nat} {s : List Int} (h : Buf w g s) (bh : Nat) (hb : g ≠ bh) (n cap : Nat) (hn : s.length = n) (hc : s.length ≤ cap) : Src w (.slice (some ⟨g, 0, none⟩) n cap) s bh := by
  subst hn
  exact ⟨_, cap, g, 0, rfl, hc, fun _ => rfl, hb, fun j hj => by rw [Nat.zero_add]; exact h.cell j hj, fun h => by cases h⟩
theorem Buf.new (w : World) (m : List Int) : Buf (w.alloc (.cells (bs m) 5)) w.heap.size m :=
  ⟨bs m, At.new w _ 5, by rw [bs_size]; omega, fun j hj => by rw [bs_get m j hj]; rfl⟩
end Go.Proofs.YtnhokjnmpdiokaaGreatDoor

namespace Go.Proofs.YtnhokjnmpdiokaaGreatDoor
open Go.RowKit Go.Sha

end Go.Proofs.YtnhokjnmpdiokaaGreatDoor

namespace Go.Proofs.YtnhokjnmpdiokaaGreatDoor
open Go.RowKit Go.Sha

theorem slzero : (Tryz.prog.info? 50).map (fun i => (i.zero, i.size, i.bytes)) = some (some (.slice none 0 0), 1, 24) := by kernel_rfl
end Go.Proofs.YtnhokjnmpdiokaaGreatDoor

namespace Go.Proofs.YtnhokjnmpdiokaaGreatDoor
open Go.RowKit Go.Sha
set_option linter.unusedSimpArgs false

theorem lr_at {w : World} {v : Value} {ls : List (List Int)} {bh : Nat} (h : LR w v ls bh) (h0 : 0 < ls.length) : ∃ cap pb po, v = .slice (some ⟨pb, po, none⟩) ls.length cap ∧ pb ≠ bh ∧ ∀ j m, ls[j]? = some m → ∃ x, w.cell? ⟨pb, po + j, none⟩ = some x ∧ Src w x m bh := by
  obtain ⟨ad, cap, pb, po, rfl, h1, h2, h3⟩ := h
  obtain rfl := h1 h0
  exact ⟨cap, pb, po, rfl, h2, h3⟩

def fitsL (par : List (List Int)) (size B K : Int) : Bool := !(grpsN 1 B K == 0) && ((par.length : Int) == grpsN size B K) && par.all fun x => (x.length : Int) == B
end Go.Proofs.YtnhokjnmpdiokaaGreatDoor

namespace Go.Proofs.YtnhokjnmpdiokaaGreatDoor
open Go.RowKit Go.Sha
set_option linter.unusedSimpArgs false

def InvU (w : World) (A : Nat → Prop) (ls : List (List Int)) (l i : Value) (wr : World) : Prop :=
  ∃ (j : Nat) (ps : List (Value × List Int)), 2 * j ≤ ls.length + 1 ∧ i = .int .i64 ((2 * j : Nat) : Int) ∧ ps.length ≤ j ∧ ps.map (·.2) = upL (ls.take (2 * j)) ∧ OwnL wr w.heap.size l ps A ∧ Ext w wr
end Go.Proofs.YtnhokjnmpdiokaaGreatDoor

namespace Go.Proofs.YtnhokjnmpdiokaaGreatDoor
open Go.RowKit Go.Sha
set_option linter.unusedSimpArgs false

def No : Nat → Prop := fun _ => False
def restL (cur : List (List Int)) : List (List (List Int)) := if cur.length ≤ 1 then [] else levelsL (upL cur)
structure CurV (w : World) (all : List (List (List Int))) (l o : Value) (cur : List (List Int)) (vs : List (Value × List (List Int))) (wr : World) : Prop where
  lr : ∀ bh, (o.ownBlock = some bh ∨ wr.heap.size ≤ bh) → LR wr l cur bh
  all : vs.map (·.2) ++ restL cur = all
  own : OwnLL wr w.heap.size o vs No
  pos : 0 < cur.length
  few : vs.length + cur.length ≤ 1000000
  bd : ∀ m ∈ cur, m.length ≤ 1000000
  ext : Ext w wr
theorem CurV.now {w wr : World} {all : List (List (List Int))} {l o : Value} {cur : List (List Int)} {vs : List (Value × List (List Int))} (h : CurV w all l o cur vs wr) : LR wr l cur wr.heap.size := h.lr _ (Or.inr (Nat.le_refl _))
def InvV (w : World) (all : List (List (List Int))) (l o : Value) (wr : World) : Prop := ∃ cur vs, CurV w all l o cur vs wr

end Go.Proofs.YtnhokjnmpdiokaaGreatDoor

namespace Go.Proofs.YtnhokjnmpdiokaaGreatDoor
open Go.RowKit Go.Sha
set_option linter.unusedSimpArgs false

theorem skipS {P : Program} {ops : Array Oper} {Q : Exit → Act → World → Prop} {md : Region.Mode} {S : World → Prop} (i : Nat) (d : Option Tmp) {oi : Oper} {fuel : Nat} {listed : Array Bool} {a : Act} {w : World} (hi : ops[i]? = some oi) (hd : oi.dst = d)
    (hs : Region.noSelect ops = true) (hf : Region.free md ops listed i = true) (hr : (Region.ready md ops listed).contains i = true)
    (hQ : ∀ c a w, Q (.panic c) (a.put d undef) w → Q (.panic c) a w) (hw : Region.wanted oi (yielded ops a.tmps) = false) (hS : S w)
    (h : wpAnyH P md ops Q S fuel (listed.setIfInBounds i true) (a.put d undef) w) : wpAnyH P md ops Q S (fuel + 1) listed a w := by
  subst hd
  exact wpAnyH_take hi hs hf hr hQ (Or.inr ⟨hw, rfl⟩) hS h
theorem exec_load_row {P : Program} {op : Oper} {a : Act} {w : World} (ty : TypeId) (x : Operand) (ho : op.op = .load ty x) (g : Nat) (hx : a.eval x = .pointer (some ⟨g, 0, none⟩)) (t : TypeId) (cs : Array Value) {d : TypeDesc} (hg : At w g cs t)
    (hu : P.underlying ty = some d) (hd : (match d with | .struct _ | .array _ _ => true | _ => false) = true) (hi : (P.info? ty).map (·.size) = some cs.size) : (execOp a.eval op).run P w = .ok (.value (.agg cs)) w := by
  unfold execOp
  simp only [ho, hx, Instr.loadAt, Instr.sureAddr, Sem.run_bind, Sem.run_pure, Result.andThen_ok, run_loadVar_row w g t ty cs (0, 0) d hg hu hd hi]

structure SR (w : World) (s : Sd) (vr vl vp : Value) : Prop where
  r : Src w vr s.root w.heap.size
  l : LR w vl s.leaves w.heap.size
  p : LR w vp s.parity w.heap.size
theorem SR.ext {w w' : World} {s : Sd} {vr vl vp : Value} (h : SR w s vr vl vp) (he : Ext w w') : SR w' s vr vl vp := ⟨h.r.now he, h.l.now he, h.p.now he⟩

theorem at_ext {w w' : World} {b : Nat} {c : Array Value} {t : TypeId} (h : At w b c t) (he : Ext w w') : At w' b c t := h.below he h.lt
end Go.Proofs.YtnhokjnmpdiokaaGreatDoor

namespace Go.Proofs.YtnhokjnmpdiokaaGreatDoor
open Go.RowKit Go.Sha
set_option linter.unusedSimpArgs false

theorem belowN {B : Nat} {a w : World} (h : Below B a w) (n : Nat) : Below B a (w.drewN n) := ⟨h.os, h.tape, h.output, h.size, h.block⟩
theorem convB {w : World} {v : Value} {m : List Int} {b : Nat} (h : Src w v m b) : (convert 50 9 v).run Tryz.prog w = .ok (.string (strOfNums m)) w := conv_src (P := Tryz.prog) 50 9 5 Tryz.underlying50 Tryz.underlying5 Tryz.underlying9 h

theorem ab1 : buildL [1, 2, 3] 1 8 = [[0]] := by decide +kernel
theorem ab2 : fitsL [[0]] 3 1 8 = true := by decide +kernel
end Go.Proofs.YtnhokjnmpdiokaaGreatDoor
