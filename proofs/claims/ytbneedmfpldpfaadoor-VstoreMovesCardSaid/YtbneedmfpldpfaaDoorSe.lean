/- Contract of apply: one act that makes a name, at the end of all; none. -/
import Derived.Test.YtbneedmfpldpfaaDoorSd
namespace Go.Proofs.YtbneedmfpldpfaaDoor
open Go.RowKit Go.Pth

def InvA1 (w : World) (c j : Nat) (v : Value) (l r : List Nm) (s8 : Value) (wr : World) : Prop :=
  (s8 = .int .i64 0 ∧ w = wr) ∨ (s8 = .int .i64 1 ∧ ∃ v' w1, Row w1 64 2 v' (l.length + r.length) (ents (l ++ r)) ∧ Grew w w1 v v' ∧ wr = w1.setCell ⟨c, j, none⟩ v')
set_option maxRecDepth 100000 in
set_option maxHeartbeats 8000000 in
theorem apply_made (c j : Nat) (cs : Array Value) (tc : TypeId) (v : Value) (l : List Nm) (p : B) (a : Nat) (ab ao acap : Nat) (w : World) (hc : At w c cs tc) (hj : cs[j]? = some v) (h : Row w 64 2 v l.length (ents l)) (hoc : v.ownBlock ≠ some c) (hs : Srt l) (hl : l.length ≤ 1000000) (hend : place l p = l.length)
    (c0 : w.cell? ⟨ab, ao, none⟩ = some (.string ⟨#[]⟩)) (c1 : w.cell? ⟨ab, ao + 1, none⟩ = some (.string (tx p))) (c2 : w.cell? ⟨ab, ao + 2, none⟩ = some (ptr a)) :
    Calls Tryd.prog 33 #[.pointer (some ⟨c, j, none⟩), .slice (some ⟨ab, ao, none⟩) 1 acap] w fun e w' => e = .returned (.tuple #[]) ∧ ∃ v' w1, Row w1 64 2 v' (l.length + 1) (ents (l ++ [(p, a)])) ∧ Grew w w1 v v' ∧ w' = w1.setCell ⟨c, j, none⟩ v' := by
  obtain ⟨W1, hW1⟩ : ∃ W1, W1 = w.alloc (.cells #[.string ⟨#[]⟩, .string (tx p), ptr a] 87) := ⟨_, rfl⟩
  obtain ⟨W2, hW2⟩ : ∃ W2, W2 = W1.alloc (.cells #[.string (tx p), ptr a] 64) := ⟨_, rfl⟩
  have e1 : Ext w W1 := by rw [hW1]; exact Ext.alloc _ _
  have e2 : Ext W1 W2 := by rw [hW2]; exact Ext.alloc _ _
  have s1 : W1.heap.size = w.heap.size + 1 := by rw [hW1]; exact size_alloc _ _
  have hat : At W2 (w.heap.size + 1) #[.string (tx p), ptr a] 64 := by rw [hW2, ← s1]; exact At.new _ _ _
  have tr : TrR W2 (.slice (some ⟨w.heap.size + 1, 0, none⟩) 1 1) [(p, a)] (some ⟨w.heap.size + 1, 0, none⟩) 1 (w.heap.size + 1) 0 := by
    refine ⟨rfl, fun _ => rfl, fun q hq => ?_, fun q hq => ?_⟩
    · obtain rfl : q = 0 := by simpa using hq
      rw [hat.cell]; rfl
    · obtain rfl : q = 0 := by simpa using hq
      rw [hat.cell]; rfl
  have ee := e1.trans e2
  have PU := put_any c j cs tc v _ l [(p, a)] W2 (hc.ext ee) hj (h.ext ee) hoc tr (by simp) hs hl (by simp) (fun hb => by have := h.lt _ hb; omega) (by simpa using hend)
  have PU2 : Calls Tryd.prog 55 #[.pointer (some ⟨c, j, none⟩), .slice (some ⟨w.heap.size + 1, 0, none⟩) 1 1] W2 fun e w' => e = .returned (.tuple #[]) ∧ ∃ v' w1, Row w1 64 2 v' (l.length + 1) (ents (l ++ [(p, a)])) ∧ Grew w w1 v v' ∧ w' = w1.setCell ⟨c, j, none⟩ v' :=
    PU.mono fun e w' ⟨h1, v', w1, h2, g, h3⟩ => ⟨h1, v', w1, h2, ⟨(Chg.of_ext ee).trans g.chg fun _ _ x => x, by rcases g.own with e | ⟨q, e1, e2⟩; exact Or.inl e; exact Or.inr ⟨q, e1, Nat.le_trans ee.size e2⟩⟩, h3⟩
  have HP := Lib.hid PU2
  rw [hW1] at hW2
  clear PU PU2 tr hat s1 e1 e2 ee hc hj h hoc hs hl hend hW1
  unfold ptr at *
  have HW := Lib.hid hW2
  go_enter Tryd.func33, Tryd.ntmps33
  go_wp2
  go_loopw [8] (fun s8 wr => (s8 = .int .i64 0 ∧ w = wr) ∨ (s8 = .int .i64 1 ∧ ∃ v' w1, Row w1 64 2 v' (l.length + 1) (ents (l ++ [(p, a)])) ∧ Grew w w1 v v' ∧ wr = w1.setCell ⟨c, j, none⟩ v')) (fun s8 _ => 1 - (intOf s8).toNat)
  case atStart => exact Or.inl ⟨rfl, rfl⟩
  case round =>
    rcases hrel with ⟨rfl, rfl⟩ | ⟨rfl, hh⟩
    · go_wp2_with (go_at_call 55; rw [← hW2]; refine (HP.out).mono ?_; rintro e w' ⟨rfl, hfin⟩)
      exact ⟨Or.inr ⟨rfl, hfin⟩, by simp [intOf]⟩
    · have HH := Lib.hid hh
      clear hh
      go_wp2
      go_end0
      exact ⟨rfl, HH.out⟩
end Go.Proofs.YtbneedmfpldpfaaDoor
