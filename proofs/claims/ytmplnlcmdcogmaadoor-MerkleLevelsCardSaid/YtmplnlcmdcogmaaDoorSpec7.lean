/- append to a row of the call's own, with what else stays: lists that lie elsewhere. No conditions: lemmas. -/
import Derived.Test.YtmplnlcmdcogmaaDoorSpec6
namespace Go.Sha
open Go.RowKit

/-- Nothing but the row itself is otherwise; the new one lies where it did, or is new. -/
def Grew (w : World) (v : Value) (w' : World) (v' : Value) : Prop := w.grownBy w' v.ownBlock ∧ (v'.ownBlock = v.ownBlock ∨ v'.ownBlock = some w.heap.size)
/-- What lies elsewhere stays. -/
theorem Grew.keep {α : Type} {R : World → Value → α → Nat → Prop} (kR : Kept R) {w w' : World} {v v' y : Value} {q : α} (h : Grew w v w' v') (hq : ∀ bh, (v.ownBlock = some bh ∨ w.heap.size ≤ bh) → R w y q bh) : ∀ bh, (v'.ownBlock = some bh ∨ w'.heap.size ≤ bh) → R w' y q bh := by
  obtain ⟨hgr, hat⟩ := h
  intro bh hbh
  have hw : v.ownBlock = some bh ∨ w.heap.size ≤ bh := by
    rcases hbh with h | h
    · rcases hat with h' | h'
      · exact Or.inl (h' ▸ h)
      · rw [h'] at h; injection h with h; exact Or.inr (by omega)
    · exact Or.inr (Nat.le_trans hgr.size h)
  cases hv : v.ownBlock with
  | none => exact kR.keep (hq bh hw) (hq bh hw) ⟨hgr.os, hgr.tape, hgr.output, hgr.size, fun k hk _ => hgr.block k hk (by rw [hv]; simp)⟩
  | some r => exact kR.keep (hq r (Or.inl hv)) (hq bh hw) ⟨hgr.os, hgr.tape, hgr.output, hgr.size, fun k hk hne => hgr.block k hk (by rw [hv]; simpa using hne)⟩
/-- .. when one more block was made. -/
theorem kept_one_more {α : Type} {R : World → Value → α → Nat → Prop} (kR : Kept R) {w : World} {v y x : Value} {q : α} {t : TypeId} (h : ∀ bh, (v.ownBlock = some bh ∨ w.heap.size ≤ bh) → R w y q bh) : ∀ bh, (v.ownBlock = some bh ∨ (w.alloc (.cells #[x] t)).heap.size ≤ bh) → R (w.alloc (.cells #[x] t)) y q bh := fun bh hb =>
  kR.ext (h bh (hb.imp_right fun h => by rw [size_alloc] at h; omega)) (Ext.alloc w _)
theorem kept_ext {α : Type} {R : World → Value → α → Nat → Prop} (kR : Kept R) {w w' : World} {v y : Value} {q : α} (h : ∀ bh, (v.ownBlock = some bh ∨ w.heap.size ≤ bh) → R w y q bh) (he : Ext w w') : ∀ bh, (v.ownBlock = some bh ∨ w'.heap.size ≤ bh) → R w' y q bh := fun bh hb =>
  kR.ext (h bh (hb.imp_right fun h => Nat.le_trans he.size h)) he

/-- append of one to such a row: the run. -/
theorem run_append_gg {P : Program} {α : Type} {e : TypeId} {R : World → Value → α → Nat → Prop} (kR : Kept R) (w : World) (t ty : TypeId) (z : Value) (bytes : Nat) (ht : P.underlying t = some (.slice e))
    (hi : (P.info? e).map (fun i => (i.zero, i.size, i.bytes)) = some (some z, 1, bytes)) (hz : z.cells.size = 1) (hb : bytes ≤ 24)
    (base : Nat) (v : Value) (ps : List (Value × α)) (A : Nat → Prop) (hown : OwnG e R w base v ps A) (g c : Nat) (vx : Value) (m : α) (hg : w.cell? ⟨g, 0, none⟩ = some vx) (h1 : vx.oneCell' = true)
    (hs : ∀ bh, (A bh ∨ v.ownBlock = some bh ∨ w.heap.size ≤ bh) → R w vx m bh) (hl : ps.length < 1099511627776) (hbase : base ≤ w.heap.size) :
    ∃ v' w', (Builtin.append_ #[t, t] ty #[v, .slice (some ⟨g, 0, none⟩) 1 c]).run P w = .ok v' w' ∧ OwnG e R w' base v' (ps ++ [(vx, m)]) A ∧ Below base w w' ∧ Grew w v w' v' := by
  obtain ⟨i, hi', hzz⟩ := Option.map_eq_some_iff.1 hi
  simp only [Prod.mk.injEq] at hzz
  obtain ⟨hz1, hz2, hz3⟩ := hzz
  obtain ⟨v', w', hr, ho, hgr, _, hat⟩ := run_append_own_at (P := P) w base t ty e i z 1 bytes ht hi' hz1 hz2 hz3 hz (by omega) v ps.length (ps.map (·.1)) hown.1 ⟨g, 0, none⟩ 1 c [vx] rfl
    (fun j u hj => by
      match j, hj with
      | 0, hj => simp at hj; subst hj; exact hg) (by simpa using h1) (by unfold maxLen; omega)
      (by have : (ps.length + 1) * bytes ≤ (ps.length + 1) * 24 := Nat.mul_le_mul_left _ hb
          omega) hbase
  refine ⟨v', w', hr, ⟨?_, ?_⟩, ?_, hgr, hat⟩
  · simpa using ho
  · -- nothing but the row itself is otherwise
    have key : ∀ (y : Value) (q : α), (∀ bh, (A bh ∨ v.ownBlock = some bh ∨ w.heap.size ≤ bh) → R w y q bh) → ∀ bh, (A bh ∨ v'.ownBlock = some bh ∨ w'.heap.size ≤ bh) → R w' y q bh := by
      intro y q hq bh hbh
      have hw : A bh ∨ v.ownBlock = some bh ∨ w.heap.size ≤ bh := by
        rcases hbh with h | h | h
        · exact Or.inl h
        · rcases hat with h' | h'
          · exact Or.inr (Or.inl (h' ▸ h))
          · rw [h'] at h; injection h with h; exact Or.inr (Or.inr (by omega))
        · exact Or.inr (Or.inr (Nat.le_trans hgr.size h))
      cases hv : v.ownBlock with
      | none => exact kR.keep (hq bh hw) (hq bh hw) ⟨hgr.os, hgr.tape, hgr.output, hgr.size, fun k hk _ => hgr.block k hk (by rw [hv]; simp)⟩
      | some r => exact kR.keep (hq r (Or.inr (Or.inl hv))) (hq bh hw) ⟨hgr.os, hgr.tape, hgr.output, hgr.size, fun k hk hne => hgr.block k hk (by rw [hv]; simpa using hne)⟩
    intro x hx bh hbh
    rcases List.mem_append.1 hx with hx | hx
    · exact key x.1 x.2 (hown.2 x hx) bh hbh
    · simp at hx; subst hx; exact key vx m hs bh hbh
  · refine ⟨hgr.os, hgr.tape, hgr.output, hgr.size, fun k hk => hgr.block k (by omega) fun e => ?_⟩
    have := (hown.1.lt k e.symm).1
    omega
theorem list_append_gg {P : Program} {α : Type} {e : TypeId} {R : World → Value → α → Nat → Prop} (kR : Kept R) {w : World} {ops : Array Oper} {rest : List Oper} {o : Oper} {a : Act} {Q : Exit → Act → World → Prop} (hgd : o.guard = none) (s x : Operand) (t : TypeId)
    (ho : o.op = .call { callee := .builtin .append, args := #[s, x], argTypes := #[t, t] }) (z : Value) (bytes : Nat) (ht : P.underlying t = some (.slice e))
    (hi : (P.info? e).map (fun i => (i.zero, i.size, i.bytes)) = some (some z, 1, bytes)) (hz : z.cells.size = 1) (hb : bytes ≤ 24)
    (base : Nat) (v : Value) (ps : List (Value × α)) (A : Nat → Prop) (hsv : a.eval s = v) (hown : OwnG e R w base v ps A) (g c : Nat) (vx : Value) (m : α) (hx : a.eval x = .slice (some ⟨g, 0, none⟩) 1 c) (hg : w.cell? ⟨g, 0, none⟩ = some vx) (h1 : vx.oneCell' = true)
    (hs : ∀ bh, (A bh ∨ v.ownBlock = some bh ∨ w.heap.size ≤ bh) → R w vx m bh) (hl : ps.length < 1099511627776) (hbase : base ≤ w.heap.size)
    (h : ∀ v' w', OwnG e R w' base v' (ps ++ [(vx, m)]) A → Below base w w' → Grew w v w' v' → wpList P ops Q rest (a.put o.dst v') w') : wpList P ops Q (o :: rest) a w := by
  refine wpList_plain hgd fun K hK => ?_
  obtain ⟨v', w', hr, h2, h3, h4⟩ := run_append_gg kR w t o.type z bytes ht hi hz hb base v ps A hown g c vx m hg h1 hs hl hbase
  unfold Oper.wp execOp
  simp only [ho, resolve, invoke, builtin, Sem.run_bind, Sem.run_pure, Result.andThen_ok, List.map_toArray, List.map_cons, List.map_nil, hsv, hx, hr]
  exact hK _ _ (h v' w' h2 h3 h4)
end Go.Sha
