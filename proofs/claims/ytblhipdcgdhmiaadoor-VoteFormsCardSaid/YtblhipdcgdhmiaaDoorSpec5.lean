/- Lists of slices in memory: rows of a call's own that hold slices, and what is read of them. No conditions: definitions and lemmas. -/
import Derived.Test.YtblhipdcgdhmiaaDoorWg
import Derived.Test.YtblhipdcgdhmiaaDoorSpec4
import Derived.Maps.AppendAt
namespace Go.Sha
open Go.RowKit Go.Proofs.YtblhipdcgdhmiaaDoor

theorem src_keep {w w' : World} {v : Value} {m : List Int} {b1 b2 : Nat} (h1 : Src w v m b1) (h2 : Src w v m b2) (ho : Only b1 w w') : Src w' v m b2 := by
  obtain ⟨ad, cap, sb, so, rfl, x2, x3, x4, x5, x6⟩ := h1
  obtain ⟨ad', cap', sb', so', e, y2, y3, y4, y5, y6⟩ := h2
  injection e with e1 _ e3
  subst e1 e3
  by_cases hm : 0 < m.length
  · have q := (x3 hm).symm.trans (y3 hm)
    injection q with q
    injection q with q1 q2
    subst q1 q2
    exact ⟨ad, cap, sb, so, rfl, x2, x3, y4, fun j hj => by rw [← x5 j hj]; exact World.cell?_of_block (ho.block sb (World.block_lt_of_cell? w _ (x5 j hj)) x4), x6⟩
  · exact ⟨ad, cap, b2 + 1, so, rfl, x2, fun h => absurd h hm, by omega, fun j hj => by omega, x6⟩
theorem Src.ext {w w' : World} {v : Value} {m : List Int} {b : Nat} (h : Src w v m b) (he : Ext w w') : Src w' v m b := h.below he
/-- What is read in the older world is read in the newer one. -/
theorem Src.now {w w' : World} {v : Value} {m : List Int} {b : Nat} (h : Src w v m b) (he : Ext w w') : Src w' v m w'.heap.size := (h.ext he).other (Nat.le_refl _)
theorem Src.len {w : World} {v : Value} {m : List Int} {b : Nat} (h : Src w v m b) : ∃ ad cap, v = .slice ad m.length cap := by
  obtain ⟨ad, cap, _, _, h, _⟩ := h
  exact ⟨ad, cap, h⟩
theorem Src.one {w : World} {v : Value} {m : List Int} {b : Nat} (h : Src w v m b) : v.oneCell' = true := by
  obtain ⟨ad, cap, _, _, rfl, _⟩ := h
  rfl
/-- A row of the call's own, seen from a block that is older than it. -/
theorem OwnB.srcs {w : World} {base : Nat} {v : Value} {m : List Int} (h : OwnB w base v m) : ∀ bh, (bh < base ∨ w.heap.size ≤ bh) → Src w v m bh := fun bh hb => by
  rcases hb with hb | hb
  · exact h.src bh hb
  · cases base with
    | zero =>
      obtain ⟨_, ⟨rfl, h0⟩ | ⟨g, cap, cur, rfl, hg, hw, hn, _, _, hx⟩⟩ := h
      · have : m = [] := List.length_eq_zero_iff.1 h0
        subst this
        exact ⟨none, 0, bh + 1, 0, rfl, by simp, fun h => by simp at h, by omega, fun j hj => by simp at hj, fun _ => rfl⟩
      · have hlt : g < w.heap.size := (Array.getElem?_eq_some_iff.1 hw).1
        refine ⟨_, cap, g, 0, rfl, hn, fun _ => rfl, by omega, fun j hj => ?_, fun h => by cases h⟩
        have hw' : w.heap[g]? = some (.cells cur 5 (0, 0)) := hw
        have e : cur.toList[j]? = (m.map (Value.int .u8))[j]? := by rw [← hx, List.getElem?_take_of_lt (by omega)]
        rw [Nat.zero_add]
        simp only [World.cell?, hw']
        rw [← Array.getElem?_toList, e, List.getElem?_map, List.getElem?_eq_getElem hj]; rfl
    | succ b => exact (h.src b (by omega)).other hb

/-- What may be in a row, and stays when another block alone is written. -/
structure Kept {α : Type} (R : World → Value → α → Nat → Prop) : Prop where
  keep : ∀ {w w' : World} {v : Value} {a : α} {b1 b2 : Nat}, R w v a b1 → R w v a b2 → Only b1 w w' → R w' v a b2
  fresh : ∀ {w : World} {v : Value} {a : α} {b c : Nat}, R w v a b → w.heap.size ≤ c → R w v a c
theorem Kept.ext {α : Type} {R : World → Value → α → Nat → Prop} (k : Kept R) {w w' : World} {v : Value} {a : α} {b : Nat} (h : R w v a b) (he : Ext w w') : R w' v a b := k.keep h h (Only.of_below he)
theorem src_kept : Kept Src := ⟨src_keep, fun h hc => h.other hc⟩

/-- A slice of slices of bytes that reads as ls, nothing of it in block bh. -/
def LR (w : World) (v : Value) (ls : List (List Int)) (bh : Nat) : Prop :=
  ∃ ad cap pb po, v = .slice ad ls.length cap ∧ (0 < ls.length → ad = some ⟨pb, po, none⟩) ∧ pb ≠ bh ∧ ∀ j m, ls[j]? = some m → ∃ x, w.cell? ⟨pb, po + j, none⟩ = some x ∧ Src w x m bh
theorem lr_kept : Kept LR := by
  refine ⟨fun {w w' v ls b1 b2} h1 h2 ho => ?_, fun {w v ls b c} h hc => ?_⟩
  · obtain ⟨ad, cap, pb, po, rfl, x2, x3, x4⟩ := h1
    obtain ⟨ad', cap', pb', po', e, y2, y3, y4⟩ := h2
    injection e with e1 _ e3
    subst e1 e3
    by_cases hm : 0 < ls.length
    · have q := (x2 hm).symm.trans (y2 hm)
      injection q with q
      injection q with q1 q2
      subst q1 q2
      refine ⟨ad, cap, pb, po, rfl, x2, y3, fun j m hj => ?_⟩
      obtain ⟨x, c1, s1⟩ := x4 j m hj
      obtain ⟨y, c2, s2⟩ := y4 j m hj
      rw [c1] at c2
      injection c2 with c2
      subst c2
      exact ⟨x, by rw [← c1]; exact World.cell?_of_block (ho.block pb (World.block_lt_of_cell? w _ c1) x3), src_keep s1 s2 ho⟩
    · refine ⟨ad, cap, b2 + 1, po, rfl, fun h => absurd h hm, by omega, fun j m hj => ?_⟩
      have := (List.getElem?_eq_some_iff.1 hj).1
      omega
  · obtain ⟨ad, cap, pb, po, rfl, x2, x3, x4⟩ := h
    by_cases hm : 0 < ls.length
    · obtain ⟨x, c1, _⟩ := x4 0 _ (List.getElem?_eq_getElem hm)
      have := World.block_lt_of_cell? w _ c1
      refine ⟨ad, cap, pb, po, rfl, x2, by simp at this; omega, fun j m hj => ?_⟩
      obtain ⟨x, c1, s1⟩ := x4 j m hj
      exact ⟨x, c1, s1.other hc⟩
    · refine ⟨ad, cap, c + 1, po, rfl, fun h => absurd h hm, by omega, fun j m hj => ?_⟩
      have := (List.getElem?_eq_some_iff.1 hj).1
      omega
theorem LR.ext {w w' : World} {v : Value} {ls : List (List Int)} {b : Nat} (h : LR w v ls b) (he : Ext w w') : LR w' v ls b := lr_kept.ext h he
theorem LR.now {w w' : World} {v : Value} {ls : List (List Int)} {b : Nat} (h : LR w v ls b) (he : Ext w w') : LR w' v ls w'.heap.size := lr_kept.fresh (h.ext he) (Nat.le_refl _)
theorem LR.one {w : World} {v : Value} {ls : List (List Int)} {b : Nat} (h : LR w v ls b) : v.oneCell' = true := by
  obtain ⟨ad, cap, _, _, rfl, _⟩ := h
  rfl
theorem LR.len {w : World} {v : Value} {ls : List (List Int)} {b : Nat} (h : LR w v ls b) : ∃ ad cap, v = .slice ad ls.length cap := by
  obtain ⟨ad, cap, _, _, h, _⟩ := h
  exact ⟨ad, cap, h⟩
theorem LR.nil (w : World) (b : Nat) : LR w (.slice none 0 0) [] b := ⟨none, 0, b + 1, 0, rfl, fun h => by simp at h, by omega, fun j m h => by simp at h⟩
theorem LR.of_srcs {w : World} {v : Value} {ps : List (Value × List Int)} (h : Srcs w v ps) : LR w v (ps.map (·.2)) w.heap.size := by
  obtain ⟨ad, cap, pb, po, rfl, h1, h2⟩ := h
  by_cases hm : 0 < ps.length
  · obtain ⟨c, _⟩ := h2 0 _ (List.getElem?_eq_getElem hm)
    have := World.block_lt_of_cell? w _ c
    refine ⟨ad, cap, pb, po, by simp, by simpa using h1, by simp at this; omega, fun j m hj => ?_⟩
    rw [List.getElem?_map] at hj
    obtain ⟨x, hx, rfl⟩ := Option.map_eq_some_iff.1 hj
    exact ⟨x.1, (h2 j x hx).1, (h2 j x hx).2⟩
  · have h0 : ps = [] := List.length_eq_zero_iff.1 (by omega)
    subst h0
    exact ⟨ad, cap, w.heap.size + 1, 0, rfl, fun h => by simp at h, by omega, fun j m h => by simp at h⟩

/-- A slice of slices of slices. -/
def LLR (w : World) (v : Value) (l3 : List (List (List Int))) (bh : Nat) : Prop :=
  ∃ ad cap pb po, v = .slice ad l3.length cap ∧ (0 < l3.length → ad = some ⟨pb, po, none⟩) ∧ pb ≠ bh ∧ ∀ j m, l3[j]? = some m → ∃ x, w.cell? ⟨pb, po + j, none⟩ = some x ∧ LR w x m bh

/-- A row of the call's own that holds slices: nothing of what they hold lies in the row itself, nor in a block of A. -/
def OwnG {α : Type} (e : TypeId) (R : World → Value → α → Nat → Prop) (w : World) (base : Nat) (v : Value) (ps : List (Value × α)) (A : Nat → Prop) : Prop :=
  w.ownsRow base e 1 v ps.length (ps.map (·.1)) ∧ ∀ x ∈ ps, ∀ bh, (A bh ∨ v.ownBlock = some bh ∨ w.heap.size ≤ bh) → R w x.1 x.2 bh
theorem OwnG.nil {α : Type} (e : TypeId) (R : World → Value → α → Nat → Prop) (w : World) (base : Nat) (A : Nat → Prop) : OwnG e R w base (.slice none 0 0) [] A :=
  ⟨World.ownsRow_nil w base e 1, fun x hx => by simp at hx⟩
theorem OwnG.ext {α : Type} {e : TypeId} {R : World → Value → α → Nat → Prop} (k : Kept R) {w w' : World} {base : Nat} {v : Value} {ps : List (Value × α)} {A : Nat → Prop} (h : OwnG e R w base v ps A) (he : Ext w w') : OwnG e R w' base v ps A := by
  obtain ⟨⟨h1, h2⟩, h3⟩ := h
  refine ⟨⟨h1, ?_⟩, fun x hx bh hb => k.ext (h3 x hx bh (hb.imp_right (Or.imp_right fun h => Nat.le_trans he.size h))) he⟩
  rcases h2 with h2 | ⟨g, cap, cur, hv, hg, hw, r⟩
  · exact Or.inl h2
  · exact Or.inr ⟨g, cap, cur, hv, hg, At.below (c := cur) (t := e) hw he (At.lt (c := cur) (t := e) hw), r⟩
theorem OwnG.len {α : Type} {e : TypeId} {R : World → Value → α → Nat → Prop} {w : World} {base : Nat} {v : Value} {ps : List (Value × α)} {A : Nat → Prop} (h : OwnG e R w base v ps A) : ∃ ad cap, v = .slice ad ps.length cap := by
  obtain ⟨⟨_, ⟨rfl, h0⟩ | ⟨g, cap, cur, rfl, _⟩⟩, _⟩ := h
  · exact ⟨none, 0, by rw [h0]⟩
  · exact ⟨_, cap, rfl⟩
theorem OwnG.block {α : Type} {e : TypeId} {R : World → Value → α → Nat → Prop} {w : World} {base : Nat} {v : Value} {ps : List (Value × α)} {A : Nat → Prop} (h : OwnG e R w base v ps A) : ∀ g, v.ownBlock = some g → base ≤ g ∧ g < w.heap.size := h.1.lt
theorem OwnG.less {α : Type} {e : TypeId} {R : World → Value → α → Nat → Prop} {w : World} {base : Nat} {v : Value} {ps : List (Value × α)} {A A' : Nat → Prop} (h : OwnG e R w base v ps A) (hA : ∀ b, A' b → A b) : OwnG e R w base v ps A' :=
  ⟨h.1, fun x hx bh hb => h.2 x hx bh (hb.imp_left (hA bh))⟩
/-- What is read of it. -/
theorem OwnG.cells {α : Type} {e : TypeId} {R : World → Value → α → Nat → Prop} {w : World} {base : Nat} {v : Value} {ps : List (Value × α)} {A : Nat → Prop} (h : OwnG e R w base v ps A) (bh : Nat) (hb : (A bh ∧ bh < base) ∨ w.heap.size ≤ bh) :
    ∃ ad cap pb po, v = .slice ad ps.length cap ∧ (0 < ps.length → ad = some ⟨pb, po, none⟩) ∧ pb ≠ bh ∧ ∀ j x, ps[j]? = some x → w.cell? ⟨pb, po + j, none⟩ = some x.1 ∧ R w x.1 x.2 bh := by
  have h2 : ∀ x ∈ ps, R w x.1 x.2 bh := fun x hx => h.2 x hx bh (hb.elim (fun h => Or.inl h.1) (fun h => Or.inr (Or.inr h)))
  obtain ⟨⟨_, ⟨rfl, h0⟩ | ⟨g, cap, cur, rfl, hg, hw, hn, _, _, hx⟩⟩, _⟩ := h
  · have : ps = [] := List.length_eq_zero_iff.1 h0
    subst this
    exact ⟨none, 0, bh + 1, 0, rfl, fun h => by simp at h, by omega, fun j m h => by simp at h⟩
  · have hlt : g < w.heap.size := (Array.getElem?_eq_some_iff.1 hw).1
    refine ⟨_, cap, g, 0, rfl, fun _ => rfl, by omega, fun j x hj => ⟨?_, h2 x (List.mem_of_getElem? hj)⟩⟩
    have hjl : j < ps.length := (List.getElem?_eq_some_iff.1 hj).1
    have hw' : w.heap[g]? = some (.cells cur e (0, 0)) := hw
    have e : cur.toList[j]? = (ps.map (·.1))[j]? := by rw [← hx, List.getElem?_take_of_lt (by omega)]
    rw [Nat.zero_add]
    simp only [World.cell?, hw']
    rw [← Array.getElem?_toList, e, List.getElem?_map, hj]; rfl
abbrev OwnL := OwnG (α := List Int) 22 Src
abbrev OwnLL := OwnG (α := List (List Int)) 88 LR
theorem OwnG.lr {w : World} {base : Nat} {v : Value} {ps : List (Value × List Int)} {A : Nat → Prop} (h : OwnL w base v ps A) (bh : Nat) (hb : (A bh ∧ bh < base) ∨ w.heap.size ≤ bh) : LR w v (ps.map (·.2)) bh := by
  obtain ⟨ad, cap, pb, po, rfl, h1, h2, h3⟩ := h.cells bh hb
  refine ⟨ad, cap, pb, po, by simp, by simpa using h1, h2, fun j m hj => ?_⟩
  rw [List.getElem?_map] at hj
  obtain ⟨x, hx, rfl⟩ := Option.map_eq_some_iff.1 hj
  exact ⟨x.1, (h3 j x hx).1, (h3 j x hx).2⟩
theorem OwnG.llr {w : World} {base : Nat} {v : Value} {ps : List (Value × List (List Int))} {A : Nat → Prop} (h : OwnLL w base v ps A) (bh : Nat) (hb : (A bh ∧ bh < base) ∨ w.heap.size ≤ bh) : LLR w v (ps.map (·.2)) bh := by
  obtain ⟨ad, cap, pb, po, rfl, h1, h2, h3⟩ := h.cells bh hb
  refine ⟨ad, cap, pb, po, by simp, by simpa using h1, h2, fun j m hj => ?_⟩
  rw [List.getElem?_map] at hj
  obtain ⟨x, hx, rfl⟩ := Option.map_eq_some_iff.1 hj
  exact ⟨x.1, (h3 j x hx).1, (h3 j x hx).2⟩

/-- append of one to such a row: the run. -/
theorem run_append_g {P : Program} {α : Type} {e : TypeId} {R : World → Value → α → Nat → Prop} (kR : Kept R) (w : World) (t ty : TypeId) (z : Value) (bytes : Nat) (ht : P.underlying t = some (.slice e))
    (hi : (P.info? e).map (fun i => (i.zero, i.size, i.bytes)) = some (some z, 1, bytes)) (hz : z.cells.size = 1) (hb : bytes ≤ 24)
    (base : Nat) (v : Value) (ps : List (Value × α)) (A : Nat → Prop) (hown : OwnG e R w base v ps A) (g c : Nat) (vx : Value) (m : α) (hg : w.cell? ⟨g, 0, none⟩ = some vx) (h1 : vx.oneCell' = true)
    (hs : ∀ bh, (A bh ∨ v.ownBlock = some bh ∨ w.heap.size ≤ bh) → R w vx m bh) (hl : ps.length < 1099511627776) (hbase : base ≤ w.heap.size) :
    ∃ v' w', (Builtin.append_ #[t, t] ty #[v, .slice (some ⟨g, 0, none⟩) 1 c]).run P w = .ok v' w' ∧ OwnG e R w' base v' (ps ++ [(vx, m)]) A ∧ Below base w w' := by
  obtain ⟨i, hi', hzz⟩ := Option.map_eq_some_iff.1 hi
  simp only [Prod.mk.injEq] at hzz
  obtain ⟨hz1, hz2, hz3⟩ := hzz
  obtain ⟨v', w', hr, ho, hgr, _, hat⟩ := run_append_own_at (P := P) w base t ty e i z 1 bytes ht hi' hz1 hz2 hz3 hz (by omega) v ps.length (ps.map (·.1)) hown.1 ⟨g, 0, none⟩ 1 c [vx] rfl
    (fun j u hj => by
      match j, hj with
      | 0, hj => simp at hj; subst hj; exact hg) (by simpa using h1) (by unfold maxLen; omega)
      (by have : (ps.length + 1) * bytes ≤ (ps.length + 1) * 24 := Nat.mul_le_mul_left _ hb
          omega) hbase
  refine ⟨v', w', hr, ⟨?_, ?_⟩, ?_⟩
  · simpa using ho
  · -- nothing but the row itself is otherwise
    have key : ∀ (y : Value) (q : α), (∀ bh, (A bh ∨ v.ownBlock = some bh ∨ w.heap.size ≤ bh) → R w y q bh) → ∀ bh, (A bh ∨ v'.ownBlock = some bh ∨ w'.heap.size ≤ bh) → R w' y q bh := by
      intro y q hq bh hbh
      have hw : A bh ∨ v.ownBlock = some bh ∨ w.heap.size ≤ bh := by
        rcases hbh with h | h | h
        · exact Or.inl h
        · rcases hat with h' | h'
          · exact Or.inr (Or.inl (h' ▸ h))
          · rw [h'] at h; injection h with h; exact Or.inr (Or.inr (by omega))
        · exact Or.inr (Or.inr (Nat.le_trans hgr.size h))
      cases hv : v.ownBlock with
      | none => exact kR.keep (hq bh hw) (hq bh hw) ⟨hgr.os, hgr.tape, hgr.output, hgr.size, fun k hk _ => hgr.block k hk (by rw [hv]; simp)⟩
      | some r => exact kR.keep (hq r (Or.inr (Or.inl hv))) (hq bh hw) ⟨hgr.os, hgr.tape, hgr.output, hgr.size, fun k hk hne => hgr.block k hk (by rw [hv]; simpa using hne)⟩
    intro x hx bh hbh
    rcases List.mem_append.1 hx with hx | hx
    · exact key x.1 x.2 (hown.2 x hx) bh hbh
    · simp at hx; subst hx; exact key vx m hs bh hbh
  · refine ⟨hgr.os, hgr.tape, hgr.output, hgr.size, fun k hk => hgr.block k (by omega) fun e => ?_⟩
    have := (hown.1.lt k e.symm).1
    omega
theorem wp_append_g {P : Program} {α : Type} {e : TypeId} {R : World → Value → α → Nat → Prop} (kR : Kept R) {w : World} {o : Oper} {a : Act} {K : Act → World → Prop} {Q : Exit → Act → World → Prop} (s x : Operand) (t : TypeId)
    (ho : o.op = .call { callee := .builtin .append, args := #[s, x], argTypes := #[t, t] }) (z : Value) (bytes : Nat) (ht : P.underlying t = some (.slice e))
    (hi : (P.info? e).map (fun i => (i.zero, i.size, i.bytes)) = some (some z, 1, bytes)) (hz : z.cells.size = 1) (hb : bytes ≤ 24)
    (base : Nat) (v : Value) (ps : List (Value × α)) (A : Nat → Prop) (hsv : a.eval s = v) (hown : OwnG e R w base v ps A) (g c : Nat) (vx : Value) (m : α) (hx : a.eval x = .slice (some ⟨g, 0, none⟩) 1 c) (hg : w.cell? ⟨g, 0, none⟩ = some vx) (h1 : vx.oneCell' = true)
    (hs : ∀ bh, (A bh ∨ v.ownBlock = some bh ∨ w.heap.size ≤ bh) → R w vx m bh) (hl : ps.length < 1099511627776) (hbase : base ≤ w.heap.size)
    (h : ∀ v' w', OwnG e R w' base v' (ps ++ [(vx, m)]) A → Below base w w' → K (a.put o.dst v') w') : Oper.wp P o a w K Q := by
  obtain ⟨v', w', hr, h2, h3⟩ := run_append_g kR w t o.type z bytes ht hi hz hb base v ps A hown g c vx m hg h1 hs hl hbase
  unfold Oper.wp execOp
  simp only [ho, resolve, invoke, builtin, Sem.run_bind, Sem.run_pure, Result.andThen_ok, List.map_toArray, List.map_cons, List.map_nil, hsv, hx, hr]
  exact h v' w' h2 h3
theorem list_append_g {P : Program} {α : Type} {e : TypeId} {R : World → Value → α → Nat → Prop} (kR : Kept R) {w : World} {ops : Array Oper} {rest : List Oper} {o : Oper} {a : Act} {Q : Exit → Act → World → Prop} (hgd : o.guard = none) (s x : Operand) (t : TypeId)
    (ho : o.op = .call { callee := .builtin .append, args := #[s, x], argTypes := #[t, t] }) (z : Value) (bytes : Nat) (ht : P.underlying t = some (.slice e))
    (hi : (P.info? e).map (fun i => (i.zero, i.size, i.bytes)) = some (some z, 1, bytes)) (hz : z.cells.size = 1) (hb : bytes ≤ 24)
    (base : Nat) (v : Value) (ps : List (Value × α)) (A : Nat → Prop) (hsv : a.eval s = v) (hown : OwnG e R w base v ps A) (g c : Nat) (vx : Value) (m : α) (hx : a.eval x = .slice (some ⟨g, 0, none⟩) 1 c) (hg : w.cell? ⟨g, 0, none⟩ = some vx) (h1 : vx.oneCell' = true)
    (hs : ∀ bh, (A bh ∨ v.ownBlock = some bh ∨ w.heap.size ≤ bh) → R w vx m bh) (hl : ps.length < 1099511627776) (hbase : base ≤ w.heap.size)
    (h : ∀ v' w', OwnG e R w' base v' (ps ++ [(vx, m)]) A → Below base w w' → wpList P ops Q rest (a.put o.dst v') w') : wpList P ops Q (o :: rest) a w :=
  wpList_plain hgd fun _ hK => wp_append_g kR s x t ho z bytes ht hi hz hb base v ps A hsv hown g c vx m hx hg h1 hs hl hbase fun v' w' h2 h3 => hK _ _ (h v' w' h2 h3)

/-- One slice just laid in a new block, put behind such a row. -/
theorem own_one {α : Type} {e : TypeId} {R : World → Value → α → Nat → Prop} (kR : Kept R) {w : World} {base : Nat} {v : Value} {ps : List (Value × α)} {A : Nat → Prop} (h : OwnG e R w base v ps A) (vx : Value) (t : TypeId) : OwnG e R (w.alloc (.cells #[vx] t)) base v ps A := h.ext kR (Ext.alloc w _)
theorem cell_one (w : World) (vx : Value) (t : TypeId) : (w.alloc (.cells #[vx] t)).cell? ⟨w.heap.size, 0, none⟩ = some vx := by
  rw [(At.new w #[vx] t).cell]; rfl

section
variable {P : Program} {ops : Array Oper} {Q : Exit → Act → World → Prop} {md : Region.Mode} {S : World → Prop}
/-- In a region that draws: an operation that yields the same in all worlds of S is taken first. -/
theorem takeS (i : Nat) (d : Option Tmp) (v : Value) {oi : Oper} {fuel : Nat} {listed : Array Bool} {a : Act} {w : World} (hi : ops[i]? = some oi) (hd : oi.dst = d)
    (hs : Region.noSelect ops = true) (hf : Region.free md ops listed i = true) (hr : (Region.ready md ops listed).contains i = true)
    (hQ : ∀ c a w, Q (.panic c) (a.put d v) w → Q (.panic c) a w) (hw : Region.wanted oi (yielded ops a.tmps) = true) (hS : S w) (hy : ∀ w', S w' → (execOp a.eval oi).run P w' = .ok (.value v) w')
    (h : wpAnyH P md ops Q S fuel (listed.setIfInBounds i true) (a.put d v) w) : wpAnyH P md ops Q S (fuel + 1) listed a w := by
  subst hd
  exact wpAnyH_take hi hs hf hr hQ (Or.inl ⟨hw, hy⟩) hS h
/-- Just one may come up. -/
theorem nextS (i : Nat) {oi : Oper} {fuel : Nat} {listed : Array Bool} {a : Act} {w : World} (hi : ops[i]? = some oi)
    (hr : Region.ready md ops listed = [i]) (hw : Region.wanted oi (yielded ops a.tmps) = true)
    (h : oi.wp P a w (fun a' w' => S w' ∧ wpAnyH P md ops Q S fuel (listed.setIfInBounds i true) a' w') Q) : wpAnyH P md ops Q S (fuel + 1) listed a w := by
  refine wpAnyH_all hr (by simp) fun j hj => ?_
  have hj : j = i := by simpa using hj
  subst hj
  refine wpOp_step hi fun K hK => ?_
  rw [if_pos hw]
  exact Oper.wp_mono (fun a' w' h' => hK a' w' h') h
end
/-- A call, whatever it makes. -/
theorem callS {P : Program} {op : Oper} {a : Act} {w : World} {K : Act → World → Prop} {Q : Exit → Act → World → Prop} (d : Option Tmp) (hd : op.dst = d) (f : FuncId) (args : Array Value)
    (hx : (execOp a.eval op).run P w = .ok (.enter f args) w) (R : Value → World → Prop) (hc : Calls P f args w fun e w' => ∃ v, e = .returned v ∧ R v w')
    (h : ∀ v w', R v w' → K (a.put d v) w') : op.wp P a w K Q := by
  subst hd
  unfold Oper.wp
  rw [hx]
  exact hc.mono fun e w' he => by obtain ⟨v, rfl, hr⟩ := he; exact h v w' hr
theorem makeS {P : Program} {op : Oper} {a : Act} {w w1 : World} {K : Act → World → Prop} {Q : Exit → Act → World → Prop} (d : Option Tmp) (hd : op.dst = d) (v : Value)
    (hx : (execOp a.eval op).run P w = .ok (.value v) w1) (h : K (a.put d v) w1) : op.wp P a w K Q := by
  subst hd
  unfold Oper.wp
  rw [hx]
  exact h

/-- string(b) of no bytes. -/
theorem conv_zero {P : Program} (w : World) (src dst e : TypeId) (hs : P.underlying src = some (.slice e)) (he : P.underlying e = some (.int .u8)) (hd : P.underlying dst = some .string) (p : Option Addr) (c : Nat) :
    (convert src dst (.slice p 0 c)).run P w = .ok (.string (strOfNums [])) w := by
  rw [run_convert_bytes_string w src dst e _ 0 c hs he hd]
  cases p <;> simp [Conv.bytesToString, loadCells]
  all_goals rfl
/-- string(b) of whatever bytes. -/
theorem conv_src {P : Program} (src dst e : TypeId) (hs : P.underlying src = some (.slice e)) (he : P.underlying e = some (.int .u8)) (hd : P.underlying dst = some .string) {w : World} {v : Value} {m : List Int} {b : Nat} (h : Src w v m b) :
    (convert src dst v).run P w = .ok (.string (strOfNums m)) w := by
  obtain ⟨ad, cap, sb, so, rfl, _, h3, _, h5, h6⟩ := h
  by_cases hm : 0 < m.length
  · obtain rfl := h3 hm
    exact run_convert_bytes_arg w src e hs he sb so m.length cap m rfl h5 dst hd
  · have h0 : m = [] := List.length_eq_zero_iff.1 (by omega)
    subst h0
    exact conv_zero w src dst e hs he hd ad cap
end Go.Sha
