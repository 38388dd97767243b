/- Bytes that lie apart from some blocks; Refs in memory: rows that are read, rows of the call's own. No conditions: definitions and lemmas. -/
import Derived.Test.YtnhokjnmpdiokaaGreatDoorHaM
import Derived.Test.YtnhokjnmpdiokaaGreatDoorIa
namespace Go.Proofs.YtnhokjnmpdiokaaGreatDoor
open Go.RowKit Go.Sha Go.Pth
set_option linter.unusedSimpArgs false
set_option linter.unusedVariables false

def Apt (X : Nat → Prop) (w : World) (v : Value) (m : List Int) : Prop := ∀ bh, X bh ∨ w.heap.size ≤ bh → Sha.Src w v m bh
theorem Apt.now {X : Nat → Prop} {w : World} {v : Value} {m : List Int} (h : Apt X w v m) : Sha.Src w v m w.heap.size := h _ (Or.inr (Nat.le_refl _))
theorem Apt.ext {X : Nat → Prop} {w w' : World} {v : Value} {m : List Int} (h : Apt X w v m) (e : Ext w w') : Apt X w' v m := fun bh hb =>
  (h bh (hb.imp_right fun h => Nat.le_trans e.size h)).below e
theorem Apt.mono {X X' : Nat → Prop} {w : World} {v : Value} {m : List Int} (h : Apt X w v m) (hx : ∀ i, X' i → X i ∨ w.heap.size ≤ i) : Apt X' w v m := fun bh hb => by
  rcases hb with hb | hb
  · exact h bh (hx bh hb)
  · exact h bh (Or.inr hb)
theorem Apt.chg {X Y : Nat → Prop} {w w' : World} {v : Value} {m : List Int} (h : Apt X w v m) (c : V.Chg Y w w') (hy : ∀ i, Y i → X i ∨ w.heap.size ≤ i) : Apt X w' v m := fun bh hb => by
  have h0 := h bh (hb.imp_right fun h => Nat.le_trans c.size h)
  obtain ⟨ad, cap, sb, so, h1, h2, h3, h4, h5, h6⟩ := h0
  refine ⟨ad, cap, sb, so, h1, h2, h3, h4, fun j hj => ?_, h6⟩
  have hm : 0 < m.length := by omega
  have lt := World.block_lt_of_cell? w _ (h5 j hj)
  refine c.cell (h5 j hj) fun hY => ?_
  rcases hy _ hY with hX | hX
  · obtain ⟨ad', cap', sb', so', h1', h2', h3', h4', h5', h6'⟩ := h sb (Or.inl hX)
    rw [h1] at h1'
    injection h1' with ha
    rw [h3 hm, h3' hm] at ha
    injection ha with ha
    injection ha with ha
    exact h4' ha.symm
  · simp at lt hX; omega
theorem Apt.nil (X : Nat → Prop) (w : World) : Apt X w (.slice none 0 0) [] := fun bh _ => src_nil w bh
structure RV where
  p : ByteArray
  k : Int
  z : Int
  m : Int
  t : Int
  v : Value
  r : List Int
structure RD where
  p : ByteArray
  k : Int
  z : Int
  m : Int
  t : Int
  r : List Int
def RV.d (x : RV) : RD := ⟨x.p, x.k, x.z, x.m, x.t, x.r⟩
def rcs (x : RV) : List Value := [.string x.p, .int .i64 x.k, .int .i64 x.z, .int .i64 x.m, .int .u64 x.t, x.v]
def rcells : List RV → List Value
  | [] => []
  | x :: r => rcs x ++ rcells r
theorem rcs_len (x : RV) : (rcs x).length = 6 := rfl
theorem rcells_app : ∀ a b : List RV, rcells (a ++ b) = rcells a ++ rcells b
  | [], _ => rfl
  | x :: r, b => by simp only [List.cons_append, rcells, rcells_app r b, List.append_assoc]
theorem rcells_get : ∀ (l : List RV) (j : Nat) (x : RV) (c : Nat) (u : Value), l[j]? = some x → (rcs x)[c]? = some u → (rcells l)[j * 6 + c]? = some u
  | [], j, x, c, u, h, _ => by simp at h
  | y :: r, 0, x, c, u, h, k => by
    simp at h; subst h
    have hc : c < 6 := by have := (List.getElem?_eq_some_iff.1 k).1; simpa [rcs_len] using this
    rw [show 0 * 6 + c = c by omega]
    simp only [rcells]
    rw [List.getElem?_append_left (by rw [rcs_len]; omega)]
    exact k
  | y :: r, j + 1, x, c, u, h, k => by
    have := rcells_get r j x c u (by simpa using h) k
    rw [show (j + 1) * 6 + c = 6 + (j * 6 + c) by omega]
    simp only [rcells]
    rw [List.getElem?_append_right (by rw [rcs_len]; omega), rcs_len, Nat.add_sub_cancel_left]
    exact this

structure RRr (X : Nat → Prop) (w : World) (v : Value) (l : List RV) (ad : Option Addr) (cap b o : Nat) : Prop where
  val : v = .slice ad l.length cap
  cap_ : l.length ≤ cap
  adr : 0 < l.length → ad = some ⟨b, o, none⟩
  apt : 0 < l.length → ¬ X b ∧ b < w.heap.size
  cell : ∀ j x, l[j]? = some x → ∀ c u, (rcs x)[c]? = some u → w.cell? ⟨b, o + j * 6 + c, none⟩ = some u
  src : ∀ x ∈ l, Apt X w x.v x.r
def RR (X : Nat → Prop) (w : World) (v : Value) (l : List RV) : Prop := ∃ ad cap b o, RRr X w v l ad cap b o
theorem RRr.mono {X X' : Nat → Prop} {w : World} {v : Value} {l : List RV} {ad : Option Addr} {cap b o : Nat} (h : RRr X w v l ad cap b o) (hx : ∀ i, X' i → X i ∨ w.heap.size ≤ i) : RRr X' w v l ad cap b o :=
  ⟨h.val, h.cap_, h.adr, fun hl => ⟨fun k => (hx b k).elim (h.apt hl).1 fun q => absurd (h.apt hl).2 (by omega), (h.apt hl).2⟩, h.cell, fun x m => (h.src x m).mono hx⟩
theorem RRr.chg {X Y : Nat → Prop} {w w' : World} {v : Value} {l : List RV} {ad : Option Addr} {cap b o : Nat} (h : RRr X w v l ad cap b o) (c : V.Chg Y w w') (hy : ∀ i, Y i → X i ∨ w.heap.size ≤ i) : RRr X w' v l ad cap b o :=
  ⟨h.val, h.cap_, h.adr, fun hl => ⟨(h.apt hl).1, Nat.lt_of_lt_of_le (h.apt hl).2 c.size⟩, fun j x hj q u hu => by
    have hl : 0 < l.length := by have := (List.getElem?_eq_some_iff.1 hj).1; omega
    exact c.cell (h.cell j x hj q u hu) fun k => (hy _ k).elim (h.apt hl).1 fun q => absurd (h.apt hl).2 (by simp at q; omega), fun x m => (h.src x m).chg c hy⟩
theorem RRr.ext {X : Nat → Prop} {w w' : World} {v : Value} {l : List RV} {ad : Option Addr} {cap b o : Nat} (h : RRr X w v l ad cap b o) (e : Ext w w') : RRr X w' v l ad cap b o :=
  h.chg (Y := fun _ => False) ⟨e.os, e.tape, e.output, e.size, fun i hi _ => e.block i hi⟩ (fun _ k => k.elim)
theorem RR.mono {X X' : Nat → Prop} {w : World} {v : Value} {l : List RV} (h : RR X w v l) (hx : ∀ i, X' i → X i ∨ w.heap.size ≤ i) : RR X' w v l := by
  obtain ⟨_, _, _, _, h⟩ := h; exact ⟨_, _, _, _, h.mono hx⟩
theorem RR.chg {X Y : Nat → Prop} {w w' : World} {v : Value} {l : List RV} (h : RR X w v l) (c : V.Chg Y w w') (hy : ∀ i, Y i → X i ∨ w.heap.size ≤ i) : RR X w' v l := by
  obtain ⟨_, _, _, _, h⟩ := h; exact ⟨_, _, _, _, h.chg c hy⟩
theorem RR.ext {X : Nat → Prop} {w w' : World} {v : Value} {l : List RV} (h : RR X w v l) (e : Ext w w') : RR X w' v l := by
  obtain ⟨_, _, _, _, h⟩ := h; exact ⟨_, _, _, _, h.ext e⟩
theorem RR.nil (X : Nat → Prop) (w : World) : RR X w (.slice none 0 0) [] := ⟨none, 0, 0, 0, rfl, Nat.le_refl _, fun h => by simp at h, fun h => by simp at h, fun j x h => by simp at h, fun x h => by simp at h⟩
theorem RRr.cells {X : Nat → Prop} {w : World} {v : Value} {l : List RV} {ad : Option Addr} {cap b o : Nat} (h : RRr X w v l ad cap b o) (j : Nat) (x : RV) (hj : l[j]? = some x) :
    w.cell? ⟨b, o + j * 6, none⟩ = some (.string x.p) ∧ w.cell? ⟨b, o + j * 6 + 1, none⟩ = some (.int .i64 x.k) ∧ w.cell? ⟨b, o + j * 6 + 2, none⟩ = some (.int .i64 x.z) ∧
    w.cell? ⟨b, o + j * 6 + 3, none⟩ = some (.int .i64 x.m) ∧ w.cell? ⟨b, o + j * 6 + 4, none⟩ = some (.int .u64 x.t) ∧ w.cell? ⟨b, o + j * 6 + 5, none⟩ = some x.v :=
  ⟨h.cell j x hj 0 _ rfl, h.cell j x hj 1 _ rfl, h.cell j x hj 2 _ rfl, h.cell j x hj 3 _ rfl, h.cell j x hj 4 _ rfl, h.cell j x hj 5 _ rfl⟩
theorem Apt.val {X : Nat → Prop} {w : World} {v : Value} {m : List Int} (h : Apt X w v m) : ∃ ad cap, v = .slice ad m.length cap ∧ m.length ≤ cap := by
  obtain ⟨ad, cap, _, _, h1, h2, _⟩ := h.now; exact ⟨ad, cap, h1, h2⟩

theorem rinfo : (Tryz.prog.info? 52).map (fun i => (i.zero, i.size, i.bytes)) = some (some (.agg #[.string ByteArray.empty, .int .i64 0, .int .i64 0, .int .i64 0, .int .u64 0, .slice none 0 0]), 6, 72) := by kernel_rfl
def OwnR (w : World) (base : Nat) (v : Value) (l : List RV) : Prop :=
  w.ownsRow base 52 6 v l.length (rcells l) ∧ ∀ x ∈ l, ∀ bh, (bh < base ∨ v.ownBlock = some bh ∨ w.heap.size ≤ bh) → Sha.Src w x.v x.r bh
theorem OwnR.nil (w : World) (base : Nat) : OwnR w base (.slice none 0 0) [] := ⟨World.ownsRow_nil w base _ 6, fun x hx => by simp at hx⟩
theorem OwnR.ext {w w' : World} {base : Nat} {v : Value} {l : List RV} (h : OwnR w base v l) (he : Ext w w') : OwnR w' base v l := by
  obtain ⟨⟨h1, h2⟩, h3⟩ := h
  refine ⟨⟨h1, ?_⟩, fun x hx bh hb => (h3 x hx bh (hb.imp_right (Or.imp_right fun h => Nat.le_trans he.size h))).ext he⟩
  rcases h2 with h2 | ⟨g, cap, cur, hv, hg, hw, r⟩
  · exact Or.inl h2
  · exact Or.inr ⟨g, cap, cur, hv, hg, At.below (c := cur) (t := 52) hw he (At.lt (c := cur) (t := 52) hw), r⟩
theorem OwnR.len {w : World} {base : Nat} {v : Value} {l : List RV} (h : OwnR w base v l) : ∃ ad cap, v = .slice ad l.length cap := by
  obtain ⟨⟨_, ⟨rfl, h0⟩ | ⟨g, cap, cur, rfl, _⟩⟩, _⟩ := h
  · exact ⟨none, 0, by rw [h0]⟩
  · exact ⟨_, cap, rfl⟩
theorem OwnR.block {w : World} {base : Nat} {v : Value} {l : List RV} (h : OwnR w base v l) : ∀ g, v.ownBlock = some g → base ≤ g ∧ g < w.heap.size := h.1.lt
theorem run_append_r (w : World) (t ty : TypeId) (ht : Tryz.prog.underlying t = some (.slice 52)) (base : Nat) (v : Value) (l : List RV) (hown : OwnR w base v l) (g c : Nat) (x : RV)
    (h0 : ∀ j u, (rcs x)[j]? = some u → w.cell? ⟨g, j, none⟩ = some u) (ho : x.v.oneCell' = true)
    (hs : ∀ bh, (bh < base ∨ v.ownBlock = some bh ∨ w.heap.size ≤ bh) → Sha.Src w x.v x.r bh) (hl : l.length < 1099511627776) (hbase : base ≤ w.heap.size) :
    ∃ v' w', (Builtin.append_ #[t, t] ty #[v, .slice (some ⟨g, 0, none⟩) 1 c]).run Tryz.prog w = .ok v' w' ∧ OwnR w' base v' (l ++ [x]) ∧ Below base w w' := by
  obtain ⟨i, hi', hzz⟩ := Option.map_eq_some_iff.1 rinfo
  simp only [Prod.mk.injEq] at hzz
  obtain ⟨hz1, hz2, hz3⟩ := hzz
  obtain ⟨v', w', hr, ho', hgr, _, hat⟩ := run_append_own_at (P := Tryz.prog) w base t ty 52 i _ 6 72 ht hi' hz1 hz2 hz3 rfl (by omega) v l.length (rcells l) hown.1 ⟨g, 0, none⟩ 1 c (rcs x) rfl
    (fun j u hj => by
      cases j with
      | zero => exact h0 0 u hj
      | succ q => simpa [Addr.add] using h0 (q + 1) u hj) (by intro u hu; simp only [rcs, List.mem_cons, List.not_mem_nil, or_false] at hu; rcases hu with h | h | h | h | h | h <;> (subst h; first | rfl | exact ho)) (by unfold maxLen; omega) (by omega) hbase
  refine ⟨v', w', hr, ⟨?_, ?_⟩, ?_⟩
  · rw [List.length_append, rcells_app]
    have e : rcells [x] = rcs x := by simp [rcells]
    rw [e]
    exact ho'
  · have key : ∀ (y : Value) (q : List Int), (∀ bh, (bh < base ∨ v.ownBlock = some bh ∨ w.heap.size ≤ bh) → Sha.Src w y q bh) → ∀ bh, (bh < base ∨ v'.ownBlock = some bh ∨ w'.heap.size ≤ bh) → Sha.Src w' y q bh := by
      intro y q hq bh hbh
      have hw : bh < base ∨ v.ownBlock = some bh ∨ w.heap.size ≤ bh := by
        rcases hbh with h | h | h
        · exact Or.inl h
        · rcases hat with h' | h'
          · exact Or.inr (Or.inl (h' ▸ h))
          · rw [h'] at h; injection h with h; exact Or.inr (Or.inr (by omega))
        · exact Or.inr (Or.inr (Nat.le_trans hgr.size h))
      cases hv : v.ownBlock with
      | none => exact src_keep (hq bh hw) (hq bh hw) ⟨hgr.os, hgr.tape, hgr.output, hgr.size, fun k hk _ => hgr.block k hk (by rw [hv]; simp)⟩
      | some r => exact src_keep (hq r (Or.inr (Or.inl hv))) (hq bh hw) ⟨hgr.os, hgr.tape, hgr.output, hgr.size, fun k hk hne => hgr.block k hk (by rw [hv]; simpa using hne)⟩
    intro y hy bh hbh
    rcases List.mem_append.1 hy with hy | hy
    · exact key y.v y.r (hown.2 y hy) bh hbh
    · simp at hy; subst hy; exact key y.v y.r hs bh hbh
  · refine ⟨hgr.os, hgr.tape, hgr.output, hgr.size, fun k hk => hgr.block k (by omega) fun e => ?_⟩
    have := (hown.1.lt k e.symm).1
    omega
theorem list_append_r {w : World} {ops : Array Oper} {rest : List Oper} {o : Oper} {a : Act} {Q : Exit → Act → World → Prop} (hgd : o.guard = none) (s x : Operand) (t : TypeId)
    (ho : o.op = .call { callee := .builtin .append, args := #[s, x], argTypes := #[t, t] }) (ht : Tryz.prog.underlying t = some (.slice 52))
    (base : Nat) (v : Value) (l : List RV) (hsv : a.eval s = v) (hown : OwnR w base v l) (g c : Nat) (p : RV) (hx : a.eval x = .slice (some ⟨g, 0, none⟩) 1 c)
    (h0 : ∀ j u, (rcs p)[j]? = some u → w.cell? ⟨g, j, none⟩ = some u) (hone : p.v.oneCell' = true)
    (hs : ∀ bh, (bh < base ∨ v.ownBlock = some bh ∨ w.heap.size ≤ bh) → Sha.Src w p.v p.r bh) (hl : l.length < 1099511627776) (hbase : base ≤ w.heap.size)
    (h : ∀ v' w', OwnR w' base v' (l ++ [p]) → Below base w w' → wpList Tryz.prog ops Q rest (a.put o.dst v') w') : wpList Tryz.prog ops Q (o :: rest) a w :=
  wpList_plain hgd fun _ hK => by
    obtain ⟨v', w', hr, h2, h3⟩ := run_append_r w t o.type ht base v l hown g c p h0 hone hs hl hbase
    unfold Oper.wp execOp
    simp only [ho, resolve, invoke, builtin, Sem.run_bind, Sem.run_pure, Result.andThen_ok, List.map_toArray, List.map_cons, List.map_nil, hsv, hx, hr]
    exact hK _ _ (h v' w' h2 h3)
theorem OwnR.rr {X : Nat → Prop} {w : World} {base : Nat} {v : Value} {l : List RV} (h : OwnR w base v l) (hX : ∀ i, X i → i < base) : RR X w v l := by
  have h2 : ∀ x ∈ l, Apt X w x.v x.r := fun x hx bh hb => h.2 x hx bh (hb.elim (fun k => Or.inl (hX bh k)) fun k => Or.inr (Or.inr k))
  have hbk := h.block
  obtain ⟨⟨_, ⟨rfl, h0⟩ | ⟨g, cap, cur, rfl, hg, hw, hn, _, _, hx⟩⟩, _⟩ := h
  · have : l = [] := List.length_eq_zero_iff.1 h0
    subst this
    exact RR.nil X w
  · have hw' : w.heap[g]? = some (.cells cur 52 (0, 0)) := hw
    have hgs : g < w.heap.size := (hbk g rfl).2
    refine ⟨_, cap, g, 0, rfl, hn, fun _ => rfl, fun _ => ⟨fun k => absurd (hX g k) (by omega), hgs⟩, fun j x hj q u hu => ?_, h2⟩
    have hjl : j < l.length := (List.getElem?_eq_some_iff.1 hj).1
    have hq : q < 6 := by have := (List.getElem?_eq_some_iff.1 hu).1; simpa [rcs_len] using this
    have key : ∀ q, q < l.length * 6 → w.cell? ⟨g, q, none⟩ = (rcells l)[q]? := fun q hq => by
      have e : cur.toList[q]? = (rcells l)[q]? := by rw [← hx, List.getElem?_take_of_lt (by omega)]
      simp only [World.cell?, hw']
      rw [← Array.getElem?_toList, e]
      rfl
    rw [Nat.zero_add]
    exact (key _ (by omega)).trans (rcells_get l j x q u hj hu)
end Go.Proofs.YtnhokjnmpdiokaaGreatDoor
