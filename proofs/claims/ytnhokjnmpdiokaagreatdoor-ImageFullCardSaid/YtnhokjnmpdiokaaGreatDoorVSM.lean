/- A store in memory. No conditions: definitions and lemmas. Contracts of Insert at the end, put, apply of one act that makes a name. Contract of apply: one act that makes a name, at the end of all; none. Contracts of spend, begin, mark, there, file. -/
import Derived.Test.YtnhokjnmpdiokaaGreatDoorVNM
namespace Go.Proofs.YtnhokjnmpdiokaaGreatDoor.V
open Go.RowKit Go.Pth

structure Ac where
  frm : B
  too : B
  made : Option Nat
def acells (l : List Ac) : List Value := l.flatMap fun x => [.string (tx x.frm), .string (tx x.too), optr x.made]
structure SV where
  room : Int
  clock : Int
  names : List Nm
  kept : List Nm
  acts : List Ac
  power : Int
  left : Int
  ops : Int
  ids : List Nat
  nd : Nat → NV
structure SW where
  n : Value
  k : Value
  a : Value
  nv : Nat → Vs
inductive Role
  | store | names | kept | acts | node (a : Nat)
  deriving DecidableEq
def scells (S : SV) (V : SW) : Array Value := #[.int .i64 S.room, .int .u64 S.clock, V.n, V.k, V.a, .int .i64 S.power, .int .i64 S.left, .int .i64 S.ops]
structure Rep (w : World) (b : Nat) (S : SV) (V : SW) (L : Nat → Option Role) : Prop where
  cell : At w b (scells S V) 92
  nm : Row w 79 2 V.n S.names.length (ents S.names)
  kp : Row w 79 2 V.k S.kept.length (ents S.kept)
  ac : Row w 167 3 V.a S.acts.length (acells S.acts)
  nd : ∀ a ∈ S.ids, NdIn w a (S.nd a) (V.nv a) ∧ (S.nd a).Ok
  lb : L b = some .store
  ln : ∀ g, V.n.ownBlock = some g → L g = some .names
  lk : ∀ g, V.k.ownBlock = some g → L g = some .kept
  la : ∀ g, V.a.ownBlock = some g → L g = some .acts
  ld : ∀ a ∈ S.ids, ∀ i, Foot a (V.nv a) i → L i = some (.node a)
  lt : ∀ i, L i ≠ none → i < w.heap.size
  sn : Srt S.names
  sk : Srt S.kept
  rn : ∀ p ∈ S.names, p.2 ∈ S.ids
  rk : ∀ p ∈ S.kept, p.2 ∈ S.ids
theorem Rep.keep {w w' : World} {b : Nat} {S : SV} {V : SW} {L : Nat → Option Role} (h : Rep w b S V L) (hb : ∀ i, L i ≠ none → w'.heap[i]? = w.heap[i]?) (hs : w.heap.size ≤ w'.heap.size) : Rep w' b S V L :=
  ⟨h.cell.keep (hb b (by rw [h.lb]; simp)), h.nm.keep fun g hg => hb g (by rw [h.ln g hg]; simp), h.kp.keep fun g hg => hb g (by rw [h.lk g hg]; simp), h.ac.keep fun g hg => hb g (by rw [h.la g hg]; simp),
    fun a ha => ⟨(h.nd a ha).1.keep fun i hi => hb i (by rw [h.ld a ha i hi]; simp), (h.nd a ha).2⟩, h.lb, h.ln, h.lk, h.la, h.ld, fun i hi => Nat.lt_of_lt_of_le (h.lt i hi) hs, h.sn, h.sk, h.rn, h.rk⟩
theorem Rep.ext {w w' : World} {b : Nat} {S : SV} {V : SW} {L : Nat → Option Role} (h : Rep w b S V L) (he : Ext w w') : Rep w' b S V L := h.keep (fun i hi => he.block i (h.lt i hi)) he.size
structure StTo (w w' : World) (L L' : Nat → Option Role) : Prop where
  chg : Chg (fun i => L i ≠ none) w w'
  lab : ∀ i, L' i ≠ none → L i ≠ none ∨ w.heap.size ≤ i
theorem StTo.refl (w : World) (L : Nat → Option Role) : StTo w w L L := ⟨Chg.refl _ w, fun _ h => Or.inl h⟩
theorem StTo.of_ext {w w' : World} {L : Nat → Option Role} (h : Ext w w') : StTo w w' L L := ⟨Chg.of_ext h, fun _ h => Or.inl h⟩
theorem StTo.trans {w w1 w2 : World} {L L1 L2 : Nat → Option Role} (h : StTo w w1 L L1) (k : StTo w1 w2 L1 L2) : StTo w w2 L L2 :=
  ⟨h.chg.trans k.chg fun i hi hf => by rcases h.lab i hf with h1 | h1; exact h1; omega,
   fun i hi => by
    rcases k.lab i hi with h1 | h1
    · exact h.lab i h1
    · exact Or.inr (Nat.le_trans h.chg.size h1)⟩
def upd {α : Type} (f : Nat → α) (a : Nat) (v : α) : Nat → α := fun i => if i = a then v else f i
theorem upd_same {α : Type} (f : Nat → α) (a : Nat) (v : α) : upd f a v a = v := by simp [upd]
theorem upd_other {α : Type} (f : Nat → α) (a i : Nat) (v : α) (h : i ≠ a) : upd f a v i = f i := by simp [upd, h]
theorem Rep.setc {w : World} {b : Nat} {S S' : SV} {V V' : SW} {L : Nat → Option Role} (h : Rep w b S V L) (j : Nat) (v : Value) (hc : (scells S V).setIfInBounds j v = scells S' V')
    (h1 : S'.names = S.names) (h2 : S'.kept = S.kept) (h3 : S'.acts = S.acts) (h4 : S'.ids = S.ids) (h5 : S'.nd = S.nd) (h6 : V' = V) : Rep (w.setCell ⟨b, j, none⟩ v) b S' V' L ∧ StTo w (w.setCell ⟨b, j, none⟩ v) L L := by
  subst h6
  have sc := Chg.setCell w b j v
  have ne : ∀ i r, L i = some r → r ≠ .store → ¬ i = b := fun i r hi hr e => by subst e; rw [h.lb] at hi; injection hi with hi; exact hr hi.symm
  refine ⟨⟨?_, ?_, ?_, ?_, ?_, h.lb, h.ln, h.lk, h.la, ?_, fun i hi => by rw [size_setCell]; exact h.lt i hi, by rw [h1]; exact h.sn, by rw [h2]; exact h.sk, by rw [h1, h4]; exact h.rn, by rw [h2, h4]; exact h.rk⟩, sc.mono fun i _ e => by rw [e, h.lb]; simp, fun i hi => Or.inl hi⟩
  · rw [← hc]; exact h.cell.set j v
  · rw [h1]; exact h.nm.chg sc fun g hg => ne g _ (h.ln g hg) (by simp)
  · rw [h2]; exact h.kp.chg sc fun g hg => ne g _ (h.lk g hg) (by simp)
  · rw [h3]; exact h.ac.chg sc fun g hg => ne g _ (h.la g hg) (by simp)
  · rw [h4, h5]; exact fun a ha => ⟨(h.nd a ha).1.chg sc fun i hi => ne i _ (h.ld a ha i hi) (by simp), (h.nd a ha).2⟩
  · rw [h4]; exact h.ld
theorem Rep.node {w w' : World} {b : Nat} {S : SV} {V : SW} {L : Nat → Option Role} (h : Rep w b S V L) (a : Nat) (ha : a ∈ S.ids) (N' : NV) (V' : Vs) (hn : NdIn w' a N' V') (ok : N'.Ok) (ht : NdTo w w' a (V.nv a) V') :
    ∃ L', Rep w' b { S with nd := upd S.nd a N' } { V with nv := upd V.nv a V' } L' ∧ StTo w w' L L' := by
  have nf : ∀ i r, L i = some r → r ≠ .node a → ¬ Foot a (V.nv a) i := fun i r hi hr hf => by rw [h.ld a ha i hf] at hi; injection hi with hi; exact hr hi.symm
  have hsz := ht.chg.size
  have old : ∀ i, i < w.heap.size → (fun i => if w.heap.size ≤ i ∧ i < w'.heap.size then some (Role.node a) else L i) i = L i := fun i hi => by simp only []; rw [if_neg (by omega)]
  refine ⟨fun i => if w.heap.size ≤ i ∧ i < w'.heap.size then some (.node a) else L i, ⟨?_, ?_, ?_, ?_, ?_, ?_, ?_, ?_, ?_, ?_, ?_, h.sn, h.sk, h.rn, h.rk⟩, ?_, ?_⟩
  · exact ht.chg.at h.cell (nf b _ h.lb (by simp))
  · exact h.nm.chg ht.chg fun g hg => nf g _ (h.ln g hg) (by simp)
  · exact h.kp.chg ht.chg fun g hg => nf g _ (h.lk g hg) (by simp)
  · exact h.ac.chg ht.chg fun g hg => nf g _ (h.la g hg) (by simp)
  · intro c hc
    by_cases e : c = a
    · subst e; simp only [upd_same]; exact ⟨hn, ok⟩
    · simp only [upd_other _ _ _ _ e]
      exact ⟨(h.nd c hc).1.chg ht.chg fun i hi => nf i _ (h.ld c hc i hi) (by simpa using e), (h.nd c hc).2⟩
  · exact (old b h.cell.lt).trans h.lb
  · exact fun g hg => (old g (h.nm.lt g hg)).trans (h.ln g hg)
  · exact fun g hg => (old g (h.kp.lt g hg)).trans (h.lk g hg)
  · exact fun g hg => (old g (h.ac.lt g hg)).trans (h.la g hg)
  · intro c hc i hi
    by_cases e : c = a
    · subst e
      simp only [upd_same] at hi
      rcases ht.foot i hi with h1 | h1
      · exact (old i ((h.nd c hc).1.lt i h1)).trans (h.ld c hc i h1)
      · show (if _ then _ else _) = _; rw [if_pos ⟨h1, hn.lt i hi⟩]
    · simp only [upd_other _ _ _ _ e] at hi
      exact (old i ((h.nd c hc).1.lt i hi)).trans (h.ld c hc i hi)
  · intro i hi
    (try simp only [] at hi)
    by_cases e : w.heap.size ≤ i ∧ i < w'.heap.size
    · exact e.2
    · rw [if_neg e] at hi; exact Nat.lt_of_lt_of_le (h.lt i hi) hsz
  · exact ht.chg.mono fun i _ hi => by rw [h.ld a ha i hi]; simp
  · intro i hi
    (try simp only [] at hi)
    by_cases e : w.heap.size ≤ i ∧ i < w'.heap.size
    · exact Or.inr e.1
    · rw [if_neg e] at hi; exact Or.inl hi
theorem Rep.more {w w' : World} {b : Nat} {S : SV} {V : SW} {L : Nat → Option Role} (h : Rep w b S V L) (he : Ext w w') (a : Nat) (ha : w.heap.size ≤ a) (N : NV) (Vn : Vs) (hn : NdIn w' a N Vn) (ok : N.Ok) (hf : ∀ i, Foot a Vn i → w.heap.size ≤ i) :
    ∃ L', Rep w' b { S with ids := a :: S.ids, nd := upd S.nd a N } { V with nv := upd V.nv a Vn } L' ∧ StTo w w' L L' := by
  have hr := h.ext he
  have hsz := he.size
  have na : ∀ c ∈ S.ids, c ≠ a := fun c hc e => by
    have := (h.nd c hc).1.cells.lt
    omega
  have old : ∀ i, i < w.heap.size → (fun i => if w.heap.size ≤ i ∧ i < w'.heap.size then some (Role.node a) else L i) i = L i := fun i hi => by simp only []; rw [if_neg (by omega)]
  refine ⟨fun i => if w.heap.size ≤ i ∧ i < w'.heap.size then some (.node a) else L i, ⟨hr.cell, hr.nm, hr.kp, hr.ac, ?_, ?_, ?_, ?_, ?_, ?_, ?_, h.sn, h.sk, fun p hp => List.mem_cons_of_mem _ (h.rn p hp), fun p hp => List.mem_cons_of_mem _ (h.rk p hp)⟩, Chg.of_ext he, ?_⟩
  · intro c hc
    rcases List.mem_cons.1 hc with rfl | hc
    · simp only [upd_same]; exact ⟨hn, ok⟩
    · simp only [upd_other _ _ _ _ (na c hc)]; exact hr.nd c hc
  · exact (old b h.cell.lt).trans h.lb
  · exact fun g hg => (old g (h.nm.lt g hg)).trans (h.ln g hg)
  · exact fun g hg => (old g (h.kp.lt g hg)).trans (h.lk g hg)
  · exact fun g hg => (old g (h.ac.lt g hg)).trans (h.la g hg)
  · intro c hc i hi
    rcases List.mem_cons.1 hc with rfl | hc
    · simp only [upd_same] at hi
      show (if _ then _ else _) = _; rw [if_pos ⟨hf i hi, hn.lt i hi⟩]
    · simp only [upd_other _ _ _ _ (na c hc)] at hi
      exact (old i ((h.nd c hc).1.lt i hi)).trans (h.ld c hc i hi)
  · intro i hi
    (try simp only [] at hi)
    by_cases e : w.heap.size ≤ i ∧ i < w'.heap.size
    · exact e.2
    · rw [if_neg e] at hi; exact Nat.lt_of_lt_of_le (h.lt i hi) hsz
  · intro i hi
    (try simp only [] at hi)
    by_cases e : w.heap.size ≤ i ∧ i < w'.heap.size
    · exact Or.inr e.1
    · rw [if_neg e] at hi; exact Or.inl hi
end Go.Proofs.YtnhokjnmpdiokaaGreatDoor.V

namespace Go.Proofs.YtnhokjnmpdiokaaGreatDoor.V
set_option linter.unusedSimpArgs false
open Go.RowKit Go.Pth

theorem Row.src {P : Program} {w : World} {e : TypeId} {k : Nat} {v : Value} {n : Nat} {xs : List Value} (h : Row w e k v n xs) (h1 : ∀ u ∈ xs, u.oneCell' = true) {tx e' : TypeId} (hk : P.underlying tx = some (.slice e')) : Src P k tx v n xs w := by
  rcases h.2 with ⟨rfl, rfl⟩ | ⟨g, cap, cur, rfl, _, _⟩
  · have : xs = [] := List.length_eq_zero_iff.1 (by simpa using h.1)
    subst this
    exact Src.ofNil w hk 0
  · exact Src.ofSlice w hk ⟨g, 0, none⟩ n cap xs h.1 (World.ownsRow.cells h rfl) h1
theorem ents_one (l : List Nm) : ∀ u ∈ ents l, u.oneCell' = true := by
  intro u hu
  unfold ents at hu
  obtain ⟨p, _, hp⟩ := List.mem_flatMap.1 hu
  rcases List.mem_cons.1 hp with rfl | hp
  · rfl
  · rcases List.mem_cons.1 hp with rfl | hp
    · rfl
    · cases hp
theorem TrR.src {w : World} {v : Value} {l : List Nm} {ad : Option Addr} {cap b o : Nat} (h : TrR w v l ad cap b o) (hl : 0 < l.length) {tx e' : TypeId} (hk : Tryz.prog.underlying tx = some (.slice e')) : Src Tryz.prog 2 tx v l.length (ents l) w := by
  rw [h.val, h.adr hl]
  refine Src.ofSlice w hk ⟨b, o, none⟩ l.length cap (ents l) (ents_len l) (fun j u hu => ?_) (ents_one l)
  rw [Addr.add_lit]
  have hj := (List.getElem?_eq_some_iff.1 hu).1
  rw [ents_len] at hj
  have hq : j / 2 < l.length := by omega
  have g := ents_get l (j / 2) hq
  rcases Nat.mod_two_eq_zero_or_one j with e | e
  · have e2 : j / 2 * 2 = j := by omega
    have := h.nm (j / 2) hq
    rw [e2] at this g
    rw [this, ← g.1, hu]
  · have e2 : j / 2 * 2 + 1 = j := by omega
    have := h.nd (j / 2) hq
    rw [Nat.add_assoc, e2] at this
    rw [e2] at g
    rw [this, ← g.2, hu]
theorem info64 : (Tryz.prog.info? 79).map (fun i => (i.zero, i.size, i.bytes)) = some (some (.agg #[.string ByteArray.empty, .pointer none]), 2, 24) := by kernel_rfl
theorem info87 : (Tryz.prog.info? 167).map (fun i => (i.zero, i.size, i.bytes)) = some (some (.agg #[.string ByteArray.empty, .string ByteArray.empty, .pointer none]), 3, 40) := by kernel_rfl
theorem ents_app (a b : List Nm) : ents (a ++ b) = ents a ++ ents b := by simp [ents]

set_option maxRecDepth 100000 in
set_option maxHeartbeats 4000000 in
theorem insert_end (v vr : Value) (l r : List Nm) (w : World) (h : Row w 79 2 v l.length (ents l)) {ad : Option Addr} {cap b o : Nat} (hr : TrR w vr r ad cap b o) (hr0 : 0 < r.length) (hl : l.length ≤ 1000000) (hrl : r.length ≤ 1000000) :
    Calls Tryz.prog 148 #[v, .int .i64 l.length, vr] w fun e w' => ∃ v', e = .returned v' ∧ Row w' 79 2 v' (l.length + r.length) (ents (l ++ r)) ∧ Grew w w' v v' := by
  obtain ⟨i, hi1, hi2, hi3, hi4⟩ := info_of info64
  have HR := fun ty => run_append_row (P := Tryz.prog) w 75 74 ty 79 i _ Tryz.underlying75 hi1 hi2 (by rw [hi3]; rfl) v l.length (ents l) (by rw [hi3]; exact h) vr r.length (ents r) (by rw [hi3]; exact hr.src hr0 Tryz.underlying74) (by simp only [maxLen]; omega) (by rw [hi4]; omega)
  rw [hi3, ← ents_app] at HR
  obtain ⟨da, ca, rfl, hc1, hc2, hc3, hc4⟩ := h.shape
  have hv := hr.val
  subst hv
  obtain ⟨v', w', hrun, hrow, hg⟩ := HR 75
  have R1 := Lib.hid hrun
  have R2 := Lib.hid hrow
  have R3 := Lib.hid hg
  simp only [maxLen] at hc2
  clear HR hrun hrow hg h hi1 hi2 hi3 hi4 hc4 hr
  generalize ents (l ++ r) = X at *
  generalize l.length = n at *
  generalize r.length = m at *
  have q0 : (m == 0) = false := by simp; omega
  have q1 : ((m : Int) == 0) = false := by simp; omega
  have i0 : (0 : Int) ≤ (n : Int) := by omega
  have i1 : (n : Int) ≤ (ca : Int) := by omega
  by_cases hk : ca = n
  · subst hk
    cases da with
    | none =>
      obtain ⟨e1, _⟩ := hc3 rfl
      subst e1
      have R4 := R2.out
      rw [Nat.zero_add] at R4
      have R5 := Lib.hid R4
      clear R4 R2
      go_enter Tryz.func148, Tryz.ntmps148
      go_wp2_with (at_builtin; refine Lib.wpList_append_run _ rfl _ _ _ _ rfl _ _ rfl rfl _ _ R1.out ?_)
      go_ret
      exact ⟨_, rfl, by first | exact R5.out | (rw [Nat.zero_add]; exact R5.out), R3.out⟩
    | some p =>
      clear hc3
      go_enter Tryz.func148, Tryz.ntmps148
      go_wp2_with (at_builtin; refine Lib.wpList_append_run _ rfl _ _ _ _ rfl _ _ rfl rfl _ _ R1.out ?_)
      go_ret
      exact ⟨_, rfl, R2.out, R3.out⟩
  · cases da with
    | none =>
      obtain ⟨e1, e2⟩ := hc3 rfl
      omega
    | some p =>
      clear hc3
      go_enter Tryz.func148, Tryz.ntmps148
      go_wp2_with (at_builtin; refine Lib.wpList_append_run _ rfl _ _ _ _ rfl _ _ rfl rfl _ _ R1.out ?_)
      go_ret
      exact ⟨_, rfl, R2.out, R3.out⟩

theorem runL {P : Program} {op : Oper} {a : Act} {w : World} {K : Act → World → Prop} {Q : Exit → Act → World → Prop} (d : Option Tmp) (hd : op.dst = d) (v : Value) (hr : (execOp a.eval op).run P w = .ok (.value v) w) (h : K (a.put d v) w) : op.wp P a w K Q := runV d hd v w hr h
theorem next_three {P : Program} {ops : Array Oper} {Q : Exit → Act → World → Prop} {md : Region.Mode} (i j l : Nat) {oi oj ol : Oper} {fuel : Nat} {listed : Array Bool} {a : Act} {w : World} (hi : ops[i]? = some oi) (hj : ops[j]? = some oj) (hl : ops[l]? = some ol)
    (hr : Region.ready md ops listed = [i, j, l]) (hgi : oi.guard = none) (hgj : oj.guard = none) (hgl : ol.guard = none)
    (h1 : ∀ K : Act → World → Prop, (∀ a w, wpAny P md ops Q fuel (listed.setIfInBounds i true) a w → K a w) → oi.wp P a w K Q)
    (h2 : ∀ K : Act → World → Prop, (∀ a w, wpAny P md ops Q fuel (listed.setIfInBounds j true) a w → K a w) → oj.wp P a w K Q)
    (h3 : ∀ K : Act → World → Prop, (∀ a w, wpAny P md ops Q fuel (listed.setIfInBounds l true) a w → K a w) → ol.wp P a w K Q) : wpAny P md ops Q (fuel + 1) listed a w := by
  refine wpAny_ready hr (by simp) (AllReady.cons hi (fun K hK => ?_) (AllReady.cons hj (fun K hK => ?_) (AllReady.cons hl (fun K hK => ?_) AllReady.nil)))
  · rw [if_pos (by simp [Region.wanted, hgi])]; exact h1 K hK
  · rw [if_pos (by simp [Region.wanted, hgj])]; exact h2 K hK
  · rw [if_pos (by simp [Region.wanted, hgl])]; exact h3 K hK

def PutPost (w : World) (c j q : Nat) (v : Value) (X : List Value) (e : Ending) (w' : World) : Prop := e = .returned (.tuple #[]) ∧ ∃ v' w1, Row w1 79 2 v' q X ∧ Grew w w1 v v' ∧ w' = w1.setCell ⟨c, j, none⟩ v'
def InsPost (w : World) (q : Nat) (v : Value) (X : List Value) (e : Ending) (w' : World) : Prop := ∃ v', e = .returned v' ∧ Row w' 79 2 v' q X ∧ Grew w w' v v'

set_option maxRecDepth 100000 in
set_option maxHeartbeats 8000000 in
theorem put_gen (c j k q : Nat) (X : List Value) (cs : Array Value) (tc : TypeId) (v vr : Value) (l r : List Nm) (w : World) (hc : At w c cs tc) (hj : cs[j]? = some v) (h : Row w 79 2 v l.length (ents l)) (hoc : v.ownBlock ≠ some c) {ad : Option Addr} {cap b o : Nat} (hr : TrR w vr r ad cap b o) (hr0 : 0 < r.length) (hs : Srt l) (hl : l.length ≤ 1000000)
    (hend : place l (r[0]'hr0).1 = k) (hin : ∀ w', Ext w w' → Calls Tryz.prog 148 #[v, .int .i64 k, vr] w' (InsPost w' q v X)) :
    Calls Tryz.prog 134 #[.pointer (some ⟨c, j, none⟩), vr] w (PutPost w c j q v X) := by
  have cv : w.cell? ⟨c, j, none⟩ = some v := by rw [hc.cell, hj]
  have cn : w.cell? ⟨b, o, none⟩ = some (.string (tx r[0].1)) := by have := hr.nm 0 hr0; simpa using this
  have hv := hr.val
  have had := hr.adr hr0
  subst had
  subst hv
  obtain ⟨dv, kv, hvv, -⟩ := h.shape
  subst hvv
  have PL := Lib.hid (fun w' (he : Ext w w') => (place_any (.slice dv l.length kv) l (tx r[0].1) w' ((Tr.of_row h).ext he) hs hl))
  rw [tx_list, hend] at PL
  have IN := Lib.hid hin
  have AT := Lib.hid (fun w' (he : Ext w w') v' w1 (g : Grew w' w1 (.slice dv l.length kv) v') => g.chg.at (hc.ext he) hoc)
  have CJ := Lib.hid hj
  have GE := Lib.hid (fun w' (he : Ext w w') v' w1 (g : Grew w' w1 (.slice dv l.length kv) v') => (⟨(Chg.of_ext he).trans g.chg fun _ _ x => x, by rcases g.own with e | ⟨q, e1, e2⟩; exact Or.inl e; exact Or.inr ⟨q, e1, Nat.le_trans he.size e2⟩⟩ : Grew w w1 (.slice dv l.length kv) v'))
  have hE : Ext w w.drew := Ext.drew w
  clear hc hj h hr hs hend hoc hin
  generalize tx r[0].1 = nm at *
  have m0 : (0 : Int) < (r.length : Int) := by omega
  generalize r.length = m at *
  generalize l.length = n at *
  go_enter Tryz.func134, Tryz.ntmps134
  go_upto_region 0 with fail
  refine wp_region_any (by kernel_rfl) ?_
  change wpAny _ _ _ _ _ _ _ (World.drew _)
  refine take_at 0 (some 4) (.pointer (some ⟨c, j, none⟩)) rfl rfl (by kernel_rfl) (by kernel_rfl) (by kernel_rfl) (fun _ _ _ h => h) rfl (fun _ => by go_simp) ?_
  simp only [pt0, pt4, pt1, pt2, pt3]
  refine take_at 1 (some 5) (.pointer (some ⟨c, j, none⟩)) rfl rfl (by kernel_rfl) (by kernel_rfl) (by kernel_rfl) (fun _ _ _ h => h) rfl (fun _ => by go_simp) ?_
  simp only [pt0, pt4, pt1, pt2, pt3]
  refine take_at 2 (some 6) (.pointer (some ⟨c, j, none⟩)) rfl rfl (by kernel_rfl) (by kernel_rfl) (by kernel_rfl) (fun _ _ _ h => h) rfl (fun _ => by go_simp) ?_
  simp only [pt0, pt4, pt1, pt2, pt3]
  refine take_at 4 (some 8) (.pointer (some ⟨c, j, none⟩)) rfl rfl (by kernel_rfl) (by kernel_rfl) (by kernel_rfl) (fun _ _ _ h => h) rfl (fun _ => by go_simp) ?_
  simp only [pt0, pt4, pt1, pt2, pt3]
  refine take_at 5 (some 9) (.pointer (some ⟨c, j, none⟩)) rfl rfl (by kernel_rfl) (by kernel_rfl) (by kernel_rfl) (fun _ _ _ h => h) rfl (fun _ => by go_simp) ?_
  simp only [pt0, pt4, pt1, pt2, pt3]
  refine take_at 7 (some 11) (.slice (some ⟨b, o, none⟩) m cap) rfl rfl (by kernel_rfl) (by kernel_rfl) (by kernel_rfl) (fun _ _ _ h => h) rfl (fun _ => by go_simp) ?_
  simp only [pt0, pt4, pt1, pt2, pt3]
  refine take_at 8 (some 12) (.pointer (some ⟨b, o, none⟩)) rfl rfl (by kernel_rfl) (by kernel_rfl) (by kernel_rfl) (fun _ _ _ h => h) rfl (fun _ => by go_simp) ?_
  simp only [pt0, pt4, pt1, pt2, pt3]
  refine take_at 9 (some 13) (.pointer (some ⟨b, o, none⟩)) rfl rfl (by kernel_rfl) (by kernel_rfl) (by kernel_rfl) (fun _ _ _ h => h) rfl (fun _ => by go_simp) ?_
  simp only [pt0, pt4, pt1, pt2, pt3]
  refine take_at 12 (some 16) (.slice (some ⟨b, o, none⟩) m cap) rfl rfl (by kernel_rfl) (by kernel_rfl) (by kernel_rfl) (fun _ _ _ h => h) rfl (fun _ => by go_simp) ?_
  simp only [pt0, pt4, pt1, pt2, pt3]
  refine next_three 3 6 10 rfl rfl rfl (by kernel_rfl) rfl rfl rfl (fun K hK => ?_) (fun K hK => ?_) (fun K hK => ?_)
  · refine runL (some 7) rfl (.slice dv n kv) (by have := hE.cell cv; go_simp) ?_
    refine hK _ _ ?_
    clear hK K
    simp only [pt0, pt4, pt1, pt2, pt3]
    refine next_two 6 10 rfl rfl (by kernel_rfl) rfl rfl (fun K hK => ?_) (fun K hK => ?_)
    · refine runL (some 10) rfl (.slice dv n kv) (by have := hE.cell cv; go_simp) ?_
      refine hK _ _ ?_
      clear hK K
      simp only [pt0, pt4, pt1, pt2, pt3]
      refine next_one 10 rfl (by kernel_rfl) rfl (fun K hK => ?_)
      refine runL (some 14) rfl (.string nm) (by have := hE.cell cn; go_simp) ?_
      refine hK _ _ ?_
      clear hK K
      simp only [pt0, pt4, pt1, pt2, pt3]
      refine next_one 11 rfl (by kernel_rfl) rfl (fun K hK => ?_)
      refine callS (some 15) rfl 60 #[.slice dv n kv, .string nm] (by go_simp) (fun v' w' => v' = .int .i64 k ∧ Ext w w') ((PL.out _ hE).mono fun e w' he => ⟨_, he.1, rfl, hE.trans he.2⟩) ?_
      rintro v3 w3 ⟨rfl, hE⟩
      refine hK _ _ ?_
      clear hK K
      simp only [pt0, pt4, pt1, pt2, pt3]
      refine next_one 13 rfl (by kernel_rfl) rfl (fun K hK => ?_)
      refine callS (some 17) rfl 148 #[.slice dv n kv, .int .i64 k, .slice (some ⟨b, o, none⟩) m cap] (by go_simp) (fun v' w' => Row w' 79 2 v' q X ∧ Grew _ w' (.slice dv n kv) v') ((IN.out _ hE).mono fun e w' he => he) ?_
      rintro v4 w4 ⟨r4, g4⟩
      refine hK _ _ ?_
      clear hK K
      simp only [pt0, pt4, pt1, pt2, pt3]
      have at4 := AT.out _ hE _ _ g4
      have c4 := at4.cell j
      rw [CJ.out] at c4
      have f4 := at4.frozen j
      have G4 := Lib.hid (GE.out _ hE _ _ g4)
      have R4 := Lib.hid r4
      obtain ⟨d4, k4, hv4, -⟩ := r4.shape
      subst hv4
      clear r4 g4 at4
      refine take_at 14 (some 18) (.pointer (some ⟨c, j, none⟩)) rfl rfl (by kernel_rfl) (by kernel_rfl) (by kernel_rfl) (fun _ _ _ h => h) rfl (fun _ => by go_simp) ?_
      simp only [pt0, pt4, pt1, pt2, pt3]
      refine next_one 15 rfl (by kernel_rfl) rfl (fun K hK => ?_)
      refine runN rfl (w4.setCell ⟨c, j, none⟩ (.slice d4 q k4)) (by go_simp) ?_
      refine hK _ _ ?_
      clear hK K
      refine wpAny_done (by kernel_rfl) ?_ _
      go_wp2
      go_end0
      exact ⟨rfl, _, _, R4.out, G4.out, rfl⟩
    · refine runL (some 14) rfl (.string nm) (by have := hE.cell cn; go_simp) ?_
      refine hK _ _ ?_
      clear hK K
      simp only [pt0, pt4, pt1, pt2, pt3]
      refine next_one 6 rfl (by kernel_rfl) rfl (fun K hK => ?_)
      refine runL (some 10) rfl (.slice dv n kv) (by have := hE.cell cv; go_simp) ?_
      refine hK _ _ ?_
      clear hK K
      simp only [pt0, pt4, pt1, pt2, pt3]
      refine next_one 11 rfl (by kernel_rfl) rfl (fun K hK => ?_)
      refine callS (some 15) rfl 60 #[.slice dv n kv, .string nm] (by go_simp) (fun v' w' => v' = .int .i64 k ∧ Ext w w') ((PL.out _ hE).mono fun e w' he => ⟨_, he.1, rfl, hE.trans he.2⟩) ?_
      rintro v3 w3 ⟨rfl, hE⟩
      refine hK _ _ ?_
      clear hK K
      simp only [pt0, pt4, pt1, pt2, pt3]
      refine next_one 13 rfl (by kernel_rfl) rfl (fun K hK => ?_)
      refine callS (some 17) rfl 148 #[.slice dv n kv, .int .i64 k, .slice (some ⟨b, o, none⟩) m cap] (by go_simp) (fun v' w' => Row w' 79 2 v' q X ∧ Grew _ w' (.slice dv n kv) v') ((IN.out _ hE).mono fun e w' he => he) ?_
      rintro v4 w4 ⟨r4, g4⟩
      refine hK _ _ ?_
      clear hK K
      simp only [pt0, pt4, pt1, pt2, pt3]
      have at4 := AT.out _ hE _ _ g4
      have c4 := at4.cell j
      rw [CJ.out] at c4
      have f4 := at4.frozen j
      have G4 := Lib.hid (GE.out _ hE _ _ g4)
      have R4 := Lib.hid r4
      obtain ⟨d4, k4, hv4, -⟩ := r4.shape
      subst hv4
      clear r4 g4 at4
      refine take_at 14 (some 18) (.pointer (some ⟨c, j, none⟩)) rfl rfl (by kernel_rfl) (by kernel_rfl) (by kernel_rfl) (fun _ _ _ h => h) rfl (fun _ => by go_simp) ?_
      simp only [pt0, pt4, pt1, pt2, pt3]
      refine next_one 15 rfl (by kernel_rfl) rfl (fun K hK => ?_)
      refine runN rfl (w4.setCell ⟨c, j, none⟩ (.slice d4 q k4)) (by go_simp) ?_
      refine hK _ _ ?_
      clear hK K
      refine wpAny_done (by kernel_rfl) ?_ _
      go_wp2
      go_end0
      exact ⟨rfl, _, _, R4.out, G4.out, rfl⟩
  · refine runL (some 10) rfl (.slice dv n kv) (by have := hE.cell cv; go_simp) ?_
    refine hK _ _ ?_
    clear hK K
    simp only [pt0, pt4, pt1, pt2, pt3]
    refine next_two 3 10 rfl rfl (by kernel_rfl) rfl rfl (fun K hK => ?_) (fun K hK => ?_)
    · refine runL (some 7) rfl (.slice dv n kv) (by have := hE.cell cv; go_simp) ?_
      refine hK _ _ ?_
      clear hK K
      simp only [pt0, pt4, pt1, pt2, pt3]
      refine next_one 10 rfl (by kernel_rfl) rfl (fun K hK => ?_)
      refine runL (some 14) rfl (.string nm) (by have := hE.cell cn; go_simp) ?_
      refine hK _ _ ?_
      clear hK K
      simp only [pt0, pt4, pt1, pt2, pt3]
      refine next_one 11 rfl (by kernel_rfl) rfl (fun K hK => ?_)
      refine callS (some 15) rfl 60 #[.slice dv n kv, .string nm] (by go_simp) (fun v' w' => v' = .int .i64 k ∧ Ext w w') ((PL.out _ hE).mono fun e w' he => ⟨_, he.1, rfl, hE.trans he.2⟩) ?_
      rintro v3 w3 ⟨rfl, hE⟩
      refine hK _ _ ?_
      clear hK K
      simp only [pt0, pt4, pt1, pt2, pt3]
      refine next_one 13 rfl (by kernel_rfl) rfl (fun K hK => ?_)
      refine callS (some 17) rfl 148 #[.slice dv n kv, .int .i64 k, .slice (some ⟨b, o, none⟩) m cap] (by go_simp) (fun v' w' => Row w' 79 2 v' q X ∧ Grew _ w' (.slice dv n kv) v') ((IN.out _ hE).mono fun e w' he => he) ?_
      rintro v4 w4 ⟨r4, g4⟩
      refine hK _ _ ?_
      clear hK K
      simp only [pt0, pt4, pt1, pt2, pt3]
      have at4 := AT.out _ hE _ _ g4
      have c4 := at4.cell j
      rw [CJ.out] at c4
      have f4 := at4.frozen j
      have G4 := Lib.hid (GE.out _ hE _ _ g4)
      have R4 := Lib.hid r4
      obtain ⟨d4, k4, hv4, -⟩ := r4.shape
      subst hv4
      clear r4 g4 at4
      refine take_at 14 (some 18) (.pointer (some ⟨c, j, none⟩)) rfl rfl (by kernel_rfl) (by kernel_rfl) (by kernel_rfl) (fun _ _ _ h => h) rfl (fun _ => by go_simp) ?_
      simp only [pt0, pt4, pt1, pt2, pt3]
      refine next_one 15 rfl (by kernel_rfl) rfl (fun K hK => ?_)
      refine runN rfl (w4.setCell ⟨c, j, none⟩ (.slice d4 q k4)) (by go_simp) ?_
      refine hK _ _ ?_
      clear hK K
      refine wpAny_done (by kernel_rfl) ?_ _
      go_wp2
      go_end0
      exact ⟨rfl, _, _, R4.out, G4.out, rfl⟩
    · refine runL (some 14) rfl (.string nm) (by have := hE.cell cn; go_simp) ?_
      refine hK _ _ ?_
      clear hK K
      simp only [pt0, pt4, pt1, pt2, pt3]
      refine next_two 3 11 rfl rfl (by kernel_rfl) rfl rfl (fun K hK => ?_) (fun K hK => ?_)
      · refine runL (some 7) rfl (.slice dv n kv) (by have := hE.cell cv; go_simp) ?_
        refine hK _ _ ?_
        clear hK K
        simp only [pt0, pt4, pt1, pt2, pt3]
        refine next_one 11 rfl (by kernel_rfl) rfl (fun K hK => ?_)
        refine callS (some 15) rfl 60 #[.slice dv n kv, .string nm] (by go_simp) (fun v' w' => v' = .int .i64 k ∧ Ext w w') ((PL.out _ hE).mono fun e w' he => ⟨_, he.1, rfl, hE.trans he.2⟩) ?_
        rintro v3 w3 ⟨rfl, hE⟩
        refine hK _ _ ?_
        clear hK K
        simp only [pt0, pt4, pt1, pt2, pt3]
        refine next_one 13 rfl (by kernel_rfl) rfl (fun K hK => ?_)
        refine callS (some 17) rfl 148 #[.slice dv n kv, .int .i64 k, .slice (some ⟨b, o, none⟩) m cap] (by go_simp) (fun v' w' => Row w' 79 2 v' q X ∧ Grew _ w' (.slice dv n kv) v') ((IN.out _ hE).mono fun e w' he => he) ?_
        rintro v4 w4 ⟨r4, g4⟩
        refine hK _ _ ?_
        clear hK K
        simp only [pt0, pt4, pt1, pt2, pt3]
        have at4 := AT.out _ hE _ _ g4
        have c4 := at4.cell j
        rw [CJ.out] at c4
        have f4 := at4.frozen j
        have G4 := Lib.hid (GE.out _ hE _ _ g4)
        have R4 := Lib.hid r4
        obtain ⟨d4, k4, hv4, -⟩ := r4.shape
        subst hv4
        clear r4 g4 at4
        refine take_at 14 (some 18) (.pointer (some ⟨c, j, none⟩)) rfl rfl (by kernel_rfl) (by kernel_rfl) (by kernel_rfl) (fun _ _ _ h => h) rfl (fun _ => by go_simp) ?_
        simp only [pt0, pt4, pt1, pt2, pt3]
        refine next_one 15 rfl (by kernel_rfl) rfl (fun K hK => ?_)
        refine runN rfl (w4.setCell ⟨c, j, none⟩ (.slice d4 q k4)) (by go_simp) ?_
        refine hK _ _ ?_
        clear hK K
        refine wpAny_done (by kernel_rfl) ?_ _
        go_wp2
        go_end0
        exact ⟨rfl, _, _, R4.out, G4.out, rfl⟩
      · refine callS (some 15) rfl 60 #[.slice dv n kv, .string nm] (by go_simp) (fun v' w' => v' = .int .i64 k ∧ Ext w w') ((PL.out _ hE).mono fun e w' he => ⟨_, he.1, rfl, hE.trans he.2⟩) ?_
        rintro v3 w3 ⟨rfl, hE⟩
        refine hK _ _ ?_
        clear hK K
        simp only [pt0, pt4, pt1, pt2, pt3]
        refine next_one 3 rfl (by kernel_rfl) rfl (fun K hK => ?_)
        refine runL (some 7) rfl (.slice dv n kv) (by have := hE.cell cv; go_simp) ?_
        refine hK _ _ ?_
        clear hK K
        simp only [pt0, pt4, pt1, pt2, pt3]
        refine next_one 13 rfl (by kernel_rfl) rfl (fun K hK => ?_)
        refine callS (some 17) rfl 148 #[.slice dv n kv, .int .i64 k, .slice (some ⟨b, o, none⟩) m cap] (by go_simp) (fun v' w' => Row w' 79 2 v' q X ∧ Grew _ w' (.slice dv n kv) v') ((IN.out _ hE).mono fun e w' he => he) ?_
        rintro v4 w4 ⟨r4, g4⟩
        refine hK _ _ ?_
        clear hK K
        simp only [pt0, pt4, pt1, pt2, pt3]
        have at4 := AT.out _ hE _ _ g4
        have c4 := at4.cell j
        rw [CJ.out] at c4
        have f4 := at4.frozen j
        have G4 := Lib.hid (GE.out _ hE _ _ g4)
        have R4 := Lib.hid r4
        obtain ⟨d4, k4, hv4, -⟩ := r4.shape
        subst hv4
        clear r4 g4 at4
        refine take_at 14 (some 18) (.pointer (some ⟨c, j, none⟩)) rfl rfl (by kernel_rfl) (by kernel_rfl) (by kernel_rfl) (fun _ _ _ h => h) rfl (fun _ => by go_simp) ?_
        simp only [pt0, pt4, pt1, pt2, pt3]
        refine next_one 15 rfl (by kernel_rfl) rfl (fun K hK => ?_)
        refine runN rfl (w4.setCell ⟨c, j, none⟩ (.slice d4 q k4)) (by go_simp) ?_
        refine hK _ _ ?_
        clear hK K
        refine wpAny_done (by kernel_rfl) ?_ _
        go_wp2
        go_end0
        exact ⟨rfl, _, _, R4.out, G4.out, rfl⟩
  · refine runL (some 14) rfl (.string nm) (by have := hE.cell cn; go_simp) ?_
    refine hK _ _ ?_
    clear hK K
    simp only [pt0, pt4, pt1, pt2, pt3]
    refine next_two 3 6 rfl rfl (by kernel_rfl) rfl rfl (fun K hK => ?_) (fun K hK => ?_)
    · refine runL (some 7) rfl (.slice dv n kv) (by have := hE.cell cv; go_simp) ?_
      refine hK _ _ ?_
      clear hK K
      simp only [pt0, pt4, pt1, pt2, pt3]
      refine next_one 6 rfl (by kernel_rfl) rfl (fun K hK => ?_)
      refine runL (some 10) rfl (.slice dv n kv) (by have := hE.cell cv; go_simp) ?_
      refine hK _ _ ?_
      clear hK K
      simp only [pt0, pt4, pt1, pt2, pt3]
      refine next_one 11 rfl (by kernel_rfl) rfl (fun K hK => ?_)
      refine callS (some 15) rfl 60 #[.slice dv n kv, .string nm] (by go_simp) (fun v' w' => v' = .int .i64 k ∧ Ext w w') ((PL.out _ hE).mono fun e w' he => ⟨_, he.1, rfl, hE.trans he.2⟩) ?_
      rintro v3 w3 ⟨rfl, hE⟩
      refine hK _ _ ?_
      clear hK K
      simp only [pt0, pt4, pt1, pt2, pt3]
      refine next_one 13 rfl (by kernel_rfl) rfl (fun K hK => ?_)
      refine callS (some 17) rfl 148 #[.slice dv n kv, .int .i64 k, .slice (some ⟨b, o, none⟩) m cap] (by go_simp) (fun v' w' => Row w' 79 2 v' q X ∧ Grew _ w' (.slice dv n kv) v') ((IN.out _ hE).mono fun e w' he => he) ?_
      rintro v4 w4 ⟨r4, g4⟩
      refine hK _ _ ?_
      clear hK K
      simp only [pt0, pt4, pt1, pt2, pt3]
      have at4 := AT.out _ hE _ _ g4
      have c4 := at4.cell j
      rw [CJ.out] at c4
      have f4 := at4.frozen j
      have G4 := Lib.hid (GE.out _ hE _ _ g4)
      have R4 := Lib.hid r4
      obtain ⟨d4, k4, hv4, -⟩ := r4.shape
      subst hv4
      clear r4 g4 at4
      refine take_at 14 (some 18) (.pointer (some ⟨c, j, none⟩)) rfl rfl (by kernel_rfl) (by kernel_rfl) (by kernel_rfl) (fun _ _ _ h => h) rfl (fun _ => by go_simp) ?_
      simp only [pt0, pt4, pt1, pt2, pt3]
      refine next_one 15 rfl (by kernel_rfl) rfl (fun K hK => ?_)
      refine runN rfl (w4.setCell ⟨c, j, none⟩ (.slice d4 q k4)) (by go_simp) ?_
      refine hK _ _ ?_
      clear hK K
      refine wpAny_done (by kernel_rfl) ?_ _
      go_wp2
      go_end0
      exact ⟨rfl, _, _, R4.out, G4.out, rfl⟩
    · refine runL (some 10) rfl (.slice dv n kv) (by have := hE.cell cv; go_simp) ?_
      refine hK _ _ ?_
      clear hK K
      simp only [pt0, pt4, pt1, pt2, pt3]
      refine next_two 3 11 rfl rfl (by kernel_rfl) rfl rfl (fun K hK => ?_) (fun K hK => ?_)
      · refine runL (some 7) rfl (.slice dv n kv) (by have := hE.cell cv; go_simp) ?_
        refine hK _ _ ?_
        clear hK K
        simp only [pt0, pt4, pt1, pt2, pt3]
        refine next_one 11 rfl (by kernel_rfl) rfl (fun K hK => ?_)
        refine callS (some 15) rfl 60 #[.slice dv n kv, .string nm] (by go_simp) (fun v' w' => v' = .int .i64 k ∧ Ext w w') ((PL.out _ hE).mono fun e w' he => ⟨_, he.1, rfl, hE.trans he.2⟩) ?_
        rintro v3 w3 ⟨rfl, hE⟩
        refine hK _ _ ?_
        clear hK K
        simp only [pt0, pt4, pt1, pt2, pt3]
        refine next_one 13 rfl (by kernel_rfl) rfl (fun K hK => ?_)
        refine callS (some 17) rfl 148 #[.slice dv n kv, .int .i64 k, .slice (some ⟨b, o, none⟩) m cap] (by go_simp) (fun v' w' => Row w' 79 2 v' q X ∧ Grew _ w' (.slice dv n kv) v') ((IN.out _ hE).mono fun e w' he => he) ?_
        rintro v4 w4 ⟨r4, g4⟩
        refine hK _ _ ?_
        clear hK K
        simp only [pt0, pt4, pt1, pt2, pt3]
        have at4 := AT.out _ hE _ _ g4
        have c4 := at4.cell j
        rw [CJ.out] at c4
        have f4 := at4.frozen j
        have G4 := Lib.hid (GE.out _ hE _ _ g4)
        have R4 := Lib.hid r4
        obtain ⟨d4, k4, hv4, -⟩ := r4.shape
        subst hv4
        clear r4 g4 at4
        refine take_at 14 (some 18) (.pointer (some ⟨c, j, none⟩)) rfl rfl (by kernel_rfl) (by kernel_rfl) (by kernel_rfl) (fun _ _ _ h => h) rfl (fun _ => by go_simp) ?_
        simp only [pt0, pt4, pt1, pt2, pt3]
        refine next_one 15 rfl (by kernel_rfl) rfl (fun K hK => ?_)
        refine runN rfl (w4.setCell ⟨c, j, none⟩ (.slice d4 q k4)) (by go_simp) ?_
        refine hK _ _ ?_
        clear hK K
        refine wpAny_done (by kernel_rfl) ?_ _
        go_wp2
        go_end0
        exact ⟨rfl, _, _, R4.out, G4.out, rfl⟩
      · refine callS (some 15) rfl 60 #[.slice dv n kv, .string nm] (by go_simp) (fun v' w' => v' = .int .i64 k ∧ Ext w w') ((PL.out _ hE).mono fun e w' he => ⟨_, he.1, rfl, hE.trans he.2⟩) ?_
        rintro v3 w3 ⟨rfl, hE⟩
        refine hK _ _ ?_
        clear hK K
        simp only [pt0, pt4, pt1, pt2, pt3]
        refine next_one 3 rfl (by kernel_rfl) rfl (fun K hK => ?_)
        refine runL (some 7) rfl (.slice dv n kv) (by have := hE.cell cv; go_simp) ?_
        refine hK _ _ ?_
        clear hK K
        simp only [pt0, pt4, pt1, pt2, pt3]
        refine next_one 13 rfl (by kernel_rfl) rfl (fun K hK => ?_)
        refine callS (some 17) rfl 148 #[.slice dv n kv, .int .i64 k, .slice (some ⟨b, o, none⟩) m cap] (by go_simp) (fun v' w' => Row w' 79 2 v' q X ∧ Grew _ w' (.slice dv n kv) v') ((IN.out _ hE).mono fun e w' he => he) ?_
        rintro v4 w4 ⟨r4, g4⟩
        refine hK _ _ ?_
        clear hK K
        simp only [pt0, pt4, pt1, pt2, pt3]
        have at4 := AT.out _ hE _ _ g4
        have c4 := at4.cell j
        rw [CJ.out] at c4
        have f4 := at4.frozen j
        have G4 := Lib.hid (GE.out _ hE _ _ g4)
        have R4 := Lib.hid r4
        obtain ⟨d4, k4, hv4, -⟩ := r4.shape
        subst hv4
        clear r4 g4 at4
        refine take_at 14 (some 18) (.pointer (some ⟨c, j, none⟩)) rfl rfl (by kernel_rfl) (by kernel_rfl) (by kernel_rfl) (fun _ _ _ h => h) rfl (fun _ => by go_simp) ?_
        simp only [pt0, pt4, pt1, pt2, pt3]
        refine next_one 15 rfl (by kernel_rfl) rfl (fun K hK => ?_)
        refine runN rfl (w4.setCell ⟨c, j, none⟩ (.slice d4 q k4)) (by go_simp) ?_
        refine hK _ _ ?_
        clear hK K
        refine wpAny_done (by kernel_rfl) ?_ _
        go_wp2
        go_end0
        exact ⟨rfl, _, _, R4.out, G4.out, rfl⟩
theorem put_any (c j : Nat) (cs : Array Value) (tc : TypeId) (v vr : Value) (l r : List Nm) (w : World) (hc : At w c cs tc) (hj : cs[j]? = some v) (h : Row w 79 2 v l.length (ents l)) (hoc : v.ownBlock ≠ some c) {ad : Option Addr} {cap b o : Nat} (hr : TrR w vr r ad cap b o) (hr0 : 0 < r.length) (hs : Srt l) (hl : l.length ≤ 1000000) (hrl : r.length ≤ 1000000) (_hnb : v.ownBlock ≠ some b)
    (hend : place l (r[0]'hr0).1 = l.length) :
    Calls Tryz.prog 134 #[.pointer (some ⟨c, j, none⟩), vr] w fun e w' => e = .returned (.tuple #[]) ∧ ∃ v' w1, Row w1 79 2 v' (l.length + r.length) (ents (l ++ r)) ∧ Grew w w1 v v' ∧ w' = w1.setCell ⟨c, j, none⟩ v' :=
  put_gen c j l.length (l.length + r.length) (ents (l ++ r)) cs tc v vr l r w hc hj h hoc hr hr0 hs hl hend fun w' e => insert_end v vr l r w' (h.ext e) (hr.ext e) hr0 hl hrl
end Go.Proofs.YtnhokjnmpdiokaaGreatDoor.V

namespace Go.Proofs.YtnhokjnmpdiokaaGreatDoor.V
open Go.RowKit Go.Pth

set_option maxRecDepth 100000 in
set_option maxHeartbeats 8000000 in
theorem apply_made (c j : Nat) (cs : Array Value) (tc : TypeId) (v : Value) (l : List Nm) (p : B) (a : Nat) (ab ao acap : Nat) (w : World) (hc : At w c cs tc) (hj : cs[j]? = some v) (h : Row w 79 2 v l.length (ents l)) (hoc : v.ownBlock ≠ some c) (hs : Srt l) (hl : l.length ≤ 1000000) (hend : place l p = l.length)
    (c0 : w.cell? ⟨ab, ao, none⟩ = some (.string ⟨#[]⟩)) (c1 : w.cell? ⟨ab, ao + 1, none⟩ = some (.string (tx p))) (c2 : w.cell? ⟨ab, ao + 2, none⟩ = some (ptr a)) :
    Calls Tryz.prog 112 #[.pointer (some ⟨c, j, none⟩), .slice (some ⟨ab, ao, none⟩) 1 acap] w fun e w' => e = .returned (.tuple #[]) ∧ ∃ v' w1, Row w1 79 2 v' (l.length + 1) (ents (l ++ [(p, a)])) ∧ Grew w w1 v v' ∧ w' = w1.setCell ⟨c, j, none⟩ v' := by
  obtain ⟨W1, hW1⟩ : ∃ W1, W1 = w.alloc (.cells #[.string ⟨#[]⟩, .string (tx p), ptr a] 167) := ⟨_, rfl⟩
  obtain ⟨W2, hW2⟩ : ∃ W2, W2 = W1.alloc (.cells #[.string (tx p), ptr a] 79) := ⟨_, rfl⟩
  have e1 : Ext w W1 := by rw [hW1]; exact Ext.alloc _ _
  have e2 : Ext W1 W2 := by rw [hW2]; exact Ext.alloc _ _
  have s1 : W1.heap.size = w.heap.size + 1 := by rw [hW1]; exact size_alloc _ _
  have hat : At W2 (w.heap.size + 1) #[.string (tx p), ptr a] 79 := by rw [hW2, ← s1]; exact At.new _ _ _
  have tr : TrR W2 (.slice (some ⟨w.heap.size + 1, 0, none⟩) 1 1) [(p, a)] (some ⟨w.heap.size + 1, 0, none⟩) 1 (w.heap.size + 1) 0 := by
    refine ⟨rfl, fun _ => rfl, fun q hq => ?_, fun q hq => ?_⟩
    · obtain rfl : q = 0 := by simpa using hq
      rw [hat.cell]; rfl
    · obtain rfl : q = 0 := by simpa using hq
      rw [hat.cell]; rfl
  have ee := e1.trans e2
  have PU := put_any c j cs tc v _ l [(p, a)] W2 (hc.ext ee) hj (h.ext ee) hoc tr (by simp) hs hl (by simp) (fun hb => by have := h.lt _ hb; omega) (by simpa using hend)
  have PU2 : Calls Tryz.prog 134 #[.pointer (some ⟨c, j, none⟩), .slice (some ⟨w.heap.size + 1, 0, none⟩) 1 1] W2 fun e w' => e = .returned (.tuple #[]) ∧ ∃ v' w1, Row w1 79 2 v' (l.length + 1) (ents (l ++ [(p, a)])) ∧ Grew w w1 v v' ∧ w' = w1.setCell ⟨c, j, none⟩ v' :=
    PU.mono fun e w' ⟨h1, v', w1, h2, g, h3⟩ => ⟨h1, v', w1, h2, ⟨(Chg.of_ext ee).trans g.chg fun _ _ x => x, by rcases g.own with e | ⟨q, e1, e2⟩; exact Or.inl e; exact Or.inr ⟨q, e1, Nat.le_trans ee.size e2⟩⟩, h3⟩
  have HP := Lib.hid PU2
  rw [hW1] at hW2
  clear PU PU2 tr hat s1 e1 e2 ee hc hj h hoc hs hl hend hW1
  unfold ptr at *
  have HW := Lib.hid hW2
  go_enter Tryz.func112, Tryz.ntmps112
  go_wp2
  go_loopw [8] (fun s8 wr => (s8 = .int .i64 0 ∧ w = wr) ∨ (s8 = .int .i64 1 ∧ ∃ v' w1, Row w1 79 2 v' (l.length + 1) (ents (l ++ [(p, a)])) ∧ Grew w w1 v v' ∧ wr = w1.setCell ⟨c, j, none⟩ v')) (fun s8 _ => 1 - (intOf s8).toNat)
  case atStart => exact Or.inl ⟨rfl, rfl⟩
  case round =>
    rcases hrel with ⟨rfl, rfl⟩ | ⟨rfl, hh⟩
    · go_wp2_with (go_at_call 134; rw [← hW2]; refine (HP.out).mono ?_; rintro e w' ⟨rfl, hfin⟩)
      exact ⟨Or.inr ⟨rfl, hfin⟩, by simp [intOf]⟩
    · have HH := Lib.hid hh
      clear hh
      go_wp2
      go_end0
      exact ⟨rfl, HH.out⟩
end Go.Proofs.YtnhokjnmpdiokaaGreatDoor.V

namespace Go.Proofs.YtnhokjnmpdiokaaGreatDoor.V
open Go.RowKit Go.Pth

theorem Rep.c {w : World} {b : Nat} {S : SV} {V : SW} {L : Nat → Option Role} (h : Rep w b S V L) (j : Nat) : w.cell? ⟨b, j, none⟩ = (scells S V)[j]? := h.cell.cell j
theorem Rep.fz {w : World} {b : Nat} {S : SV} {V : SW} {L : Nat → Option Role} (h : Rep w b S V L) (j : Nat) : w.frozen? ⟨b, j, none⟩ = false := h.cell.frozen j
def SV.spend (S : SV) : SV := if S.power = 1 then (if S.left = 0 then { S with power := 2 } else { S with left := S.left - 1 }) else S
set_option maxRecDepth 100000 in
set_option maxHeartbeats 4000000 in
theorem spend_any (b : Nat) (S : SV) (V : SW) (L : Nat → Option Role) (w : World) (h : Rep w b S V L) (hl : 0 ≤ S.left ∧ S.left ≤ 9223372036854775807) :
    Calls Tryz.prog 130 #[ptr b] w fun e w' => e = .returned (.tuple #[]) ∧ Rep w' b S.spend V L ∧ StTo w w' L L := by
  have c5 := h.c 5
  have c6 := h.c 6
  have f5 := h.fz 5
  have f6 := h.fz 6
  simp only [scells] at c5 c6
  have H := Lib.hid h
  clear h
  unfold ptr
  by_cases h1 : S.power = 1
  · have q1 : (S.power == 1) = true := by simpa using h1
    by_cases h2 : S.left = 0
    · have q2 : (S.left == 0) = true := by simpa using h2
      have e : Hid (S.spend = { S with power := 2 }) := Lib.hid (by unfold SV.spend; rw [if_pos h1, if_pos h2])
      have R := Lib.hid (H.out.setc (S' := { S with power := 2 }) (V' := V) 5 (.int .i64 2) rfl rfl rfl rfl rfl rfl rfl)
      clear h1 h2
      go_enter Tryz.func130, Tryz.ntmps130
      go_wp2
      go_end0
      exact ⟨rfl, by rw [e.out]; exact R.out.1, R.out.2⟩
    · have q2 : (S.left == 0) = false := by simpa using h2
      have e : Hid (S.spend = { S with left := S.left - 1 }) := Lib.hid (by unfold SV.spend; rw [if_pos h1, if_neg h2])
      have R := Lib.hid (H.out.setc (S' := { S with left := S.left - 1 }) (V' := V) 6 (.int .i64 (S.left - 1)) rfl rfl rfl rfl rfl rfl rfl)
      obtain ⟨l1, l2⟩ := hl
      generalize S.left = lf at *
      have l3 : 0 < lf := by omega
      clear h1 h2
      go_enter Tryz.func130, Tryz.ntmps130
      go_wp2
      go_end0
      exact ⟨rfl, by rw [e.out]; exact R.out.1, R.out.2⟩
  · have q1 : (S.power == 1) = false := by simpa using h1
    have e : Hid (S.spend = S) := Lib.hid (by unfold SV.spend; rw [if_neg h1])
    clear h1
    go_enter Tryz.func130, Tryz.ntmps130
    go_wp2
    go_end0
    exact ⟨rfl, by rw [e.out]; exact H.out, StTo.refl _ _⟩

def SV.beg (S : SV) : SV := ({ S with ops := S.ops + 1 } : SV).spend
def SV.begE (S : SV) (ps : List B) : Int := if S.beg.power = 2 then 7 else if ps.all valid then 0 else 1
def InvPa (w : World) (l : List B) (s25 : Value) (wr : World) : Prop := ∃ k : Nat, k ≤ l.length ∧ s25 = .int .i64 k ∧ (l.take k).all valid = true ∧ Ext w wr
theorem valid_acc (a : ByteArray) {w0 w : World} (h : Ext w0 w) : Calls Tryz.prog 47 #[.string a] w fun e w' => e = .returned (.bool (valid a.toList)) ∧ Ext w0 w' :=
  (valid_any a w).mono fun _ _ ⟨x, y⟩ => ⟨x, h.trans y⟩
set_option maxRecDepth 100000 in
set_option maxHeartbeats 4000000 in
theorem begin_any (b : Nat) (S : SV) (V : SW) (L : Nat → Option Role) (v : Value) (ps : List B) (w : World) (h : Rep w b S V L) (hl : 0 ≤ S.left ∧ S.left ≤ 9223372036854775807) (ho : 0 ≤ S.ops ∧ S.ops ≤ 1000000) (ht : Txt w v ps) (hps : ps.length ≤ 2) (htb : ∀ ad n c, v = .slice (some ad) n c → L ad.block = none) :
    Calls Tryz.prog 108 #[ptr b, v] w fun e w' => e = .returned (.int .i64 (S.begE ps)) ∧ Rep w' b S.beg V L ∧ StTo w w' L L := by
  obtain ⟨ad, cap, tb, rfl, hta, htc⟩ := ht
  have c7 := h.c 7
  have f7 := h.fz 7
  simp only [scells] at c7
  have R1 := Lib.hid (h.setc (S' := { S with ops := S.ops + 1 }) (V' := V) 7 (.int .i64 (S.ops + 1)) rfl rfl rfl rfl rfl rfl rfl)
  have SP := Lib.hid (spend_any b { S with ops := S.ops + 1 } V L _ R1.out.1 hl)
  have tcell : Hid (∀ w', StTo w w' L L → ∀ j, j < ps.length → w'.cell? ⟨tb, j, none⟩ = some (.string (tx (ps[j]?.getD [])))) := Lib.hid (fun w' hs j hj =>
    hs.chg.cell (htc j hj) (by rw [htb ⟨tb, 0, none⟩ _ _ (by rw [hta (by omega)])]; simp))
  have hadr := Lib.hid hta
  unfold ptr at SP ⊢
  have E : Hid (S.beg = ({ S with ops := S.ops + 1 } : SV).spend) := Lib.hid rfl
  have EE : Hid (S.begE ps = if S.beg.power = 2 then 7 else if ps.all valid then 0 else 1) := Lib.hid rfl
  obtain ⟨o1, o2⟩ := ho
  clear h hl hta htc htb
  generalize S.beg = S1 at *
  generalize S.begE ps = ER at *
  generalize S.ops = op at *
  generalize hW : w.setCell ⟨b, 7, none⟩ (.int .i64 (op + 1)) = W at *
  have HW := Lib.hid hW
  go_enter Tryz.func108, Tryz.ntmps108
  go_wp2_with fail
  refine (SP.out).mono ?_
  rintro e w1 ⟨rfl, r1, t1⟩
  rw [← E.out] at r1
  have c5 := r1.c 5
  simp only [scells] at c5
  have R2 := Lib.hid (⟨r1, R1.out.2.trans t1⟩ : _ ∧ _)
  clear r1 t1 SP R1 hW HW c7 f7
  by_cases h2 : S1.power = 2
  · have q : (S1.power == 2) = true := by simpa using h2
    rw [if_pos h2] at EE
    clear h2
    go_wp2
    go_ret
    exact ⟨retv (by rw [EE.out] <;> rfl), R2.out.1, R2.out.2⟩
  · have q : (S1.power == 2) = false := by simpa using h2
    rw [if_neg h2] at EE
    clear h2
    have tc := Lib.hid (fun j hj => tcell.out w1 R2.out.2 j hj)
    clear tcell
    have E0 := Lib.hid (Ext.refl w1)
    obtain ⟨n, hn⟩ : ∃ n, n = ps.length := ⟨_, rfl⟩
    have HN := Lib.hid hn
    rw [← hn] at hps hadr ⊢
    clear hn
    go_wp2
    go_loopw [25] (fun s wr => InvPa w1 ps s wr) (fun s _ => n - (intOf s).toNat)
    case atStart => exact ⟨0, Nat.zero_le _, rfl, rfl, E0.out⟩
    case round =>
      obtain ⟨k, hk, rfl, hall, he⟩ := hrel
      rw [← HN.out] at hk
      have HA := Lib.hid hall
      have HE := Lib.hid he
      clear hall he
      by_cases hlt : k < n
      · have had := hadr.out (by omega)
        subst had
        have i0 : (0 : Int) ≤ (k : Int) := by omega
        have i1 : (k : Int) < (n : Int) := by omega
        have cl := HE.out.cell (tc.out k (by rw [← HN.out]; exact hlt))
        have hkl : k < ps.length := by rw [← HN.out]; exact hlt
        have st : (ps.take (k + 1)).all valid = ((ps.take k).all valid && valid (ps[k]?.getD [])) := by
          rw [List.take_succ_eq_append_getElem hkl, List.all_append, List.getElem?_eq_getElem hkl]; simp
        rw [HA.out, Bool.true_and] at st
        have ST := Lib.hid st
        have HM := Lib.hid (show valid (ps[k]?.getD []) = false → ps.all valid = false from fun hv => by
          rw [← Bool.not_eq_true, List.all_eq_true]
          intro ha
          have := ha ps[k] (List.getElem_mem hkl)
          rw [List.getElem?_eq_getElem hkl] at hv
          simp only [Option.getD_some] at hv
          rw [hv] at this; cases this)
        have VA := Lib.hid (valid_acc (tx (ps[k]?.getD [])) HE.out)
        rw [tx_list] at VA
        clear st hkl
        cases hv : valid (ps[k]?.getD []) with
        | true =>
          rw [hv] at VA ST
          go_wp2_with (go_at_call 47; refine (VA.out).mono ?_; rintro e w' ⟨rfl, hE⟩)
          exact ⟨⟨k + 1, by rw [← HN.out]; omega, rfl, ST.out, hE⟩, by simp [intOf]; omega⟩
        | false =>
          rw [hv] at VA ST
          go_wp2_with (go_at_call 47; refine (VA.out).mono ?_; rintro e w' ⟨rfl, hE⟩)
          go_ret
          exact ⟨retv (by rw [EE.out, HM.out hv] <;> rfl), R2.out.1.ext hE, R2.out.2.trans (StTo.of_ext hE)⟩
      · obtain rfl : k = n := by omega
        clear hlt
        rw [HN.out, List.take_length] at HA
        rw [HA.out] at EE
        go_wp2
        go_ret
        exact ⟨retv (by rw [EE.out] <;> rfl), R2.out.1.ext HE.out, R2.out.2.trans (StTo.of_ext HE.out)⟩

set_option maxRecDepth 100000 in
set_option maxHeartbeats 4000000 in
theorem mark_any (b a : Nat) (S : SV) (V : SW) (L : Nat → Option Role) (w : World) (h : Rep w b S V L) (ha : a ∈ S.ids) (hc : 0 ≤ S.clock ∧ S.clock ≤ 1000000) :
    Calls Tryz.prog 110 #[ptr b, ptr a] w fun e w' => e = .returned (.tuple #[]) ∧ ∃ V' L', Rep w' b { S with clock := S.clock + 1, nd := upd S.nd a { S.nd a with stamp := S.clock + 1 } } V' L' ∧ StTo w w' L L' := by
  have c1 := h.c 1
  have f1 := h.fz 1
  simp only [scells] at c1
  have R1 := h.setc (S' := { S with clock := S.clock + 1 }) (V' := V) 1 (.int .u64 (S.clock + 1)) rfl rfl rfl rfl rfl rfl rfl
  have d1 := R1.1.c 1
  simp only [scells] at d1
  have nd := R1.1.nd a ha
  have e2 := nd.1.c 2
  have g2 := nd.1.fz 2
  simp only [ncells] at e2
  have hne : (⟨b, 1, none⟩ : Addr) ≠ ⟨a, 2, none⟩ := by simp
  have NI : NdIn ((w.setCell ⟨b, 1, none⟩ (.int .u64 (S.clock + 1))).setCell ⟨a, 2, none⟩ (.int .u64 (S.clock + 1))) a { S.nd a with stamp := S.clock + 1 } (V.nv a) ∧ NdTo (w.setCell ⟨b, 1, none⟩ (.int .u64 (S.clock + 1))) ((w.setCell ⟨b, 1, none⟩ (.int .u64 (S.clock + 1))).setCell ⟨a, 2, none⟩ (.int .u64 (S.clock + 1))) a (V.nv a) (V.nv a) := by
    have sc := Chg.setCell (w.setCell ⟨b, 1, none⟩ (.int .u64 (S.clock + 1))) a 2 (.int .u64 (S.clock + 1))
    have n := nd.1
    refine ⟨⟨?_, n.n.chg sc fun q hq e => n.an (e ▸ hq), n.k.chg sc fun q hq e => n.ak (e ▸ hq), n.l.chg sc fun q hq e => n.al (e ▸ hq), n.an, n.ak, n.al, n.nk, n.nl, n.kl⟩, sc.mono fun i _ e => Or.inl e, fun i hi => Or.inl hi⟩
    have := n.cells.set 2 (.int .u64 (S.clock + 1))
    simpa [ncells] using this
  obtain ⟨L', r2, t2⟩ := R1.1.node a ha { S.nd a with stamp := S.clock + 1 } (V.nv a) NI.1 ⟨nd.2.kl, nd.2.ll, nd.2.len, nd.2.bn, nd.2.bk⟩ NI.2
  have FIN := Lib.hid (⟨_, _, r2, R1.2.trans t2⟩ : ∃ V' L', Rep ((w.setCell ⟨b, 1, none⟩ (.int .u64 (S.clock + 1))).setCell ⟨a, 2, none⟩ (.int .u64 (S.clock + 1))) b { S with clock := S.clock + 1, nd := upd S.nd a { S.nd a with stamp := S.clock + 1 } } V' L' ∧ StTo w _ L L')
  obtain ⟨k1, k2⟩ := hc
  unfold ptr
  clear R1 nd r2 t2 NI h ha hne
  generalize S.clock = ck at *
  go_enter Tryz.func110, Tryz.ntmps110
  go_wp2
  go_end0
  exact ⟨rfl, FIN.out⟩
end Go.Proofs.YtnhokjnmpdiokaaGreatDoor.V
