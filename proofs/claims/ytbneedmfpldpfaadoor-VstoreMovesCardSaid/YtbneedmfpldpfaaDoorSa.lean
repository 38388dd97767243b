/- A store in memory. No conditions: definitions and lemmas. -/
import Derived.Test.YtbneedmfpldpfaaDoorNd
namespace Go.Proofs.YtbneedmfpldpfaaDoor
open Go.RowKit Go.Pth

structure Ac where
  frm : B
  too : B
  made : Option Nat
def acells (l : List Ac) : List Value := l.flatMap fun x => [.string (tx x.frm), .string (tx x.too), optr x.made]
structure SV where
  room : Int
  clock : Int
  names : List Nm
  kept : List Nm
  acts : List Ac
  power : Int
  left : Int
  ops : Int
  ids : List Nat
  nd : Nat → NV
structure SW where
  n : Value
  k : Value
  a : Value
  nv : Nat → Vs
inductive Role
  | store | names | kept | acts | node (a : Nat)
  deriving DecidableEq
def scells (S : SV) (V : SW) : Array Value := #[.int .i64 S.room, .int .u64 S.clock, V.n, V.k, V.a, .int .i64 S.power, .int .i64 S.left, .int .i64 S.ops]
structure Rep (w : World) (b : Nat) (S : SV) (V : SW) (L : Nat → Option Role) : Prop where
  cell : At w b (scells S V) 68
  nm : Row w 64 2 V.n S.names.length (ents S.names)
  kp : Row w 64 2 V.k S.kept.length (ents S.kept)
  ac : Row w 87 3 V.a S.acts.length (acells S.acts)
  nd : ∀ a ∈ S.ids, NdIn w a (S.nd a) (V.nv a) ∧ (S.nd a).Ok
  lb : L b = some .store
  ln : ∀ g, V.n.ownBlock = some g → L g = some .names
  lk : ∀ g, V.k.ownBlock = some g → L g = some .kept
  la : ∀ g, V.a.ownBlock = some g → L g = some .acts
  ld : ∀ a ∈ S.ids, ∀ i, Foot a (V.nv a) i → L i = some (.node a)
  lt : ∀ i, L i ≠ none → i < w.heap.size
  sn : Srt S.names
  sk : Srt S.kept
  rn : ∀ p ∈ S.names, p.2 ∈ S.ids
  rk : ∀ p ∈ S.kept, p.2 ∈ S.ids
theorem Rep.keep {w w' : World} {b : Nat} {S : SV} {V : SW} {L : Nat → Option Role} (h : Rep w b S V L) (hb : ∀ i, L i ≠ none → w'.heap[i]? = w.heap[i]?) (hs : w.heap.size ≤ w'.heap.size) : Rep w' b S V L :=
  ⟨h.cell.keep (hb b (by rw [h.lb]; simp)), h.nm.keep fun g hg => hb g (by rw [h.ln g hg]; simp), h.kp.keep fun g hg => hb g (by rw [h.lk g hg]; simp), h.ac.keep fun g hg => hb g (by rw [h.la g hg]; simp),
    fun a ha => ⟨(h.nd a ha).1.keep fun i hi => hb i (by rw [h.ld a ha i hi]; simp), (h.nd a ha).2⟩, h.lb, h.ln, h.lk, h.la, h.ld, fun i hi => Nat.lt_of_lt_of_le (h.lt i hi) hs, h.sn, h.sk, h.rn, h.rk⟩
theorem Rep.ext {w w' : World} {b : Nat} {S : SV} {V : SW} {L : Nat → Option Role} (h : Rep w b S V L) (he : Ext w w') : Rep w' b S V L := h.keep (fun i hi => he.block i (h.lt i hi)) he.size
/-- From one state to the next. -/
structure StTo (w w' : World) (L L' : Nat → Option Role) : Prop where
  chg : Chg (fun i => L i ≠ none) w w'
  lab : ∀ i, L' i ≠ none → L i ≠ none ∨ w.heap.size ≤ i
theorem StTo.refl (w : World) (L : Nat → Option Role) : StTo w w L L := ⟨Chg.refl _ w, fun _ h => Or.inl h⟩
theorem StTo.of_ext {w w' : World} {L : Nat → Option Role} (h : Ext w w') : StTo w w' L L := ⟨Chg.of_ext h, fun _ h => Or.inl h⟩
theorem StTo.trans {w w1 w2 : World} {L L1 L2 : Nat → Option Role} (h : StTo w w1 L L1) (k : StTo w1 w2 L1 L2) : StTo w w2 L L2 :=
  ⟨h.chg.trans k.chg fun i hi hf => by rcases h.lab i hf with h1 | h1; exact h1; omega,
   fun i hi => by
    rcases k.lab i hi with h1 | h1
    · exact h.lab i h1
    · exact Or.inr (Nat.le_trans h.chg.size h1)⟩
def upd {α : Type} (f : Nat → α) (a : Nat) (v : α) : Nat → α := fun i => if i = a then v else f i
theorem upd_same {α : Type} (f : Nat → α) (a : Nat) (v : α) : upd f a v a = v := by simp [upd]
theorem upd_other {α : Type} (f : Nat → α) (a i : Nat) (v : α) (h : i ≠ a) : upd f a v i = f i := by simp [upd, h]
/-- A number of the store is set. -/
theorem Rep.setc {w : World} {b : Nat} {S S' : SV} {V V' : SW} {L : Nat → Option Role} (h : Rep w b S V L) (j : Nat) (v : Value) (hc : (scells S V).setIfInBounds j v = scells S' V')
    (h1 : S'.names = S.names) (h2 : S'.kept = S.kept) (h3 : S'.acts = S.acts) (h4 : S'.ids = S.ids) (h5 : S'.nd = S.nd) (h6 : V' = V) : Rep (w.setCell ⟨b, j, none⟩ v) b S' V' L ∧ StTo w (w.setCell ⟨b, j, none⟩ v) L L := by
  subst h6
  have sc := Chg.setCell w b j v
  have ne : ∀ i r, L i = some r → r ≠ .store → ¬ i = b := fun i r hi hr e => by subst e; rw [h.lb] at hi; injection hi with hi; exact hr hi.symm
  refine ⟨⟨?_, ?_, ?_, ?_, ?_, h.lb, h.ln, h.lk, h.la, ?_, fun i hi => by rw [size_setCell]; exact h.lt i hi, by rw [h1]; exact h.sn, by rw [h2]; exact h.sk, by rw [h1, h4]; exact h.rn, by rw [h2, h4]; exact h.rk⟩, sc.mono fun i _ e => by rw [e, h.lb]; simp, fun i hi => Or.inl hi⟩
  · rw [← hc]; exact h.cell.set j v
  · rw [h1]; exact h.nm.chg sc fun g hg => ne g _ (h.ln g hg) (by simp)
  · rw [h2]; exact h.kp.chg sc fun g hg => ne g _ (h.lk g hg) (by simp)
  · rw [h3]; exact h.ac.chg sc fun g hg => ne g _ (h.la g hg) (by simp)
  · rw [h4, h5]; exact fun a ha => ⟨(h.nd a ha).1.chg sc fun i hi => ne i _ (h.ld a ha i hi) (by simp), (h.nd a ha).2⟩
  · rw [h4]; exact h.ld
/-- A node of the store became another one. -/
theorem Rep.node {w w' : World} {b : Nat} {S : SV} {V : SW} {L : Nat → Option Role} (h : Rep w b S V L) (a : Nat) (ha : a ∈ S.ids) (N' : NV) (V' : Vs) (hn : NdIn w' a N' V') (ok : N'.Ok) (ht : NdTo w w' a (V.nv a) V') :
    ∃ L', Rep w' b { S with nd := upd S.nd a N' } { V with nv := upd V.nv a V' } L' ∧ StTo w w' L L' := by
  have nf : ∀ i r, L i = some r → r ≠ .node a → ¬ Foot a (V.nv a) i := fun i r hi hr hf => by rw [h.ld a ha i hf] at hi; injection hi with hi; exact hr hi.symm
  have hsz := ht.chg.size
  have old : ∀ i, i < w.heap.size → (fun i => if w.heap.size ≤ i ∧ i < w'.heap.size then some (Role.node a) else L i) i = L i := fun i hi => by simp only []; rw [if_neg (by omega)]
  refine ⟨fun i => if w.heap.size ≤ i ∧ i < w'.heap.size then some (.node a) else L i, ⟨?_, ?_, ?_, ?_, ?_, ?_, ?_, ?_, ?_, ?_, ?_, h.sn, h.sk, h.rn, h.rk⟩, ?_, ?_⟩
  · exact ht.chg.at h.cell (nf b _ h.lb (by simp))
  · exact h.nm.chg ht.chg fun g hg => nf g _ (h.ln g hg) (by simp)
  · exact h.kp.chg ht.chg fun g hg => nf g _ (h.lk g hg) (by simp)
  · exact h.ac.chg ht.chg fun g hg => nf g _ (h.la g hg) (by simp)
  · intro c hc
    by_cases e : c = a
    · subst e; simp only [upd_same]; exact ⟨hn, ok⟩
    · simp only [upd_other _ _ _ _ e]
      exact ⟨(h.nd c hc).1.chg ht.chg fun i hi => nf i _ (h.ld c hc i hi) (by simpa using e), (h.nd c hc).2⟩
  · exact (old b h.cell.lt).trans h.lb
  · exact fun g hg => (old g (h.nm.lt g hg)).trans (h.ln g hg)
  · exact fun g hg => (old g (h.kp.lt g hg)).trans (h.lk g hg)
  · exact fun g hg => (old g (h.ac.lt g hg)).trans (h.la g hg)
  · intro c hc i hi
    by_cases e : c = a
    · subst e
      simp only [upd_same] at hi
      rcases ht.foot i hi with h1 | h1
      · exact (old i ((h.nd c hc).1.lt i h1)).trans (h.ld c hc i h1)
      · show (if _ then _ else _) = _; rw [if_pos ⟨h1, hn.lt i hi⟩]
    · simp only [upd_other _ _ _ _ e] at hi
      exact (old i ((h.nd c hc).1.lt i hi)).trans (h.ld c hc i hi)
  · intro i hi
    (try simp only [] at hi)
    by_cases e : w.heap.size ≤ i ∧ i < w'.heap.size
    · exact e.2
    · rw [if_neg e] at hi; exact Nat.lt_of_lt_of_le (h.lt i hi) hsz
  · exact ht.chg.mono fun i _ hi => by rw [h.ld a ha i hi]; simp
  · intro i hi
    (try simp only [] at hi)
    by_cases e : w.heap.size ≤ i ∧ i < w'.heap.size
    · exact Or.inr e.1
    · rw [if_neg e] at hi; exact Or.inl hi
/-- A new node is taken in. -/
theorem Rep.more {w w' : World} {b : Nat} {S : SV} {V : SW} {L : Nat → Option Role} (h : Rep w b S V L) (he : Ext w w') (a : Nat) (ha : w.heap.size ≤ a) (N : NV) (Vn : Vs) (hn : NdIn w' a N Vn) (ok : N.Ok) (hf : ∀ i, Foot a Vn i → w.heap.size ≤ i) :
    ∃ L', Rep w' b { S with ids := a :: S.ids, nd := upd S.nd a N } { V with nv := upd V.nv a Vn } L' ∧ StTo w w' L L' := by
  have hr := h.ext he
  have hsz := he.size
  have na : ∀ c ∈ S.ids, c ≠ a := fun c hc e => by
    have := (h.nd c hc).1.cells.lt
    omega
  have old : ∀ i, i < w.heap.size → (fun i => if w.heap.size ≤ i ∧ i < w'.heap.size then some (Role.node a) else L i) i = L i := fun i hi => by simp only []; rw [if_neg (by omega)]
  refine ⟨fun i => if w.heap.size ≤ i ∧ i < w'.heap.size then some (.node a) else L i, ⟨hr.cell, hr.nm, hr.kp, hr.ac, ?_, ?_, ?_, ?_, ?_, ?_, ?_, h.sn, h.sk, fun p hp => List.mem_cons_of_mem _ (h.rn p hp), fun p hp => List.mem_cons_of_mem _ (h.rk p hp)⟩, Chg.of_ext he, ?_⟩
  · intro c hc
    rcases List.mem_cons.1 hc with rfl | hc
    · simp only [upd_same]; exact ⟨hn, ok⟩
    · simp only [upd_other _ _ _ _ (na c hc)]; exact hr.nd c hc
  · exact (old b h.cell.lt).trans h.lb
  · exact fun g hg => (old g (h.nm.lt g hg)).trans (h.ln g hg)
  · exact fun g hg => (old g (h.kp.lt g hg)).trans (h.lk g hg)
  · exact fun g hg => (old g (h.ac.lt g hg)).trans (h.la g hg)
  · intro c hc i hi
    rcases List.mem_cons.1 hc with rfl | hc
    · simp only [upd_same] at hi
      show (if _ then _ else _) = _; rw [if_pos ⟨hf i hi, hn.lt i hi⟩]
    · simp only [upd_other _ _ _ _ (na c hc)] at hi
      exact (old i ((h.nd c hc).1.lt i hi)).trans (h.ld c hc i hi)
  · intro i hi
    (try simp only [] at hi)
    by_cases e : w.heap.size ≤ i ∧ i < w'.heap.size
    · exact e.2
    · rw [if_neg e] at hi; exact Nat.lt_of_lt_of_le (h.lt i hi) hsz
  · intro i hi
    (try simp only [] at hi)
    by_cases e : w.heap.size ≤ i ∧ i < w'.heap.size
    · exact Or.inr e.1
    · rw [if_neg e] at hi; exact Or.inl hi
end Go.Proofs.YtbneedmfpldpfaaDoor
