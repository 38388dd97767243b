/- A node in memory; resize. -/
import Derived.Test.YtbneedmfpldpfaaDoorNa
namespace Go.Proofs.YtbneedmfpldpfaaDoor
open Go.RowKit Go.Pth

structure NV where
  kind : Int
  mt : Int
  stamp : Int
  now : List Int
  kept : List Int
  loose : List Bool
structure Vs where
  n : Value
  k : Value
  l : Value
def ncells (N : NV) (V : Vs) : Array Value := #[.int .i64 N.kind, .int .i64 N.mt, .int .u64 N.stamp, V.n, V.k, V.l]
def Foot (a : Nat) (V : Vs) (i : Nat) : Prop := i = a ∨ V.n.ownBlock = some i ∨ V.k.ownBlock = some i ∨ V.l.ownBlock = some i
structure NdIn (w : World) (a : Nat) (N : NV) (V : Vs) : Prop where
  cells : At w a (ncells N V) 58
  n : Row w 5 1 V.n N.now.length (bts N.now)
  k : Row w 5 1 V.k N.kept.length (bts N.kept)
  l : Row w 4 1 V.l N.loose.length (bls N.loose)
  an : V.n.ownBlock ≠ some a
  ak : V.k.ownBlock ≠ some a
  al : V.l.ownBlock ≠ some a
  nk : ∀ g, V.n.ownBlock = some g → V.k.ownBlock ≠ some g
  nl : ∀ g, V.n.ownBlock = some g → V.l.ownBlock ≠ some g
  kl : ∀ g, V.k.ownBlock = some g → V.l.ownBlock ≠ some g
theorem NdIn.lt {w : World} {a : Nat} {N : NV} {V : Vs} (h : NdIn w a N V) (i : Nat) (hi : Foot a V i) : i < w.heap.size := by
  rcases hi with rfl | hi | hi | hi
  · exact h.cells.lt
  · exact h.n.lt i hi
  · exact h.k.lt i hi
  · exact h.l.lt i hi
theorem NdIn.keep {w w' : World} {a : Nat} {N : NV} {V : Vs} (h : NdIn w a N V) (hb : ∀ i, Foot a V i → w'.heap[i]? = w.heap[i]?) : NdIn w' a N V :=
  ⟨h.cells.keep (hb a (Or.inl rfl)), h.n.keep fun g hg => hb g (Or.inr (Or.inl hg)), h.k.keep fun g hg => hb g (Or.inr (Or.inr (Or.inl hg))), h.l.keep fun g hg => hb g (Or.inr (Or.inr (Or.inr hg))), h.an, h.ak, h.al, h.nk, h.nl, h.kl⟩
theorem NdIn.ext {w w' : World} {a : Nat} {N : NV} {V : Vs} (h : NdIn w a N V) (he : Ext w w') : NdIn w' a N V := h.keep fun i hi => he.block i (h.lt i hi)
theorem NdIn.chg {X : Nat → Prop} {w w' : World} {a : Nat} {N : NV} {V : Vs} (h : NdIn w a N V) (hc : Chg X w w') (hx : ∀ i, Foot a V i → ¬ X i) : NdIn w' a N V := h.keep fun i hi => hc.block i (h.lt i hi) (hx i hi)

/-- A node became another: what it stands in, and what is new. -/
structure NdTo (w w' : World) (a : Nat) (V V' : Vs) : Prop where
  chg : Chg (Foot a V) w w'
  foot : ∀ i, Foot a V' i → Foot a V i ∨ w.heap.size ≤ i
theorem NdTo.refl (w : World) (a : Nat) (V : Vs) : NdTo w w a V V := ⟨Chg.refl _ w, fun _ h => Or.inl h⟩
theorem NdTo.trans {w w1 w2 : World} {a : Nat} {V V1 V2 : Vs} (h : NdTo w w1 a V V1) (k : NdTo w1 w2 a V1 V2) : NdTo w w2 a V V2 :=
  ⟨h.chg.trans k.chg fun i hi hf => by rcases h.foot i hf with h1 | h1; exact h1; omega,
   fun i hi => by
    rcases k.foot i hi with h1 | h1
    · exact h.foot i h1
    · exact Or.inr (Nat.le_trans h.chg.size h1)⟩
theorem grew_ne {w w' : World} {v v' u : Value} (g : Grew w w' v v') (hlt : ∀ i, u.ownBlock = some i → i < w.heap.size) (hne : ∀ i, v.ownBlock = some i → u.ownBlock ≠ some i) : ∀ i, v'.ownBlock = some i → u.ownBlock ≠ some i := by
  intro i hi hu
  rcases g.own with h | ⟨q, h1, h2⟩
  · exact hne i (by rw [← h]; exact hi) hu
  · rw [h1] at hi; injection hi with hi
    have := hlt i hu; omega
theorem grew_na {w w' : World} {v v' : Value} (g : Grew w w' v v') {a : Nat} (hlt : a < w.heap.size) (hne : v.ownBlock ≠ some a) : v'.ownBlock ≠ some a := by
  intro hi
  rcases g.own with h | ⟨q, h1, h2⟩
  · exact hne (by rw [← h]; exact hi)
  · rw [h1] at hi; injection hi with hi; omega
theorem ne_flip {u v : Value} (h : ∀ i, v.ownBlock = some i → u.ownBlock ≠ some i) : ∀ i, u.ownBlock = some i → v.ownBlock ≠ some i := fun i hu hv => h i hv hu

theorem NdIn.setN {w w1 : World} {a : Nat} {N : NV} {V : Vs} (h : NdIn w a N V) {v' : Value} {l' : List Int} (hr : Row w1 5 1 v' l'.length (bts l')) (g : Grew w w1 V.n v') :
    NdIn (w1.setCell ⟨a, 3, none⟩ v') a { N with now := l' } { V with n := v' } ∧ NdTo w (w1.setCell ⟨a, 3, none⟩ v') a V { V with n := v' } := by
  have na := grew_na g h.cells.lt h.an
  have c1 := g.chg.at h.cells h.an
  have sc := Chg.setCell w1 a 3 v'
  refine ⟨⟨?_, hr.chg sc fun q hq e => na (by rw [← e]; exact hq), (h.k.chg g.chg fun q hq e => h.nk q e hq).chg sc fun q hq e => h.ak (by rw [← e]; exact hq), (h.l.chg g.chg fun q hq e => h.nl q e hq).chg sc fun q hq e => h.al (by rw [← e]; exact hq),
    na, h.ak, h.al, grew_ne g (fun i hi => h.k.lt i hi) h.nk, grew_ne g (fun i hi => h.l.lt i hi) h.nl, h.kl⟩, ?_, ?_⟩
  · have := c1.set 3 v'
    simpa [ncells] using this
  · exact (g.chg.mono fun i _ hi => Or.inr (Or.inl hi)).trans (sc.mono fun i _ hi => (Or.inl hi : Foot a V i)) fun _ _ hi => hi
  · rintro i (hi | hi | hi | hi)
    · exact Or.inl (Or.inl hi)
    · rcases g.own with e | ⟨q, h1, h2⟩
      · exact Or.inl (Or.inr (Or.inl (by rw [← e]; exact hi)))
      · refine Or.inr ?_
        have hi : v'.ownBlock = some i := hi
        rw [h1] at hi; injection hi with hi; omega
    · exact Or.inl (Or.inr (Or.inr (Or.inl hi)))
    · exact Or.inl (Or.inr (Or.inr (Or.inr hi)))
theorem NdIn.setK {w w1 : World} {a : Nat} {N : NV} {V : Vs} (h : NdIn w a N V) {v' : Value} {l' : List Int} (hr : Row w1 5 1 v' l'.length (bts l')) (g : Grew w w1 V.k v') :
    NdIn (w1.setCell ⟨a, 4, none⟩ v') a { N with kept := l' } { V with k := v' } ∧ NdTo w (w1.setCell ⟨a, 4, none⟩ v') a V { V with k := v' } := by
  have na := grew_na g h.cells.lt h.ak
  have c1 := g.chg.at h.cells h.ak
  have sc := Chg.setCell w1 a 4 v'
  refine ⟨⟨?_, (h.n.chg g.chg fun q hq e => h.nk q hq e).chg sc fun q hq e => h.an (by rw [← e]; exact hq), hr.chg sc fun q hq e => na (by rw [← e]; exact hq), (h.l.chg g.chg fun q hq e => h.kl q e hq).chg sc fun q hq e => h.al (by rw [← e]; exact hq),
    h.an, na, h.al, ne_flip (grew_ne g (fun i hi => h.n.lt i hi) (ne_flip h.nk)), h.nl, grew_ne g (fun i hi => h.l.lt i hi) h.kl⟩, ?_, ?_⟩
  · have := c1.set 4 v'
    simpa [ncells] using this
  · exact (g.chg.mono fun i _ hi => Or.inr (Or.inr (Or.inl hi))).trans (sc.mono fun i _ hi => (Or.inl hi : Foot a V i)) fun _ _ hi => hi
  · rintro i (hi | hi | hi | hi)
    · exact Or.inl (Or.inl hi)
    · exact Or.inl (Or.inr (Or.inl hi))
    · rcases g.own with e | ⟨q, h1, h2⟩
      · exact Or.inl (Or.inr (Or.inr (Or.inl (by rw [← e]; exact hi))))
      · refine Or.inr ?_
        have hi : v'.ownBlock = some i := hi
        rw [h1] at hi; injection hi with hi; omega
    · exact Or.inl (Or.inr (Or.inr (Or.inr hi)))
theorem NdIn.setL {w w1 : World} {a : Nat} {N : NV} {V : Vs} (h : NdIn w a N V) {v' : Value} {l' : List Bool} (hr : Row w1 4 1 v' l'.length (bls l')) (g : Grew w w1 V.l v') :
    NdIn (w1.setCell ⟨a, 5, none⟩ v') a { N with loose := l' } { V with l := v' } ∧ NdTo w (w1.setCell ⟨a, 5, none⟩ v') a V { V with l := v' } := by
  have na := grew_na g h.cells.lt h.al
  have c1 := g.chg.at h.cells h.al
  have sc := Chg.setCell w1 a 5 v'
  refine ⟨⟨?_, (h.n.chg g.chg fun q hq e => h.nl q hq e).chg sc fun q hq e => h.an (by rw [← e]; exact hq), (h.k.chg g.chg fun q hq e => h.kl q hq e).chg sc fun q hq e => h.ak (by rw [← e]; exact hq), hr.chg sc fun q hq e => na (by rw [← e]; exact hq),
    h.an, h.ak, na, h.nk, ne_flip (grew_ne g (fun i hi => h.n.lt i hi) (ne_flip h.nl)), ne_flip (grew_ne g (fun i hi => h.k.lt i hi) (ne_flip h.kl))⟩, ?_, ?_⟩
  · have := c1.set 5 v'
    simpa [ncells] using this
  · exact (g.chg.mono fun i _ hi => Or.inr (Or.inr (Or.inr hi))).trans (sc.mono fun i _ hi => (Or.inl hi : Foot a V i)) fun _ _ hi => hi
  · rintro i (hi | hi | hi | hi)
    · exact Or.inl (Or.inl hi)
    · exact Or.inl (Or.inr (Or.inl hi))
    · exact Or.inl (Or.inr (Or.inr (Or.inl hi)))
    · rcases g.own with e | ⟨q, h1, h2⟩
      · exact Or.inl (Or.inr (Or.inr (Or.inr (by rw [← e]; exact hi))))
      · refine Or.inr ?_
        have hi : v'.ownBlock = some i := hi
        rw [h1] at hi; injection hi with hi; omega
theorem NdIn.c {w : World} {a : Nat} {N : NV} {V : Vs} (h : NdIn w a N V) (j : Nat) : w.cell? ⟨a, j, none⟩ = (ncells N V)[j]? := h.cells.cell j
theorem NdIn.fz {w : World} {a : Nat} {N : NV} {V : Vs} (h : NdIn w a N V) (j : Nat) : w.frozen? ⟨a, j, none⟩ = false := h.cells.frozen j

def NV.resize (N : NV) (n : Nat) : NV := { N with now := fitL N.now n 0, kept := fitL N.kept n 0, loose := fitL N.loose (secs n) false }
structure NV.Ok (N : NV) : Prop where
  kl : N.kept.length = N.now.length
  ll : N.loose.length = secs N.now.length
  len : N.now.length ≤ 65536
  bn : ∀ x ∈ N.now, 0 ≤ x ∧ x < 256
  bk : ∀ x ∈ N.kept, 0 ≤ x ∧ x < 256
theorem fitL_byt {l : List Int} (h : ∀ x ∈ l, 0 ≤ x ∧ x < 256) (n : Nat) : ∀ x ∈ fitL l n 0, 0 ≤ x ∧ x < 256 := by
  intro x hx
  unfold fitL at hx
  split at hx
  · exact h x (List.mem_of_mem_take hx)
  · rcases List.mem_append.1 hx with hx | hx
    · exact h x hx
    · rw [List.eq_of_mem_replicate hx]; omega
theorem NV.Ok.resize {N : NV} (h : N.Ok) (n : Nat) (hn : n ≤ 65536) : (N.resize n).Ok :=
  ⟨by simp [NV.resize, fitL_len], by simp [NV.resize, fitL_len], by simp [NV.resize, fitL_len]; exact hn, fitL_byt h.bn n, fitL_byt h.bk n⟩
end Go.Proofs.YtbneedmfpldpfaaDoor
