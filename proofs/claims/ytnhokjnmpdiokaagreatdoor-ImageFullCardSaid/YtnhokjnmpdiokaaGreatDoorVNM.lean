/- A node's rows: fit, sectors. A node in memory; resize. Contract of resize. Cells of a node's rows set; bytes to be read; write. -/
import Derived.Test.YtnhokjnmpdiokaaGreatDoorVTM
namespace Go.Proofs.YtnhokjnmpdiokaaGreatDoor.V
open Go.RowKit Go.Pth

def bts (l : List Int) : List Value := l.map (Value.int .u8)
def bls (l : List Bool) : List Value := l.map Value.bool
theorem bts_len (l : List Int) : (bts l).length = l.length := by simp [bts]
theorem bls_len (l : List Bool) : (bls l).length = l.length := by simp [bls]
theorem bts_one (l : List Int) : ∀ v ∈ bts l, v.oneCell' = true := by simp [bts, Value.oneCell']
def fitL {α : Type} (l : List α) (n : Nat) (z : α) : List α := if n ≤ l.length then l.take n else l ++ List.replicate (n - l.length) z
theorem fitL_len {α : Type} (l : List α) (n : Nat) (z : α) : (fitL l n z).length = n := by unfold fitL; split <;> simp <;> omega
theorem Row.cut {w : World} {e : TypeId} {ad : Option Addr} {cap n m : Nat} {xs : List Value} (h : Row w e 1 (.slice ad n cap) n xs) (hm : m ≤ n) : Row w e 1 (.slice ad m cap) m (xs.take m) := by
  have hl : xs.length = n := by simpa using h.1
  refine ⟨by simp [hl]; omega, ?_⟩
  rcases h.2 with ⟨h1, h2⟩ | ⟨g, cap', cur, hv, hb, hg, hn, hc, hcs, hx⟩
  · injection h1 with h1 h3 h4
    subst h1 h3 h4
    have : m = 0 := by omega
    subst this
    exact .inl ⟨rfl, rfl⟩
  · injection hv with h1 h3 h4
    subst h1 h4
    refine .inr ⟨g, cap, cur, rfl, hb, hg, by omega, hc, hcs, ?_⟩
    rw [← hx, List.take_take]
    congr 1; omega
theorem zeros_list (z : Value) (hz : z.cells = #[z]) (n : Nat) : (Builtin.zeroCells z.cells n).toList = List.replicate n z := by
  rw [hz]
  simp only [Builtin.zeroCells]
  apply List.ext_getElem
  · simp
  · intro i h1 h2
    simp [Nat.mod_one]
theorem info_of {P : Program} {e : TypeId} {z : Value} {size bytes : Nat} (h : (P.info? e).map (fun i => (i.zero, i.size, i.bytes)) = some (some z, size, bytes)) : ∃ i, P.info? e = some i ∧ i.zero = some z ∧ i.size = size ∧ i.bytes = bytes := by
  obtain ⟨i, h1, h2⟩ := Option.map_eq_some_iff.1 h
  simp only [Prod.mk.injEq] at h2
  exact ⟨i, h1, h2.1, h2.2.1, h2.2.2⟩
theorem info5 : (Tryz.prog.info? 5).map (fun i => (i.zero, i.size, i.bytes)) = some (some (.int .u8 0), 1, 1) := by kernel_rfl
theorem info4 : (Tryz.prog.info? 4).map (fun i => (i.zero, i.size, i.bytes)) = some (some (.bool false), 1, 1) := by kernel_rfl

set_option maxRecDepth 100000 in
set_option maxHeartbeats 4000000 in
theorem fitb_any (v : Value) (l : List Int) (n : Nat) (w : World) (h : Row w 5 1 v l.length (bts l)) (hl : l.length ≤ 65536) (hn : n ≤ 65536) :
    Calls Tryz.prog 131 #[v, .int .i64 n] w fun e w' => ∃ v', e = .returned v' ∧ Row w' 5 1 v' n (bts (fitL l n 0)) ∧ Grew w w' v v' := by
  obtain ⟨ad, cap, rfl, hc1, hc2, hc3, hc4⟩ := h.shape
  by_cases hle : n ≤ l.length
  · have hr := Lib.hid (Row.cut h hle)
    have fe : bts (fitL l n 0) = (bts l).take n := by unfold fitL; rw [if_pos hle]; simp [bts, List.map_take]
    have FE := Lib.hid fe
    have G : Hid (Grew w w (.slice ad l.length cap) (.slice ad n cap)) := Lib.hid ⟨Chg.refl _ w, Or.inl (by cases ad <;> rfl)⟩
    simp only [maxLen] at hc2
    clear h fe hc4 hc3
    generalize l.length = L at *
    have d1 : decide (n ≤ L) = true := decide_eq_true hle
    have d2 : (n : Int) ≤ (L : Int) := by omega
    have d3 : (n : Int) ≤ (cap : Int) := by omega
    have d4 : (0 : Int) ≤ (n : Int) := by omega
    go_enter Tryz.func131, Tryz.ntmps131
    go_wp2
    go_ret
    exact ⟨_, rfl, by rw [FE.out]; exact hr.out, G.out⟩
  · have hm : 0 < n - l.length := by omega
    obtain ⟨i, hi1, hi2, hi3, hi4⟩ := info_of info5
    have hrun := fun ty => run_append_zeros (P := Tryz.prog) w 50 3 ty 5 .i64 i (.int .u8 0) Tryz.underlying50 Tryz.underlying3 hi1 hi2 (by rw [hi3]; rfl) (by omega) (by simp [Value.cells, Value.oneCell']) (.slice ad l.length cap) l.length (bts l) (by rw [hi3]; exact h) (n - l.length) hm (by simp only [maxLen]; omega) (by rw [hi4]; omega)
    rw [hi3] at hrun
    have hz : bts l ++ (Builtin.zeroCells (Value.int .u8 0).cells (n - l.length)).toList = bts (fitL l n 0) := by
      rw [zeros_list _ rfl]; unfold fitL; rw [if_neg hle]; simp [bts]
    rw [hz, show l.length + (n - l.length) = n by omega] at hrun
    have HR := Lib.hid hrun
    clear hrun hz h hc3 hc4 hi1 hi2 hi3 hi4
    generalize bts (fitL l n 0) = X at *
    generalize l.length = L at *
    have d1 : decide (n ≤ L) = false := decide_eq_false hle
    have d2 : ¬ ((n : Int) ≤ (L : Int)) := by omega
    have hsub : (n : Int) - (L : Int) = ((n - L : Nat) : Int) := by omega
    go_enter Tryz.func131, Tryz.ntmps131
    obtain ⟨v', w', hr, hrow, hg⟩ := HR.out 50
    have HR2 := Lib.hid hr
    clear hr HR
    go_wp2_with (at_builtin; refine Lib.wpList_append_run _ rfl _ _ _ _ rfl _ _ rfl rfl _ _ HR2.out ?_)
    go_ret
    exact ⟨_, rfl, hrow, hg⟩
set_option maxRecDepth 100000 in
set_option maxHeartbeats 4000000 in
theorem fitl_any (v : Value) (l : List Bool) (n : Nat) (w : World) (h : Row w 4 1 v l.length (bls l)) (hl : l.length ≤ 65536) (hn : n ≤ 65536) :
    Calls Tryz.prog 132 #[v, .int .i64 n] w fun e w' => ∃ v', e = .returned v' ∧ Row w' 4 1 v' n (bls (fitL l n false)) ∧ Grew w w' v v' := by
  obtain ⟨ad, cap, rfl, hc1, hc2, hc3, hc4⟩ := h.shape
  by_cases hle : n ≤ l.length
  · have hr := Lib.hid (Row.cut h hle)
    have fe : bls (fitL l n false) = (bls l).take n := by unfold fitL; rw [if_pos hle]; simp [bls, List.map_take]
    have FE := Lib.hid fe
    have G : Hid (Grew w w (.slice ad l.length cap) (.slice ad n cap)) := Lib.hid ⟨Chg.refl _ w, Or.inl (by cases ad <;> rfl)⟩
    simp only [maxLen] at hc2
    clear h fe hc4 hc3
    generalize l.length = L at *
    have d1 : decide (n ≤ L) = true := decide_eq_true hle
    have d2 : (n : Int) ≤ (L : Int) := by omega
    have d3 : (n : Int) ≤ (cap : Int) := by omega
    have d4 : (0 : Int) ≤ (n : Int) := by omega
    go_enter Tryz.func132, Tryz.ntmps132
    go_wp2
    go_ret
    exact ⟨_, rfl, by rw [FE.out]; exact hr.out, G.out⟩
  · have hm : 0 < n - l.length := by omega
    obtain ⟨i, hi1, hi2, hi3, hi4⟩ := info_of info4
    have hrun := fun ty => run_append_zeros (P := Tryz.prog) w 83 3 ty 4 .i64 i (.bool false) Tryz.underlying83 Tryz.underlying3 hi1 hi2 (by rw [hi3]; rfl) (by omega) (by simp [Value.cells, Value.oneCell']) (.slice ad l.length cap) l.length (bls l) (by rw [hi3]; exact h) (n - l.length) hm (by simp only [maxLen]; omega) (by rw [hi4]; omega)
    rw [hi3] at hrun
    have hz : bls l ++ (Builtin.zeroCells (Value.bool false).cells (n - l.length)).toList = bls (fitL l n false) := by
      rw [zeros_list _ rfl]; unfold fitL; rw [if_neg hle]; simp [bls]
    rw [hz, show l.length + (n - l.length) = n by omega] at hrun
    have HR := Lib.hid hrun
    clear hrun hz h hc3 hc4 hi1 hi2 hi3 hi4
    generalize bls (fitL l n false) = X at *
    generalize l.length = L at *
    have d1 : decide (n ≤ L) = false := decide_eq_false hle
    have d2 : ¬ ((n : Int) ≤ (L : Int)) := by omega
    have hsub : (n : Int) - (L : Int) = ((n - L : Nat) : Int) := by omega
    go_enter Tryz.func132, Tryz.ntmps132
    obtain ⟨v', w', hr, hrow, hg⟩ := HR.out 83
    have HR2 := Lib.hid hr
    clear hr HR
    go_wp2_with (at_builtin; refine Lib.wpList_append_run _ rfl _ _ _ _ rfl _ _ rfl rfl _ _ HR2.out ?_)
    go_ret
    exact ⟨_, rfl, hrow, hg⟩

def secs (n : Nat) : Nat := (n + 15) / 16
set_option maxHeartbeats 4000000 in
theorem sectors_any (n : Nat) (w : World) (hn : n ≤ 1000000) : Calls Tryz.prog 133 #[.int .i64 n] w fun e w' => e = .returned (.int .i64 (secs n)) ∧ w = w' := by
  have h1 : ((n : Int) + 16 - 1).tdiv 16 = (secs n : Int) := by
    rw [Int.tdiv_eq_ediv_of_nonneg (by omega)]; unfold secs; omega
  have h2 : ((n : Int) + 16 - 1) / 16 = (secs n : Int) := by unfold secs; omega
  go_enter Tryz.func133, Tryz.ntmps133
  go_wp2
  go_ret
  exact ⟨retv (by first | rfl | (rw [← h2]; rfl)), rfl⟩
end Go.Proofs.YtnhokjnmpdiokaaGreatDoor.V

namespace Go.Proofs.YtnhokjnmpdiokaaGreatDoor.V
open Go.RowKit Go.Pth

structure NV where
  kind : Int
  mt : Int
  stamp : Int
  now : List Int
  kept : List Int
  loose : List Bool
structure Vs where
  n : Value
  k : Value
  l : Value
def ncells (N : NV) (V : Vs) : Array Value := #[.int .i64 N.kind, .int .i64 N.mt, .int .u64 N.stamp, V.n, V.k, V.l]
def Foot (a : Nat) (V : Vs) (i : Nat) : Prop := i = a ∨ V.n.ownBlock = some i ∨ V.k.ownBlock = some i ∨ V.l.ownBlock = some i
structure NdIn (w : World) (a : Nat) (N : NV) (V : Vs) : Prop where
  cells : At w a (ncells N V) 85
  n : Row w 5 1 V.n N.now.length (bts N.now)
  k : Row w 5 1 V.k N.kept.length (bts N.kept)
  l : Row w 4 1 V.l N.loose.length (bls N.loose)
  an : V.n.ownBlock ≠ some a
  ak : V.k.ownBlock ≠ some a
  al : V.l.ownBlock ≠ some a
  nk : ∀ g, V.n.ownBlock = some g → V.k.ownBlock ≠ some g
  nl : ∀ g, V.n.ownBlock = some g → V.l.ownBlock ≠ some g
  kl : ∀ g, V.k.ownBlock = some g → V.l.ownBlock ≠ some g
theorem NdIn.lt {w : World} {a : Nat} {N : NV} {V : Vs} (h : NdIn w a N V) (i : Nat) (hi : Foot a V i) : i < w.heap.size := by
  rcases hi with rfl | hi | hi | hi
  · exact h.cells.lt
  · exact h.n.lt i hi
  · exact h.k.lt i hi
  · exact h.l.lt i hi
theorem NdIn.keep {w w' : World} {a : Nat} {N : NV} {V : Vs} (h : NdIn w a N V) (hb : ∀ i, Foot a V i → w'.heap[i]? = w.heap[i]?) : NdIn w' a N V :=
  ⟨h.cells.keep (hb a (Or.inl rfl)), h.n.keep fun g hg => hb g (Or.inr (Or.inl hg)), h.k.keep fun g hg => hb g (Or.inr (Or.inr (Or.inl hg))), h.l.keep fun g hg => hb g (Or.inr (Or.inr (Or.inr hg))), h.an, h.ak, h.al, h.nk, h.nl, h.kl⟩
theorem NdIn.ext {w w' : World} {a : Nat} {N : NV} {V : Vs} (h : NdIn w a N V) (he : Ext w w') : NdIn w' a N V := h.keep fun i hi => he.block i (h.lt i hi)
theorem NdIn.chg {X : Nat → Prop} {w w' : World} {a : Nat} {N : NV} {V : Vs} (h : NdIn w a N V) (hc : Chg X w w') (hx : ∀ i, Foot a V i → ¬ X i) : NdIn w' a N V := h.keep fun i hi => hc.block i (h.lt i hi) (hx i hi)

structure NdTo (w w' : World) (a : Nat) (V V' : Vs) : Prop where
  chg : Chg (Foot a V) w w'
  foot : ∀ i, Foot a V' i → Foot a V i ∨ w.heap.size ≤ i
theorem NdTo.refl (w : World) (a : Nat) (V : Vs) : NdTo w w a V V := ⟨Chg.refl _ w, fun _ h => Or.inl h⟩
theorem NdTo.trans {w w1 w2 : World} {a : Nat} {V V1 V2 : Vs} (h : NdTo w w1 a V V1) (k : NdTo w1 w2 a V1 V2) : NdTo w w2 a V V2 :=
  ⟨h.chg.trans k.chg fun i hi hf => by rcases h.foot i hf with h1 | h1; exact h1; omega,
   fun i hi => by
    rcases k.foot i hi with h1 | h1
    · exact h.foot i h1
    · exact Or.inr (Nat.le_trans h.chg.size h1)⟩
theorem grew_ne {w w' : World} {v v' u : Value} (g : Grew w w' v v') (hlt : ∀ i, u.ownBlock = some i → i < w.heap.size) (hne : ∀ i, v.ownBlock = some i → u.ownBlock ≠ some i) : ∀ i, v'.ownBlock = some i → u.ownBlock ≠ some i := by
  intro i hi hu
  rcases g.own with h | ⟨q, h1, h2⟩
  · exact hne i (by rw [← h]; exact hi) hu
  · rw [h1] at hi; injection hi with hi
    have := hlt i hu; omega
theorem grew_na {w w' : World} {v v' : Value} (g : Grew w w' v v') {a : Nat} (hlt : a < w.heap.size) (hne : v.ownBlock ≠ some a) : v'.ownBlock ≠ some a := by
  intro hi
  rcases g.own with h | ⟨q, h1, h2⟩
  · exact hne (by rw [← h]; exact hi)
  · rw [h1] at hi; injection hi with hi; omega
theorem ne_flip {u v : Value} (h : ∀ i, v.ownBlock = some i → u.ownBlock ≠ some i) : ∀ i, u.ownBlock = some i → v.ownBlock ≠ some i := fun i hu hv => h i hv hu

theorem NdIn.setN {w w1 : World} {a : Nat} {N : NV} {V : Vs} (h : NdIn w a N V) {v' : Value} {l' : List Int} (hr : Row w1 5 1 v' l'.length (bts l')) (g : Grew w w1 V.n v') :
    NdIn (w1.setCell ⟨a, 3, none⟩ v') a { N with now := l' } { V with n := v' } ∧ NdTo w (w1.setCell ⟨a, 3, none⟩ v') a V { V with n := v' } := by
  have na := grew_na g h.cells.lt h.an
  have c1 := g.chg.at h.cells h.an
  have sc := Chg.setCell w1 a 3 v'
  refine ⟨⟨?_, hr.chg sc fun q hq e => na (by rw [← e]; exact hq), (h.k.chg g.chg fun q hq e => h.nk q e hq).chg sc fun q hq e => h.ak (by rw [← e]; exact hq), (h.l.chg g.chg fun q hq e => h.nl q e hq).chg sc fun q hq e => h.al (by rw [← e]; exact hq),
    na, h.ak, h.al, grew_ne g (fun i hi => h.k.lt i hi) h.nk, grew_ne g (fun i hi => h.l.lt i hi) h.nl, h.kl⟩, ?_, ?_⟩
  · have := c1.set 3 v'
    simpa [ncells] using this
  · exact (g.chg.mono fun i _ hi => Or.inr (Or.inl hi)).trans (sc.mono fun i _ hi => (Or.inl hi : Foot a V i)) fun _ _ hi => hi
  · rintro i (hi | hi | hi | hi)
    · exact Or.inl (Or.inl hi)
    · rcases g.own with e | ⟨q, h1, h2⟩
      · exact Or.inl (Or.inr (Or.inl (by rw [← e]; exact hi)))
      · refine Or.inr ?_
        have hi : v'.ownBlock = some i := hi
        rw [h1] at hi; injection hi with hi; omega
    · exact Or.inl (Or.inr (Or.inr (Or.inl hi)))
    · exact Or.inl (Or.inr (Or.inr (Or.inr hi)))
theorem NdIn.setK {w w1 : World} {a : Nat} {N : NV} {V : Vs} (h : NdIn w a N V) {v' : Value} {l' : List Int} (hr : Row w1 5 1 v' l'.length (bts l')) (g : Grew w w1 V.k v') :
    NdIn (w1.setCell ⟨a, 4, none⟩ v') a { N with kept := l' } { V with k := v' } ∧ NdTo w (w1.setCell ⟨a, 4, none⟩ v') a V { V with k := v' } := by
  have na := grew_na g h.cells.lt h.ak
  have c1 := g.chg.at h.cells h.ak
  have sc := Chg.setCell w1 a 4 v'
  refine ⟨⟨?_, (h.n.chg g.chg fun q hq e => h.nk q hq e).chg sc fun q hq e => h.an (by rw [← e]; exact hq), hr.chg sc fun q hq e => na (by rw [← e]; exact hq), (h.l.chg g.chg fun q hq e => h.kl q e hq).chg sc fun q hq e => h.al (by rw [← e]; exact hq),
    h.an, na, h.al, ne_flip (grew_ne g (fun i hi => h.n.lt i hi) (ne_flip h.nk)), h.nl, grew_ne g (fun i hi => h.l.lt i hi) h.kl⟩, ?_, ?_⟩
  · have := c1.set 4 v'
    simpa [ncells] using this
  · exact (g.chg.mono fun i _ hi => Or.inr (Or.inr (Or.inl hi))).trans (sc.mono fun i _ hi => (Or.inl hi : Foot a V i)) fun _ _ hi => hi
  · rintro i (hi | hi | hi | hi)
    · exact Or.inl (Or.inl hi)
    · exact Or.inl (Or.inr (Or.inl hi))
    · rcases g.own with e | ⟨q, h1, h2⟩
      · exact Or.inl (Or.inr (Or.inr (Or.inl (by rw [← e]; exact hi))))
      · refine Or.inr ?_
        have hi : v'.ownBlock = some i := hi
        rw [h1] at hi; injection hi with hi; omega
    · exact Or.inl (Or.inr (Or.inr (Or.inr hi)))
theorem NdIn.setL {w w1 : World} {a : Nat} {N : NV} {V : Vs} (h : NdIn w a N V) {v' : Value} {l' : List Bool} (hr : Row w1 4 1 v' l'.length (bls l')) (g : Grew w w1 V.l v') :
    NdIn (w1.setCell ⟨a, 5, none⟩ v') a { N with loose := l' } { V with l := v' } ∧ NdTo w (w1.setCell ⟨a, 5, none⟩ v') a V { V with l := v' } := by
  have na := grew_na g h.cells.lt h.al
  have c1 := g.chg.at h.cells h.al
  have sc := Chg.setCell w1 a 5 v'
  refine ⟨⟨?_, (h.n.chg g.chg fun q hq e => h.nl q hq e).chg sc fun q hq e => h.an (by rw [← e]; exact hq), (h.k.chg g.chg fun q hq e => h.kl q hq e).chg sc fun q hq e => h.ak (by rw [← e]; exact hq), hr.chg sc fun q hq e => na (by rw [← e]; exact hq),
    h.an, h.ak, na, h.nk, ne_flip (grew_ne g (fun i hi => h.n.lt i hi) (ne_flip h.nl)), ne_flip (grew_ne g (fun i hi => h.k.lt i hi) (ne_flip h.kl))⟩, ?_, ?_⟩
  · have := c1.set 5 v'
    simpa [ncells] using this
  · exact (g.chg.mono fun i _ hi => Or.inr (Or.inr (Or.inr hi))).trans (sc.mono fun i _ hi => (Or.inl hi : Foot a V i)) fun _ _ hi => hi
  · rintro i (hi | hi | hi | hi)
    · exact Or.inl (Or.inl hi)
    · exact Or.inl (Or.inr (Or.inl hi))
    · exact Or.inl (Or.inr (Or.inr (Or.inl hi)))
    · rcases g.own with e | ⟨q, h1, h2⟩
      · exact Or.inl (Or.inr (Or.inr (Or.inr (by rw [← e]; exact hi))))
      · refine Or.inr ?_
        have hi : v'.ownBlock = some i := hi
        rw [h1] at hi; injection hi with hi; omega
theorem NdIn.c {w : World} {a : Nat} {N : NV} {V : Vs} (h : NdIn w a N V) (j : Nat) : w.cell? ⟨a, j, none⟩ = (ncells N V)[j]? := h.cells.cell j
theorem NdIn.fz {w : World} {a : Nat} {N : NV} {V : Vs} (h : NdIn w a N V) (j : Nat) : w.frozen? ⟨a, j, none⟩ = false := h.cells.frozen j

def NV.resize (N : NV) (n : Nat) : NV := { N with now := fitL N.now n 0, kept := fitL N.kept n 0, loose := fitL N.loose (secs n) false }
structure NV.Ok (N : NV) : Prop where
  kl : N.kept.length = N.now.length
  ll : N.loose.length = secs N.now.length
  len : N.now.length ≤ 65536
  bn : ∀ x ∈ N.now, 0 ≤ x ∧ x < 256
  bk : ∀ x ∈ N.kept, 0 ≤ x ∧ x < 256
theorem fitL_byt {l : List Int} (h : ∀ x ∈ l, 0 ≤ x ∧ x < 256) (n : Nat) : ∀ x ∈ fitL l n 0, 0 ≤ x ∧ x < 256 := by
  intro x hx
  unfold fitL at hx
  split at hx
  · exact h x (List.mem_of_mem_take hx)
  · rcases List.mem_append.1 hx with hx | hx
    · exact h x hx
    · rw [List.eq_of_mem_replicate hx]; omega
theorem NV.Ok.resize {N : NV} (h : N.Ok) (n : Nat) (hn : n ≤ 65536) : (N.resize n).Ok :=
  ⟨by simp [NV.resize, fitL_len], by simp [NV.resize, fitL_len], by simp [NV.resize, fitL_len]; exact hn, fitL_byt h.bn n, fitL_byt h.bk n⟩
end Go.Proofs.YtnhokjnmpdiokaaGreatDoor.V

namespace Go.Proofs.YtnhokjnmpdiokaaGreatDoor.V
set_option linter.unusedSimpArgs false
open Go.RowKit Go.Pth

theorem take_at {P : Program} {ops : Array Oper} {Q : Exit → Act → World → Prop} {md : Region.Mode} (i : Nat) (d : Option Tmp) (v : Value) {oi : Oper} {fuel : Nat} {listed : Array Bool} {a : Act} {w : World} (hi : ops[i]? = some oi) (hd : oi.dst = d)
    (hs : Region.noSelect ops = true) (hf : Region.free md ops listed i = true) (hr : (Region.ready md ops listed).contains i = true)
    (hQ : ∀ c a w, Q (.panic c) (a.put d v) w → Q (.panic c) a w) (hg : oi.guard = none) (hy : ∀ w, (execOp a.eval oi).run P w = .ok (.value v) w)
    (h : wpAny P md ops Q fuel (listed.setIfInBounds i true) (a.put d v) w) : wpAny P md ops Q (fuel + 1) listed a w := by
  subst hd
  exact wpAny_take hi hs hf hr hQ (Or.inl ⟨by simp [Region.wanted, hg], hy⟩) h
theorem next_one {P : Program} {ops : Array Oper} {Q : Exit → Act → World → Prop} {md : Region.Mode} (i : Nat) {oi : Oper} {fuel : Nat} {listed : Array Bool} {a : Act} {w : World} (hi : ops[i]? = some oi)
    (hr : Region.ready md ops listed = [i]) (hg : oi.guard = none)
    (h : ∀ K : Act → World → Prop, (∀ a w, wpAny P md ops Q fuel (listed.setIfInBounds i true) a w → K a w) → oi.wp P a w K Q) : wpAny P md ops Q (fuel + 1) listed a w := by
  refine wpAny_ready hr (by simp) (AllReady.cons hi (fun K hK => ?_) AllReady.nil)
  rw [if_pos (by simp [Region.wanted, hg])]
  exact h K hK
theorem next_two {P : Program} {ops : Array Oper} {Q : Exit → Act → World → Prop} {md : Region.Mode} (i j : Nat) {oi oj : Oper} {fuel : Nat} {listed : Array Bool} {a : Act} {w : World} (hi : ops[i]? = some oi) (hj : ops[j]? = some oj)
    (hr : Region.ready md ops listed = [i, j]) (hgi : oi.guard = none) (hgj : oj.guard = none)
    (h1 : ∀ K : Act → World → Prop, (∀ a w, wpAny P md ops Q fuel (listed.setIfInBounds i true) a w → K a w) → oi.wp P a w K Q)
    (h2 : ∀ K : Act → World → Prop, (∀ a w, wpAny P md ops Q fuel (listed.setIfInBounds j true) a w → K a w) → oj.wp P a w K Q) : wpAny P md ops Q (fuel + 1) listed a w := by
  refine wpAny_ready hr (by simp) (AllReady.cons hi (fun K hK => ?_) (AllReady.cons hj (fun K hK => ?_) AllReady.nil))
  · rw [if_pos (by simp [Region.wanted, hgi])]
    exact h1 K hK
  · rw [if_pos (by simp [Region.wanted, hgj])]
    exact h2 K hK
theorem runV {P : Program} {op : Oper} {a : Act} {w : World} {K : Act → World → Prop} {Q : Exit → Act → World → Prop} (d : Option Tmp) (hd : op.dst = d) (v : Value) (w1 : World) (hr : (execOp a.eval op).run P w = .ok (.value v) w1) (h : K (a.put d v) w1) : op.wp P a w K Q := by
  subst hd
  unfold Oper.wp
  rw [hr]
  exact h
theorem runN {P : Program} {op : Oper} {a : Act} {w : World} {K : Act → World → Prop} {Q : Exit → Act → World → Prop} (hd : op.dst = none) (w1 : World) (hr : (execOp a.eval op).run P w = .ok .skip w1) (h : K a w1) : op.wp P a w K Q := by
  unfold Oper.wp
  rw [hr]
  show K (a.put op.dst undef) _
  rw [hd]
  exact h

set_option maxRecDepth 100000 in
set_option maxHeartbeats 4000000 in
theorem resize_any (a : Nat) (N : NV) (V : Vs) (n : Nat) (w : World) (h : NdIn w a N V) (ok : N.Ok) (hn : n ≤ 65536) :
    Calls Tryz.prog 109 #[ptr a, .int .i64 n] w fun e w' => e = .returned (.tuple #[]) ∧ ∃ V', NdIn w' a (N.resize n) V' ∧ NdTo w w' a V V' := by
  have hkl : N.kept.length ≤ 65536 := by rw [ok.kl]; exact ok.len
  have hll : N.loose.length ≤ 65536 := by rw [ok.ll]; have := ok.len; unfold secs; omega
  have hnl := ok.len
  have HN := Lib.hid hnl; have HK := Lib.hid hkl; have HL := Lib.hid hll
  have H := Lib.hid h
  clear hkl hll hnl
  unfold ptr
  have c3 := h.c 3
  simp only [ncells] at c3
  clear h ok
  have f1 := Lib.hid (fun (V : Vs) (w : World) (h : NdIn w a N V) => fitb_any V.n N.now n w h.n HN.out hn)
  go_enter Tryz.func109, Tryz.ntmps109
  go_wp2_with fail
  refine (f1.out V w H.out).mono ?_
  rintro e w1 ⟨v1, rfl, r1, g1⟩
  obtain ⟨d1, k1, rfl, -⟩ := r1.shape
  have S1 := H.out.setN (l' := fitL N.now n 0) (by rw [fitL_len]; exact r1) g1
  have fz := (g1.chg.at H.out.cells H.out.an).frozen 3
  have cc := (g1.chg.at H.out.cells H.out.an).cell 3
  simp only [ncells] at cc
  have c4 := S1.1.c 4
  simp only [ncells] at c4
  have H1 := Lib.hid S1
  clear S1 r1 g1 c3 f1
  have f2 := Lib.hid (fun (V : Vs) (w : World) (h : NdIn w a { N with now := fitL N.now n 0 } V) => fitb_any V.k N.kept n w h.k HK.out hn)
  go_wp2_with fail
  refine (f2.out _ _ H1.out.1).mono ?_
  rintro e w2 ⟨v2, rfl, r2, g2⟩
  obtain ⟨d2, k2, rfl, -⟩ := r2.shape
  have S2 := H1.out.1.setK (l' := fitL N.kept n 0) (by rw [fitL_len]; exact r2) g2
  have fz2 := (g2.chg.at H1.out.1.cells H1.out.1.ak).frozen 4
  have cc2 := (g2.chg.at H1.out.1.cells H1.out.1.ak).cell 4
  simp only [ncells] at cc2
  have c5 := S2.1.c 5
  simp only [ncells] at c5
  have H2 := Lib.hid (⟨S2.1, H1.out.2.trans S2.2⟩ : _ ∧ _)
  clear S2 r2 g2 c4 f2 cc fz H1
  go_upto_region 2 with fail
  generalize w2.setCell ⟨a, 4, none⟩ (.slice d2 n k2) = W at *
  clear cc2 fz2
  have cd : W.drew.cell? ⟨a, 5, none⟩ = some V.l := by rw [show W.drew.cell? ⟨a, 5, none⟩ = W.cell? ⟨a, 5, none⟩ from rfl, c5]; rfl
  have nd : Hid (NdIn W.drew a { N with now := fitL N.now n 0, kept := fitL N.kept n 0 } { V with n := .slice d1 n k1, k := .slice d2 n k2 }) := Lib.hid (H2.out.1.ext (Ext.drew W))
  have hsec : secs n ≤ 65536 := by unfold secs; omega
  refine wp_region_any (by kernel_rfl) ?_
  change wpAny _ _ _ _ _ _ _ (World.drew _)
  generalize hWd : W.drew = Wd at *
  refine take_at 0 (some 22) (.pointer (some ⟨a, 0, none⟩)) rfl rfl (by kernel_rfl) (by kernel_rfl) (by kernel_rfl) (fun _ _ _ h => h) rfl (fun _ => by go_simp) ?_
  simp only [pt0, pt4, pt1, pt2, pt3]
  refine take_at 1 (some 23) (.pointer (some ⟨a, 0, none⟩)) rfl rfl (by kernel_rfl) (by kernel_rfl) (by kernel_rfl) (fun _ _ _ h => h) rfl (fun _ => by go_simp) ?_
  simp only [pt0, pt4, pt1, pt2, pt3]
  refine take_at 2 (some 24) (.pointer (some ⟨a, 0, none⟩)) rfl rfl (by kernel_rfl) (by kernel_rfl) (by kernel_rfl) (fun _ _ _ h => h) rfl (fun _ => by go_simp) ?_
  simp only [pt0, pt4, pt1, pt2, pt3]
  refine take_at 3 (some 25) (.pointer (some ⟨a, 5, none⟩)) rfl rfl (by kernel_rfl) (by kernel_rfl) (by kernel_rfl) (fun _ _ _ h => h) rfl (fun _ => by go_simp) ?_
  simp only [pt0, pt4, pt1, pt2, pt3]
  refine take_at 5 (some 27) (.int .i64 n) rfl rfl (by kernel_rfl) (by kernel_rfl) (by kernel_rfl) (fun _ _ _ h => h) rfl (fun _ => by go_simp) ?_
  simp only [pt0, pt4, pt1, pt2, pt3]
  refine next_two 4 6 rfl rfl (by kernel_rfl) rfl rfl (fun K hK => ?_) (fun K hK => ?_)
  · (refine runV (some 26) rfl V.l Wd (by go_simp) ?_; refine hK _ _ ?_; clear hK K; simp only [pt0, pt4, pt1, pt2, pt3])
    refine next_one 6 rfl (by kernel_rfl) rfl (fun K hK => ?_)
    (refine callS (some 28) rfl 133 #[.int .i64 n] (by go_simp) (fun v w' => v = .int .i64 (secs n) ∧ Wd = w') ((sectors_any n _ (by omega)).mono fun e w' he => ⟨_, he.1, rfl, he.2⟩) ?_; rintro v3 w3 ⟨rfl, rfl⟩; refine hK _ _ ?_; clear hK K; simp only [pt0, pt4, pt1, pt2, pt3])
    refine next_one 7 rfl (by kernel_rfl) rfl (fun K hK => ?_)
    refine callS (some 29) rfl 132 #[V.l, .int .i64 (secs n)] (by go_simp) (fun v' w' => Row w' 4 1 v' (secs n) (bls (fitL N.loose (secs n) false)) ∧ Grew Wd w' V.l v') ((fitl_any V.l N.loose (secs n) Wd nd.out.l HL.out hsec).mono fun e w' he => he) ?_
    rintro v4 w4 ⟨r4, g4⟩
    refine hK _ _ ?_
    clear hK K
    have at4 := g4.chg.at nd.out.cells nd.out.al
    have c54 := at4.cell 5
    have f54 := at4.frozen 5
    simp only [ncells] at c54
    have S4 := Lib.hid (nd.out.setL (l' := fitL N.loose (secs n) false) (by rw [fitL_len]; exact r4) g4)
    obtain ⟨d4, k4, rfl, -⟩ := r4.shape
    clear at4 r4 g4
    simp only [pt0, pt4, pt1, pt2, pt3]
    refine take_at 8 (some 30) (.pointer (some ⟨a, 0, none⟩)) rfl rfl (by kernel_rfl) (by kernel_rfl) (by kernel_rfl) (fun _ _ _ h => h) rfl (fun _ => by go_simp) ?_
    simp only [pt0, pt4, pt1, pt2, pt3]
    refine take_at 9 (some 31) (.pointer (some ⟨a, 5, none⟩)) rfl rfl (by kernel_rfl) (by kernel_rfl) (by kernel_rfl) (fun _ _ _ h => h) rfl (fun _ => by go_simp) ?_
    simp only [pt0, pt4, pt1, pt2, pt3]
    refine next_one 10 rfl (by kernel_rfl) rfl (fun K hK => ?_)
    refine runN rfl (w4.setCell ⟨a, 5, none⟩ (.slice d4 (secs n) k4)) (by go_simp) ?_
    refine hK _ _ ?_
    clear hK K
    refine wpAny_done (by kernel_rfl) ?_ _
    go_wp2
    go_end0
    exact ⟨rfl, _, S4.out.1, (H2.out.2.trans (by rw [← hWd]; exact ⟨Chg.of_ext (Ext.drew W), fun i hi => Or.inl hi⟩)).trans S4.out.2⟩
  · (refine callS (some 28) rfl 133 #[.int .i64 n] (by go_simp) (fun v w' => v = .int .i64 (secs n) ∧ Wd = w') ((sectors_any n _ (by omega)).mono fun e w' he => ⟨_, he.1, rfl, he.2⟩) ?_; rintro v3 w3 ⟨rfl, rfl⟩; refine hK _ _ ?_; clear hK K; simp only [pt0, pt4, pt1, pt2, pt3])
    refine next_one 4 rfl (by kernel_rfl) rfl (fun K hK => ?_)
    (refine runV (some 26) rfl V.l Wd (by go_simp) ?_; refine hK _ _ ?_; clear hK K; simp only [pt0, pt4, pt1, pt2, pt3])
    refine next_one 7 rfl (by kernel_rfl) rfl (fun K hK => ?_)
    refine callS (some 29) rfl 132 #[V.l, .int .i64 (secs n)] (by go_simp) (fun v' w' => Row w' 4 1 v' (secs n) (bls (fitL N.loose (secs n) false)) ∧ Grew Wd w' V.l v') ((fitl_any V.l N.loose (secs n) Wd nd.out.l HL.out hsec).mono fun e w' he => he) ?_
    rintro v4 w4 ⟨r4, g4⟩
    refine hK _ _ ?_
    clear hK K
    have at4 := g4.chg.at nd.out.cells nd.out.al
    have c54 := at4.cell 5
    have f54 := at4.frozen 5
    simp only [ncells] at c54
    have S4 := Lib.hid (nd.out.setL (l' := fitL N.loose (secs n) false) (by rw [fitL_len]; exact r4) g4)
    obtain ⟨d4, k4, rfl, -⟩ := r4.shape
    clear at4 r4 g4
    simp only [pt0, pt4, pt1, pt2, pt3]
    refine take_at 8 (some 30) (.pointer (some ⟨a, 0, none⟩)) rfl rfl (by kernel_rfl) (by kernel_rfl) (by kernel_rfl) (fun _ _ _ h => h) rfl (fun _ => by go_simp) ?_
    simp only [pt0, pt4, pt1, pt2, pt3]
    refine take_at 9 (some 31) (.pointer (some ⟨a, 5, none⟩)) rfl rfl (by kernel_rfl) (by kernel_rfl) (by kernel_rfl) (fun _ _ _ h => h) rfl (fun _ => by go_simp) ?_
    simp only [pt0, pt4, pt1, pt2, pt3]
    refine next_one 10 rfl (by kernel_rfl) rfl (fun K hK => ?_)
    refine runN rfl (w4.setCell ⟨a, 5, none⟩ (.slice d4 (secs n) k4)) (by go_simp) ?_
    refine hK _ _ ?_
    clear hK K
    refine wpAny_done (by kernel_rfl) ?_ _
    go_wp2
    go_end0
    exact ⟨rfl, _, S4.out.1, (H2.out.2.trans (by rw [← hWd]; exact ⟨Chg.of_ext (Ext.drew W), fun i hi => Or.inl hi⟩)).trans S4.out.2⟩
end Go.Proofs.YtnhokjnmpdiokaaGreatDoor.V

namespace Go.Proofs.YtnhokjnmpdiokaaGreatDoor.V
open Go.RowKit Go.Pth

theorem Row.sets {w : World} {e : TypeId} {g cap n : Nat} {xs : List Value} (h : Row w e 1 (.slice (some ⟨g, 0, none⟩) n cap) n xs) (o : Nat) (vs : List Value) (hl : o + vs.length ≤ n) :
    Row (w.setCells g o vs) e 1 (.slice (some ⟨g, 0, none⟩) n cap) n (xs.take o ++ vs ++ xs.drop (o + vs.length)) := by
  have hx : xs.length = n := by simpa using h.1
  rcases h.2 with ⟨h1, h2⟩ | ⟨g', cap', cur, hv, hb, hg, hn, hc, hcs, hxs⟩
  · cases h1
  · injection hv with h1 h3 h4
    injection h1 with h1
    injection h1 with h1
    subst h1 h4
    simp only [Nat.mul_one] at hcs hxs
    have hat : At w g cur e := hg
    refine ⟨by simp [hx]; omega, .inr ⟨g, cap, _, rfl, hb, At.sets vs o w cur hat (by omega), hn, hc, ?_, ?_⟩⟩
    · simp; omega
    · simp only [Nat.mul_one]
      rw [← hxs]
      have hcl : cur.toList.length = cap := by simp [hcs]
      rw [List.take_append, List.take_append, List.take_take, List.drop_take]
      simp only [List.length_append, List.length_take, hcl]
      rw [Nat.min_eq_right (by omega : o ≤ n), Nat.min_eq_left (by omega : o ≤ cap), List.take_of_length_le (l := vs) (by omega)]
      simp only [List.take_take, Nat.min_eq_left (by omega : o ≤ n)]
theorem Row.own {w : World} {e : TypeId} {v : Value} {n : Nat} {xs : List Value} (h : Row w e 1 v n xs) (hn : 0 < n) : ∃ g cap, v = .slice (some ⟨g, 0, none⟩) n cap ∧ n ≤ cap ∧ cap ≤ maxLen := by
  rcases h.2 with ⟨_, h2⟩ | ⟨g, cap, cur, hv, _, _, h1, h2, _⟩
  · omega
  · exact ⟨g, cap, hv, h1, h2⟩
theorem Row.cell {w : World} {e : TypeId} {g cap n : Nat} {xs : List Value} (h : Row w e 1 (.slice (some ⟨g, 0, none⟩) n cap) n xs) (j : Nat) (hj : j < n) : w.cell? ⟨g, j, none⟩ = xs[j]? ∧ w.frozen? ⟨g, j, none⟩ = false := by
  rcases h.2 with ⟨h1, h2⟩ | ⟨g', cap', cur, hv, hb, hg, hn, hc, hcs, hxs⟩
  · cases h1
  · injection hv with h1 h3 h4
    injection h1 with h1
    injection h1 with h1
    subst h1
    have hat : At w g cur e := hg
    simp only [Nat.mul_one] at hxs
    exact ⟨by rw [hat.cell, ← hxs, List.getElem?_take_of_lt hj, Array.getElem?_toList], hat.frozen j⟩
def splice {α : Type} (l : List α) (o : Nat) (x : List α) : List α := l.take o ++ x ++ l.drop (o + x.length)
theorem splice_len {α : Type} (l : List α) (o : Nat) (x : List α) (h : o + x.length ≤ l.length) : (splice l o x).length = l.length := by simp [splice]; omega
theorem bts_splice (l : List Int) (o : Nat) (x : List Int) : (bts l).take o ++ bts x ++ (bts l).drop (o + (bts x).length) = bts (splice l o x) := by simp [bts, splice, List.map_take, List.map_drop]
theorem bls_set (l : List Bool) (o : Nat) (h : o < l.length) : (bls l).take o ++ [.bool true] ++ (bls l).drop (o + 1) = bls (l.set o true) := by
  rw [List.set_eq_take_append_cons_drop, if_pos h]; simp [bls, List.map_take, List.map_drop]
theorem NdIn.putN {w : World} {a : Nat} {N : NV} {V : Vs} (h : NdIn w a N V) {g cap : Nat} (hv : V.n = .slice (some ⟨g, 0, none⟩) N.now.length cap) (o : Nat) (x : List Int) (hl : o + x.length ≤ N.now.length) :
    NdIn (w.setCells g o (bts x)) a { N with now := splice N.now o x } V ∧ NdTo w (w.setCells g o (bts x)) a V V := by
  have hg : V.n.ownBlock = some g := by rw [hv]; rfl
  have sc := Chg.sets g (bts x) o w
  have hr := h.n
  rw [hv] at hr
  have hr2 := Row.sets hr o (bts x) (by rw [bts_len]; exact hl)
  rw [bts_splice, ← hv] at hr2
  refine ⟨⟨sc.at h.cells fun e => h.an (by rw [e]; exact hg), by rw [splice_len _ _ _ hl]; exact hr2, h.k.chg sc fun q hq e => h.nk g hg (by rw [← e]; exact hq), h.l.chg sc fun q hq e => h.nl g hg (by rw [← e]; exact hq), h.an, h.ak, h.al, h.nk, h.nl, h.kl⟩, sc.mono fun i _ e => Or.inr (Or.inl (by rw [e]; exact hg)), fun i hi => Or.inl hi⟩
theorem NdIn.markL {w : World} {a : Nat} {N : NV} {V : Vs} (h : NdIn w a N V) {g cap : Nat} (hv : V.l = .slice (some ⟨g, 0, none⟩) N.loose.length cap) (o : Nat) (hl : o < N.loose.length) :
    NdIn (w.setCell ⟨g, o, none⟩ (.bool true)) a { N with loose := N.loose.set o true } V ∧ NdTo w (w.setCell ⟨g, o, none⟩ (.bool true)) a V V := by
  have hg : V.l.ownBlock = some g := by rw [hv]; rfl
  have sc := Chg.setCell w g o (.bool true)
  have hr := h.l
  rw [hv] at hr
  have hr2 := Row.sets hr o [.bool true] (by simp; omega)
  simp only [List.length_cons, List.length_nil, Nat.zero_add] at hr2
  rw [bls_set _ _ hl, ← hv] at hr2
  refine ⟨⟨sc.at h.cells fun e => h.al (by rw [e]; exact hg), h.n.chg sc fun q hq e => h.nl q hq (by rw [e]; exact hg), h.k.chg sc fun q hq e => h.kl q hq (by rw [e]; exact hg), by rw [List.length_set]; exact hr2, h.an, h.ak, h.al, h.nk, h.nl, h.kl⟩, sc.mono fun i _ e => Or.inr (Or.inr (Or.inr (by rw [e]; exact hg))), fun i hi => Or.inl hi⟩

structure Bin (w : World) (v : Value) (l : List Int) (ad : Option Addr) (cap b o : Nat) : Prop where
  val : v = .slice ad l.length cap
  adr : 0 < l.length → ad = some ⟨b, o, none⟩
  cell : ∀ j u, (bts l)[j]? = some u → w.cell? ⟨b, o + j, none⟩ = some u
theorem Bin.chg {X : Nat → Prop} {w w' : World} {v : Value} {l : List Int} {ad : Option Addr} {cap b o : Nat} (h : Bin w v l ad cap b o) (hc : Chg X w w') (hx : ¬ X b) : Bin w' v l ad cap b o :=
  ⟨h.val, h.adr, fun j u hu => hc.cell (h.cell j u hu) hx⟩
theorem Bin.ext {w w' : World} {v : Value} {l : List Int} {ad : Option Addr} {cap b o : Nat} (h : Bin w v l ad cap b o) (he : Ext w w') : Bin w' v l ad cap b o :=
  ⟨h.val, h.adr, fun j u hu => he.cell (h.cell j u hu)⟩
theorem Bin.of_row {w : World} {v : Value} {l : List Int} (h : Row w 5 1 v l.length (bts l)) : ∃ ad cap b, Bin w v l ad cap b 0 ∧ (∀ g, v.ownBlock = some g → b = g) := by
  rcases h.2 with ⟨rfl, h0⟩ | ⟨g, cap, cur, rfl, _, hg, hn, _, _, hx⟩
  · have : l = [] := List.length_eq_zero_iff.1 h0
    subst this
    exact ⟨none, 0, 0, ⟨rfl, fun h => by simp at h, fun j u hu => by simp [bts] at hu⟩, fun g hg => by cases hg⟩
  · refine ⟨_, cap, g, ⟨rfl, fun _ => rfl, fun j u hu => ?_⟩, fun q hq => by injection hq with hq⟩
    have hat : At w g cur 5 := hg
    have hj : j < l.length := by
      have := (List.getElem?_eq_some_iff.1 hu).1
      rw [bts_len] at this; exact this
    rw [Nat.zero_add, hat.cell, ← hu, ← hx, List.getElem?_take_of_lt (by omega), Array.getElem?_toList]

def mark (l : List Bool) (i j : Nat) : List Bool := l.mapIdx fun k x => if i ≤ k ∧ k < j then true else x
theorem mark_len (l : List Bool) (i j : Nat) : (mark l i j).length = l.length := by simp [mark]
theorem mark_none (l : List Bool) (i j : Nat) (h : j ≤ i) : mark l i j = l := by
  apply List.ext_getElem
  · simp [mark]
  · intro k h1 h2; simp [mark]; omega
theorem mark_set (l : List Bool) (i k : Nat) (h : i ≤ k) : (mark l i k).set k true = mark l i (k + 1) := by
  apply List.ext_getElem
  · simp [mark]
  · intro q h1 h2
    simp only [mark, List.getElem_set, List.getElem_mapIdx]
    by_cases e : k = q
    · subst e; simp [h]
    · rw [if_neg e]
      by_cases h3 : i ≤ q ∧ q < k
      · rw [if_pos h3, if_pos (by omega)]
      · rw [if_neg h3, if_neg (by omega)]
def NV.write (N : NV) (off : Nat) (x : List Int) : NV :=
  if min off N.now.length = off + x.length then N else
    let M := N.resize (max (off + x.length) N.now.length)
    { M with now := splice M.now off x, loose := mark M.loose (min off N.now.length / 16) (secs (off + x.length)) }
end Go.Proofs.YtnhokjnmpdiokaaGreatDoor.V
