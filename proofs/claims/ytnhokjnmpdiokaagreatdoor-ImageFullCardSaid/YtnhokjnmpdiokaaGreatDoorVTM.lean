/- Names in memory; where one stands. Contracts of sort.Search, place, find. Contracts of sort.Search with place's own question, place, find. Contracts of find, takes, there. -/
import Derived.Test.YtnhokjnmpdiokaaGreatDoorVMM
import Derived.Test.YtnhokjnmpdiokaaGreatDoorVWM
import Derived.Deep.LoopGhost
import Derived.Deep.CutRange
namespace Go.Proofs.YtnhokjnmpdiokaaGreatDoor.V
open Go.RowKit Go.Pth

abbrev Nm := B × Nat
def ptr (a : Nat) : Value := .pointer (some ⟨a, 0, none⟩)
def ents (l : List Nm) : List Value := l.flatMap fun p => [.string (tx p.1), ptr p.2]
theorem ents_len (l : List Nm) : (ents l).length = l.length * 2 := by
  induction l with
  | nil => rfl
  | cons a r ih => simp [ents] at ih ⊢; omega
theorem ents_get (l : List Nm) (j : Nat) (h : j < l.length) : (ents l)[j * 2]? = some (.string (tx l[j].1)) ∧ (ents l)[j * 2 + 1]? = some (ptr l[j].2) := by
  induction l generalizing j with
  | nil => simp at h
  | cons a r ih =>
    cases j with
    | zero => simp [ents]
    | succ j =>
      have := ih j (by simpa using h)
      simp only [ents, List.flatMap_cons] at this ⊢
      rw [show (j + 1) * 2 = j * 2 + 1 + 1 by omega]
      simpa using this
structure TrR (w : World) (v : Value) (l : List Nm) (ad : Option Addr) (cap b o : Nat) : Prop where
  val : v = .slice ad l.length cap
  adr : 0 < l.length → ad = some ⟨b, o, none⟩
  nm : ∀ j (h : j < l.length), w.cell? ⟨b, o + j * 2, none⟩ = some (.string (tx l[j].1))
  nd : ∀ j (h : j < l.length), w.cell? ⟨b, o + j * 2 + 1, none⟩ = some (ptr l[j].2)
def Tr (w : World) (v : Value) (l : List Nm) : Prop := ∃ ad cap b o, TrR w v l ad cap b o
theorem TrR.ext {w w' : World} {v : Value} {l : List Nm} {ad : Option Addr} {cap b o : Nat} (h : TrR w v l ad cap b o) (he : Ext w w') : TrR w' v l ad cap b o :=
  ⟨h.val, h.adr, fun j hj => he.cell (h.nm j hj), fun j hj => he.cell (h.nd j hj)⟩
theorem Tr.ext {w w' : World} {v : Value} {l : List Nm} (h : Tr w v l) (he : Ext w w') : Tr w' v l := by
  obtain ⟨ad, cap, b, o, h⟩ := h; exact ⟨ad, cap, b, o, h.ext he⟩
theorem Tr.nil (w : World) : Tr w (.slice none 0 0) [] := ⟨none, 0, 0, 0, rfl, fun h => by simp at h, fun j h => by simp at h, fun j h => by simp at h⟩
theorem Tr.of_row {w : World} {v : Value} {l : List Nm} (h : Row w 79 2 v l.length (ents l)) : Tr w v l := by
  obtain ⟨_, ⟨rfl, h0⟩ | ⟨g, cap, cur, rfl, _, hg, hn, _, _, hx⟩⟩ := h
  · have : l = [] := List.length_eq_zero_iff.1 h0
    subst this; exact Tr.nil w
  · have hat : At w g cur 79 := hg
    have key : ∀ q, q < l.length * 2 → w.cell? ⟨g, q, none⟩ = (ents l)[q]? := fun q hq => by
      rw [hat.cell, ← hx, List.getElem?_take_of_lt hq, Array.getElem?_toList]
    refine ⟨_, cap, g, 0, rfl, fun _ => rfl, fun j hj => ?_, fun j hj => ?_⟩
    · rw [Nat.zero_add, key _ (by omega)]; exact (ents_get l j hj).1
    · rw [Nat.zero_add, key _ (by omega)]; exact (ents_get l j hj).2

def Srt (l : List Nm) : Prop := l.Pairwise fun a b => less a.1 b.1 = true
def place (l : List Nm) (at_ : B) : Nat := (l.takeWhile fun p => less p.1 at_).length
theorem place_le (l : List Nm) (a : B) : place l a ≤ l.length := (List.takeWhile_sublist _).length_le
theorem place_before (l : List Nm) (a : B) (j : Nat) (h : j < place l a) (hj : j < l.length) : less l[j].1 a = true := by
  unfold place at h
  have h2 : (l.takeWhile fun p => less p.1 a)[j] = l[j] := by
    have := (List.takeWhile_prefix (l := l) fun p => less p.1 a).getElem h
    exact this
  have := List.all_takeWhile (p := fun p : Nm => less p.1 a) (l := l)
  have := List.all_eq_true.1 this _ (List.getElem_mem h)
  rw [h2] at this; exact this
theorem place_at (l : List Nm) (a : B) (h : place l a < l.length) : less l[place l a].1 a = false := by
  induction l with
  | nil => simp at h
  | cons x r ih =>
    cases hx : less x.1 a with
    | false =>
      have e : place (x :: r) a = 0 := by simp [place, List.takeWhile, hx]
      simp [e, hx]
    | true =>
      have e : place (x :: r) a = place r a + 1 := by simp [place, List.takeWhile, hx]
      have h' : place r a < r.length := by rw [e] at h; simpa using h
      have := ih h'
      simp only [e, List.getElem_cons_succ]; exact this
theorem place_uniq (l : List Nm) (a : B) (k : Nat) (hk : k ≤ l.length) (h1 : ∀ j (h : j < l.length), j < k → less l[j].1 a = true) (h2 : ∀ (h : k < l.length), less l[k].1 a = false) : place l a = k := by
  rcases Nat.lt_trichotomy (place l a) k with h | h | h
  · have := h1 (place l a) (by omega) h
    rw [place_at l a (by omega)] at this; cases this
  · exact h
  · have hlt : k < l.length := Nat.lt_of_lt_of_le h (place_le l a)
    have := place_before l a k h hlt
    rw [h2 hlt] at this; cases this
theorem place_after (l : List Nm) (a : B) (hs : Srt l) (j : Nat) (hj : j < l.length) (h : place l a ≤ j) : less l[j].1 a = false := by
  have hp : place l a < l.length := by omega
  have h0 := place_at l a hp
  rcases Nat.eq_or_lt_of_le h with h | h
  · simp only [← h]; exact h0
  · have h1 : less l[place l a].1 l[j].1 = true := (List.pairwise_iff_getElem.1 hs) _ _ hp hj h
    cases hc : less l[j].1 a with
    | false => rfl
    | true => rw [less_trans _ _ _ h1 hc] at h0; cases h0
end Go.Proofs.YtnhokjnmpdiokaaGreatDoor.V

namespace Go.Proofs.YtnhokjnmpdiokaaGreatDoor.V
set_option linter.unusedSimpArgs false
open Go.RowKit Go.Pth

section
variable {P : Program} {ops : Array Oper} {Q : Exit → Act → World → Prop} {md : Region.Mode} {S : World → Prop}
theorem pt0 (a : Act) (d : Tmp) (v : Value) : a.put (some d) v = { a with tmps := a.tmps.setIfInBounds d v } := rfl
theorem pt4 (a : Act) (v : Value) : a.put none v = a := rfl
theorem pt1 {α : Type} (l : List α) (i : Nat) (a : α) : l.toArray.setIfInBounds i a = (l.set i a).toArray := List.setIfInBounds_toArray l i a
theorem pt2 {α : Type} (x a : α) (l : List α) : (x :: l).set 0 a = a :: l := List.set_cons_zero
theorem pt3 {α : Type} (x a : α) (l : List α) (i : Nat) : (x :: l).set (i + 1) a = x :: l.set i a := List.set_cons_succ
theorem takeS (i : Nat) (d : Option Tmp) (v : Value) {oi : Oper} {fuel : Nat} {listed : Array Bool} {a : Act} {w : World} (hi : ops[i]? = some oi) (hd : oi.dst = d)
    (hs : Region.noSelect ops = true) (hf : Region.free md ops listed i = true) (hr : (Region.ready md ops listed).contains i = true)
    (hQ : ∀ c a w, Q (.panic c) (a.put d v) w → Q (.panic c) a w) (hw : Region.wanted oi (yielded ops a.tmps) = true) (hS : S w) (hy : ∀ w', S w' → (execOp a.eval oi).run P w' = .ok (.value v) w')
    (h : wpAnyH P md ops Q S fuel (listed.setIfInBounds i true) (a.put d v) w) : wpAnyH P md ops Q S (fuel + 1) listed a w := by
  subst hd
  exact wpAnyH_take hi hs hf hr hQ (Or.inl ⟨hw, hy⟩) hS h
theorem tkS {P : Program} {md : Region.Mode} {ops : Array Oper} {Q : Exit → Act → World → Prop} {S : World → Prop} (i : Nat) (d : Option Tmp) (v : Value) {oi : Oper} {fuel : Nat} {listed : Array Bool} {a : Act} {w : World} (hS : S w)
    (h : wpAnyH P md ops Q S fuel (listed.setIfInBounds i true) (a.put d v) w) (hi : ops[i]? = some oi := by exact rfl) (hd : oi.dst = d := by exact rfl) (hs : Region.noSelect ops = true := by kernel_rfl) (hf : Region.free md ops listed i = true := by kernel_rfl)
    (hr : (Region.ready md ops listed).contains i = true := by kernel_rfl) (hQ : ∀ c a w, Q (.panic c) (a.put d v) w → Q (.panic c) a w := by exact fun _ _ _ h => h) (hw : Region.wanted oi (yielded ops a.tmps) = true := by exact rfl)
    (hy : ∀ w', S w' → (execOp a.eval oi).run P w' = .ok (.value v) w' := by intro w' hw'; go_simp) : wpAnyH P md ops Q S (fuel + 1) listed a w := takeS i d v hi hd hs hf hr hQ hw hS hy h
theorem nextS (i : Nat) {oi : Oper} {fuel : Nat} {listed : Array Bool} {a : Act} {w : World} (hi : ops[i]? = some oi)
    (hr : Region.ready md ops listed = [i]) (hw : Region.wanted oi (yielded ops a.tmps) = true)
    (h : oi.wp P a w (fun a' w' => S w' ∧ wpAnyH P md ops Q S fuel (listed.setIfInBounds i true) a' w') Q) : wpAnyH P md ops Q S (fuel + 1) listed a w := by
  refine wpAnyH_all hr (by simp) fun j hj => ?_
  have hj : j = i := by simpa using hj
  subst hj
  refine wpOp_step hi fun K hK => ?_
  rw [if_pos hw]
  exact Oper.wp_mono (fun a' w' h' => hK a' w' h') h
end
theorem callS {P : Program} {op : Oper} {a : Act} {w : World} {K : Act → World → Prop} {Q : Exit → Act → World → Prop} (d : Option Tmp) (hd : op.dst = d) (f : FuncId) (args : Array Value)
    (hx : (execOp a.eval op).run P w = .ok (.enter f args) w) (R : Value → World → Prop) (hc : Calls P f args w fun e w' => ∃ v, e = .returned v ∧ R v w')
    (h : ∀ v w', R v w' → K (a.put d v) w') : op.wp P a w K Q := by
  subst hd
  unfold Oper.wp
  rw [hx]
  exact hc.mono fun e w' he => by obtain ⟨v, rfl, hr⟩ := he; exact h v w' hr

set_option maxRecDepth 100000 in
set_option maxHeartbeats 4000000 in
theorem asks_any (l : List Nm) (ad : Option Addr) (cap b o bt bx : Nat) (at_ : ByteArray) (v : Value) (w : World) (ht : TrR w v l ad cap b o) (hbt : w.cell? ⟨bt, 0, none⟩ = some v) (hbx : w.cell? ⟨bx, 0, none⟩ = some (.string at_)) (i : Nat) (hi : i < l.length) (hlen : l.length ≤ 1000000) :
    Calls Tryz.prog 86 #[.int .i64 i, ptr bt, ptr bx] w fun e w' => e = .returned (.bool (!less l[i].1 at_.toList)) ∧ Ext w w' := by
  obtain ⟨rfl, hadr, hnm, hnd⟩ := ht
  have had := hadr (by omega)
  subst had
  have c1 := hnm i hi
  clear hnm hnd hadr
  have HL := Lib.hid (less_any (tx l[i].1) at_)
  rw [tx_list] at HL
  obtain ⟨L, hL⟩ : ∃ L, L = l.length := ⟨_, rfl⟩
  obtain ⟨p, hp⟩ : ∃ p, p = l[i].1 := ⟨_, rfl⟩
  rw [← hp] at c1 HL ⊢
  rw [← hL] at hbt hi hlen
  clear hp hL
  have i0 : (0 : Int) ≤ (i : Int) := by omega
  have i1 : (i : Int) < (L : Int) := by omega
  unfold ptr
  go_enter Tryz.func86, Tryz.ntmps86
  go_upto_region 1 with fail
  refine wp_region_held (S := fun w' => Ext w w') (by kernel_rfl) ?_
  change wpAnyH _ _ _ _ _ _ _ _ (World.drew _)
  have hS : Ext w w.drew := Ext.drew w
  refine tkS 0 (some 5) (.slice (some ⟨b, o, none⟩) L cap) hS ?_ (hy := fun w' hw' => by have := hw'.cell hbt; go_simp)
  simp only [pt0, pt4, pt1, pt2, pt3]
  refine tkS 1 (some 6) (.int .i64 i) hS ?_
  simp only [pt0, pt4, pt1, pt2, pt3]
  refine tkS 2 (some 7) (.pointer (some ⟨b, o + i * 2, none⟩)) hS ?_
  simp only [pt0, pt4, pt1, pt2, pt3]
  refine tkS 3 (some 8) (.pointer (some ⟨b, o + i * 2, none⟩)) hS ?_
  simp only [pt0, pt4, pt1, pt2, pt3]
  refine tkS 4 (some 9) (.string (tx p)) hS ?_ (hy := fun w' hw' => by have := hw'.cell c1; go_simp)
  simp only [pt0, pt4, pt1, pt2, pt3]
  refine tkS 5 (some 10) (.string at_) hS ?_ (hy := fun w' hw' => by have := hw'.cell hbx; go_simp)
  simp only [pt0, pt4, pt1, pt2, pt3]
  refine nextS 6 rfl (by kernel_rfl) rfl ?_
  refine callS (some 11) rfl 31 #[.string (tx p), .string at_] (by go_simp) (fun v w' => v = .bool (less p at_.toList) ∧ Ext w w') ((HL.out _).mono fun e w' he => ⟨_, he.1, rfl, hS.trans he.2⟩) ?_
  rintro v3 w3 ⟨rfl, hS3⟩
  refine ⟨hS3, ?_⟩
  simp only [pt0, pt4, pt1, pt2, pt3]
  refine tkS 7 (some 12) (.bool (!less p at_.toList)) hS3 ?_
  simp only [pt0, pt4, pt1, pt2, pt3]
  refine tkS 8 (some 4) (.bool (!less p at_.toList)) hS3 ?_
  simp only [pt0, pt4, pt1, pt2, pt3]
  refine wpAnyH_done (by kernel_rfl) ?_ _
  go_wp2
  go_ret
  exact ⟨rfl, hS3⟩

def InvS (w : World) (n : Nat) (p : Nat → Bool) (kx : Nat) (s5 s6 : Value) (wr : World) : Prop :=
  ∃ lo hi : Nat, s5 = .int .i64 lo ∧ s6 = .int .i64 hi ∧ lo ≤ hi ∧ hi ≤ n ∧ hi - lo ≤ kx ∧ Ext w wr ∧ (∀ t, t < lo → p t = false) ∧ (∀ t, hi ≤ t → t < n → p t = true)
set_option maxHeartbeats 4000000 in
theorem search_any (cb : Array Value) (n : Nat) (p : Nat → Bool) (w : World) (hn : n ≤ 1000000)
    (hf : ∀ w', Ext w w' → ∀ i, i < n → Calls Tryz.prog 86 (#[.int .i64 i] ++ cb) w' fun e w'' => e = .returned (.bool (p i)) ∧ Ext w' w'') (hmono : ∀ a b, a ≤ b → b < n → p a = true → p b = true) :
    Calls Tryz.prog 85 #[.int .i64 n, .func (.func 86) #[] cb] w fun e w' => ∃ k : Nat, e = .returned (.int .i64 k) ∧ k ≤ n ∧ (∀ j, j < k → p j = false) ∧ (∀ j, k ≤ j → j < n → p j = true) ∧ Ext w w' := by
  have HF := Lib.hid hf
  have M := Lib.hid hmono
  have E0 := Lib.hid (Ext.refl w)
  clear hf hmono
  have eg : ∀ args w, (callFunc 86 args).run Tryz.prog w = .ok (.enter 86 args) w := enters_of Tryz.func86 (by kernel_rfl) rfl
  go_enter Tryz.func85, Tryz.ntmps85
  go_wp2
  go_loopg [5, 6] n (fun kx s5 s6 wr => InvS w n p kx s5 s6 wr)
  case atStart => exact ⟨0, n, rfl, rfl, Nat.zero_le _, Nat.le_refl _, by omega, E0.out, fun t ht => absurd ht (Nat.not_lt_zero _), fun t h1 h2 => by omega⟩
  case round =>
    obtain ⟨lo, hi, rfl, rfl, hlh, hin, hg, he, I1, I2⟩ := hrel
    have HE := Lib.hid he
    have J1 := Lib.hid I1
    have J2 := Lib.hid I2
    clear he I1 I2
    by_cases hlt : lo < hi
    · have hc := HF.out _ HE.out ((lo + hi) / 2) (by omega)
      rw [show (((lo + hi) / 2 : Nat) : Int) = ((lo : Int) + (hi : Int)) / 2 by omega] at hc
      have hmid : (lo + hi) / 2 < hi := by omega
      have hmid2 : lo ≤ (lo + hi) / 2 := by omega
      cases hp : p ((lo + hi) / 2) <;> rw [hp] at hc
      · have HP := Lib.hid hp
        clear hp
        go_wp2_with (go_at_fn 86; refine hc.mono ?_; rintro e w' ⟨rfl, hE⟩)
        have E2 := Lib.hid (HE.out.trans hE)
        go_roundg (hi - ((lo + hi) / 2 + 1))
        case measure => omega
        case rel =>
          refine ⟨(lo + hi) / 2 + 1, hi, by rw [show ((lo : Int) + (hi : Int)) / 2 + 1 = (((lo + hi) / 2 + 1 : Nat) : Int) by omega], rfl, by omega, hin, Nat.le_refl _, E2.out, fun t ht => ?_, J2.out⟩
          cases h : p t with
          | false => rfl
          | true => have := M.out t ((lo + hi) / 2) (by omega) (by omega) h; rw [HP.out] at this; cases this
      · have HP := Lib.hid hp
        clear hp
        go_wp2_with (go_at_fn 86; refine hc.mono ?_; rintro e w' ⟨rfl, hE⟩)
        have E2 := Lib.hid (HE.out.trans hE)
        go_roundg ((lo + hi) / 2 - lo)
        case measure => omega
        case rel =>
          exact ⟨lo, (lo + hi) / 2, rfl, by rw [show ((lo : Int) + (hi : Int)) / 2 = (((lo + hi) / 2 : Nat) : Int) by omega], by omega, by omega, Nat.le_refl _, E2.out, J1.out, fun t ht htn => M.out ((lo + hi) / 2) t ht htn HP.out⟩
    · obtain rfl : hi = lo := by omega
      clear hlt
      go_wp2
      go_ret
      exact ⟨hi, rfl, hin, J1.out, J2.out, HE.out⟩

set_option maxHeartbeats 4000000 in
theorem place_any (v : Value) (l : List Nm) (at_ : ByteArray) (w : World) (ht : Tr w v l) (hs : Srt l) (hlen : l.length ≤ 1000000) :
    Calls Tryz.prog 60 #[v, .string at_] w fun e w' => e = .returned (.int .i64 (place l at_.toList)) ∧ Ext w w' := by
  obtain ⟨ad, cap, b, o, ht⟩ := ht
  obtain ⟨W1, hW1⟩ : ∃ W1, W1 = w.alloc (.cells #[v] 75) := ⟨_, rfl⟩
  obtain ⟨W2, hW2⟩ : ∃ W2, W2 = W1.alloc (.cells #[.string at_] 9) := ⟨_, rfl⟩
  have e1 : Ext w W1 := by rw [hW1]; exact Ext.alloc _ _
  have e2 : Ext W1 W2 := by rw [hW2]; exact Ext.alloc _ _
  have s1 : W1.heap.size = w.heap.size + 1 := by rw [hW1]; exact size_alloc _ _
  have c1 : W2.cell? ⟨w.heap.size, 0, none⟩ = some v := e2.cell (by rw [hW1, (At.new w #[v] 75).cell]; rfl)
  have c2 : W2.cell? ⟨w.heap.size + 1, 0, none⟩ = some (.string at_) := by
    have := (At.new W1 #[.string at_] 9).cell 0
    rw [← hW2, s1] at this; rw [this]; rfl
  have hS := search_any #[ptr w.heap.size, ptr (w.heap.size + 1)] l.length (fun i => if h : i < l.length then !less l[i].1 at_.toList else false) W2 hlen
    (fun w' hw' i hi => by
      have := asks_any l ad cap b o w.heap.size (w.heap.size + 1) at_ v w' (ht.ext ((e1.trans e2).trans hw')) (hw'.cell c1) (hw'.cell c2) i hi hlen
      simpa [hi] using this)
    (fun a b' h1 h2 h3 => by
      have ha : a < l.length := by omega
      simp only [ha, h2, dif_pos, Bool.not_eq_true'] at h3 ⊢
      rcases Nat.eq_or_lt_of_le h1 with h | h
      · subst h; exact h3
      · have h4 : less l[a].1 l[b'].1 = true := (List.pairwise_iff_getElem.1 hs) _ _ ha h2 h
        cases hc : less l[b'].1 at_.toList with
        | false => rfl
        | true => rw [less_trans _ _ _ h4 hc] at h3; cases h3)
  have fin : ∀ k : Nat, k ≤ l.length → (∀ j, j < k → (if h : j < l.length then !less l[j].1 at_.toList else false) = false) → (∀ j, k ≤ j → j < l.length → (if h : j < l.length then !less l[j].1 at_.toList else false) = true) → k = place l at_.toList := by
    intro k hk h1 h2
    refine (place_uniq l _ k hk (fun j hj hjk => ?_) fun hj => ?_).symm
    · have := h1 j hjk; simpa [hj] using this
    · have := h2 k (Nat.le_refl _) hj; simpa [hj] using this
  have hS2 : Calls Tryz.prog 85 #[.int .i64 l.length, .func (.func 86) #[] #[ptr w.heap.size, ptr (w.heap.size + 1)]] W2 fun e w' => e = .returned (.int .i64 (place l at_.toList)) ∧ Ext W2 w' :=
    hS.mono fun e w' ⟨k, h0, h1, h2, h3, h4⟩ => ⟨by rw [h0, fin k h1 h2 h3], h4⟩
  have HS := Lib.hid hS2
  have EE := Lib.hid (e1.trans e2)
  have hv := ht.val
  have HC := Lib.hid c1
  clear hS hS2 fin e1 e2 c2 hs ht
  unfold ptr at HS
  subst hv
  generalize place l at_.toList = K at *
  generalize l.length = L at *
  rw [hW1] at hW2
  clear hW1 s1
  have C1 := HC.out
  go_enter Tryz.func60, Tryz.ntmps60
  go_wp2_with (go_at_call 85; rw [← hW2]; refine (HS.out).mono ?_; rintro e w' ⟨rfl, h4⟩)
  go_ret
  exact ⟨rfl, EE.out.trans h4⟩
end Go.Proofs.YtnhokjnmpdiokaaGreatDoor.V

namespace Go.Proofs.YtnhokjnmpdiokaaGreatDoor.V
open Go.RowKit Go.Pth

def look (l : List Nm) (a : B) : Option Nat := if h : place l a < l.length then (if l[place l a].1 = a then some l[place l a].2 else none) else none
def optr : Option Nat → Value
  | none => .pointer none
  | some n => ptr n
theorem retv {a b : Value} (h : a = b) : Ending.returned a = Ending.returned b := by rw [h]
set_option maxRecDepth 100000 in
set_option maxHeartbeats 4000000 in
theorem find_any (v : Value) (l : List Nm) (at_ : ByteArray) (w : World) (ht : Tr w v l) (hs : Srt l) (hlen : l.length ≤ 1000000) :
    Calls Tryz.prog 38 #[v, .string at_] w fun e w' => e = .returned (optr (look l at_.toList)) ∧ Ext w w' := by
  have HP := Lib.hid (place_any v l at_ w ht hs hlen)
  have hle := place_le l at_.toList
  have HK := Lib.hid (show look l at_.toList = if h : place l at_.toList < l.length then (if l[place l at_.toList].1 = at_.toList then some l[place l at_.toList].2 else none) else none from rfl)
  obtain ⟨ad, cap, b, o, ht⟩ := ht
  generalize hR : look l at_.toList = R at *
  clear hR
  obtain ⟨K, hK⟩ : ∃ K, K = place l at_.toList := ⟨_, rfl⟩
  by_cases hlt : K < l.length
  · rw [← hK] at hle HP
    have hadr := ht.adr (by omega)
    have c1 := Lib.hid (ht.nm K hlt)
    have c2 := Lib.hid (ht.nd K hlt)
    have hv := ht.val
    subst hadr hv
    have HR : Hid (R = if l[K].1 = at_.toList then some l[K].2 else none) := Lib.hid (by rw [HK.out, dif_pos (by omega)]; subst hK; rfl)
    clear HK ht hs
    generalize l[K].1 = p at *
    generalize l[K].2 = n at *
    generalize l.length = L at *
    clear hK
    have i0 : (0 : Int) ≤ (K : Int) := by omega
    have i1 : (K : Int) < (L : Int) := by omega
    have q0 : (K == L) = false := by simp; omega
    have q1 : ((K : Int) == (L : Int)) = false := by simp; omega
    cases hb : (p == at_.toList) with
    | true =>
      have tb : ((tx p).toList == at_.toList) = true := by rw [tx_list]; exact hb
      rw [if_pos (eq_of_beq hb)] at HR
      clear hb
      go_enter Tryz.func38, Tryz.ntmps38
      go_wp2_with (go_at_call 60; refine (HP.out).mono ?_; rintro e w' ⟨rfl, hE⟩; have d1 := hE.cell c1.out; have d2 := hE.cell c2.out)
      go_ret
      exact ⟨retv (by rw [HR.out]; rfl), hE⟩
    | false =>
      have tb : ((tx p).toList == at_.toList) = false := by rw [tx_list]; exact hb
      rw [if_neg (by simpa using hb)] at HR
      clear hb
      go_enter Tryz.func38, Tryz.ntmps38
      go_wp2_with (go_at_call 60; refine (HP.out).mono ?_; rintro e w' ⟨rfl, hE⟩; have d1 := hE.cell c1.out; have d2 := hE.cell c2.out)
      go_ret
      exact ⟨retv (by rw [HR.out]; rfl), hE⟩
  · have hKL : K = l.length := by omega
    have HR : Hid (R = none) := Lib.hid (by rw [HK.out, dif_neg (by omega)])
    have hv := ht.val
    rw [← hK] at HP
    subst hv
    rw [← hKL] at HP ⊢
    clear HK ht hs hlt hle hKL hK hlen
    go_enter Tryz.func38, Tryz.ntmps38
    go_wp2_with (go_at_call 60; refine (HP.out).mono ?_; rintro e w' ⟨rfl, hE⟩)
    go_ret
    exact ⟨retv (by rw [HR.out]; rfl), hE⟩

theorem find_acc (v : Value) (l : List Nm) (at_ : ByteArray) {w0 w : World} (h : Ext w0 w) (ht : Tr w0 v l) (hs : Srt l) (hlen : l.length ≤ 1000000) :
    Calls Tryz.prog 38 #[v, .string at_] w fun e w' => e = .returned (optr (look l at_.toList)) ∧ Ext w0 w' :=
  (find_any v l at_ w (ht.ext h) hs hlen).mono fun _ _ ⟨x, y⟩ => ⟨x, h.trans y⟩
theorem parent_acc (a : ByteArray) {w0 w : World} (h : Ext w0 w) : Calls Tryz.prog 151 #[.string a] w fun e w' => e = .returned (.string (tx (parent a.toList))) ∧ Ext w0 w' :=
  (parent_any a w).mono fun _ _ ⟨x, y⟩ => ⟨x, h.trans y⟩

def takes (l : List Nm) (K : Nat → Int) (a : B) : Int :=
  match look l a with
  | some _ => 6
  | none => if parent a = [] then 0 else match look l (parent a) with
    | none => 5
    | some n => if K n = 2 then 0 else 8
theorem look_mem (l : List Nm) (a : B) (n : Nat) (h : look l a = some n) : (a, n) ∈ l := by
  unfold look at h
  split at h
  · rename_i hp
    split at h
    · rename_i he
      injection h with h
      have := List.getElem_mem hp
      have e : l[place l a] = (a, n) := Prod.ext he h
      rw [e] at this; exact this
    · cases h
  · cases h
theorem emp_tx (p : B) : (tx p).toList.isEmpty = decide (p = []) := by rw [tx_list]; cases p <;> rfl
set_option maxRecDepth 100000 in
set_option maxHeartbeats 4000000 in
theorem takes_any (v : Value) (l : List Nm) (K : Nat → Int) (at_ : ByteArray) (w : World) (ht : Tr w v l) (hs : Srt l) (hlen : l.length ≤ 1000000) (hk : ∀ p ∈ l, w.cell? ⟨p.2, 0, none⟩ = some (.int .i64 (K p.2))) :
    Calls Tryz.prog 138 #[v, .string at_] w fun e w' => e = .returned (.int .i64 (takes l K at_.toList)) ∧ Ext w w' := by
  have hE := Ext.refl w
  obtain ⟨up, hup⟩ : ∃ up, up = tx (parent at_.toList) := ⟨_, rfl⟩
  have hup2 : up.toList = parent at_.toList := by rw [hup, tx_list]
  have te : up.toList.isEmpty = decide (parent at_.toList = []) := by rw [hup]; exact emp_tx _
  have HF := Lib.hid (fun (a : ByteArray) (w' : World) (h : Ext w w') => find_acc v l a h ht hs hlen)
  have HP := Lib.hid (fun (w' : World) (h : Ext w w') => parent_acc at_ h)
  rw [← hup] at HP
  have hfe : takes l K at_.toList = match look l at_.toList with
    | some _ => 6
    | none => if parent at_.toList = [] then 0 else match look l up.toList with
      | none => 5
      | some n => if K n = 2 then 0 else 8 := by rw [hup2]; rfl
  cases h1 : look l at_.toList with
  | some n =>
    rw [h1] at hfe
    have FE := Lib.hid hfe
    clear hfe hk ht hs te hup hup2
    go_enter Tryz.func138, Tryz.ntmps138
    go_wp2_with (go_at_call 38; refine (HF.out _ _ hE).mono ?_; rintro e w' ⟨rfl, hE⟩; rw [h1]; simp only [optr, ptr])
    go_ret
    exact ⟨retv (by rw [FE.out] <;> rfl), hE⟩
  | none =>
    rw [h1] at hfe
    by_cases h2 : parent at_.toList = []
    · rw [decide_eq_true h2] at te
      simp only [h2, if_true] at hfe
      have FE := Lib.hid hfe
      clear hfe hk ht hs h2 hup hup2
      go_enter Tryz.func138, Tryz.ntmps138
      go_wp2_with (first | (go_at_call 38; refine (HF.out _ _ hE).mono ?_; rintro e w' ⟨rfl, hE⟩; rw [h1]; simp only [optr]) | (go_at_call 151; refine (HP.out _ hE).mono ?_; rintro e w' ⟨rfl, hE⟩))
      go_ret
      exact ⟨retv (by rw [FE.out] <;> rfl), hE⟩
    · rw [decide_eq_false h2] at te
      simp only [if_neg h2] at hfe
      cases h3 : look l up.toList with
      | none =>
        simp only [h3] at hfe
        have FE := Lib.hid hfe
        clear hfe hk ht hs h2 hup hup2
        go_enter Tryz.func138, Tryz.ntmps138
        go_wp2_with (first | (go_at_call 38; refine (HF.out _ _ hE).mono ?_; rintro e w' ⟨rfl, hE⟩; first | (rw [h1]; simp only [optr]) | (rw [h3]; simp only [optr])) | (go_at_call 151; refine (HP.out _ hE).mono ?_; rintro e w' ⟨rfl, hE⟩))
        go_ret
        exact ⟨retv (by rw [FE.out] <;> rfl), hE⟩
      | some n =>
        simp only [h3] at hfe
        have hc := Lib.hid (hk _ (look_mem _ _ _ h3))
        generalize K n = kk at *
        by_cases h4 : kk = 2
        · subst h4
          rw [if_pos rfl] at hfe
          have FE := Lib.hid hfe
          clear hfe hk ht hs h2 hup hup2
          go_enter Tryz.func138, Tryz.ntmps138
          go_wp2_with (first | (go_at_call 38; refine (HF.out _ _ hE).mono ?_; rintro e w' ⟨rfl, hE⟩; first | (rw [h1]; simp only [optr]) | (rw [h3]; simp only [optr, ptr]; have d1 := hE.cell hc.out)) | (go_at_call 151; refine (HP.out _ hE).mono ?_; rintro e w' ⟨rfl, hE⟩))
          go_ret
          exact ⟨retv (by rw [FE.out] <;> rfl), hE⟩
        · have h5 : (kk == 2) = false := by simpa using h4
          rw [if_neg h4] at hfe
          have FE := Lib.hid hfe
          clear hfe hk ht hs h2 hup hup2 h4
          go_enter Tryz.func138, Tryz.ntmps138
          go_wp2_with (first | (go_at_call 38; refine (HF.out _ _ hE).mono ?_; rintro e w' ⟨rfl, hE⟩; first | (rw [h1]; simp only [optr]) | (rw [h3]; simp only [optr, ptr]; have d1 := hE.cell hc.out)) | (go_at_call 151; refine (HP.out _ hE).mono ?_; rintro e w' ⟨rfl, hE⟩))
          go_ret
          exact ⟨retv (by rw [FE.out] <;> rfl), hE⟩
end Go.Proofs.YtnhokjnmpdiokaaGreatDoor.V
