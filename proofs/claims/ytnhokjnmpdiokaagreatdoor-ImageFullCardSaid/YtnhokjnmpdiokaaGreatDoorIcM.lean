/- The store as an archive leaves it: its directory, and up to three copies in it. No conditions: definitions and lemmas. Refs as the document has them: what an image is, its bytes. No conditions: definitions and lemmas. An archive in memory beside its store. No conditions: definitions and lemmas. -/
import Derived.Test.YtnhokjnmpdiokaaGreatDoorIa
import Derived.Test.YtnhokjnmpdiokaaGreatDoorIb
import Derived.Test.YtnhokjnmpdiokaaGreatDoorHaM
set_option linter.unusedSimpArgs false
set_option linter.unusedVariables false
namespace Go.Proofs.YtnhokjnmpdiokaaGreatDoor.V
open Go.RowKit Go.Pth

def homeB : B := [46, 97, 114, 99, 104, 105, 118, 101]
def cpB (j : Nat) : B := homeB ++ [47, if j = 0 then 97 else if j = 1 then 98 else 99]
theorem valid_home : valid homeB = true := by decide
theorem valid_cp (j : Nat) : valid (cpB j) = true := by
  unfold cpB; by_cases h : j = 0
  · subst h; decide
  · by_cases h1 : j = 1
    · subst h1; decide
    · simp only [h, h1, if_false]; decide
theorem parent_home : parent homeB = [] := by decide
theorem parent_cp (j : Nat) : parent (cpB j) = homeB := by
  unfold cpB; by_cases h : j = 0
  · subst h; decide
  · by_cases h1 : j = 1
    · subst h1; decide
    · simp only [h, h1, if_false]; decide
theorem lHH : less homeB homeB = false := by decide
theorem lH0 : less homeB (cpB 0) = true := by decide
theorem lH1 : less homeB (cpB 1) = true := by decide
theorem lH2 : less homeB (cpB 2) = true := by decide
theorem l00 : less (cpB 0) (cpB 0) = false := by decide
theorem l01 : less (cpB 0) (cpB 1) = true := by decide
theorem l02 : less (cpB 0) (cpB 2) = true := by decide
theorem l11 : less (cpB 1) (cpB 1) = false := by decide
theorem l12 : less (cpB 1) (cpB 2) = true := by decide
theorem l22 : less (cpB 2) (cpB 2) = false := by decide
def nms : List Nat → Nat → List Nm
  | [], _ => []
  | a :: r, j => (cpB j, a) :: nms r (j + 1)
theorem nms_len : ∀ (l : List Nat) (j : Nat), (nms l j).length = l.length
  | [], _ => rfl
  | a :: r, j => by simp only [nms, List.length_cons, nms_len r]
theorem nms_app : ∀ (l : List Nat) (a j : Nat), nms (l ++ [a]) j = nms l j ++ [(cpB (j + l.length), a)]
  | [], a, j => rfl
  | b :: r, a, j => by simp only [List.cons_append, nms, nms_app r a (j + 1), List.length_cons]; rw [show j + 1 + r.length = j + (r.length + 1) by omega]
def names4 (d : Nat) (ids : List Nat) : List Nm := (homeB, d) :: nms ids 0
theorem names4_len (d : Nat) (ids : List Nat) : (names4 d ids).length = ids.length + 1 := by simp [names4, nms_len]
theorem names4_app (d : Nat) (ids : List Nat) (a : Nat) : names4 d (ids ++ [a]) = names4 d ids ++ [(cpB ids.length, a)] := by
  simp [names4, nms_app]

theorem look_home (d : Nat) (ids : List Nat) : look (names4 d ids) homeB = some d := by
  have e : place (names4 d ids) homeB = 0 := by simp [place, names4, List.takeWhile, lHH]
  unfold look
  simp only [e]
  simp [names4]
theorem place_cp (d : Nat) (ids : List Nat) (hl : ids.length ≤ 3) (j : Nat) (hj : j < 3) (hjl : j ≤ ids.length) : place (names4 d ids) (cpB j) = j + 1 := by
  match ids, hl, j, hj, hjl with
  | [], _, 0, _, _ => simp [place, names4, nms, List.takeWhile, lH0]
  | [a], _, 0, _, _ => simp [place, names4, nms, List.takeWhile, lH0, l00]
  | [a], _, 1, _, _ => simp [place, names4, nms, List.takeWhile, lH1, l01]
  | [a, b], _, 0, _, _ => simp [place, names4, nms, List.takeWhile, lH0, l00]
  | [a, b], _, 1, _, _ => simp [place, names4, nms, List.takeWhile, lH1, l01, l11]
  | [a, b], _, 2, _, _ => simp [place, names4, nms, List.takeWhile, lH2, l02, l12]
  | [a, b, c], _, 0, _, _ => simp [place, names4, nms, List.takeWhile, lH0, l00]
  | [a, b, c], _, 1, _, _ => simp [place, names4, nms, List.takeWhile, lH1, l01, l11]
  | [a, b, c], _, 2, _, _ => simp [place, names4, nms, List.takeWhile, lH2, l02, l12, l22]
theorem look_cp (d : Nat) (ids : List Nat) (hl : ids.length ≤ 3) (j : Nat) (hj : j < 3) (hjl : j ≤ ids.length) : look (names4 d ids) (cpB j) = ids[j]? := by
  have e := place_cp d ids hl j hj hjl
  unfold look
  simp only [e]
  match ids, hl, j, hj, hjl with
  | [], _, 0, _, _ => simp [names4, nms]
  | [a], _, 0, _, _ => simp [names4, nms]
  | [a], _, 1, _, _ => simp [names4, nms]
  | [a, b], _, 0, _, _ => simp [names4, nms]
  | [a, b], _, 1, _, _ => simp [names4, nms]
  | [a, b], _, 2, _, _ => simp [names4, nms]
  | [a, b, c], _, 0, _, _ => simp [names4, nms]
  | [a, b, c], _, 1, _, _ => simp [names4, nms]
  | [a, b, c], _, 2, _, _ => simp [names4, nms]
theorem look_far (d : Nat) (j : Nat) (hj : j < 3) : look (names4 d []) (cpB j) = none := by
  match j, hj with
  | 0, _ => simp [look, place, names4, nms, List.takeWhile, lH0]
  | 1, _ => simp [look, place, names4, nms, List.takeWhile, lH1]
  | 2, _ => simp [look, place, names4, nms, List.takeWhile, lH2]
theorem look_empty (p : B) : look [] p = none := by simp [look, place]

structure Md (S : SV) (n : Nat) (d : Nat) (ids : List Nat) (kj : Nat) : Prop where
  names : S.names = names4 d ids
  kept : S.kept = names4 d (ids.take kj)
  acts : (kj = ids.length ∧ S.acts = []) ∨ (∃ a, ids = ids.take kj ++ [a] ∧ kj + 1 = ids.length ∧ S.acts = [⟨[], cpB kj, some a⟩])
  power : S.power = 0
  few : ids.length ≤ 3
  kd : (S.nd d).kind = 2
  ed : (S.nd d).now = []
  kf : ∀ a ∈ ids, (S.nd a).kind = 1
  nodup : (d :: ids).Nodup
  mem : ∀ a ∈ ids, a ∈ S.ids
  dm : d ∈ S.ids
  clock : 0 ≤ S.clock ∧ S.clock ≤ n
  ops : 0 ≤ S.ops ∧ S.ops ≤ n
  left : 0 ≤ S.left ∧ S.left ≤ 9223372036854775807
  room : 1000000 ≤ S.room
  lens : ∀ a ∈ ids, (S.nd a).now.length ≤ 65536
abbrev Mt (S : SV) (n d : Nat) (ids : List Nat) : Prop := Md S n d ids ids.length
theorem Md.fit {S : SV} {n d : Nat} {ids : List Nat} {kj : Nat} (h : Md S n d ids kj) (hn : n ≤ 100000) : S.Fit :=
  ⟨h.left, ⟨h.ops.1, by have := h.ops.2; omega⟩, ⟨h.clock.1, by have := h.clock.2; omega⟩, by rw [h.names, names4_len]; have := h.few; omega, by
    rcases h.acts with ⟨_, e⟩ | ⟨a, _, _, e⟩ <;> rw [e] <;> simp⟩
theorem beg_ops {S : SV} (h : S.power = 0) : S.beg = { S with ops := S.ops + 1 } := by unfold SV.beg SV.spend; simp [h]
theorem Md.beg {S : SV} {n d : Nat} {ids : List Nat} {kj : Nat} (h : Md S n d ids kj) : Md S.beg (n + 1) d ids kj := by
  rw [beg_ops h.power]
  exact ⟨h.names, h.kept, h.acts, h.power, h.few, h.kd, h.ed, h.kf, h.nodup, h.mem, h.dm, ⟨h.clock.1, by have := h.clock.2; show S.clock ≤ ((n + 1 : Nat) : Int); omega⟩, ⟨by have := h.ops.1; show 0 ≤ S.ops + 1; omega, by have := h.ops.2; show S.ops + 1 ≤ ((n + 1 : Nat) : Int); omega⟩, h.left, h.room, h.lens⟩
theorem Md.up {S : SV} {n m d : Nat} {ids : List Nat} {kj : Nat} (h : Md S n d ids kj) (hm : n ≤ m) : Md S m d ids kj :=
  ⟨h.names, h.kept, h.acts, h.power, h.few, h.kd, h.ed, h.kf, h.nodup, h.mem, h.dm, ⟨h.clock.1, by have := h.clock.2; omega⟩, ⟨h.ops.1, by have := h.ops.2; omega⟩, h.left, h.room, h.lens⟩
theorem Md.begE {S : SV} {n d : Nat} {ids : List Nat} {kj : Nat} (h : Md S n d ids kj) (p : B) (hp : valid p = true) : S.begE [p] = 0 := by
  unfold SV.begE
  rw [beg_ops h.power]
  simp [h.power, hp]
theorem Md.file {S S' : SV} {n d : Nat} {ids : List Nat} {kj : Nat} (h : Md S n d ids kj) (a : Nat) (ha : a ∈ ids) (N : NV) (hk : N.kind = 1) (hN : N.now.length ≤ 65536) (c : Int) (hc : S.clock ≤ c ∧ c ≤ S.clock + 1) (e : S' = { S with clock := c, nd := upd S.nd a N }) : Md S' (n + 1) d ids kj := by
  subst e
  have hda : d ≠ a := fun e => by have := h.nodup; rw [List.nodup_cons] at this; exact this.1 (e ▸ ha)
  refine ⟨h.names, h.kept, h.acts, h.power, h.few, ?_, ?_, fun x hx => ?_, h.nodup, h.mem, h.dm, ⟨by have := h.clock.1; show 0 ≤ c; omega, by have := h.clock.2; show c ≤ ((n + 1 : Nat) : Int); omega⟩, ⟨h.ops.1, by have := h.ops.2; show S.ops ≤ ((n + 1 : Nat) : Int); omega⟩, h.left, h.room, fun x hx => ?_⟩
  · show (upd S.nd a N d).kind = 2
    rw [upd_other _ _ _ _ hda]; exact h.kd
  · show (upd S.nd a N d).now = []
    rw [upd_other _ _ _ _ hda]; exact h.ed
  · show (upd S.nd a N x).kind = 1
    by_cases e : x = a
    · subst e; rw [upd_same]; exact hk
    · rw [upd_other _ _ _ _ e]; exact h.kf x hx
  · show (upd S.nd a N x).now.length ≤ 65536
    by_cases e : x = a
    · subst e; rw [upd_same]; exact hN
    · rw [upd_other _ _ _ _ e]; exact h.lens x hx
theorem Md.filea {S : SV} {n d : Nat} {ids : List Nat} {kj : Nat} (h : Md S n d ids kj) (j a : Nat) (hj : j < 3) (ha : ids[j]? = some a) : S.file (cpB j) = (some a, 0) := by
  have hjl : j < ids.length := (List.getElem?_eq_some_iff.1 ha).1
  unfold SV.file
  rw [h.names, look_cp d ids h.few j hj (by omega), ha]
  simp only
  rw [if_pos (h.kf a (List.mem_of_getElem? ha))]
theorem used_cons (nd : Nat → NV) (x : Nm) (l : List Nm) : used nd (x :: l) = (nd x.2).now.length + used nd l := by simp [used]
theorem used_nms (nd : Nat → NV) : ∀ (l : List Nat) (j : Nat), (∀ a ∈ l, (nd a).now.length ≤ 65536) → used nd (nms l j) ≤ l.length * 65536
  | [], _, _ => by simp [nms, used]
  | a :: r, j, h => by
    have h1 := h a List.mem_cons_self
    have h2 := used_nms nd r (j + 1) fun x hx => h x (List.mem_cons_of_mem _ hx)
    simp only [nms, used_cons, List.length_cons]
    omega
theorem Md.used {S : SV} {n d : Nat} {ids : List Nat} {kj : Nat} (h : Md S n d ids kj) : used S.nd S.names ≤ 196608 := by
  rw [h.names]
  have h1 := used_nms S.nd ids 0 h.lens
  have h2 := h.few
  simp only [names4, used_cons, h.ed, List.length_nil]
  omega
theorem write_now (N : NV) (x : List Int) : (N.write 0 x).now = x ++ N.now.drop x.length := by
  unfold NV.write
  split
  · rename_i e
    have : x.length = 0 := by omega
    have : x = [] := List.length_eq_zero_iff.1 this
    subst this; simp
  · show splice (fitL N.now (max (0 + x.length) N.now.length) 0) 0 x = _
    unfold splice fitL
    simp only [List.take_zero, List.nil_append, Nat.zero_add]
    congr 1
    by_cases h : x.length ≤ N.now.length
    · rw [Nat.max_eq_right h, if_pos (Nat.le_refl _), List.take_length]
    · have e1 : N.now.drop x.length = [] := List.drop_eq_nil_of_le (by omega)
      rw [Nat.max_eq_left (by omega), if_neg (by omega), List.drop_append, e1]
      simp
theorem resize_now (N : NV) (k : Nat) (h : k ≤ N.now.length) : (N.resize k).now = N.now.take k := by
  show fitL N.now k 0 = _
  unfold fitL; rw [if_pos h]
theorem Md.made {S : SV} {n d : Nat} {ids : List Nat} (h : Mt S n d ids) (a : Nat) (ha : a ∉ S.ids) (hl : ids.length < 3) : Md (S.beg.made a (cpB ids.length) 1) (n + 1) d (ids ++ [a]) ids.length := by
  have hda : d ≠ a := fun e => ha (e ▸ h.dm)
  have hia : ∀ x ∈ ids, x ≠ a := fun x hx e => ha (e ▸ h.mem x hx)
  have hb := beg_ops h.power
  have hac : S.acts = [] := by
    rcases h.acts with ⟨_, e⟩ | ⟨x, _, e, _⟩
    · exact e
    · omega
  have hk := h.kept
  rw [List.take_length] at hk
  refine ⟨?_, ?_, ?_, ?_, ?_, ?_, ?_, ?_, ?_, ?_, ?_, ?_, ?_, ?_, ?_, ?_⟩
  · rw [hb]; show S.names ++ _ = _; rw [h.names, names4_app]
  · rw [hb]; show S.kept = _; rw [List.take_append_of_le_length (Nat.le_refl _), List.take_length]; exact hk
  · refine Or.inr ⟨a, ?_, ?_, ?_⟩
    · rw [List.take_append_of_le_length (Nat.le_refl _), List.take_length]
    · simp
    · rw [hb]; show S.acts ++ _ = _; rw [hac]; rfl
  · rw [hb]; exact h.power
  · simp; omega
  · rw [hb]; show (upd S.nd a _ d).kind = 2; rw [upd_other _ _ _ _ hda]; exact h.kd
  · rw [hb]; show (upd S.nd a _ d).now = []; rw [upd_other _ _ _ _ hda]; exact h.ed
  · intro x hx
    rw [hb]; show (upd S.nd a _ x).kind = 1
    rcases List.mem_append.1 hx with hx | hx
    · rw [upd_other _ _ _ _ (hia x hx)]; exact h.kf x hx
    · rw [List.mem_singleton.1 hx, upd_same]; rfl
  · have := h.nodup
    rw [List.nodup_cons] at this ⊢
    refine ⟨fun k => ?_, ?_⟩
    · rcases List.mem_append.1 k with k | k
      · exact this.1 k
      · exact hda (List.mem_singleton.1 k)
    · rw [List.nodup_append]
      exact ⟨this.2, by simp, fun x hx y hy => by rw [List.mem_singleton.1 hy]; exact hia x hx⟩
  · intro x hx
    rw [hb]; show x ∈ a :: S.ids
    rcases List.mem_append.1 hx with hx | hx
    · exact List.mem_cons_of_mem _ (h.mem x hx)
    · rw [List.mem_singleton.1 hx]; exact List.mem_cons_self
  · rw [hb]; exact List.mem_cons_of_mem _ h.dm
  · rw [hb]; show 0 ≤ S.clock + 1 ∧ S.clock + 1 ≤ ((n + 1 : Nat) : Int); have := h.clock; omega
  · rw [hb]; show 0 ≤ S.ops + 1 ∧ S.ops + 1 ≤ ((n + 1 : Nat) : Int); have := h.ops; omega
  · rw [hb]; exact h.left
  · rw [hb]; exact h.room
  · intro x hx
    rw [hb]; show (upd S.nd a _ x).now.length ≤ 65536
    rcases List.mem_append.1 hx with hx | hx
    · rw [upd_other _ _ _ _ (hia x hx)]; exact h.lens x hx
    · rw [List.mem_singleton.1 hx, upd_same]; simp [newN]
theorem Md.takes {S : SV} {n d : Nat} {ids : List Nat} (h : Mt S n d ids) (hl : ids.length < 3) : takes S.names (kinds S) (cpB ids.length) = 0 := by
  unfold V.takes
  rw [h.names, look_cp d ids h.few ids.length hl (Nat.le_refl _), List.getElem?_eq_none (Nat.le_refl _)]
  simp only [parent_cp]
  rw [if_neg (by decide), look_home]
  exact if_pos h.kd
theorem Md.placed {S : SV} {n d : Nat} {ids : List Nat} (h : Mt S n d ids) (hl : ids.length < 3) : place S.names (cpB ids.length) = S.names.length := by
  rw [h.names, place_cp d ids h.few ids.length hl (Nat.le_refl _), names4_len]
theorem Md.safe {S : SV} {n d : Nat} {ids : List Nat} {kj : Nat} (h : Md S n d ids kj) : Mt (S.beg.dirred (names4 d ids)) (n + 1) d ids := by
  have hb := beg_ops h.power
  have b := h.beg
  exact ⟨b.names, by show names4 d ids = _; rw [List.take_length], Or.inl ⟨rfl, rfl⟩, b.power, b.few, b.kd, b.ed, b.kf, b.nodup, b.mem, b.dm, b.clock, b.ops, b.left, b.room, b.lens⟩
theorem Md.nd_beg (S : SV) : S.beg.nd = S.nd := (beg_same S).2.1
end Go.Proofs.YtnhokjnmpdiokaaGreatDoor.V

namespace Go.Proofs.YtnhokjnmpdiokaaGreatDoor
open Go.RowKit Go.Sha Go.Pth
set_option linter.unusedSimpArgs false
set_option linter.unusedVariables false

def mayR (x : RD) : Bool := valid x.p.toList && !hidden x.p.toList && decide (0 ≤ x.z) && decide (x.z ≤ 8192) && decide (0 ≤ x.m) && decide (x.m ≤ 2147483647) && ((x.k == 1 && x.r.length == 32) || (x.k == 2 && x.r.length == 0))
def stepL (l : List RD) (i : Nat) : Bool := match l[i]? with
  | none => true
  | some x => mayR x && (i == 0 || match l[i - 1]? with
    | none => true
    | some y => less y.p.toList x.p.toList)
def okTo (l : List RD) (k : Nat) : Bool := (List.range k).all (stepL l)
theorem okTo_succ (l : List RD) (k : Nat) : okTo l (k + 1) = (okTo l k && stepL l k) := by simp [okTo, List.range_succ, List.all_append]
theorem okTo_not (l : List RD) (k n : Nat) (h : stepL l k = false) (hn : k < n) : okTo l n = false := by
  unfold okTo
  rw [List.all_eq_false]
  exact ⟨k, List.mem_range.2 hn, by rw [h]; simp⟩
def imageL (l : List RD) : Bool := decide (l.length ≤ 100) && okTo l l.length
theorem stepL_get {l : List RD} {i : Nat} {x : RD} (h : l[i]? = some x) : stepL l i = (mayR x && (i == 0 || match l[i - 1]? with | none => true | some y => less y.p.toList x.p.toList)) := by unfold stepL; rw [h]
theorem image_all {l : List RD} (h : imageL l = true) : l.length ≤ 100 ∧ ∀ i, i < l.length → stepL l i = true := by
  unfold imageL okTo at h
  simp only [Bool.and_eq_true, decide_eq_true_eq, List.all_eq_true, List.mem_range] at h
  exact h
theorem image_may {l : List RD} (h : imageL l = true) (x : RD) (hx : x ∈ l) : mayR x = true := by
  obtain ⟨i, hi, e⟩ := List.mem_iff_getElem.1 hx
  have h1 := (image_all h).2 i hi
  rw [stepL_get (x := x) (by rw [List.getElem?_eq_getElem hi, e])] at h1
  simp only [Bool.and_eq_true] at h1
  exact h1.1
structure MayR (x : RD) : Prop where
  v : valid x.p.toList = true
  h : hidden x.p.toList = false
  z : 0 ≤ x.z ∧ x.z ≤ 8192
  m : 0 ≤ x.m ∧ x.m ≤ 2147483647
  k : (x.k = 1 ∧ x.r.length = 32) ∨ (x.k = 2 ∧ x.r.length = 0)
theorem mayR_iff (x : RD) : mayR x = true ↔ MayR x := by
  unfold mayR
  simp only [Bool.and_eq_true, Bool.or_eq_true, Bool.not_eq_true', decide_eq_true_eq, beq_iff_eq]
  constructor
  · rintro ⟨⟨⟨⟨⟨⟨h1, h2⟩, h3⟩, h4⟩, h5⟩, h6⟩, h7⟩
    exact ⟨h1, h2, ⟨h3, h4⟩, ⟨h5, h6⟩, h7⟩
  · rintro ⟨h1, h2, ⟨h3, h4⟩, ⟨h5, h6⟩, h7⟩
    exact ⟨⟨⟨⟨⟨⟨h1, h2⟩, h3⟩, h4⟩, h5⟩, h6⟩, h7⟩
theorem image_less {l : List RD} (h : imageL l = true) : ∀ (j i : Nat) (x y : RD), i < j → l[i]? = some x → l[j]? = some y → less x.p.toList y.p.toList = true
  | 0, i, x, y, hij, _, _ => by omega
  | j + 1, i, x, y, hij, hx, hy => by
    have hj : j < l.length := by have := (List.getElem?_eq_some_iff.1 hy).1; omega
    obtain ⟨u, hu⟩ : ∃ u, l[j]? = some u := ⟨_, List.getElem?_eq_getElem hj⟩
    have h1 := (image_all h).2 (j + 1) (List.getElem?_eq_some_iff.1 hy).1
    rw [stepL_get hy] at h1
    simp only [Nat.add_sub_cancel, hu, Bool.and_eq_true, Bool.or_eq_true, beq_iff_eq] at h1
    have h2 : less u.p.toList y.p.toList = true := by
      rcases h1.2 with h | h
      · omega
      · exact h
    by_cases e : i = j
    · subst e; rw [hu] at hx; injection hx with hx; subst hx; exact h2
    · exact less_trans _ _ _ (image_less h j i x u (by omega) hx hu) h2
theorem image_path {l : List RD} (h : imageL l = true) (j i : Nat) (x y : RD) (hij : i ≠ j) (hx : l[i]? = some x) (hy : l[j]? = some y) : x.p ≠ y.p := fun e => by
  have key : ∀ (a b : Nat) (u v : RD), a < b → l[a]? = some u → l[b]? = some v → u.p = v.p → False := fun a b u v hab hu hv e => by
    have := image_less h b a u v hab hu hv
    rw [e, less_irr] at this; cases this
  rcases Nat.lt_or_ge i j with h1 | h1
  · exact key i j x y h1 hx hy e
  · exact key j i y x (by omega) hy hx e.symm

def encR (x : RD) : List Int := encB (nums x.p) ++ (lf x.k 4 ++ (lf x.z 4 ++ (lf x.m 4 ++ (lf x.t 8 ++ encB x.r))))
def bodyL : List RD → List Int
  | [] => []
  | x :: r => encR x ++ bodyL r
theorem bodyL_app : ∀ a b : List RD, bodyL (a ++ b) = bodyL a ++ bodyL b
  | [], _ => rfl
  | x :: r, b => by simp only [List.cons_append, bodyL, bodyL_app r b, List.append_assoc]
theorem encR_len (x : RD) : (encR x).length = 28 + x.p.size + x.r.length := by
  unfold encR
  simp only [List.length_append, encB_len, lf_length, nums_length]
  omega
theorem mayR_len {x : RD} (h : MayR x) : x.p.size ≤ 60 ∧ x.r.length ≤ 32 := by
  have h1 := valid_len h.v
  have h2 := V.size_list x.p
  refine ⟨by omega, ?_⟩
  rcases h.k with ⟨_, e⟩ | ⟨_, e⟩ <;> omega
theorem bodyL_len : ∀ (l : List RD), (∀ x ∈ l, mayR x = true) → (bodyL l).length ≤ l.length * 120
  | [], _ => by simp [bodyL]
  | x :: r, h => by
    have h1 := mayR_len ((mayR_iff x).1 (h x List.mem_cons_self))
    have h2 := bodyL_len r fun y hy => h y (List.mem_cons_of_mem _ hy)
    simp only [bodyL, List.length_append, encR_len, List.length_cons]
    omega
theorem image_body {l : List RD} (h : imageL l = true) : (bodyL l).length ≤ 12000 := by
  have h1 := bodyL_len l (image_may h)
  have h2 := (image_all h).1
  omega
def BytR (l : List RD) : Prop := ∀ x ∈ l, Byt x.r
theorem encR_byt {x : RD} (h : Byt x.r) : Byt (encR x) := by
  unfold encR encB
  exact byt_app (byt_app (lf_byt _ _) (nums_byt _)) (byt_app (lf_byt _ _) (byt_app (lf_byt _ _) (byt_app (lf_byt _ _) (byt_app (lf_byt _ _) (byt_app (lf_byt _ _) h)))))
theorem bodyL_byt : ∀ (l : List RD), BytR l → Byt (bodyL l)
  | [], _ => byt_nil
  | x :: r, h => byt_app (encR_byt (h x List.mem_cons_self)) (bodyL_byt r fun y hy => h y (List.mem_cons_of_mem _ hy))
def pageI (g : Nat) (l : List RD) : List Int := sealL (encP g (bodyL l))
theorem pageI_byt (g : Nat) {l : List RD} (h : BytR l) : Byt (pageI g l) := seal_byt (encP_byt g (bodyL_byt l h))
end Go.Proofs.YtnhokjnmpdiokaaGreatDoor

namespace Go.Proofs.YtnhokjnmpdiokaaGreatDoor
open Go.RowKit Go.Sha Go.Pth
set_option linter.unusedSimpArgs false
set_option linter.unusedVariables false

theorem ext_v {w w' : World} (h : V.Ext w w') : Ext w w' := h
theorem v_ext {w w' : World} (h : Ext w w') : V.Ext w w' := h
def XL (L : Nat → Option V.Role) (ab : Nat) : Nat → Prop := fun i => L i ≠ none ∨ i = ab
def acell (sb g : Nat) (v : Value) (dd : Bool) : Array Value := #[V.ptr sb, .int .i64 (g : Int), v, .bool dd]
structure Arc (w : World) (sb ab : Nat) (S : V.SV) (W : V.SW) (L : Nat → Option V.Role) (g : Nat) (v : Value) (l : List RV) : Prop where
  rep : V.Rep w sb S W L
  nab : L ab = none
  cell : V.At w ab (acell sb g v false) 68
  refs : RR (XL L ab) w v l
structure Mv (w w' : World) (ab : Nat) (L L' : Nat → Option V.Role) : Prop where
  chg : V.Chg (XL L ab) w w'
  lab : ∀ i, L' i ≠ none → L i ≠ none ∨ w.heap.size ≤ i
theorem Mv.of_st {w w' : World} {ab : Nat} {L L' : Nat → Option V.Role} (h : V.StTo w w' L L') : Mv w w' ab L L' := ⟨h.chg.mono fun i _ k => Or.inl k, h.lab⟩
theorem Mv.of_ext {w w' : World} {ab : Nat} {L : Nat → Option V.Role} (h : Ext w w') : Mv w w' ab L L := ⟨V.Chg.of_ext h, fun _ k => Or.inl k⟩
theorem Mv.refl (w : World) (ab : Nat) (L : Nat → Option V.Role) : Mv w w ab L L := Mv.of_ext (Ext.refl w)
theorem Mv.trans {w w1 w2 : World} {ab : Nat} {L L1 L2 : Nat → Option V.Role} (h : Mv w w1 ab L L1) (k : Mv w1 w2 ab L1 L2) : Mv w w2 ab L L2 :=
  ⟨h.chg.trans k.chg fun i hi hx => by
    rcases hx with hx | hx
    · rcases h.lab i hx with h1 | h1
      · exact Or.inl h1
      · omega
    · exact Or.inr hx, fun i hi => by
    rcases k.lab i hi with h1 | h1
    · exact h.lab i h1
    · exact Or.inr (Nat.le_trans h.chg.size h1)⟩
theorem Mv.below {w w' : World} {ab n : Nat} {L L' : Nat → Option V.Role} (h : Mv w w' ab L L') (hL : ∀ i, L i ≠ none → n ≤ i) (ha : n ≤ ab) (hn : n ≤ w.heap.size) : Below n w w' ∧ ∀ i, L' i ≠ none → n ≤ i :=
  ⟨⟨h.chg.os, h.chg.tape, h.chg.output, h.chg.size, fun i hi => h.chg.block i (by omega) fun k => by
    rcases k with k | k
    · have := hL i k; omega
    · omega⟩, fun i hi => by
    rcases h.lab i hi with k | k
    · exact hL i k
    · omega⟩
theorem Arc.lt {w : World} {sb ab : Nat} {S : V.SV} {W : V.SW} {L : Nat → Option V.Role} {g : Nat} {v : Value} {l : List RV} (h : Arc w sb ab S W L g v l) : ab < w.heap.size := h.cell.lt
theorem Arc.ext {w w' : World} {sb ab : Nat} {S : V.SV} {W : V.SW} {L : Nat → Option V.Role} {g : Nat} {v : Value} {l : List RV} (h : Arc w sb ab S W L g v l) (e : Ext w w') : Arc w' sb ab S W L g v l :=
  ⟨h.rep.ext e, h.nab, h.cell.ext e, h.refs.ext e⟩
theorem Arc.st {w w' : World} {sb ab : Nat} {S S' : V.SV} {W W' : V.SW} {L L' : Nat → Option V.Role} {g : Nat} {v : Value} {l : List RV} (h : Arc w sb ab S W L g v l) (r : V.Rep w' sb S' W' L') (t : V.StTo w w' L L') : Arc w' sb ab S' W' L' g v l := by
  refine ⟨r, ?_, t.chg.at h.cell (by rw [h.nab]; simp), ?_⟩
  · cases e : L' ab with
    | none => rfl
    | some q =>
      rcases t.lab ab (by rw [e]; simp) with k | k
      · exact absurd h.nab k
      · have := h.lt; omega
  · refine ((h.refs.mono (X' := fun i => XL L ab i ∨ w.heap.size ≤ i) (fun i k => k)).chg t.chg fun i k => Or.inl (Or.inl (Or.inl k))).mono fun i k => ?_
    rcases k with k | k
    · rcases t.lab i k with q | q
      · exact Or.inl (Or.inl (Or.inl q))
      · exact Or.inl (Or.inr q)
    · exact Or.inl (Or.inl (Or.inr k))
theorem Arc.c {w : World} {sb ab : Nat} {S : V.SV} {W : V.SW} {L : Nat → Option V.Role} {g : Nat} {v : Value} {l : List RV} (h : Arc w sb ab S W L g v l) :
    w.cell? ⟨ab, 0, none⟩ = some (V.ptr sb) ∧ w.cell? ⟨ab, 1, none⟩ = some (.int .i64 (g : Int)) ∧ w.cell? ⟨ab, 2, none⟩ = some v ∧ w.cell? ⟨ab, 3, none⟩ = some (.bool false) :=
  ⟨by rw [h.cell.cell]; rfl, by rw [h.cell.cell]; rfl, by rw [h.cell.cell]; rfl, by rw [h.cell.cell]; rfl⟩
theorem Arc.fz {w : World} {sb ab : Nat} {S : V.SV} {W : V.SW} {L : Nat → Option V.Role} {g : Nat} {v : Value} {l : List RV} (h : Arc w sb ab S W L g v l) (j : Nat) : w.frozen? ⟨ab, j, none⟩ = false := h.cell.frozen j
theorem V.At.set_same {w : World} {b : Nat} {c : Array Value} {t : TypeId} (h : V.At w b c t) {j : Nat} {v : Value} (hv : c[j]? = some v) : w.setCell ⟨b, j, none⟩ v = w := by
  have hh : w.heap[b]? = some (.cells c t (0, 0)) := h
  have e : c.setIfInBounds j v = c := by
    apply Array.ext_getElem?
    intro i
    rw [Array.getElem?_setIfInBounds]
    split
    · rename_i e; subst e
      have := (Array.getElem?_eq_some_iff.1 hv).1
      simp only [this, if_true, hv]
    · rfl
  unfold World.setCell
  simp only
  congr 1
  apply Array.ext_getElem?
  intro i
  rw [Array.getElem?_modify]
  split
  · rename_i q; subst q
    rw [hh]; simp [e]
  · rfl
theorem Arc.set {w w' : World} {sb ab : Nat} {S : V.SV} {W : V.SW} {L : Nat → Option V.Role} {g g' : Nat} {v v' : Value} {l l' : List RV} (h : Arc w sb ab S W L g v l) (e : w' = (w.setCell ⟨ab, 1, none⟩ (.int .i64 (g' : Int))).setCell ⟨ab, 2, none⟩ v') (r : RR (XL L ab) w v' l') :
    Arc w' sb ab S W L g' v' l' ∧ Mv w w' ab L L := by
  subst e
  have c1 := V.Chg.setCell w ab 1 (.int .i64 (g' : Int))
  have c2 := V.Chg.setCell (w.setCell ⟨ab, 1, none⟩ (.int .i64 (g' : Int))) ab 2 v'
  have c := c1.trans c2 fun i _ k => k
  have a1 := (h.cell.set 1 (.int .i64 (g' : Int))).set 2 v'
  refine ⟨⟨h.rep.keep (fun i hi => c.block i (h.rep.lt i hi) fun k => hi (by rw [k]; exact h.nab)) c.size, h.nab, a1, r.chg c fun i k => Or.inl (Or.inr k)⟩, ⟨c.mono fun i _ k => Or.inr k, fun _ k => Or.inl k⟩⟩
end Go.Proofs.YtnhokjnmpdiokaaGreatDoor
