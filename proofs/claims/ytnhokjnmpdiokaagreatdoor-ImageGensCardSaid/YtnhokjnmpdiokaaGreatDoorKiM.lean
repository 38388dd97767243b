/- One rotten byte of one copy. No conditions: lemmas. An archive and the image that the law holds beside it. No conditions: a definition and contracts. The law's refs are an image, whatever the numbers. No conditions: lemmas. -/
import Derived.Test.YtnhokjnmpdiokaaGreatDoorKg
import Derived.Test.YtnhokjnmpdiokaaGreatDoorJkM
import Derived.Test.YtnhokjnmpdiokaaGreatDoorKcM
namespace Go.Proofs.YtnhokjnmpdiokaaGreatDoor
open Go.RowKit Go.Sha Go.Pth
set_option linter.unusedSimpArgs false
set_option linter.unusedVariables false

set_option maxRecDepth 100000 in
theorem xor_neq (a x : Int) (h : 0 ≤ a ∧ a < 256) (hx : 0 < x ∧ x < 256) : bits .xor .u8 a x ≠ a := by
  obtain ⟨k, rfl⟩ : ∃ k : Nat, a = (k : Int) := ⟨a.toNat, by omega⟩
  obtain ⟨y, rfl⟩ : ∃ y : Nat, x = (y : Int) := ⟨x.toNat, by omega⟩
  have hk : k < 256 := by omega
  have hy : y < 256 := by omega
  have key : ∀ (k y : Fin 256), 0 < y.val → bits .xor .u8 (k.val : Int) (y.val : Int) ≠ (k.val : Int) := by decide +kernel
  exact key ⟨k, hk⟩ ⟨y, hy⟩ (by simp only; omega)
theorem rot_neq {p : List Int} (hb : Byt p) (k : Nat) (hk : k < p.length) (x : Int) (hx : 0 < x ∧ x < 256) : V.rotB p k x ≠ p := fun e => by
  have h0 : (V.rotB p k x)[k]? = some (bits .xor .u8 (p[k]?.getD 0) x) := by
    unfold V.rotB V.splice
    rw [List.append_assoc, List.getElem?_append_right (by rw [List.length_take]; omega), List.length_take, Nat.min_eq_left (by omega), Nat.sub_self]
    simp
  rw [e, List.getElem?_eq_getElem hk] at h0
  injection h0 with h0
  exact xor_neq _ x (hb _ (List.getElem_mem hk)) hx h0.symm
theorem rot_bytes {p : List Int} (hb : Byt p) (k : Nat) (x : Int) : Byt (V.rotB p k x) := by
  unfold V.rotB
  exact V.splice_one hb k _ (V.xor_u8 _ _)
/-- The rotten one is the one that is bad. -/
theorem bad_at {p : List Int} (hb : Byt p) (j : Nat) (hj : j < 3) (k : Nat) (hk : k < p.length) (x : Int) (hx : 0 < x ∧ x < 256) : badL (V.upd (fun _ => p) j (V.rotB p k x)) p 3 = [j] := by
  have h1 : eqS (V.rotB p k x) p = false := by
    cases e : eqS (V.rotB p k x) p with
    | false => rfl
    | true => exact absurd ((eqS_byt (rot_bytes hb k x) hb).1 e) (rot_neq hb k hk x hx)
  unfold badL
  rw [show List.range 3 = [0, 1, 2] from rfl]
  have c3 : j = 0 ∨ j = 1 ∨ j = 2 := by omega
  rcases c3 with rfl | rfl | rfl <;> simp [V.upd, h1, eqS_self']
/-- Two copies stay. -/
theorem two_left (p : List Int) (j : Nat) (hj : j < 3) (y : List Int) : ∃ a b, a < b ∧ b < 3 ∧ V.upd (fun _ => p) j y a = p ∧ V.upd (fun _ => p) j y b = p := by
  have c3 : j = 0 ∨ j = 1 ∨ j = 2 := by omega
  rcases c3 with rfl | rfl | rfl
  · exact ⟨1, 2, by omega, by omega, by simp [V.upd], by simp [V.upd]⟩
  · exact ⟨0, 2, by omega, by omega, by simp [V.upd], by simp [V.upd]⟩
  · exact ⟨0, 1, by omega, by omega, by simp [V.upd], by simp [V.upd]⟩
end Go.Proofs.YtnhokjnmpdiokaaGreatDoor

namespace Go.Proofs.YtnhokjnmpdiokaaGreatDoor
open Go.RowKit Go.Sha Go.Pth
set_option linter.unusedSimpArgs false
set_option linter.unusedVariables false

/-- The archive's blocks are all new since w0; u is what was committed last, as the law still holds it. -/
def Lw (w0 : World) (sb ab g : Nat) (n d k : Nat) (con : Nat → List Int) (u : Value) (lu : List RV) (w : World) : Prop :=
  ∃ S W L v l ids, Arc w sb ab S W L g v l ∧ l.map RV.d = lu.map RV.d ∧ RR (XL L ab) w u lu ∧ V.Md S n d ids ids.length ∧ V.Con S ids con ∧ ids.length = k ∧ (∀ i, L i ≠ none → w0.heap.size ≤ i) ∧ w0.heap.size ≤ ab ∧ Ext w0 w
theorem Lw.e {w0 w : World} {sb ab g n d k : Nat} {con : Nat → List Int} {u : Value} {lu : List RV} (h : Lw w0 sb ab g n d k con u lu w) : Ext w0 w := by
  obtain ⟨S, W, L, v, l, ids, A, hd, hr, MD, CN, hk, hL, hb, e⟩ := h
  exact e
theorem Lw.len {w0 w : World} {sb ab g n d k : Nat} {con : Nat → List Int} {u : Value} {lu : List RV} (h : Lw w0 sb ab g n d k con u lu w) : ∃ ad cap, u = .slice ad lu.length cap := by
  obtain ⟨S, W, L, v, l, ids, A, hd, ⟨_, _, _, _, hr⟩, _⟩ := h
  exact ⟨_, _, hr.val⟩
theorem Lw.ext {w0 w w' : World} {sb ab g n d k : Nat} {con : Nat → List Int} {u : Value} {lu : List RV} (h : Lw w0 sb ab g n d k con u lu w) (e' : Ext w w') : Lw w0 sb ab g n d k con u lu w' := by
  obtain ⟨S, W, L, v, l, ids, A, hd, hr, MD, CN, hk, hL, hb, e⟩ := h
  exact ⟨S, W, L, v, l, ids, A.ext e', hd, hr.ext e', MD, CN, hk, hL, hb, e.trans e'⟩
theorem Lw.up {w0 w : World} {sb ab g n m d k : Nat} {con : Nat → List Int} {u : Value} {lu : List RV} (h : Lw w0 sb ab g n d k con u lu w) (hm : n ≤ m) : Lw w0 sb ab g m d k con u lu w := by
  obtain ⟨S, W, L, v, l, ids, A, hd, hr, MD, CN, hk, hL, hb, e⟩ := h
  exact ⟨S, W, L, v, l, ids, A, hd, hr, MD.up hm, CN, hk, hL, hb, e⟩
theorem Lw.lv {w0 w : World} {sb ab g n d k : Nat} {con : Nat → List Int} {u : Value} {lu : List RV} (h : Lw w0 sb ab g n d k con u lu w) : Lv w0 sb ab g (lu.map RV.d) n d k con w := by
  obtain ⟨S, W, L, v, l, ids, A, hd, hr, MD, CN, hk, hL, hb, e⟩ := h
  exact ⟨S, W, L, v, l, ids, A, hd, MD, CN, hk, hL, hb, e⟩
theorem Lw.fresh {w0 w1 : World} {sb ab n : Nat} (h : FrP w0 n w1 sb ab) : ∃ d, Lw w0 sb ab 0 n d 0 (fun _ => []) (.slice none 0 0) [] w1 := by
  obtain ⟨S, W, L, d, A, MT, e, hL, hb⟩ := h
  exact ⟨d, S, W, L, _, [], [], A, rfl, RR.nil _ _, MT, fun i a ha => by simp at ha, rfl, hL, hb, e⟩
theorem Lw.shows {w0 w : World} {sb ab g n d k : Nat} {con : Nat → List Int} {u : Value} {lu : List RV} (h : Lw w0 sb ab g n d k con u lu w) (hi : imageL (lu.map RV.d) = true) :
    Calls Tryz.prog 13 #[V.ptr ab, u, .int .i64 (g : Int)] w fun e w' => e = .returned (.bool true) ∧ Ext w w' := by
  obtain ⟨S, W, L, v, l, ids, A, hd, hr, MD, CN, h3, hL, hab, e⟩ := h
  exact shows_ok A (by rw [hd]; exact hi) _ u lu hr hd
/-- What was made since is committed. -/
theorem Lw.commit {w0 w w1 : World} {sb ab g n d k : Nat} {con : Nat → List Int} {u : Value} {lu : List RV} (h : Lw w0 sb ab g n d k con u lu w) (hk : k = 3 ∨ k = 0) (hn : n ≤ 20000) (hK : KAt w0) (e1 : Ext w w1) {u' : Value} {lu' : List RV} (hr : OwnR w1 w.heap.size u' lu')
    (hi : imageL (lu'.map RV.d) = true) (hb : BytR (lu'.map RV.d)) (hg : g ≤ 1000000) :
    Calls Tryz.prog 12 #[V.ptr ab, u'] w1 fun e w' => e = .returned (.int .i64 0) ∧ Lw w0 sb ab (g + 1) (n + 24) d 3 (fun _ => pageI (g + 1) (lu'.map RV.d)) u' lu' w' := by
  obtain ⟨S, W, L, v, l, ids, A, hd, _, MD, CN, h3, hL, hab, e⟩ := h
  have e' := e.trans e1
  have r1 : RR (XL L ab) w1 u' lu' := hr.rr fun i hi => A.xlt i hi
  refine (commit_ok (A.ext e1) MD CN (hk.imp (fun q => by omega) (fun q => List.length_eq_zero_iff.1 (by omega))) hn (hK.below e' hK.lt) r1 hi hb hg).mono fun _ _ q => ⟨q.1, ?_⟩
  obtain ⟨S', W', L', v', l', ids', A', hd', MD', CN', hk', M⟩ := q.2
  obtain ⟨b1, b2⟩ := M.below hL hab e'.size
  exact ⟨S', W', L', v', l', ids', A', hd', r1.mv M, MD', CN', hk', b2, hab, Below.trans e' b1⟩
theorem Lw.scrub {w0 w : World} {sb ab g n d : Nat} {con : Nat → List Int} {u : Value} {lu : List RV} (h : Lw w0 sb ab g n d 3 con u lu w) (hn : n ≤ 20000) (hK : KAt w0) (hi : imageL (lu.map RV.d) = true) (hb : BytR (lu.map RV.d)) (hg : 1 ≤ g ∧ g ≤ 2000000) :
    Calls Tryz.prog 18 #[V.ptr ab] w fun e w' => e = .returned (.tuple #[.int .i64 ((badL con (pageI g (lu.map RV.d)) 3).length : Int), .int .i64 0]) ∧ Lw w0 sb ab g (n + 24) d 3 (fun _ => pageI g (lu.map RV.d)) u lu w' := by
  obtain ⟨S, W, L, v, l, ids, A, hd, hr, MD, CN, h3, hL, hab, e⟩ := h
  have SC := scrub_ok A MD CN h3 (by omega) (hK.below e hK.lt) (by rw [hd]; exact hi) (by rw [hd]; exact hb) hg
  rw [hd] at SC
  refine SC.mono fun _ _ q => ⟨q.1, ?_⟩
  obtain ⟨S', W', L', v', l', ids', A', hd', MD', CN', hk', M⟩ := q.2
  obtain ⟨b1, b2⟩ := M.below hL hab e.size
  exact ⟨S', W', L', v', l', ids', A', hd', hr.mv M, MD', CN', hk', b2, hab, Below.trans e b1⟩
theorem Lw.rot {w0 w : World} {sb ab g n d : Nat} {con : Nat → List Int} {u : Value} {lu : List RV} (h : Lw w0 sb ab g n d 3 con u lu w) (j k : Nat) (hj : j < 3) (hn : n ≤ 20000) (x : Int) (hx : 0 < x ∧ x < 256) (hk : k < (con j).length) :
    Calls Tryz.prog 17 #[V.ptr sb, .string (cpT j), .int .i64 (k : Int), .int .u8 x] w fun e w' => e = .returned (.int .i64 0) ∧ Lw w0 sb ab g (n + 1) d 3 (V.upd con j (V.rotB (con j) k x)) u lu w' := by
  obtain ⟨S, W, L, v, l, ids, A, hd, hr, MD, CN, h3, hL, hab, e⟩ := h
  obtain ⟨a, ha⟩ : ∃ a, ids[j]? = some a := ⟨_, List.getElem?_eq_getElem (by omega)⟩
  have ff : S.file (cpT j).toList = (some a, 0) := by rw [cpT_list]; exact MD.filea j a hj ha
  have nw : (S.nd a).now = con j := CN j a ha
  have R := MD.rotted CN ha hk (x := x)
  refine (V.rot_ok sb S W L (cpT j) a k x w A.rep (by have := (MD.fit (n := n) (by omega)).names; omega) hx ff (by rw [nw]; exact hk)).mono fun e' w' q => ?_
  obtain ⟨h1, W', L', r, t⟩ := q
  have M := Mv.of_st (ab := ab) t
  obtain ⟨b1, b2⟩ := M.below hL hab e.size
  exact ⟨h1, S.rot a k x, W', L', v, l, ids, A.st r t, hd, hr.mv M, R.1, R.2, h3, b2, hab, Below.trans e b1⟩
theorem Lw.stat {w0 w : World} {sb ab g n d : Nat} {con : Nat → List Int} {u : Value} {lu : List RV} (h : Lw w0 sb ab g n d 3 con u lu w) (j : Nat) (hj : j < 3) (hn : n ≤ 20000) :
    Calls Tryz.prog 16 #[V.ptr sb, .string (cpT j)] w fun e w' => (∃ q0 q3 q4, e = .returned (.tuple #[.agg #[.string q0, .int .i64 1, .int .i64 ((con j).length : Int), .int .i64 q3, .int .u64 q4], .int .i64 0])) ∧ Ext w w' := by
  obtain ⟨S, W, L, v, l, ids, A, hd, hr, MD, CN, h3, hL, hab, e⟩ := h
  obtain ⟨a, ha⟩ : ∃ a, ids[j]? = some a := ⟨_, List.getElem?_eq_getElem (by omega)⟩
  have ff : S.file (cpT j).toList = (some a, 0) := by rw [cpT_list]; exact MD.filea j a hj ha
  have nw : (S.nd a).now = con j := CN j a ha
  have kf := MD.kf a (List.mem_of_getElem? ha)
  refine (V.stat_some sb S W L (cpT j) a w A.rep (by have := (MD.fit (n := n) (by omega)).names; omega) (V.file_look ff).1).mono fun e' w' q => ⟨⟨V.tx (cpT j).toList, (S.nd a).mt, (S.nd a).stamp, ?_⟩, q.2⟩
  rw [q.1]
  unfold V.statC
  rw [kf, nw]
/-- Opened again it is the same. -/
theorem Lw.open {w0 w : World} {sb ab g n d : Nat} {con : Nat → List Int} {u : Value} {lu : List RV} (h : Lw w0 sb ab g n d 3 con u lu w) (hn : n ≤ 20000) (hK : KAt w0) (hi : imageL (lu.map RV.d) = true) (hb : BytR (lu.map RV.d)) (ht : TimR (lu.map RV.d)) (hg : 1 ≤ g ∧ g ≤ 2000000)
    (p q : Nat) (hpq : p < q) (hq : q < 3) (ep : con p = pageI g (lu.map RV.d)) (eq : con q = pageI g (lu.map RV.d)) :
    Calls Tryz.prog 19 #[V.ptr sb] w fun e w' => ∃ ab', e = .returned (.tuple #[V.ptr ab', .int .i64 0]) ∧ Lw w0 sb ab' g (n + 25) d 3 (fun _ => pageI g (lu.map RV.d)) u lu w' := by
  obtain ⟨S, W, L, v, l, ids, A, hd, hr, MD, CN, h3, hL, hab, e⟩ := h
  refine (open_con A.rep MD CN h3 hn hK e hL g (lu.map RV.d) hi hb ht hg p q hpq hq ep eq).mono fun e' w' s => ?_
  obtain ⟨ab', w1, h1, h2, h3', e1, S', W', L', v', l', ids', A', hd', MD', CN', hk', M⟩ := s
  have hsz := e.size
  have hsz1 := e1.size
  have r1 : RR (XL L ab') w1 u lu := (hr.mono (X' := XL L ab') fun i k => by
    rcases k with k | k
    · exact Or.inl (Or.inl k)
    · exact Or.inr (by omega)).ext e1
  obtain ⟨b1, b2⟩ := M.below (n := w0.heap.size) hL (by omega) (by omega)
  exact ⟨ab', h1, S', W', L', v', l', ids', A', hd', r1.mv M, MD', CN', hk', b2, by omega, Below.trans (e.trans e1) b1⟩
end Go.Proofs.YtnhokjnmpdiokaaGreatDoor

namespace Go.Proofs.YtnhokjnmpdiokaaGreatDoor
open Go.RowKit Go.Sha Go.Pth
set_option linter.unusedSimpArgs false
set_option linter.unusedVariables false

theorem nm_list (i : Nat) : (nmI i).toList = [UInt8.ofNat (97 + i)] := by
  unfold nmI
  rw [ByteArray.toList_eq]
  show [UInt8.ofNat (97 + (i : Int)).toNat] = _
  rw [show (97 + (i : Int)).toNat = 97 + i by omega]
theorem nm_ok (i : Nat) (h : i < 20) : valid (nmI i).toList = true ∧ hidden (nmI i).toList = false := by
  rw [nm_list]
  have key : ∀ i : Fin 20, valid [UInt8.ofNat (97 + i.val)] = true ∧ hidden [UInt8.ofNat (97 + i.val)] = false := by decide +kernel
  exact key ⟨i, h⟩
theorem nm_less (i j : Nat) (hij : i < j) (h : j < 20) : less (nmI i).toList (nmI j).toList = true := by
  rw [nm_list, nm_list]
  have key : ∀ i j : Fin 20, i.val < j.val → less [UInt8.ofNat (97 + i.val)] [UInt8.ofNat (97 + j.val)] = true := by decide +kernel
  exact key ⟨i, by omega⟩ ⟨j, h⟩ hij
theorem refD_p (i : Nat) (a : Int) : (refD i a).p = nmI i ∧ (refD i a).t = a := by unfold refD; split <;> exact ⟨rfl, rfl⟩
theorem tmod_in (a n : Int) (ha : 0 ≤ a) (hn : 0 < n) : 0 ≤ a.tmod n ∧ a.tmod n < n := by
  rw [Int.tmod_eq_emod_of_nonneg ha]
  exact ⟨Int.emod_nonneg _ (by omega), Int.emod_lt_of_pos _ hn⟩
theorem refD_may (i : Nat) (a : Int) (hi : i < 20) (ha : 0 ≤ a) : mayR (refD i a) = true := by
  rw [mayR_iff]
  have h7 := tmod_in a 7 ha (by omega)
  have h100 := tmod_in a 100 ha (by omega)
  obtain ⟨v, hd⟩ := nm_ok i hi
  unfold refD
  split
  · exact ⟨v, hd, ⟨Int.le_refl _, by simp only; omega⟩, ⟨h7.1, by simp only; omega⟩, Or.inr ⟨rfl, rfl⟩⟩
  · exact ⟨v, hd, ⟨h100.1, by simp only; omega⟩, ⟨h7.1, by simp only; omega⟩, Or.inl ⟨rfl, shaL_length _⟩⟩
theorem refsK_mem (ms : List Int) (k : Nat) (x : RD) (h : x ∈ refsK ms k) : ∃ i a, i < k ∧ ms[i]? = some a ∧ 0 ≤ a ∧ x = refD i a := by
  unfold refsK at h
  obtain ⟨i, hi, hx⟩ := List.mem_flatMap.1 h
  unfold refO at hx
  split at hx
  · cases hx
  · rename_i a e
    split at hx
    · cases hx
    · rename_i hn
      exact ⟨i, a, List.mem_range.1 hi, e, by omega, by simpa using hx⟩
theorem refsK_pair (ms : List Int) : ∀ (k : Nat), k ≤ 20 → List.Pairwise (fun x y : RD => less x.p.toList y.p.toList = true) (refsK ms k)
  | 0, _ => by simp [refsK]
  | k + 1, hk => by
    rw [refsK_succ, List.pairwise_append]
    refine ⟨refsK_pair ms k (by omega), ?_, fun x hx y hy => ?_⟩
    · unfold refO
      split
      · exact List.Pairwise.nil
      · split
        · exact List.Pairwise.nil
        · exact List.pairwise_singleton _ _
    · obtain ⟨i, a, hi, _, _, rfl⟩ := refsK_mem ms k x hx
      unfold refO at hy
      split at hy
      · cases hy
      · split at hy
        · cases hy
        · rw [List.mem_singleton.1 hy, (refD_p i _).1, (refD_p k _).1]
          exact nm_less i k hi (by omega)
theorem image_of {l : List RD} (h1 : l.length ≤ 100) (h2 : ∀ x ∈ l, mayR x = true) (h3 : List.Pairwise (fun x y : RD => less x.p.toList y.p.toList = true) l) : imageL l = true := by
  unfold imageL okTo
  simp only [Bool.and_eq_true, decide_eq_true_eq, List.all_eq_true, List.mem_range]
  refine ⟨h1, fun i hi => ?_⟩
  rw [stepL_get (x := l[i]) (List.getElem?_eq_getElem hi), h2 _ (List.getElem_mem hi)]
  simp only [Bool.true_and, Bool.or_eq_true, beq_iff_eq]
  rcases Nat.eq_zero_or_pos i with k | k
  · exact Or.inl k
  · right
    rw [List.getElem?_eq_getElem (by omega)]
    exact List.pairwise_iff_getElem.1 h3 (i - 1) i (by omega) hi (by omega)
theorem refsK_image (ms : List Int) : imageL (refsK ms 20) = true :=
  image_of (Nat.le_trans (refsK_len ms 20) (by omega)) (fun x hx => by obtain ⟨i, a, hi, _, ha, rfl⟩ := refsK_mem ms 20 x hx; exact refD_may i a hi ha) (refsK_pair ms 20 (Nat.le_refl _))
theorem refsK_byt (ms : List Int) : BytR (refsK ms 20) := fun x hx => by
  obtain ⟨i, a, hi, _, ha, rfl⟩ := refsK_mem ms 20 x hx
  unfold refD
  split
  · exact byt_nil
  · exact sha_byt _
theorem refsK_tim (ms : List Int) (h : ∀ a ∈ ms, -9223372036854775808 ≤ a ∧ a ≤ 9223372036854775807) : TimR (refsK ms 20) := fun x hx => by
  obtain ⟨i, a, hi, hm, ha, rfl⟩ := refsK_mem ms 20 x hx
  rw [(refD_p i a).2]
  have := h a (List.mem_of_getElem? hm)
  omega
end Go.Proofs.YtnhokjnmpdiokaaGreatDoor
