/- Contracts of slices.Clone (bytes; names), slices.Contains of bools, next. -/
import Derived.Test.YtbneedmfpldpfaaDoorSh
set_option linter.unusedSimpArgs false
namespace Go.Proofs.YtbneedmfpldpfaaDoor
open Go.RowKit Go.Pth

/-- append to an empty slice that is none of nothing: whatever comes is new. -/
theorem empty_row (w : World) (e : TypeId) (k : Nat) : Row (w.alloc (.cells #[] e)) e k (.slice (some ⟨w.heap.size, 0, none⟩) 0 0) 0 [] :=
  World.ownsRow_made w #[] 0 (Nat.zero_le _) (Nat.zero_le _) (by simp)
theorem fresh2 {w w' : World} {v' : Value} {o : Obj} (g : Grew (w.alloc o) w' (.slice (some ⟨w.heap.size, 0, none⟩) 0 0) v') : Ext w w' ∧ ∀ q, v'.ownBlock = some q → w.heap.size ≤ q := by
  refine ⟨?_, fun q hq => ?_⟩
  · have := (Chg.of_ext (X := fun _ => False) (Ext.alloc w o)).trans g.chg (fun i hi h => by
      have : some w.heap.size = some i := h
      injection this; omega)
    exact this.ext
  · rcases g.own with e | ⟨q', e1, e2⟩
    · rw [e] at hq
      have : some w.heap.size = some q := hq
      injection this; omega
    · rw [e1] at hq; injection hq with hq; rw [size_alloc] at e2; omega
set_option maxRecDepth 100000 in
set_option maxHeartbeats 4000000 in
theorem cloneb_any (v : Value) (l : List Int) (w : World) (h : Row w 5 1 v l.length (bts l)) (hl : l.length ≤ 1000000) :
    Calls Tryd.prog 58 #[v] w fun e w' => ∃ v', e = .returned v' ∧ Row w' 5 1 v' l.length (bts l) ∧ Ext w w' ∧ ∀ q, v'.ownBlock = some q → w.heap.size ≤ q := by
  rcases h.2 with ⟨rfl, h0⟩ | ⟨g, cap, cur, hv, _⟩
  · have hx : l = [] := List.length_eq_zero_iff.1 h0
    subst hx
    have E := Lib.hid (Ext.refl w)
    have R := Lib.hid (World.ownsRow_nil w 0 5 1)
    clear h
    have q := fun w => Lib.run_eql_slice_nil (P := Tryd.prog) w 22 5 none 0 0 0 0 Tryd.underlying22
    go_enter Tryd.func58, Tryd.ntmps58
    go_wp2
    go_ret
    exact ⟨_, rfl, R.out, E.out, fun q hq => by cases hq⟩
  · obtain ⟨i, hi1, hi2, hi3, hi4⟩ := info_of info5
    obtain ⟨v', w', h1, h2, h3⟩ := run_append_row (P := Tryd.prog) (w.alloc (.cells #[] 5)) 22 22 22 5 i _ Tryd.underlying22 hi1 hi2 (by rw [hi3]; rfl) (.slice (some ⟨w.heap.size, 0, none⟩) 0 0) 0 [] (empty_row _ _ _) v l.length (bts l) (by rw [hi3]; exact Row.src (h.ext (Ext.alloc _ _)) (bts_one l) Tryd.underlying22) (by simp only [maxLen]; omega) (by rw [hi4]; omega)
    rw [hi3, Nat.zero_add, List.nil_append] at h2
    have f := Lib.hid (fresh2 h3)
    have H1 := Lib.hid h1
    have H2 := Lib.hid h2
    subst hv
    clear h h1 h2 h3 hi1 hi2 hi3 hi4
    generalize bts l = X at *
    generalize l.length = n at *
    have q := fun w => Lib.run_eql_slice_nil (P := Tryd.prog) w 22 5 (some ⟨g, 0, none⟩) n cap 0 0 Tryd.underlying22
    go_enter Tryd.func58, Tryd.ntmps58
    go_wp2_with (at_builtin; refine Lib.wpList_append_run _ rfl _ _ _ _ rfl _ _ rfl rfl _ _ H1.out ?_)
    go_ret
    exact ⟨_, rfl, H2.out, f.out.1, f.out.2⟩
set_option maxRecDepth 100000 in
set_option maxHeartbeats 4000000 in
theorem clonet_any (v : Value) (l : List Nm) (w : World) (h : Row w 64 2 v l.length (ents l)) (hl : l.length ≤ 1000000) :
    Calls Tryd.prog 38 #[v] w fun e w' => ∃ v', e = .returned v' ∧ Row w' 64 2 v' l.length (ents l) ∧ Ext w w' ∧ ∀ q, v'.ownBlock = some q → w.heap.size ≤ q := by
  rcases h.2 with ⟨rfl, h0⟩ | ⟨g, cap, cur, hv, _⟩
  · have hx : l = [] := List.length_eq_zero_iff.1 h0
    subst hx
    have E := Lib.hid (Ext.refl w)
    have R := Lib.hid (World.ownsRow_nil w 0 64 2)
    clear h
    have q := fun w => Lib.run_eql_slice_nil (P := Tryd.prog) w 60 64 none 0 0 0 0 Tryd.underlying60
    go_enter Tryd.func38, Tryd.ntmps38
    go_wp2
    go_ret
    exact ⟨_, rfl, R.out, E.out, fun q hq => by cases hq⟩
  · obtain ⟨i, hi1, hi2, hi3, hi4⟩ := info_of info64
    obtain ⟨v', w', h1, h2, h3⟩ := run_append_row (P := Tryd.prog) (w.alloc (.cells #[] 64)) 60 60 60 64 i _ Tryd.underlying60 hi1 hi2 (by rw [hi3]; rfl) (.slice (some ⟨w.heap.size, 0, none⟩) 0 0) 0 [] (by rw [hi3]; exact empty_row _ _ _) v l.length (ents l) (by rw [hi3]; exact Row.src (h.ext (Ext.alloc _ _)) (ents_one l) Tryd.underlying60) (by simp only [maxLen]; omega) (by rw [hi4]; omega)
    rw [hi3, Nat.zero_add, List.nil_append] at h2
    have f := Lib.hid (fresh2 h3)
    have H1 := Lib.hid h1
    have H2 := Lib.hid h2
    subst hv
    clear h h1 h2 h3 hi1 hi2 hi3 hi4
    generalize ents l = X at *
    generalize l.length = n at *
    have q := fun w => Lib.run_eql_slice_nil (P := Tryd.prog) w 60 64 (some ⟨g, 0, none⟩) n cap 0 0 Tryd.underlying60
    go_enter Tryd.func38, Tryd.ntmps38
    go_wp2_with (at_builtin; refine Lib.wpList_append_run _ rfl _ _ _ _ rfl _ _ rfl rfl _ _ H1.out ?_)
    go_ret
    exact ⟨_, rfl, H2.out, f.out.1, f.out.2⟩

def InvX (l : List Bool) (s8 : Value) : Prop := ∃ k : Nat, k ≤ l.length ∧ s8 = .int .i64 k ∧ (l.take k).any id = false
set_option maxRecDepth 100000 in
set_option maxHeartbeats 4000000 in
theorem indexb_any (v : Value) (l : List Bool) (w : World) (h : Row w 4 1 v l.length (bls l)) (hl : l.length ≤ 1000000) :
    Calls Tryd.prog 57 #[v, .bool true] w fun e w' => (∃ i : Int, e = .returned (.int .i64 i) ∧ (decide (0 ≤ i) = l.any id)) ∧ w = w' := by
  obtain ⟨ad, cap, hv, -⟩ := h.shape
  have HC := Lib.hid (fun (k : Nat) (hk : k < l.length) => by
    obtain ⟨g, cap', hv', -⟩ := Row.own h (by omega : 0 < l.length)
    rw [hv'] at h
    have := (Row.cell h k hk).1
    exact (⟨g, cap', hv', by rw [this, bls, List.getElem?_map, List.getElem?_eq_getElem hk]; rfl⟩ : ∃ g cap', v = .slice (some ⟨g, 0, none⟩) l.length cap' ∧ w.cell? ⟨g, k, none⟩ = some (.bool l[k])))
  subst hv
  clear h
  obtain ⟨n, hN⟩ : ∃ n, n = l.length := ⟨_, rfl⟩
  have HN := Lib.hid hN
  rw [← hN] at hl ⊢
  clear hN
  go_enter Tryd.func57, Tryd.ntmps57
  go_wp2
  go_loop [8] (fun s8 => InvX l s8) (fun s8 => n - (intOf s8).toNat)
  case atStart => exact ⟨0, Nat.zero_le _, rfl, rfl⟩
  case round =>
    obtain ⟨k, hk, rfl, hany⟩ := hrel
    rw [← HN.out] at hk
    have HA := Lib.hid hany
    clear hany
    by_cases hlt : k < n
    · have hkl : k < l.length := by rw [← HN.out]; exact hlt
      obtain ⟨g, cap', hv', cl⟩ := HC.out k hkl
      rw [← HN.out] at hv'
      injection hv' with h1 h2 h3
      subst h1
      have i0 : (0 : Int) ≤ (k : Int) := by omega
      have i1 : (k : Int) < (n : Int) := by omega
      have st : (l.take (k + 1)).any id = l[k] := by rw [List.take_succ_eq_append_getElem hkl, List.any_append, HA.out]; simp
      have ST := Lib.hid st
      have LA := Lib.hid (show l[k] = true → l.any id = true from fun hb => List.any_eq_true.2 ⟨l[k], List.getElem_mem hkl, hb⟩)
      clear st h2 h3
      cases hb : l[k] with
      | true =>
        rw [hb] at cl
        go_wp2
        go_ret
        refine ⟨⟨k, rfl, ?_⟩, rfl⟩
        rw [LA.out hb]; exact decide_eq_true (by omega)
      | false =>
        rw [hb] at cl ST
        go_wp2
        exact ⟨⟨k + 1, by rw [← HN.out]; omega, rfl, ST.out⟩, by simp [intOf]; omega⟩
    · obtain rfl : k = n := by omega
      clear hlt
      have ha := HA.out
      rw [HN.out, List.take_length] at ha
      have HA2 := Lib.hid ha
      clear ha HA
      go_wp2
      go_ret
      exact ⟨⟨-1, rfl, by rw [HA2.out]; rfl⟩, rfl⟩
set_option maxRecDepth 100000 in
set_option maxHeartbeats 4000000 in
theorem contains_any (v : Value) (l : List Bool) (w : World) (h : Row w 4 1 v l.length (bls l)) (hl : l.length ≤ 1000000) :
    Calls Tryd.prog 36 #[v, .bool true] w fun e w' => e = .returned (.bool (l.any id)) ∧ w = w' := by
  have IX := Lib.hid (indexb_any v l w h hl)
  clear h
  go_enter Tryd.func36, Tryd.ntmps36
  go_wp2_with fail
  refine (IX.out).mono ?_
  rintro e w' ⟨⟨i, rfl, hi⟩, rfl⟩
  have HI := Lib.hid hi
  clear hi
  go_wp2
  go_ret
  exact ⟨retv (by rw [← HI.out] <;> rfl), rfl⟩
/-- Numbers in memory, to be read. -/
structure Ins (w : World) (v : Value) (l : List Int) (ad : Option Addr) (cap b o : Nat) : Prop where
  val : v = .slice ad l.length cap
  cap : l.length ≤ cap ∧ cap ≤ 1000000
  adr : 0 < l.length → ad = some ⟨b, o, none⟩
  cell : ∀ j (h : j < l.length), w.cell? ⟨b, o + j, none⟩ = some (.int .i64 l[j])
theorem Ins.ext {w w' : World} {v : Value} {l : List Int} {ad : Option Addr} {cap b o : Nat} (h : Ins w v l ad cap b o) (he : Ext w w') : Ins w' v l ad cap b o :=
  ⟨h.val, h.cap, h.adr, fun j hj => he.cell (h.cell j hj)⟩
def IntsIn (w : World) (v : Value) (l : List Int) : Prop := ∃ ad cap b o, Ins w v l ad cap b o
theorem IntsIn.ext {w w' : World} {v : Value} {l : List Int} (h : IntsIn w v l) (he : Ext w w') : IntsIn w' v l := by
  obtain ⟨ad, cap, b, o, h⟩ := h; exact ⟨ad, cap, b, o, h.ext he⟩
set_option maxRecDepth 100000 in
set_option maxHeartbeats 4000000 in
theorem next_any (v : Value) (l : List Int) (w : World) (h : IntsIn w v l) :
    Calls Tryd.prog 34 #[v] w fun e w' => ∃ v', e = .returned (.tuple #[.int .i64 (l.headD 0), v']) ∧ IntsIn w' v' l.tail ∧ Ext w w' := by
  obtain ⟨ad, cap, b, o, h⟩ := h
  have hv := h.val
  subst hv
  cases l with
  | nil =>
    have NI : Hid (IntsIn w (.slice none 0 0) []) := Lib.hid ⟨none, 0, 0, 0, rfl, by simp, fun h => by simp at h, fun j h => by simp at h⟩
    have E := Lib.hid (Ext.refl w)
    clear h
    go_enter Tryd.func34, Tryd.ntmps34
    go_wp2
    go_ret2
    exact ⟨_, rfl, NI.out, E.out⟩
  | cons x r =>
    have had := h.adr (by simp)
    subst had
    have c0 := h.cell 0 (by simp)
    simp only [Nat.add_zero, List.getElem_cons_zero] at c0
    obtain ⟨k1, k2⟩ := h.cap
    simp only [List.length_cons] at k1
    have NI : Hid (∀ dd : Option Addr, ∀ cc : Nat, (0 < r.length → dd = some ⟨b, o + 1, none⟩) → r.length ≤ cc → cc ≤ 1000000 → IntsIn w.drew (.slice dd r.length cc) r) := Lib.hid fun dd cc h1 h2 h3 =>
      ⟨dd, cc, b, o + 1, rfl, ⟨h2, h3⟩, h1, fun j hj => by
        have := h.cell (j + 1) (by simpa using hj)
        simp only [List.getElem_cons_succ] at this
        rw [show o + 1 + j = o + (j + 1) by omega]; exact this⟩
    have E := Lib.hid (Ext.drew w)
    simp only [List.length_cons]
    clear h
    generalize r.length = n at *
    have i0 : (0 : Int) < ((n + 1 : Nat) : Int) := by omega
    have z0 : (n + 1 == 0) = false := by simp
    have i1 : (1 : Int) ≤ (cap : Int) := by omega
    have i2 : ((n + 1 : Nat) : Int) ≤ (cap : Int) := by omega
    have i3 : (1 : Int) ≤ ((n + 1 : Nat) : Int) := by omega
    by_cases hc : cap = 1
    · have hn0 : n = 0 := by omega
      subst hc hn0
      go_enter Tryd.func34, Tryd.ntmps34
      go_wp2
      go_region
      all_goals go_wp2
      all_goals go_ret2
      all_goals exact ⟨_, rfl, NI.out _ _ (fun h => by omega) (Nat.zero_le _) (by omega), E.out⟩
    · go_enter Tryd.func34, Tryd.ntmps34
      go_wp2
      go_region
      all_goals go_wp2
      all_goals go_ret2
      all_goals exact ⟨_, rfl, NI.out _ _ (fun h => rfl) (by omega) (by omega), E.out⟩
end Go.Proofs.YtbneedmfpldpfaaDoor
