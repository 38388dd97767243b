/- The contracts of the document's own Join, Parts, Name; of path's Name; of Texts where both lists are alike. -/
import Derived.Test.YtoompkmncglmoaaDoorRc
import Derived.Test.YtoompkmncglmoaaDoorWc
namespace Go.Proofs.YtoompkmncglmoaaDoor
open Go.RowKit Go.Pth

set_option maxHeartbeats 1000000 in
theorem rjoin_any (d n : ByteArray) (hd : d.size ≤ 1000000) (hn : n.size ≤ 1000000) (w : World) : Calls Tryd.prog 18 #[.string d, .string n] w fun e w' => e = .returned (.string (tx (join d.toList n.toList))) ∧ Ext w w' := by
  cases hc : d.toList == [] with
  | true =>
    have hd0 : d.toList = [] := by simpa using hc
    have J := Lib.hid (show joined d.toList n.toList = n.toList by unfold joined; rw [if_pos hd0])
    clear hd0
    go_enter Tryd.func18, Tryd.ntmps18
    go_wp2_with fail
    refine (rvalid_any n w).mono ?_
    rintro e w1 ⟨rfl, e1⟩
    cases hv : valid n.toList with
    | false =>
      have R := Lib.hid (show join d.toList n.toList = [] by unfold join; rw [J.out, hv]; rfl)
      go_wp2
      go_ret
      exact ⟨rets (by rw [R.out]; rfl), e1⟩
    | true =>
      have R := Lib.hid (show join d.toList n.toList = n.toList by unfold join; rw [J.out, hv]; rfl)
      go_wp2
      go_ret
      exact ⟨rets (by rw [R.out, list_tx]), e1⟩
  | false =>
    have hd0 : d.toList ≠ [] := by simpa using hc
    have ha : (d ++ ⟨#[47]⟩ ++ n).toList = d.toList ++ 47 :: n.toList := by
      rw [tx_app, tx_app]
      have : (⟨#[47]⟩ : ByteArray).toList = [47] := ByteArray.toList_mk [47]
      rw [this]; simp
    have J := Lib.hid (show joined d.toList n.toList = (d ++ ⟨#[47]⟩ ++ n).toList by unfold joined; rw [if_neg hd0, ha])
    have n1 : ¬ (9223372036854775807 < d.size + 1) := by omega
    have n2 : ¬ (9223372036854775807 < d.size + 1 + n.size) := by omega
    clear hd0 ha
    go_enter Tryd.func18, Tryd.ntmps18
    go_wp2_with fail
    refine (rvalid_any _ w).mono ?_
    rintro e w1 ⟨rfl, e1⟩
    generalize d ++ ⟨#[47]⟩ ++ n = z at *
    cases hv : valid z.toList with
    | false =>
      have R := Lib.hid (show join d.toList n.toList = [] by unfold join; rw [J.out, hv]; rfl)
      go_wp2
      go_ret
      exact ⟨rets (by rw [R.out]; rfl), e1⟩
    | true =>
      have R := Lib.hid (show join d.toList n.toList = z.toList by unfold join; rw [J.out, hv]; rfl)
      go_wp2
      go_ret
      exact ⟨rets (by rw [R.out, list_tx]), e1⟩

set_option maxHeartbeats 1000000 in
theorem rparts2_any (s : ByteArray) (w : World) : Calls Tryd.prog 31 #[.string s] w fun e w' => ∃ v, e = .returned v ∧ Txt w' v (parts s.toList) ∧ Ext w w' := by
  have hsz := Lib.hid (size_list s)
  go_enter Tryd.func31, Tryd.ntmps31
  go_wp2_with fail
  refine (rvalid_any s w).mono ?_
  rintro e w1 ⟨rfl, e1⟩
  cases hv : valid s.toList with
  | false =>
    have r : parts s.toList = [] := by unfold parts; rw [hv]; rfl
    have R := Lib.hid r; clear r
    go_wp2
    go_ret
    exact ⟨_, rfl, by rw [R.out]; exact Txt.nil _, e1⟩
  | true =>
    have r : parts s.toList = cut s.toList := by unfold parts; rw [hv]; rfl
    have R := Lib.hid r; clear r
    have hl := valid_len hv
    rw [← hsz.out] at hl
    go_wp2_with fail
    refine (rparts_any s (by omega) w1).mono ?_
    rintro e w2 ⟨v, rfl, tv, e2⟩
    go_wp2
    go_ret
    exact ⟨_, rfl, by rw [R.out]; exact tv, e1.trans e2⟩

theorem name_last {l : B} (h : valid l = true) : name l = (cut l)[(cut l).length - 1]?.getD [] := by
  unfold name
  rw [if_pos h, List.getLastD_eq_getLast?, List.getLast?_eq_getElem?]
set_option maxHeartbeats 1000000 in
theorem rname_any (s : ByteArray) (w : World) : Calls Tryd.prog 19 #[.string s] w fun e w' => e = .returned (.string (tx (name s.toList))) ∧ Ext w w' := by
  go_enter Tryd.func19, Tryd.ntmps19
  go_wp2_with fail
  refine (rparts2_any s w).mono ?_
  rintro e w1 ⟨v, rfl, tv, e1⟩
  obtain ⟨ad, cap, b, rfl, x2, x3⟩ := tv
  cases hv : valid s.toList with
  | false =>
    have r : parts s.toList = [] := by unfold parts; rw [hv]; rfl
    have q : name s.toList = [] := by unfold name; rw [hv]; rfl
    rw [r] at x2 x3 ⊢
    have Q := Lib.hid q
    clear r q x2 x3
    go_wp2
    go_ret
    exact ⟨rets (by rw [Q.out]; rfl), e1⟩
  | true =>
    have r : parts s.toList = cut s.toList := by unfold parts; rw [hv]; rfl
    have q := name_last hv
    have l61 := cut_len s.toList
    have l60 := valid_len hv
    have c0 : 0 < (cut s.toList).length := List.length_pos_iff.2 (cut_ne _)
    rw [r] at x2 x3 ⊢
    have x4 := x3 ((cut s.toList).length - 1) (by omega)
    rw [← q] at x4
    obtain ⟨L, hL⟩ : ∃ L, L = (cut s.toList).length := ⟨_, rfl⟩
    rw [← hL] at x2 x4 l61 c0 ⊢
    have e2 := x2 c0
    subst e2
    have b61 : L ≤ 61 := by omega
    have i0 : (0 : Int) ≤ (L : Int) - 1 := by omega
    have i1 : (L : Int) - 1 < (L : Int) := by omega
    have i2 : ((L : Int) - 1).toNat = L - 1 := by omega
    have z0 : ((L : Int) == 0) = false := by simp; omega
    have z1 : (L == 0) = false := by simp; omega
    clear r q hL x2 x3 l60 l61
    go_wp2
    go_ret
    exact ⟨rfl, e1⟩

def InvX (x y : List B) (w : World) (i : Value) (wr : World) : Prop := ∃ k : Nat, k ≤ com x y ∧ i = .int .i64 k ∧ Ext w wr
theorem com_eq (x y : List B) (h : x.length = y.length) (hc : com x y = x.length) : x = y := by
  rw [h] at hc
  exact ((com_all x y).1 hc).eq_of_length (by rw [h]) |>.symm
set_option maxHeartbeats 1000000 in
/-- Two alike lists. -/
theorem texts_same (va vb : Value) (x : List B) (w : World) (hx : Txt w va x) (hy : Txt w vb x) (lx : x.length ≤ 100) :
    Calls Tryd.prog 16 #[va, vb] w fun e w' => e = .returned (.bool true) ∧ Ext w w' := by
  obtain ⟨ada, capa, ba, rfl, xa, xc⟩ := hx
  obtain ⟨adb, capb, bb, rfl, ya, yc⟩ := hy
  obtain ⟨L, hL⟩ : ∃ L, L = x.length := ⟨_, rfl⟩
  rw [← hL] at xa xc ya yc lx ⊢
  have XA := Lib.hid xa; have XC := Lib.hid xc; have YA := Lib.hid ya; have YC := Lib.hid yc
  clear xa xc ya yc hL
  go_enter Tryd.func16, Tryd.ntmps16
  go_wp2
  go_loopw [5] (fun i wr => ∃ k : Nat, k ≤ L ∧ i = .int .i64 k ∧ Ext w wr) (fun i _ => L - (intOf i).toNat)
  case atStart => exact ⟨0, by omega, rfl, Ext.refl _⟩
  case round =>
    obtain ⟨k, hk, rfl, he⟩ := hrel
    by_cases hlt : k < L
    · have i0 : (0 : Int) ≤ (k : Int) := by omega
      have i1 : (k : Int) < (L : Int) := by omega
      have e1 := XA.out (by omega)
      subst e1
      have e2 := YA.out (by omega)
      subst e2
      have c1 := he.cell (XC.out k hlt)
      have c2 := he.cell (YC.out k hlt)
      generalize tx (x[k]?.getD []) = z at c1 c2
      have q : (z.toList == z.toList) = true := by simp
      have HE := Lib.hid he
      clear he
      go_wp2_with fail
      go_quiet (fail)
      go_wp2
      refine ⟨⟨k + 1, by omega, rfl, HE.out.trans ?_⟩, by simp [intOf]; omega⟩
      first | exact Ext.refl _ | exact Ext.drew _ | exact Ext.drewN _ _
    · obtain rfl : k = L := by omega
      clear hlt
      go_wp2
      go_ret
      exact ⟨rfl, he⟩

end Go.Proofs.YtoompkmncglmoaaDoor
