/- The contracts of the document's own Hidden, Parts, Join, Name, Parent, Under. -/
import Derived.Test.YtibhbobdofmafaaDoorWm
import Derived.Test.YtibhbobdofmafaaDoorWk
namespace Go.Proofs.YtibhbobdofmafaaDoor
open Go.RowKit Go.Pth

set_option maxHeartbeats 1000000 in
theorem rhidden_any (s : ByteArray) (w : World) : Calls Tryd.prog 13 #[.string s] w fun e w' => e = .returned (.bool (hidden s.toList)) ∧ Ext w w' := by
  have hsz := Lib.hid (size_list s)
  go_enter Tryd.func13, Tryd.ntmps13
  go_wp2_with fail
  refine (rvalid_any s w).mono ?_
  rintro e w1 ⟨rfl, e1⟩
  cases hv : valid s.toList with
  | false =>
    have R := Lib.hid (show hidden s.toList = false by unfold hidden; rw [hv]; rfl)
    go_wp2
    go_ret
    exact ⟨retb R.out.symm, e1⟩
  | true =>
    have h0 : 0 < s.size := by rw [hsz.out]; exact List.length_pos_iff.2 (valid_ne hv)
    have R := Lib.hid (show hidden s.toList = ((s[0].toNat : Int) == 46) by unfold hidden; rw [hv, head_get s h0]; rfl)
    have i1 : (0 : Int) < (s.size : Int) := by omega
    go_wp2
    go_ret
    exact ⟨retb R.out.symm, e1⟩

set_option maxHeartbeats 1000000 in
theorem rjoin_any (d n : ByteArray) (hd : d.size ≤ 1000000) (hn : n.size ≤ 1000000) (w : World) : Calls Tryd.prog 26 #[.string d, .string n] w fun e w' => e = .returned (.string (tx (join d.toList n.toList))) ∧ Ext w w' := by
  cases hc : d.toList == [] with
  | true =>
    have hd0 : d.toList = [] := by simpa using hc
    have J := Lib.hid (show joined d.toList n.toList = n.toList by unfold joined; rw [if_pos hd0])
    clear hd0
    go_enter Tryd.func26, Tryd.ntmps26
    go_wp2_with fail
    refine (rvalid_any n w).mono ?_
    rintro e w1 ⟨rfl, e1⟩
    cases hv : valid n.toList with
    | false =>
      have R := Lib.hid (show join d.toList n.toList = [] by unfold join; rw [J.out, hv]; rfl)
      go_wp2
      go_ret
      exact ⟨rets (by rw [R.out]; rfl), e1⟩
    | true =>
      have R := Lib.hid (show join d.toList n.toList = n.toList by unfold join; rw [J.out, hv]; rfl)
      go_wp2
      go_ret
      exact ⟨rets (by rw [R.out, list_tx]), e1⟩
  | false =>
    have hd0 : d.toList ≠ [] := by simpa using hc
    have ha : (d ++ ⟨#[47]⟩ ++ n).toList = d.toList ++ 47 :: n.toList := by
      rw [tx_app, tx_app]
      have : (⟨#[47]⟩ : ByteArray).toList = [47] := ByteArray.toList_mk [47]
      rw [this]; simp
    have J := Lib.hid (show joined d.toList n.toList = (d ++ ⟨#[47]⟩ ++ n).toList by unfold joined; rw [if_neg hd0, ha])
    have n1 : ¬ (9223372036854775807 < d.size + 1) := by omega
    have n2 : ¬ (9223372036854775807 < d.size + 1 + n.size) := by omega
    clear hd0 ha
    go_enter Tryd.func26, Tryd.ntmps26
    go_wp2_with fail
    refine (rvalid_any _ w).mono ?_
    rintro e w1 ⟨rfl, e1⟩
    generalize d ++ ⟨#[47]⟩ ++ n = z at *
    cases hv : valid z.toList with
    | false =>
      have R := Lib.hid (show join d.toList n.toList = [] by unfold join; rw [J.out, hv]; rfl)
      go_wp2
      go_ret
      exact ⟨rets (by rw [R.out]; rfl), e1⟩
    | true =>
      have R := Lib.hid (show join d.toList n.toList = z.toList by unfold join; rw [J.out, hv]; rfl)
      go_wp2
      go_ret
      exact ⟨rets (by rw [R.out, list_tx]), e1⟩

set_option maxHeartbeats 1000000 in
theorem rparts2_any (s : ByteArray) (w : World) : Calls Tryd.prog 20 #[.string s] w fun e w' => ∃ v, e = .returned v ∧ Txt w' v (parts s.toList) ∧ Ext w w' := by
  have hsz := Lib.hid (size_list s)
  go_enter Tryd.func20, Tryd.ntmps20
  go_wp2_with fail
  refine (rvalid_any s w).mono ?_
  rintro e w1 ⟨rfl, e1⟩
  cases hv : valid s.toList with
  | false =>
    have r : parts s.toList = [] := by unfold parts; rw [hv]; rfl
    have R := Lib.hid r; clear r
    go_wp2
    go_ret
    exact ⟨_, rfl, by rw [R.out]; exact Txt.nil _, e1⟩
  | true =>
    have r : parts s.toList = cut s.toList := by unfold parts; rw [hv]; rfl
    have R := Lib.hid r; clear r
    have hl := valid_len hv
    rw [← hsz.out] at hl
    go_wp2_with fail
    refine (rparts_any s (by omega) w1).mono ?_
    rintro e w2 ⟨v, rfl, tv, e2⟩
    go_wp2
    go_ret
    exact ⟨_, rfl, by rw [R.out]; exact tv, e1.trans e2⟩

set_option maxHeartbeats 1000000 in
theorem rname_any (s : ByteArray) (w : World) : Calls Tryd.prog 17 #[.string s] w fun e w' => e = .returned (.string (tx (name s.toList))) ∧ Ext w w' := by
  go_enter Tryd.func17, Tryd.ntmps17
  go_wp2_with fail
  refine (rparts2_any s w).mono ?_
  rintro e w1 ⟨v, rfl, tv, e1⟩
  obtain ⟨ad, cap, b, rfl, x2, x3⟩ := tv
  cases hv : valid s.toList with
  | false =>
    have r : parts s.toList = [] := by unfold parts; rw [hv]; rfl
    have q : name s.toList = [] := by unfold name; rw [hv]; rfl
    rw [r] at x2 x3 ⊢
    have Q := Lib.hid q
    clear r q x2 x3
    go_wp2
    go_ret
    exact ⟨rets (by rw [Q.out]; rfl), e1⟩
  | true =>
    have r : parts s.toList = cut s.toList := by unfold parts; rw [hv]; rfl
    have q := name_last hv
    have l61 := cut_len s.toList
    have l60 := valid_len hv
    have c0 : 0 < (cut s.toList).length := List.length_pos_iff.2 (cut_ne _)
    rw [r] at x2 x3 ⊢
    have x4 := x3 ((cut s.toList).length - 1) (by omega)
    rw [← q] at x4
    obtain ⟨L, hL⟩ : ∃ L, L = (cut s.toList).length := ⟨_, rfl⟩
    rw [← hL] at x2 x4 l61 c0 ⊢
    have e2 := x2 c0
    subst e2
    have b61 : L ≤ 61 := by omega
    have i0 : (0 : Int) ≤ (L : Int) - 1 := by omega
    have i1 : (L : Int) - 1 < (L : Int) := by omega
    have i2 : ((L : Int) - 1).toNat = L - 1 := by omega
    have z0 : ((L : Int) == 0) = false := by simp; omega
    have z1 : (L == 0) = false := by simp; omega
    clear r q hL x2 x3 l60 l61
    go_wp2
    go_ret
    exact ⟨rfl, e1⟩

def InvU (s : ByteArray) (i : Value) : Prop := ∃ k : Nat, k ≤ s.size ∧ i = .int .i64 ((k : Int) - 1) ∧ (47 : UInt8) ∉ s.toList.drop k
set_option maxHeartbeats 1000000 in
theorem rparent_any (s : ByteArray) (w : World) : Calls Tryd.prog 15 #[.string s] w fun e w' => e = .returned (.string (tx (parent s.toList))) ∧ Ext w w' := by
  have hsz := Lib.hid (size_list s)
  go_enter Tryd.func15, Tryd.ntmps15
  go_wp2_with fail
  refine (rvalid_any s w).mono ?_
  rintro e w1 ⟨rfl, e1⟩
  cases hv : valid s.toList with
  | false =>
    have R := Lib.hid (show parent s.toList = [] by unfold parent; rw [hv]; rfl)
    go_wp2
    go_ret
    exact ⟨rets (by rw [R.out]; rfl), e1⟩
  | true =>
    have hl := valid_len hv
    rw [← hsz.out] at hl
    have HV := Lib.hid hv
    go_wp2
    go_loop [3] (fun i => InvU s i) (fun i => (intOf i + 1).toNat)
    case atStart => exact ⟨s.size, by omega, by first | rfl | go_num, by rw [hsz.out, List.drop_length]; simp⟩
    case round =>
      obtain ⟨k, hk, rfl, hn⟩ := hrel
      have Hn := Lib.hid hn; clear hn
      by_cases h0 : 0 < k
      · have t0 : (0 : Int) ≤ (k : Int) - 1 := by omega
        have t1 : (k : Int) - 1 < (s.size : Int) := by omega
        have t2 : ((k : Int) - 1).toNat = k - 1 := by omega
        have t3 : (k : Int) - 1 ≤ (s.size : Int) := by omega
        have hlt : k - 1 < s.size := by omega
        have G := Lib.hid (tx_get s (k - 1) hlt)
        have DR := Lib.hid (show s.toList.drop (k - 1) = s[k - 1] :: s.toList.drop k by
          have hl2 : k - 1 < s.toList.length := by rw [← hsz.out]; exact hlt
          have g := G.out
          rw [List.getElem?_eq_getElem hl2] at g
          injection g with g
          rw [List.drop_eq_getElem_cons hl2, g, show k - 1 + 1 = k by omega])
        cases q : ((s[k - 1].toNat : Int) == 47) with
        | true =>
          have Q := Lib.hid (byte_eq _ (beq_iff_eq.1 q))
          go_wp2
          go_ret
          refine ⟨rets ?_, e1⟩
          have d := DR.out
          rw [Q.out] at d
          have e : s.toList = s.toList.take (k - 1) ++ 47 :: s.toList.drop (k - 1 + 1) := by
            rw [show k - 1 + 1 = k by omega, ← d, List.take_append_drop]
          have nm := last_names s.toList (k - 1) HV.out e (by rw [show k - 1 + 1 = k by omega]; exact Hn.out)
          rw [nm.1, ← list_tx (s.extract 0 (k - 1)), tx_cut]; simp
        | false =>
          have Q := Lib.hid q
          go_wp2
          refine ⟨⟨k - 1, by omega, by first | rfl | (congr 1; omega) | go_num, ?_⟩, by simp [intOf]; omega⟩
          rw [DR.out]
          intro hm
          rcases List.mem_cons.1 hm with hm | hm
          · have hq := Q.out
            rw [← hm] at hq
            exact absurd hq (by decide)
          · exact Hn.out hm
      · obtain rfl : k = 0 := by omega
        clear h0
        go_wp2
        go_ret
        refine ⟨rets ?_, e1⟩
        have hn := Hn.out
        rw [List.drop_zero] at hn
        rw [(parent_one HV.out hn).1]; rfl

theorem prefix_take (s d : B) : (s.take (d.length + 1) == d ++ [47]) = (d ++ [47]).isPrefixOf s := by
  rw [Bool.eq_iff_iff, beq_iff_eq, List.isPrefixOf_iff_prefix, List.prefix_iff_eq_take]
  simp only [List.length_append, List.length_cons, List.length_nil]
  exact eq_comm
theorem prefix_short (s d : B) (h : ¬ d.length < s.length) : (d ++ [47]).isPrefixOf s = false := by
  cases e : (d ++ [47]).isPrefixOf s with
  | false => rfl
  | true =>
    have := (List.isPrefixOf_iff_prefix.1 e).length_le
    simp at this; omega
set_option maxHeartbeats 1000000 in
theorem runder_any (s d : ByteArray) (w : World) : Calls Tryd.prog 22 #[.string s, .string d] w fun e w' => e = .returned (.bool (under s.toList d.toList)) ∧ Ext w w' := by
  have R := Lib.hid (show under s.toList d.toList = (valid s.toList && (d.toList == [] || (valid d.toList && (d.toList ++ [47]).isPrefixOf s.toList))) from rfl)
  have hss := Lib.hid (size_list s)
  have hsd := Lib.hid (size_list d)
  go_enter Tryd.func22, Tryd.ntmps22
  go_wp2_with fail
  refine (rvalid_any s w).mono ?_
  rintro e w1 ⟨rfl, e1⟩
  cases hv : valid s.toList with
  | false =>
    rw [hv] at R
    go_wp2
    go_ret
    exact ⟨retb R.out.symm, e1⟩
  | true =>
    rw [hv] at R
    have hls := valid_len hv
    rw [← hss.out] at hls
    cases hd : d.toList == [] with
    | true =>
      rw [hd] at R
      go_wp2
      go_ret
      exact ⟨retb R.out.symm, e1⟩
    | false =>
      rw [hd] at R
      go_wp2_with fail
      refine (rvalid_any d w1).mono ?_
      rintro e w2 ⟨rfl, e2⟩
      cases hw : valid d.toList with
      | false =>
        rw [hw] at R
        go_wp2
        go_ret
        exact ⟨retb R.out.symm, e1.trans e2⟩
      | true =>
        rw [hw] at R
        have hld := valid_len hw
        rw [← hsd.out] at hld
        by_cases hlt : d.size < s.size
        · have t1 : (d.size : Int) < (s.size : Int) := by omega
          have t2 : (0 : Int) ≤ (d.size : Int) + 1 := by omega
          have t3 : (d.size : Int) + 1 ≤ (s.size : Int) := by omega
          have t4 : ((d.size : Int) + 1).toNat = d.size + 1 := by omega
          have t5 : ¬ (9223372036854775807 < d.size + 1) := by omega
          have E := Lib.hid (show ((s.extract 0 (d.size + 1)).toList == (d ++ ⟨#[47]⟩).toList) = (d.toList ++ [47]).isPrefixOf s.toList by
            rw [tx_cut, tx_app, show (⟨#[47]⟩ : ByteArray).toList = [47] from ByteArray.toList_mk [47], ← prefix_take, hsd.out]
            simp)
          go_wp2
          go_ret
          refine ⟨retb ?_, e1.trans e2⟩
          rw [R.out, ← E.out]; rfl
        · have t1 : decide (d.size < s.size) = false := decide_eq_false hlt
          have t2 : decide ((d.size : Int) < (s.size : Int)) = false := decide_eq_false (by omega)
          have E := Lib.hid (prefix_short s.toList d.toList (by rw [← hss.out, ← hsd.out]; exact hlt))
          rw [E.out] at R
          clear hlt
          go_wp2
          go_ret
          exact ⟨retb R.out.symm, e1.trans e2⟩
end Go.Proofs.YtibhbobdofmafaaDoor
