/- The walk of PathTrees. -/
import Derived.Test.YtibhbobdofmafaaDoorWg
namespace Go.Proofs.YtibhbobdofmafaaDoor
open Go.RowKit Go.Pth

theorem under_acc (a b : ByteArray) {w0 w : World} (h : Ext w0 w) : Calls Tryd.prog 21 #[.string a, .string b] w fun e w' => e = .returned (.bool (under a.toList b.toList)) ∧ Ext w0 w' :=
  (under_any a b w).mono fun _ _ ⟨x, y⟩ => ⟨x, h.trans y⟩
theorem valid_acc (a : ByteArray) {w0 w : World} (h : Ext w0 w) : Calls Tryd.prog 10 #[.string a] w fun e w' => e = .returned (.bool (valid a.toList)) ∧ Ext w0 w' :=
  (valid_any a w).mono fun _ _ ⟨x, y⟩ => ⟨x, h.trans y⟩

set_option maxHeartbeats 4000000 in
theorem trees_any (a b n : ByteArray) (w : World) (ha : a.size ≤ 9223372036854775807) (hb : b.size ≤ 9223372036854775807) (hn : n.size ≤ 9223372036854775807) :
    Calls Tryd.prog 5 #[.string a, .string b, .string n] w fun e w' => e = .returned (.bool true) ∧ Ext w w' := by
  have C := Lib.hid (cells2 w (.int .i64 (b.size : Int)) (.int .i64 (n.size : Int)))
  have hE := Ext.alloc w (.cells #[.int .i64 (b.size : Int), .int .i64 (n.size : Int)] 3)
  go_enter Tryd.func5, Tryd.ntmps5
  go_wp2_with fail
  refine (sum3 a.size b.size n.size w.heap.size _ ha hb hn C.out.1 C.out.2).mono ?_
  rintro e w1 ⟨⟨R, rfl, hS⟩, rfl⟩
  clear C
  by_cases hR : 500 < R
  · have d : decide ((500 : Int) < (R : Int)) = true := decide_eq_true (by omega)
    clear hS
    go_wp2_with fail
    refine (awake_acc hE).mono ?_
    rintro e w2 ⟨rfl, hE⟩
    go_wp2
    go_ret
    exact ⟨rfl, hE⟩
  · have d : decide ((500 : Int) < (R : Int)) = false := decide_eq_false (by omega)
    have hs := hS (by omega)
    have ba : a.size ≤ 1000000 := by omega
    have bn : n.size ≤ 1000000 := by omega
    clear hS hR hs
    go_wp2_with fail
    refine (join_any a n ba bn _).mono ?_
    rintro e w2 ⟨rfl, e2⟩
    have hE := hE.trans e2
    have T := Lib.hid (trees a.toList b.toList n.toList)
    have X := Lib.hid (tx_list (join a.toList n.toList))
    generalize hz : tx (join a.toList n.toList) = z at *
    rw [← X.out] at T
    clear X hz e2 ba bn
    cases hc : z.toList == [] with
    | true =>
      clear T
      go_wp2_with fail
      refine (awake_acc hE).mono ?_
      rintro e w3 ⟨rfl, hE⟩
      go_wp2
      go_ret
      exact ⟨rfl, hE⟩
    | false =>
      cases hd : a.toList == [] with
      | true =>
        clear T
        go_wp2_with fail
        refine (awake_acc hE).mono ?_
        rintro e w3 ⟨rfl, hE⟩
        go_wp2
        go_ret
        exact ⟨rfl, hE⟩
      | false =>
        obtain ⟨t1, t2, t3, t4, t5⟩ := T.out (by simpa using hd) (by simpa using hc)
        clear T
        cases hv : valid b.toList with
        | false =>
          clear t5
          go_wp2_with (first | (go_at_call 23; refine (less_acc _ _ hE).mono ?_; rintro e w' ⟨rfl, hE⟩; simp only [t3]) | (go_at_call 21; refine (under_acc _ _ hE).mono ?_; rintro e w' ⟨rfl, hE⟩; simp only [t1, t2, t4]) | (go_at_call 10; refine (valid_acc _ hE).mono ?_; rintro e w' ⟨rfl, hE⟩; simp only [hv]) | (go_at_call 9; refine (awake_acc hE).mono ?_; rintro e w' ⟨rfl, hE⟩))
          go_ret
          exact ⟨rfl, hE⟩
        | true =>
          cases hx : less a.toList b.toList with
          | false =>
            clear t5
            go_wp2_with (first | (go_at_call 23; refine (less_acc _ _ hE).mono ?_; rintro e w' ⟨rfl, hE⟩; simp only [t3, hx]) | (go_at_call 21; refine (under_acc _ _ hE).mono ?_; rintro e w' ⟨rfl, hE⟩; simp only [t1, t2, t4]) | (go_at_call 10; refine (valid_acc _ hE).mono ?_; rintro e w' ⟨rfl, hE⟩; simp only [hv]) | (go_at_call 9; refine (awake_acc hE).mono ?_; rintro e w' ⟨rfl, hE⟩))
            go_ret
            exact ⟨rfl, hE⟩
          | true =>
            cases hy : less b.toList z.toList with
            | false =>
              clear t5
              go_wp2_with (first | (go_at_call 23; refine (less_acc _ _ hE).mono ?_; rintro e w' ⟨rfl, hE⟩; simp only [t3, hx, hy]) | (go_at_call 21; refine (under_acc _ _ hE).mono ?_; rintro e w' ⟨rfl, hE⟩; simp only [t1, t2, t4]) | (go_at_call 10; refine (valid_acc _ hE).mono ?_; rintro e w' ⟨rfl, hE⟩; simp only [hv]) | (go_at_call 9; refine (awake_acc hE).mono ?_; rintro e w' ⟨rfl, hE⟩))
              go_ret
              exact ⟨rfl, hE⟩
            | true =>
              have hu := t5 hv hx hy
              clear t5
              go_wp2_with (first | (go_at_call 23; refine (less_acc _ _ hE).mono ?_; rintro e w' ⟨rfl, hE⟩; simp only [t3, hx, hy]) | (go_at_call 21; refine (under_acc _ _ hE).mono ?_; rintro e w' ⟨rfl, hE⟩; simp only [t1, t2, t4, hu]) | (go_at_call 10; refine (valid_acc _ hE).mono ?_; rintro e w' ⟨rfl, hE⟩; simp only [hv]) | (go_at_call 9; refine (awake_acc hE).mono ?_; rintro e w' ⟨rfl, hE⟩))
              go_ret
              exact ⟨rfl, hE⟩
end Go.Proofs.YtibhbobdofmafaaDoor
