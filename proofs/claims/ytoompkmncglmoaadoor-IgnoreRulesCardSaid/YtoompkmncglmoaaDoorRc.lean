/- The contract of the document's own Parent. -/
import Derived.Test.YtoompkmncglmoaaDoorRb
namespace Go.Proofs.YtoompkmncglmoaaDoor
open Go.RowKit Go.Pth


def InvRpa (s : ByteArray) (i : Value) : Prop := ∃ k : Nat, k ≤ s.size ∧ i = .int .i64 ((k : Int) - 1) ∧ (47 : UInt8) ∉ s.toList.drop k
set_option maxHeartbeats 1000000 in
theorem rparent_any (s : ByteArray) (w : World) : Calls Tryd.prog 20 #[.string s] w fun e w' => e = .returned (.string (tx (parent s.toList))) ∧ Ext w w' := by
  have hsz := Lib.hid (size_list s)
  go_enter Tryd.func20, Tryd.ntmps20
  go_wp2_with fail
  refine (rvalid_any s w).mono ?_
  rintro e w1 ⟨rfl, e1⟩
  cases hv : valid s.toList with
  | false =>
    have R := Lib.hid (show parent s.toList = [] by unfold parent; rw [hv]; rfl)
    go_wp2
    go_ret
    exact ⟨rets (by rw [R.out]; rfl), e1⟩
  | true =>
    have hl := valid_len hv
    rw [← hsz.out] at hl
    have HV := Lib.hid hv
    go_wp2
    go_loop [3] (fun i => InvRpa s i) (fun i => (intOf i + 1).toNat)
    case atStart => exact ⟨s.size, by omega, by first | rfl | go_num, by rw [hsz.out, List.drop_length]; simp⟩
    case round =>
      obtain ⟨k, hk, rfl, hn⟩ := hrel
      have Hn := Lib.hid hn; clear hn
      by_cases h0 : 0 < k
      · have t0 : (0 : Int) ≤ (k : Int) - 1 := by omega
        have t1 : (k : Int) - 1 < (s.size : Int) := by omega
        have t2 : ((k : Int) - 1).toNat = k - 1 := by omega
        have t3 : (k : Int) - 1 ≤ (s.size : Int) := by omega
        have hlt : k - 1 < s.size := by omega
        have G := Lib.hid (tx_get s (k - 1) hlt)
        have DR := Lib.hid (show s.toList.drop (k - 1) = s[k - 1] :: s.toList.drop k by
          have hl2 : k - 1 < s.toList.length := by rw [← hsz.out]; exact hlt
          have g := G.out
          rw [List.getElem?_eq_getElem hl2] at g
          injection g with g
          rw [List.drop_eq_getElem_cons hl2, g, show k - 1 + 1 = k by omega])
        cases q : ((s[k - 1].toNat : Int) == 47) with
        | true =>
          have Q := Lib.hid (byte_eq _ (beq_iff_eq.1 q))
          go_wp2
          go_ret
          refine ⟨rets ?_, e1⟩
          have d := DR.out
          rw [Q.out] at d
          have e : s.toList = s.toList.take (k - 1) ++ 47 :: s.toList.drop (k - 1 + 1) := by
            rw [show k - 1 + 1 = k by omega, ← d, List.take_append_drop]
          have nm := last_names s.toList (k - 1) HV.out e (by rw [show k - 1 + 1 = k by omega]; exact Hn.out)
          rw [nm.1, ← list_tx (s.extract 0 (k - 1)), tx_cut]; simp
        | false =>
          have Q := Lib.hid q
          go_wp2
          refine ⟨⟨k - 1, by omega, by first | rfl | (congr 1; omega) | go_num, ?_⟩, by simp [intOf]; omega⟩
          rw [DR.out]
          intro hm
          rcases List.mem_cons.1 hm with hm | hm
          · have hq := Q.out
            rw [← hm] at hq
            exact absurd hq (by decide)
          · exact Hn.out hm
      · obtain rfl : k = 0 := by omega
        clear h0
        go_wp2
        go_ret
        refine ⟨rets ?_, e1⟩
        have hn := Hn.out
        rw [List.drop_zero] at hn
        rw [(parent_one HV.out hn).1]; rfl


end Go.Proofs.YtoompkmncglmoaaDoor
