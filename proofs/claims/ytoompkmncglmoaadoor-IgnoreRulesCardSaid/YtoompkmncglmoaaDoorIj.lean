/- The contract of Lines. -/
import Derived.Test.YtoompkmncglmoaaDoorIi
import Derived.Test.YtoompkmncglmoaaDoorRa
namespace Go.Proofs.YtoompkmncglmoaaDoor
open Go.RowKit Go.Pth

def InvL (w : World) (rs : List RL) (n : Nat) (v i : Value) (wr : World) : Prop :=
  ∃ (k : Nat) (done : List B), k ≤ n ∧ i = .int .i64 k ∧ done = (rs.take k).map RL.line ∧ Own wr w.heap.size v done ∧ Ext w wr
set_option maxRecDepth 100000 in
set_option maxHeartbeats 4000000 in
theorem lines_any (v : Value) (rs : List RL) (w : World) (h : Rul w v rs) (hl : rs.length ≤ 1000) :
    Calls Tryd.prog 17 #[v] w fun e w' => ∃ y, e = .returned y ∧ Txt w' y (rs.map RL.line) ∧ Ext w w' := by
  obtain ⟨rb, ad, cap, b, rfl, x1, x2, x3⟩ := h
  obtain ⟨n, hn⟩ : ∃ n, n = rs.length := ⟨_, rfl⟩
  have HN := Lib.hid hn
  rw [← hn] at x1 x2 hl
  have HX2 := Lib.hid x2; have HX3 := Lib.hid x3
  clear hn x2 x3
  go_enter Tryd.func17, Tryd.ntmps17
  go_wp2_with fail
  clear x1
  go_loopw [3, 13] (fun y i wr => InvL w rs n y i wr) (fun _ i _ => n - (intOf i).toNat)
  case atStart => exact ⟨0, [], by omega, rfl, rfl, Own.nil _ _, Ext.refl w⟩
  case round =>
    obtain ⟨k, done, hk, rfl, hd, ow, he⟩ := hrel
    have HD := Lib.hid hd
    have HE := Lib.hid he
    clear hd
    by_cases hlt : k < n
    · have i0 : (0 : Int) ≤ (k : Int) := by omega
      have i1 : (k : Int) < (n : Int) := by omega
      have ead := HX2.out (by omega)
      subst ead
      have hkk : k < rs.length := by rw [← HN.out]; omega
      obtain ⟨r, hr⟩ : ∃ r, r = rs[k] := ⟨_, rfl⟩
      have hr' : rs[k]? = some r := by rw [List.getElem?_eq_getElem hkk, hr]
      have c0 := he.cell (HX3.out k r hr' 0 _ rfl)
      have c1 := he.cell (HX3.out k r hr' 1 _ rfl)
      have c2 := he.cell (HX3.out k r hr' 2 _ rfl)
      have c3 := he.cell (HX3.out k r hr' 3 _ rfl)
      have c4 := he.cell (HX3.out k r hr' 4 _ rfl)
      rw [Nat.add_zero] at c0
      have HT : Hid ((rs.take (k + 1)).map RL.line = done ++ [r.line]) := Lib.hid (by rw [HD.out, List.take_succ_eq_append_getElem hkk, List.map_append, hr]; rfl)
      have hdl : done.length ≤ 1000 := by rw [HD.out, List.length_map, List.length_take]; omega
      obtain ⟨ad2, cap2, rfl⟩ := own_len ow
      have e2 : Ext wr ((wr.alloc (.cells #[.string (tx r.line), .string (tx r.pat), .bool r.nt, .bool r.dr, .bool r.wh] 55)).alloc (.cells #[.string (tx r.line)] 9)) := (Ext.alloc wr _).trans (Ext.alloc _ _)
      have O1 := Lib.hid (ow.ext e2)
      have HB := Lib.hid (Nat.le_trans he.size e2.size)
      have E2 := Lib.hid (he.trans e2)
      have HDL := Lib.hid hdl
      have CN := Lib.hid (show ((wr.alloc (.cells #[.string (tx r.line), .string (tx r.pat), .bool r.nt, .bool r.dr, .bool r.wh] 55)).alloc (.cells #[.string (tx r.line)] 9)).cell? ⟨wr.heap.size + 1, 0, none⟩ = some (.string (tx r.line)) by
        have := cell_new (wr.alloc (.cells #[.string (tx r.line), .string (tx r.pat), .bool r.nt, .bool r.dr, .bool r.wh] 55)) (.string (tx r.line))
        rwa [size_alloc] at this)
      obtain ⟨M, hM⟩ : ∃ M, M = done.length := ⟨_, rfl⟩
      rw [← hM] at O1 ⊢
      have HM := Lib.hid hM; clear hM
      clear he hr hr' hkk hdl ow e2
      go_wp2_with (refine list_append_txt rfl (.tmp 17) (.tmp 20) 24 rfl Tryd.underlying24 strzero w.heap.size (.slice ad2 M cap2) done rfl O1.out (wr.heap.size + 1) 1 (tx r.line) rfl CN.out HDL.out HB.out ?_; intro vx w4 ox b4)
      rw [tx_list] at ox
      exact ⟨⟨k + 1, _, by omega, by first | rfl | go_num, HT.out.symm, ox, Below.trans E2.out b4⟩, by simp [intOf]; omega⟩
    · obtain rfl : k = n := by omega
      have hz : done = rs.map RL.line := by rw [HD.out, HN.out, List.take_length]
      have FT := ow.txt
      rw [hz] at FT
      have FIN := Lib.hid FT
      clear FT ow he hz hlt
      go_wp2_with fail
      go_ret
      exact ⟨_, rfl, FIN.out, HE.out⟩
set_option maxHeartbeats 1000000 in
theorem lines_nil (w : World) : Calls Tryd.prog 17 #[.pointer none] w fun e w' => e = .returned (.slice none 0 0) ∧ Ext w w' := by
  go_enter Tryd.func17, Tryd.ntmps17
  go_wp2_with fail
  go_ret
  exact ⟨rfl, Ext.refl w⟩
end Go.Proofs.YtoompkmncglmoaaDoor
