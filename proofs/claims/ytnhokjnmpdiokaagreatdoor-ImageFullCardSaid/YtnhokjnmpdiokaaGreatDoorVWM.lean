/- The contracts of path's validByte, validPart, Valid, Parts. The contracts of path's Valid, Parts, Hidden, Join, cutLast, Parent, Name. The contracts of path's cutLast, Parent, Name. The contracts of path's alike, lessParts, Under, Less. The contracts of path's Under, Less. -/
import Derived.Test.YtnhokjnmpdiokaaGreatDoorVMM
namespace Go.Proofs.YtnhokjnmpdiokaaGreatDoor.V
open Go.RowKit Go.Pth

def okN (n : Nat) : Bool := (decide (97 ≤ n) && decide (n ≤ 122)) || (decide (48 ≤ n) && decide (n ≤ 57)) || n == 46 || n == 45 || n == 95
theorem retb {a b : Bool} (h : a = b) : Ending.returned (Value.bool a) = Ending.returned (Value.bool b) := by rw [h]

set_option maxHeartbeats 1000000 in
theorem validByte_n (n : Nat) (w : World) : Calls Tryz.prog 101 #[.int .u8 (n : Int)] w fun e w' => e = .returned (.bool (okN n)) ∧ w = w' := by
  go_enter Tryz.func101, Tryz.ntmps101
  go_wp2
  all_goals
    go_ret
    refine ⟨retb ?_, rfl⟩
    rw [Bool.eq_iff_iff]
    simp only [okN, Bool.or_eq_true, Bool.and_eq_true, decide_eq_true_eq, beq_iff_eq, true_iff]
    omega

theorem all_take (p : B) (k : Nat) (h : k < p.length) : (p.take (k + 1)).all okByte = ((p.take k).all okByte && okByte (p[k]?.getD 0)) := by
  rw [List.take_succ_eq_append_getElem h, List.all_append, List.getElem?_eq_getElem h]; simp
theorem all_not (p : B) (k : Nat) (h : k < p.length) (h2 : okByte (p[k]?.getD 0) = false) : p.all okByte = false := by
  rw [← Bool.not_eq_true, List.all_eq_true]
  intro ha
  have := ha p[k] (List.getElem_mem h)
  rw [List.getElem?_eq_getElem h] at h2
  simp only [Option.getD_some] at h2
  rw [h2] at this; cases this

def InvP (s : ByteArray) (i : Value) : Prop := ∃ k : Nat, k ≤ s.size ∧ i = .int .i64 k ∧ (s.toList.take k).all okByte = true
set_option maxHeartbeats 1000000 in
theorem validPart_any (s : ByteArray) (w : World) : Calls Tryz.prog 71 #[.string s] w fun e w' => e = .returned (.bool (okPart s.toList)) ∧ w = w' := by
  have hsz := Lib.hid (size_list s)
  by_cases h0 : s.size = 0
  · have c0 : ((s.size : Int) == 0) = true := by simp [h0]
    have r : okPart s.toList = false := by unfold okPart; rw [decide_eq_false (by rw [← hsz.out]; omega)]; rfl
    clear h0
    go_enter Tryz.func71, Tryz.ntmps71
    go_wp2
    go_ret
    exact ⟨retb r.symm, rfl⟩
  have c0 : ((s.size : Int) == 0) = false := by simpa using h0
  by_cases h1 : 20 < s.size
  · have c1 : decide ((20 : Int) < (s.size : Int)) = true := decide_eq_true (by omega)
    have r : okPart s.toList = false := by unfold okPart; rw [decide_eq_false (p := s.toList.length ≤ 20) (by rw [← hsz.out]; omega)]; simp
    clear h0 h1
    go_enter Tryz.func71, Tryz.ntmps71
    go_wp2
    go_ret
    exact ⟨retb r.symm, rfl⟩
  have c1 : decide ((20 : Int) < (s.size : Int)) = false := decide_eq_false (by omega)
  cases c2 : s.toList == [46] with
  | true =>
    have r : okPart s.toList = false := by unfold okPart; rw [c2]; simp
    clear h0 h1
    go_enter Tryz.func71, Tryz.ntmps71
    go_wp2
    go_ret
    exact ⟨retb r.symm, rfl⟩
  | false =>
    cases c3 : s.toList == [46, 46] with
    | true =>
      have r : okPart s.toList = false := by unfold okPart; rw [c3]; simp
      clear h0 h1
      go_enter Tryz.func71, Tryz.ntmps71
      go_wp2
      go_ret
      exact ⟨retb r.symm, rfl⟩
    | false =>
      have R : Hid (okPart s.toList = s.toList.all okByte) := Lib.hid (by
        unfold okPart; rw [c2, c3, decide_eq_true (by rw [← hsz.out]; omega), decide_eq_true (p := s.toList.length ≤ 20) (by rw [← hsz.out]; omega)]; rfl)
      have hb : s.size ≤ 20 := by omega
      clear h0 h1
      go_enter Tryz.func71, Tryz.ntmps71
      go_wp2
      go_loop [22] (fun i => InvP s i) (fun i => s.size - (intOf i).toNat)
      case atStart => exact ⟨0, by omega, rfl, rfl⟩
      case round =>
        obtain ⟨k, hk, rfl, hall⟩ := hrel
        have Hall := Lib.hid hall; clear hall
        by_cases hlt : k < s.size
        · have i0 : (0 : Int) ≤ (k : Int) := by omega
          have i1 : (k : Int) < (s.size : Int) := by omega
          have Hg := Lib.hid (tx_get s k hlt)
          go_wp2_with fail
          refine (validByte_n _ w).mono ?_
          rintro e w' ⟨rfl, rfl⟩
          have hl : k < s.toList.length := by rw [← hsz.out]; exact hlt
          have st := all_take s.toList k hl
          rw [Hall.out, Hg.out] at st
          have St := Lib.hid st; clear st
          have Hn := Lib.hid (all_not s.toList k hl)
          rw [Hg.out] at Hn
          cases ho : okN (s[k]).toNat with
          | false =>
            clear St hl
            go_wp2
            go_ret
            exact ⟨retb (by rw [R.out]; exact (Hn.out ho).symm), rfl⟩
          | true =>
            clear hl
            go_wp2
            refine ⟨⟨k + 1, by omega, rfl, ?_⟩, by simp [intOf]; omega⟩
            rw [St.out]; exact ho
        · obtain rfl : k = s.size := by omega
          clear hlt
          go_wp2
          go_ret
          refine ⟨retb ?_, rfl⟩
          rw [R.out, ← Hall.out, hsz.out, List.take_length]
end Go.Proofs.YtnhokjnmpdiokaaGreatDoor.V

namespace Go.Proofs.YtnhokjnmpdiokaaGreatDoor.V
open Go.RowKit Go.Pth

theorem allp_take (p : List B) (k : Nat) (h : k < p.length) : (p.take (k + 1)).all okPart = ((p.take k).all okPart && okPart (p[k]?.getD [])) := by
  rw [List.take_succ_eq_append_getElem h, List.all_append, List.getElem?_eq_getElem h]; simp
theorem allp_not (p : List B) (k : Nat) (h : k < p.length) (h2 : okPart (p[k]?.getD []) = false) : p.all okPart = false := by
  rw [← Bool.not_eq_true, List.all_eq_true]
  intro ha
  have := ha p[k] (List.getElem_mem h)
  rw [List.getElem?_eq_getElem h] at h2
  simp only [Option.getD_some] at h2
  rw [h2] at this; cases this

theorem cut_len (l : B) : (cut l).length ≤ l.length + 1 := by
  induction l with
  | nil => simp [cut]
  | cons c r ih =>
    by_cases hc : c = 47
    · subst hc; rw [cut_slash]; simp; exact ih
    · rw [cut_other c r hc]
      obtain ⟨h, t, e⟩ := cut_cons r
      rw [e] at ih ⊢
      simp at ih ⊢; omega

def InvV (l : List B) (n : Nat) (i : Value) : Prop := ∃ k : Nat, k ≤ n ∧ i = .int .i64 k ∧ (l.take k).all okPart = true
set_option maxHeartbeats 1000000 in
theorem valid_any (s : ByteArray) (w : World) : Calls Tryz.prog 47 #[.string s] w fun e w' => e = .returned (.bool (valid s.toList)) ∧ Ext w w' := by
  have hsz := Lib.hid (size_list s)
  by_cases h0 : 60 < s.size
  · have c0 : decide ((60 : Int) < (s.size : Int)) = true := decide_eq_true (by omega)
    have r : valid s.toList = false := by unfold valid; rw [decide_eq_false (by rw [← hsz.out]; omega)]; rfl
    clear h0
    go_enter Tryz.func47, Tryz.ntmps47
    go_wp2
    go_ret
    exact ⟨retb r.symm, Ext.refl w⟩
  · have c0 : decide ((60 : Int) < (s.size : Int)) = false := decide_eq_false (by omega)
    have R : Hid (valid s.toList = (cut s.toList).all okPart) := Lib.hid (by unfold valid; rw [decide_eq_true (by rw [← hsz.out]; omega)]; rfl)
    have hn := cut_len s.toList
    rw [← hsz.out] at hn
    have E := Ext.alloc w (.cells (strs (cut s.toList)) 9)
    obtain ⟨n, hN⟩ : ∃ n, n = (cut s.toList).length := ⟨_, rfl⟩
    have HN := Lib.hid hN
    rw [← hN] at hn
    have hn61 : n ≤ 61 := by omega
    have sp := split_slash s (by omega) w
    rw [← hN] at sp
    have SP := Lib.hid sp
    have hc : ∀ j, j < n → (w.alloc (.cells (strs (cut s.toList)) 9)).cell? ⟨w.heap.size, j, none⟩ = some (.string (tx ((cut s.toList)[j]?.getD []))) := fun j hj => by
      have : (w.alloc (.cells (strs (cut s.toList)) 9)).heap[w.heap.size]? = some (.cells (strs (cut s.toList)) 9 (0, 0)) := heap_alloc_last w _
      simp only [World.cell?, this]
      exact strs_get _ j (by rw [← hN]; exact hj)
    have HC := Lib.hid hc
    have EE := Lib.hid E
    clear hN sp hc E h0
    go_enter Tryz.func47, Tryz.ntmps47
    go_wp2_with fail
    refine (SP.out).mono ?_
    rintro e w1 ⟨rfl, rfl⟩
    generalize w.alloc (.cells (strs (cut s.toList)) 9) = w1 at *
    generalize w.heap.size = g at *
    clear SP
    go_wp2
    go_loop [11] (fun i => InvV (cut s.toList) n i) (fun i => n - (intOf i).toNat)
    case atStart => exact ⟨0, by omega, rfl, rfl⟩
    case round =>
      obtain ⟨k, hk, rfl, hall⟩ := hrel
      have Hall := Lib.hid hall; clear hall
      by_cases hlt : k < n
      · have i0 : (0 : Int) ≤ (k : Int) := by omega
        have i1 : (k : Int) < (n : Int) := by omega
        have cl := HC.out k hlt
        go_wp2_with fail
        refine (validPart_any _ w1).mono ?_
        rintro e w' ⟨rfl, rfl⟩
        have hl : k < (cut s.toList).length := by rw [← HN.out]; exact hlt
        have st := allp_take (cut s.toList) k hl
        rw [Hall.out] at st
        have St := Lib.hid st; clear st
        have Hn := Lib.hid (allp_not (cut s.toList) k hl)
        rw [tx_list]
        clear cl hl
        cases ho : okPart ((cut s.toList)[k]?.getD []) with
        | false =>
          clear St
          go_wp2
          go_ret
          exact ⟨retb (by rw [R.out]; exact (Hn.out ho).symm), EE.out⟩
        | true =>
          go_wp2
          refine ⟨⟨k + 1, by omega, rfl, ?_⟩, by simp [intOf]; omega⟩
          rw [St.out]; exact ho
      · obtain rfl : k = n := by omega
        clear hlt
        go_wp2
        go_ret
        refine ⟨retb ?_, EE.out⟩
        rw [R.out, ← Hall.out, HN.out, List.take_length]

set_option maxHeartbeats 1000000 in
theorem parts_any (s : ByteArray) (w : World) : Calls Tryz.prog 50 #[.string s] w fun e w' => ∃ v, e = .returned v ∧ Txt w' v (parts s.toList) ∧ Ext w w' := by
  have hsz := Lib.hid (size_list s)
  go_enter Tryz.func50, Tryz.ntmps50
  go_wp2_with fail
  refine (valid_any s w).mono ?_
  rintro e w1 ⟨rfl, e1⟩
  cases hv : valid s.toList with
  | false =>
    have r : parts s.toList = [] := by unfold parts; rw [hv]; rfl
    have R := Lib.hid r; clear r
    go_wp2
    go_ret
    exact ⟨_, rfl, by rw [R.out]; exact Txt.nil _, e1⟩
  | true =>
    have r : parts s.toList = cut s.toList := by unfold parts; rw [hv]; rfl
    have R := Lib.hid r; clear r
    have hl := valid_len hv
    rw [← hsz.out] at hl
    go_wp2_with fail
    refine (split_slash s (by omega) w1).mono ?_
    rintro e w2 ⟨rfl, rfl⟩
    go_wp2
    go_ret
    exact ⟨_, rfl, by rw [R.out]; exact Txt.new _ _, e1.trans (Ext.alloc _ _)⟩

end Go.Proofs.YtnhokjnmpdiokaaGreatDoor.V

namespace Go.Proofs.YtnhokjnmpdiokaaGreatDoor.V
open Go.RowKit Go.Pth

theorem bang_list (s : ByteArray) (j : Nat) (h : j < s.size) : s.toList[j]? = some (s.data[j]!) := by
  rw [tx_get s j h, getElem!_pos s.data j (by simpa using h)]; rfl
theorem byte_eq (c : UInt8) (h : (c.toNat : Int) = 47) : c = 47 := UInt8.toNat_inj.1 (by simp; omega)
theorem last_cases (s : ByteArray) : (Lib.lastIndexByte s 47 = -1 ∧ (47 : UInt8) ∉ s.toList) ∨
    (∃ i : Nat, i < s.size ∧ Lib.lastIndexByte s 47 = i ∧ s.toList = s.toList.take i ++ 47 :: s.toList.drop (i + 1) ∧ (47 : UInt8) ∉ s.toList.drop (i + 1)) := by
  have hsz := size_list s
  rcases Lib.lastIndexByte_spec s 47 with ⟨h, hn⟩ | ⟨i, hi, h, h1, h2⟩
  · refine Or.inl ⟨h, fun hm => ?_⟩
    obtain ⟨j, hj⟩ := List.mem_iff_getElem?.1 hm
    have hl : j < s.size := by rw [hsz]; exact (List.getElem?_eq_some_iff.1 hj).1
    rw [bang_list s j hl] at hj
    injection hj with hj
    exact hn j hl (by rw [hj]; rfl)
  · refine Or.inr ⟨i, hi, h, ?_, fun hm => ?_⟩
    · have e := bang_list s i hi
      rw [byte_eq _ h1] at e
      have hl : i < s.toList.length := by rw [← hsz]; exact hi
      rw [List.getElem?_eq_getElem hl] at e
      injection e with e
      rw [← e, ← List.drop_eq_getElem_cons hl, List.take_append_drop]
    · obtain ⟨j, hj⟩ := List.mem_iff_getElem?.1 hm
      rw [List.getElem?_drop] at hj
      have hl : i + 1 + j < s.size := by rw [hsz]; exact (List.getElem?_eq_some_iff.1 hj).1
      rw [bang_list s _ hl] at hj
      injection hj with hj
      exact h2 (i + 1 + j) (by omega) hl (by rw [hj]; rfl)
theorem last_names (l : B) (i : Nat) (hv : valid l = true) (e : l = l.take i ++ 47 :: l.drop (i + 1)) (hb : (47 : UInt8) ∉ l.drop (i + 1)) : parent l = l.take i ∧ name l = l.drop (i + 1) := by
  have hv' : valid (l.take i ++ 47 :: l.drop (i + 1)) = true := by rw [← e]; exact hv
  have h := parent_app hv' hb
  rw [← e] at h
  exact h

set_option maxHeartbeats 1000000 in
theorem cutLast_any (s : ByteArray) (w : World) : Calls Tryz.prog 161 #[.string s] w fun e w' => e = .returned (.tuple #[.string (tx (parent s.toList)), .string (tx (name s.toList))]) ∧ Ext w w' := by
  have hsz := Lib.hid (size_list s)
  go_enter Tryz.func161, Tryz.ntmps161
  go_wp2_with fail
  refine (valid_any s w).mono ?_
  rintro e w1 ⟨rfl, e1⟩
  cases hv : valid s.toList with
  | false =>
    have R := Lib.hid (show parent s.toList = [] ∧ name s.toList = [] by unfold parent name; rw [hv]; exact ⟨rfl, rfl⟩)
    go_wp2
    go_ret2
    exact ⟨by rw [R.out.1, R.out.2]; rfl, e1⟩
  | true =>
    have hl := valid_len hv
    rw [← hsz.out] at hl
    go_wp2_with fail
    refine (lastIndex_slash s (by omega) w1).mono ?_
    rintro e w2 ⟨rfl, rfl⟩
    rcases last_cases s with ⟨h, hn⟩ | ⟨i, hi, h, he, hb⟩
    · have R := Lib.hid (parent_one hv hn)
      rw [h]
      clear h hn
      go_wp2_with fail
      go_region
      go_wp2
      go_ret2
      refine ⟨?_, e1.trans (Ext.drew _)⟩
      rw [R.out.1, R.out.2, list_tx]
      have : s.extract 0 (max (-1 : Int) 0).toNat = tx [] := by
        rw [show (max (-1 : Int) 0).toNat = 0 from rfl, ← list_tx (s.extract 0 0), tx_cut]; simp
      rw [this]; rfl
    · have R := Lib.hid (last_names s.toList i hv he hb)
      rw [h]
      clear h he hb
      have m0 : max (i : Int) 0 = (i : Int) := by omega
      have j0 : (0 : Int) ≤ (i : Int) := by omega
      have j1 : (i : Int) ≤ (s.size : Int) := by omega
      have j2 : (0 : Int) ≤ (i : Int) + 1 := by omega
      have j3 : (i : Int) + 1 ≤ (s.size : Int) := by omega
      go_wp2_with fail
      go_region
      go_wp2
      go_ret2
      refine ⟨?_, e1.trans (Ext.drew _)⟩
      rw [R.out.1, R.out.2]
      have x1 : s.extract 0 i = tx (List.take i s.toList) := by rw [← list_tx (s.extract 0 i), tx_cut]; simp
      have x2 : s.extract (i + 1) s.size = tx (List.drop (i + 1) s.toList) := by
        rw [← list_tx (s.extract (i + 1) s.size), tx_cut, List.take_of_length_le (by rw [List.length_drop, ← hsz.out]; omega)]
      rw [x1, x2]; rfl
set_option maxHeartbeats 1000000 in
theorem parent_any (s : ByteArray) (w : World) : Calls Tryz.prog 151 #[.string s] w fun e w' => e = .returned (.string (tx (parent s.toList))) ∧ Ext w w' := by
  go_enter Tryz.func151, Tryz.ntmps151
  go_wp2_with fail
  refine (cutLast_any s w).mono ?_
  rintro e w1 ⟨rfl, e1⟩
  go_wp2
  go_ret
  exact ⟨rfl, e1⟩
end Go.Proofs.YtnhokjnmpdiokaaGreatDoor.V

namespace Go.Proofs.YtnhokjnmpdiokaaGreatDoor.V
open Go.RowKit Go.Pth

theorem reti {a b : Int} (h : a = b) : Ending.returned (Value.int .i64 a) = Ending.returned (Value.int .i64 b) := by rw [h]
theorem tx_beq (a b : B) : ((tx a).toList == (tx b).toList) = (a == b) := by rw [tx_list, tx_list]
def InvK (x y : List B) (n i : Value) : Prop := ∃ k : Nat, k ≤ com x y ∧ n = .int .i64 k ∧ i = .int .i64 k
set_option maxHeartbeats 1000000 in
theorem alike_any (va vb : Value) (x y : List B) (w : World) (hx : Txt w va x) (hy : Txt w vb y) (lx : x.length ≤ 100) (ly : y.length ≤ 100) :
    Calls Tryz.prog 72 #[va, vb] w fun e w' => e = .returned (.int .i64 (com x y)) ∧ w = w' := by
  obtain ⟨ada, capa, ba, rfl, xa, xc⟩ := hx
  obtain ⟨adb, capb, bb, rfl, ya, yc⟩ := hy
  obtain ⟨L, hL⟩ : ∃ L, L = x.length := ⟨_, rfl⟩
  obtain ⟨M, hM⟩ : ∃ M, M = y.length := ⟨_, rfl⟩
  have cle := com_le x y
  rw [← hL] at xa xc lx cle ⊢
  rw [← hM] at ya yc ly cle ⊢
  obtain ⟨cl, cr⟩ := cle
  have XA := Lib.hid xa; have XC := Lib.hid xc; have YA := Lib.hid ya; have YC := Lib.hid yc; have HL := Lib.hid hL; have HM := Lib.hid hM
  clear xa xc ya yc hL hM
  go_enter Tryz.func72, Tryz.ntmps72
  go_wp2
  go_step3
  go_wp2
  go_step3
  go_wp2
  go_loop [5, 10] (fun n i => InvK x y n i) (fun _ i => L - (intOf i).toNat)
  case atStart => exact ⟨0, by omega, rfl, rfl⟩
  case round =>
    obtain ⟨k, hk, rfl, rfl⟩ := hrel
    have Hk := Lib.hid hk
    have S := Lib.hid (com_step x y k hk)
    have kl : k ≤ L := by omega
    have kr : k ≤ M := by omega
    clear hk cl cr
    by_cases hlt : k < L
    · have i0 : (0 : Int) ≤ (k : Int) := by omega
      have i1 : (k : Int) < (L : Int) := by omega
      have e1 := XA.out (by omega)
      subst e1
      have c1 := XC.out k hlt
      by_cases hm : k < M
      · have i2 : (k : Int) < (M : Int) := by omega
        have e2 := YA.out (by omega)
        subst e2
        have c2 := YC.out k hm
        have q := tx_beq (x[k]?.getD []) (y[k]?.getD [])
        have gx : x[k]? = some (x[k]?.getD []) := by rw [List.getElem?_eq_getElem (by rw [← HL.out]; exact hlt)]; rfl
        have gy : y[k]? = some (y[k]?.getD []) := by rw [List.getElem?_eq_getElem (by rw [← HM.out]; exact hm)]; rfl
        have GX := Lib.hid gx; have GY := Lib.hid gy
        clear gx gy
        cases hq : (x[k]?.getD []) == (y[k]?.getD []) with
        | true =>
          have hc : k < com x y := S.out.2 ⟨_, GX.out, by rw [eq_of_beq hq]; exact GY.out⟩
          have HC := Lib.hid hc
          rw [hq] at q
          clear hc hq
          go_wp2
          exact ⟨⟨k + 1, HC.out, rfl, rfl⟩, by simp [intOf]; omega⟩
        | false =>
          have hc : com x y = k := by
            have : ¬ k < com x y := fun h => by
              obtain ⟨a, h1, h2⟩ := S.out.1 h
              rw [h1, h2] at hq
              simp at hq
            have := Hk.out
            omega
          have HC := Lib.hid hc
          rw [hq] at q
          clear hc hq
          go_wp2
          go_ret
          exact ⟨reti (by rw [HC.out]), rfl⟩
      · have d2 : decide (k < M) = false := decide_eq_false (by omega)
        have hc : com x y = k := by
          have := (com_le x y).2
          rw [← HM.out] at this
          have := Hk.out
          omega
        have HC := Lib.hid hc
        clear hc hm
        go_wp2
        go_ret
        exact ⟨reti (by rw [HC.out]), rfl⟩
    · obtain rfl : k = L := by omega
      have hc : com x y = k := by
        have := (com_le x y).1
        rw [← HL.out] at this
        have := Hk.out
        omega
      have HC := Lib.hid hc
      clear hc hlt kl
      go_wp2
      go_ret
      exact ⟨reti (by rw [HC.out]), rfl⟩

theorem ltP_at (x y : List B) (n : Nat) (hn : n = com x y) (h1 : n ≠ y.length) (h2 : n ≠ x.length) : ltP x y = ltB (x[n]?.getD []) (y[n]?.getD []) := by
  subst hn
  unfold ltP
  rw [lex_com, if_neg h1, if_neg h2]
  have := com_le x y
  rw [List.getElem?_eq_getElem (by omega), List.getElem?_eq_getElem (by omega)]
  rfl
theorem ltP_end (x y : List B) (n : Nat) (hn : n = com x y) : (n = y.length → ltP x y = false) ∧ (n ≠ y.length → n = x.length → ltP x y = true) := by
  subst hn
  unfold ltP
  exact ⟨fun h => by rw [lex_com, if_pos h], fun h h2 => by rw [lex_com, if_neg h, if_pos h2]⟩
theorem tx_less (a b : B) : Op.bytesLess (tx a).toList (tx b).toList = ltB a b := by rw [tx_list, tx_list, bytesLess_ltB]
set_option maxHeartbeats 1000000 in
theorem lessParts_any (va vb : Value) (x y : List B) (w : World) (hx : Txt w va x) (hy : Txt w vb y) (lx : x.length ≤ 100) (ly : y.length ≤ 100) :
    Calls Tryz.prog 49 #[va, vb] w fun e w' => e = .returned (.bool (ltP x y)) ∧ Ext w w' := by
  have al := Lib.hid (alike_any va vb x y w hx hy lx ly)
  obtain ⟨ada, capa, ba, rfl, xa, xc⟩ := hx
  obtain ⟨adb, capb, bb, rfl, ya, yc⟩ := hy
  have cle := com_le x y
  obtain ⟨N, hN⟩ : ∃ N, N = com x y := ⟨_, rfl⟩
  have R0 := Lib.hid (ltP_at x y N hN)
  have R1 := Lib.hid (ltP_end x y N hN)
  rw [← hN] at al cle
  obtain ⟨L, hL⟩ : ∃ L, L = x.length := ⟨_, rfl⟩
  obtain ⟨M, hM⟩ : ∃ M, M = y.length := ⟨_, rfl⟩
  rw [← hL] at xa xc lx cle R0 R1 al ⊢
  rw [← hM] at ya yc ly cle R0 R1 al ⊢
  obtain ⟨cl, cr⟩ := cle
  have XA := Lib.hid xa; have XC := Lib.hid xc; have YA := Lib.hid ya; have YC := Lib.hid yc
  clear xa xc ya yc hL hM hN
  go_enter Tryz.func49, Tryz.ntmps49
  go_wp2_with fail
  refine (al.out).mono ?_
  rintro e w1 ⟨rfl, rfl⟩
  by_cases h1 : N = M
  · have r : ltP x y = false := R1.out.1 h1
    have R := Lib.hid r
    clear r R0 R1 al
    subst h1
    go_wp2
    go_ret
    exact ⟨retb R.out.symm, Ext.refl _⟩
  · by_cases h2 : N = L
    · have r : ltP x y = true := R1.out.2 h1 h2
      have R := Lib.hid r
      clear r R0 R1 al
      subst h2
      have d1 : (N == M) = false := by simpa using h1
      have d2 : ((N : Int) == (M : Int)) = false := by simp; omega
      clear h1
      go_wp2
      go_ret
      exact ⟨retb R.out.symm, Ext.refl _⟩
    · have R := Lib.hid (R0.out h1 h2)
      have n1 : N < L := by omega
      have n2 : N < M := by omega
      have e1 := XA.out (by omega)
      subst e1
      have e2 := YA.out (by omega)
      subst e2
      have c1 := XC.out N n1
      have c2 := YC.out N n2
      have q := tx_less (x[N]?.getD []) (y[N]?.getD [])
      have d1 : (N == M) = false := by simpa using h1
      have d2 : ((N : Int) == (M : Int)) = false := by simp; omega
      have d3 : (N == L) = false := by simpa using h2
      have d4 : ((N : Int) == (L : Int)) = false := by simp; omega
      have i0 : (0 : Int) ≤ (N : Int) := by omega
      have i1 : (N : Int) < (L : Int) := by omega
      have i2 : (N : Int) < (M : Int) := by omega
      clear h1 h2 R0 R1 al cl cr
      go_wp2_with fail
      go_quiet (fail)
      go_wp2
      go_ret
      refine ⟨retb ?_, ?_⟩
      · exact R.out.symm
      · first | exact Ext.refl _ | exact Ext.drew _ | exact Ext.drewN _ _
end Go.Proofs.YtnhokjnmpdiokaaGreatDoor.V

namespace Go.Proofs.YtnhokjnmpdiokaaGreatDoor.V
open Go.RowKit Go.Pth

theorem parts_len (l : B) : (parts l).length ≤ 61 := by
  unfold parts
  split
  · rename_i h
    have h1 := valid_len h
    have h2 := cut_len l
    omega
  · simp
set_option maxHeartbeats 1000000 in
theorem under_any (s d : ByteArray) (w : World) : Calls Tryz.prog 139 #[.string s, .string d] w fun e w' => e = .returned (.bool (under s.toList d.toList)) ∧ Ext w w' := by
  cases hc : d.toList == [] with
  | true =>
    have R := Lib.hid (show under s.toList d.toList = valid s.toList by rw [eq_of_beq hc]; exact under_root _)
    go_enter Tryz.func139, Tryz.ntmps139
    go_wp2_with fail
    refine (valid_any s w).mono ?_
    rintro e w1 ⟨rfl, e1⟩
    go_wp2
    go_ret
    exact ⟨retb R.out.symm, e1⟩
  | false =>
    have hd : d.toList ≠ [] := by simpa using hc
    have R := Lib.hid (under_parts s.toList d.toList hd)
    clear hd
    go_enter Tryz.func139, Tryz.ntmps139
    go_wp2_with fail
    refine (parts_any s w).mono ?_
    rintro e w1 ⟨va, rfl, ta, e1⟩
    have TA := Lib.hid ta; clear ta
    go_wp2_with fail
    refine (parts_any d w1).mono ?_
    rintro e w2 ⟨vb, rfl, tb, e2⟩
    have TB := Lib.hid tb; clear tb
    have TA2 := Lib.hid (TA.out.ext e2)
    have al := Lib.hid (alike_any va vb _ _ w2 TA2.out TB.out (Nat.le_trans (parts_len _) (by omega)) (Nat.le_trans (parts_len _) (by omega)))
    have l1 := parts_len s.toList
    have l2 := parts_len d.toList
    clear TA
    obtain ⟨ada, capa, ba, ea, _⟩ := TA2.out
    obtain ⟨adb, capb, bb, eb, _⟩ := TB.out
    subst ea eb
    generalize parts s.toList = x at *
    generalize parts d.toList = y at *
    clear TA2 TB
    obtain ⟨L, hL⟩ : ∃ L, L = x.length := ⟨_, rfl⟩
    obtain ⟨M, hM⟩ : ∃ M, M = y.length := ⟨_, rfl⟩
    rw [← hL] at R al l1 ⊢
    rw [← hM] at R al l2 ⊢
    clear hL hM
    by_cases h0 : 0 < M
    · have r0 : decide (0 < M) = true := decide_eq_true h0
      by_cases h1 : M < L
      · have r1 : decide (M < L) = true := decide_eq_true h1
        rw [r0, r1] at R
        have t0 : (0 : Int) < (M : Int) := by omega
        have t1 : (M : Int) < (L : Int) := by omega
        go_wp2_with fail
        refine (al.out).mono ?_
        rintro e w3 ⟨rfl, rfl⟩
        generalize com x y = N at *
        clear al
        go_wp2
        go_ret
        refine ⟨retb ?_, e1.trans e2⟩
        rw [R.out, Bool.eq_iff_iff]
        simp
        try omega
      · have r1 : decide (M < L) = false := decide_eq_false h1
        have t0 : (0 : Int) < (M : Int) := by omega
        have r : under s.toList d.toList = false := by rw [R.out, r1]; simp
        have RR := Lib.hid r
        clear R r al
        have t1 : decide ((M : Int) < (L : Int)) = false := decide_eq_false (by omega)
        clear h1
        go_wp2
        go_ret
        exact ⟨retb RR.out.symm, e1.trans e2⟩
    · obtain rfl : M = 0 := by omega
      have r : under s.toList d.toList = false := by rw [R.out]; simp
      have RR := Lib.hid r
      clear R r al h0
      go_wp2
      go_ret
      exact ⟨retb RR.out.symm, e1.trans e2⟩
set_option maxHeartbeats 1000000 in
theorem less_any (a b : ByteArray) (w : World) : Calls Tryz.prog 31 #[.string a, .string b] w fun e w' => e = .returned (.bool (less a.toList b.toList)) ∧ Ext w w' := by
  go_enter Tryz.func31, Tryz.ntmps31
  go_wp2_with fail
  refine (valid_any a w).mono ?_
  rintro e w1 ⟨rfl, e1⟩
  go_wp2_with fail
  refine (valid_any b w1).mono ?_
  rintro e w2 ⟨rfl, e2⟩
  have ra : valid a.toList = true → parts a.toList = cut a.toList := fun h => by unfold parts; rw [h]; rfl
  have rb : valid b.toList = true → parts b.toList = cut b.toList := fun h => by unfold parts; rw [h]; rfl
  have RA := Lib.hid ra; have RB := Lib.hid rb
  have R := Lib.hid (show less a.toList b.toList = if valid a.toList != valid b.toList then valid a.toList else if valid a.toList then ltP (cut a.toList) (cut b.toList) else ltB a.toList b.toList from rfl)
  have q := bytesLess_ltB a.toList b.toList
  clear ra rb
  cases ha : valid a.toList with
  | false =>
    rw [ha] at R RA
    cases hb : valid b.toList with
    | false =>
      rw [hb] at R RB
      go_wp2
      go_ret
      exact ⟨retb R.out.symm, e1.trans e2⟩
    | true =>
      rw [hb] at R RB
      go_wp2
      go_ret
      exact ⟨retb R.out.symm, e1.trans e2⟩
  | true =>
    rw [ha] at R RA
    cases hb : valid b.toList with
    | false =>
      rw [hb] at R RB
      go_wp2
      go_ret
      exact ⟨retb R.out.symm, e1.trans e2⟩
    | true =>
      rw [hb] at R RB
      go_wp2_with fail
      refine (parts_any a w2).mono ?_
      rintro e w3 ⟨va, rfl, ta, e3⟩
      have TA := Lib.hid ta; clear ta
      go_wp2_with fail
      refine (parts_any b w3).mono ?_
      rintro e w4 ⟨vb, rfl, tb, e4⟩
      have TB := Lib.hid tb; clear tb
      have TA2 := Lib.hid (TA.out.ext e4)
      go_wp2_with fail
      refine (lessParts_any va vb _ _ w4 TA2.out TB.out (Nat.le_trans (parts_len _) (by omega)) (Nat.le_trans (parts_len _) (by omega))).mono ?_
      rintro e w5 ⟨rfl, e5⟩
      go_wp2
      go_ret
      refine ⟨retb ?_, (((e1.trans e2).trans e3).trans e4).trans e5⟩
      rw [RA.out trivial, RB.out trivial]; exact R.out.symm
end Go.Proofs.YtnhokjnmpdiokaaGreatDoor.V
