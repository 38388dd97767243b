/- The contract of the document's own parts. The contract of the document's own Valid. The contract of the document's own Parent. The contracts of the document's own Under and Less. -/
import Derived.Test.YtnhokjnmpdiokaaGreatDoorVWM
import Derived.Deep.CutRange
namespace Go.Proofs.YtnhokjnmpdiokaaGreatDoor.V
open Go.RowKit Go.Pth

theorem strzero : (Tryz.prog.info? 9).map (fun i => (i.zero, i.size, i.bytes)) = some (some (.string ByteArray.empty), 1, 16) := by kernel_rfl
theorem own_len {w : World} {base : Nat} {v : Value} {l : List B} (h : Own w base v l) : ∃ ad cap, v = .slice ad l.length cap := by
  obtain ⟨_, ⟨rfl, h0⟩ | ⟨g, cap, cur, rfl, _⟩⟩ := h
  · exact ⟨none, 0, by rw [h0]⟩
  · exact ⟨_, cap, rfl⟩
theorem cell_new (w : World) (x : Value) : (w.alloc (.cells #[x] 9)).cell? ⟨w.heap.size, 0, none⟩ = some x := by
  have : (w.alloc (.cells #[x] 9)).heap[w.heap.size]? = some (.cells #[x] 9 (0, 0)) := heap_alloc_last w _
  simp only [World.cell?, this]; rfl

/-- What was cut so far. -/
structure Cuts (L : B) (k f : Nat) (done : List B) : Prop where
  le : f ≤ k
  kl : k ≤ L.length
  all : cut L = done ++ cut (L.drop f)
  none : (47 : UInt8) ∉ (L.drop f).take (k - f)
  few : done.length ≤ k
theorem Cuts.start (L : B) : Cuts L 0 0 [] := ⟨by omega, by omega, rfl, by simp, by simp⟩
theorem Cuts.last {L : B} {f : Nat} {done : List B} (h : Cuts L L.length f done) : cut L = done ++ [(L.drop f).take (L.length - f)] := by
  have hn := h.none
  rw [List.take_of_length_le (by rw [List.length_drop]; omega)] at hn ⊢
  rw [h.all, cut_one _ hn]
theorem Cuts.at {L : B} {k f : Nat} {done : List B} (h : Cuts L k f done) (hk : L[k]? = some 47) : Cuts L (k + 1) (k + 1) (done ++ [(L.drop f).take (k - f)]) := by
  have hkl : k < L.length := (List.getElem?_eq_some_iff.1 hk).1
  have e : L.drop f = (L.drop f).take (k - f) ++ 47 :: L.drop (k + 1) := by
    have h1 : (L.drop f).drop (k - f) = 47 :: L.drop (k + 1) := by
      rw [List.drop_drop, show f + (k - f) = k by have := h.le; omega, List.drop_eq_getElem_cons hkl]
      rw [List.getElem?_eq_getElem hkl] at hk
      injection hk with hk
      rw [hk]
    rw [← h1, List.take_append_drop]
  refine ⟨by omega, by omega, ?_, by simp, by simp; have := h.few; omega⟩
  have hc : cut (L.drop f) = cut ((L.drop f).take (k - f)) ++ cut (L.drop (k + 1)) := by
    have := cut_app ((L.drop f).take (k - f)) (L.drop (k + 1))
    rw [← e] at this
    exact this
  rw [h.all, hc, cut_one _ h.none, List.append_assoc]
theorem Cuts.on {L : B} {k f : Nat} {done : List B} (h : Cuts L k f done) (c : UInt8) (hk : L[k]? = some c) (hc : c ≠ 47) : Cuts L (k + 1) f done := by
  have hkl : k < L.length := (List.getElem?_eq_some_iff.1 hk).1
  have hle := h.le
  refine ⟨by omega, by omega, h.all, ?_, by have := h.few; omega⟩
  rw [show k + 1 - f = (k - f) + 1 by omega, List.take_add_one, List.getElem?_drop, show f + (k - f) = k by omega, hk]
  intro hm
  rcases List.mem_append.1 hm with hm | hm
  · exact h.none hm
  · simp at hm; exact hc hm.symm

def InvT (s : ByteArray) (w : World) (v f i : Value) (wr : World) : Prop :=
  ∃ (k g : Nat) (done : List B), i = .int .i64 k ∧ f = .int .i64 g ∧ Own wr w.heap.size v done ∧ Below w.heap.size w wr ∧ k ≤ s.size + 1 ∧ g ≤ s.size + 1 ∧
    (k ≤ s.size → Cuts s.toList k g done) ∧ (k = s.size + 1 → done = cut s.toList)

set_option maxHeartbeats 2000000 in
theorem rparts_any (s : ByteArray) (hs : s.size ≤ 60) (w : World) : Calls Tryz.prog 46 #[.string s] w fun e w' => ∃ v, e = .returned v ∧ Txt w' v (cut s.toList) ∧ Ext w w' := by
  have hsz := Lib.hid (size_list s)
  go_enter Tryz.func46, Tryz.ntmps46
  go_wp2
  go_loopw [3, 4, 5] (fun v f i wr => InvT s w v f i wr) (fun _ _ i _ => s.size + 1 - (intOf i).toNat)
  case atStart => exact ⟨0, 0, [], rfl, rfl, Own.nil _ _, Below.refl _ _, by omega, by omega, fun _ => Cuts.start _, fun h => by omega⟩
  case round =>
    obtain ⟨k, g, done, rfl, rfl, ow, be, hk, hg, hc, hd⟩ := hrel
    have Hd := Lib.hid hd; clear hd
    by_cases hlt : k ≤ s.size
    · have C := Lib.hid (hc hlt)
      have hgk : g ≤ k := C.out.le
      have hfew : done.length ≤ 1000 := by have := C.out.few; omega
      have t1 : (k : Int) ≤ (s.size : Int) := by omega
      obtain ⟨ad, cap, rfl⟩ := own_len ow
      have j0 : (0 : Int) ≤ (g : Int) := by omega
      have j1 : (g : Int) ≤ (k : Int) := by omega
      have sg : (s.extract g k).toList = (s.toList.drop g).take (k - g) := tx_cut s g k
      have SG := Lib.hid sg
      have O1 := Lib.hid (ow.ext (Ext.alloc wr (.cells #[.string (s.extract g k)] 9)))
      have CN := Lib.hid (cell_new wr (.string (s.extract g k)))
      have hB : w.heap.size ≤ (wr.alloc (.cells #[.string (s.extract g k)] 9)).heap.size := by have := be.size; simp; omega
      have HB := Lib.hid hB
      have BE := Lib.hid (be.alloc be.size (.cells #[.string (s.extract g k)] 9))
      have BE0 := Lib.hid be
      have OW := Lib.hid ow
      have HF := Lib.hid hfew
      clear hc sg hB be ow hfew
      obtain ⟨M, hM⟩ : ∃ M, M = done.length := ⟨_, rfl⟩
      rw [← hM] at O1 OW ⊢
      have HM := Lib.hid hM; clear hM
      by_cases he : k = s.size
      · have t2 : (k == s.size) = true := by simpa using he
        have t3 : ((k : Int) == (s.size : Int)) = true := by simp; omega
        have HE := Lib.hid he
        clear he Hd
        go_wp2_with (refine list_append_txt rfl (.tmp 22) (.tmp 27) 35 rfl Tryz.underlying35 strzero w.heap.size (.slice ad M cap) done rfl O1.out wr.heap.size 1 (s.extract g k) rfl CN.out HF.out HB.out ?_; intro vx w4 ox b4)
        refine ⟨⟨k + 1, k + 1, _, by first | rfl | go_num, by first | rfl | go_num, ox, BE.out.trans b4, by omega, by omega, fun h => by have := HE.out; omega, fun _ => ?_⟩, by simp [intOf]; omega⟩
        have q := C.out
        rw [HE.out, hsz.out] at q
        rw [SG.out, HE.out, hsz.out]
        exact q.last.symm
      · have hl : k < s.size := by omega
        have t2 : (k == s.size) = false := by simpa using he
        have t3 : ((k : Int) == (s.size : Int)) = false := by simp; omega
        have t4 : (k : Int) < (s.size : Int) := by omega
        have t5 : (0 : Int) ≤ (k : Int) := by omega
        have G := Lib.hid (tx_get s k hl)
        clear he Hd
        cases q : ((s[k].toNat : Int) == 47) with
        | true =>
          have Q := Lib.hid q
          go_wp2_with (refine list_append_txt rfl (.tmp 22) (.tmp 27) 35 rfl Tryz.underlying35 strzero w.heap.size (.slice ad M cap) done rfl O1.out wr.heap.size 1 (s.extract g k) rfl CN.out HF.out HB.out ?_; intro vx w4 ox b4)
          refine ⟨⟨k + 1, k + 1, _, by first | rfl | go_num, by first | rfl | go_num, ox, BE.out.trans b4, by omega, by omega, fun _ => ?_, fun h => by omega⟩, by simp [intOf]; omega⟩
          rw [SG.out]
          refine C.out.at ?_
          rw [G.out]
          have hq := Q.out
          rw [beq_iff_eq] at hq
          exact congrArg some (byte_eq _ hq)
        | false =>
          have Q := Lib.hid q
          go_wp2
          refine ⟨⟨k + 1, g, done, by first | rfl | go_num, rfl, OW.out, BE0.out, by omega, by omega, fun _ => ?_, fun h => by omega⟩, by simp [intOf]; omega⟩
          refine C.out.on _ G.out fun e => ?_
          have hq := Q.out
          rw [e] at hq
          exact absurd hq (by decide)
    · obtain rfl : k = s.size + 1 := by omega
      have t1 : decide (((s.size + 1 : Nat) : Int) ≤ (s.size : Int)) = false := decide_eq_false (by omega)
      have t2 : decide ((s.size : Int) + 1 ≤ (s.size : Int)) = false := decide_eq_false (by omega)
      have T := Lib.hid ow.txt
      rw [Hd.out rfl] at T
      have BE := Lib.hid be
      clear hc hlt ow be Hd
      go_wp2
      go_ret
      exact ⟨_, rfl, T.out, BE.out⟩
end Go.Proofs.YtnhokjnmpdiokaaGreatDoor.V

namespace Go.Proofs.YtnhokjnmpdiokaaGreatDoor.V
open Go.RowKit Go.Pth

set_option maxHeartbeats 4000000 in
theorem rvalid_any (s : ByteArray) (w : World) : Calls Tryz.prog 27 #[.string s] w fun e w' => e = .returned (.bool (valid s.toList)) ∧ Ext w w' := by
  have hsz := Lib.hid (size_list s)
  by_cases h0 : s.size < 1
  · have c0 : decide ((s.size : Int) < 1) = true := decide_eq_true (by omega)
    have r : valid s.toList = false := by
      have : s.toList = [] := List.length_eq_zero_iff.1 (by rw [← hsz.out]; omega)
      rw [this]; exact valid_nil
    have R := Lib.hid r
    clear h0 r
    go_enter Tryz.func27, Tryz.ntmps27
    go_wp2
    go_ret
    exact ⟨retb R.out.symm, Ext.refl w⟩
  have c0 : decide ((s.size : Int) < 1) = false := decide_eq_false (by omega)
  by_cases h1 : 60 < s.size
  · have c1 : decide ((60 : Int) < (s.size : Int)) = true := decide_eq_true (by omega)
    have R := Lib.hid (show valid s.toList = false by unfold valid; rw [decide_eq_false (by rw [← hsz.out]; omega)]; rfl)
    clear h0 h1
    go_enter Tryz.func27, Tryz.ntmps27
    go_wp2
    go_ret
    exact ⟨retb R.out.symm, Ext.refl w⟩
  have c1 : decide ((60 : Int) < (s.size : Int)) = false := decide_eq_false (by omega)
  have R := Lib.hid (show valid s.toList = (cut s.toList).all okPart by unfold valid; rw [decide_eq_true (by rw [← hsz.out]; omega)]; rfl)
  have hn := cut_len s.toList
  rw [← hsz.out] at hn
  have hs60 : s.size ≤ 60 := by omega
  clear h0 h1
  go_enter Tryz.func27, Tryz.ntmps27
  go_wp2_with fail
  refine (rparts_any s hs60 w).mono ?_
  rintro e w1 ⟨v, rfl, tv, e1⟩
  obtain ⟨ad, cap, b, rfl, x2, x3⟩ := tv
  generalize cut s.toList = c at *
  obtain ⟨n, hN⟩ : ∃ n, n = c.length := ⟨_, rfl⟩
  rw [← hN] at hn x2 x3 ⊢
  have HN := Lib.hid hN
  have X2 := Lib.hid x2; have X3 := Lib.hid x3
  have n61 : n ≤ 61 := by omega
  have EE := Lib.hid e1
  clear hN x2 x3 hn e1 c0 c1
  go_wp2
  go_loop [4] (fun i => InvV c n i) (fun i => n - (intOf i).toNat)
  case atStart => exact ⟨0, by omega, rfl, rfl⟩
  case round =>
    obtain ⟨k, hk, rfl, hall⟩ := hrel
    have Hall := Lib.hid hall; clear hall
    by_cases hlt : k < n
    · have i0 : (0 : Int) ≤ (k : Int) := by omega
      have i1 : (k : Int) < (n : Int) := by omega
      have e2 := X2.out (by omega)
      subst e2
      have cl := X3.out k hlt
      have hl : k < c.length := by rw [← HN.out]; exact hlt
      have st := allp_take c k hl
      rw [Hall.out] at st
      have St := Lib.hid st; clear st
      have Hn := Lib.hid (allp_not c k hl)
      have TL := tx_list (c[k]?.getD [])
      have TS := Lib.hid (size_list (tx (c[k]?.getD [])))
      generalize hp : tx (c[k]?.getD []) = p at *
      rw [← TL] at St Hn
      clear hl hp TL Hall
      by_cases h0 : p.size < 1
      · have d0 : decide ((p.size : Int) < 1) = true := decide_eq_true (by omega)
        have ok : okPart p.toList = false := by unfold okPart; rw [decide_eq_false (by rw [← TS.out]; omega)]; rfl
        have RR := Lib.hid (Hn.out ok)
        clear h0 ok St Hn
        go_wp2
        go_ret
        exact ⟨retb (by rw [R.out, RR.out]), EE.out⟩
      have d0 : decide ((p.size : Int) < 1) = false := decide_eq_false (by omega)
      by_cases h1 : 20 < p.size
      · have d1 : decide ((20 : Int) < (p.size : Int)) = true := decide_eq_true (by omega)
        have ok : okPart p.toList = false := by unfold okPart; rw [decide_eq_false (p := p.toList.length ≤ 20) (by rw [← TS.out]; omega)]; simp
        have RR := Lib.hid (Hn.out ok)
        clear h0 h1 ok St Hn
        go_wp2
        go_ret
        exact ⟨retb (by rw [R.out, RR.out]), EE.out⟩
      have d1 : decide ((20 : Int) < (p.size : Int)) = false := decide_eq_false (by omega)
      cases d2 : p.toList == [46] with
      | true =>
        have ok : okPart p.toList = false := by unfold okPart; rw [d2]; simp
        have RR := Lib.hid (Hn.out ok)
        clear h0 h1 ok St Hn
        go_wp2
        go_ret
        exact ⟨retb (by rw [R.out, RR.out]), EE.out⟩
      | false =>
        cases d3 : p.toList == [46, 46] with
        | true =>
          have ok : okPart p.toList = false := by unfold okPart; rw [d3]; simp
          have RR := Lib.hid (Hn.out ok)
          clear h0 h1 ok St Hn
          go_wp2
          go_ret
          exact ⟨retb (by rw [R.out, RR.out]), EE.out⟩
        | false =>
          have OK := Lib.hid (show okPart p.toList = p.toList.all okByte by
            unfold okPart; rw [d2, d3, decide_eq_true (by rw [← TS.out]; omega), decide_eq_true (p := p.toList.length ≤ 20) (by rw [← TS.out]; omega)]; rfl)
          have hb : p.size ≤ 20 := by omega
          clear h0 h1
          go_wp2
          go_loop [6] (fun i => InvP p i) (fun i => p.size - (intOf i).toNat)
          case atStart => exact ⟨0, by omega, rfl, rfl⟩
          case round =>
            obtain ⟨m, hm, rfl, hma⟩ := hrel
            have Hma := Lib.hid hma; clear hma
            by_cases hml : m < p.size
            · have j0 : (0 : Int) ≤ (m : Int) := by omega
              have j1 : (m : Int) < (p.size : Int) := by omega
              have Hg := Lib.hid (tx_get p m hml)
              have hl : m < p.toList.length := by rw [← TS.out]; exact hml
              have st2 := all_take p.toList m hl
              rw [Hma.out, Hg.out] at st2
              have St2 := Lib.hid st2; clear st2
              have Hn2 := Lib.hid (all_not p.toList m hl)
              rw [Hg.out] at Hn2
              clear hl
              go_upto_region 14 with fail
              go_cut [78] from 44 to 78 (fun s78 wx => s78 = .bool (!okN (p[m]).toNat) ∧ w1 = wx)
              case first =>
                clear St2 Hn2 Hg St Hn X3 cl
                by_cases h46 : (p[m]).toNat = 46
                · have e46 : (((p[m]).toNat : Int) == 46) = true := by simp; omega
                  have f46 : (((p[m]).toNat : Int) != 46) = false := by simp; omega
                  have r := Lib.hid (show okN (p[m]).toNat = true by rw [h46]; rfl)
                  have a1 : decide (((p[m]).toNat : Int) < 97) = true := decide_eq_true (by omega)
                  have a2 : decide (((p[m]).toNat : Int) < 48) = true := decide_eq_true (by omega)
                  clear h46
                  go_wp2
                  go_meet
                  exact ⟨by rw [r.out]; rfl, rfl⟩
                · have e46 : (((p[m]).toNat : Int) == 46) = false := by simp; omega
                  have f46 : (((p[m]).toNat : Int) != 46) = true := by simp; omega
                  by_cases h45 : (p[m]).toNat = 45
                  · have e45 : (((p[m]).toNat : Int) == 45) = true := by simp; omega
                    have f45 : (((p[m]).toNat : Int) != 45) = false := by simp; omega
                    have r := Lib.hid (show okN (p[m]).toNat = true by rw [h45]; rfl)
                    have a1 : decide (((p[m]).toNat : Int) < 97) = true := decide_eq_true (by omega)
                    have a2 : decide (((p[m]).toNat : Int) < 48) = true := decide_eq_true (by omega)
                    clear h46 h45
                    go_wp2
                    go_meet
                    exact ⟨by rw [r.out]; rfl, rfl⟩
                  · have e45 : (((p[m]).toNat : Int) == 45) = false := by simp; omega
                    have f45 : (((p[m]).toNat : Int) != 45) = true := by simp; omega
                    have r := Lib.hid (show okN (p[m]).toNat = ((decide (97 ≤ (p[m]).toNat) && decide ((p[m]).toNat ≤ 122)) || (decide (48 ≤ (p[m]).toNat) && decide ((p[m]).toNat ≤ 57)) || (p[m]).toNat == 95) by
                      unfold okN
                      have x1 : ((p[m]).toNat == 46) = false := by simpa using h46
                      have x2 : ((p[m]).toNat == 45) = false := by simpa using h45
                      rw [x1, x2]; simp)
                    clear h46 h45
                    go_wp2
                    all_goals
                      go_meet
                      refine ⟨congrArg Value.bool ?_, rfl⟩
                      rw [r.out, Bool.eq_iff_iff]
                      simp only [Bool.or_eq_true, Bool.and_eq_true, Bool.not_eq_true', Bool.or_eq_false_iff, Bool.and_eq_false_iff, decide_eq_true_eq, decide_eq_false_iff_not, beq_eq_false_iff_ne, bne_iff_ne, ne_eq, false_iff, Bool.false_eq_true]
                      omega
              case rest =>
                obtain ⟨rfl, rfl⟩ := hcut
                cases ho : okN (p[m]).toNat with
                | false =>
                  have RR := Lib.hid (Hn.out (by rw [OK.out]; exact Hn2.out ho))
                  clear St2 Hn2 Hn St
                  go_wp2
                  go_ret
                  exact ⟨retb (by rw [R.out, RR.out]), EE.out⟩
                | true =>
                  go_wp2
                  refine ⟨⟨m + 1, by omega, rfl, ?_⟩, by simp [intOf]; omega⟩
                  rw [St2.out]; exact ho
            · obtain rfl : m = p.size := by omega
              clear hml
              have hfull : okPart p.toList = true := by rw [OK.out, ← Hma.out, TS.out, List.take_length]
              have HF := Lib.hid hfull
              clear hfull
              go_wp2
              refine ⟨⟨k + 1, by omega, rfl, ?_⟩, by simp [intOf]; omega⟩
              rw [St.out, HF.out]; rfl
    · obtain rfl : k = n := by omega
      clear hlt
      go_wp2
      go_ret
      refine ⟨retb ?_, EE.out⟩
      rw [R.out, ← Hall.out, HN.out, List.take_length]
end Go.Proofs.YtnhokjnmpdiokaaGreatDoor.V

namespace Go.Proofs.YtnhokjnmpdiokaaGreatDoor.V
open Go.RowKit Go.Pth


end Go.Proofs.YtnhokjnmpdiokaaGreatDoor.V

set_option linter.unusedSimpArgs false
set_option linter.unusedVariables false
namespace Go.Proofs.YtnhokjnmpdiokaaGreatDoor.V
open Go.RowKit Go.Pth

def InvLx (x y : List B) (w : World) (i : Value) (wr : World) : Prop := ∃ k : Nat, k ≤ com x y ∧ i = .int .i64 k ∧ Ext w wr
theorem ltP_min (x y : List B) (k : Nat) (h : k ≤ com x y) (hk : k = x.length ∨ k = y.length) : ltP x y = decide (x.length < y.length) := by
  have hc := com_le x y
  have hn : com x y = k := by omega
  have he := ltP_end x y (com x y) rfl
  by_cases h1 : com x y = y.length
  · rw [he.1 h1]
    exact (decide_eq_false (by omega)).symm
  · rw [he.2 h1 (by omega)]
    exact (decide_eq_true (by omega)).symm
set_option maxHeartbeats 4000000 in
theorem rless_any (a b : ByteArray) (w : World) : Calls Tryz.prog 29 #[.string a, .string b] w fun e w' => e = .returned (.bool (less a.toList b.toList)) ∧ Ext w w' := by
  have hsa := Lib.hid (size_list a)
  have hsb := Lib.hid (size_list b)
  go_enter Tryz.func29, Tryz.ntmps29
  go_wp2_with fail
  refine (rvalid_any a w).mono ?_
  rintro e w1 ⟨rfl, e1⟩
  go_wp2_with fail
  refine (rvalid_any b w1).mono ?_
  rintro e w2 ⟨rfl, e2⟩
  have R := Lib.hid (show less a.toList b.toList = if valid a.toList != valid b.toList then valid a.toList else if valid a.toList then ltP (cut a.toList) (cut b.toList) else ltB a.toList b.toList from rfl)
  have q := bytesLess_ltB a.toList b.toList
  have E2 := Lib.hid (e1.trans e2)
  clear e1 e2
  cases ha : valid a.toList with
  | false =>
    rw [ha] at R
    cases hb : valid b.toList with
    | false =>
      rw [hb] at R
      go_wp2_with fail
      refine (rvalid_any a w2).mono ?_
      rintro e w3 ⟨rfl, e3⟩
      rw [ha]
      go_wp2
      go_ret
      exact ⟨retb R.out.symm, E2.out.trans e3⟩
    | true =>
      rw [hb] at R
      go_wp2_with fail
      refine (rvalid_any a w2).mono ?_
      rintro e w3 ⟨rfl, e3⟩
      rw [ha]
      go_wp2
      go_ret
      exact ⟨retb R.out.symm, E2.out.trans e3⟩
  | true =>
    rw [ha] at R
    have la := valid_len ha
    rw [← hsa.out] at la
    cases hb : valid b.toList with
    | false =>
      rw [hb] at R
      go_wp2_with fail
      refine (rvalid_any a w2).mono ?_
      rintro e w3 ⟨rfl, e3⟩
      rw [ha]
      go_wp2
      go_ret
      exact ⟨retb R.out.symm, E2.out.trans e3⟩
    | true =>
      rw [hb] at R
      have lb := valid_len hb
      rw [← hsb.out] at lb
      have RR := Lib.hid (show less a.toList b.toList = ltP (cut a.toList) (cut b.toList) from R.out)
      go_wp2_with fail
      refine (rvalid_any a w2).mono ?_
      rintro e w3 ⟨rfl, e3⟩
      rw [ha]
      go_wp2_with fail
      refine (rparts_any a la w3).mono ?_
      rintro e w4 ⟨va, rfl, ta, e4⟩
      have TA := Lib.hid ta; clear ta
      go_wp2_with fail
      refine (rparts_any b lb w4).mono ?_
      rintro e w5 ⟨vb, rfl, tb, e5⟩
      have TA2 := TA.out.ext e5
      have E5 := Lib.hid (((E2.out.trans e3).trans e4).trans e5)
      have l1 := cut_len a.toList
      have l2 := cut_len b.toList
      rw [← hsa.out] at l1
      rw [← hsb.out] at l2
      clear TA e3 e4 e5 E2 R
      obtain ⟨ada, capa, ba, rfl, xa, xc⟩ := TA2
      obtain ⟨adb, capb, bb, rfl, ya, yc⟩ := tb
      generalize cut a.toList = x at *
      generalize cut b.toList = y at *
      have PM := Lib.hid (ltP_min x y)
      have PA := Lib.hid (ltP_at x y)
      have CS := Lib.hid (com_step x y)
      have cle := Lib.hid (com_le x y)
      obtain ⟨L, hL⟩ : ∃ L, L = x.length := ⟨_, rfl⟩
      obtain ⟨M, hM⟩ : ∃ M, M = y.length := ⟨_, rfl⟩
      have HL := Lib.hid hL; have HM := Lib.hid hM
      rw [← hL] at xa xc l1 PM PA cle ⊢
      rw [← hM] at ya yc l2 PM PA cle ⊢
      have XA := Lib.hid xa; have XC := Lib.hid xc; have YA := Lib.hid ya; have YC := Lib.hid yc
      have l61 : L ≤ 61 := by omega
      have m61 : M ≤ 61 := by omega
      clear xa xc ya yc hL hM l1 l2 la lb q
      go_wp2
      go_loopw [7] (fun i wr => InvLx x y w5 i wr) (fun i _ => L - (intOf i).toNat)
      case atStart => exact ⟨0, by omega, rfl, Ext.refl _⟩
      case round =>
        obtain ⟨k, hk, rfl, he⟩ := hrel
        have Hk := Lib.hid hk
        have hkl : k ≤ L := by have := cle.out; omega
        have hkm : k ≤ M := by have := cle.out; omega
        have HE := Lib.hid he
        clear hk
        by_cases hlt : k < L
        · have t1 : (k : Int) < (L : Int) := by omega
          have i0 : (0 : Int) ≤ (k : Int) := by omega
          by_cases hmt : k < M
          · have t2 : (k : Int) < (M : Int) := by omega
            have e1 := XA.out (by omega)
            subst e1
            have e2 := YA.out (by omega)
            subst e2
            have c1 := he.cell (XC.out k hlt)
            have c2 := he.cell (YC.out k hmt)
            have gx : x[k]? = some (x[k]?.getD []) := by rw [List.getElem?_eq_getElem (by rw [← HL.out]; exact hlt)]; rfl
            have gy : y[k]? = some (y[k]?.getD []) := by rw [List.getElem?_eq_getElem (by rw [← HM.out]; exact hmt)]; rfl
            have GX := Lib.hid gx; have GY := Lib.hid gy
            have q := tx_beq (x[k]?.getD []) (y[k]?.getD [])
            have q2 := Lib.hid (tx_less (x[k]?.getD []) (y[k]?.getD []))
            clear gx gy he
            cases hq : (x[k]?.getD []) == (y[k]?.getD []) with
            | true =>
              have HC := Lib.hid ((CS.out k Hk.out).2 ⟨_, GX.out, by rw [eq_of_beq hq]; exact GY.out⟩)
              rw [hq] at q
              clear hq GX GY PA PM CS
              generalize tx (x[k]?.getD []) = zx at *
              generalize tx (y[k]?.getD []) = zy at *
              go_wp2_with fail
              go_quiet (fail)
              go_wp2
              refine ⟨⟨k + 1, HC.out, rfl, HE.out.trans ?_⟩, by simp [intOf]; omega⟩
              first | exact Ext.refl _ | exact Ext.drew _ | exact Ext.drewN _ _
            | false =>
              have hc : com x y = k := by
                have : ¬ k < com x y := fun h => by
                  obtain ⟨z, h1, h2⟩ := (CS.out k Hk.out).1 h
                  rw [h1, h2] at hq
                  simp at hq
                have := Hk.out
                omega
              have HR := Lib.hid (PA.out k hc.symm (by omega) (by omega))
              rw [hq] at q
              rw [← q2.out] at HR
              clear hq GX GY PA PM CS hc q2
              generalize tx (x[k]?.getD []) = zx at *
              generalize tx (y[k]?.getD []) = zy at *
              go_wp2_with fail
              go_quiet (fail)
              go_wp2_with fail
              go_quiet (fail)
              go_wp2
              go_ret
              refine ⟨retb ?_, (E5.out.trans HE.out).trans ?_⟩
              · rw [RR.out, HR.out]
              · first | exact Ext.refl _ | exact Ext.drew _ | exact Ext.drewN _ _ | exact (Ext.drewN _ _).trans (Ext.drewN _ _) | exact (Ext.drew _).trans (Ext.drew _)
          · have t2 : decide (k < M) = false := decide_eq_false hmt
            have t3 : decide ((k : Int) < (M : Int)) = false := decide_eq_false (by omega)
            have HR := Lib.hid (PM.out k Hk.out (Or.inr (by omega)))
            clear hmt PA PM CS
            go_wp2
            go_ret
            refine ⟨retb ?_, E5.out.trans he⟩
            rw [RR.out, HR.out]
        · have t2 : decide (k < L) = false := decide_eq_false hlt
          have t3 : decide ((k : Int) < (L : Int)) = false := decide_eq_false (by omega)
          have HR := Lib.hid (PM.out k Hk.out (Or.inl (by omega)))
          clear hlt PA PM CS
          go_wp2
          go_ret
          refine ⟨retb ?_, E5.out.trans he⟩
          rw [RR.out, HR.out]
end Go.Proofs.YtnhokjnmpdiokaaGreatDoor.V
