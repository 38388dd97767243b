/- The contract of the document's own parts. The contract of the document's own Valid. The contract of the document's own Parent. Contracts of the document's own store: New, act, find, above, stamp, where one name is made. -/
import Derived.Test.YtbneedmfpldpfaaGreatDoorWaM
import Derived.Deep.CutRange
import Derived.Test.YtbneedmfpldpfaaGreatDoorSfM
namespace Go.Proofs.YtbneedmfpldpfaaGreatDoor
open Go.RowKit Go.Pth

theorem strzero : (Tryz.prog.info? 9).map (fun i => (i.zero, i.size, i.bytes)) = some (some (.string ByteArray.empty), 1, 16) := by kernel_rfl
theorem own_len {w : World} {base : Nat} {v : Value} {l : List B} (h : Own w base v l) : ∃ ad cap, v = .slice ad l.length cap := by
  obtain ⟨_, ⟨rfl, h0⟩ | ⟨g, cap, cur, rfl, _⟩⟩ := h
  · exact ⟨none, 0, by rw [h0]⟩
  · exact ⟨_, cap, rfl⟩
theorem cell_new (w : World) (x : Value) : (w.alloc (.cells #[x] 9)).cell? ⟨w.heap.size, 0, none⟩ = some x := by
  have : (w.alloc (.cells #[x] 9)).heap[w.heap.size]? = some (.cells #[x] 9 (0, 0)) := heap_alloc_last w _
  simp only [World.cell?, this]; rfl

/-- What was cut so far. -/
structure Cuts (L : B) (k f : Nat) (done : List B) : Prop where
  le : f ≤ k
  kl : k ≤ L.length
  all : cut L = done ++ cut (L.drop f)
  none : (47 : UInt8) ∉ (L.drop f).take (k - f)
  few : done.length ≤ k
theorem Cuts.start (L : B) : Cuts L 0 0 [] := ⟨by omega, by omega, rfl, by simp, by simp⟩
theorem Cuts.last {L : B} {f : Nat} {done : List B} (h : Cuts L L.length f done) : cut L = done ++ [(L.drop f).take (L.length - f)] := by
  have hn := h.none
  rw [List.take_of_length_le (by rw [List.length_drop]; omega)] at hn ⊢
  rw [h.all, cut_one _ hn]
theorem Cuts.at {L : B} {k f : Nat} {done : List B} (h : Cuts L k f done) (hk : L[k]? = some 47) : Cuts L (k + 1) (k + 1) (done ++ [(L.drop f).take (k - f)]) := by
  have hkl : k < L.length := (List.getElem?_eq_some_iff.1 hk).1
  have e : L.drop f = (L.drop f).take (k - f) ++ 47 :: L.drop (k + 1) := by
    have h1 : (L.drop f).drop (k - f) = 47 :: L.drop (k + 1) := by
      rw [List.drop_drop, show f + (k - f) = k by have := h.le; omega, List.drop_eq_getElem_cons hkl]
      rw [List.getElem?_eq_getElem hkl] at hk
      injection hk with hk
      rw [hk]
    rw [← h1, List.take_append_drop]
  refine ⟨by omega, by omega, ?_, by simp, by simp; have := h.few; omega⟩
  have hc : cut (L.drop f) = cut ((L.drop f).take (k - f)) ++ cut (L.drop (k + 1)) := by
    have := cut_app ((L.drop f).take (k - f)) (L.drop (k + 1))
    rw [← e] at this
    exact this
  rw [h.all, hc, cut_one _ h.none, List.append_assoc]
theorem Cuts.on {L : B} {k f : Nat} {done : List B} (h : Cuts L k f done) (c : UInt8) (hk : L[k]? = some c) (hc : c ≠ 47) : Cuts L (k + 1) f done := by
  have hkl : k < L.length := (List.getElem?_eq_some_iff.1 hk).1
  have hle := h.le
  refine ⟨by omega, by omega, h.all, ?_, by have := h.few; omega⟩
  rw [show k + 1 - f = (k - f) + 1 by omega, List.take_add_one, List.getElem?_drop, show f + (k - f) = k by omega, hk]
  intro hm
  rcases List.mem_append.1 hm with hm | hm
  · exact h.none hm
  · simp at hm; exact hc hm.symm

def InvT (s : ByteArray) (w : World) (v f i : Value) (wr : World) : Prop :=
  ∃ (k g : Nat) (done : List B), i = .int .i64 k ∧ f = .int .i64 g ∧ Own wr w.heap.size v done ∧ Below w.heap.size w wr ∧ k ≤ s.size + 1 ∧ g ≤ s.size + 1 ∧
    (k ≤ s.size → Cuts s.toList k g done) ∧ (k = s.size + 1 → done = cut s.toList)

set_option maxHeartbeats 2000000 in
theorem rparts_any (s : ByteArray) (hs : s.size ≤ 60) (w : World) : Calls Tryz.prog 90 #[.string s] w fun e w' => ∃ v, e = .returned v ∧ Txt w' v (cut s.toList) ∧ Ext w w' := by
  have hsz := Lib.hid (size_list s)
  go_enter Tryz.func90, Tryz.ntmps90
  go_wp2
  go_loopw [3, 4, 5] (fun v f i wr => InvT s w v f i wr) (fun _ _ i _ => s.size + 1 - (intOf i).toNat)
  case atStart => exact ⟨0, 0, [], rfl, rfl, Own.nil _ _, Below.refl _ _, by omega, by omega, fun _ => Cuts.start _, fun h => by omega⟩
  case round =>
    obtain ⟨k, g, done, rfl, rfl, ow, be, hk, hg, hc, hd⟩ := hrel
    have Hd := Lib.hid hd; clear hd
    by_cases hlt : k ≤ s.size
    · have C := Lib.hid (hc hlt)
      have hgk : g ≤ k := C.out.le
      have hfew : done.length ≤ 1000 := by have := C.out.few; omega
      have t1 : (k : Int) ≤ (s.size : Int) := by omega
      obtain ⟨ad, cap, rfl⟩ := own_len ow
      have j0 : (0 : Int) ≤ (g : Int) := by omega
      have j1 : (g : Int) ≤ (k : Int) := by omega
      have sg : (s.extract g k).toList = (s.toList.drop g).take (k - g) := tx_cut s g k
      have SG := Lib.hid sg
      have O1 := Lib.hid (ow.ext (Ext.alloc wr (.cells #[.string (s.extract g k)] 9)))
      have CN := Lib.hid (cell_new wr (.string (s.extract g k)))
      have hB : w.heap.size ≤ (wr.alloc (.cells #[.string (s.extract g k)] 9)).heap.size := by have := be.size; simp; omega
      have HB := Lib.hid hB
      have BE := Lib.hid (be.alloc be.size (.cells #[.string (s.extract g k)] 9))
      have BE0 := Lib.hid be
      have OW := Lib.hid ow
      have HF := Lib.hid hfew
      clear hc sg hB be ow hfew
      obtain ⟨M, hM⟩ : ∃ M, M = done.length := ⟨_, rfl⟩
      rw [← hM] at O1 OW ⊢
      have HM := Lib.hid hM; clear hM
      by_cases he : k = s.size
      · have t2 : (k == s.size) = true := by simpa using he
        have t3 : ((k : Int) == (s.size : Int)) = true := by simp; omega
        have HE := Lib.hid he
        clear he Hd
        go_wp2_with (refine list_append_txt rfl (.tmp 22) (.tmp 27) 96 rfl Tryz.underlying96 strzero w.heap.size (.slice ad M cap) done rfl O1.out wr.heap.size 1 (s.extract g k) rfl CN.out HF.out HB.out ?_; intro vx w4 ox b4)
        refine ⟨⟨k + 1, k + 1, _, by first | rfl | go_num, by first | rfl | go_num, ox, BE.out.trans b4, by omega, by omega, fun h => by have := HE.out; omega, fun _ => ?_⟩, by simp [intOf]; omega⟩
        have q := C.out
        rw [HE.out, hsz.out] at q
        rw [SG.out, HE.out, hsz.out]
        exact q.last.symm
      · have hl : k < s.size := by omega
        have t2 : (k == s.size) = false := by simpa using he
        have t3 : ((k : Int) == (s.size : Int)) = false := by simp; omega
        have t4 : (k : Int) < (s.size : Int) := by omega
        have t5 : (0 : Int) ≤ (k : Int) := by omega
        have G := Lib.hid (tx_get s k hl)
        clear he Hd
        cases q : ((s[k].toNat : Int) == 47) with
        | true =>
          have Q := Lib.hid q
          go_wp2_with (refine list_append_txt rfl (.tmp 22) (.tmp 27) 96 rfl Tryz.underlying96 strzero w.heap.size (.slice ad M cap) done rfl O1.out wr.heap.size 1 (s.extract g k) rfl CN.out HF.out HB.out ?_; intro vx w4 ox b4)
          refine ⟨⟨k + 1, k + 1, _, by first | rfl | go_num, by first | rfl | go_num, ox, BE.out.trans b4, by omega, by omega, fun _ => ?_, fun h => by omega⟩, by simp [intOf]; omega⟩
          rw [SG.out]
          refine C.out.at ?_
          rw [G.out]
          have hq := Q.out
          rw [beq_iff_eq] at hq
          exact congrArg some (byte_eq _ hq)
        | false =>
          have Q := Lib.hid q
          go_wp2
          refine ⟨⟨k + 1, g, done, by first | rfl | go_num, rfl, OW.out, BE0.out, by omega, by omega, fun _ => ?_, fun h => by omega⟩, by simp [intOf]; omega⟩
          refine C.out.on _ G.out fun e => ?_
          have hq := Q.out
          rw [e] at hq
          exact absurd hq (by decide)
    · obtain rfl : k = s.size + 1 := by omega
      have t1 : decide (((s.size + 1 : Nat) : Int) ≤ (s.size : Int)) = false := decide_eq_false (by omega)
      have t2 : decide ((s.size : Int) + 1 ≤ (s.size : Int)) = false := decide_eq_false (by omega)
      have T := Lib.hid ow.txt
      rw [Hd.out rfl] at T
      have BE := Lib.hid be
      clear hc hlt ow be Hd
      go_wp2
      go_ret
      exact ⟨_, rfl, T.out, BE.out⟩
end Go.Proofs.YtbneedmfpldpfaaGreatDoor

namespace Go.Proofs.YtbneedmfpldpfaaGreatDoor
open Go.RowKit Go.Pth

set_option maxHeartbeats 4000000 in
theorem rvalid_any (s : ByteArray) (w : World) : Calls Tryz.prog 73 #[.string s] w fun e w' => e = .returned (.bool (valid s.toList)) ∧ Ext w w' := by
  have hsz := Lib.hid (size_list s)
  by_cases h0 : s.size < 1
  · have c0 : decide ((s.size : Int) < 1) = true := decide_eq_true (by omega)
    have r : valid s.toList = false := by
      have : s.toList = [] := List.length_eq_zero_iff.1 (by rw [← hsz.out]; omega)
      rw [this]; exact valid_nil
    have R := Lib.hid r
    clear h0 r
    go_enter Tryz.func73, Tryz.ntmps73
    go_wp2
    go_ret
    exact ⟨retb R.out.symm, Ext.refl w⟩
  have c0 : decide ((s.size : Int) < 1) = false := decide_eq_false (by omega)
  by_cases h1 : 60 < s.size
  · have c1 : decide ((60 : Int) < (s.size : Int)) = true := decide_eq_true (by omega)
    have R := Lib.hid (show valid s.toList = false by unfold valid; rw [decide_eq_false (by rw [← hsz.out]; omega)]; rfl)
    clear h0 h1
    go_enter Tryz.func73, Tryz.ntmps73
    go_wp2
    go_ret
    exact ⟨retb R.out.symm, Ext.refl w⟩
  have c1 : decide ((60 : Int) < (s.size : Int)) = false := decide_eq_false (by omega)
  have R := Lib.hid (show valid s.toList = (cut s.toList).all okPart by unfold valid; rw [decide_eq_true (by rw [← hsz.out]; omega)]; rfl)
  have hn := cut_len s.toList
  rw [← hsz.out] at hn
  have hs60 : s.size ≤ 60 := by omega
  clear h0 h1
  go_enter Tryz.func73, Tryz.ntmps73
  go_wp2_with fail
  refine (rparts_any s hs60 w).mono ?_
  rintro e w1 ⟨v, rfl, tv, e1⟩
  obtain ⟨ad, cap, b, rfl, x2, x3⟩ := tv
  generalize cut s.toList = c at *
  obtain ⟨n, hN⟩ : ∃ n, n = c.length := ⟨_, rfl⟩
  rw [← hN] at hn x2 x3 ⊢
  have HN := Lib.hid hN
  have X2 := Lib.hid x2; have X3 := Lib.hid x3
  have n61 : n ≤ 61 := by omega
  have EE := Lib.hid e1
  clear hN x2 x3 hn e1 c0 c1
  go_wp2
  go_loop [4] (fun i => InvV c n i) (fun i => n - (intOf i).toNat)
  case atStart => exact ⟨0, by omega, rfl, rfl⟩
  case round =>
    obtain ⟨k, hk, rfl, hall⟩ := hrel
    have Hall := Lib.hid hall; clear hall
    by_cases hlt : k < n
    · have i0 : (0 : Int) ≤ (k : Int) := by omega
      have i1 : (k : Int) < (n : Int) := by omega
      have e2 := X2.out (by omega)
      subst e2
      have cl := X3.out k hlt
      have hl : k < c.length := by rw [← HN.out]; exact hlt
      have st := allp_take c k hl
      rw [Hall.out] at st
      have St := Lib.hid st; clear st
      have Hn := Lib.hid (allp_not c k hl)
      have TL := tx_list (c[k]?.getD [])
      have TS := Lib.hid (size_list (tx (c[k]?.getD [])))
      generalize hp : tx (c[k]?.getD []) = p at *
      rw [← TL] at St Hn
      clear hl hp TL Hall
      by_cases h0 : p.size < 1
      · have d0 : decide ((p.size : Int) < 1) = true := decide_eq_true (by omega)
        have ok : okPart p.toList = false := by unfold okPart; rw [decide_eq_false (by rw [← TS.out]; omega)]; rfl
        have RR := Lib.hid (Hn.out ok)
        clear h0 ok St Hn
        go_wp2
        go_ret
        exact ⟨retb (by rw [R.out, RR.out]), EE.out⟩
      have d0 : decide ((p.size : Int) < 1) = false := decide_eq_false (by omega)
      by_cases h1 : 20 < p.size
      · have d1 : decide ((20 : Int) < (p.size : Int)) = true := decide_eq_true (by omega)
        have ok : okPart p.toList = false := by unfold okPart; rw [decide_eq_false (p := p.toList.length ≤ 20) (by rw [← TS.out]; omega)]; simp
        have RR := Lib.hid (Hn.out ok)
        clear h0 h1 ok St Hn
        go_wp2
        go_ret
        exact ⟨retb (by rw [R.out, RR.out]), EE.out⟩
      have d1 : decide ((20 : Int) < (p.size : Int)) = false := decide_eq_false (by omega)
      cases d2 : p.toList == [46] with
      | true =>
        have ok : okPart p.toList = false := by unfold okPart; rw [d2]; simp
        have RR := Lib.hid (Hn.out ok)
        clear h0 h1 ok St Hn
        go_wp2
        go_ret
        exact ⟨retb (by rw [R.out, RR.out]), EE.out⟩
      | false =>
        cases d3 : p.toList == [46, 46] with
        | true =>
          have ok : okPart p.toList = false := by unfold okPart; rw [d3]; simp
          have RR := Lib.hid (Hn.out ok)
          clear h0 h1 ok St Hn
          go_wp2
          go_ret
          exact ⟨retb (by rw [R.out, RR.out]), EE.out⟩
        | false =>
          have OK := Lib.hid (show okPart p.toList = p.toList.all okByte by
            unfold okPart; rw [d2, d3, decide_eq_true (by rw [← TS.out]; omega), decide_eq_true (p := p.toList.length ≤ 20) (by rw [← TS.out]; omega)]; rfl)
          have hb : p.size ≤ 20 := by omega
          clear h0 h1
          go_wp2
          go_loop [6] (fun i => InvP p i) (fun i => p.size - (intOf i).toNat)
          case atStart => exact ⟨0, by omega, rfl, rfl⟩
          case round =>
            obtain ⟨m, hm, rfl, hma⟩ := hrel
            have Hma := Lib.hid hma; clear hma
            by_cases hml : m < p.size
            · have j0 : (0 : Int) ≤ (m : Int) := by omega
              have j1 : (m : Int) < (p.size : Int) := by omega
              have Hg := Lib.hid (tx_get p m hml)
              have hl : m < p.toList.length := by rw [← TS.out]; exact hml
              have st2 := all_take p.toList m hl
              rw [Hma.out, Hg.out] at st2
              have St2 := Lib.hid st2; clear st2
              have Hn2 := Lib.hid (all_not p.toList m hl)
              rw [Hg.out] at Hn2
              clear hl
              go_upto_region 14 with fail
              go_cut [78] from 44 to 78 (fun s78 wx => s78 = .bool (!okN (p[m]).toNat) ∧ w1 = wx)
              case first =>
                clear St2 Hn2 Hg St Hn X3 cl
                by_cases h46 : (p[m]).toNat = 46
                · have e46 : (((p[m]).toNat : Int) == 46) = true := by simp; omega
                  have f46 : (((p[m]).toNat : Int) != 46) = false := by simp; omega
                  have r := Lib.hid (show okN (p[m]).toNat = true by rw [h46]; rfl)
                  have a1 : decide (((p[m]).toNat : Int) < 97) = true := decide_eq_true (by omega)
                  have a2 : decide (((p[m]).toNat : Int) < 48) = true := decide_eq_true (by omega)
                  clear h46
                  go_wp2
                  go_meet
                  exact ⟨by rw [r.out]; rfl, rfl⟩
                · have e46 : (((p[m]).toNat : Int) == 46) = false := by simp; omega
                  have f46 : (((p[m]).toNat : Int) != 46) = true := by simp; omega
                  by_cases h45 : (p[m]).toNat = 45
                  · have e45 : (((p[m]).toNat : Int) == 45) = true := by simp; omega
                    have f45 : (((p[m]).toNat : Int) != 45) = false := by simp; omega
                    have r := Lib.hid (show okN (p[m]).toNat = true by rw [h45]; rfl)
                    have a1 : decide (((p[m]).toNat : Int) < 97) = true := decide_eq_true (by omega)
                    have a2 : decide (((p[m]).toNat : Int) < 48) = true := decide_eq_true (by omega)
                    clear h46 h45
                    go_wp2
                    go_meet
                    exact ⟨by rw [r.out]; rfl, rfl⟩
                  · have e45 : (((p[m]).toNat : Int) == 45) = false := by simp; omega
                    have f45 : (((p[m]).toNat : Int) != 45) = true := by simp; omega
                    have r := Lib.hid (show okN (p[m]).toNat = ((decide (97 ≤ (p[m]).toNat) && decide ((p[m]).toNat ≤ 122)) || (decide (48 ≤ (p[m]).toNat) && decide ((p[m]).toNat ≤ 57)) || (p[m]).toNat == 95) by
                      unfold okN
                      have x1 : ((p[m]).toNat == 46) = false := by simpa using h46
                      have x2 : ((p[m]).toNat == 45) = false := by simpa using h45
                      rw [x1, x2]; simp)
                    clear h46 h45
                    go_wp2
                    all_goals
                      go_meet
                      refine ⟨congrArg Value.bool ?_, rfl⟩
                      rw [r.out, Bool.eq_iff_iff]
                      simp only [Bool.or_eq_true, Bool.and_eq_true, Bool.not_eq_true', Bool.or_eq_false_iff, Bool.and_eq_false_iff, decide_eq_true_eq, decide_eq_false_iff_not, beq_eq_false_iff_ne, bne_iff_ne, ne_eq, false_iff, Bool.false_eq_true]
                      omega
              case rest =>
                obtain ⟨rfl, rfl⟩ := hcut
                cases ho : okN (p[m]).toNat with
                | false =>
                  have RR := Lib.hid (Hn.out (by rw [OK.out]; exact Hn2.out ho))
                  clear St2 Hn2 Hn St
                  go_wp2
                  go_ret
                  exact ⟨retb (by rw [R.out, RR.out]), EE.out⟩
                | true =>
                  go_wp2
                  refine ⟨⟨m + 1, by omega, rfl, ?_⟩, by simp [intOf]; omega⟩
                  rw [St2.out]; exact ho
            · obtain rfl : m = p.size := by omega
              clear hml
              have hfull : okPart p.toList = true := by rw [OK.out, ← Hma.out, TS.out, List.take_length]
              have HF := Lib.hid hfull
              clear hfull
              go_wp2
              refine ⟨⟨k + 1, by omega, rfl, ?_⟩, by simp [intOf]; omega⟩
              rw [St.out, HF.out]; rfl
    · obtain rfl : k = n := by omega
      clear hlt
      go_wp2
      go_ret
      refine ⟨retb ?_, EE.out⟩
      rw [R.out, ← Hall.out, HN.out, List.take_length]
end Go.Proofs.YtbneedmfpldpfaaGreatDoor

namespace Go.Proofs.YtbneedmfpldpfaaGreatDoor
open Go.RowKit Go.Pth


def InvRpa (s : ByteArray) (i : Value) : Prop := ∃ k : Nat, k ≤ s.size ∧ i = .int .i64 ((k : Int) - 1) ∧ (47 : UInt8) ∉ s.toList.drop k
set_option maxHeartbeats 1000000 in
theorem rparent_any (s : ByteArray) (w : World) : Calls Tryz.prog 86 #[.string s] w fun e w' => e = .returned (.string (tx (parent s.toList))) ∧ Ext w w' := by
  have hsz := Lib.hid (size_list s)
  go_enter Tryz.func86, Tryz.ntmps86
  go_wp2_with fail
  refine (rvalid_any s w).mono ?_
  rintro e w1 ⟨rfl, e1⟩
  cases hv : valid s.toList with
  | false =>
    have R := Lib.hid (show parent s.toList = [] by unfold parent; rw [hv]; rfl)
    go_wp2
    go_ret
    exact ⟨rets (by rw [R.out]; rfl), e1⟩
  | true =>
    have hl := valid_len hv
    rw [← hsz.out] at hl
    have HV := Lib.hid hv
    go_wp2
    go_loop [3] (fun i => InvRpa s i) (fun i => (intOf i + 1).toNat)
    case atStart => exact ⟨s.size, by omega, by first | rfl | go_num, by rw [hsz.out, List.drop_length]; simp⟩
    case round =>
      obtain ⟨k, hk, rfl, hn⟩ := hrel
      have Hn := Lib.hid hn; clear hn
      by_cases h0 : 0 < k
      · have t0 : (0 : Int) ≤ (k : Int) - 1 := by omega
        have t1 : (k : Int) - 1 < (s.size : Int) := by omega
        have t2 : ((k : Int) - 1).toNat = k - 1 := by omega
        have t3 : (k : Int) - 1 ≤ (s.size : Int) := by omega
        have hlt : k - 1 < s.size := by omega
        have G := Lib.hid (tx_get s (k - 1) hlt)
        have DR := Lib.hid (show s.toList.drop (k - 1) = s[k - 1] :: s.toList.drop k by
          have hl2 : k - 1 < s.toList.length := by rw [← hsz.out]; exact hlt
          have g := G.out
          rw [List.getElem?_eq_getElem hl2] at g
          injection g with g
          rw [List.drop_eq_getElem_cons hl2, g, show k - 1 + 1 = k by omega])
        cases q : ((s[k - 1].toNat : Int) == 47) with
        | true =>
          have Q := Lib.hid (byte_eq _ (beq_iff_eq.1 q))
          go_wp2
          go_ret
          refine ⟨rets ?_, e1⟩
          have d := DR.out
          rw [Q.out] at d
          have e : s.toList = s.toList.take (k - 1) ++ 47 :: s.toList.drop (k - 1 + 1) := by
            rw [show k - 1 + 1 = k by omega, ← d, List.take_append_drop]
          have nm := last_names s.toList (k - 1) HV.out e (by rw [show k - 1 + 1 = k by omega]; exact Hn.out)
          rw [nm.1, ← list_tx (s.extract 0 (k - 1)), tx_cut]; simp
        | false =>
          have Q := Lib.hid q
          go_wp2
          refine ⟨⟨k - 1, by omega, by first | rfl | (congr 1; omega) | go_num, ?_⟩, by simp [intOf]; omega⟩
          rw [DR.out]
          intro hm
          rcases List.mem_cons.1 hm with hm | hm
          · have hq := Q.out
            rw [← hm] at hq
            exact absurd hq (by decide)
          · exact Hn.out hm
      · obtain rfl : k = 0 := by omega
        clear h0
        go_wp2
        go_ret
        refine ⟨rets ?_, e1⟩
        have hn := Hn.out
        rw [List.drop_zero] at hn
        rw [(parent_one HV.out hn).1]; rfl


end Go.Proofs.YtbneedmfpldpfaaGreatDoor

set_option linter.unusedSimpArgs false
namespace Go.Proofs.YtbneedmfpldpfaaGreatDoor
open Go.RowKit Go.Pth

end Go.Proofs.YtbneedmfpldpfaaGreatDoor
