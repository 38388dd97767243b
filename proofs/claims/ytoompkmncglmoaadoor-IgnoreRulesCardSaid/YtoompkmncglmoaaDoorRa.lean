/- The contract of the document's own parts. -/
import Derived.Test.YtoompkmncglmoaaDoorWe
namespace Go.Proofs.YtoompkmncglmoaaDoor
open Go.RowKit Go.Pth

theorem strzero : (Tryd.prog.info? 9).map (fun i => (i.zero, i.size, i.bytes)) = some (some (.string ByteArray.empty), 1, 16) := by kernel_rfl
theorem own_len {w : World} {base : Nat} {v : Value} {l : List B} (h : Own w base v l) : ∃ ad cap, v = .slice ad l.length cap := by
  obtain ⟨_, ⟨rfl, h0⟩ | ⟨g, cap, cur, rfl, _⟩⟩ := h
  · exact ⟨none, 0, by rw [h0]⟩
  · exact ⟨_, cap, rfl⟩
theorem cell_new (w : World) (x : Value) : (w.alloc (.cells #[x] 9)).cell? ⟨w.heap.size, 0, none⟩ = some x := by
  have : (w.alloc (.cells #[x] 9)).heap[w.heap.size]? = some (.cells #[x] 9 (0, 0)) := heap_alloc_last w _
  simp only [World.cell?, this]; rfl

/-- What was cut so far. -/
structure Cuts (L : B) (k f : Nat) (done : List B) : Prop where
  le : f ≤ k
  kl : k ≤ L.length
  all : cut L = done ++ cut (L.drop f)
  none : (47 : UInt8) ∉ (L.drop f).take (k - f)
  few : done.length ≤ k
theorem Cuts.start (L : B) : Cuts L 0 0 [] := ⟨by omega, by omega, rfl, by simp, by simp⟩
theorem Cuts.last {L : B} {f : Nat} {done : List B} (h : Cuts L L.length f done) : cut L = done ++ [(L.drop f).take (L.length - f)] := by
  have hn := h.none
  rw [List.take_of_length_le (by rw [List.length_drop]; omega)] at hn ⊢
  rw [h.all, cut_one _ hn]
theorem Cuts.at {L : B} {k f : Nat} {done : List B} (h : Cuts L k f done) (hk : L[k]? = some 47) : Cuts L (k + 1) (k + 1) (done ++ [(L.drop f).take (k - f)]) := by
  have hkl : k < L.length := (List.getElem?_eq_some_iff.1 hk).1
  have e : L.drop f = (L.drop f).take (k - f) ++ 47 :: L.drop (k + 1) := by
    have h1 : (L.drop f).drop (k - f) = 47 :: L.drop (k + 1) := by
      rw [List.drop_drop, show f + (k - f) = k by have := h.le; omega, List.drop_eq_getElem_cons hkl]
      rw [List.getElem?_eq_getElem hkl] at hk
      injection hk with hk
      rw [hk]
    rw [← h1, List.take_append_drop]
  refine ⟨by omega, by omega, ?_, by simp, by simp; have := h.few; omega⟩
  have hc : cut (L.drop f) = cut ((L.drop f).take (k - f)) ++ cut (L.drop (k + 1)) := by
    have := cut_app ((L.drop f).take (k - f)) (L.drop (k + 1))
    rw [← e] at this
    exact this
  rw [h.all, hc, cut_one _ h.none, List.append_assoc]
theorem Cuts.on {L : B} {k f : Nat} {done : List B} (h : Cuts L k f done) (c : UInt8) (hk : L[k]? = some c) (hc : c ≠ 47) : Cuts L (k + 1) f done := by
  have hkl : k < L.length := (List.getElem?_eq_some_iff.1 hk).1
  have hle := h.le
  refine ⟨by omega, by omega, h.all, ?_, by have := h.few; omega⟩
  rw [show k + 1 - f = (k - f) + 1 by omega, List.take_add_one, List.getElem?_drop, show f + (k - f) = k by omega, hk]
  intro hm
  rcases List.mem_append.1 hm with hm | hm
  · exact h.none hm
  · simp at hm; exact hc hm.symm

def InvT (s : ByteArray) (w : World) (v f i : Value) (wr : World) : Prop :=
  ∃ (k g : Nat) (done : List B), i = .int .i64 k ∧ f = .int .i64 g ∧ Own wr w.heap.size v done ∧ Below w.heap.size w wr ∧ k ≤ s.size + 1 ∧ g ≤ s.size + 1 ∧
    (k ≤ s.size → Cuts s.toList k g done) ∧ (k = s.size + 1 → done = cut s.toList)

set_option maxHeartbeats 2000000 in
theorem rparts_any (s : ByteArray) (hs : s.size ≤ 60) (w : World) : Calls Tryd.prog 32 #[.string s] w fun e w' => ∃ v, e = .returned v ∧ Txt w' v (cut s.toList) ∧ Ext w w' := by
  have hsz := Lib.hid (size_list s)
  go_enter Tryd.func32, Tryd.ntmps32
  go_wp2
  go_loopw [3, 4, 5] (fun v f i wr => InvT s w v f i wr) (fun _ _ i _ => s.size + 1 - (intOf i).toNat)
  case atStart => exact ⟨0, 0, [], rfl, rfl, Own.nil _ _, Below.refl _ _, by omega, by omega, fun _ => Cuts.start _, fun h => by omega⟩
  case round =>
    obtain ⟨k, g, done, rfl, rfl, ow, be, hk, hg, hc, hd⟩ := hrel
    have Hd := Lib.hid hd; clear hd
    by_cases hlt : k ≤ s.size
    · have C := Lib.hid (hc hlt)
      have hgk : g ≤ k := C.out.le
      have hfew : done.length ≤ 1000 := by have := C.out.few; omega
      have t1 : (k : Int) ≤ (s.size : Int) := by omega
      obtain ⟨ad, cap, rfl⟩ := own_len ow
      have j0 : (0 : Int) ≤ (g : Int) := by omega
      have j1 : (g : Int) ≤ (k : Int) := by omega
      have sg : (s.extract g k).toList = (s.toList.drop g).take (k - g) := tx_cut s g k
      have SG := Lib.hid sg
      have O1 := Lib.hid (ow.ext (Ext.alloc wr (.cells #[.string (s.extract g k)] 9)))
      have CN := Lib.hid (cell_new wr (.string (s.extract g k)))
      have hB : w.heap.size ≤ (wr.alloc (.cells #[.string (s.extract g k)] 9)).heap.size := by have := be.size; simp; omega
      have HB := Lib.hid hB
      have BE := Lib.hid (be.alloc be.size (.cells #[.string (s.extract g k)] 9))
      have BE0 := Lib.hid be
      have OW := Lib.hid ow
      have HF := Lib.hid hfew
      clear hc sg hB be ow hfew
      obtain ⟨M, hM⟩ : ∃ M, M = done.length := ⟨_, rfl⟩
      rw [← hM] at O1 OW ⊢
      have HM := Lib.hid hM; clear hM
      by_cases he : k = s.size
      · have t2 : (k == s.size) = true := by simpa using he
        have t3 : ((k : Int) == (s.size : Int)) = true := by simp; omega
        have HE := Lib.hid he
        clear he Hd
        go_wp2_with (refine list_append_txt rfl (.tmp 22) (.tmp 27) 24 rfl Tryd.underlying24 strzero w.heap.size (.slice ad M cap) done rfl O1.out wr.heap.size 1 (s.extract g k) rfl CN.out HF.out HB.out ?_; intro vx w4 ox b4)
        refine ⟨⟨k + 1, k + 1, _, by first | rfl | go_num, by first | rfl | go_num, ox, BE.out.trans b4, by omega, by omega, fun h => by have := HE.out; omega, fun _ => ?_⟩, by simp [intOf]; omega⟩
        have q := C.out
        rw [HE.out, hsz.out] at q
        rw [SG.out, HE.out, hsz.out]
        exact q.last.symm
      · have hl : k < s.size := by omega
        have t2 : (k == s.size) = false := by simpa using he
        have t3 : ((k : Int) == (s.size : Int)) = false := by simp; omega
        have t4 : (k : Int) < (s.size : Int) := by omega
        have t5 : (0 : Int) ≤ (k : Int) := by omega
        have G := Lib.hid (tx_get s k hl)
        clear he Hd
        cases q : ((s[k].toNat : Int) == 47) with
        | true =>
          have Q := Lib.hid q
          go_wp2_with (refine list_append_txt rfl (.tmp 22) (.tmp 27) 24 rfl Tryd.underlying24 strzero w.heap.size (.slice ad M cap) done rfl O1.out wr.heap.size 1 (s.extract g k) rfl CN.out HF.out HB.out ?_; intro vx w4 ox b4)
          refine ⟨⟨k + 1, k + 1, _, by first | rfl | go_num, by first | rfl | go_num, ox, BE.out.trans b4, by omega, by omega, fun _ => ?_, fun h => by omega⟩, by simp [intOf]; omega⟩
          rw [SG.out]
          refine C.out.at ?_
          rw [G.out]
          have hq := Q.out
          rw [beq_iff_eq] at hq
          exact congrArg some (byte_eq _ hq)
        | false =>
          have Q := Lib.hid q
          go_wp2
          refine ⟨⟨k + 1, g, done, by first | rfl | go_num, rfl, OW.out, BE0.out, by omega, by omega, fun _ => ?_, fun h => by omega⟩, by simp [intOf]; omega⟩
          refine C.out.on _ G.out fun e => ?_
          have hq := Q.out
          rw [e] at hq
          exact absurd hq (by decide)
    · obtain rfl : k = s.size + 1 := by omega
      have t1 : decide (((s.size + 1 : Nat) : Int) ≤ (s.size : Int)) = false := decide_eq_false (by omega)
      have t2 : decide ((s.size : Int) + 1 ≤ (s.size : Int)) = false := decide_eq_false (by omega)
      have T := Lib.hid ow.txt
      rw [Hd.out rfl] at T
      have BE := Lib.hid be
      clear hc hlt ow be Hd
      go_wp2
      go_ret
      exact ⟨_, rfl, T.out, BE.out⟩
end Go.Proofs.YtoompkmncglmoaaDoor
