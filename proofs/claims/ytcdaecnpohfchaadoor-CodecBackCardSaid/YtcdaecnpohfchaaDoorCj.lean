/- Items in memory, and the contracts of small, and of the document's Num, Word, Bytes. -/
import Derived.Test.YtcdaecnpohfchaaDoorCi
namespace Go.Proofs.YtcdaecnpohfchaaDoor
open Go.RowKit Go.Sha

structure Itm where
  kind : Int
  n : Int
  wd : Int
  s : ByteArray
/-- A slice of items in memory. -/
def IAt (w : World) (v : Value) (l : List Itm) : Prop :=
  ∃ ad cap pb po, v = .slice ad l.length cap ∧ (0 < l.length → ad = some ⟨pb, po, none⟩) ∧ ∀ j x, l[j]? = some x →
    w.cell? ⟨pb, po + j * 4, none⟩ = some (.int .i64 x.kind) ∧ w.cell? ⟨pb, po + j * 4 + 1, none⟩ = some (.int .i64 x.n) ∧ w.cell? ⟨pb, po + j * 4 + 2, none⟩ = some (.int .u64 x.wd) ∧ w.cell? ⟨pb, po + j * 4 + 3, none⟩ = some (.string x.s) ∧ 0 ≤ x.wd ∧ x.wd < 18446744073709551616 ∧ x.s.size ≤ 9223372036854775807
theorem IAt.ext {w w' : World} {v : Value} {l : List Itm} (h : IAt w v l) (he : Ext w w') : IAt w' v l := by
  obtain ⟨ad, cap, pb, po, h1, h2, h3⟩ := h
  refine ⟨ad, cap, pb, po, h1, h2, fun j x hj => ?_⟩
  obtain ⟨c0, c1, c2, c3, r⟩ := h3 j x hj
  have hb := World.block_lt_of_cell? w _ c0
  exact ⟨by rw [← c0]; exact Below.cell he (p := ⟨pb, po + j * 4, none⟩) hb, by rw [← c1]; exact Below.cell he (p := ⟨pb, po + j * 4 + 1, none⟩) hb, by rw [← c2]; exact Below.cell he (p := ⟨pb, po + j * 4 + 2, none⟩) hb, by rw [← c3]; exact Below.cell he (p := ⟨pb, po + j * 4 + 3, none⟩) hb, r⟩
/-- How much they are. -/
def isum (l : List Itm) : Nat := (l.map fun x => x.s.size + 8).sum
theorem isum_snoc (l : List Itm) (x : Itm) : isum (l ++ [x]) = isum l + (x.s.size + 8) := by simp [isum]
theorem itake (l : List Itm) (k : Nat) (h : k < l.length) : ∃ x, l[k]? = some x ∧ l.take (k + 1) = l.take k ++ [x] :=
  ⟨l[k], List.getElem?_eq_getElem h, List.take_succ_eq_append_getElem h⟩
theorem isum_le (l : List Itm) (k : Nat) : isum (l.take k) ≤ isum l := by
  have h : isum l = isum (l.take k) + isum (l.drop k) := by
    unfold isum
    rw [← List.sum_append, ← List.map_append, List.take_append_drop]
  omega

set_option maxHeartbeats 1000000 in
theorem sum3 (a s : Nat) (g : Nat) (w : World) (ha : a ≤ 1000) (hs : s ≤ 9223372036854775807) (h0 : w.cell? ⟨g, 0, none⟩ = some (.int .i64 s)) (h1 : w.cell? ⟨g, 1, none⟩ = some (.int .i64 8)) :
    Calls Tryd.prog 24 #[.int .i64 a, .slice (some ⟨g, 0, none⟩) 2 2] w fun e w' => (∃ R : Nat, e = .returned (.int .i64 (R : Int)) ∧ (R ≤ 1000 → R = a + (s + 8))) ∧ w = w' := by
  have d1 : decide ((1099511627776 : Int) < (a : Int)) = false := decide_eq_false (by omega)
  by_cases hb : (1099511627776 : Int) - a < s
  · have d2 : decide ((1099511627776 : Int) - (a : Int) < (s : Int)) = true := decide_eq_true hb
    go_enter Tryd.func24, Tryd.ntmps24
    go_wp2
    go_rounds 1
    go_ret
    exact ⟨⟨1099511627776, rfl, fun h => by omega⟩, rfl⟩
  · have d2 : decide ((1099511627776 : Int) - (a : Int) < (s : Int)) = false := decide_eq_false hb
    have d3 : decide ((1099511627776 : Int) < (a : Int) + (s : Int)) = false := decide_eq_false (by omega)
    by_cases hc : (1099511627776 : Int) - (a + s) < 8
    · have d4 : decide ((1099511627776 : Int) - ((a : Int) + (s : Int)) < 8) = true := decide_eq_true hc
      go_enter Tryd.func24, Tryd.ntmps24
      go_wp2
      go_rounds 2
      go_ret
      exact ⟨⟨1099511627776, rfl, fun h => by omega⟩, rfl⟩
    · have d4 : decide ((1099511627776 : Int) - ((a : Int) + (s : Int)) < 8) = false := decide_eq_false hc
      go_enter Tryd.func24, Tryd.ntmps24
      go_wp2
      go_rounds 3
      go_ret
      exact ⟨⟨a + s + 8, by push_cast; rfl, fun h => by omega⟩, rfl⟩

def InvS (w : World) (l : List Itm) (n i : Value) (wr : World) : Prop := ∃ k m : Nat, k ≤ l.length ∧ i = .int .i64 k ∧ n = .int .i64 m ∧ (m ≤ 1000 → m = isum (l.take k)) ∧ Ext w wr
set_option maxHeartbeats 1000000 in
theorem small_any (v : Value) (l : List Itm) (w : World) (h : IAt w v l) (hl : l.length ≤ 9223372036854775807) : Calls Tryd.prog 7 #[v] w fun e w' => (∃ c : Bool, e = .returned (.bool c) ∧ (c = true → isum l ≤ 1000)) ∧ Ext w w' := by
  have H := Lib.hid h
  obtain ⟨ad, cap, pb, po, rfl, h2, h3⟩ := h
  have H2 := Lib.hid h2; clear h2 h3
  obtain ⟨L, hL⟩ : ∃ L, L = l.length := ⟨_, rfl⟩
  rw [← hL] at hl ⊢
  have HL := Lib.hid hL; clear hL
  go_enter Tryd.func7, Tryd.ntmps7
  go_wp2
  go_loopw [3, 4] (fun n i wr => InvS w l n i wr) (fun _ i _ => L - (intOf i).toNat)
  case atStart => exact ⟨0, 0, by omega, rfl, rfl, fun _ => by simp [isum], Ext.refl w⟩
  case round =>
    obtain ⟨k, m, hk, rfl, rfl, hm, he⟩ := hrel
    rw [← HL.out] at hk
    by_cases hlt : k < L
    · by_cases hm1 : m ≤ 1000
      · obtain ⟨x, hx, htk⟩ := itake l k (by rw [← HL.out]; exact hlt)
        have hI := H.out.ext he
        obtain ⟨ad', cap', pb', po', e', h2', h3'⟩ := hI
        have e1 := h2' (by rw [← HL.out]; omega)
        subst e1
        injection e' with e1 e2 e3
        subst e1
        obtain ⟨c0, c1, c2, c3, _, _, hsz⟩ := h3' k x hx
        have a1 := At.new wr #[.int .i64 (x.s.size : Int), .int .i64 8] 3
        have q0 : (wr.alloc (.cells #[.int .i64 (x.s.size : Int), .int .i64 8] 3)).cell? ⟨wr.heap.size, 0, none⟩ = some (.int .i64 (x.s.size : Int)) := by rw [a1.cell]; rfl
        have q1 : (wr.alloc (.cells #[.int .i64 (x.s.size : Int), .int .i64 8] 3)).cell? ⟨wr.heap.size, 1, none⟩ = some (.int .i64 8) := by rw [a1.cell]; rfl
        have ex := Ext.alloc wr (.cells #[.int .i64 (x.s.size : Int), .int .i64 8] 3)
        have i0 : (0 : Int) ≤ (k : Int) := by omega
        have i1 : (k : Int) < (L : Int) := by omega
        have i2 : (m : Int) ≤ 1000 := by omega
        have hm2 := hm hm1
        have Hm := Lib.hid hm2
        have Htk := Lib.hid htk
        have Q0 := Lib.hid q0; have Q1 := Lib.hid q1
        clear hm hm2 htk a1 q0 q1 c0 c1 c2 h2' h3' hx e2 e3 H2
        go_wp2_with fail
        refine (sum3 m x.s.size wr.heap.size _ hm1 hsz Q0.out Q1.out).mono ?_
        rintro e w' ⟨⟨R, rfl, hR⟩, rfl⟩
        go_wp2
        refine ⟨⟨k + 1, R, by rw [← HL.out]; omega, rfl, rfl, fun hr => ?_, he.trans ex⟩, by simp [intOf]; omega⟩
        rw [Htk.out, isum_snoc, ← Hm.out]
        exact hR hr
      · have d1 : decide ((m : Int) ≤ 1000) = false := decide_eq_false (by omega)
        have i1 : (k : Int) < (L : Int) := by omega
        clear hm
        go_wp2
        go_ret
        exact ⟨⟨false, rfl, fun h => by cases h⟩, he⟩
    · obtain rfl : k = L := by omega
      rw [HL.out, List.take_length] at hm
      clear hlt
      by_cases hm1 : m ≤ 1000
      · have d1 : decide ((m : Int) ≤ 1000) = true := decide_eq_true (by omega)
        have Hm := Lib.hid (hm hm1)
        clear hm
        go_wp2
        go_ret
        exact ⟨⟨true, rfl, fun _ => by rw [← Hm.out]; exact hm1⟩, he⟩
      · have d1 : decide ((m : Int) ≤ 1000) = false := decide_eq_false (by omega)
        clear hm
        go_wp2
        go_ret
        exact ⟨⟨false, rfl, fun h => by cases h⟩, he⟩
end Go.Proofs.YtcdaecnpohfchaaDoor
