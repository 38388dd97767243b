/- The contract of Words; an argument []string, opened. -/
import Derived.Test.YtoompkmncglmoaaDoorIh
import Derived.Test.YtoompkmncglmoaaDoorSo
import Derived.Deep.Strs
import Derived.LoadGo2
namespace Go.Proofs.YtoompkmncglmoaaDoor
open Go.RowKit Go.Pth

def InvWd (w : World) (ls : List B) (n i : Value) (wr : World) : Prop :=
  ∃ k R : Nat, k ≤ ls.length ∧ i = .int .i64 k ∧ n = .int .i64 R ∧ Ext w wr ∧ (R ≤ 2000 → k ≤ R ∧ ∀ l ∈ ls.take k, l.length ≤ R)
set_option maxRecDepth 100000 in
set_option maxHeartbeats 4000000 in
theorem words_any (lv : Value) (ls : List B) (w : World) (hx : TxO w lv ls) (hl : ls.length ≤ 9223372036854775807) (hb : ∀ l ∈ ls, l.length ≤ 9223372036854775807) :
    Calls Tryd.prog 11 #[lv, .int .i64 2000] w fun e w' => ∃ R : Nat, e = .returned (.int .i64 R) ∧ Ext w w' ∧ (R ≤ 2000 → ls.length ≤ 2000 ∧ ∀ l ∈ ls, l.length ≤ 2000) := by
  obtain ⟨ad, cap, b, o, rfl, x2, x3⟩ := hx
  obtain ⟨L, hL⟩ : ∃ L, L = ls.length := ⟨_, rfl⟩
  have HX2 := Lib.hid x2; have HX3 := Lib.hid x3; have HB := Lib.hid hb; have HL := Lib.hid hL
  rw [← hL] at HX2 HX3 hl ⊢
  clear x2 x3 hb hL
  go_enter Tryd.func11, Tryd.ntmps11
  go_wp2_with fail
  go_loopw [5, 6] (fun n i wr => InvWd w ls n i wr) (fun _ i _ => L - (intOf i).toNat)
  case atStart => exact ⟨0, 0, by omega, rfl, rfl, Ext.refl w, fun _ => ⟨by omega, fun l h => by simp at h⟩⟩
  case round =>
    obtain ⟨k, R, hk, rfl, rfl, he, hr⟩ := hrel
    rw [← HL.out] at hk
    have HE := Lib.hid he; have HR := Lib.hid hr
    clear hr
    by_cases hlt : k < L
    · have i0 : (0 : Int) ≤ (k : Int) := by omega
      have i1 : (k : Int) < (L : Int) := by omega
      by_cases hn : R ≤ 2000
      · have d0 : decide ((R : Int) ≤ 2000) = true := decide_eq_true (by omega)
        have ead := HX2.out (by omega)
        subst ead
        have hkk : k < ls.length := by rw [← HL.out]; exact hlt
        obtain ⟨x, hxx⟩ : ∃ x, x = ls[k] := ⟨_, rfl⟩
        have hmem : x ∈ ls := by rw [hxx]; exact List.getElem_mem hkk
        have cl := he.cell (HX3.out k hlt)
        rw [show ls[k]?.getD [] = x by rw [List.getElem?_eq_getElem hkk, hxx]; rfl] at cl
        have hxl := HB.out x hmem
        have HT : Hid (ls.take (k + 1) = ls.take k ++ [x]) := Lib.hid (by rw [List.take_succ_eq_append_getElem hkk, hxx])
        have zx := tx_size x
        have SU := Lib.hid (sum3 R (tx x).size 1 wr.heap.size (wr.alloc (.cells #[.int .i64 ((tx x).size : Nat), .int .i64 1] 3)) (by omega) (by omega) (by omega) (by rw [(At.new wr _ _).cell]; rfl) (by rw [(At.new wr _ _).cell]; rfl))
        have E2 := Lib.hid (he.trans (Ext.alloc wr (.cells #[.int .i64 ((tx x).size : Nat), .int .i64 1] 3)))
        have HZ := Lib.hid zx
        clear he hmem hxx hkk hxl zx
        have hxl2 : (tx x).size ≤ 9223372036854775807 := by rw [HZ.out]; exact HB.out x (by
          have := HT.out; exact (List.mem_of_mem_take (i := k + 1) (by rw [this]; simp)))
        generalize tx x = X at *
        go_wp2_with fail
        refine (SU.out).mono ?_
        rintro e w3 ⟨⟨R2, rfl, hR2⟩, rfl⟩
        have HR2 := Lib.hid hR2
        generalize wr.alloc (.cells #[.int .i64 (X.size : Nat), .int .i64 1] 3) = w3 at *
        clear SU hR2
        go_wp2_with fail
        refine ⟨⟨k + 1, R2, by rw [← HL.out]; omega, rfl, rfl, E2.out, fun h => ?_⟩, by simp [intOf]; omega⟩
        have q := HR2.out (by omega)
        obtain ⟨q1, q2⟩ := HR.out hn
        refine ⟨by omega, fun l hlm => ?_⟩
        rw [HT.out] at hlm
        rcases List.mem_append.1 hlm with h | h
        · have := q2 l h; omega
        · simp at h; subst h; rw [← HZ.out]; omega
      · have d0 : decide ((R : Int) ≤ 2000) = false := decide_eq_false (by omega)
        clear he
        go_wp2_with fail
        go_ret
        exact ⟨R, rfl, HE.out, fun h => absurd h hn⟩
    · obtain rfl : k = L := by omega
      have FIN : Hid (R ≤ 2000 → k ≤ 2000 ∧ ∀ l ∈ ls, l.length ≤ 2000) := Lib.hid (fun h => by
        obtain ⟨q1, q2⟩ := HR.out h
        rw [HL.out, List.take_length] at q2
        exact ⟨by omega, fun l hl => by have := q2 l hl; omega⟩)
      clear he hlt
      go_wp2_with fail
      go_ret
      exact ⟨R, rfl, HE.out, FIN.out⟩

theorem plain_of_cell {w : World} {x : Addr} {v : Value} (c0 : w.cell? (x.add 0) = some v) : x = ⟨x.block, x.off, none⟩ := by
  obtain ⟨xb, xo, sp⟩ := x
  cases sp with
  | none => rfl
  | some s =>
    exfalso
    have : (⟨xb, xo, some s⟩ : Addr).add 0 = ⟨xb, xo, some s⟩ := rfl
    rw [this] at c0
    unfold World.cell? at c0
    simp at c0
    split at c0 <;> simp_all

open Go.ChangeShapes Go.WideShapes Go.ChangeAt in
/-- An argument []string, opened. -/
theorem open_txts {H : Type} {enc : TypeId × Value → H} {w : World} {base : Nat} {held : Bool} {fuel : Nat} {v : Value} {x : DataW H × List MemPlace} (h : DataW.trod enc Tryd.prog w base (fun _ => true) held fuel 24 [v] = some x) :
    ∃ ls : List B, TxO w v ls ∧ ls.length ≤ 9223372036854775807 ∧ ∀ l ∈ ls, l.length ≤ 9223372036854775807 := by
  rcases Deep.open_strs Tryd.underlying24 Tryd.underlying9 (by kernel_rfl) h with ⟨hcs, _⟩ | ⟨a, len, cap, m, Sx, hcs, _, hl, hm, hmm, _, hi⟩
  · injection hcs with hcs
    subst hcs
    exact ⟨[], ⟨none, 0, 0, 0, rfl, fun h => by simp at h, fun j h => by simp at h⟩, by simp, fun l hl => by cases hl⟩
  · injection hcs with hcs
    subst hcs
    simp at hmm
    subst hmm
    have ep : 0 < len → a = ⟨a.block, a.off, none⟩ := fun h0 => plain_of_cell (hi 0 (by omega)).1
    refine ⟨(List.range len).map fun i => (Sx i).toList, ⟨some a, m, a.block, a.off, by simp, fun h0 => by rw [← ep (by simpa using h0)], fun j hj => ?_⟩, by simp; unfold maxLen at hm; omega, fun l hl => ?_⟩
    · have hjl : j < len := by simpa using hj
      have := (hi j (by omega)).1
      rw [ep (by omega), Addr.add_lit] at this
      rw [List.getElem?_map, List.getElem?_range hjl]
      simp only [Option.map_some, Option.getD_some, list_tx]
      exact this
    · obtain ⟨i, hi1, rfl⟩ := List.mem_map.1 hl
      have hil : i < len := List.mem_range.1 hi1
      have := (hi i (by omega)).2
      rw [← size_list]
      unfold maxLen at this
      omega
end Go.Proofs.YtoompkmncglmoaaDoor
