/- The contracts of path's Valid, Parts, Hidden, Join, cutLast, Parent, Name. -/
import Derived.Test.YtoompkmncglmoaaDoorWa
namespace Go.Proofs.YtoompkmncglmoaaDoor
open Go.RowKit Go.Pth

theorem allp_take (p : List B) (k : Nat) (h : k < p.length) : (p.take (k + 1)).all okPart = ((p.take k).all okPart && okPart (p[k]?.getD [])) := by
  rw [List.take_succ_eq_append_getElem h, List.all_append, List.getElem?_eq_getElem h]; simp
theorem allp_not (p : List B) (k : Nat) (h : k < p.length) (h2 : okPart (p[k]?.getD []) = false) : p.all okPart = false := by
  rw [← Bool.not_eq_true, List.all_eq_true]
  intro ha
  have := ha p[k] (List.getElem_mem h)
  rw [List.getElem?_eq_getElem h] at h2
  simp only [Option.getD_some] at h2
  rw [h2] at this; cases this

theorem cut_len (l : B) : (cut l).length ≤ l.length + 1 := by
  induction l with
  | nil => simp [cut]
  | cons c r ih =>
    by_cases hc : c = 47
    · subst hc; rw [cut_slash]; simp; exact ih
    · rw [cut_other c r hc]
      obtain ⟨h, t, e⟩ := cut_cons r
      rw [e] at ih ⊢
      simp at ih ⊢; omega

def InvV (l : List B) (n : Nat) (i : Value) : Prop := ∃ k : Nat, k ≤ n ∧ i = .int .i64 k ∧ (l.take k).all okPart = true
set_option maxHeartbeats 1000000 in
theorem valid_any (s : ByteArray) (w : World) : Calls Tryd.prog 28 #[.string s] w fun e w' => e = .returned (.bool (valid s.toList)) ∧ Ext w w' := by
  have hsz := Lib.hid (size_list s)
  by_cases h0 : 60 < s.size
  · have c0 : decide ((60 : Int) < (s.size : Int)) = true := decide_eq_true (by omega)
    have r : valid s.toList = false := by unfold valid; rw [decide_eq_false (by rw [← hsz.out]; omega)]; rfl
    clear h0
    go_enter Tryd.func28, Tryd.ntmps28
    go_wp2
    go_ret
    exact ⟨retb r.symm, Ext.refl w⟩
  · have c0 : decide ((60 : Int) < (s.size : Int)) = false := decide_eq_false (by omega)
    have R : Hid (valid s.toList = (cut s.toList).all okPart) := Lib.hid (by unfold valid; rw [decide_eq_true (by rw [← hsz.out]; omega)]; rfl)
    have hn := cut_len s.toList
    rw [← hsz.out] at hn
    have E := Ext.alloc w (.cells (strs (cut s.toList)) 9)
    obtain ⟨n, hN⟩ : ∃ n, n = (cut s.toList).length := ⟨_, rfl⟩
    have HN := Lib.hid hN
    rw [← hN] at hn
    have hn61 : n ≤ 61 := by omega
    have sp := split_slash s (by omega) w
    rw [← hN] at sp
    have SP := Lib.hid sp
    have hc : ∀ j, j < n → (w.alloc (.cells (strs (cut s.toList)) 9)).cell? ⟨w.heap.size, j, none⟩ = some (.string (tx ((cut s.toList)[j]?.getD []))) := fun j hj => by
      have : (w.alloc (.cells (strs (cut s.toList)) 9)).heap[w.heap.size]? = some (.cells (strs (cut s.toList)) 9 (0, 0)) := heap_alloc_last w _
      simp only [World.cell?, this]
      exact strs_get _ j (by rw [← hN]; exact hj)
    have HC := Lib.hid hc
    have EE := Lib.hid E
    clear hN sp hc E h0
    go_enter Tryd.func28, Tryd.ntmps28
    go_wp2_with fail
    refine (SP.out).mono ?_
    rintro e w1 ⟨rfl, rfl⟩
    generalize w.alloc (.cells (strs (cut s.toList)) 9) = w1 at *
    generalize w.heap.size = g at *
    clear SP
    go_wp2
    go_loop [11] (fun i => InvV (cut s.toList) n i) (fun i => n - (intOf i).toNat)
    case atStart => exact ⟨0, by omega, rfl, rfl⟩
    case round =>
      obtain ⟨k, hk, rfl, hall⟩ := hrel
      have Hall := Lib.hid hall; clear hall
      by_cases hlt : k < n
      · have i0 : (0 : Int) ≤ (k : Int) := by omega
        have i1 : (k : Int) < (n : Int) := by omega
        have cl := HC.out k hlt
        go_wp2_with fail
        refine (validPart_any _ w1).mono ?_
        rintro e w' ⟨rfl, rfl⟩
        have hl : k < (cut s.toList).length := by rw [← HN.out]; exact hlt
        have st := allp_take (cut s.toList) k hl
        rw [Hall.out] at st
        have St := Lib.hid st; clear st
        have Hn := Lib.hid (allp_not (cut s.toList) k hl)
        rw [tx_list]
        clear cl hl
        cases ho : okPart ((cut s.toList)[k]?.getD []) with
        | false =>
          clear St
          go_wp2
          go_ret
          exact ⟨retb (by rw [R.out]; exact (Hn.out ho).symm), EE.out⟩
        | true =>
          go_wp2
          refine ⟨⟨k + 1, by omega, rfl, ?_⟩, by simp [intOf]; omega⟩
          rw [St.out]; exact ho
      · obtain rfl : k = n := by omega
        clear hlt
        go_wp2
        go_ret
        refine ⟨retb ?_, EE.out⟩
        rw [R.out, ← Hall.out, HN.out, List.take_length]

set_option maxHeartbeats 1000000 in
theorem rets {a b : ByteArray} (h : a = b) : Ending.returned (Value.string a) = Ending.returned (Value.string b) := by rw [h]
end Go.Proofs.YtoompkmncglmoaaDoor
