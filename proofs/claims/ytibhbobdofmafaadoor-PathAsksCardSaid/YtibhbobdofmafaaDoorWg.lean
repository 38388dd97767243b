/- The walk of PathOrders. -/
import Derived.Test.YtibhbobdofmafaaDoorWf
namespace Go.Proofs.YtibhbobdofmafaaDoor
open Go.RowKit Go.Pth

theorem less_acc (a b : ByteArray) {w0 w : World} (h : Ext w0 w) : Calls Tryd.prog 23 #[.string a, .string b] w fun e w' => e = .returned (.bool (less a.toList b.toList)) ∧ Ext w0 w' :=
  (less_any a b w).mono fun _ _ ⟨x, y⟩ => ⟨x, h.trans y⟩
theorem awake_acc {w0 w : World} (h : Ext w0 w) : Calls Tryd.prog 9 #[] w fun e w' => e = .returned (.bool true) ∧ Ext w0 w' :=
  (awake_any w).mono fun _ _ ⟨x, y⟩ => ⟨x, h.trans y⟩

theorem cells2 (w : World) (x y : Value) : (w.alloc (.cells #[x, y] 3)).cell? ⟨w.heap.size, 0, none⟩ = some x ∧ (w.alloc (.cells #[x, y] 3)).cell? ⟨w.heap.size, 1, none⟩ = some y := by
  have : (w.alloc (.cells #[x, y] 3)).heap[w.heap.size]? = some (.cells #[x, y] 3 (0, 0)) := heap_alloc_last w _
  constructor <;> simp only [World.cell?, this] <;> rfl
theorem cells1 (w : World) (x : Value) : (w.alloc (.cells #[x] 3)).cell? ⟨w.heap.size, 0, none⟩ = some x := by
  have : (w.alloc (.cells #[x] 3)).heap[w.heap.size]? = some (.cells #[x] 3 (0, 0)) := heap_alloc_last w _
  simp only [World.cell?, this]; rfl

set_option maxHeartbeats 4000000 in
theorem orders_any (a b c : ByteArray) (w : World) (ha : a.size ≤ 9223372036854775807) (hb : b.size ≤ 9223372036854775807) (hc : c.size ≤ 9223372036854775807) :
    Calls Tryd.prog 4 #[.string a, .string b, .string c] w fun e w' => e = .returned (.bool true) ∧ Ext w w' := by
  have C := Lib.hid (cells2 w (.int .i64 (b.size : Int)) (.int .i64 (c.size : Int)))
  have hE := Ext.alloc w (.cells #[.int .i64 (b.size : Int), .int .i64 (c.size : Int)] 3)
  go_enter Tryd.func4, Tryd.ntmps4
  go_wp2_with fail
  refine (sum3 a.size b.size c.size w.heap.size _ ha hb hc C.out.1 C.out.2).mono ?_
  rintro e w1 ⟨⟨R, rfl, _⟩, rfl⟩
  clear C
  by_cases hR : 500 < R
  · have d : decide ((500 : Int) < (R : Int)) = true := decide_eq_true (by omega)
    go_wp2_with fail
    refine (awake_acc hE).mono ?_
    rintro e w2 ⟨rfl, hE⟩
    go_wp2
    go_ret
    exact ⟨rfl, hE⟩
  · have d : decide ((500 : Int) < (R : Int)) = false := decide_eq_false (by omega)
    have h1 := less_irr a.toList
    have h2 := less_either a.toList b.toList
    have h3 := less_asym a.toList b.toList
    have h4 := less_trans a.toList b.toList c.toList
    clear hR
    cases hx : less a.toList b.toList with
    | true =>
      rw [hx] at h2 h3 h4
      have hy := h3 rfl
      have he : (a.toList == b.toList) = false := by
        rw [hy] at h2
        cases h : a.toList == b.toList with
        | false => rfl
        | true => rw [bne, h] at h2; cases h2
      clear h2 h3
      cases hz : less b.toList c.toList with
      | true =>
        have hu := h4 rfl hz
        clear h4
        go_wp2_with (first | (go_at_call 23; refine (less_acc _ _ hE).mono ?_; rintro e w' ⟨rfl, hE⟩; simp only [hx, hy, hz, hu, h1]) | (go_at_call 9; refine (awake_acc hE).mono ?_; rintro e w' ⟨rfl, hE⟩))
        go_ret
        exact ⟨rfl, hE⟩
      | false =>
        clear h4
        go_wp2_with (first | (go_at_call 23; refine (less_acc _ _ hE).mono ?_; rintro e w' ⟨rfl, hE⟩; simp only [hx, hy, hz, h1]) | (go_at_call 9; refine (awake_acc hE).mono ?_; rintro e w' ⟨rfl, hE⟩))
        go_ret
        exact ⟨rfl, hE⟩
    | false =>
      rw [hx] at h2
      clear h3 h4
      cases hy : less b.toList a.toList with
      | true =>
        have he : (a.toList == b.toList) = false := by
          rw [hy] at h2
          cases h : a.toList == b.toList with
          | false => rfl
          | true => rw [bne, h] at h2; cases h2
        clear h2
        go_wp2_with (first | (go_at_call 23; refine (less_acc _ _ hE).mono ?_; rintro e w' ⟨rfl, hE⟩; simp only [hx, hy, h1]) | (go_at_call 9; refine (awake_acc hE).mono ?_; rintro e w' ⟨rfl, hE⟩))
        go_ret
        exact ⟨rfl, hE⟩
      | false =>
        have he : (a.toList == b.toList) = true := by
          rw [hy] at h2
          cases h : a.toList == b.toList with
          | true => rfl
          | false => rw [bne, h] at h2; cases h2
        clear h2
        go_wp2_with (first | (go_at_call 23; refine (less_acc _ _ hE).mono ?_; rintro e w' ⟨rfl, hE⟩; simp only [hx, hy, h1]) | (go_at_call 9; refine (awake_acc hE).mono ?_; rintro e w' ⟨rfl, hE⟩))
        go_ret
        exact ⟨rfl, hE⟩
end Go.Proofs.YtibhbobdofmafaaDoor
