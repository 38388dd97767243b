/- The contracts of the small functions: Clone, Equal, Leaf, pair, joined, neighbour, Count, piece, Block. -/
import Derived.Test.YtblhipdcgdhmiaaDoorSpec6
import Derived.Laws.Cover3
namespace Go.Proofs.YtblhipdcgdhmiaaDoor
open Go.RowKit Go.Sha

/-- Bytes in new memory. -/
def BPost (w : World) (m : List Int) (e : Ending) (w' : World) : Prop := ∃ v, e = .returned v ∧ Ext w w' ∧ OwnB w' w.heap.size v m
theorem own_of_at {w : World} {base g : Nat} {m : List Int} {n : Nat} (hg : base ≤ g) (h : At w g (bs m) 5) (hn : m.length = n) (hm : n ≤ 1000000) : OwnB w base (.slice (some ⟨g, 0, none⟩) n n) m := by
  subst hn
  exact ⟨by simp, Or.inr ⟨g, m.length, bs m, rfl, hg, h, Nat.le_refl _, by unfold maxLen; omega, by rw [bs_size]; omega, by simp [bs, List.take_of_length_le]⟩⟩
theorem sum_own {w : World} {l : List Int} {e : Ending} {w' : World} (h : SumPost w l e w') : BPost w (shaL l) e w' := by
  obtain ⟨g, rfl, hg, hb, ha⟩ := h
  exact ⟨_, rfl, hb, own_of_at hg ha (shaL_length l) (by omega)⟩

theorem eql_nil (w : World) (a : Option Addr) (l c : Nat) : (binOp .eql 22 (.slice a l c) (.slice none 0 0)).run Tryd.prog w = .ok (.bool a.isNone) w := by
  have := run_equal_slice_nil (P := Tryd.prog) w 22 5 a l c Tryd.underlying22
  simp [binOp, this]

theorem clone_any (v : Value) (m : List Int) (w : World) (hs : Src w v m w.heap.size) (hl : m.length ≤ 70368744177664) : Calls Tryd.prog 47 #[v] w (BPost w m) := by
  have hs' := hs
  obtain ⟨ad, cap, xb, xo, rfl, x2, x3, x4, x5, x6⟩ := hs
  cases ad with
  | none =>
    have h0 : m = [] := List.length_eq_zero_iff.1 (Nat.eq_zero_of_not_pos fun hp => by cases x3 hp)
    subst h0
    obtain rfl := x6 rfl
    clear x2 x3 x4 x5 x6 hs'
    have hq := eql_nil
    go_enter Tryd.func47, Tryd.ntmps47
    go_wp2
    go_ret
    exact ⟨_, rfl, Ext.refl w, OwnB.nil w _⟩
  | some A =>
    have hown := OwnB.made w
    have e1 : Ext w (w.alloc (.cells #[] 5)) := Ext.alloc w _
    have s1 := hs'.now e1
    have hB0 : w.heap.size ≤ (w.alloc (.cells #[] 5)).heap.size := by simp
    clear x2 x3 x4 x5 x6 hs'
    have hq := eql_nil
    go_enter Tryd.func47, Tryd.ntmps47
    go_wp2_with (refine list_append_bytes rfl (.tmp 5) (.tmp 6) 22 rfl Tryd.underlying22 u8zero w.heap.size (.slice (some ⟨w.heap.size, 0, none⟩) 0 0) [] rfl hown _ m _ rfl s1 (by rw [List.length_nil]; omega) hB0 ?_; intro vx w4 ox gx; have b4 := hown.grown gx hB0; rw [List.nil_append] at ox)
    go_ret
    exact ⟨_, rfl, Below.trans e1 b4, ox⟩

theorem beq_any (v u : Value) (m n : List Int) (w : World) (hs : Src w v m w.heap.size) (hu : Src w u n w.heap.size) : Calls Tryd.prog 35 #[v, u] w fun e w' => e = .returned (.bool (eqS m n)) ∧ w = w' := by
  have c1 := conv_src (P := Tryd.prog) 22 9 5 Tryd.underlying22 Tryd.underlying5 Tryd.underlying9 hs
  have c2 := conv_src (P := Tryd.prog) 22 9 5 Tryd.underlying22 Tryd.underlying5 Tryd.underlying9 hu
  go_enter Tryd.func35, Tryd.ntmps35
  go_wp2
  go_ret
  exact ⟨rfl, rfl⟩
theorem deq_any (v u : Value) (m n : List Int) (w : World) (hs : Src w v m w.heap.size) (hu : Src w u n w.heap.size) : Calls Tryd.prog 46 #[v, u] w fun e w' => e = .returned (.bool (eqS m n)) ∧ w = w' := by
  go_enter Tryd.func46, Tryd.ntmps46
  go_wp2_with fail
  refine (beq_any v u m n w hs hu).mono ?_
  rintro e w' ⟨rfl, rfl⟩
  go_wp2
  go_ret
  exact ⟨rfl, rfl⟩

/-- Slices that were just laid side by side. -/
theorem srcs_cons2 {w : World} {g : Nat} {v1 v2 : Value} {m1 m2 : List Int} {t : TypeId} (h : At w g #[v1, v2] t) (h1 : Src w v1 m1 w.heap.size) (h2 : Src w v2 m2 w.heap.size) (c : Nat) : Srcs w (.slice (some ⟨g, 0, none⟩) 2 c) [(v1, m1), (v2, m2)] := by
  refine ⟨_, c, g, 0, rfl, fun _ => rfl, fun j x hj => ?_⟩
  match j, hj with
  | 0, hj => simp at hj; subst hj; exact ⟨by rw [h.cell]; rfl, h1⟩
  | 1, hj => simp at hj; subst hj; exact ⟨by rw [h.cell]; rfl, h2⟩
theorem srcs_cons3 {w : World} {g : Nat} {v1 v2 v3 : Value} {m1 m2 m3 : List Int} {t : TypeId} (h : At w g #[v1, v2, v3] t) (h1 : Src w v1 m1 w.heap.size) (h2 : Src w v2 m2 w.heap.size) (h3 : Src w v3 m3 w.heap.size) (c : Nat) : Srcs w (.slice (some ⟨g, 0, none⟩) 3 c) [(v1, m1), (v2, m2), (v3, m3)] := by
  refine ⟨_, c, g, 0, rfl, fun _ => rfl, fun j x hj => ?_⟩
  match j, hj with
  | 0, hj => simp at hj; subst hj; exact ⟨by rw [h.cell]; rfl, h1⟩
  | 1, hj => simp at hj; subst hj; exact ⟨by rw [h.cell]; rfl, h2⟩
  | 2, hj => simp at hj; subst hj; exact ⟨by rw [h.cell]; rfl, h3⟩

end Go.Proofs.YtblhipdcgdhmiaaDoor
