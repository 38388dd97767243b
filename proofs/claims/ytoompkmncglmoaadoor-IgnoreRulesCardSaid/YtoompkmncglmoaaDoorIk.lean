/- The contract of the laws' awake. -/
import Derived.Test.YtoompkmncglmoaaDoorIj
namespace Go.Proofs.YtoompkmncglmoaaDoor
open Go.RowKit Go.Pth

def awL : List B := [[42, 46, 111], [33, 97, 46, 111]]
def awM : List B := [[33]]
theorem awL_ok : (awL.map mkR).all okR = true := by decide +kernel
theorem awM_no : (awM.map mkR).all okR = false := by decide +kernel
theorem aw_1 : ignored (awL.map mkR) [98, 47, 120, 46, 111] false = true := by decide +kernel
theorem aw_2 : ignored (awL.map mkR) [97, 46, 111] false = false := by decide +kernel
theorem aw_3 : mB [97, 42] [97, 98] = true := by decide +kernel
theorem aw_4 : mB [97, 42] [97, 47, 98] = false := by decide +kernel
theorem aw_5 : mB [97, 42, 42] [97, 47, 98] = true := by decide +kernel
theorem small_any {ls : List B} (h : (ls.all fun l => (mkR l).pat.all (fun b => decide (b.toNat < 128)) && decide ((mkR l).pat.length ≤ 1000)) = true) : ∀ l ∈ ls, AnyOk (mkR l).pat := fun l hl => by
  have h1 := List.all_eq_true.1 h l hl
  rw [Bool.and_eq_true] at h1
  exact anyOk_ascii (fun b hb => of_decide_eq_true (List.all_eq_true.1 h1.1 b hb)) (by have := of_decide_eq_true h1.2; omega)
theorem awN (w : World) : Calls Tryd.prog 12 #[.slice (some ⟨w.heap.size, 0, none⟩) 2 2] (w.alloc (.cells #[.string ⟨#[42, 46, 111]⟩, .string ⟨#[33, 97, 46, 111]⟩] 9)) fun e w' => ∃ p, e = .returned (.tuple #[.pointer (some p), .int .i64 0]) ∧ Rul w' (.pointer (some p)) (awL.map mkR) ∧ Ext w w' := by
  refine (new_any (.slice (some ⟨w.heap.size, 0, none⟩) 2 2) awL _ (Txt.new w awL).o (by decide) (fun _ l hl => ?_) (fun _ => small_any (by decide +kernel))).mono fun e w' h => ?_
  · have : (awL.all fun l => decide (l.length ≤ 1000000)) = true := by decide +kernel
    exact of_decide_eq_true (List.all_eq_true.1 this l hl)
  · obtain ⟨h1, h2⟩ := h
    rw [if_neg (by decide), if_pos awL_ok] at h2
    obtain ⟨v, rfl, h3⟩ := h2
    have h4 := h3
    obtain ⟨rb, ad, cap, b, rfl, -⟩ := h4
    exact ⟨_, rfl, h3, (Ext.alloc w _).trans h1⟩
theorem awO (w : World) : Calls Tryd.prog 12 #[.slice (some ⟨w.heap.size, 0, none⟩) 1 1] (w.alloc (.cells #[.string ⟨#[33]⟩] 9)) fun e w' => e = .returned (.tuple #[.pointer none, .int .i64 1]) ∧ Ext w w' := by
  refine (new_any (.slice (some ⟨w.heap.size, 0, none⟩) 1 1) awM _ (Txt.new w awM).o (by decide) (fun _ l hl => ?_) (fun _ => small_any (by decide +kernel))).mono fun e w' h => ?_
  · have : (awM.all fun l => decide (l.length ≤ 1000000)) = true := by decide +kernel
    exact of_decide_eq_true (List.all_eq_true.1 this l hl)
  · obtain ⟨h1, h2⟩ := h
    rw [if_neg (by decide), if_neg (by rw [awM_no]; exact Bool.false_ne_true)] at h2
    exact ⟨h2, (Ext.alloc w _).trans h1⟩
theorem awI (p : Addr) (w : World) (h : Rul w (.pointer (some p)) (awL.map mkR)) (s : ByteArray) (b : Bool) (hb : ignored (awL.map mkR) s.toList false = b) : Calls Tryd.prog 14 #[.pointer (some p), .string s, .bool false] w fun e w' => e = .returned (.bool b) ∧ Ext w w' := by
  rw [← hb]; exact ignored_any _ _ s false w h (by decide)
theorem awB (p s : ByteArray) (b : Bool) (w : World) (hb : mB p.toList s.toList = b) : Calls Tryd.prog 9 #[.string p, .string s] w fun e w' => e = .returned (.bool b) ∧ Ext w w' := by
  rw [← hb]; exact match_any p s w
theorem tl (l : B) : (⟨l.toArray⟩ : ByteArray).toList = l := ByteArray.toList_mk l
set_option maxRecDepth 100000 in
set_option maxHeartbeats 4000000 in
theorem awake_any (w : World) : Calls Tryd.prog 8 #[] w fun e w' => e = .returned (.bool true) ∧ Ext w w' := by
  go_enter Tryd.func8, Tryd.ntmps8
  go_wp2_with fail
  refine (awN w).mono ?_
  rintro e w1 ⟨p, rfl, h1, e1⟩
  have H1 := Lib.hid h1
  clear h1
  go_wp2_with fail
  refine (awO w1).mono ?_
  rintro e w2 ⟨rfl, e2⟩
  have E2 := Lib.hid (e1.trans e2)
  have H2 := Lib.hid (H1.out.ext e2)
  clear e1 e2 H1
  go_wp2_with fail
  refine (awI p w2 H2.out _ true (by rw [show ∀ l : B, ByteArray.toList ⟨l.toArray⟩ = l from tl]; exact aw_1)).mono ?_
  rintro e w3 ⟨rfl, e3⟩
  have E3 := Lib.hid (E2.out.trans e3)
  have H3 := Lib.hid (H2.out.ext e3)
  clear e3 E2 H2
  go_wp2_with fail
  refine (awI p w3 H3.out _ false (by rw [show ∀ l : B, ByteArray.toList ⟨l.toArray⟩ = l from tl]; exact aw_2)).mono ?_
  rintro e w4 ⟨rfl, e4⟩
  have E4 := Lib.hid (E3.out.trans e4)
  clear e4 E3 H3
  go_wp2_with fail
  refine (awB _ _ true w4 (by rw [show ∀ l : B, ByteArray.toList ⟨l.toArray⟩ = l from tl, show ∀ l : B, ByteArray.toList ⟨l.toArray⟩ = l from tl]; exact aw_3)).mono ?_
  rintro e w5 ⟨rfl, e5⟩
  have E5 := Lib.hid (E4.out.trans e5)
  clear e5 E4
  go_wp2_with fail
  refine (awB _ _ false w5 (by rw [show ∀ l : B, ByteArray.toList ⟨l.toArray⟩ = l from tl, show ∀ l : B, ByteArray.toList ⟨l.toArray⟩ = l from tl]; exact aw_4)).mono ?_
  rintro e w6 ⟨rfl, e6⟩
  have E6 := Lib.hid (E5.out.trans e6)
  clear e6 E5
  go_wp2_with fail
  refine (awB _ _ true w6 (by rw [show ∀ l : B, ByteArray.toList ⟨l.toArray⟩ = l from tl, show ∀ l : B, ByteArray.toList ⟨l.toArray⟩ = l from tl]; exact aw_5)).mono ?_
  rintro e w7 ⟨rfl, e7⟩
  have E7 := Lib.hid (E6.out.trans e7)
  clear e7 E6
  go_wp2_with fail
  go_ret
  exact ⟨rfl, E7.out⟩
theorem awake_acc {w0 w : World} (h : Ext w0 w) : Calls Tryd.prog 8 #[] w fun e w' => e = .returned (.bool true) ∧ Ext w0 w' :=
  (awake_any w).mono fun _ _ ⟨x, y⟩ => ⟨x, h.trans y⟩
end Go.Proofs.YtoompkmncglmoaaDoor
