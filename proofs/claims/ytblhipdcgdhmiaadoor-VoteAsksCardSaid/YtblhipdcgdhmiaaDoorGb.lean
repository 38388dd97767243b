/- The contracts of Seal (the code's and the document's). -/
import Derived.Test.YtblhipdcgdhmiaaDoorGa
namespace Go.Proofs.YtblhipdcgdhmiaaDoor
open Go.RowKit Go.Sha
set_option linter.unusedSimpArgs false

/-- Bytes, and their sum behind them. -/
def sealL (m : List Int) : List Int := m ++ shaL m
theorem sealL_length (m : List Int) : (sealL m).length = m.length + 32 := by rw [sealL, List.length_append, shaL_length]
theorem srcs_cons1 {w : World} {g : Nat} {v1 : Value} {m1 : List Int} {t : TypeId} (h : At w g #[v1] t) (h1 : Src w v1 m1 w.heap.size) (c : Nat) : Srcs w (.slice (some ⟨g, 0, none⟩) 1 c) [(v1, m1)] := by
  refine ⟨_, c, g, 0, rfl, fun _ => rfl, fun j x hj => ?_⟩
  match j, hj with
  | 0, hj => simp at hj; subst hj; exact ⟨by rw [h.cell]; rfl, h1⟩

set_option maxHeartbeats 1000000 in
theorem seal_any (v : Value) (m : List Int) (w : World) (hK : KAt w) (hs : Src w v m w.heap.size) (hl : m.length ≤ 100000000) : Calls Tryd.prog 22 #[v] w (BPost w (sealL m)) := by
  obtain ⟨ad, cap, ev⟩ := hs.len
  subst ev
  obtain ⟨n, hn⟩ : ∃ n, n = m.length := ⟨_, rfl⟩
  rw [← hn] at hs hl ⊢
  have e1 : Ext w (w.alloc (.cells #[.slice ad n cap] 22)) := Ext.alloc w _
  have s1 := hs.now e1
  have S1 := srcs_cons1 (At.new w #[.slice ad n cap] 22) s1 1
  have k1 := hK.below e1 hK.lt
  have Hn := Lib.hid hn
  clear hn s1
  go_enter Tryd.func22, Tryd.ntmps22
  go_wp2_with fail
  refine (dsum_any _ _ _ k1 S1 (by simp [flat]; rw [← Hn.out]; omega) (by simp)).mono ?_
  intro e w' h
  obtain ⟨v', rfl, e4, o4⟩ := sum_own h
  rw [show flat [(Value.slice ad n cap, m)] = m by simp [flat]] at o4
  have e5 := e1.trans e4
  obtain ⟨ad2, cap2, ev⟩ := o4.len
  subst ev
  rw [shaL_length] at o4 ⊢
  have s4 := o4.srcs _ (Or.inr (Nat.le_refl _))
  have e6 : Ext w' (w'.alloc (.cells #[.slice ad n cap, .slice ad2 32 cap2] 22)) := Ext.alloc w' _
  have S2 := srcs_cons2 (At.new w' #[.slice ad n cap, .slice ad2 32 cap2] 22) ((hs.now e5).now e6) (s4.now e6) 2
  have e7 := e5.trans e6
  have hfl : flat [(Value.slice ad n cap, m), (Value.slice ad2 32 cap2, shaL m)] = sealL m := by simp [flat, sealL]
  have hfl2 : (flat [(Value.slice ad n cap, m), (Value.slice ad2 32 cap2, shaL m)]).length ≤ 1000000000 := by rw [hfl, sealL_length, ← Hn.out]; omega
  have CA := concat_any _ _ _ S2 hfl2 (by simp)
  rw [hfl] at CA
  have HCA := Lib.hid CA
  clear CA S2 s4 hfl hfl2 h S1 o4 k1
  simp only [] at *
  go_wp2_with fail
  refine HCA.out.mono ?_
  rintro e w8 ⟨v8, rfl, e8, o8⟩
  go_wp2
  go_ret
  exact ⟨v8, rfl, e7.trans e8, o8.less e7.size⟩

set_option maxHeartbeats 1000000 in
theorem rseal_any (v : Value) (m : List Int) (w : World) (hs : Src w v m w.heap.size) (hl : m.length ≤ 30000) : Calls Tryd.prog 23 #[v] w (BPost w (sealL m)) := by
  have e1 : Ext w (w.alloc (.cells #[] 5)) := Ext.alloc w _
  have hown := OwnB.made w
  have s1 := hs.now e1
  obtain ⟨ad, cap, ev⟩ := hs.len
  subst ev
  go_enter Tryd.func23, Tryd.ntmps23
  go_wp2_with (refine list_append_bytes rfl (.tmp 3) (.tmp 4) 22 rfl Tryd.underlying22 u8zero w.heap.size (.slice (some ⟨w.heap.size, 0, none⟩) 0 0) [] rfl hown _ m _ rfl s1 (by rw [List.length_nil]; omega) e1.size ?_; intro vx w4 ox gx)
  have b4 := hown.grown gx e1.size
  have e4 : Ext w w4 := Below.trans e1 b4
  rw [List.nil_append] at ox
  refine (ref_any _ m w4 (hs.now e4) hl).mono ?_
  rintro e w5 ⟨v5, rfl, e5, o5⟩
  have ox2 := ox.ext e5
  have e45 := e4.trans e5
  have s5 := o5.srcs _ (Or.inr (Nat.le_refl _))
  clear ox gx s1 hown
  go_wp2_with (refine list_append_bytes rfl (.tmp 5) (.tmp 7) 22 rfl Tryd.underlying22 u8zero w.heap.size _ m rfl ox2 _ (shaL m) _ rfl s5 (by rw [shaL_length]; omega) e45.size ?_; intro vy w6 oy gy)
  have b6 := ox2.grown gy e45.size
  go_ret
  exact ⟨vy, rfl, Below.trans e45 b6, oy⟩
end Go.Proofs.YtblhipdcgdhmiaaDoor
