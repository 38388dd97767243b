/- The walk of CodecWrites. -/
import Derived.Test.YtcdaecnpohfchaaDoorCl
namespace Go.Proofs.YtcdaecnpohfchaaDoor
open Go.RowKit Go.Sha

theorem wpost_src {w w' : World} {o : Option (List Int)} {v : Value} {c : Bool} (h : (∀ b, o = some b → c = true ∧ OwnB w' w.heap.size v b) ∧ (o = none → c = false ∧ v = .slice none 0 0)) : c = o.isSome ∧ Src w' v (o.getD []) w'.heap.size := by
  cases o with
  | none => obtain ⟨h1, h2⟩ := h.2 rfl; subst h1 h2; exact ⟨rfl, Src.nil _ _⟩
  | some b => obtain ⟨h1, h2⟩ := h.1 b rfl; exact ⟨h1, h2.srcs _ (Or.inr (Nat.le_refl _))⟩
theorem isum_len (l : List Itm) : l.length ≤ isum l := by
  unfold isum
  induction l with
  | nil => simp
  | cons x r ih => simp only [List.length_cons, List.map_cons, List.sum_cons]; omega
set_option maxHeartbeats 1000000 in
set_option maxRecDepth 100000 in
theorem writes_any (v : Value) (l : List Itm) (w : World) (h : IAt w v l) (hl : l.length ≤ 9223372036854775807) : Calls Tryd.prog 3 #[v] w fun e w' => e = .returned (.bool true) ∧ Ext w w' := by
  have H := Lib.hid h; clear h
  go_enter Tryd.func3, Tryd.ntmps3
  go_wp2_with fail
  refine (small_any v l w H.out hl).mono ?_
  rintro e w1 ⟨⟨c, rfl, hc⟩, e1⟩
  cases c with
  | false =>
    clear hc
    go_wp2_with fail
    refine (awake_any w1).mono ?_
    rintro e w2 ⟨rfl, e2⟩
    go_wp2
    go_ret
    exact ⟨rfl, e1.trans e2⟩
  | true =>
    have hs := hc rfl
    have Hs := Lib.hid hs
    have Hl := Lib.hid (Nat.le_trans (isum_len l) hs)
    have H1 := Lib.hid (H.out.ext e1)
    clear hc hs
    go_wp2_with fail
    refine (written_any v l w1 H1.out Hl.out Hs.out).mono ?_
    rintro e w2 ⟨v2, c2, rfl, e2, h2⟩
    obtain ⟨rfl, s2⟩ := wpost_src h2
    have S2 := Lib.hid s2
    have H2 := Lib.hid (H1.out.ext e2)
    clear h2 s2
    go_wp2_with fail
    refine (made_any v l w2 H2.out Hl.out Hs.out).mono ?_
    rintro e w3 ⟨v3, c3, rfl, e3, h3⟩
    obtain ⟨rfl, s3⟩ := wpost_src h3
    have S3 := Lib.hid s3
    have S23 := Lib.hid (S2.out.now e3)
    clear h3 s3
    go_wp2_with fail
    refine (done_nil w3).mono ?_
    rintro e w' ⟨rfl, rfl⟩
    have cv2 := conv_src (P := Tryd.prog) 25 9 5 Tryd.underlying25 Tryd.underlying5 Tryd.underlying9 S23.out
    have cv3 := conv_src (P := Tryd.prog) 25 9 5 Tryd.underlying25 Tryd.underlying5 Tryd.underlying9 S3.out
    generalize (encAll l).isSome = B at *
    generalize strOfNums ((encAll l).getD []) = T at *
    have tB : (B == B) = true := by simp
    go_wp2_with fail
    refine (wnum_nil w3).mono ?_
    rintro e w4 ⟨rfl, e4⟩
    go_wp2_with fail
    refine (awake_any w4).mono ?_
    rintro e w5 ⟨rfl, e5⟩
    go_wp2
    go_ret
    exact ⟨rfl, (((e1.trans e2).trans e3).trans e4).trans e5⟩
end Go.Proofs.YtcdaecnpohfchaaDoor
