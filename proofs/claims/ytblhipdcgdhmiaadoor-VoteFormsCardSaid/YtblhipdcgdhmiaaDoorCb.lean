/- The contracts of the Reader's small functions: Err, Left, fail, take, Clone. -/
import Derived.Test.YtblhipdcgdhmiaaDoorRows
import Derived.Test.YtblhipdcgdhmiaaDoorCa
import Derived.Laws.Cover3
namespace Go.Proofs.YtblhipdcgdhmiaaDoor
open Go.RowKit Go.Sha

theorem err_nil (w : World) : Calls Tryd.prog 30 #[.pointer none] w fun e w' => e = .returned (.int .i64 2) ∧ w = w' := by
  go_enter Tryd.func30, Tryd.ntmps30
  go_wp2
  go_ret
  exact ⟨rfl, rfl⟩
theorem left_nil (w : World) : Calls Tryd.prog 31 #[.pointer none] w fun e w' => e = .returned (.int .i64 0) ∧ w = w' := by
  go_enter Tryd.func31, Tryd.ntmps31
  go_wp2
  go_ret
  exact ⟨rfl, rfl⟩
theorem err_any (b : Nat) (l : List Int) (er : Int) (w : World) (h : RSt w b l er) : Calls Tryd.prog 30 #[.pointer (some ⟨b, 0, none⟩)] w fun e w' => e = .returned (.int .i64 er) ∧ w = w' := by
  obtain ⟨v, h1, h2, h3⟩ := h
  have c1 : w.cell? ⟨b, 1, none⟩ = some (.int .i64 er) := by rw [h1.cell]; rfl
  clear h1 h2 h3
  go_enter Tryd.func30, Tryd.ntmps30
  go_wp2
  go_ret
  exact ⟨rfl, rfl⟩
theorem left_any (b : Nat) (l : List Int) (er : Int) (w : World) (h : RSt w b l er) : Calls Tryd.prog 31 #[.pointer (some ⟨b, 0, none⟩)] w fun e w' => e = .returned (.int .i64 (l.length : Int)) ∧ w = w' := by
  obtain ⟨v, h1, h2, h3⟩ := h
  obtain ⟨ad, cap, rfl⟩ := (h2 b (Nat.le_refl _)).len
  have c1 : w.cell? ⟨b, 0, none⟩ = some (.slice ad l.length cap) := by rw [h1.cell]; rfl
  clear h1 h2 h3
  go_enter Tryd.func31, Tryd.ntmps31
  go_wp2
  go_ret
  exact ⟨rfl, rfl⟩
theorem fail_nil (y : Int) (w : World) : Calls Tryd.prog 50 #[.pointer none, .int .i64 y] w fun e w' => e = .returned (.tuple #[]) ∧ w = w' := by
  go_enter Tryd.func50, Tryd.ntmps50
  go_wp2_with fail
  refine (err_nil w).mono ?_
  rintro e w' ⟨rfl, rfl⟩
  go_wp2
  go_end0
  exact ⟨rfl, rfl⟩
theorem fail_err (b : Nat) (l : List Int) (er y : Int) (w : World) (h : RSt w b l er) (he : er ≠ 0) : Calls Tryd.prog 50 #[.pointer (some ⟨b, 0, none⟩), .int .i64 y] w fun e w' => e = .returned (.tuple #[]) ∧ w = w' := by
  have t1 : (er == 0) = false := beq_eq_false_iff_ne.2 he
  clear he
  go_enter Tryd.func50, Tryd.ntmps50
  go_wp2_with fail
  refine (err_any b l er w h).mono ?_
  rintro e w' ⟨rfl, rfl⟩
  clear h
  go_wp2
  go_end0
  exact ⟨rfl, rfl⟩
theorem sz67 : (Tryd.prog.info? 85).map (·.size) = some 2 := by kernel_rfl
theorem fail_ok (b : Nat) (l : List Int) (y : Int) (w : World) (h : RSt w b l 0) : Calls Tryd.prog 50 #[.pointer (some ⟨b, 0, none⟩), .int .i64 y] w fun e w' => e = .returned (.tuple #[]) ∧ Only b w w' ∧ RSt w' b [] y := by
  go_enter Tryd.func50, Tryd.ntmps50
  go_wp2_with fail
  refine (err_any b l 0 w h).mono ?_
  rintro e w' ⟨rfl, rfl⟩
  obtain ⟨v, h1, h2, h3⟩ := h
  have h4 : At w b [v, .int .i64 0].toArray 85 := h1
  have t1 : w.there b 0 2 := fun j hj => ⟨by rw [h1.cell]; simp; omega, h1.frozen _⟩
  clear h2 h3
  go_wp2_with (refine wpList_store_mid rfl 85 _ _ rfl b 0 #[.slice none 0 0, .int .i64 y] rfl rfl t1 sz67 (by simp [Value.oneCell']) ?_)
  go_end0
  refine ⟨rfl, Only.cells b _ 0 w, .slice none 0 0, ?_, fun bh _ => Src.nil _ bh, fun _ => rfl⟩
  exact At.cells (t := 85) [.slice none 0 0, .int .i64 y] [v, .int .i64 0] 0 w h4 (by simp)

theorem clone_at (v : Value) (m : List Int) (b : Nat) (w : World) (hs : Src w v m b) (hl : m.length ≤ 70368744177664) : Calls Tryd.prog 47 #[v] w (BPost w m) := by
  have hs' := hs
  obtain ⟨ad, cap, xb, xo, rfl, x2, x3, x4, x5, x6⟩ := hs
  cases ad with
  | none =>
    have h0 : m = [] := List.length_eq_zero_iff.1 (Nat.eq_zero_of_not_pos fun hp => by cases x3 hp)
    subst h0
    obtain rfl := x6 rfl
    clear x2 x3 x4 x5 x6 hs'
    have hq := eql_nil
    go_enter Tryd.func47, Tryd.ntmps47
    go_wp2
    go_ret
    exact ⟨_, rfl, Ext.refl w, OwnB.nil w _⟩
  | some A =>
    have hown := OwnB.made w
    have e1 : Ext w (w.alloc (.cells #[] 5)) := Ext.alloc w _
    have s1 := hs'.now e1
    have hB0 : w.heap.size ≤ (w.alloc (.cells #[] 5)).heap.size := by simp
    clear x2 x3 x4 x5 x6 hs'
    have hq := eql_nil
    go_enter Tryd.func47, Tryd.ntmps47
    go_wp2_with (refine list_append_bytes rfl (.tmp 5) (.tmp 6) 22 rfl Tryd.underlying22 u8zero w.heap.size (.slice (some ⟨w.heap.size, 0, none⟩) 0 0) [] rfl hown _ m _ rfl s1 (by rw [List.length_nil]; omega) hB0 ?_; intro vx w4 ox gx; have b4 := hown.grown gx hB0; rw [List.nil_append] at ox)
    go_ret
    exact ⟨_, rfl, Below.trans e1 b4, ox⟩

theorem take_nil (n : Nat) (w : World) : Calls Tryd.prog 49 #[.pointer none, .int .i64 (n : Int)] w fun e w' => e = .returned (.slice none 0 0) ∧ w = w' := by
  by_cases h : 0 < n
  · have t1 : decide (0 < n) = true := by simp; omega
    clear h
    go_enter Tryd.func49, Tryd.ntmps49
    go_wp2_with fail
    refine (left_nil w).mono ?_
    rintro e w' ⟨rfl, rfl⟩
    go_wp2_with fail
    refine (fail_nil 2 w).mono ?_
    rintro e w' ⟨rfl, rfl⟩
    go_wp2_with fail
    refine (err_nil w).mono ?_
    rintro e w' ⟨rfl, rfl⟩
    go_wp2
    go_ret
    exact ⟨rfl, rfl⟩
  · have t1 : decide (0 < n) = false := by simp; omega
    clear h
    go_enter Tryd.func49, Tryd.ntmps49
    go_wp2_with fail
    refine (left_nil w).mono ?_
    rintro e w' ⟨rfl, rfl⟩
    go_wp2_with fail
    refine (err_nil w).mono ?_
    rintro e w' ⟨rfl, rfl⟩
    go_wp2
    go_ret
    exact ⟨rfl, rfl⟩
theorem take_err (b : Nat) (er : Int) (n : Nat) (w : World) (h : RSt w b [] er) (he : er ≠ 0) : Calls Tryd.prog 49 #[.pointer (some ⟨b, 0, none⟩), .int .i64 (n : Int)] w fun e w' => e = .returned (.slice none 0 0) ∧ w = w' := by
  have t2 : (er == 0) = false := beq_eq_false_iff_ne.2 he
  have H := Lib.hid h; clear h
  have He := Lib.hid he; clear he
  by_cases h : 0 < n
  · have t1 : decide (0 < n) = true := by simp; omega
    clear h
    go_enter Tryd.func49, Tryd.ntmps49
    go_wp2_with fail
    refine (left_any b _ _ w H.out).mono ?_
    rintro e w' ⟨rfl, rfl⟩
    go_wp2_with fail
    refine (fail_err b _ _ 2 w H.out He.out).mono ?_
    rintro e w' ⟨rfl, rfl⟩
    go_wp2_with fail
    refine (err_any b _ _ w H.out).mono ?_
    rintro e w' ⟨rfl, rfl⟩
    go_wp2
    go_ret
    exact ⟨rfl, rfl⟩
  · have t1 : decide (0 < n) = false := by simp; omega
    clear h
    go_enter Tryd.func49, Tryd.ntmps49
    go_wp2_with fail
    refine (left_any b _ _ w H.out).mono ?_
    rintro e w' ⟨rfl, rfl⟩
    go_wp2_with fail
    refine (err_any b _ _ w H.out).mono ?_
    rintro e w' ⟨rfl, rfl⟩
    go_wp2
    go_ret
    exact ⟨rfl, rfl⟩
theorem take_short (b : Nat) (l : List Int) (n : Nat) (w : World) (h : RSt w b l 0) (hn : l.length < n) : Calls Tryd.prog 49 #[.pointer (some ⟨b, 0, none⟩), .int .i64 (n : Int)] w fun e w' => e = .returned (.slice none 0 0) ∧ Only b w w' ∧ RSt w' b [] 2 := by
  have H := Lib.hid h; clear h
  have t1 : decide (l.length < n) = true := by simp; omega
  clear hn
  go_enter Tryd.func49, Tryd.ntmps49
  go_wp2_with fail
  refine (left_any b _ _ w H.out).mono ?_
  rintro e w' ⟨rfl, rfl⟩
  go_wp2_with fail
  refine (fail_ok b _ 2 w H.out).mono ?_
  rintro e w' ⟨rfl, ho, hr⟩
  have Hr := Lib.hid hr; clear hr
  go_wp2_with fail
  refine (err_any b _ _ w' Hr.out).mono ?_
  rintro e w' ⟨rfl, rfl⟩
  go_wp2
  go_ret
  exact ⟨rfl, ho, Hr.out⟩
set_option maxHeartbeats 400000 in
theorem take_ok (b : Nat) (l : List Int) (n : Nat) (w : World) (h : RSt w b l 0) (hn : n ≤ l.length) : Calls Tryd.prog 49 #[.pointer (some ⟨b, 0, none⟩), .int .i64 (n : Int)] w fun e w' => ∃ v, e = .returned v ∧ Only b w w' ∧ RSt w' b (l.drop n) 0 ∧ Src w' v (l.take n) b := by
  have H := Lib.hid h; clear h
  have t1 : decide (l.length < n) = false := by simp; omega
  have Hn := Lib.hid hn; clear hn
  go_enter Tryd.func49, Tryd.ntmps49
  go_wp2_with fail
  refine (left_any b _ _ w H.out).mono ?_
  rintro e w' ⟨rfl, rfl⟩
  go_wp2_with fail
  refine (err_any b _ _ w H.out).mono ?_
  rintro e w' ⟨rfl, rfl⟩
  obtain ⟨v, h1, h2, h3⟩ := H.out
  have SU := Lib.hid h2
  replace h2 := h2 b (Nat.le_refl _)
  have S2 := Lib.hid h2
  obtain ⟨ad, cap, sb, so, rfl, x2, x3, x4, x5, x6⟩ := h2
  clear H
  have hn := Hn.out
  have c0 : w.cell? ⟨b, 0, none⟩ = some (.slice ad l.length cap) := by rw [h1.cell]; rfl
  have f0 := h1.frozen 0
  have n0 : (0 : Int) ≤ (n : Int) := by omega
  have n1 : (n : Int) ≤ (l.length : Int) := by omega
  have n2 : (n : Int) ≤ (cap : Int) := by omega
  have H1 := Lib.hid h1; clear h1
  clear h3 hn x3 x4 x5 x6
  go_wp2
  all_goals go_ret
  · subst h
    exact ⟨_, rfl, Only.set b 0 w _, RSt.set H1.out (fun bh hbh => src_back0 (SU.out bh hbh) rfl), (src_front S2.out Hn.out).only (Only.set b 0 w _)⟩
  · exact ⟨_, rfl, Only.set b 0 w _, RSt.set H1.out (fun bh hbh => src_back (SU.out bh hbh) Hn.out), (src_front S2.out Hn.out).only (Only.set b 0 w _)⟩
end Go.Proofs.YtblhipdcgdhmiaaDoor
