/- The walk of ParityAsks: its parts. -/
import Derived.Test.YthkdibppddamlaaDoorQi
import Derived.Test.YthkdibppddamlaaDoorWn
import Derived.Test.YthkdibppddamlaaDoorRw
namespace Go.Proofs.YthkdibppddamlaaDoor
open Go.RowKit Go.Sha
set_option linter.unusedSimpArgs false

theorem fixL_none (m : List Int) (B K : Int) (leaves par : List (List Int)) (h : grpsN m.length B K = 0) : fixL m B K leaves par = m := by
  unfold fixL healC
  rw [h]
  simp [healN]

set_option maxHeartbeats 4000000 in
set_option maxRecDepth 100000 in
theorem fix_none (vd vl vp : Value) (m : List Int) (B K : Int) (leaves par : List (List Int)) (w : World) (hK : KAt w) (hs : Src w vd m w.heap.size) (hl : LR w vl leaves w.heap.size) (hp : LR w vp par w.heap.size)
    (hm : m.length ≤ 1048576) (hll : leaves.length ≤ 1000000000) (hpl : par.length ≤ 1000000000) (h0 : grpsN m.length B K = 0) :
    Calls Tryd.prog 9 #[vd, .int .i64 B, .int .i64 K, vl, vp] w (FPost w m (badL m B leaves)) := by
  obtain ⟨ad, cap, ev⟩ := hs.len
  subst ev
  obtain ⟨adp, capp, ev⟩ := hp.len
  subst ev
  obtain ⟨P, hP⟩ : ∃ P, P = par.length := ⟨_, rfl⟩
  rw [← hP] at hpl ⊢
  clear hP hp
  have hmin : ∀ w, (Builtin.min_ #[3, 3] 3 #[.int .i64 0, .int .i64 (P : Int)]).run Tryd.prog w = .ok (.int .i64 0) w := fun w => by
    rw [run_min_int2]
    have : (if (P : Int) < (0 : Int) then (P : Int) else (0 : Int)) = 0 := by split <;> omega
    rw [this]
  go_enter Tryd.func9, Tryd.ntmps9
  go_wp2
  go_step3
  go_wp2_with fail
  refine (clone_any _ m w hs (by omega)).mono ?_
  rintro e w1 ⟨vf, rfl, e1, o1⟩
  go_wp2_with fail
  refine (cntM m.length B w1).mono ?_
  rintro e w' ⟨rfl, rfl⟩
  go_wp2
  go_step3
  go_wp2_with fail
  refine (groups_any m.length B K w1).mono ?_
  rintro e w' ⟨rfl, rfl⟩
  rw [h0]
  have sf := o1.srcs w1.heap.size (Or.inr (Nat.le_refl _))
  clear o1
  go_wp2
  go_loopw [31] (fun i wr => i = .int .i64 0 ∧ w1 = wr) (fun _ _ => 0)
  case atStart => exact ⟨rfl, rfl⟩
  case round =>
    obtain ⟨rfl, rfl⟩ := hrel
    have kr := hK.below e1 hK.lt
    have hlv := hl.now e1
    go_wp2_with fail
    refine (bad_any vf m B vl leaves w1 kr sf hlv hm hll).mono ?_
    rintro e w2 ⟨u, rfl, e2, ir⟩
    have s2 := sf.now e2
    have e3 := e1.trans e2
    clear hlv kr
    go_wp2
    simp only [Exit.noGoto]
    go_ret2
    exact ⟨_, _, rfl, e3, s2, ir⟩

set_option maxHeartbeats 4000000 in
set_option maxRecDepth 100000 in
theorem rfix_none (vd vl vp : Value) (m : List Int) (B K : Int) (leaves par : List (List Int)) (w : World) (hs : Src w vd m w.heap.size) (hl : LR w vl leaves w.heap.size) (hp : LR w vp par w.heap.size)
    (hm : m.length ≤ 3000) (hll : leaves.length ≤ 1000000000) (h0 : grpsN m.length B K = 0) :
    Calls Tryd.prog 10 #[vd, .int .i64 B, .int .i64 K, vl, vp] w (FPost w m (badL m B leaves)) := by
  obtain ⟨ad, cap, ev⟩ := hs.len
  subst ev
  obtain ⟨adp, capp, ev⟩ := hp.len
  subst ev
  have x1 : Ext w (w.alloc (.cells #[] 5)) := Ext.alloc w _
  have hown := OwnB.made w
  have hB0 : w.heap.size ≤ (w.alloc (.cells #[] 5)).heap.size := by simp
  have s1 : Src (w.alloc (.cells #[] 5)) (.slice ad m.length cap) m (w.alloc (.cells #[] 5)).heap.size := hs.now x1
  have CG := Lib.hid (fun w => rgroups_any m.length B K w)
  rw [h0] at CG
  go_enter Tryd.func10, Tryd.ntmps10
  go_wp2_with (refine list_append_bytes rfl (.tmp 22) (.tmp 23) 22 rfl Tryd.underlying22 u8zero w.heap.size (.slice (some ⟨w.heap.size, 0, none⟩) 0 0) [] rfl hown _ m _ rfl s1 (by rw [List.length_nil]; omega) hB0 ?_; intro vf w4 ox gx; have b4 := hown.grown gx hB0; rw [List.nil_append] at ox; have x4 : Ext w w4 := Below.trans x1 b4)
  refine (rbad_any _ m B vl leaves w4 (hs.now x4) (hl.now x4) hm hll).mono ?_
  rintro e w5 ⟨vb, rfl, e5, ib⟩
  have e1 : Ext w w5 := x4.trans e5
  have sf := (ox.srcs w4.heap.size (Or.inr (Nat.le_refl _))).now e5
  clear ox gx b4 x4 e5 hown hB0 s1 x1 ib
  go_wp2
  go_loopw [14] (fun i wr => i = .int .i64 0 ∧ w5 = wr) (fun _ _ => 0)
  case atStart => exact ⟨rfl, rfl⟩
  case round =>
    obtain ⟨rfl, rfl⟩ := hrel
    have hlv := hl.now e1
    go_wp2_with fail
    refine (CG.out w5).mono ?_
    rintro e w' ⟨rfl, rfl⟩
    go_wp2_with fail
    refine (rbad_any vf m B vl leaves w5 sf hlv hm hll).mono ?_
    rintro e w2 ⟨u, rfl, e2, ir⟩
    have s2 := sf.now e2
    have e3 := e1.trans e2
    clear hlv CG
    go_wp2
    go_ret2
    exact ⟨_, _, rfl, e3, s2, ir⟩

/-- Where block or k may not be there are no groups. -/
theorem grps_none (s B K : Int) (h : ¬ (1 ≤ B ∧ B ≤ 4096 ∧ 1 ≤ K ∧ K ≤ 8)) : grpsN s B K = 0 := by
  by_cases h0 : 0 < grpsN s B K
  · obtain ⟨h1, h2, h3, h4⟩ := grpsN_pos s B K h0
    exact absurd ⟨h3, h4, h1, h2⟩ h
  · have := grpsN_nonneg s B K
    omega
theorem fix_all (vd vl vp : Value) (m : List Int) (B K : Int) (leaves par : List (List Int)) (w : World) (hK : KAt w) (hs : Src w vd m w.heap.size) (hl : LR w vl leaves w.heap.size) (hp : LR w vp par w.heap.size)
    (hm : m.length ≤ 1048576) (hll : leaves.length ≤ 1000000000) (hpl : par.length ≤ 1000000000) (hpb : ∀ x ∈ par, Byt x) :
    Calls Tryd.prog 9 #[vd, .int .i64 B, .int .i64 K, vl, vp] w (FPost w (fixL m B K leaves par) (badL (fixL m B K leaves par) B leaves)) := by
  by_cases h : 1 ≤ B ∧ B ≤ 4096 ∧ 1 ≤ K ∧ K ≤ 8
  · obtain ⟨b, rfl⟩ := Int.eq_ofNat_of_zero_le (show 0 ≤ B by omega)
    obtain ⟨c, rfl⟩ := Int.eq_ofNat_of_zero_le (show 0 ≤ K by omega)
    exact fix_any vd vl vp m b c leaves par w hK hs hl hp hm hll hpl hpb (by omega) (by omega) (by omega) (by omega)
  · have h0 := grps_none m.length B K h
    rw [fixL_none m B K leaves par h0]
    exact fix_none vd vl vp m B K leaves par w hK hs hl hp hm hll hpl h0
theorem rfix_all (vd vl vp : Value) (m : List Int) (B K : Int) (leaves par : List (List Int)) (w : World) (hs : Src w vd m w.heap.size) (hl : LR w vl leaves w.heap.size) (hp : LR w vp par w.heap.size)
    (hm : m.length ≤ 3000) (hll : leaves.length ≤ 1000000000) (hpl : par.length ≤ 1000000000) :
    Calls Tryd.prog 10 #[vd, .int .i64 B, .int .i64 K, vl, vp] w (FPost w (fixL m B K leaves par) (badL (fixL m B K leaves par) B leaves)) := by
  by_cases h : 1 ≤ B ∧ B ≤ 4096 ∧ 1 ≤ K ∧ K ≤ 8
  · obtain ⟨b, rfl⟩ := Int.eq_ofNat_of_zero_le (show 0 ≤ B by omega)
    obtain ⟨c, rfl⟩ := Int.eq_ofNat_of_zero_le (show 0 ≤ K by omega)
    exact rfix_any vd vl vp m b c leaves par w hs hl hp hm hll hpl (by omega) (by omega) (by omega) (by omega)
  · have h0 := grps_none m.length B K h
    rw [fixL_none m B K leaves par h0]
    exact rfix_none vd vl vp m B K leaves par w hs hl hp hm hll h0

/-- What an Update answers. -/
def upA (par : List (List Int)) (old now : List Int) (B K : Int) : List (List Int) := if fitsL par old.length B K then updL par old now B K else []
def upE (par : List (List Int)) (old : List Int) (B K : Int) : Int := if fitsL par old.length B K then 0 else 1
theorem upA_length (par : List (List Int)) (old now : List Int) (B K : Int) : (upA par old now B K).length ≤ 1048584 := by
  unfold upA
  split
  · rw [updL_length]; have := grpsN_le now.length B K; have := grpsN_nonneg now.length B K; omega
  · simp
theorem update_all (v vo vn : Value) (par : List (List Int)) (old now : List Int) (B K : Int) (w : World) (hv : LR w v par w.heap.size) (hl : par.length ≤ 1000000000) (ho : Src w vo old w.heap.size) (hn : Src w vn now w.heap.size) (hm : old.length ≤ 1048576) (hm2 : now.length ≤ 1048576) :
    Calls Tryd.prog 7 #[v, vo, vn, .int .i64 B, .int .i64 K] w (UPost w (upA par old now B K) (upE par old B K)) := by
  unfold upA upE
  cases hf : fitsL par old.length B K with
  | true => exact update_ok v vo vn par old now B K w hv hl ho hn hm hm2 hf
  | false => exact update_not v vo vn par old B K w _ hv hl ho hf
theorem rupdate_all (v vo vn : Value) (par : List (List Int)) (old now : List Int) (B K : Int) (w : World) (hv : LR w v par w.heap.size) (hl : par.length ≤ 1000000000) (ho : Src w vo old w.heap.size) (hn : Src w vn now w.heap.size) (hm : old.length ≤ 1048576) (hm2 : now.length ≤ 1048576) (hbp : ∀ x ∈ par, Byt x) :
    Calls Tryd.prog 8 #[v, vo, vn, .int .i64 B, .int .i64 K] w (UPost w (upA par old now B K) (upE par old B K)) := by
  unfold upA upE
  cases hf : fitsL par old.length B K with
  | true =>
    have h1 : 0 < grpsN 1 B K := by
      have := grpsN_nonneg 1 B K
      unfold fitsL at hf
      simp only [Bool.and_eq_true, Bool.not_eq_true', beq_eq_false_iff_ne] at hf
      have := hf.1.1
      omega
    obtain ⟨h2, h3, h4, h5⟩ := grpsN_pos 1 B K h1
    obtain ⟨b, rfl⟩ := Int.eq_ofNat_of_zero_le (show 0 ≤ B by omega)
    obtain ⟨c, rfl⟩ := Int.eq_ofNat_of_zero_le (show 0 ≤ K by omega)
    exact rupdate_ok v vo vn par old now b c w hv hl ho hn hm hm2 (by omega) (by omega) (by omega) (by omega) hbp hf
  | false => exact rupdate_not v vo vn par old B K w _ hv hl ho hf

def SmPost (w : World) (L : Nat) (e : Ending) (w' : World) : Prop := ∃ s : Bool, e = .returned (.bool s) ∧ w = w' ∧ (s = true → L ≤ 2000)
set_option maxHeartbeats 1000000 in
theorem small_any (ad : Option Addr) (L cap : Nat) (B : Int) (w : World) : Calls Tryd.prog 4 #[.slice ad L cap, .int .i64 B] w (SmPost w L) := by
  by_cases h1 : L ≤ 2000
  · have d1 : decide ((L : Int) ≤ 2000) = true := by simp; omega
    have i1 : (L : Int) ≤ 2000 := by omega
    by_cases h2 : B < 1
    · have d2 : decide (B < 1) = true := by simpa using h2
      clear h2
      go_enter Tryd.func4, Tryd.ntmps4
      go_wp2
      go_ret
      exact ⟨_, rfl, rfl, fun _ => h1⟩
    have d2 : decide (B < 1) = false := by simpa using h2
    by_cases h3 : 4096 < B
    · have d3 : decide (4096 < B) = true := by simpa using h3
      clear h2 h3
      go_enter Tryd.func4, Tryd.ntmps4
      go_wp2
      go_ret
      exact ⟨_, rfl, rfl, fun _ => h1⟩
    have d3 : decide (4096 < B) = false := by simpa using h3
    obtain ⟨b, rfl⟩ := Int.eq_ofNat_of_zero_le (show 0 ≤ B by omega)
    obtain ⟨Q, hQ⟩ : ∃ Q, Q = L / b := ⟨_, rfl⟩
    have q0 : ((L : Int)).tdiv (b : Int) = (Q : Int) := by rw [Int.tdiv_eq_ediv_of_nonneg (by omega), hQ]; rfl
    have q1 : Q ≤ L := by rw [hQ]; exact Nat.div_le_self _ _
    have b0 : ¬ ((b : Int) = 0) := by omega
    clear hQ h2 h3
    go_enter Tryd.func4, Tryd.ntmps4
    go_wp2
    go_ret
    exact ⟨_, rfl, rfl, fun _ => h1⟩
  · have d1 : decide ((L : Int) ≤ 2000) = false := by simp; omega
    have i1 : ¬ ((L : Int) ≤ 2000) := by omega
    clear h1
    go_enter Tryd.func4, Tryd.ntmps4
    go_wp2
    go_ret
    exact ⟨false, rfl, rfl, fun h => by cases h⟩
end Go.Proofs.YthkdibppddamlaaDoor
