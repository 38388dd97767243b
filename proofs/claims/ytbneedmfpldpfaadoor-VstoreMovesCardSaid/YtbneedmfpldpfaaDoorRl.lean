/- The walk of the law VstoreMoves. -/
import Derived.Test.YtbneedmfpldpfaaDoorRhM
import Derived.Test.YtbneedmfpldpfaaDoorReM
import Derived.Test.YtbneedmfpldpfaaDoorSq
namespace Go.Proofs.YtbneedmfpldpfaaDoor
open Go.RowKit Go.Pth
set_option linter.unusedSimpArgs false
set_option linter.unusedVariables false

theorem tE0 : (⟨#[100, 47, 101]⟩ : ByteArray).toList = nE := ByteArray.toList_mk _
theorem tF0 : (⟨#[100, 47, 101, 47, 102]⟩ : ByteArray).toList = nF := ByteArray.toList_mk _
theorem tX0 : (⟨#[120]⟩ : ByteArray).toList = nX := ByteArray.toList_mk _
theorem tY0 : (⟨#[121]⟩ : ByteArray).toList = nY := ByteArray.toList_mk _
theorem stat_e {w0 w : World} {b : Nat} {S : SV} {l : List Nm} {N : Int} (h : Held w0 b S w) (c : Cl S l N) (hl : l.length ≤ 100) (p : ByteArray) (q : B) (hq : p.toList = q) (a : Nat) (hk : look l q = some a) :
    Calls Tryd.prog 8 #[ptr b, .string p] w fun e w' => ∃ (s : ByteArray) (k z m st : Int), e = .returned (.tuple #[.agg #[.string s, .int .i64 k, .int .i64 z, .int .i64 m, .int .u64 st], .int .i64 0]) ∧ st = (S.nd a).stamp ∧ Ext w w' :=
  (stat_h h c hl p q hq a hk).mono fun _ _ ⟨h1, h2⟩ => ⟨_, _, _, _, _, h1, rfl, h2⟩
theorem conv_bin {w : World} {v : Value} {d : List Int} {ad : Option Addr} {cap bb o : Nat} (h : Bin w v d ad cap bb o) : (convert 22 9 v).run Tryd.prog w = .ok (.string (strOfNums d)) w := by
  obtain ⟨rfl, h2, h3⟩ := h
  by_cases h0 : 0 < d.length
  · rw [h2 h0]
    exact conv_row rfl h3
  · have hd : d = [] := List.length_eq_zero_iff.1 (by omega)
    subst hd
    rw [run_convert_bytes_string w 22 9 5 _ _ cap Tryd.underlying22 Tryd.underlying5 Tryd.underlying9]
    cases ad <;> simp [Conv.bytesToString, loadCells]
    all_goals rfl
theorem ext_made {w w1 w2 : World} (h : Ext w w1) (c : Chg (fun i => i = w.heap.size) w1 w2) : Ext w w2 :=
  ⟨c.os.trans h.os, c.tape.trans h.tape, c.output.trans h.output, Nat.le_trans h.size c.size, fun i hi => (c.block i (Nat.lt_of_lt_of_le hi h.size) (by omega)).trans (h.block i hi)⟩
theorem row_keep {w w' : World} {g cap n : Nat} {xs : List Value} (h : Row w 30 5 (.slice (some ⟨g, 0, none⟩) n cap) n xs) (hg : w'.heap[g]? = w.heap[g]?) : Row w' 30 5 (.slice (some ⟨g, 0, none⟩) n cap) n xs :=
  h.keep fun q hq => by
    injection hq with hq
    rw [← hq]; exact hg
theorem row_lt {w : World} {g cap n : Nat} {xs : List Value} (h : Row w 30 5 (.slice (some ⟨g, 0, none⟩) n cap) n xs) : g < w.heap.size := h.lt g rfl
theorem cl_moved {S : SV} {a e f x : Nat} {N : Int} (c : Cl S (n4 a e f x) N) (t : B) : Cl (S.moved t a e f x) (mvl (n4 a e f x) nD t (place [(nX, x)] t)) (N + 2) := by
  have cb := c.beg
  refine ⟨rfl, cb.pw, cb.lf, ?_, ?_, ?_, cb.rm⟩
  · show 0 ≤ S.beg.ops ∧ S.beg.ops ≤ N + 2
    have := cb.op; omega
  · show 0 ≤ S.beg.clock ∧ S.beg.clock ≤ N + 2
    have := cb.ck; omega
  · show ((S.beg.acts ++ [(⟨nD, t, none⟩ : Ac)]).length : Int) ≤ N + 2
    have := cb.ac
    rw [List.length_append]
    simp; omega

set_option maxRecDepth 100000 in
set_option maxHeartbeats 8000000 in
theorem moves_any (v : Value) (d : List Int) (ad : Option Addr) (cap bb o : Nat) (t : ByteArray) (full : Bool) (w : World) (hx : Bin w v d ad cap bb o) (hbb : 0 < d.length → bb < w.heap.size) (hbyt : ∀ y ∈ d, 0 ≤ y ∧ y < 256) (htl : t.size ≤ 9223372036854775807) :
    Calls Tryd.prog 5 #[v, .string t, .bool full] w fun e w' => e = .returned (.bool true) ∧ Ext w w' := by
  have ev := hx.val
  subst ev
  obtain ⟨M, hM⟩ : ∃ n, n = d.length := ⟨_, rfl⟩
  obtain ⟨P, hP⟩ : ∃ n, n = t.size := ⟨_, rfl⟩
  have hPi : ((t.size : Nat) : Int) = (P : Int) := by rw [hP]
  have HB := Lib.hid hx
  rw [← hM] at HB ⊢
  have HM := Lib.hid (And.intro hM (And.intro hP (And.intro hbb hbyt)))
  clear hM hP hx hbb hbyt htl
  by_cases c1 : 200 < M
  · have d1 : decide ((200 : Int) < (M : Int)) = true := by simp; omega
    have d1' : decide (200 < M) = true := by simpa using c1
    clear c1
    go_enter Tryd.func5, Tryd.ntmps5
    go_wp2_with fail
    refine (awake_any w).mono ?_
    rintro e w' ⟨rfl, ex⟩
    go_wp2
    go_ret
    exact ⟨rfl, ex⟩
  have d1 : decide ((200 : Int) < (M : Int)) = false := by simp; omega
  have d1' : decide (200 < M) = false := by simpa using c1
  by_cases c2 : 100 < P
  · have d2 : decide ((100 : Int) < (P : Int)) = true := by simp; omega
    have d2' : decide (100 < P) = true := by simpa using c2
    clear c1 c2
    go_enter Tryd.func5, Tryd.ntmps5
    go_wp2_with fail
    refine (awake_any w).mono ?_
    rintro e w' ⟨rfl, ex⟩
    go_wp2
    go_ret
    exact ⟨rfl, ex⟩
  have d2 : decide ((100 : Int) < (P : Int)) = false := by simp; omega
  have d2' : decide (100 < P) = false := by simpa using c2
  have HMP : Hid (M ≤ 200 ∧ P ≤ 100) := Lib.hid ⟨by omega, by omega⟩
  clear c1 c2
  go_enter Tryd.func5, Tryd.ntmps5
  go_wp2_with fail
  clear d1 d1' d2 d2' hPi
  refine (new_ok 1048576 w (by omega) (by omega)).mono ?_
  rintro e w1 ⟨rfl, e1, V1, L1, r1, l1⟩
  obtain ⟨b, hb⟩ : ∃ b, b = w.heap.size := ⟨_, rfl⟩
  rw [← hb] at r1 ⊢
  have H1 : Hid (Held w b (SV.new 1048576) w1) := Lib.hid ⟨V1, L1, r1, e1, l1⟩
  clear r1 e1 l1 V1 L1 hb
  have C := mkdir_h H1.out Cl.new (by omega) (by simp) ⟨#[100]⟩ nD tD (by decide) (t1 _) rfl
  unfold ptr at C ⊢
  go_wp2_with fail
  refine C.mono ?_
  rintro e w2 ⟨rfl, a, _, h2⟩
  have H2 : Hid (Held w b (SM1 a) w2) := Lib.hid h2
  clear h2 C H1
  have C := mkdir_h H2.out (cl1 a) (by omega) (by simp) ⟨#[100, 47, 101]⟩ nE tE0 (by decide) (t2 a) (l1 a).1
  unfold ptr at C
  go_wp2_with fail
  refine C.mono ?_
  rintro e w3 ⟨rfl, e', hea, h3⟩
  have hea : e' ≠ a := by rw [ids1] at hea; simpa using hea
  have H3 : Hid (Held w b (SM2 a e') w3) := Lib.hid h3
  clear h3 C H2
  have C := create_h H3.out (cl2 a e') (by omega) (by simp) ⟨#[100, 47, 101, 47, 102]⟩ nF tF0 (by decide) (t3 a e') (l2 a e').1
  unfold ptr at C
  go_wp2_with fail
  refine C.mono ?_
  rintro e w4 ⟨rfl, f, hf, h4⟩
  have hf : f ≠ e' ∧ f ≠ a := by rw [ids2] at hf; simpa using hf
  have H4 : Hid (Held w b (SM3 a e' f) w4) := Lib.hid h4
  clear h4 C H3
  have C := write_h H4.out (cl3 a e' f) (by omega) (by simp) ⟨#[100, 47, 101, 47, 102]⟩ nF tF0 (by decide) f (fl3 a e' f) (.slice ad M cap) d ad cap bb o HB.out HM.out.2.2.1 HM.out.2.2.2 (by have := HM.out.1; have := HMP.out.1; omega) (us3 a e' f hea hf.1 hf.2)
  unfold ptr at C
  go_wp2_with fail
  refine C.mono ?_
  rintro e w5 ⟨rfl, h5⟩
  have H5 : Hid (Held w b (SM4 a e' f d) w5) := Lib.hid h5
  clear h5 C H4
  have C := create_h H5.out (cl4 a e' f d) (by omega) (by simp) ⟨#[120]⟩ nX tX0 (by decide) (t4 a e' f _) (l3 a e' f).1
  unfold ptr at C
  go_wp2_with fail
  refine C.mono ?_
  rintro e w6 ⟨rfl, x, hxi, h6⟩
  have hxf : x ≠ f := by
    rw [ids4] at hxi
    intro h; subst h; simp at hxi
  have HID := Lib.hid (And.intro hea (And.intro hf hxf))
  have H6 : Hid (Held w b (SM5 a e' f x d) w6) := Lib.hid h6
  clear h6 C H5 hxi hea hf hxf
  cases full with
  | true =>
    have C := create_h H6.out (cl5 a e' f x d) (by omega) (by simp [n4]) ⟨#[121]⟩ nY tY0 (by decide) (t5 a e' f x _) (l4 a e' f x).1
    unfold ptr at C
    go_wp2_with fail
    refine C.mono ?_
    rintro e wy ⟨rfl, y, _, hy⟩
    have HY : Hid (Held w b (SM6 a e' f x y d) wy) := Lib.hid hy
    clear hy C H6
    have LS := list_h HY.out (cl6 a e' f x y d) (by simp [n4]) (by simp [n4])
    unfold ptr at LS
    go_wp2_with fail
    refine LS.mono ?_
    rintro e w7 ⟨g9, cp9, rfl, r9, e7, hg9⟩
    clear LS
    have ST := stat_e (HY.out.ext e7) (cl6 a e' f x y d) (by simp [n4]) ⟨#[100, 47, 101, 47, 102]⟩ nF tF0 f ((l5 a e' f x y).2.2)
    unfold ptr at ST
    go_wp2_with fail
    refine ST.mono ?_
    rintro e w8 ⟨s10, k10, z10, m10, st10, rfl, hst, e8⟩
    have HST := Lib.hid hst
    clear ST hst
    have e9 := Ext.alloc w8 (.cells #[.string s10, .int .i64 k10, .int .i64 z10, .int .i64 m10, .int .u64 st10] 30)
    have a10 := At.new w8 #[.string s10, .int .i64 k10, .int .i64 z10, .int .i64 m10, .int .u64 st10] 30
    have HU := Lib.hid (HY.out.fresh ((e7.trans e8).trans e9))
    have r9' := r9.ext (e8.trans e9)
    have hg10 : wy.heap.size ≤ w8.heap.size := Nat.le_trans e7.size e8.size
    clear HY e7 e8 e9 r9
    have RN := rename_c HU.out (cl6 a e' f x y d) (by omega) (by simp [n4]) (by simp [n4]) ⟨#[121]⟩ (by decide) (rung6 a e' f x y) 6 (by rw [tY0]; exact ren6 a e' f x y d) (by omega)
    unfold ptr bD at RN
    go_wp2_with fail
    refine RN.mono ?_
    rintro e w11 ⟨rfl, h11, k11⟩
    have hlt := row_lt r9'
    have was := row_keep r9' (k11 g9 ⟨by omega, hlt⟩)
    clear RN HU r9' k11 a10 hlt hg10 HST
    have N5 := rnew_any w11
    unfold ptr rcells at N5
    go_wp2_with fail
    refine N5.mono ?_
    rintro e w12 ⟨rfl, hw12⟩
    have e12 : Ext w11 w12 := by rw [hw12]; exact Ext.alloc _ _
    have ag : At w12 w11.heap.size (rcells 0 (.slice none 0 0) (.slice none 0 0) (.slice none 0 0) 0) 92 := by rw [hw12]; exact At.new _ _ _
    have MK := rmake_one w11.heap.size ⟨#[120]⟩ 1 (by rw [tX0]; decide) (by rw [tX0]; decide) w12 ag
    unfold ptr at MK
    clear N5 hw12 ag
    go_wp2_with fail
    refine MK.mono ?_
    rintro e w13 ⟨⟨n13, rfl⟩, c13⟩
    have e13 := ext_made e12 c13
    clear MK e12 c13
    have H13 : Hid (Held w b (SM6 a e' f x y d).beg w13) := Lib.hid (h11.ext e13)
    have was3 := was.ext e13
    clear h11 e13 was hg9
    have cb := (cl6 a e' f x y d).beg
    have LS := list_h H13.out cb (by simp [n4]) (by simp [n4])
    rw [(beg_same (SM6 a e' f x y d)).2.1] at LS
    unfold ptr at LS
    go_wp2_with fail
    refine LS.mono ?_
    rintro e w20 ⟨g20, cp20, rfl, r20, e20, hg20⟩
    have was32 := was3.ext e20
    have SS := same_stats _ _ _ _ _ _ w20 r20 was32
    go_wp2_with fail
    refine SS.mono ?_
    rintro e w21 ⟨rfl, e21⟩
    clear LS SS r20 was3 was32 hg20
    have H21 := Lib.hid ((H13.out.ext (e20.trans e21)))
    clear H13 e20 e21
    have R1 := rename_c H21.out.any cb (by omega) (by simp [n4]) (by simp [n4]) ⟨#[100, 47, 122]⟩ (by decide) (rung6 a e' f x y) 1 (by rw [show (⟨#[100, 47, 122]⟩ : ByteArray).toList = [100, 47, 122] from ByteArray.toList_mk _]; exact renSub cb (rung6 a e' f x y) _ (by decide) (by decide)) (by omega)
    unfold ptr bD at R1
    go_wp2_with fail
    refine R1.mono ?_
    rintro e w22 ⟨rfl, h22, _⟩
    have H22 := Lib.hid h22
    clear h22 R1 H21
    have R2 := rename_c H22.out.any cb.beg (by omega) (by simp [n4]) (by simp [n4]) ⟨#[100]⟩ (by decide) (rung6 a e' f x y) 1 (by rw [show (⟨#[100]⟩ : ByteArray).toList = nD from ByteArray.toList_mk _]; exact renSub cb.beg (rung6 a e' f x y) _ (by decide) (by decide)) (by omega)
    unfold ptr bD at R2
    go_wp2_with fail
    refine R2.mono ?_
    rintro e w23 ⟨rfl, h23, _⟩
    have E23 := h23.now
    clear h23 R2 H22
    go_wp2_with fail
    refine (awake_any w23).mono ?_
    rintro e w24 ⟨rfl, e24⟩
    go_wp2
    go_ret
    exact ⟨rfl, E23.trans e24⟩
  | false =>
    have LS := list_h H6.out (cl5 a e' f x d) (by simp [n4]) (by simp [n4])
    have h4 : (n4 a e' f x).length = 4 := rfl
    rw [h4] at LS
    clear h4
    unfold ptr at LS
    go_wp2_with fail
    refine LS.mono ?_
    rintro e w7 ⟨g9, cp9, rfl, r9, e7, hg9⟩
    clear LS
    have ST := stat_e (H6.out.ext e7) (cl5 a e' f x d) (by simp [n4]) ⟨#[100, 47, 101, 47, 102]⟩ nF tF0 f ((l4 a e' f x).2.2)
    unfold ptr at ST
    go_wp2_with fail
    refine ST.mono ?_
    rintro e w8 ⟨s10, k10, z10, m10, st10, rfl, hst, e8⟩
    have HST := Lib.hid hst
    clear ST hst
    have e9 := Ext.alloc w8 (.cells #[.string s10, .int .i64 k10, .int .i64 z10, .int .i64 m10, .int .u64 st10] 30)
    have a10 := At.new w8 #[.string s10, .int .i64 k10, .int .i64 z10, .int .i64 m10, .int .u64 st10] 30
    have HU := Lib.hid (H6.out.fresh ((e7.trans e8).trans e9))
    have r9' := r9.ext (e8.trans e9)
    have hg10 : w6.heap.size ≤ w8.heap.size := Nat.le_trans e7.size e8.size
    clear H6 e7 e8 e9 r9
    by_cases hr : renE (SM5 a e' f x d) nD t.toList = 0
    rotate_left
    · skip
      obtain ⟨n, hn⟩ : ∃ n, renE (SM5 a e' f x d) nD t.toList = n := ⟨_, rfl⟩
      have hn0 : n ≠ 0 := by rw [← hn]; exact hr
      have tn : (n == 0) = false := by simpa using hn0
      have RN := rename_c HU.out (cl5 a e' f x d) (by omega) (by simp [n4]) (by simp [n4]) t (by have := HM.out.2.1; have := HMP.out.2; omega) (n4_rung a e' f x) n hn hn0
      unfold ptr bD at RN
      clear hn hn0 hr
      go_wp2_with fail
      refine RN.mono ?_
      rintro e w11 ⟨rfl, h11, k11⟩
      have hlt := row_lt r9'
      have was := row_keep r9' (k11 g9 ⟨by omega, hlt⟩)
      clear RN HU r9' k11 a10 hlt hg10 HST
      have N5 := rnew_any w11
      unfold ptr rcells at N5
      go_wp2_with fail
      refine N5.mono ?_
      rintro e w12 ⟨rfl, hw12⟩
      have e12 : Ext w11 w12 := by rw [hw12]; exact Ext.alloc _ _
      have ag : At w12 w11.heap.size (rcells 0 (.slice none 0 0) (.slice none 0 0) (.slice none 0 0) 0) 92 := by rw [hw12]; exact At.new _ _ _
      have MK := rmake_one w11.heap.size ⟨#[120]⟩ 1 (by rw [tX0]; decide) (by rw [tX0]; decide) w12 ag
      unfold ptr at MK
      clear N5 hw12 ag
      go_wp2_with fail
      refine MK.mono ?_
      rintro e w13 ⟨⟨n13, rfl⟩, c13⟩
      have e13 := ext_made e12 c13
      clear MK e12 c13
      have H13 : Hid (Held w b (SM5 a e' f x d).beg w13) := Lib.hid (h11.ext e13)
      have was3 := was.ext e13
      clear h11 e13 was hg9
      have cb := (cl5 a e' f x d).beg
      have LS := list_h H13.out cb (by simp [n4]) (by simp [n4])
      rw [(beg_same (SM5 a e' f x d)).2.1, show (n4 a e' f x).length = 4 from rfl] at LS
      unfold ptr at LS
      go_wp2_with fail
      refine LS.mono ?_
      rintro e w20 ⟨g20, cp20, rfl, r20, e20, hg20⟩
      have was32 := was3.ext e20
      have SS := same_stats (SM5 a e' f x d).nd (n4 a e' f x) _ _ _ _ w20 r20 was32
      go_wp2_with fail
      refine SS.mono ?_
      rintro e w21 ⟨rfl, e21⟩
      clear LS SS r20 was3 was32 hg20
      have H21 := Lib.hid ((H13.out.ext (e20.trans e21)))
      clear H13 e20 e21
      have R1 := rename_c H21.out.any cb (by omega) (by simp [n4]) (by simp [n4]) ⟨#[100, 47, 122]⟩ (by decide) (n4_rung a e' f x) 1 (by rw [show (⟨#[100, 47, 122]⟩ : ByteArray).toList = [100, 47, 122] from ByteArray.toList_mk _]; exact renSub cb (n4_rung a e' f x) _ (by decide) (by decide)) (by omega)
      unfold ptr bD at R1
      go_wp2_with fail
      refine R1.mono ?_
      rintro e w22 ⟨rfl, h22, _⟩
      have H22 := Lib.hid h22
      clear h22 R1 H21
      have R2 := rename_c H22.out.any cb.beg (by omega) (by simp [n4]) (by simp [n4]) ⟨#[100]⟩ (by decide) (n4_rung a e' f x) 1 (by rw [show (⟨#[100]⟩ : ByteArray).toList = nD from ByteArray.toList_mk _]; exact renSub cb.beg (n4_rung a e' f x) _ (by decide) (by decide)) (by omega)
      unfold ptr bD at R2
      go_wp2_with fail
      refine R2.mono ?_
      rintro e w23 ⟨rfl, h23, _⟩
      have E23 := h23.now
      clear h23 R2 H22
      go_wp2_with fail
      refine (awake_any w23).mono ?_
      rintro e w24 ⟨rfl, e24⟩
      go_wp2
      go_ret
      exact ⟨rfl, E23.trans e24⟩
    · skip
      have MV := renE_ok (cl5 a e' f x d) (nf5 a e' f x d HID.out.2.2).2 (nx5 a e' f x d) hr
      have D := done4 a e' f x t.toList MV
      have HMV := Lib.hid MV
      have HDD := Lib.hid D
      clear MV D
      have RN := rename_d HU.out (cl5 a e' f x d) (by omega) t (by have := HM.out.2.1; have := HMP.out.2; omega) (nf5 a e' f x d HID.out.2.2).2 (nx5 a e' f x d) hr
      unfold ptr bD at RN
      clear hr
      go_wp2_with fail
      refine RN.mono ?_
      rintro e w11 ⟨rfl, h11, k11⟩
      have hlt := a10.lt
      replace a10 := a10.keep (k11 w8.heap.size ⟨hg10, hlt⟩)
      clear RN HU r9' k11 hlt hg10 hg9
      have N5 := rnew_any w11
      unfold ptr rcells at N5
      go_wp2_with fail
      refine N5.mono ?_
      rintro e w12 ⟨rfl, hw12⟩
      have e12 : Ext w11 w12 := by rw [hw12]; exact Ext.alloc _ _
      have ag : At w12 w11.heap.size (rcells 0 (.slice none 0 0) (.slice none 0 0) (.slice none 0 0) 0) 92 := by rw [hw12]; exact At.new _ _ _
      have MK := rmake_one w11.heap.size ⟨#[120]⟩ 1 (by rw [tX0]; decide) (by rw [tX0]; decide) w12 ag
      unfold ptr at MK
      clear N5 hw12 ag
      go_wp2_with fail
      refine MK.mono ?_
      rintro e w13 ⟨⟨n13, rfl⟩, c13⟩
      have e13 := ext_made e12 c13
      clear MK e12 c13
      have CT := cl_moved (cl5 a e' f x d) t.toList
      have hnd : ((SM5 a e' f x d).moved t.toList a e' f x).nd = (SM5 a e' f x d).nd := (beg_same (SM5 a e' f x d)).2.1
      have hkf : kinds ((SM5 a e' f x d).moved t.toList a e' f x) f = 1 := by unfold kinds; rw [hnd]; exact (nf5 a e' f x d HID.out.2.2).2
      have hnow : (((SM5 a e' f x d).moved t.toList a e' f x).nd f).now = d := by rw [hnd]; exact (nf5 a e' f x d HID.out.2.2).1
      have hstp : (((SM5 a e' f x d).moved t.toList a e' f x).nd f).stamp = st10 := by rw [hnd]; exact HST.out.symm
      obtain ⟨TT, hTT⟩ : ∃ S, S = (SM5 a e' f x d).moved t.toList a e' f x := ⟨_, rfl⟩
      rw [← hTT] at CT hkf hnow hstp h11
      clear hTT hnd
      obtain ⟨LL, hLL⟩ : ∃ l, l = mvl (n4 a e' f x) nD t.toList (place [(nX, x)] t.toList) := ⟨_, rfl⟩
      rw [← hLL] at CT HDD
      clear hLL
      have HCT := Lib.hid CT
      have HF1 := Lib.hid (And.intro hkf (And.intro hnow hstp))
      clear CT hkf hnow hstp HST
      have H13 : Hid (Held w b TT w13) := Lib.hid (h11.ext e13)
      replace a10 := a10.ext e13
      clear h11 e13
      have hlen : LL.length = 4 := HDD.out.len
      have HLEN := Lib.hid hlen
      clear hlen
      have hq : (t ++ (⟨#[47, 101, 47, 102]⟩ : ByteArray)).toList = tF t.toList := by rw [tx_app, show (⟨#[47, 101, 47, 102]⟩ : ByteArray).toList = [47, 101, 47, 102] from ByteArray.toList_mk _]; rfl
      have HQ := Lib.hid hq
      clear hq
      have hfile : TT.file (tF t.toList) = (some f, 0) := by
        unfold SV.file
        rw [HCT.out.nm, HDD.out.tf]
        simp only
        exact if_pos HF1.out.1
      have RD := read_h H13.out HCT.out (by rw [HLEN.out]; omega) (t ++ ⟨#[47, 101, 47, 102]⟩) (tF t.toList) HQ.out f hfile
      rw [HF1.out.2.1] at RD
      unfold ptr at RD
      clear hfile
      have hts : t.size ≤ 100 := by rw [← HM.out.2.1]; exact HMP.out.2
      go_wp2_with fail
      refine RD.mono ?_
      rintro e w14 ⟨v15, rfl, r15, e14⟩
      obtain ⟨ad15, cp15, bb15, B15, _⟩ := Bin.of_row r15
      have ev := B15.val
      subst ev
      have H14 := Lib.hid (H13.out.ext e14)
      replace a10 := a10.ext e14
      clear RD H13 r15 e14
      have ST := stat_e H14.out HCT.out (by rw [HLEN.out]; omega) (t ++ ⟨#[47, 101, 47, 102]⟩) (tF t.toList) HQ.out f HDD.out.tf
      rw [HF1.out.2.2] at ST
      unfold ptr at ST
      go_wp2_with fail
      refine ST.mono ?_
      rintro e w15 ⟨s17, k17, z17, m17, st17, rfl, hst, e15⟩
      subst hst
      have e16 := Ext.alloc w15 (.cells #[.string s17, .int .i64 k17, .int .i64 z17, .int .i64 m17, .int .u64 st17] 30)
      have a17 := At.new w15 #[.string s17, .int .i64 k17, .int .i64 z17, .int .i64 m17, .int .u64 st17] 30
      have H16 := Lib.hid (H14.out.ext (e15.trans e16))
      replace a10 := a10.ext (e15.trans e16)
      replace B15 := B15.ext (e15.trans e16)
      clear ST H14 e15 e16 hts
      have SN := stat_n H16.out HCT.out (by rw [HLEN.out]; omega) ⟨#[100]⟩ nD tD HDD.out.d
      unfold ptr zstat at SN
      go_wp2_with fail
      refine SN.mono ?_
      rintro e w17 ⟨rfl, e17⟩
      have e18 := Ext.alloc w17 (.cells #[.string ⟨#[]⟩, .int .i64 0, .int .i64 0, .int .i64 0, .int .u64 0] 30)
      have H18 := Lib.hid (H16.out.ext (e17.trans e18))
      replace a10 := a10.ext (e17.trans e18)
      replace a17 := a17.ext (e17.trans e18)
      replace B15 := B15.ext (e17.trans e18)
      clear SN H16 e17 e18
      have k1 := conv_bin B15
      have k2 := conv_bin (HB.out.ext H18.out.now)
      have f10 := a10.cell 4
      have f17 := a17.cell 4
      have LS := list_h H18.out HCT.out (by rw [HLEN.out]; omega) (by rw [HLEN.out]; omega)
      rw [HLEN.out] at LS
      unfold ptr at LS
      clear B15 a10 a17
      go_wp2_with fail
      refine LS.mono ?_
      rintro e w19 ⟨g19, cp19, rfl, r19, e19, _⟩
      have H19 := Lib.hid (H18.out.ext e19)
      clear k1 k2 f10 f17 LS r19 e19 H18
      have RM := remove_h H19.out HCT.out (by omega) (by rw [HLEN.out]; omega) (by rw [HLEN.out]; omega) t HMV.out.vt HDD.out.held
      unfold ptr at RM
      go_wp2_with fail
      refine RM.mono ?_
      rintro e w20 ⟨rfl, e20⟩
      clear RM H19
      go_wp2_with fail
      refine (awake_any w20).mono ?_
      rintro e w21 ⟨rfl, e21⟩
      go_wp2
      go_ret
      exact ⟨rfl, e20.trans e21⟩
end Go.Proofs.YtbneedmfpldpfaaDoor
