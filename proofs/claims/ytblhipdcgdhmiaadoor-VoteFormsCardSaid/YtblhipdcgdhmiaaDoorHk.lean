/- The walk of VoteForms. -/
import Derived.Test.YtblhipdcgdhmiaaDoorHj
namespace Go.Proofs.YtblhipdcgdhmiaaDoor
open Go.RowKit Go.Sha
set_option linter.unusedSimpArgs false
set_option linter.unusedVariables false

theorem lawTrue {w w' : World} {e : Ending} (h : AwPost w e w') : e = .returned (.bool true) ∧ Ext w w' := h
set_option maxHeartbeats 8000000 in
set_option maxRecDepth 100000 in
theorem forms_all (vb vc : Value) (gen : Int) (body b : List Int) (W : World) (hK : KAt W) (hg : -9223372036854775808 ≤ gen ∧ gen ≤ 9223372036854775807)
    (h1 : Src W vb body W.heap.size) (hb1 : Byt body) (hl1 : body.length ≤ 9223372036854775807) (h2 : Src W vc b W.heap.size) (hb2 : Byt b) (hl2 : b.length ≤ 9223372036854775807) :
    Calls Tryd.prog 3 #[.int .i64 gen, vb, vc] W (AwPost W) := by
  obtain ⟨ad1, cap1, ev⟩ := h1.len
  subst ev
  obtain ⟨ad2, cap2, ev⟩ := h2.len
  subst ev
  obtain ⟨n1, hn1⟩ : ∃ n, n = body.length := ⟨_, rfl⟩
  obtain ⟨n2, hn2⟩ : ∃ n, n = b.length := ⟨_, rfl⟩
  have A0 := awake_any W hK
  rw [← hn1] at h1 hl1 ⊢
  rw [← hn2] at h2 hl2 ⊢
  by_cases c1 : 1000 < n1
  · have d1 : decide ((1000 : Int) < (n1 : Int)) = true := by simp; omega
    have d1' : decide (1000 < n1) = true := by simpa using c1
    clear c1 h1 h2 hb1 hb2 hl1 hl2 hn1 hn2 hg
    go_enter Tryd.func3, Tryd.ntmps3
    go_wp2_with fail
    refine A0.mono ?_
    rintro e w1 ⟨rfl, e1⟩
    go_wp2
    go_ret
    exact ⟨rfl, e1⟩
  have d1 : decide ((1000 : Int) < (n1 : Int)) = false := by simp; omega
  have d1' : decide (1000 < n1) = false := by simpa using c1
  by_cases c2 : 1000 < n2
  · have d2 : decide ((1000 : Int) < (n2 : Int)) = true := by simp; omega
    have d2' : decide (1000 < n2) = true := by simpa using c2
    clear c1 c2 h1 h2 hb1 hb2 hl1 hl2 hn1 hn2 hg
    go_enter Tryd.func3, Tryd.ntmps3
    go_wp2_with fail
    refine A0.mono ?_
    rintro e w1 ⟨rfl, e1⟩
    go_wp2
    go_ret
    exact ⟨rfl, e1⟩
  have d2 : decide ((1000 : Int) < (n2 : Int)) = false := by simp; omega
  have d2' : decide (1000 < n2) = false := by simpa using c2
  have one : (#[.int .i64 gen, .slice ad1 n1 cap1] : Array Value).all (·.oneCell') = true := by simp [Value.oneCell']
  have sz1 : (Tryd.prog.info? 25).map (·.size) = some (#[.int .i64 gen, .slice ad1 n1 cap1] : Array Value).size := szPage
  have e0 : Ext W (W.alloc (.cells #[.int .i64 0, .slice none 0 0] 25)) := Ext.alloc W _
  have a0 := At.new W #[.int .i64 0, .slice none 0 0] 25
  have e1 := ext_only' e0 (Only.setRow W.heap.size _ #[.int .i64 gen, .slice ad1 n1 cap1]) (Nat.le_refl _)
  have a1 : At ((W.alloc (.cells #[.int .i64 0, .slice none 0 0] 25)).setRow W.heap.size #[.int .i64 gen, .slice ad1 n1 cap1]) W.heap.size #[.int .i64 gen, .slice ad1 n1 cap1] 25 := a0.row _
  have hLn : body.length ≤ 1000 ∧ b.length ≤ 1000 := by omega
  have HL := Lib.hid hLn
  have HB := Lib.hid (And.intro hb1 hb2)
  have H1 := Lib.hid h1
  have H2 := Lib.hid h2
  have HK := Lib.hid hK
  clear hLn hb1 hb2 h1 h2 hn1 hn2 hl1 hl2 c1 c2 hg A0
  go_enter Tryd.func3, Tryd.ntmps3
  go_upto_region 4 with (refine wpList_store_row rfl 25 _ _ rfl W.heap.size _ rfl rfl 25 _ a0 sz1 rfl one ?_)
  clear d1 d1' d2 d2' e0 a0 one sz1
  generalize (W.alloc (.cells #[.int .i64 0, .slice none 0 0] 25)).setRow W.heap.size #[.int .i64 gen, .slice ad1 n1 cap1] = w1 at *
  obtain ⟨g1, hg1⟩ : ∃ g, g = W.heap.size := ⟨_, rfl⟩
  rw [← hg1] at a1 ⊢
  have Hg1 := Lib.hid hg1
  clear hg1
  obtain ⟨O, hO⟩ : ∃ O, encO gen body = O := ⟨_, rfl⟩
  have E1 := enc_any gen body _ w1 (HK.out.below e1 HK.out.lt) (H1.out.now e1)
  rw [hO] at E1
  obtain ⟨k1, hk1⟩ : ∃ k : Int, (if O.isSome then 0 else 1) = k := ⟨_, rfl⟩
  have HK1 := Lib.hid hk1
  unfold EP at E1
  rw [hk1] at E1
  clear hk1
  have f0 := a1.cell 0
  have f1 := a1.cell 1
  go_wp2_with fail
  refine E1.mono ?_
  rintro e w2 ⟨vx, rfl, e2, s2⟩
  clear f0 f1 E1
  have a2 := at_ext a1 e2
  have e02 := e1.trans e2
  have E2 := renc_any gen body _ w2 (H1.out.now e02) (by have := HL.out; omega)
  rw [hO] at E2
  unfold EP at E2
  rw [HK1.out] at E2
  clear e1 a1 e2
  go_wp2_with fail
  refine E2.mono ?_
  rintro e w3 ⟨vy, rfl, e3, s3⟩
  have a3 := at_ext a2 e3
  have e03 := e02.trans e3
  have sx := s2.now e3
  obtain ⟨D, hD⟩ : ∃ D, decP b = D := ⟨_, rfl⟩
  have DC := decode_any _ b w3 (HK.out.below e03 HK.out.lt) (H2.out.now e03) HB.out.2 (by have := HL.out; omega)
  rw [hD] at DC
  obtain ⟨k2, hk2⟩ : ∃ k : Int, (if D.isSome then 0 else 10) = k := ⟨_, rfl⟩
  have HK2 := Lib.hid hk2
  unfold DcP at DC
  rw [hk2] at DC
  clear hk2
  clear E2 e02 a2 e3 s2 hO
  go_wp2_with fail
  refine DC.mono ?_
  rintro e w4 ⟨vq, rfl, e4, F4⟩
  have s4 := F4 _ (Or.inr (Nat.le_refl _))
  have a4 := at_ext a3 e4
  have e04 := e03.trans e4
  have sx4 := sx.now e4
  have sy4 := s3.now e4
  obtain ⟨P, hP⟩ : ∃ P, pgO D = P := ⟨_, rfl⟩
  obtain ⟨gp, mp⟩ := P
  rw [hP] at s4 ⊢
  have HP := Lib.hid hP
  simp only at s4 ⊢
  obtain ⟨adq, capq, evq⟩ := s4.len
  obtain ⟨nq, hnq⟩ : ∃ n, n = mp.length := ⟨_, rfl⟩
  rw [← hnq] at evq
  clear hnq
  subst evq
  have oneq : (#[.int .i64 gp, .slice adq nq capq] : Array Value).all (·.oneCell') = true := by simp [Value.oneCell']
  have szq : (Tryd.prog.info? 25).map (·.size) = some (#[.int .i64 gp, .slice adq nq capq] : Array Value).size := szPage
  have e5 : Ext w4 (w4.alloc (.cells #[.int .i64 0, .slice none 0 0] 25)) := Ext.alloc w4 _
  have a5 := At.new w4 #[.int .i64 0, .slice none 0 0] 25
  have e6 := ext_only' e5 (Only.setRow w4.heap.size _ #[.int .i64 gp, .slice adq nq capq]) (Nat.le_refl _)
  have a6 : At ((w4.alloc (.cells #[.int .i64 0, .slice none 0 0] 25)).setRow w4.heap.size #[.int .i64 gp, .slice adq nq capq]) w4.heap.size #[.int .i64 gp, .slice adq nq capq] 25 := a5.row _
  have a46 := at_ext a4 e6
  have e06 := e04.trans e6
  have sx6 := sx4.now e6
  have sy6 := sy4.now e6
  have sq6 := s4.now e6
  clear DC e03 a3 e4 F4 sx s3 s4 a4 e04 sx4 sy4
  go_upto_region 7 with (refine wpList_store_row rfl 25 _ _ rfl w4.heap.size _ rfl rfl 25 _ a5 szq rfl oneq ?_)
  clear e5 a5 oneq szq e6
  generalize (w4.alloc (.cells #[.int .i64 0, .slice none 0 0] 25)).setRow w4.heap.size #[.int .i64 gp, .slice adq nq capq] = w6 at *
  obtain ⟨g4, hg4⟩ : ∃ g, g = w4.heap.size := ⟨_, rfl⟩
  rw [← hg4] at a6 ⊢
  clear hg4
  have DR := rdecode_any _ b w6 (H2.out.now e06) HB.out.2 (by have := HL.out; omega)
  rw [hD] at DR
  unfold DrP at DR
  rw [HK2.out] at DR
  clear hD
  go_wp2_with fail
  refine DR.mono ?_
  rintro e w7 ⟨vr, rfl, e7, s7⟩
  rw [HP.out] at s7 ⊢
  simp only at s7 ⊢
  have a67 := at_ext a6 e7
  have a17 := at_ext a46 e7
  have e07 := e06.trans e7
  have sx7 := sx6.now e7
  have sy7 := sy6.now e7
  have sq7 := sq6.now e7
  obtain ⟨adr, capr, evr⟩ := s7.len
  obtain ⟨nr, hnr⟩ : ∃ n, n = mp.length := ⟨_, rfl⟩
  rw [← hnr] at evr
  clear hnr
  subst evr
  have oner : (#[.int .i64 gp, .slice adr nr capr] : Array Value).all (·.oneCell') = true := by simp [Value.oneCell']
  have szr : (Tryd.prog.info? 31).map (·.size) = some (#[.int .i64 gp, .slice adr nr capr] : Array Value).size := szRPage
  have e8 : Ext w7 (w7.alloc (.cells #[.int .i64 0, .slice none 0 0] 31)) := Ext.alloc w7 _
  have a8 := At.new w7 #[.int .i64 0, .slice none 0 0] 31
  have e9 := ext_only' e8 (Only.setRow w7.heap.size _ #[.int .i64 gp, .slice adr nr capr]) (Nat.le_refl _)
  have a9 : At ((w7.alloc (.cells #[.int .i64 0, .slice none 0 0] 31)).setRow w7.heap.size #[.int .i64 gp, .slice adr nr capr]) w7.heap.size #[.int .i64 gp, .slice adr nr capr] 31 := a8.row _
  have a69 := at_ext a67 e9
  have a19 := at_ext a17 e9
  have e09 := e07.trans e9
  have sx9 := sx7.now e9
  have sy9 := sy7.now e9
  have sq9 := sq7.now e9
  have sr9 := s7.now e9
  clear DR e06 a6 e7 s7 a46 e07 sx6 sy6 sq6 sx7 sy7 sq7 a67 a17 HP
  go_upto_region 8 with (refine wpList_store_row rfl 31 _ _ rfl w7.heap.size _ rfl rfl 31 _ a8 szr rfl oner ?_)
  clear e8 a8 oner szr e9
  generalize (w7.alloc (.cells #[.int .i64 0, .slice none 0 0] 31)).setRow w7.heap.size #[.int .i64 gp, .slice adr nr capr] = w9 at *
  obtain ⟨g7, hg7⟩ : ∃ g, g = w7.heap.size := ⟨_, rfl⟩
  rw [← hg7] at a9 ⊢
  clear hg7
  have kx := conv_src (P := Tryd.prog) 22 9 5 Tryd.underlying22 Tryd.underlying5 Tryd.underlying9 sx9
  have ky := conv_src (P := Tryd.prog) 22 9 5 Tryd.underlying22 Tryd.underlying5 Tryd.underlying9 sy9
  have kq := conv_src (P := Tryd.prog) 22 9 5 Tryd.underlying22 Tryd.underlying5 Tryd.underlying9 sq9
  have kr := conv_src (P := Tryd.prog) 22 9 5 Tryd.underlying22 Tryd.underlying5 Tryd.underlying9 sr9
  have q0 := a69.cell 0
  have q1 := a69.cell 1
  have r0 := a9.cell 0
  have r1 := a9.cell 1
  have p0 := a19.cell 0
  have p1 := a19.cell 1
  have SM := sameP_any gen gen body body _ _ w9 (H1.out.now e09) (H1.out.now e09)
  rw [sameP_self] at SM
  clear sx9 sy9 sq9 sr9 a69 a9 a19
  generalize Option.getD O [] = ox at *
  go_wp2_with fail
  refine SM.mono ?_
  rintro e w10 ⟨rfl, e10⟩
  have e010 := e09.trans e10
  have A0 := awake_any w10 (HK.out.below e010 HK.out.lt)
  clear kx ky kq kr q0 q1 r0 r1 p0 p1 SM
  go_wp2_with fail
  refine A0.mono ?_
  rintro e w11 ⟨rfl, e11⟩
  go_wp2
  go_ret
  exact ⟨rfl, e010.trans e11⟩
end Go.Proofs.YtblhipdcgdhmiaaDoor
