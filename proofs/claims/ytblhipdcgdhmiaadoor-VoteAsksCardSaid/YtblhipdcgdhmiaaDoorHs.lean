/- The walk of VoteAsks. -/
import Derived.Test.YtblhipdcgdhmiaaDoorHq
import Derived.Test.YtblhipdcgdhmiaaDoorWi
namespace Go.Proofs.YtblhipdcgdhmiaaDoor
open Go.RowKit Go.Sha
set_option linter.unusedSimpArgs false
set_option linter.unusedVariables false

theorem oth_len (p : Pg) : ∀ (L : List Pg) (i : Nat), (othL p L i).length ≤ L.length
  | [], _ => by simp [othL]
  | q :: r, i => by
    have := oth_len p r (i + 1)
    simp only [othL, List.length_append, List.length_cons]
    split <;> simp <;> omega
/-- The code and the document answer one thing. -/
theorem asks_same {a b c : List Int} (ha : Byt a) (hb : Byt b) (hc : Byt c) : ∃ (P : Pg) (M : List Int) (err : Int), M.length ≤ 3 ∧
    (∀ w e w', ((mayP (voteP a b c) = true → VtPost w (voteP a b c) (voteM a b c) 0 e w') ∧ (mayP (voteP a b c) = false → VtPost w (0, []) [] 10 e w')) → VtPost w P M err e w') ∧
    (∀ w e w', RvP w [a, b, c] (docV [a, b, c] [0, 1, 2] none) e w' → VtPost w P M err e w') := by
  obtain ⟨h1, h2⟩ := doc_code ha hb hc
  cases hd : docV [a, b, c] [0, 1, 2] none with
  | none =>
    refine ⟨(0, []), [], 10, by simp, fun w e w' h => h.2 ?_, fun w e w' h => h⟩
    rw [h1 hd]
    exact may0
  | some j =>
    obtain ⟨hj, hp⟩ := h2 j hd
    have hX : Byt ([a, b, c][j]?.getD []) := by
      match j, hj with
      | 0, _ => exact ha
      | 1, _ => exact hb
      | 2, _ => exact hc
    have hm := min_doc ha hb hc hX hp
    refine ⟨voteP a b c, voteM a b c, 0, oth_len _ _ _, fun w e w' h => h.1 (dec_may hX hp), fun w e w' h => ?_⟩
    have h' : VtPost w (pgO (decP ([a, b, c][j]?.getD []))) (minD [a, b, c] ([a, b, c][j]?.getD []) 3) 0 e w' := h
    rw [hp, ← hm] at h'
    exact h'
theorem asks_sum (na nb nt : Nat) (w : World) (ha : na ≤ 9223372036854775807) (hb : nb ≤ 9223372036854775807) (ht : nt ≤ 9223372036854775807) (g : Nat) (h0 : w.cell? ⟨g, 0, none⟩ = some (.int .i64 nb)) (h1 : w.cell? ⟨g, 1, none⟩ = some (.int .i64 nt)) :
    Calls Tryd.prog 13 #[.int .i64 na, .slice (some ⟨g, 0, none⟩) 2 2] w fun e w' => (∃ n : Int, e = .returned (.int .i64 n) ∧ ((na + nb + nt ≤ 2000 ∧ n ≤ 2000) ∨ (2000 < na + nb + nt ∧ 2000 < n))) ∧ w = w' := by
  by_cases h : na + nb + nt ≤ 2000
  · exact (sum3_small na nb nt g w 2000 (by omega) h h0 h1).mono fun e w' ⟨q1, q2⟩ => ⟨⟨_, q1, Or.inl ⟨h, by omega⟩⟩, q2⟩
  · exact (sum3_big na nb nt g w 2000 (by omega) (by omega) ha hb h0 h1).mono fun e w' ⟨n, q1, q2, q3⟩ => ⟨⟨n, q2, Or.inr ⟨by omega, by have := q1; omega⟩⟩, q3⟩

set_option maxHeartbeats 8000000 in
set_option maxRecDepth 100000 in
theorem asks_all (v0 v1 v2 : Value) (a b c : List Int) (W : World) (hK : KAt W) (h0 : Src W v0 a W.heap.size) (hb0 : Byt a) (hl0 : a.length ≤ 9223372036854775807)
    (h1 : Src W v1 b W.heap.size) (hb1 : Byt b) (hl1 : b.length ≤ 9223372036854775807) (h2 : Src W v2 c W.heap.size) (hb2 : Byt c) (hl2 : c.length ≤ 9223372036854775807) :
    Calls Tryd.prog 4 #[.agg #[v0, v1, v2]] W (AwPost W) := by
  obtain ⟨ad0, cap0, ev⟩ := h0.len
  subst ev
  obtain ⟨n0, hn0⟩ : ∃ n, n = a.length := ⟨_, rfl⟩
  rw [← hn0] at h0 hl0 ⊢
  obtain ⟨ad1, cap1, ev⟩ := h1.len
  subst ev
  obtain ⟨n1, hn1⟩ : ∃ n, n = b.length := ⟨_, rfl⟩
  rw [← hn1] at h1 hl1 ⊢
  obtain ⟨ad2, cap2, ev⟩ := h2.len
  subst ev
  obtain ⟨n2, hn2⟩ : ∃ n, n = c.length := ⟨_, rfl⟩
  rw [← hn2] at h2 hl2 ⊢
  have H0 := Lib.hid h0
  have H1 := Lib.hid h1
  have H2 := Lib.hid h2
  have HK := Lib.hid hK
  have HB := Lib.hid (And.intro hb0 (And.intro hb1 hb2))
  have HN := Lib.hid (And.intro hn0 (And.intro hn1 hn2))
  have e0 : Ext W ((W.alloc (.cells #[.slice ad0 n0 cap0, .slice ad1 n1 cap1, .slice ad2 n2 cap2] 38)).alloc (.cells #[.int .i64 (n1 : Int), .int .i64 (n2 : Int)] 3)) := (Ext.alloc W _).trans (Ext.alloc _ _)
  have a0 : At ((W.alloc (.cells #[.slice ad0 n0 cap0, .slice ad1 n1 cap1, .slice ad2 n2 cap2] 38)).alloc (.cells #[.int .i64 (n1 : Int), .int .i64 (n2 : Int)] 3)) W.heap.size #[.slice ad0 n0 cap0, .slice ad1 n1 cap1, .slice ad2 n2 cap2] 38 := (At.new W _ _).alloc _
  have ai := At.new1 W (.cells #[.slice ad0 n0 cap0, .slice ad1 n1 cap1, .slice ad2 n2 cap2] 38) #[.int .i64 (n1 : Int), .int .i64 (n2 : Int)] 3
  have SM := asks_sum n0 n1 n2 ((W.alloc (.cells #[.slice ad0 n0 cap0, .slice ad1 n1 cap1, .slice ad2 n2 cap2] 38)).alloc (.cells #[.int .i64 (n1 : Int), .int .i64 (n2 : Int)] 3)) hl0 hl1 hl2 (W.heap.size + 1) ((ai.cell 0).trans rfl) ((ai.cell 1).trans rfl)
  clear h0 h1 h2 hb0 hb1 hb2 hl0 hl1 hl2 hn0 hn1 hn2 hK ai
  go_enter Tryd.func4, Tryd.ntmps4
  go_wp2_with fail
  refine SM.mono ?_
  rintro e w0 ⟨⟨s, rfl, hs⟩, rfl⟩
  clear SM
  generalize (W.alloc (.cells #[.slice ad0 n0 cap0, .slice ad1 n1 cap1, .slice ad2 n2 cap2] 38)).alloc (.cells #[.int .i64 (n1 : Int), .int .i64 (n2 : Int)] 3) = w0 at *
  rcases hs with ⟨hs1, hs2⟩ | ⟨hs1, hs2⟩
  rotate_left
  · have ds : decide ((2000 : Int) < s) = true := by simpa using hs2
    have A0 := awake_any w0 (HK.out.below e0 HK.out.lt)
    clear hs1 hs2
    go_wp2_with fail
    refine A0.mono ?_
    rintro e w1 ⟨rfl, e1⟩
    go_wp2
    go_ret
    exact ⟨rfl, e0.trans e1⟩
  have ds : decide ((2000 : Int) < s) = false := by simp; omega
  have hlen : a.length ≤ 2000 ∧ b.length ≤ 2000 ∧ c.length ≤ 2000 := by have := HN.out; omega
  have HL := Lib.hid hlen
  obtain ⟨P, M, err, hMl, HC, HD⟩ := asks_same HB.out.1 HB.out.2.1 HB.out.2.2
  have HHC := Lib.hid HC
  have HHD := Lib.hid HD
  have HMl := Lib.hid hMl
  have VC := vote_any _ _ _ a b c w0 (HK.out.below e0 HK.out.lt) (H0.out.now e0) (H1.out.now e0) (H2.out.now e0) ⟨⟨HB.out.1, by have := HL.out; omega⟩, ⟨HB.out.2.1, by have := HL.out; omega⟩, ⟨HB.out.2.2, by have := HL.out; omega⟩⟩
  have f0 := a0.cell 0
  have f1 := a0.cell 1
  have f2 := a0.cell 2
  clear hlen hs1 hs2 HC HD hMl
  go_wp2_with fail
  refine VC.mono ?_
  intro e w1 hv
  obtain ⟨vp, vm, rfl, e1, s1, r1⟩ := HHC.out _ _ _ hv
  clear hv VC f0 f1 f2 ds
  obtain ⟨gp, mp⟩ := P
  simp only at s1 ⊢
  have a1 := at_ext a0 e1
  have e01 := e0.trans e1
  obtain ⟨adp, capp, evadp⟩ := s1.len
  obtain ⟨npl, hnpl⟩ : ∃ n, n = mp.length := ⟨_, rfl⟩
  rw [← hnpl] at evadp
  clear hnpl
  subst evadp
  obtain ⟨adm, capm, em⟩ := ir_len r1
  obtain ⟨nM, hnM⟩ : ∃ n, n = M.length := ⟨_, rfl⟩
  rw [← hnM] at em
  subst em
  have HnM := Lib.hid hnM
  clear hnM e0 e1 a0
  have onew2 : (#[.int .i64 gp, .slice adp npl capp] : Array Value).all (·.oneCell') = true := by simp [Value.oneCell']
  have szw2 : (Tryd.prog.info? 25).map (·.size) = some (#[.int .i64 gp, .slice adp npl capp] : Array Value).size := szPage
  have eaw2 : Ext w1 (w1.alloc (.cells #[.int .i64 0, .slice none 0 0] 25)) := Ext.alloc w1 _
  have aaw2 := At.new w1 #[.int .i64 0, .slice none 0 0] 25
  have Ew2 := ext_only' eaw2 (Only.setRow w1.heap.size _ #[.int .i64 gp, .slice adp npl capp]) (Nat.le_refl _)
  have Aw2 : At ((w1.alloc (.cells #[.int .i64 0, .slice none 0 0] 25)).setRow w1.heap.size #[.int .i64 gp, .slice adp npl capp]) w1.heap.size #[.int .i64 gp, .slice adp npl capp] 25 := aaw2.row _
  go_upto_region 4 with (refine wpList_store_row rfl 25 _ _ rfl w1.heap.size _ rfl rfl 25 _ aaw2 szw2 rfl onew2 ?_)
  clear eaw2 aaw2 szw2 onew2
  generalize (w1.alloc (.cells #[.int .i64 0, .slice none 0 0] 25)).setRow w1.heap.size #[.int .i64 gp, .slice adp npl capp] = w2 at *
  obtain ⟨gP, hgP⟩ : ∃ g, g = w1.heap.size := ⟨_, rfl⟩
  rw [← hgP] at Aw2 ⊢
  clear hgP
  have e02 := e01.trans Ew2
  have s2 := s1.now Ew2
  have r2 := ir_ext r1 Ew2
  have a2 := at_ext a1 Ew2
  clear e01 s1 r1 a1 Ew2
  have VR := rvote_any _ _ _ [a, b, c] w2 (ar3 (H0.out.now e02) (H1.out.now e02) (H2.out.now e02)) (fun k => by
    match k with
    | 0 => exact ⟨HB.out.1, by have := HL.out; show a.length ≤ _; omega⟩
    | 1 => exact ⟨HB.out.2.1, by have := HL.out; show b.length ≤ _; omega⟩
    | 2 => exact ⟨HB.out.2.2, by have := HL.out; show c.length ≤ _; omega⟩
    | k + 3 => exact ⟨byt_nil, by simp⟩)
  have f0 := a2.cell 0
  have f1 := a2.cell 1
  have f2 := a2.cell 2
  go_wp2_with fail
  refine VR.mono ?_
  intro e w3 hv
  obtain ⟨vq, vn, rfl, e3, s3, r3⟩ := HHD.out _ _ _ hv
  clear hv VR f0 f1 f2 a2
  simp only at s3 ⊢
  have e03 := e02.trans e3
  have s23 := s2.now e3
  have r23 := ir_ext r2 e3
  have aP3 := at_ext Aw2 e3
  obtain ⟨adq, capq, evadq⟩ := s3.len
  obtain ⟨nql, hnql⟩ : ∃ n, n = mp.length := ⟨_, rfl⟩
  rw [← hnql] at evadq
  clear hnql
  subst evadq
  obtain ⟨adn, capn, em⟩ := ir_len r3
  rw [← HnM.out] at em
  subst em
  clear e02 s2 r2 Aw2 e3
  have onew4 : (#[.int .i64 gp, .slice adq nql capq] : Array Value).all (·.oneCell') = true := by simp [Value.oneCell']
  have szw4 : (Tryd.prog.info? 31).map (·.size) = some (#[.int .i64 gp, .slice adq nql capq] : Array Value).size := szRPage
  have eaw4 : Ext w3 (w3.alloc (.cells #[.int .i64 0, .slice none 0 0] 31)) := Ext.alloc w3 _
  have aaw4 := At.new w3 #[.int .i64 0, .slice none 0 0] 31
  have Ew4 := ext_only' eaw4 (Only.setRow w3.heap.size _ #[.int .i64 gp, .slice adq nql capq]) (Nat.le_refl _)
  have Aw4 : At ((w3.alloc (.cells #[.int .i64 0, .slice none 0 0] 31)).setRow w3.heap.size #[.int .i64 gp, .slice adq nql capq]) w3.heap.size #[.int .i64 gp, .slice adq nql capq] 31 := aaw4.row _
  go_upto_region 5 with (refine wpList_store_row rfl 31 _ _ rfl w3.heap.size _ rfl rfl 31 _ aaw4 szw4 rfl onew4 ?_)
  clear eaw4 aaw4 szw4 onew4
  generalize (w3.alloc (.cells #[.int .i64 0, .slice none 0 0] 31)).setRow w3.heap.size #[.int .i64 gp, .slice adq nql capq] = w4 at *
  obtain ⟨gQ, hgQ⟩ : ∃ g, g = w3.heap.size := ⟨_, rfl⟩
  rw [← hgQ] at Aw4 ⊢
  clear hgQ
  have e04 := e03.trans Ew4
  have s24 := s23.now Ew4
  have s34 := s3.now Ew4
  have r24 := ir_ext r23 Ew4
  have r34 := ir_ext r3 Ew4
  have aP4 := at_ext aP3 Ew4
  clear e03 s23 s3 r23 r3 aP3 Ew4
  have kp := conv_src (P := Tryd.prog) 22 9 5 Tryd.underlying22 Tryd.underlying5 Tryd.underlying9 s24
  have kq := conv_src (P := Tryd.prog) 22 9 5 Tryd.underlying22 Tryd.underlying5 Tryd.underlying9 s34
  have p0 := aP4.cell 0
  have p1 := aP4.cell 1
  have q0 := Aw4.cell 0
  have q1 := Aw4.cell 1
  have IN := ints_any _ _ M w4 r24 r34 (by have := HMl.out; omega)
  clear s24 s34 r24 r34 aP4 Aw4
  go_wp2_with fail
  refine IN.mono ?_
  rintro e w5 ⟨rfl, e5⟩
  have e05 := e04.trans e5
  have A0 := awake_any w5 (HK.out.below e05 HK.out.lt)
  clear kp kq p0 p1 q0 q1 IN e04 e5
  go_wp2_with fail
  refine A0.mono ?_
  rintro e w6 ⟨rfl, e6⟩
  go_wp2
  go_ret
  exact ⟨rfl, e05.trans e6⟩
end Go.Proofs.YtblhipdcgdhmiaaDoor
