/- The walk of ClassifyDirs. -/
import Derived.Test.YtaiadcekmooimaaCn
import Derived.Test.YtaiadcekmooimaaRw
namespace Go.Proofs.Ytaiadcekmooimaa
open Go.RowKit Go.Sha
set_option linter.unusedSimpArgs false
set_option linter.unusedVariables false

set_option maxHeartbeats 8000000 in
set_option maxRecDepth 100000 in
theorem dirs_any (v : Value) (p : ByteArray) (k z m t st mt : Int) (r : List Int) (w : World) (hs : Src w v r w.heap.size) :
    Calls Try.prog 5 #[.agg #[.string p, .int .i64 k, .int .i64 z, .int .i64 m, .int .u64 t], .int .u64 st, .int .i64 mt, v] w fun e w' => e = .returned (.bool true) ∧ Ext w w' := by
  obtain ⟨ad, cap, ev⟩ := hs.len
  subst ev
  obtain ⟨P, hP⟩ : ∃ n, n = p.size := ⟨_, rfl⟩
  obtain ⟨L, hL⟩ : ∃ n, n = r.length := ⟨_, rfl⟩
  rw [← hL] at hs ⊢
  have HL := Lib.hid (And.intro hL hP)
  have hPi : ((p.size : Nat) : Int) = (P : Int) := by rw [hP]
  clear hL hP
  have e1 : Ext w (w.alloc (.cells #[.string p, .int .i64 k, .int .i64 z, .int .i64 m, .int .u64 t] 24)) := Ext.alloc w _
  have a4 := At.new w #[.string p, .int .i64 k, .int .i64 z, .int .i64 m, .int .u64 t] 24
  have f0 := a4.cell 0
  have f1 := a4.cell 1
  have f2 := a4.cell 2
  have f3 := a4.cell 3
  have f4 := a4.cell 4
  by_cases c1 : 200 < P
  · have d1 : decide ((200 : Int) < (P : Int)) = true := by simp; omega
    have d1' : decide (200 < P) = true := by simpa using c1
    clear c1
    go_enter Try.func5, Try.ntmps5
    go_wp2_with fail
    refine (awake_any _).mono ?_
    rintro e w' ⟨rfl, ex⟩
    go_wp2
    go_ret
    exact ⟨rfl, e1.trans ex⟩
  have d1 : decide ((200 : Int) < (P : Int)) = false := by simp; omega
  have d1' : decide (200 < P) = false := by simpa using c1
  clear c1
  by_cases c2 : 200 < L
  · have d2 : decide ((200 : Int) < (L : Int)) = true := by simp; omega
    have d2' : decide (200 < L) = true := by simpa using c2
    clear c2
    go_enter Try.func5, Try.ntmps5
    go_wp2_with fail
    refine (awake_any _).mono ?_
    rintro e w' ⟨rfl, ex⟩
    go_wp2
    go_ret
    exact ⟨rfl, e1.trans ex⟩
  have d2 : decide ((200 : Int) < (L : Int)) = false := by simp; omega
  have d2' : decide (200 < L) = false := by simpa using c2
  clear c2
  have e2 : Ext w (w.alloc (.cells #[.string p, .int .i64 2, .int .i64 z, .int .i64 m, .int .u64 t] 24)) := Ext.alloc w _
  have a7 := At.new w #[.string p, .int .i64 2, .int .i64 z, .int .i64 m, .int .u64 t] 24
  go_enter Try.func5, Try.ntmps5
  go_upto_region 4 with (fail)
  clear f0 f1 f2 f3 f4 e1 a4 d1 d2 d1' d2' hPi
  generalize w.alloc (.cells #[.string p, .int .i64 2, .int .i64 z, .int .i64 m, .int .u64 t] 24) = W2 at *
  have f0 := a7.cell 0
  have f1 := a7.cell 1
  have f2 := a7.cell 2
  have f3 := a7.cell 3
  have f4 := a7.cell 4
  have R := ref_dir p 2 z m t _ r W2 (hs.now e2) rfl
  unfold statC at R
  go_wp2_with fail
  refine R.mono ?_
  rintro e W3 ⟨v, rfl, e3, far⟩
  clear f0 f1 f2 f3 f4 R
  rw [if_pos rfl] at far
  obtain ⟨adv, capv, ev⟩ := far.now.len
  subst ev
  unfold refC
  replace a7 := at_ext a7 e3
  replace e2 := e2.trans e3
  have n3 := far.now
  clear e3 far
  rw [List.length_nil] at n3 ⊢
  have g1 := (At.new W3 #[.string p, .int .i64 2, .int .i64 z, .int .i64 m, .int .u64 t, .slice adv 0 capv] 29)
  have h0 := g1.cell 0
  have h1 := g1.cell 1
  have h2 := g1.cell 2
  have h3 := g1.cell 3
  have h4 := g1.cell 4
  have h5 := g1.cell 5
  have e4 : Ext W3 ((W3.alloc (.cells #[.string p, .int .i64 2, .int .i64 z, .int .i64 mt, .int .u64 st, .slice adv 0 capv] 29)).alloc (.cells #[.string p, .int .i64 2, .int .i64 z, .int .i64 m, .int .u64 t, .slice adv 0 capv] 29)) := (Ext.alloc _ _).trans (Ext.alloc _ _)
  have a9 : At ((W3.alloc (.cells #[.string p, .int .i64 2, .int .i64 z, .int .i64 mt, .int .u64 st, .slice adv 0 capv] 29)).alloc (.cells #[.string p, .int .i64 2, .int .i64 z, .int .i64 m, .int .u64 t, .slice adv 0 capv] 29)) W3.heap.size #[.string p, .int .i64 2, .int .i64 z, .int .i64 mt, .int .u64 st, .slice adv 0 capv] 29 := (At.new W3 _ _).alloc _
  have a10 : At ((W3.alloc (.cells #[.string p, .int .i64 2, .int .i64 z, .int .i64 mt, .int .u64 st, .slice adv 0 capv] 29)).alloc (.cells #[.string p, .int .i64 2, .int .i64 z, .int .i64 m, .int .u64 t, .slice adv 0 capv] 29)) (W3.heap.size + 1) #[.string p, .int .i64 2, .int .i64 z, .int .i64 m, .int .u64 t, .slice adv 0 capv] 29 := At.new1 W3 _ _ _
  go_upto_region 8 with (fail)
  clear h0 h1 h2 h3 h4 h5 g1
  replace a7 := at_ext a7 e4
  replace e2 := e2.trans e4
  replace n3 := n3.now e4
  clear e4
  generalize (W3.alloc (.cells #[.string p, .int .i64 2, .int .i64 z, .int .i64 mt, .int .u64 st, .slice adv 0 capv] 29)).alloc (.cells #[.string p, .int .i64 2, .int .i64 z, .int .i64 m, .int .u64 t, .slice adv 0 capv] 29) = W4 at *
  obtain ⟨b2, h2⟩ : ∃ b, (st == t) = b := ⟨_, rfl⟩
  obtain ⟨b3, h3⟩ : ∃ b, (mt == m) = b := ⟨_, rfl⟩
  have h2' : (t == st) = b2 := by rw [← h2, Bool.eq_iff_iff, beq_iff_eq, beq_iff_eq]; exact eq_comm
  have h3' : (m == mt) = b3 := by rw [← h3, Bool.eq_iff_iff, beq_iff_eq, beq_iff_eq]; exact eq_comm
  have q1 : clsL 2 z mt st [] true 2 z m t true r = ofDirL b3 b2 := by rw [← h2', ← h3']; rfl
  have Q1 := Lib.hid q1
  clear q1 h2' h3'
  have f0 := a7.cell 0
  have f1 := a7.cell 1
  have f2 := a7.cell 2
  have f3 := a7.cell 3
  have f4 := a7.cell 4
  have h0 := a9.cell 0
  have h1 := a9.cell 1
  have h2 := a9.cell 2
  have h3 := a9.cell 3
  have h4 := a9.cell 4
  have h5 := a9.cell 5
  have a12 := At.new W4 #[.string p, .int .i64 1, .int .i64 z, .int .i64 mt, .int .u64 st, .slice adv 0 capv] 29
  have e5 : Ext W4 (W4.alloc (.cells #[.string p, .int .i64 1, .int .i64 z, .int .i64 mt, .int .u64 st, .slice adv 0 capv] 29)) := Ext.alloc _ _
  have b9 := at_ext a9 e5
  have b10 := at_ext a10 e5
  have b7 := at_ext a7 e5
  have Hb := Lib.hid (And.intro b7 (And.intro b9 (And.intro b10 (And.intro a12 (And.intro (e2.trans e5) (n3.now e5))))))
  clear a12 e5 b9 b10 b7 a9 a10 a7 n3 e2
  cases b2 <;> cases b3 <;>
  · go_upto_region 12 with (fail)
    clear f0 f1 f2 f3 f4 h0 h1 h2 h3 h4 h5
    obtain ⟨a7, a9, a10, a12, e2, n3⟩ := Hb.out
    clear Hb
    generalize W4.alloc (.cells #[.string p, .int .i64 1, .int .i64 z, .int .i64 mt, .int .u64 st, .slice adv 0 capv] 29) = W5 at *
    have i0 := a10.cell 0
    have i1 := a10.cell 1
    have i2 := a10.cell 2
    have i3 := a10.cell 3
    have i4 := a10.cell 4
    have i5 := a10.cell 5
    have f0 := a7.cell 0
    have f1 := a7.cell 1
    have f2 := a7.cell 2
    have f3 := a7.cell 3
    have f4 := a7.cell 4
    have h0 := a9.cell 0
    have h1 := a9.cell 1
    have h2 := a9.cell 2
    have h3 := a9.cell 3
    have h4 := a9.cell 4
    have h5 := a9.cell 5
    have C := of_any p p 2 z mt st 2 z m t adv ad 0 capv L cap [] r true true W5 n3 (hs.now e2)
    rw [Q1.out] at C
    go_wp2_with fail
    refine C.mono ?_
    rintro e V0 ⟨rfl, x_⟩
    clear C f0 f1 f2 f3 f4 h0 h1 h2 h3 h4 h5 i0 i1 i2 i3 i4 i5
    replace a7 := at_ext a7 x_
    replace a9 := at_ext a9 x_
    replace a12 := at_ext a12 x_
    replace n3 := n3.now x_
    replace e2 := e2.trans x_
    clear x_
    have f0 := a7.cell 0
    have f1 := a7.cell 1
    have f2 := a7.cell 2
    have f3 := a7.cell 3
    have f4 := a7.cell 4
    have h0 := a12.cell 0
    have h1 := a12.cell 1
    have h2 := a12.cell 2
    have h3 := a12.cell 3
    have h4 := a12.cell 4
    have h5 := a12.cell 5
    have C := of_any p p 1 z mt st 2 z m t adv ad 0 capv L cap [] r true true V0 n3 (hs.now e2)
    rw [show clsL 1 z mt st [] true 2 z m t true r = 7 from rfl] at C
    go_wp2_with fail
    refine C.mono ?_
    rintro e V1 ⟨rfl, x_⟩
    clear C f0 f1 f2 f3 f4 h0 h1 h2 h3 h4 h5
    replace a7 := at_ext a7 x_
    replace a9 := at_ext a9 x_
    replace a12 := at_ext a12 x_
    replace n3 := n3.now x_
    replace e2 := e2.trans x_
    clear x_
    have f0 := a7.cell 0
    have f1 := a7.cell 1
    have f2 := a7.cell 2
    have f3 := a7.cell 3
    have f4 := a7.cell 4
    have h0 := a9.cell 0
    have h1 := a9.cell 1
    have h2 := a9.cell 2
    have h3 := a9.cell 3
    have h4 := a9.cell 4
    have h5 := a9.cell 5
    have C := of_any p p 2 z mt st 2 z m t adv ad 0 capv L cap [] r true false V1 n3 (hs.now e2)
    rw [show clsL 2 z mt st [] true 2 z m t false r = 3 from rfl] at C
    go_wp2_with fail
    refine C.mono ?_
    rintro e V2 ⟨rfl, x_⟩
    clear C f0 f1 f2 f3 f4 h0 h1 h2 h3 h4 h5
    replace a7 := at_ext a7 x_
    replace a9 := at_ext a9 x_
    replace a12 := at_ext a12 x_
    replace n3 := n3.now x_
    replace e2 := e2.trans x_
    clear x_
    have f0 := a7.cell 0
    have f1 := a7.cell 1
    have f2 := a7.cell 2
    have f3 := a7.cell 3
    have f4 := a7.cell 4
    have h0 := a9.cell 0
    have h1 := a9.cell 1
    have h2 := a9.cell 2
    have h3 := a9.cell 3
    have h4 := a9.cell 4
    have h5 := a9.cell 5
    have C := of_any p p 2 z mt st 2 z m t adv ad 0 capv L cap [] r false true V2 n3 (hs.now e2)
    rw [show clsL 2 z mt st [] false 2 z m t true r = 2 from rfl] at C
    go_wp2_with fail
    refine C.mono ?_
    rintro e V3 ⟨rfl, x_⟩
    clear C f0 f1 f2 f3 f4 h0 h1 h2 h3 h4 h5
    replace a7 := at_ext a7 x_
    replace a9 := at_ext a9 x_
    replace a12 := at_ext a12 x_
    replace n3 := n3.now x_
    replace e2 := e2.trans x_
    clear x_
    have f0 := a7.cell 0
    have f1 := a7.cell 1
    have f2 := a7.cell 2
    have f3 := a7.cell 3
    have f4 := a7.cell 4
    have h0 := a9.cell 0
    have h1 := a9.cell 1
    have h2 := a9.cell 2
    have h3 := a9.cell 3
    have h4 := a9.cell 4
    have h5 := a9.cell 5
    have C := of_any p p 2 z mt st 2 z m t adv ad 0 capv L cap [] r false false V3 n3 (hs.now e2)
    rw [show clsL 2 z mt st [] false 2 z m t false r = 0 from rfl] at C
    go_wp2_with fail
    refine C.mono ?_
    rintro e V4 ⟨rfl, x_⟩
    clear C f0 f1 f2 f3 f4 h0 h1 h2 h3 h4 h5
    replace a7 := at_ext a7 x_
    replace a9 := at_ext a9 x_
    replace a12 := at_ext a12 x_
    replace n3 := n3.now x_
    replace e2 := e2.trans x_
    clear x_
    go_wp2_with fail
    refine (awake_any V4).mono ?_
    rintro e w' ⟨rfl, ex⟩
    go_wp2
    go_ret
    exact ⟨rfl, e2.trans ex⟩
theorem dirs_all (v : Value) (p : ByteArray) (k z m t st mt : Int) (r : List Int) (w : World) (_ : p.size ≤ 9223372036854775807) (_ : -9223372036854775808 ≤ mt ∧ mt ≤ 9223372036854775807) (hs : Src w v r w.heap.size) (_ : Byt r) (_ : r.length ≤ 9223372036854775807) :
    Calls Try.prog 5 #[.agg #[.string p, .int .i64 k, .int .i64 z, .int .i64 m, .int .u64 t], .int .u64 st, .int .i64 mt, v] w fun e w' => e = .returned (.bool true) ∧ Ext w w' :=
  dirs_any v p k z m t st mt r w hs
end Go.Proofs.Ytaiadcekmooimaa
